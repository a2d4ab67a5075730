/-
  The laws of what comes back, and of what is left: what the engine says of their texts.
-/
import Derived.Test.YtdhbnidobpkkfaaLc
import Derived.Test.YtdhbnidobpkkfaaW14
import Derived.Test.YtdhbnidobpkkfaaM9
namespace Go.Proofs.Ytdhbnidobpkkfaa
open Go.W
open Go.RowKit (Below)

def BackC : Cfg := ⟨tab, [(9, AddF), (11, SubF), (13, MulF), (15, CmpF), (21, wakesF)], 124, []⟩
theorem BackOk : CfgOk Try.prog BackC (bodyOf Try.f5) := ⟨mixed, tabOk, sums_cons Add_sum (sums_cons Sub_sum (sums_cons Mul_sum (sums_cons Cmp_sum (sums_cons wakes_sum sums_nil)))), noL⟩
theorem Back_ev (A B C : Nat) : fnS BackC 100 Try.f5 (bodyOf Try.f5) [num A, num B, num C] = BackT (num A) (num B) (num C) := by kernel_rfl
theorem Back_calls {A B C : Nat} (hA : A < 2 ^ 256) (hB : B < 2 ^ 256) (hC : C < 2 ^ 256) (w : World) : Calls Try.prog 5 #[num A, num B, num C] w fun e w' => e = .returned (.bool true) ∧ Below w.heap.size w w' := by
  refine fn_sound BackOk Try.func5 (by kernel_rfl) rfl (args := [num A, num B, num C]) (fuel := 100) (by show 3 ≤ Try.f5.ntmps; decide +kernel) rfl ?_ rfl w
  rw [Back_ev, BackT_eq hA hB hC]; rfl

def RestC : Cfg := ⟨tab, [(9, AddF), (13, MulF), (15, CmpF), (22, ModF), (21, wakesF)], 128, []⟩
theorem RestOk : CfgOk Try.prog RestC (bodyOf Try.f7) := ⟨mixed, tabOk, sums_cons Add_sum (sums_cons Mul_sum (sums_cons Cmp_sum (sums_cons Mod_sum (sums_cons wakes_sum sums_nil)))), noL⟩
theorem Rest_ev (A B C : Nat) : fnS RestC 100 Try.f7 (bodyOf Try.f7) [num A, num B, num C] = RestT (num A) (num B) (num C) (num 0) := by kernel_rfl
theorem Rest_calls {A B C : Nat} (hA : A < 2 ^ 256) (hB : B < 2 ^ 256) (hC : C < 2 ^ 256) (w : World) : Calls Try.prog 7 #[num A, num B, num C] w fun e w' => e = .returned (.bool true) ∧ Below w.heap.size w w' := by
  refine fn_sound RestOk Try.func7 (by kernel_rfl) rfl (args := [num A, num B, num C]) (fuel := 100) (by show 3 ≤ Try.f7.ntmps; decide +kernel) rfl ?_ rfl w
  rw [Rest_ev, RestT_eq hA hB hC]; rfl

end Go.Proofs.Ytdhbnidobpkkfaa
