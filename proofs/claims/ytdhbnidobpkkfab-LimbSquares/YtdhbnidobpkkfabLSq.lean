/-
  The law of squares: what the engine says of its text.
-/
import Derived.Test.YtdhbnidobpkkfabSa
import Derived.Test.YtdhbnidobpkkfabEb
namespace Go.Proofs.Ytdhbnidobpkkfab
open Go.W
open Go.RowKit (Below)

def SqC : Cfg := ⟨tab, [(13, AddF), (14, MulF), (12, wakesF)], 115, []⟩
theorem SqOk : CfgOk Try.prog SqC (bodyOf Try.f4) := ⟨mixed, tabOk, sums_cons Add_sum (sums_cons Mul_sum (sums_cons wakes_sum sums_nil)), noL⟩
theorem Sq_ev (a0 a1 a2 a3 b0 b1 b2 b3 : Nat) : fnS SqC 100 Try.f4 (bodyOf Try.f4) [numd a0 a1 a2 a3, numd b0 b1 b2 b3] = SqT (sqA a0 a1 a2 a3) (sqA b0 b1 b2 b3) := by kernel_rfl
theorem Sq_calls {A B : Nat} (hA : A < 2 ^ 256) (hB : B < 2 ^ 256) (w : World) : Calls Try.prog 4 #[num A, num B] w fun e w' => e = .returned (.bool true) ∧ Below w.heap.size w w' := by
  refine fn_sound SqOk Try.func4 (by kernel_rfl) rfl (args := [num A, num B]) (fuel := 100) (by show 2 ≤ Try.f4.ntmps; decide +kernel) rfl ?_ rfl w
  obtain ⟨a0, a1, a2, a3, h0, h1, h2, h3, _, e2⟩ := digits hA
  obtain ⟨b0, b1, b2, b3, k0, k1, k2, k3, _, e4⟩ := digits hB
  obtain ⟨A', hA', e5⟩ := sqA_num h0 h1 h2 h3
  obtain ⟨B', hB', e6⟩ := sqA_num k0 k1 k2 k3
  rw [e2, e4, Sq_ev, e5, e6, SqT_eq hA' hB']; rfl

end Go.Proofs.Ytdhbnidobpkkfab
