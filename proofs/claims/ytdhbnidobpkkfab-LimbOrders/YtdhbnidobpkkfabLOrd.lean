/-
  The law of orders: what the engine says of its text.
-/
import Derived.Test.YtdhbnidobpkkfabSa
import Derived.Test.YtdhbnidobpkkfabEb
namespace Go.Proofs.Ytdhbnidobpkkfab
open Go.W
open Go.RowKit (Below)

def ordNt : List Nat := [3, 4, 5, 6, 7, 8, 9, 10]
def ordNi : List Nat := [0, 1, 2, 8, 9]
def cellsN (A : Nat) : List Value := [u64 (dig A 0), u64 (dig A 1), u64 (dig A 2), u64 (dig A 3)]
def ordSt (A B C X Y : Nat) (w i : Int) : St :=
  ⟨[(3, ptr 0), (4, ptr 1), (5, ptr 2), (6, .bool false), (7, ptr 8), (8, ptr 9), (9, i64 w), (10, i64 i)],
   [(0, ⟨cellsN A, 24, true⟩), (1, ⟨cellsN B, 24, true⟩), (2, ⟨cellsN C, 24, true⟩), (8, ⟨bytesL 32 X, 25, true⟩), (9, ⟨bytesL 32 Y, 25, true⟩)], 14⟩
def ordC0 : Cfg := ⟨tab, [], 66, []⟩
theorem ordOk0 : CfgOk Try.prog ordC0 (bodyOf Try.f3) := ⟨mixed, tabOk, sums_nil, noL⟩
theorem ord_at : codeAt [1, 1, 1, 0, 1, 0] (bodyOf Try.f3) = some (.loop (loopAt [1, 1, 1, 0, 1, 0] (bodyOf Try.f3))) := by kernel_rfl

def twoB (X Y : Nat) (i : Int) (op : BinOp) (k : Bool → Option (Exit × St)) : Option (Exit × St) :=
  bif inR i 32 then oK (bytesL 32 X)[0 + i.toNat * 1]? (fun vx => bif inR i 32 then oK (bytesL 32 Y)[0 + i.toNat * 1]? (fun vy => binK tab op 5 vx vy (fun v => boolK v k none) none) none else none) none else none
def ordRound (A B C X Y : Nat) (w i : Int) : Option (Exit × St) :=
  bif decide (i ≥ 0) then twoB X Y i .lss (fun b => bif b then some (.normal, ordSt A B C X Y (-1) (IntKind.i64.wrap (i - 1))) else
    twoB X Y i .gtr (fun b => bif b then some (.normal, ordSt A B C X Y 1 (IntKind.i64.wrap (i - 1))) else some (.normal, ordSt A B C X Y w (IntKind.i64.wrap (i - 1)))))
  else some (.exit 0, ordSt A B C X Y w i)
theorem ord_r (A B C X Y : Nat) (w i : Int) : roundS ordC0 40 [1, 1, 1, 0, 1, 0, 0] (loopAt [1, 1, 1, 0, 1, 0] (bodyOf Try.f3)) ordNt ordNi 14 ordNt ordNi 14 (ordSt A B C X Y w i) = ordRound A B C X Y w i := by kernel_rfl

theorem twoB_eq {X Y k : Nat} (hk : k < 32) (op : BinOp) (K : Bool → Option (Exit × St)) : twoB X Y (31 - (k : Int)) op K = binK tab op 5 (u8 (X / 256 ^ k % 256)) (u8 (Y / 256 ^ k % 256)) (fun v => boolK v K none) none := by
  unfold twoB
  have hin : inR (31 - (k : Int)) 32 = true := by simp only [inR, Bool.and_eq_true, decide_eq_true_eq]; omega
  rw [hin, show (31 - (k : Int)).toNat = 32 - 1 - k from by omega, Nat.zero_add, Nat.mul_one, bytesL_get 32 X k hk, bytesL_get 32 Y k hk]
  rfl

theorem ordRound_eq {A B C X Y k : Nat} (hk : k < 32) : ordRound A B C X Y (ordW X Y k) (31 - (k : Int)) = some (.normal, ordSt A B C X Y (ordW X Y (k + 1)) (31 - ((k + 1 : Nat) : Int))) := by
  unfold ordRound
  rw [decide_eq_true (by omega), cond_true, twoB_eq hk, twoB_eq hk, wrap_i64 (by omega), show (31 - (k : Int) - 1) = 31 - ((k + 1 : Nat) : Int) from by omega, ordW_succ]
  generalize X / 256 ^ k % 256 = x
  generalize Y / 256 ^ k % 256 = y
  show (bif decide ((x : Int) < (y : Int)) then _ else (bif decide ((x : Int) > (y : Int)) then _ else _)) = _
  by_cases h1 : x < y
  · rw [decide_eq_true (by omega), if_pos h1]; rfl
  · rw [decide_eq_false (by omega), if_neg h1, cond_false]
    by_cases h2 : y < x
    · rw [decide_eq_true (by omega), if_pos h2]; rfl
    · rw [decide_eq_false (by omega), if_neg h2]; rfl

def OrdC (A B C X Y : Nat) (w : Int) : Cfg := ⟨tab, [(9, BytesF), (10, CmpF), (11, LenF), (12, wakesF)], 66,
  [([1, 1, 1, 0, 1, 0], atSt ordNt ordNi 14 (ordSt A B C X Y 0 31) (.exit 0) (ordSt A B C X Y w (-1)))]⟩
theorem Ord_ev (A B C : Nat) (w : Int) : fnS (OrdC A B C (unnum (num A)) (unnum (num B)) w) 100 Try.f3 (bodyOf Try.f3) [num A, num B, num C] =
    req (isNum (num A)) (req (isNum (num B)) (req (stEq (ordSt A B C (unnum (num A)) (unnum (num B)) 0 31) (ordSt A B C (unnum (num A)) (unnum (num B)) 0 31)) (OrdT (num A) (num B) (num C) w))) := by kernel_rfl
theorem ordSt_ok (A B C X Y : Nat) (w i : Int) : stOk (ordSt A B C X Y w i) = true := by kernel_rfl

theorem Ord_calls {A B C : Nat} (hA : A < 2 ^ 256) (hB : B < 2 ^ 256) (hC : C < 2 ^ 256) (w : World) : Calls Try.prog 3 #[num A, num B, num C] w fun e w' => e = .returned (.bool true) ∧ Below w.heap.size w w' := by
  have hL : LoopOk Try.prog 66 (loopAt [1, 1, 1, 0, 1, 0] (bodyOf Try.f3)) (atSt ordNt ordNi 14 (ordSt A B C A B 0 31) (.exit 0) (ordSt A B C A B (cmpI A B) (-1))) := by
    refine atSt_ok fun w0 R a w hrel => ?_
    refine loop_rounds (R := R) (C := ordC0) ordOk0 ord_at (m := 40) (nt := ordNt) (ni := ordNi) (et := ordNt) (ei := ordNi) (nx := 14) (ex := 14) (e := .exit 0) (sf := ordSt A B C A B (cmpI A B) (-1))
      (fun k => ordSt A B C A B (ordW A B k) (31 - (k : Int))) 32 (by intro h; cases h) ?_ ?_ ?_
    · intro k hk
      exact (ord_r _ _ _ _ _ _ _).trans (ordRound_eq hk)
    · refine (ord_r _ _ _ _ _ _ _).trans ?_
      rw [ordW_last hA hB]; rfl
    · have : ordSt A B C A B (ordW A B 0) (31 - ((0 : Nat) : Int)) = ordSt A B C A B 0 31 := by rw [ordW_zero]; rfl
      rw [this]; exact hrel
  have hOk : CfgOk Try.prog (OrdC A B C (unnum (num A)) (unnum (num B)) (cmpI A B)) (bodyOf Try.f3) := by
    rw [unnum_lt hA, unnum_lt hB]
    exact ⟨mixed, tabOk, sums_cons Bytes_sum (sums_cons Cmp_sum (sums_cons Len_sum (sums_cons wakes_sum sums_nil))), oneL hL⟩
  refine fn_sound hOk Try.func3 (by kernel_rfl) rfl (args := [num A, num B, num C]) (fuel := 100) (by show 3 ≤ Try.f3.ntmps; decide +kernel) rfl ?_ rfl w
  rw [Ord_ev, isNum_num, isNum_num, req_true rfl, req_true rfl, req_true (stEq_refl (ordSt_ok _ _ _ _ _ _ _)), OrdT_eq hA hB hC]; rfl

end Go.Proofs.Ytdhbnidobpkkfab
