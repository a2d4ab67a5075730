/-
  The document's own answers, package limb: lengths.
-/
import Derived.Test.YtdhbnidobpkkfaaLe
namespace Go.Proofs.Ytdhbnidobpkkfaa
open Go.W
open Go.RowKit (Below)

def lenNt : List Nat := [1, 2, 3]
def lenNi : List Nat := [0]
def lenSt (A : Nat) (v i : Int) : St := ⟨[(1, ptr 0), (2, i64 v), (3, i64 i)], [(0, ⟨[u64 (dig A 0), u64 (dig A 1), u64 (dig A 2), u64 (dig A 3)], 24, true⟩)], 3⟩
def lenC0 : Cfg := ⟨tab, [(18, BitF)], 14, []⟩
theorem lenOk0 : CfgOk Try.prog lenC0 (bodyOf Try.f20) := ⟨mixed, tabOk, sums_cons BitR_sum sums_nil, noL⟩
theorem len_at : codeAt [1, 0, 1, 0] (bodyOf Try.f20) = some (.loop (loopAt [1, 0, 1, 0] (bodyOf Try.f20))) := by kernel_rfl
theorem len_r (A : Nat) (i : Int) : roundS lenC0 40 [1, 0, 1, 0, 0] (loopAt [1, 0, 1, 0] (bodyOf Try.f20)) lenNt lenNi 3 lenNt lenNi 3 (lenSt A 0 i) =
    bif decide (i ≥ 0) then (req (isNum (num A)) <| bif bitI (unnum (num A)) i == 1 then some (.ret, lenSt A (IntKind.i64.wrap (i + 1)) i) else some (.normal, lenSt A 0 (IntKind.i64.wrap (i - 1))))
    else some (.exit 0, lenSt A 0 i) := by kernel_rfl

def lenC (A : Nat) (e : Exit) (v i : Int) : Cfg := ⟨tab, [], 14, [([1, 0, 1, 0], atSt lenNt lenNi 3 (lenSt A 0 255) e (lenSt A v i))]⟩
theorem lenR_ev (A : Nat) (v i : Int) : fnS (lenC A .ret v i) 60 Try.f20 (bodyOf Try.f20) [num A] =
    req (stEq (lenSt A 0 255) (lenSt A 0 255)) (some (i64 v)) := by kernel_rfl
theorem lenR_ev0 (A : Nat) (v i : Int) : fnS (lenC A (.exit 0) v i) 60 Try.f20 (bodyOf Try.f20) [num A] =
    req (stEq (lenSt A 0 255) (lenSt A 0 255)) (some (i64 0)) := by kernel_rfl

theorem LenR_sum : Sum Try.prog 20 LenF := by
  intro args v h
  obtain ⟨A, hA, rfl, rfl⟩ := arg1 (f := fun x => i64 (bitLen (unnum x) : Int)) h
  rw [unnum_lt hA]
  have hb := bitLen_lt hA
  have step : ∀ k, k < 256 - bitLen A → roundS lenC0 40 [1, 0, 1, 0, 0] (loopAt [1, 0, 1, 0] (bodyOf Try.f20)) lenNt lenNi 3 lenNt lenNi 3 (lenSt A 0 (255 - (k : Int))) = some (.normal, lenSt A 0 (255 - ((k + 1 : Nat) : Int))) := by
    intro k hk
    refine (len_r _ _).trans ?_
    have hi : (255 - (k : Int)) = ((255 - k : Nat) : Int) := by omega
    rw [decide_eq_true (by omega), cond_true, isNum_num, req_true rfl, unnum_lt hA, hi, bitI_nat (by omega), bit_above (by omega), wrap_i64 (n := ((255 - k : Nat) : Int) - 1) (by omega)]
    show some (Exit.normal, lenSt A 0 (((255 - k : Nat) : Int) - 1)) = _
    rw [show (((255 - k : Nat) : Int) - 1) = 255 - ((k + 1 : Nat) : Int) from by omega]
  by_cases h0 : A = 0
  · have hb0 : bitLen A = 0 := by rw [h0]; rfl
    have hL : LoopOk Try.prog 14 (loopAt [1, 0, 1, 0] (bodyOf Try.f20)) (atSt lenNt lenNi 3 (lenSt A 0 255) (.exit 0) (lenSt A 0 (-1))) := by
      refine atSt_ok fun w0 R a w hrel => ?_
      refine loop_rounds (R := R) (C := lenC0) lenOk0 len_at (m := 40) (nt := lenNt) (ni := lenNi) (et := lenNt) (ei := lenNi) (nx := 3) (ex := 3) (e := .exit 0) (sf := lenSt A 0 (-1))
        (fun k => lenSt A 0 (255 - (k : Int))) 256 (by intro h; cases h) (fun k hk => step k (by omega)) ?_ hrel
      exact (len_r _ _).trans rfl
    have hOk : CfgOk Try.prog (lenC A (.exit 0) 0 (-1)) (bodyOf Try.f20) := ⟨mixed, tabOk, sums_nil, oneL hL⟩
    refine sum_at hOk Try.func20 (by kernel_rfl) (by kernel_rfl) rfl (fuel := 60) (by show 1 ≤ Try.f20.ntmps; decide +kernel) ?_ rfl
    rw [lenR_ev0, req_true (stEq_refl rfl), hb0]; rfl
  · have ht := bit_top h0
    have hpos : bitLen A ≠ 0 := by
      intro h2
      have := (bitLen_spec A).1
      rw [h2] at this; simp at this; exact h0 this
    have hL : LoopOk Try.prog 14 (loopAt [1, 0, 1, 0] (bodyOf Try.f20)) (atSt lenNt lenNi 3 (lenSt A 0 255) .ret (lenSt A (bitLen A : Int) ((bitLen A : Int) - 1))) := by
      refine atSt_ok fun w0 R a w hrel => ?_
      refine loop_rounds (R := R) (C := lenC0) lenOk0 len_at (m := 40) (nt := lenNt) (ni := lenNi) (et := lenNt) (ei := lenNi) (nx := 3) (ex := 3) (e := .ret) (sf := lenSt A (bitLen A : Int) ((bitLen A : Int) - 1))
        (fun k => lenSt A 0 (255 - (k : Int))) (256 - bitLen A) (by intro h; cases h) step ?_ hrel
      refine (len_r _ _).trans ?_
      have hi : (255 - ((256 - bitLen A : Nat) : Int)) = ((bitLen A - 1 : Nat) : Int) := by omega
      rw [hi, decide_eq_true (by omega), cond_true, isNum_num, req_true rfl, unnum_lt hA, bitI_nat (by omega), ht, wrap_i64 (n := ((bitLen A - 1 : Nat) : Int) + 1) (by omega)]
      show some (Exit.ret, lenSt A (((bitLen A - 1 : Nat) : Int) + 1) ((bitLen A - 1 : Nat) : Int)) = _
      rw [show (((bitLen A - 1 : Nat) : Int) + 1) = (bitLen A : Int) from by omega, show ((bitLen A - 1 : Nat) : Int) = (bitLen A : Int) - 1 from by omega]
    have hOk : CfgOk Try.prog (lenC A .ret (bitLen A : Int) ((bitLen A : Int) - 1)) (bodyOf Try.f20) := ⟨mixed, tabOk, sums_nil, oneL hL⟩
    refine sum_at hOk Try.func20 (by kernel_rfl) (by kernel_rfl) rfl (fuel := 60) (by show 1 ≤ Try.f20.ntmps; decide +kernel) ?_ rfl
    rw [lenR_ev, req_true (stEq_refl rfl)]

end Go.Proofs.Ytdhbnidobpkkfaa
