/-
  DrawParts.
-/
import Derived.Test.YteenpdjanlcipaaDoorSd
import Derived.Test.YteenpdjanlcipaaDoorSg
namespace Go.Proofs.YteenpdjanlcipaaDoor
set_option maxRecDepth 100000
open Go.W
open Go.RowKit (Below)

noncomputable def paG : Sums := [(9, HvF), (25, LjF 5), (27, TwnF 5), (24, SuF), (29, OfF), (16, PrimeF), (28, ModF), (11, ScF), (14, WkF)]
theorem paG_ok : SumsOk Tryd.prog paG := sums_consM hv_msum (sums_consM lj_msum (sums_consM twn_msum (sums_consM su_msum (sums_cons Of_sum (sums_cons Prime_sum (sums_cons Mod_sum (sums_consM sc_msum (sums_cons wk5_sum sums_nil))))))))
noncomputable def paC : Cfg := ⟨tab, paG, 65, []⟩
theorem paOk : CfgOk Tryd.prog paC (bodyOf Tryd.f8) := ⟨mixed, tabOk, paG_ok, noL⟩
def paK (m k : Nat) : Bool := true && (kbk m && (kbk k && true)) && true
noncomputable def paH (L : Nat) (J : Nat → List Value) (b : Int) : S8 := shN (L + 1) (bN (sgF (L + 1) (appF L (twF (sgF L J)) (lstF [.int .u8 b] 0 1))))
noncomputable def paT (kb kb2 : Bool) (L : Nat) (J J2 : Nat → List Value) : Option Value :=
  req (kb && Nat.ble L 1000000) (req (kbk L && szOk L 1) (req (szOk (L + 1) 1) (req (Nat.beq L L && true && true) (req (okN (L + 1)) (req (kbk L && szOk L 1) (req (szOk (L + 1) 1) (req (Nat.beq L L && true && true) (req (okN (L + 1))
    (req (isB32 (tdV (paH L J 0))) (req (isB32 (tdV (paH L J 1))) (req (isNum (num (unbytes (tdV (paH L J 0)))) && isNum (num (unbytes (tdV (paH L J 1)))) && isNum (num (primeN 1))) (req kb2
      (bif modE (unnum (num (primeN 1))) == 0 then (bif (scS L J2).2 == 0 then (bif eqV (num (scS L J2).1) (num (modN (unnum (num (unbytes (tdV (paH L J 0))))) (unnum (num (unbytes (tdV (paH L J 1))))) (unnum (num (primeN 1))))) then some (.bool true) else some (.bool false)) else some (.bool false)) else some (.bool false))))))))))))))
theorem pa_ev (s : ByteArray) (m : Nat) (f : Nat → List Value) (k : Nat) (h : Nat → List Value) (es : Nat → Nat) : fnA paC 60 Tryd.f8 (bodyOf Tryd.f8) (cArgs [.pl (.string s), .sl kB m f, .sl kB k h] 0) (cMem es [.pl (.string s), .sl kB m f, .sl kB k h] 0) 0 =
    req (paK m k) (bif hvB s 2 (twoG m (sgF m f) k (sgF k h)) then some (.bool true) else paT (paK m k) (paK m k && Nat.ble s.size 1000000 && true) (jl s (twoG m (sgF m f) k (sgF k h)) 2) (lF s (twoG m (sgF m f) k (sgF k h)) 2) (jF s (twoG m (sgF m f) k (sgF k h)) 2)) := by kernel_rfl

theorem paH_eq {L : Nat} {J J2 : Nat → List Value} (h : ∀ j, bI J j = bI J2 j) (b : Int) : paH L J b = sum1 L J2 b := by
  unfold paH sum1
  refine shN_congr fun j hj => bN_congr ?_
  rw [bI_sg, bI_app, bI_app]
  by_cases hj2 : j < L
  · rw [if_pos hj2, if_pos hj2, bI_tw, bI_sg, h j]
  · rw [if_neg hj2, if_neg hj2, bI_sg]
theorem paT_eq {L : Nat} {J J2 : Nat → List Value} (hL : L ≤ 65000) (h : ∀ j, bI J j = bI J2 j) : paT true true L J J2 = some (.bool true) := by
  unfold paT
  have hS : scS L J2 = (modN (unbytes (tdV (sum1 L J2 0))) (unbytes (tdV (sum1 L J2 1))) (primeN 1), 0) := by
    unfold scS scN
    rw [hide_eq, if_pos (by omega), hide_eq]
  have hp : primeN 1 < 2 ^ 256 := by decide +kernel
  rw [ble_of (show L ≤ 1000000 by omega), req_true (b := true && true) rfl, kbk_true, szOk_small (by omega), req_true (b := true && true) rfl, szOk_small (by omega), req_true rfl, Nat.beq_refl, req_true (b := true && true && true) rfl, okN_true (by omega), req_true rfl, req_true (b := true && true) rfl, req_true rfl, req_true (b := true && true && true) rfl, req_true rfl,
    isB32_td, isB32_td, req_true rfl, req_true rfl, isNum_num, isNum_num, isNum_num, req_true (b := true && true && true) rfl, req_true rfl, hS, unnum_lt (unbytes_lt _), unnum_lt (unbytes_lt _), unnum_lt hp, paH_eq h, paH_eq h, eqV_num, decide_eq_true rfl]
  rw [show (modE (primeN 1) == 0) = true from by decide +kernel]
  rfl
theorem pa_calls {s : ByteArray} {m : Nat} {f : Nat → List Value} {k : Nat} {h : Nat → List Value} {v u : Value} {W : World} (hg : GOk (lay Tryd.prog) W) (hv : SrcW W kB m f v) (hu : SrcW W kB k h u) :
    Calls Tryd.prog 8 #[.string s, v, u] W fun e W' => e = .returned (.bool true) ∧ Below W.heap.size W W' :=
  law_sound (c := bodyOf Tryd.f8) (fuel := 60) (next := 0) (A := [.pl (.string s), .sl kB m f, .sl kB k h]) (args' := [.string s, v, u]) Tryd.func8 (by kernel_rfl) ⟨rfl, rfl, hv, hu, trivial⟩ hg
    (by show 3 ≤ Tryd.f8.ntmps; decide +kernel) rfl nofun
    fun es => ⟨paC, paOk, rfl, (pa_ev s m f k h es).trans (by
      have hK : paK m k = true := by unfold paK; rw [kbk_true, kbk_true]; rfl
      rw [hK, req_true rfl]
      cases hb : hvB s 2 (twoG m (sgF m f) k (sgF k h)) with
      | true => rfl
      | false =>
        obtain ⟨h1, h2, h3⟩ := hvB_iff.1 hb
        have hl := hv_len (n := 2) h1 h3
        rw [cond_false, ble_of (show s.size ≤ 1000000 by omega), show (true && true && true) = true from rfl]
        exact paT_eq (by omega) (fun j => lF_eq s _ 2 j))⟩

end Go.Proofs.YteenpdjanlcipaaDoor
