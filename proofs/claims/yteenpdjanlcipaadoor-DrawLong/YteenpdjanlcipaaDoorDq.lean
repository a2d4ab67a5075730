/-
  DrawLong.
-/
import Derived.Test.YteenpdjanlcipaaDoorSg
import Derived.Test.YteenpdjanlcipaaDoorM50
namespace Go.Proofs.YteenpdjanlcipaaDoor
set_option maxRecDepth 100000
open Go.W
open Go.RowKit (Below)

noncomputable def dlG : Sums := [(11, ScF), (17, DpF), (14, WkF)]
theorem dlG_ok : SumsOk Tryd.prog dlG := sums_consM sc_msum (sums_consM dp_msum (sums_cons wk5_sum sums_nil))
noncomputable def dlC : Cfg := ⟨tab, dlG, 72, []⟩
theorem dlOk : CfgOk Tryd.prog dlC (bodyOf Tryd.f6) := ⟨mixed, tabOk, dlG_ok, noL⟩
def dlM (X : Int) : Nat := (IntKind.i64.wrap (65528 + X)).toNat
def dlZ (X : Int) : Nat → List Value := sgF (dlM X) z8F
def dlA (X : Int) : Bool := decide (IntKind.i64.wrap (65528 + X) = IntKind.i64.wrap (65528 + X)) && decide (0 ≤ IntKind.i64.wrap (65528 + X)) && szOk (dlM X) 1 && true && true && true && true && true
noncomputable def dlU (X : Int) : Option Value := dlE X (scS (jl e0B (oneG (dlM X) (dlZ X)) 1) (jF e0B (oneG (dlM X) (dlZ X)) 1)).2 (ptS e0B (dlM X) (dlZ X)).2.2 (scS (jl e0B (oneG (dlM X) (dlZ X)) 1) (jF e0B (oneG (dlM X) (dlZ X)) 1)).1
noncomputable def dlV (X : Int) (s : ByteArray) : Option Value := dlE X (scS (jl (s ++ z4B) noG 0) (jF (s ++ z4B) noG 0)).2 (ptS s 0 (fun _ => [])).2.2 (scS (jl (s ++ z4B) noG 0) (jF (s ++ z4B) noG 0)).1
theorem dl_ev (X : Int) (b : Bool) (es : Nat → Nat) : fnA dlC 60 Tryd.f6 (bodyOf Tryd.f6) (cArgs [.pl (.int .i64 X), .pl (.bool b)] 0) (cMem es [.pl (.int .i64 X), .pl (.bool b)] 0) 0 =
    bif decide (X < -1) then some (.bool true) else bif decide (X > 1) then some (.bool true) else
      req (dlA X) (req ((((kbk (dlM X) && true) && true) && true) && true) (req (kbk (dlM X) && true) (bif b then
        req (Nat.ble (dlM X) (dlM X) && true) (req (Nat.ble ((rowS (dlM X) (dlZ X)).size + 4) 9223372036854775807) (req (Nat.ble (rowS (dlM X) (dlZ X) ++ z4B).size 1000000 && true) (req (Nat.ble (dlM X) (dlM X) && true) (req (Nat.ble (rowS (dlM X) (dlZ X)).size 1000000) (dlV X (rowS (dlM X) (dlZ X)))))))
        else dlU X))) := by kernel_rfl
theorem dlZ_zero (X : Int) (j : Nat) : bI (dlZ X) j = 0 := by unfold dlZ; rw [bI_sg]; rfl
theorem dl_part {X : Int} (h1 : -1 ≤ X) (h2 : X ≤ 1) : dlU X = some (.bool true) := by
  unfold dlU
  have hM : ∀ Y : Int, Y = X → (dlM X : Int) = 65528 + Y := fun Y hY => by unfold dlM; rw [wrap_i64 (by omega)]; omega
  have hm := hM X rfl
  have hl : jl e0B (oneG (dlM X) (dlZ X)) 1 = dlM X + 8 := jl_part _ _
  by_cases h : 0 < X
  · rw [hl, sc_over (by omega), pt_over (by rw [hl]; omega)]
    exact dlE_over h
  · have hf : (ptS e0B (dlM X) (dlZ X)).2.2 = 0 := by
      by_cases h0 : X = 0
      · have e : dlM X = 65528 := by omega
        exact pt_fits (L := 65536) (J := jA 65528) (c := 2) (by rw [hl]; omega) (by omega) (fun j _ => by rw [jF_part _ (dlZ_zero X), e]; rfl) lga_smC (by omega) lga_pt
      · have e : dlM X = 65527 := by omega
        exact pt_fits (L := 65535) (J := jA 65527) (c := 3) (by rw [hl]; omega) (by omega) (fun j _ => by rw [jF_part _ (dlZ_zero X), e]; rfl) lgb_smC (by omega) lgb_pt
    rw [hl, sc_fits (by omega), hf]
    exact dlE_fits (by omega) _
theorem dl_tag {X : Int} (h1 : -1 ≤ X) (h2 : X ≤ 1) : dlV X (rowS (dlM X) (dlZ X)) = some (.bool true) := by
  have hM : ∀ Y : Int, Y = X → (dlM X : Int) = 65528 + Y := fun Y hY => by unfold dlM; rw [wrap_i64 (by omega)]; omega
  have hm := hM X rfl
  have hs : (rowS (dlM X) (dlZ X)).size = dlM X := rowS_size _ _
  have hz : ∀ j, bI (strF (rowS (dlM X) (dlZ X))) j = 0 := rowS_zero (dlZ_zero X) _
  generalize rowS (dlM X) (dlZ X) = s at hs hz ⊢
  unfold dlV
  have hl : jl (s ++ z4B) noG 0 = dlM X + 8 := by
    show 4 + (s ++ z4B).size = _
    rw [ByteArray.size_append, hs]
    show 4 + (dlM X + 4) = _; omega
  have hl2 : jl s (oneG 0 fun _ => []) 1 = dlM X + 8 := by rw [jl_tag, hs]
  by_cases h : 0 < X
  · rw [hl, sc_over (by omega), pt_over (by rw [hl2]; omega)]
    exact dlE_over h
  · have hf : (ptS s 0 fun _ => []).2.2 = 0 := by
      by_cases h0 : X = 0
      · have e : dlM X = 65528 := by omega
        exact pt_fits (L := 65536) (J := jC 65528) (c := 2) (by rw [hl2]; omega) (by omega) (fun j hj => by rw [jF_tag hs hz j (by omega), e]; rfl) lgc_smC (by omega) lgc_pt
      · have e : dlM X = 65527 := by omega
        exact pt_fits (L := 65535) (J := jC 65527) (c := 0) (by rw [hl2]; omega) (by omega) (fun j hj => by rw [jF_tag hs hz j (by omega), e]; rfl) lgd_smC (by omega) lgd_pt
    rw [hl, sc_fits (by omega), hf]
    exact dlE_fits (by omega) _
theorem dl_calls {X : Int} {b : Bool} {W : World} (hg : GOk (lay Tryd.prog) W) :
    Calls Tryd.prog 6 #[.int .i64 X, .bool b] W fun e W' => e = .returned (.bool true) ∧ Below W.heap.size W W' :=
  law_sound (c := bodyOf Tryd.f6) (fuel := 60) (next := 0) (A := [.pl (.int .i64 X), .pl (.bool b)]) (args' := [.int .i64 X, .bool b]) Tryd.func6 (by kernel_rfl) ⟨rfl, rfl, rfl, rfl, trivial⟩ hg
    (by show 2 ≤ Tryd.f6.ntmps; decide +kernel) rfl nofun
    fun es => ⟨dlC, dlOk, rfl, (dl_ev X b es).trans (by
      by_cases h1 : X < -1
      · rw [decide_eq_true h1, cond_true]
      rw [decide_eq_false h1, cond_false]
      by_cases h2 : X > 1
      · rw [decide_eq_true h2, cond_true]
      rw [decide_eq_false h2, cond_false]
      have hm : (dlM X : Int) = 65528 + X := by unfold dlM; rw [wrap_i64 (by omega)]; omega
      have hA : dlA X = true := by
        unfold dlA
        rw [decide_eq_true rfl, szOk_small (by omega), decide_eq_true (by rw [wrap_i64 (by omega)]; omega)]; rfl
      have hs : (rowS (dlM X) (dlZ X)).size = dlM X := rowS_size _ _
      have hs2 : (rowS (dlM X) (dlZ X) ++ z4B).size = dlM X + 4 := by rw [ByteArray.size_append, hs]; rfl
      rw [hA, req_true rfl, kbk_true, req_true (b := (((true && true) && true) && true) && true) rfl, req_true (b := true && true) rfl]
      cases b with
      | false => exact dl_part (by omega) (by omega)
      | true =>
        rw [cond_true, ble_of (Nat.le_refl _), req_true (b := true && true) rfl, hs2, hs, ble_of (show dlM X + 4 ≤ 9223372036854775807 by omega), req_true rfl, ble_of (show dlM X + 4 ≤ 1000000 by omega), req_true (b := true && true) rfl, req_true (b := true && true) rfl, ble_of (show dlM X ≤ 1000000 by omega), req_true rfl]
        exact dl_tag (by omega) (by omega))⟩

end Go.Proofs.YteenpdjanlcipaaDoor
