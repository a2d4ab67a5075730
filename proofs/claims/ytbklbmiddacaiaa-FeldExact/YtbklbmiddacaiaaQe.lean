/-
  FeldExact.
-/
import Derived.Test.YtbklbmiddacaiaaSq
import Derived.Test.YtbklbmiddacaiaaEj
namespace Go.Proofs.Ytbklbmiddacaiaa
set_option maxRecDepth 100000
open Go.W

noncomputable def leS : Sums := [(9, TnF 25), (20, TpF 45), (21, CmkF 45), (22, AtF), (23, FtsF), (25, RckF 45), (24, PtsF), (12, NumsF), (26, RpsF), (27, KpF), (29, RatF), (30, RfiF), (28, Wk7F)]
theorem leS_ok : SumsOk Try.prog leS := sums_consM tn_msum (sums_consM tp_msum (sums_consM cmk_msum (sums_consM fa_msum (sums_consM ff_msum (sums_consM rc_msum (sums_consM np_msum (sums_consM nu_msum (sums_consM rp_msum (sums_cons kp_sum (sums_consM rat_msum (sums_consM rf_msum (sums_cons wk7_sum sums_nil))))))))))))
noncomputable def leZ : Sums := [(9, TnF 25), (20, TpF 45), (21, CmkF 45), (22, AtF), (23, FtsF), (25, RczF), (24, PtsF), (12, NumsF), (26, RpsF), (27, KpF), (29, RatF), (30, RfiF), (28, Wk7F)]
theorem leZ_ok : SumsOk Try.prog leZ := sums_consM tn_msum (sums_consM tp_msum (sums_consM cmk_msum (sums_consM fa_msum (sums_consM ff_msum (sums_consM rcz_msum (sums_consM np_msum (sums_consM nu_msum (sums_consM rp_msum (sums_cons kp_sum (sums_consM rat_msum (sums_consM rf_msum (sums_cons wk7_sum sums_nil))))))))))))
def leAr (nc : Nat) (C : Nat → Nat) (nl : Nat) (L : Nat → RP) (x y : Nat) : List Arg := [.sl kN4 nc (nmF C), .sl kP9 nl (ptF L), .pl (num x), .pl (num y)]
noncomputable def leH (nc nl : Nat) (C : Nat → List Value) (L : Nat → List Value) (x y : Value) (k : (Nat → List Value) → (Nat → RP) → Option Value → Option Value) : Option Value :=
  bif decide ((nc : Int) > 5) then some (.bool true) else bif decide ((nl : Int) > 5) then some (.bool true) else
  tnq nc C fun c => tpq nl L fun l => cmq nc c fun Q => atq nl l x fun p f => ftq nl l x y fun b g => k c Q (nusq nc c nc C (ptsq nl l nl L (feR nl L x y p f b g)))
theorem le_ev (nc : Nat) (C : Nat → Nat) (nl : Nat) (L : Nat → RP) (x y : Nat) (es : Nat → Nat) : fnA ⟨tab, leS, 113, []⟩ 200 Try.f4 (bodyOf Try.f4) (cArgs (leAr nc C nl L x y) 0) (cMem es (leAr nc C nl L x y) 0) 0 =
    leH nc nl (nmF C) (ptF L) (num x) (num y) fun _ Q k => rckq nc (nmF C) fun U => ptsq nc (ptF Q) nc (ptF U) k := by kernel_rfl
theorem le_evz (C : Nat → Nat) (nl : Nat) (L : Nat → RP) (x y : Nat) (es : Nat → Nat) : fnA ⟨tab, leZ, 113, []⟩ 200 Try.f4 (bodyOf Try.f4) (cArgs (leAr 0 C nl L x y) 0) (cMem es (leAr 0 C nl L x y) 0) 0 =
    leH 0 nl (nmF C) (ptF L) (num x) (num y) fun _ Q k => req (true && okP 0 (sg9 0 (ptF Q)) && okP 0 no9 && sameP 0 (sg9 0 (ptF Q)) 0 no9) k := by kernel_rfl
theorem le_calls {W : World} {nc nl x y : Nat} {C : Nat → Nat} {L : Nat → RP} {v0 v1 : Value} (hC : ∀ j, C j < 2 ^ 256) (hL : ∀ j, okR (L j)) (hx : x < 2 ^ 256) (hy : y < 2 ^ 256) (h0 : SrcW W kN4 nc (fun i => nmL (C i)) v0) (h1 : SrcW W kP9 nl (fun i => ptC (L i)) v1) :
    Calls Try.prog 4 #[v0, v1, num x, num y] W fun e w' => e = .returned (.bool true) ∧ Go.RowKit.Below W.heap.size W w' := by
  refine law_sound (c := bodyOf Try.f4) (args' := [v0, v1, num x, num y]) Try.func4 (by kernel_rfl) (A := leAr nc C nl L x y) ⟨h0, h1, rfl, rfl, rfl, rfl, trivial⟩ (GOk_nil _) (by show 4 ≤ Try.f4.ntmps; decide +kernel) rfl (by intro vs h; cases h) (fuel := 200) (next := 0) (fun es => ?_)
  have hl : ∀ j, j < nl → pA (ptF L) j = L j := fun j _ => pA_pt (hL j)
  have hH : ∀ k : (Nat → List Value) → (Nat → RP) → Option Value → Option Value, (∀ c Q z, nc ≤ 5 → (∀ j, j < nc → Q j = cmN C j) → z = some (.bool true) → k c Q z = some (.bool true)) → leH nc nl (nmF C) (ptF L) (num x) (num y) k = some (.bool true) := by
    intro k hk
    unfold leH
    by_cases h5 : nc > 5
    · rw [decide_eq_true (by omega), cond_true]
    by_cases h6 : nl > 5
    · rw [decide_eq_false (by omega), cond_false, decide_eq_true (by omega), cond_true]
    rw [decide_eq_false (by omega), cond_false, decide_eq_false (by omega), cond_false, tnq_eq (by omega), tpq_eq (by omega)]
    have ho : okP nl (sg9 nl (sg9 nl (ptF L))) = true := by rw [okP_sg, okP_sg]; exact okP_pt (by omega)
    rw [cmq_ok (by rw [okV_sg, okV_sg]; exact okV_nm (by omega)) (by omega), atq_ok ho hx, ftq_ok ho hx hy, nA_sg2, pA_sg2, atZ_congr hl, atE_congr hl, fiB_congr hl]
    refine hk _ _ _ (by omega) (fun j hj => cm_nm (fun j _ => hC j) j hj) ?_
    rw [nusq_eq (by rw [okV_sg, okV_sg]; exact okV_nm (by omega)) (okV_nm (by omega)) (fun j _ => by rw [nA_sg2]), ptsq_eq (by rw [okP_sg, okP_sg]; exact okP_pt (by omega)) (okP_pt (by omega)) (fun j _ => by rw [pA_sg2])]
    exact feR_eq (by omega) hL hx hy
  cases nc with
  | zero =>
    refine ⟨_, ⟨mixed, tabOk, leZ_ok, noL⟩, rfl, (le_evz C nl L x y es).trans (hH _ ?_)⟩
    intro c Q z _ _ hz
    rw [okP_sg, okP_pt (by omega), no_okP, show sameP 0 (sg9 0 (ptF Q)) 0 no9 = true from sameP_iff.2 ⟨rfl, fun j hj => absurd hj (by omega)⟩]
    exact hz
  | succ m =>
    refine ⟨_, ⟨mixed, tabOk, leS_ok, noL⟩, rfl, (le_ev (m + 1) C nl L x y es).trans (hH _ ?_)⟩
    intro c Q z h5 hQ hz
    unfold rckq
    rw [kb4_true, okV_sg, okV_nm (by omega), bE (show 1 ≤ m + 1 by omega), req_true (b := true && true && true) rfl, nA_sg]
    dsimp only
    rw [ptsq_eq (okP_pt (by omega)) (okP_pt (by omega)) (fun j hj => by
      show unPt (ptV (Q j)) = unPt (ptV (cmN (nA (nmF C)) j))
      rw [hQ j hj, cm_nm (n := m + 1) (fun j _ => hC j) j hj])]
    exact hz
end Go.Proofs.Ytbklbmiddacaiaa
