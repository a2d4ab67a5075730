/-
  Several texts in one.
-/
import Derived.Test.YtafeeiodgfgepaaDoorSd
import Derived.Test.YtafeeiodgfgepaaDoorSg
import Derived.Test.YtafeeiodgfgepaaDoorEj
/-
  Package dleq.
-/
namespace Go.Proofs.YtafeeiodgfgepaaDoor
set_option maxRecDepth 100000
open Go.W
noncomputable def dkS : Sums := [(12, CPbF 5), (13, ScF)]
theorem dkS_ok : SumsOk Tryd.prog dkS := sums_consM (MSum_sub cby_msum (CPbF_sub _)) (sums_consM sc_msum sums_nil)
noncomputable def dkC : Cfg := ⟨tab, dkS, 43, []⟩
theorem dkOk : CfgOk Tryd.prog dkC (bodyOf Tryd.f21) := ⟨mixed, tabOk, dkS_ok, noL⟩
theorem dk_ev (a b c d e : RP) : fnS dkC 60 Tryd.f21 (bodyOf Tryd.f21) [ptV a, ptV b, ptV c, ptV d, ptV e] =
    dpQ (ptV a) (dpQ (ptV b) (dpQ (ptV c) (dpQ (ptV d) (dpQ (ptV e) (some (num (scS (jl dlqT (dcG (fv (ptV a) (ptV b) (ptV c) (ptV d) (ptV e)) 4) 5) (jF dlqT (dcG (fv (ptV a) (ptV b) (ptV c) (ptV d) (ptV e)) 4) 5)).1)))))) := by kernel_rfl
theorem dk_sum : Sum Tryd.prog 21 ChcF := by
  refine sum_of dkOk Tryd.func21 (by kernel_rfl) (by kernel_rfl) rfl (fuel := 60) fun args v h hpl => ?_
  unfold ChcF at h
  split at h
  · simp only [Option.some.injEq, Prod.mk.injEq, ck5, Bool.and_eq_true] at h
    obtain ⟨⟨⟨h0, k0⟩, ⟨h1, k1⟩, ⟨h2, k2⟩, ⟨h3, k3⟩, h4, k4⟩, rfl⟩ := h
    obtain ⟨a, ha, rfl⟩ := isPt_some h0
    obtain ⟨b, hb, rfl⟩ := isPt_some h1
    obtain ⟨c, hc, rfl⟩ := isPt_some h2
    obtain ⟨d, hd, rfl⟩ := isPt_some h3
    obtain ⟨e, he, rfl⟩ := isPt_some h4
    rw [unPt_ptV ha] at k0 ⊢
    rw [unPt_ptV hb] at k1 ⊢
    rw [unPt_ptV hc] at k2 ⊢
    rw [unPt_ptV hd] at k3 ⊢
    rw [unPt_ptV he] at k4 ⊢
    refine ⟨by show 5 ≤ Tryd.f21.ntmps; decide +kernel, (dk_ev a b c d e).trans ?_, rfl⟩
    rw [dpQ_ck k0, dpQ_ck k1, dpQ_ck k2, dpQ_ck k3, dpQ_ck k4, ch_sc (isPb_fv (five_all ha hb hc hd he))]
  · simp at h
def blwC : Cfg := ⟨tab, [(9, PrimeF), (46, CmpF)], 7, []⟩
theorem blwOk : CfgOk Tryd.prog blwC (bodyOf Tryd.f23) := ⟨mixed, tabOk, sums_cons Prime_sum (sums_cons Cmp_sum sums_nil), noL⟩
theorem blw_ev (a : Nat) : fnS blwC 60 Tryd.f23 (bodyOf Tryd.f23) [num a] = req (isNum (num a) && isNum (num (primeN 1))) (some (.bool (decide (cmpI (unnum (num a)) (unnum (num (primeN 1))) < 0)))) := by kernel_rfl
theorem blw_sum : Sum Tryd.prog 23 BlwF := by
  refine sum_of blwOk Tryd.func23 (by kernel_rfl) (by kernel_rfl) rfl (fuel := 60) fun args v h hpl => ?_
  unfold BlwF at h
  split at h
  · simp only [Option.some.injEq, Prod.mk.injEq] at h
    obtain ⟨h0, rfl⟩ := h
    obtain ⟨a, ha, rfl⟩ := isNum_some h0
    refine ⟨by show 1 ≤ Tryd.f23.ntmps; decide +kernel, (blw_ev a).trans ?_, rfl⟩
    rw [isNum_num, isNum_num, req_true (b := true && true) rfl, unnum_lt ha, unnum_lt (show primeN 1 < 2 ^ 256 from n1_lt), below_cmp]
  · simp at h
noncomputable def prvS : Sums := [(6, CTimF), (5, CBasF), (21, ChcF), (16, NmuF), (15, NsuF)]
theorem prvS_ok : SumsOk Tryd.prog prvS := sums_cons cTi_sum (sums_cons cBa_sum (sums_cons dk_sum (sums_cons (Sum_sub FMul_sum NmuF_sub) (sums_cons (Sum_sub FSub_sum NsuF_sub) sums_nil))))
noncomputable def prvC : Cfg := ⟨tab, prvS, 44, []⟩
theorem prvOk : CfgOk Tryd.prog prvC (bodyOf Tryd.f7) := ⟨mixed, tabOk, prvS_ok, noL⟩
theorem prv_ev (S N : Nat) (b : RP) : fnS prvC 60 Tryd.f7 (bodyOf Tryd.f7) [num S, num N, ptV b] =
    qTim (num S) (ptV b) fun k e => bif e != 0 then some (.tuple #[prV 0 0, i64 e]) else qTim (num N) (ptV b) fun v _ => qBas (num S) fun A => qBas (num N) fun U => qChc A (ptV b) k U v fun c =>
      req (isNum (num c) && isNum (num S) && true) (req (isNum (num N) && isNum (num (nMul (unnum (num c)) (unnum (num S)))) && true) (some (.tuple #[prV c (nSub (unnum (num N)) (unnum (num (nMul (unnum (num c)) (unnum (num S)))))), i64 0]))) := by kernel_rfl
theorem prv_sum : Sum Tryd.prog 7 PrvF := by
  refine sum_of prvOk Tryd.func7 (by kernel_rfl) (by kernel_rfl) rfl (fuel := 60) fun args v h hpl => ?_
  unfold PrvF at h
  split at h
  · simp only [Option.some.injEq, Prod.mk.injEq, Bool.and_eq_true] at h
    obtain ⟨⟨⟨h0, h1⟩, h2⟩, rfl⟩ := h
    obtain ⟨S, hS, rfl⟩ := isNum_some h0
    obtain ⟨N, hN, rfl⟩ := isNum_some h1
    obtain ⟨b, hb, rfl⟩ := isPt_some h2
    refine ⟨by show 3 ≤ Tryd.f7.ntmps; decide +kernel, (prv_ev S N b).trans ?_, rfl⟩
    rw [qTim_pt hS hb, unnum_lt hS, unnum_lt hN, unPt_ptV hb]
    cases hc : ckR b with
    | false => rw [prE_no hc]; rfl
    | true =>
      rw [prE_ok hc, if_pos rfl, show (errP true != 0) = false from rfl, cond_false, qTim_ck hN hc, qBas_pt hS, qBas_pt hN, qChc_ck (ck_bas S) hc (ck_tim S hc) (ck_bas N) (ck_tim N hc), isNum_num, isNum_num, isNum_num, isNum_num,
        req_true (b := true && true && true) rfl, req_true (b := true && true && true) rfl, unnum_lt (dqN_l _), unnum_lt (nMul_l _ _)]
      rfl
  · simp at h
noncomputable def hldS : Sums := [(22, CChkF), (23, BlwF), (5, CBasF), (14, CTwoF), (21, ChcF)]
theorem hldS_ok : SumsOk Tryd.prog hldS := sums_cons cchk_sum (sums_cons blw_sum (sums_cons cBa_sum (sums_cons cTw_sum (sums_cons dk_sum sums_nil))))
noncomputable def hldC : Cfg := ⟨tab, hldS, 70, []⟩
theorem hldOk : CfgOk Tryd.prog hldC (bodyOf Tryd.f8) := ⟨mixed, tabOk, hldS_ok, noL⟩
def hldN (x : Bool) (e : Int) : Option Value := some (.tuple #[.bool x, i64 e])
theorem hld_ev (a b k : RP) (c r : Nat) : fnS hldC 60 Tryd.f8 (bodyOf Tryd.f8) [ptV a, ptV b, ptV k, prV c r] =
    qChk (ptV a) fun e => bif e != 0 then hldN false e else qChk (ptV b) fun e => bif e != 0 then hldN false e else qChk (ptV k) fun e => bif e != 0 then hldN false e else
      req (isNum (num c)) (bif !(decide (unnum (num c) < pN)) then hldN false 0 else req (isNum (num r)) (bif !(decide (unnum (num r) < pN)) then hldN false 0 else
        qBas (num 1) fun g1 => qTwo (num r) g1 (num c) (ptV a) fun u _ => qTwo (num r) (ptV b) (num c) (ptV k) fun v _ => qChc (ptV a) (ptV b) (ptV k) u v fun x => hldN (eqV (num c) (num x)) 0)) := by kernel_rfl
theorem hld_sum : Sum Tryd.prog 8 HldF := by
  refine sum_of hldOk Tryd.func8 (by kernel_rfl) (by kernel_rfl) rfl (fuel := 60) fun args v h hpl => ?_
  unfold HldF at h
  split at h
  · simp only [Option.some.injEq, Prod.mk.injEq, Bool.and_eq_true] at h
    obtain ⟨⟨⟨⟨h0, h1⟩, h2⟩, h3⟩, rfl⟩ := h
    obtain ⟨a, ha, rfl⟩ := isPt_some h0
    obtain ⟨b, hb, rfl⟩ := isPt_some h1
    obtain ⟨k, hk, rfl⟩ := isPt_some h2
    obtain ⟨X, ⟨hc, hr⟩, rfl⟩ := isPrf_some h3
    refine ⟨by show 4 ≤ Tryd.f8.ntmps; decide +kernel, (hld_ev a b k X.1 X.2).trans ?_, rfl⟩
    rw [qChk_pt ha, qChk_pt hb, qChk_pt hk, unPt_ptV ha, unPt_ptV hb, unPt_ptV hk, unPrf_prV hc hr]
    cases h1 : ckR a with
    | false => rfl
    | true =>
    cases h2 : ckR b with
    | false => rfl
    | true =>
    cases h3 : ckR k with
    | false => rfl
    | true =>
      rw [show (errP true != 0) = false from rfl, cond_false, cond_false, cond_false, isNum_num, isNum_num, req_true rfl, req_true rfl, unnum_lt hc, unnum_lt hr]
      unfold hldB
      by_cases h4 : X.1 < pN
      · by_cases h5 : X.2 < pN
        · rw [decide_eq_true h4, decide_eq_true h5, Bool.not_true, cond_false, cond_false, qBas_pt lt6_1, bas1, qTwo_ck hr hc gR_ck h1, qTwo_ck hr hc h2 h3, qChc_ck h1 h2 h3 (ck_two _ _ gR_ck h1) (ck_two _ _ h2 h3), eqV_num, Nat.mod_eq_of_lt (dqN_l _), Nat.mod_eq_of_lt hc, decide_eq_decide.2 (eq_comm (a := X.1))]
          rfl
        · rw [decide_eq_true h4, decide_eq_false h5]; rfl
      · rw [decide_eq_false h4]; rfl
  · simp at h
end Go.Proofs.YtafeeiodgfgepaaDoor
/-
  What wakes in layer 9.
-/
namespace Go.Proofs.YtafeeiodgfgepaaDoor
set_option maxRecDepth 100000
open Go.W
open Go.RowKit (Below)
noncomputable def wk9C : Cfg := ⟨tab, [(5, CBasF), (6, CTimF), (7, PrvF), (8, HldF), (9, PrimeF)], 67, []⟩
theorem wk9Ok : CfgOk Tryd.prog wk9C (bodyOf Tryd.f11) := ⟨mixed, tabOk, sums_cons cBa_sum (sums_cons cTi_sum (sums_cons prv_sum (sums_cons hld_sum (sums_cons Prime_sum sums_nil)))), noL⟩
theorem wk9_ev : fnS wk9C 60 Tryd.f11 (bodyOf Tryd.f11) [] = wak9T := by kernel_rfl
theorem wk9_sum : Sum Tryd.prog 11 WkF := by
  refine sum_of wk9Ok Tryd.func11 (by kernel_rfl) (by kernel_rfl) rfl (fuel := 60) fun args v h hpl => ?_
  unfold WkF at h
  split at h
  · simp only [Option.some.injEq, Prod.mk.injEq, true_and] at h
    subst h
    exact ⟨by show 0 ≤ Tryd.f11.ntmps; exact Nat.zero_le _, wk9_ev.trans wak9T_eq, rfl⟩
  · simp at h
end Go.Proofs.YtafeeiodgfgepaaDoor
