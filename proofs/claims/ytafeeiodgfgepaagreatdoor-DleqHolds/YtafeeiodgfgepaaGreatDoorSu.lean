/-
  Several texts in one.
-/
import Derived.Test.YtafeeiodgfgepaaGreatDoorSd
import Derived.Test.YtafeeiodgfgepaaGreatDoorSr
import Derived.Test.YtafeeiodgfgepaaGreatDoorEj
import Derived.Test.YtafeeiodgfgepaaGreatDoorSg
/-
  Proofs that two logarithms are the same: the document's.
-/
namespace Go.Proofs.YtafeeiodgfgepaaGreatDoor
set_option maxRecDepth 100000
open Go.W
theorem rpb_msum : MSum Tryz.prog 49 (RPbF 5) := MSum_sub rby_msum (RPbF_sub _)
noncomputable def dcS : Sums := [(49, RPbF 5), (50, SkF)]
theorem dcS_ok : SumsOk Tryz.prog dcS := sums_consM rpb_msum (sums_consM sk_msum sums_nil)
noncomputable def dcC : Cfg := ⟨tab, dcS, 27, []⟩
theorem dcOk : CfgOk Tryz.prog dcC (bodyOf Tryz.f22) := ⟨mixed, tabOk, dcS_ok, noL⟩
theorem dc_ev (f : Nat → List Value) (es : Nat → Nat) (id : Nat) : fnMS dcC 60 Tryz.f22 (bodyOf Tryz.f22) (cArgs [.sl kP9 5 f] 0) (cMem es [.sl kP9 5 f] 0) 0 id =
    dcQ f 0 (dcQ f 1 (dcQ f 2 (dcQ f 3 (dcQ f 4 (some (num (skS (jl dlqT (dcG (el9 f) 4) 5) (jF dlqT (dcG (el9 f) 4) 5)).1, [])))))) := by kernel_rfl
theorem dc_msum : MSum Tryz.prog 22 ChF := by
  refine msum_of (fuel := 60) (next := 0) dcOk Tryz.func22 (by kernel_rfl) (by kernel_rfl) rfl fun vs mm id v l hpick hlt => ?_
  match vs, hpick with
  | [a], hpick =>
    obtain ⟨hc, rfl, rfl⟩ := pick_one hpick
    simp only [Bool.and_eq_true] at hc
    obtain ⟨ha, ho, h5⟩ := hc
    generalize hqa : srcB mm kP9 a = qa at ha ho h5 ⊢
    obtain ⟨ok1, n, f⟩ := qa
    simp only at ha ho h5 ⊢
    subst ha
    have h5 := nbeq.1 h5
    subst h5
    refine ⟨[.sl kP9 5 f], ⟨hqa, trivial⟩, by show 1 ≤ Tryz.f22.ntmps; decide +kernel, .inl trivial, fun es => ?_⟩
    refine (dc_ev f es id).trans ?_
    rw [dcQ_eq ho (by omega), dcQ_eq ho (by omega), dcQ_eq ho (by omega), dcQ_eq ho (by omega), dcQ_eq ho (by omega), ch_sk (isPb_dc f)]
  | [], h => simp [ChF, pickM] at h
  | _ :: _ :: _, h => simp [ChF, pickM] at h
noncomputable def rprS : Sums := [(23, BasRF), (24, TimRF), (22, ChF), (26, PMulF), (25, PSubF)]
theorem rprS_ok : SumsOk Tryz.prog rprS := sums_cons basR_sum (sums_cons timR_sum (sums_consM dc_msum (sums_cons rm_sum (sums_cons rss_sum sums_nil))))
noncomputable def rprK : Cfg := ⟨tab, rprS, 28, []⟩
theorem rprOk : CfgOk Tryz.prog rprK (bodyOf Tryz.f9) := ⟨mixed, tabOk, rprS_ok, noL⟩
theorem rpr_ev (S N : Nat) (b : RP) : fnS rprK 60 Tryz.f9 (bodyOf Tryz.f9) [num S, num N, ptV b] =
    qBasR (num S) fun A => qTimR (num S) (ptV b) fun K => qBasR (num N) fun U => qTimR (num N) (ptV b) fun V => qCh A (ptV b) K U V fun c =>
      req (isNum (num c) && isNum (num S)) (req (isNum (num N) && isNum (num (nMul (unnum (num c)) (unnum (num S))))) (some (prV c (nSub (unnum (num N)) (unnum (num (nMul (unnum (num c)) (unnum (num S))))))))) := by kernel_rfl
theorem rpr_sum : Sum Tryz.prog 9 RprF := by
  refine sum_of rprOk Tryz.func9 (by kernel_rfl) (by kernel_rfl) rfl (fuel := 60) fun args v h hpl => ?_
  unfold RprF at h
  split at h
  · simp only [Option.some.injEq, Prod.mk.injEq, Bool.and_eq_true] at h
    obtain ⟨⟨⟨h0, h1⟩, h2⟩, rfl⟩ := h
    obtain ⟨S, hS, rfl⟩ := isNum_some h0
    obtain ⟨N, hN, rfl⟩ := isNum_some h1
    obtain ⟨b, hb, rfl⟩ := isPt_some h2
    refine ⟨by show 3 ≤ Tryz.f9.ntmps; decide +kernel, (rpr_ev S N b).trans ?_, rfl⟩
    rw [qBasR_pt hS, qTimR_pt hS hb, qBasR_pt hN, qTimR_pt hN hb, qCh_pt (five_all (okR_tR _ _) hb (okR_tR _ _) (okR_tR _ _) (okR_tR _ _)), isNum_num, isNum_num, isNum_num, isNum_num, req_true (b := true && true) rfl, req_true (b := true && true) rfl,
      unnum_lt hS, unnum_lt hN, unPt_ptV hb, unnum_lt (dqN_l _), unnum_lt (nMul_l _ _)]
    rfl
  · simp at h
def rblK : Cfg := ⟨tab, [(18, PrimeF), (17, CmpF)], 17, []⟩
theorem rblOk : CfgOk Tryz.prog rblK (bodyOf Tryz.f30) := ⟨mixed, tabOk, sums_cons PrimeR_sum (sums_cons CmpR_sum sums_nil), noL⟩
theorem rbl_ev (c r : Nat) : fnS rblK 60 Tryz.f30 (bodyOf Tryz.f30) [prV c r] =
    req (isNum (num c) && isNum (num (primeN 1))) (bif decide (cmpI (unnum (num c)) (unnum (num (primeN 1))) < 0) then req (isNum (num r) && isNum (num (primeN 1))) (some (.bool (decide (cmpI (unnum (num r)) (unnum (num (primeN 1))) < 0)))) else some (.bool false)) := by kernel_rfl
theorem rbl_sum : Sum Tryz.prog 30 RblF := by
  refine sum_of rblOk Tryz.func30 (by kernel_rfl) (by kernel_rfl) rfl (fuel := 60) fun args v h hpl => ?_
  unfold RblF at h
  split at h
  · simp only [Option.some.injEq, Prod.mk.injEq] at h
    obtain ⟨h0, rfl⟩ := h
    obtain ⟨X, ⟨hc, hr⟩, rfl⟩ := isPrf_some h0
    refine ⟨by show 1 ≤ Tryz.f30.ntmps; decide +kernel, (rbl_ev X.1 X.2).trans ?_, rfl⟩
    rw [isNum_num, isNum_num, isNum_num, req_true (b := true && true) rfl, req_true (b := true && true) rfl, unnum_lt hc, unnum_lt hr, unnum_lt (show primeN 1 < 2 ^ 256 from n1_lt), unPrf_prV hc hr, below_cmp, below_cmp]
    cases decide (X.1 < pN) <;> rfl
  · simp at h
noncomputable def rhlS : Sums := [(30, RblF), (32, GF), (31, TwoRF), (22, ChF)]
theorem rhlS_ok : SumsOk Tryz.prog rhlS := sums_cons rbl_sum (sums_cons gg_sum (sums_cons twoR_sum (sums_consM dc_msum sums_nil)))
noncomputable def rhlK : Cfg := ⟨tab, rhlS, 35, []⟩
theorem rhlOk : CfgOk Tryz.prog rhlK (bodyOf Tryz.f11) := ⟨mixed, tabOk, rhlS_ok, noL⟩
theorem rhl_ev (a b k : RP) (c r : Nat) : fnS rhlK 60 Tryz.f11 (bodyOf Tryz.f11) [ptV a, ptV b, ptV k, prV c r] =
    req (isPrf (prV c r)) (bif decide ((unPrf (prV c r)).1 < pN) && decide ((unPrf (prV c r)).2 < pN) then
      (qTwoR (num r) (ptV gR) (num c) (ptV a) fun u => qTwoR (num r) (ptV b) (num c) (ptV k) fun v => qCh (ptV a) (ptV b) (ptV k) u v fun x => some (.bool (eqV (num x) (num c)))) else some (.bool false)) := by kernel_rfl
theorem rhl_sum : Sum Tryz.prog 11 RhlF := by
  refine sum_of rhlOk Tryz.func11 (by kernel_rfl) (by kernel_rfl) rfl (fuel := 60) fun args v h hpl => ?_
  unfold RhlF at h
  split at h
  · simp only [Option.some.injEq, Prod.mk.injEq, Bool.and_eq_true] at h
    obtain ⟨⟨⟨⟨h0, h1⟩, h2⟩, h3⟩, rfl⟩ := h
    obtain ⟨a, ha, rfl⟩ := isPt_some h0
    obtain ⟨b, hb, rfl⟩ := isPt_some h1
    obtain ⟨k, hk, rfl⟩ := isPt_some h2
    obtain ⟨X, ⟨hc, hr⟩, rfl⟩ := isPrf_some h3
    refine ⟨by show 4 ≤ Tryz.f11.ntmps; decide +kernel, (rhl_ev a b k X.1 X.2).trans ?_, rfl⟩
    rw [isPrf_prV, req_true rfl, unPrf_prV hc hr, unPt_ptV ha, unPt_ptV hb, unPt_ptV hk]
    unfold rhlB
    by_cases h1 : X.1 < pN
    · by_cases h2 : X.2 < pN
      · rw [decide_eq_true h1, decide_eq_true h2, show (true && true) = true from rfl, cond_true, qTwoR_pt hr hc (ck_okR gR_ck) ha, qTwoR_pt hr hc hb hk, qCh_pt (five_all ha hb hk (okR_wR _ _ _ _) (okR_wR _ _ _ _)), eqV_num, Nat.mod_eq_of_lt (dqN_l _), Nat.mod_eq_of_lt hc]
        rfl
      · rw [decide_eq_false h2, Bool.and_false, Bool.false_and, Bool.and_false]; rfl
    · rw [decide_eq_false h1, Bool.false_and, Bool.false_and]; rfl
  · simp at h
def kprK : Cfg := ⟨tab, [], 17, []⟩
theorem kprOk : CfgOk Tryz.prog kprK (bodyOf Tryz.f7) := ⟨mixed, tabOk, sums_nil, noL⟩
theorem kpr_ev (a b c d : Nat) : fnS kprK 60 Tryz.f7 (bodyOf Tryz.f7) [prV a b, prV c d] = bif eqV (num a) (num c) then some (.bool (eqV (num b) (num d))) else some (.bool false) := by kernel_rfl
theorem kpr_sum : Sum Tryz.prog 7 KprF := by
  refine sum_of kprOk Tryz.func7 (by kernel_rfl) (by kernel_rfl) rfl (fuel := 60) fun args v h hpl => ?_
  unfold KprF at h
  split at h
  · simp only [Option.some.injEq, Prod.mk.injEq, Bool.and_eq_true] at h
    obtain ⟨⟨h0, h1⟩, rfl⟩ := h
    obtain ⟨X, ⟨hc, hr⟩, rfl⟩ := isPrf_some h0
    obtain ⟨Y, ⟨hc2, hr2⟩, rfl⟩ := isPrf_some h1
    refine ⟨by show 2 ≤ Tryz.f7.ntmps; decide +kernel, (kpr_ev _ _ _ _).trans ?_, rfl⟩
    rw [unPrf_prV hc hr, unPrf_prV hc2 hr2, eqV_num, eqV_num, Nat.mod_eq_of_lt hc, Nat.mod_eq_of_lt hr, Nat.mod_eq_of_lt hc2, Nat.mod_eq_of_lt hr2]
    by_cases h1 : X.1 = Y.1
    · rw [decide_eq_true h1, cond_true]
      congr 2
      rw [Bool.eq_iff_iff, decide_eq_true_eq, decide_eq_true_eq, Prod.mk.injEq]
      exact ⟨fun h => ⟨h1, h⟩, fun h => h.2⟩
    · rw [decide_eq_false h1, decide_eq_false (fun h => h1 (Prod.mk.inj h).1)]; rfl
  · simp at h
end Go.Proofs.YtafeeiodgfgepaaGreatDoor
/-
  Package dleq.
-/
namespace Go.Proofs.YtafeeiodgfgepaaGreatDoor
set_option maxRecDepth 100000
open Go.W
noncomputable def dkS : Sums := [(35, CPbF 5), (36, ScF)]
theorem dkS_ok : SumsOk Tryz.prog dkS := sums_consM (MSum_sub cby_msum (CPbF_sub _)) (sums_consM sc_msum sums_nil)
noncomputable def dkC : Cfg := ⟨tab, dkS, 43, []⟩
theorem dkOk : CfgOk Tryz.prog dkC (bodyOf Tryz.f13) := ⟨mixed, tabOk, dkS_ok, noL⟩
theorem dk_ev (a b c d e : RP) : fnS dkC 60 Tryz.f13 (bodyOf Tryz.f13) [ptV a, ptV b, ptV c, ptV d, ptV e] =
    dpQ (ptV a) (dpQ (ptV b) (dpQ (ptV c) (dpQ (ptV d) (dpQ (ptV e) (some (num (scS (jl dlqT (dcG (fv (ptV a) (ptV b) (ptV c) (ptV d) (ptV e)) 4) 5) (jF dlqT (dcG (fv (ptV a) (ptV b) (ptV c) (ptV d) (ptV e)) 4) 5)).1)))))) := by kernel_rfl
theorem dk_sum : Sum Tryz.prog 13 ChcF := by
  refine sum_of dkOk Tryz.func13 (by kernel_rfl) (by kernel_rfl) rfl (fuel := 60) fun args v h hpl => ?_
  unfold ChcF at h
  split at h
  · simp only [Option.some.injEq, Prod.mk.injEq, ck5, Bool.and_eq_true] at h
    obtain ⟨⟨⟨h0, k0⟩, ⟨h1, k1⟩, ⟨h2, k2⟩, ⟨h3, k3⟩, h4, k4⟩, rfl⟩ := h
    obtain ⟨a, ha, rfl⟩ := isPt_some h0
    obtain ⟨b, hb, rfl⟩ := isPt_some h1
    obtain ⟨c, hc, rfl⟩ := isPt_some h2
    obtain ⟨d, hd, rfl⟩ := isPt_some h3
    obtain ⟨e, he, rfl⟩ := isPt_some h4
    rw [unPt_ptV ha] at k0 ⊢
    rw [unPt_ptV hb] at k1 ⊢
    rw [unPt_ptV hc] at k2 ⊢
    rw [unPt_ptV hd] at k3 ⊢
    rw [unPt_ptV he] at k4 ⊢
    refine ⟨by show 5 ≤ Tryz.f13.ntmps; decide +kernel, (dk_ev a b c d e).trans ?_, rfl⟩
    rw [dpQ_ck k0, dpQ_ck k1, dpQ_ck k2, dpQ_ck k3, dpQ_ck k4, ch_sc (isPb_fv (five_all ha hb hc hd he))]
  · simp at h
def blwC : Cfg := ⟨tab, [(21, PrimeF), (54, CmpF)], 7, []⟩
theorem blwOk : CfgOk Tryz.prog blwC (bodyOf Tryz.f28) := ⟨mixed, tabOk, sums_cons Prime_sum (sums_cons Cmp_sum sums_nil), noL⟩
theorem blw_ev (a : Nat) : fnS blwC 60 Tryz.f28 (bodyOf Tryz.f28) [num a] = req (isNum (num a) && isNum (num (primeN 1))) (some (.bool (decide (cmpI (unnum (num a)) (unnum (num (primeN 1))) < 0)))) := by kernel_rfl
theorem blw_sum : Sum Tryz.prog 28 BlwF := by
  refine sum_of blwOk Tryz.func28 (by kernel_rfl) (by kernel_rfl) rfl (fuel := 60) fun args v h hpl => ?_
  unfold BlwF at h
  split at h
  · simp only [Option.some.injEq, Prod.mk.injEq] at h
    obtain ⟨h0, rfl⟩ := h
    obtain ⟨a, ha, rfl⟩ := isNum_some h0
    refine ⟨by show 1 ≤ Tryz.f28.ntmps; decide +kernel, (blw_ev a).trans ?_, rfl⟩
    rw [isNum_num, isNum_num, req_true (b := true && true) rfl, unnum_lt ha, unnum_lt (show primeN 1 < 2 ^ 256 from n1_lt), below_cmp]
  · simp at h
noncomputable def prvS : Sums := [(12, CTimF), (14, CBasF), (13, ChcF), (16, NmuF), (15, NsuF)]
theorem prvS_ok : SumsOk Tryz.prog prvS := sums_cons cTi_sum (sums_cons cBa_sum (sums_cons dk_sum (sums_cons (Sum_sub FMul_sum NmuF_sub) (sums_cons (Sum_sub FSub_sum NsuF_sub) sums_nil))))
noncomputable def prvC : Cfg := ⟨tab, prvS, 44, []⟩
theorem prvOk : CfgOk Tryz.prog prvC (bodyOf Tryz.f5) := ⟨mixed, tabOk, prvS_ok, noL⟩
theorem prv_ev (S N : Nat) (b : RP) : fnS prvC 60 Tryz.f5 (bodyOf Tryz.f5) [num S, num N, ptV b] =
    qTim (num S) (ptV b) fun k e => bif e != 0 then some (.tuple #[prV 0 0, i64 e]) else qTim (num N) (ptV b) fun v _ => qBas (num S) fun A => qBas (num N) fun U => qChc A (ptV b) k U v fun c =>
      req (isNum (num c) && isNum (num S) && true) (req (isNum (num N) && isNum (num (nMul (unnum (num c)) (unnum (num S)))) && true) (some (.tuple #[prV c (nSub (unnum (num N)) (unnum (num (nMul (unnum (num c)) (unnum (num S)))))), i64 0]))) := by kernel_rfl
theorem prv_sum : Sum Tryz.prog 5 PrvF := by
  refine sum_of prvOk Tryz.func5 (by kernel_rfl) (by kernel_rfl) rfl (fuel := 60) fun args v h hpl => ?_
  unfold PrvF at h
  split at h
  · simp only [Option.some.injEq, Prod.mk.injEq, Bool.and_eq_true] at h
    obtain ⟨⟨⟨h0, h1⟩, h2⟩, rfl⟩ := h
    obtain ⟨S, hS, rfl⟩ := isNum_some h0
    obtain ⟨N, hN, rfl⟩ := isNum_some h1
    obtain ⟨b, hb, rfl⟩ := isPt_some h2
    refine ⟨by show 3 ≤ Tryz.f5.ntmps; decide +kernel, (prv_ev S N b).trans ?_, rfl⟩
    rw [qTim_pt hS hb, unnum_lt hS, unnum_lt hN, unPt_ptV hb]
    cases hc : ckR b with
    | false => rw [prE_no hc]; rfl
    | true =>
      rw [prE_ok hc, if_pos rfl, show (errP true != 0) = false from rfl, cond_false, qTim_ck hN hc, qBas_pt hS, qBas_pt hN, qChc_ck (ck_bas S) hc (ck_tim S hc) (ck_bas N) (ck_tim N hc), isNum_num, isNum_num, isNum_num, isNum_num,
        req_true (b := true && true && true) rfl, req_true (b := true && true && true) rfl, unnum_lt (dqN_l _), unnum_lt (nMul_l _ _)]
      rfl
  · simp at h
noncomputable def hldS : Sums := [(27, CChkF), (28, BlwF), (14, CBasF), (29, CTwoF), (13, ChcF)]
theorem hldS_ok : SumsOk Tryz.prog hldS := sums_cons cchk_sum (sums_cons blw_sum (sums_cons cBa_sum (sums_cons cTw_sum (sums_cons dk_sum sums_nil))))
noncomputable def hldC : Cfg := ⟨tab, hldS, 70, []⟩
theorem hldOk : CfgOk Tryz.prog hldC (bodyOf Tryz.f10) := ⟨mixed, tabOk, hldS_ok, noL⟩
def hldN (x : Bool) (e : Int) : Option Value := some (.tuple #[.bool x, i64 e])
theorem hld_ev (a b k : RP) (c r : Nat) : fnS hldC 60 Tryz.f10 (bodyOf Tryz.f10) [ptV a, ptV b, ptV k, prV c r] =
    qChk (ptV a) fun e => bif e != 0 then hldN false e else qChk (ptV b) fun e => bif e != 0 then hldN false e else qChk (ptV k) fun e => bif e != 0 then hldN false e else
      req (isNum (num c)) (bif !(decide (unnum (num c) < pN)) then hldN false 0 else req (isNum (num r)) (bif !(decide (unnum (num r) < pN)) then hldN false 0 else
        qBas (num 1) fun g1 => qTwo (num r) g1 (num c) (ptV a) fun u _ => qTwo (num r) (ptV b) (num c) (ptV k) fun v _ => qChc (ptV a) (ptV b) (ptV k) u v fun x => hldN (eqV (num c) (num x)) 0)) := by kernel_rfl
theorem hld_sum : Sum Tryz.prog 10 HldF := by
  refine sum_of hldOk Tryz.func10 (by kernel_rfl) (by kernel_rfl) rfl (fuel := 60) fun args v h hpl => ?_
  unfold HldF at h
  split at h
  · simp only [Option.some.injEq, Prod.mk.injEq, Bool.and_eq_true] at h
    obtain ⟨⟨⟨⟨h0, h1⟩, h2⟩, h3⟩, rfl⟩ := h
    obtain ⟨a, ha, rfl⟩ := isPt_some h0
    obtain ⟨b, hb, rfl⟩ := isPt_some h1
    obtain ⟨k, hk, rfl⟩ := isPt_some h2
    obtain ⟨X, ⟨hc, hr⟩, rfl⟩ := isPrf_some h3
    refine ⟨by show 4 ≤ Tryz.f10.ntmps; decide +kernel, (hld_ev a b k X.1 X.2).trans ?_, rfl⟩
    rw [qChk_pt ha, qChk_pt hb, qChk_pt hk, unPt_ptV ha, unPt_ptV hb, unPt_ptV hk, unPrf_prV hc hr]
    cases h1 : ckR a with
    | false => rfl
    | true =>
    cases h2 : ckR b with
    | false => rfl
    | true =>
    cases h3 : ckR k with
    | false => rfl
    | true =>
      rw [show (errP true != 0) = false from rfl, cond_false, cond_false, cond_false, isNum_num, isNum_num, req_true rfl, req_true rfl, unnum_lt hc, unnum_lt hr]
      unfold hldB
      by_cases h4 : X.1 < pN
      · by_cases h5 : X.2 < pN
        · rw [decide_eq_true h4, decide_eq_true h5, Bool.not_true, cond_false, cond_false, qBas_pt lt6_1, bas1, qTwo_ck hr hc gR_ck h1, qTwo_ck hr hc h2 h3, qChc_ck h1 h2 h3 (ck_two _ _ gR_ck h1) (ck_two _ _ h2 h3), eqV_num, Nat.mod_eq_of_lt (dqN_l _), Nat.mod_eq_of_lt hc, decide_eq_decide.2 (eq_comm (a := X.1))]
          rfl
        · rw [decide_eq_true h4, decide_eq_false h5]; rfl
      · rw [decide_eq_false h4]; rfl
  · simp at h
end Go.Proofs.YtafeeiodgfgepaaGreatDoor
/-
  What wakes in layer 9.
-/
namespace Go.Proofs.YtafeeiodgfgepaaGreatDoor
set_option maxRecDepth 100000
open Go.W
open Go.RowKit (Below)
noncomputable def wk9C : Cfg := ⟨tab, [(14, CBasF), (12, CTimF), (5, PrvF), (10, HldF), (21, PrimeF)], 67, []⟩
theorem wk9Ok : CfgOk Tryz.prog wk9C (bodyOf Tryz.f8) := ⟨mixed, tabOk, sums_cons cBa_sum (sums_cons cTi_sum (sums_cons prv_sum (sums_cons hld_sum (sums_cons Prime_sum sums_nil)))), noL⟩
theorem wk9_ev : fnS wk9C 60 Tryz.f8 (bodyOf Tryz.f8) [] = wak9T := by kernel_rfl
theorem wk9_sum : Sum Tryz.prog 8 WkF := by
  refine sum_of wk9Ok Tryz.func8 (by kernel_rfl) (by kernel_rfl) rfl (fuel := 60) fun args v h hpl => ?_
  unfold WkF at h
  split at h
  · simp only [Option.some.injEq, Prod.mk.injEq, true_and] at h
    subst h
    exact ⟨by show 0 ≤ Tryz.f8.ntmps; exact Nat.zero_le _, wk9_ev.trans wak9T_eq, rfl⟩
  · simp at h
end Go.Proofs.YtafeeiodgfgepaaGreatDoor
