/-
  Several texts in one.
-/
import Derived.Test.YtafeeiodgfgepaaDoorSb
import Derived.Test.YtafeeiodgfgepaaDoorEd
import Derived.Test.YtafeeiodgfgepaaDoorSc
import Derived.Test.YtafeeiodgfgepaaDoorSa
/-
  The document's own answers, package curve: what the engine says of their texts, first part.
-/
namespace Go.Proofs.YtafeeiodgfgepaaDoor
set_option maxRecDepth 100000
open Go.W
open Go.RowKit (Below)
end Go.Proofs.YtafeeiodgfgepaaDoor
/-
  The document's own answers, package curve: what the engine says of their texts, second part: sums, multiples.
-/
namespace Go.Proofs.YtafeeiodgfgepaaDoor
set_option maxRecDepth 100000
open Go.W
open Go.RowKit (Below)
def kpC : Cfg := ⟨tab, [], 24, []⟩
theorem kpOk : CfgOk Tryd.prog kpC (bodyOf Tryd.f17) := ⟨mixed, tabOk, sums_nil, noL⟩
theorem kp_ev (i i2 : Bool) (X Y X2 Y2 : Nat) : fnS kpC 60 Tryd.f17 (bodyOf Tryd.f17) [ptV (i, X, Y), ptV (i2, X2, Y2)] = kpT i (num X) (num Y) i2 (num X2) (num Y2) := by kernel_rfl
theorem kp_sum : Sum Tryd.prog 17 KpF := by
  refine sum_of kpOk Tryd.func17 (by kernel_rfl) (by kernel_rfl) rfl (fuel := 60) fun args v h _ => ?_
  unfold KpF at h
  split at h
  · simp only [Option.some.injEq, Prod.mk.injEq, Bool.and_eq_true] at h
    obtain ⟨⟨h1, h2⟩, rfl⟩ := h
    obtain ⟨⟨i, X, Y⟩, hp, rfl⟩ := isPt_some h1
    obtain ⟨⟨i2, X2, Y2⟩, hq, rfl⟩ := isPt_some h2
    rw [unPt_ptV hp, unPt_ptV hq]
    exact ⟨by show 2 ≤ Tryd.f17.ntmps; decide +kernel, (kp_ev i i2 X Y X2 Y2).trans (kpT_eq hp hq), rfl⟩
  · simp at h
end Go.Proofs.YtafeeiodgfgepaaDoor
/-
  The laws of package curve that ask for no bytes: what the engine says of their texts, given the contracts of its functions.
-/
namespace Go.Proofs.YtafeeiodgfgepaaDoor
set_option maxRecDepth 100000
open Go.W
open Go.RowKit (Below)
end Go.Proofs.YtafeeiodgfgepaaDoor
/-
  Package curve as it landed: contracts, first part.
-/
namespace Go.Proofs.YtafeeiodgfgepaaDoor
set_option maxRecDepth 100000
open Go.W
open Go.RowKit (Below)
noncomputable def caddC : Cfg := ⟨tab, [(66, FAddF)], 8, []⟩
theorem caddOk : CfgOk Tryd.prog caddC (bodyOf Tryd.f56) := ⟨mixed, tabOk, (sums_cons FAdd_sum sums_nil), noL⟩
theorem cadd_ev (A : Nat) (B : Nat) : fnS caddC 60 Tryd.f56 (bodyOf Tryd.f56) [(num A), (num B)] = r2 (num A) (num B) (some (av (num A) (num B))) := by kernel_rfl
theorem cadd_sum : Sum Tryd.prog 56 AvF := by
  refine sum_of caddOk Tryd.func56 (by kernel_rfl) (by kernel_rfl) rfl (fuel := 60) fun args v h _ => ?_
  unfold AvF at h
  split at h
  · simp only [Option.some.injEq, Prod.mk.injEq, Bool.and_eq_true] at h
    obtain ⟨⟨h0, h1⟩, rfl⟩ := h
    obtain ⟨A, hA, rfl⟩ := isNum_some h0
    obtain ⟨B, hB, rfl⟩ := isNum_some h1
    exact ⟨by show 2 ≤ Tryd.f56.ntmps; decide +kernel, (cadd_ev A B).trans (by rw [r2_num]), rfl⟩
  · simp at h
noncomputable def csubC : Cfg := ⟨tab, [(15, FSubF)], 8, []⟩
theorem csubOk : CfgOk Tryd.prog csubC (bodyOf Tryd.f57) := ⟨mixed, tabOk, (sums_cons FSub_sum sums_nil), noL⟩
theorem csub_ev (A : Nat) (B : Nat) : fnS csubC 60 Tryd.f57 (bodyOf Tryd.f57) [(num A), (num B)] = r2 (num A) (num B) (some (sv (num A) (num B))) := by kernel_rfl
theorem csub_sum : Sum Tryd.prog 57 SvF := by
  refine sum_of csubOk Tryd.func57 (by kernel_rfl) (by kernel_rfl) rfl (fuel := 60) fun args v h _ => ?_
  unfold SvF at h
  split at h
  · simp only [Option.some.injEq, Prod.mk.injEq, Bool.and_eq_true] at h
    obtain ⟨⟨h0, h1⟩, rfl⟩ := h
    obtain ⟨A, hA, rfl⟩ := isNum_some h0
    obtain ⟨B, hB, rfl⟩ := isNum_some h1
    exact ⟨by show 2 ≤ Tryd.f57.ntmps; decide +kernel, (csub_ev A B).trans (by rw [r2_num]), rfl⟩
  · simp at h
noncomputable def cmulC : Cfg := ⟨tab, [(16, FMulF)], 8, []⟩
theorem cmulOk : CfgOk Tryd.prog cmulC (bodyOf Tryd.f44) := ⟨mixed, tabOk, (sums_cons FMul_sum sums_nil), noL⟩
theorem cmul_ev (A : Nat) (B : Nat) : fnS cmulC 60 Tryd.f44 (bodyOf Tryd.f44) [(num A), (num B)] = r2 (num A) (num B) (some (mv (num A) (num B))) := by kernel_rfl
theorem cmul_sum : Sum Tryd.prog 44 MvF := by
  refine sum_of cmulOk Tryd.func44 (by kernel_rfl) (by kernel_rfl) rfl (fuel := 60) fun args v h _ => ?_
  unfold MvF at h
  split at h
  · simp only [Option.some.injEq, Prod.mk.injEq, Bool.and_eq_true] at h
    obtain ⟨⟨h0, h1⟩, rfl⟩ := h
    obtain ⟨A, hA, rfl⟩ := isNum_some h0
    obtain ⟨B, hB, rfl⟩ := isNum_some h1
    exact ⟨by show 2 ≤ Tryd.f44.ntmps; decide +kernel, (cmul_ev A B).trans (by rw [r2_num]), rfl⟩
  · simp at h
noncomputable def clowC : Cfg := ⟨tab, [(46, CmpF), (9, PrimeF)], 7, []⟩
theorem clowOk : CfgOk Tryd.prog clowC (bodyOf Tryd.f43) := ⟨mixed, tabOk, (sums_cons Cmp_sum (sums_cons Prime_sum sums_nil)), noL⟩
theorem clow_ev (A : Nat) : fnS clowC 60 Tryd.f43 (bodyOf Tryd.f43) [(num A)] = lowPT (num A) := by kernel_rfl
theorem clow_sum : Sum Tryd.prog 43 LowPF := by
  refine sum_of clowOk Tryd.func43 (by kernel_rfl) (by kernel_rfl) rfl (fuel := 60) fun args v h _ => ?_
  unfold LowPF at h
  split at h
  · simp only [Option.some.injEq, Prod.mk.injEq] at h
    obtain ⟨h0, rfl⟩ := h
    obtain ⟨A, hA, rfl⟩ := isNum_some h0
    rw [unnum_lt hA]
    exact ⟨by show 1 ≤ Tryd.f43.ntmps; decide +kernel, (clow_ev A).trans (lowPT_eq hA), rfl⟩
  · simp at h
noncomputable def csqC : Cfg := ⟨tab, [(44, MvF), (56, AvF)], 10, []⟩
theorem csqOk : CfgOk Tryd.prog csqC (bodyOf Tryd.f45) := ⟨mixed, tabOk, (sums_cons cmul_sum (sums_cons cadd_sum sums_nil)), noL⟩
theorem csq_ev (A : Nat) : fnS csqC 60 Tryd.f45 (bodyOf Tryd.f45) [(num A)] = sqT (num A) := by kernel_rfl
theorem csq_sum : Sum Tryd.prog 45 SqAF := by
  refine sum_of csqOk Tryd.func45 (by kernel_rfl) (by kernel_rfl) rfl (fuel := 60) fun args v h _ => ?_
  unfold SqAF at h
  split at h
  · simp only [Option.some.injEq, Prod.mk.injEq] at h
    obtain ⟨h0, rfl⟩ := h
    obtain ⟨A, hA, rfl⟩ := isNum_some h0
    rw [unnum_lt hA]
    exact ⟨by show 1 ≤ Tryd.f45.ntmps; decide +kernel, (csq_ev A).trans (sqT_eq hA), rfl⟩
  · simp at h
noncomputable def cisC : Cfg := ⟨tab, [(44, MvF), (43, LowPF), (45, SqAF)], 27, []⟩
theorem cisOk : CfgOk Tryd.prog cisC (bodyOf Tryd.f20) := ⟨mixed, tabOk, (sums_cons cmul_sum (sums_cons clow_sum (sums_cons csq_sum sums_nil))), noL⟩
theorem cis_ev (ip : Bool) (Xp Yp : Nat) : fnS cisC 60 Tryd.f20 (bodyOf Tryd.f20) [(ptV (ip, Xp, Yp))] = isPT ip (num Xp) (num Yp) := by kernel_rfl
theorem cis_sum : Sum Tryd.prog 20 CkF := by
  refine sum_of cisOk Tryd.func20 (by kernel_rfl) (by kernel_rfl) rfl (fuel := 60) fun args v h _ => ?_
  unfold CkF at h
  split at h
  · simp only [Option.some.injEq, Prod.mk.injEq] at h
    obtain ⟨h0, rfl⟩ := h
    obtain ⟨⟨ip, Xp, Yp⟩, ⟨hXp, hYp⟩, rfl⟩ := isPt_some h0
    rw [unPt_ptV (r := (ip, Xp, Yp)) ⟨hXp, hYp⟩]
    exact ⟨by show 1 ≤ Tryd.f20.ntmps; decide +kernel, (cis_ev ip Xp Yp).trans (isPT_eq hXp hYp), rfl⟩
  · simp at h
noncomputable def cchkC : Cfg := ⟨tab, [(20, CkF)], 5, []⟩
theorem cchkOk : CfgOk Tryd.prog cchkC (bodyOf Tryd.f22) := ⟨mixed, tabOk, (sums_cons cis_sum sums_nil), noL⟩
theorem cchk_ev (p : RP) : fnS cchkC 60 Tryd.f22 (bodyOf Tryd.f22) [(ptV p)] = chkT (ptV p) := by kernel_rfl
theorem cchk_sum : Sum Tryd.prog 22 CChkF := by
  refine sum_of cchkOk Tryd.func22 (by kernel_rfl) (by kernel_rfl) rfl (fuel := 60) fun args v h _ => ?_
  unfold CChkF at h
  split at h
  · simp only [Option.some.injEq, Prod.mk.injEq] at h
    obtain ⟨h0, rfl⟩ := h
    obtain ⟨p, hp, rfl⟩ := isPt_some h0
    rw [unPt_ptV hp]
    exact ⟨by show 1 ≤ Tryd.f22.ntmps; decide +kernel, (cchk_ev p).trans (chkT_eq hp), rfl⟩
  · simp at h
noncomputable def clifC : Cfg := ⟨tab, [], 12, []⟩
theorem clifOk : CfgOk Tryd.prog clifC (bodyOf Tryd.f59) := ⟨mixed, tabOk, sums_nil, noL⟩
theorem clif_ev (ip : Bool) (Xp Yp : Nat) : fnS clifC 60 Tryd.f59 (bodyOf Tryd.f59) [(ptV (ip, Xp, Yp))] = lfT ip (num Xp) (num Yp) := by kernel_rfl
theorem clif_sum : Sum Tryd.prog 59 LiftF := by
  refine sum_of clifOk Tryd.func59 (by kernel_rfl) (by kernel_rfl) rfl (fuel := 60) fun args v h _ => ?_
  unfold LiftF at h
  split at h
  · simp only [Option.some.injEq, Prod.mk.injEq] at h
    obtain ⟨h0, rfl⟩ := h
    obtain ⟨⟨ip, Xp, Yp⟩, ⟨hXp, hYp⟩, rfl⟩ := isPt_some h0
    rw [unPt_ptV (r := (ip, Xp, Yp)) ⟨hXp, hYp⟩]
    exact ⟨by show 1 ≤ Tryd.f59.ntmps; decide +kernel, (clif_ev ip Xp Yp).trans (lfT_eq ip Xp Yp), rfl⟩
  · simp at h
noncomputable def cisiC : Cfg := ⟨tab, [], 7, []⟩
theorem cisiOk : CfgOk Tryd.prog cisiC (bodyOf Tryd.f58) := ⟨mixed, tabOk, sums_nil, noL⟩
theorem cisi_ev (Xt Yt Zt : Nat) : fnS cisiC 60 Tryd.f58 (bodyOf Tryd.f58) [(jacV (Xt, Yt, Zt))] = isIT (num Zt) := by kernel_rfl
theorem cisi_sum : Sum Tryd.prog 58 IsIF := by
  refine sum_of cisiOk Tryd.func58 (by kernel_rfl) (by kernel_rfl) rfl (fuel := 60) fun args v h _ => ?_
  unfold IsIF at h
  split at h
  · simp only [Option.some.injEq, Prod.mk.injEq] at h
    obtain ⟨h0, rfl⟩ := h
    obtain ⟨⟨Xt, Yt, Zt⟩, ⟨hXt, hYt, hZt⟩, rfl⟩ := isJac_some h0
    rw [unJ_jacV (t := (Xt, Yt, Zt)) ⟨hXt, hYt, hZt⟩]
    exact ⟨by show 1 ≤ Tryd.f58.ntmps; decide +kernel, (cisi_ev Xt Yt Zt).trans (isIT_eq hZt), rfl⟩
  · simp at h
noncomputable def cpttC : Cfg := ⟨tab, [(58, IsIF), (61, InvF), (44, MvF)], 25, []⟩
theorem cpttOk : CfgOk Tryd.prog cpttC (bodyOf Tryd.f42) := ⟨mixed, tabOk, (sums_cons cisi_sum (sums_cons Inv_sum (sums_cons cmul_sum sums_nil))), noL⟩
theorem cptt_ev (Xt Yt Zt : Nat) : fnS cpttC 60 Tryd.f42 (bodyOf Tryd.f42) [(jacV (Xt, Yt, Zt))] = ptT (num Xt) (num Yt) (num Zt) := by kernel_rfl
theorem cptt_sum : Sum Tryd.prog 42 PtF := by
  refine sum_of cpttOk Tryd.func42 (by kernel_rfl) (by kernel_rfl) rfl (fuel := 60) fun args v h _ => ?_
  unfold PtF at h
  split at h
  · simp only [Option.some.injEq, Prod.mk.injEq] at h
    obtain ⟨h0, rfl⟩ := h
    obtain ⟨⟨Xt, Yt, Zt⟩, ⟨hXt, hYt, hZt⟩, rfl⟩ := isJac_some h0
    rw [unJ_jacV (t := (Xt, Yt, Zt)) ⟨hXt, hYt, hZt⟩]
    exact ⟨by show 1 ≤ Tryd.f42.ntmps; decide +kernel, (cptt_ev Xt Yt Zt).trans (ptT_eq hXt hYt hZt), rfl⟩
  · simp at h
noncomputable def cdblC : Cfg := ⟨tab, [(44, MvF), (56, AvF), (57, SvF)], 58, []⟩
theorem cdblOk : CfgOk Tryd.prog cdblC (bodyOf Tryd.f40) := ⟨mixed, tabOk, (sums_cons cmul_sum (sums_cons cadd_sum (sums_cons csub_sum sums_nil))), noL⟩
theorem cdbl_ev (Xt Yt Zt : Nat) : fnS cdblC 60 Tryd.f40 (bodyOf Tryd.f40) [(jacV (Xt, Yt, Zt))] = dbT (num Xt) (num Yt) (num Zt) := by kernel_rfl
theorem cdbl_sum : Sum Tryd.prog 40 DblF := by
  refine sum_of cdblOk Tryd.func40 (by kernel_rfl) (by kernel_rfl) rfl (fuel := 60) fun args v h _ => ?_
  unfold DblF at h
  split at h
  · simp only [Option.some.injEq, Prod.mk.injEq] at h
    obtain ⟨h0, rfl⟩ := h
    obtain ⟨⟨Xt, Yt, Zt⟩, ⟨hXt, hYt, hZt⟩, rfl⟩ := isJac_some h0
    rw [unJ_jacV (t := (Xt, Yt, Zt)) ⟨hXt, hYt, hZt⟩]
    exact ⟨by show 1 ≤ Tryd.f40.ntmps; decide +kernel, (cdbl_ev Xt Yt Zt).trans (dbT_eq hXt hYt hZt), rfl⟩
  · simp at h
noncomputable def csamC : Cfg := ⟨tab, [(40, DblF)], 11, []⟩
theorem csamOk : CfgOk Tryd.prog csamC (bodyOf Tryd.f60) := ⟨mixed, tabOk, (sums_cons cdbl_sum sums_nil), noL⟩
theorem csam_ev (t : N3) (A : Nat) : fnS csamC 60 Tryd.f60 (bodyOf Tryd.f60) [(jacV t), (num A)] = samT (jacV t) (num A) := by kernel_rfl
theorem csam_sum : Sum Tryd.prog 60 SamF := by
  refine sum_of csamOk Tryd.func60 (by kernel_rfl) (by kernel_rfl) rfl (fuel := 60) fun args v h _ => ?_
  unfold SamF at h
  split at h
  · simp only [Option.some.injEq, Prod.mk.injEq, Bool.and_eq_true] at h
    obtain ⟨⟨h0, h1⟩, rfl⟩ := h
    obtain ⟨t, ht, rfl⟩ := isJac_some h0
    obtain ⟨A, hA, rfl⟩ := isNum_some h1
    rw [unJ_jacV ht, unnum_lt hA]
    exact ⟨by show 2 ≤ Tryd.f60.ntmps; decide +kernel, (csam_ev t A).trans (samT_eq ht hA), rfl⟩
  · simp at h
noncomputable def cplsC : Cfg := ⟨tab, [(44, MvF), (56, AvF), (57, SvF), (58, IsIF), (59, LiftF), (60, SamF)], 84, []⟩
theorem cplsOk : CfgOk Tryd.prog cplsC (bodyOf Tryd.f41) := ⟨mixed, tabOk, (sums_cons cmul_sum (sums_cons cadd_sum (sums_cons csub_sum (sums_cons cisi_sum (sums_cons clif_sum (sums_cons csam_sum sums_nil)))))), noL⟩
theorem cpls_ev (Xt Yt Zt : Nat) (ip : Bool) (Xp Yp : Nat) : fnS cplsC 60 Tryd.f41 (bodyOf Tryd.f41) [(jacV (Xt, Yt, Zt)), (ptV (ip, Xp, Yp))] = psT (jacV (Xt, Yt, Zt)) (num Xt) (num Yt) (num Zt) ip (num Xp) (num Yp) := by kernel_rfl
theorem cpls_sum : Sum Tryd.prog 41 PlsF := by
  refine sum_of cplsOk Tryd.func41 (by kernel_rfl) (by kernel_rfl) rfl (fuel := 60) fun args v h _ => ?_
  unfold PlsF at h
  split at h
  · simp only [Option.some.injEq, Prod.mk.injEq, Bool.and_eq_true] at h
    obtain ⟨⟨h0, h1⟩, rfl⟩ := h
    obtain ⟨⟨Xt, Yt, Zt⟩, ⟨hXt, hYt, hZt⟩, rfl⟩ := isJac_some h0
    obtain ⟨⟨ip, Xp, Yp⟩, ⟨hXp, hYp⟩, rfl⟩ := isPt_some h1
    rw [unJ_jacV (t := (Xt, Yt, Zt)) ⟨hXt, hYt, hZt⟩, unPt_ptV (r := (ip, Xp, Yp)) ⟨hXp, hYp⟩]
    exact ⟨by show 2 ≤ Tryd.f41.ntmps; decide +kernel, (cpls_ev Xt Yt Zt ip Xp Yp).trans (psT_eq hXt hYt hZt hXp hYp), rfl⟩
  · simp at h
noncomputable def cgC : Cfg := ⟨tab, [], 4, []⟩
theorem cgOk : CfgOk Tryd.prog cgC (bodyOf Tryd.f19) := ⟨mixed, tabOk, sums_nil, noL⟩
theorem cg_ev  : fnS cgC 60 Tryd.f19 (bodyOf Tryd.f19) [] = some (ptV (false, gXn, gYn)) := by kernel_rfl
theorem cg_sum : Sum Tryd.prog 19 GF := by
  refine sum_of cgOk Tryd.func19 (by kernel_rfl) (by kernel_rfl) rfl (fuel := 60) fun args v h _ => ?_
  unfold GF at h
  split at h
  · simp only [Option.some.injEq, Prod.mk.injEq, true_and] at h
    subst h
    exact ⟨by show 0 ≤ Tryd.f19.ntmps; decide +kernel, (cg_ev ).trans (rfl), rfl⟩
  · simp at h
end Go.Proofs.YtafeeiodgfgepaaDoor
/-
  Package curve as it landed: contracts, second part; its laws without bytes.
-/
namespace Go.Proofs.YtafeeiodgfgepaaDoor
set_option maxRecDepth 100000
open Go.W
open Go.RowKit (Below)
def csoNt : List Nat := [4, 5, 6, 7, 8, 9, 10]
def csoNi : List Nat := [0, 1, 2, 3, 4, 6]
def csoSt (n : Nat) (p : RP) (m : Nat) (q : RP) (t : N3) (i : Int) : St :=
  ⟨[(4, ptr 0), (5, ptr 1), (6, ptr 2), (7, ptr 3), (8, ptr 4), (9, ptr 6), (10, i64 i)],
   [(0, ⟨cells4 n, 24, true⟩), (1, ⟨ptC p, 26, true⟩), (2, ⟨cells4 m, 24, true⟩), (3, ⟨ptC q, 26, true⟩), (4, ⟨ptC zR, 26, true⟩), (6, ⟨jacC t, 75, true⟩)], 15⟩
def csoC0 : Cfg := ⟨tab, [(40, DblF), (26, BitF), (41, PlsF)], 40, []⟩
theorem csoOk0 : CfgOk Tryd.prog csoC0 (bodyOf Tryd.f18) := ⟨mixed, tabOk, sums_cons cdbl_sum (sums_cons Bit_sum (sums_cons cpls_sum sums_nil)), noL⟩
theorem cso_at : codeAt [1, 1, 0, 1, 0] (bodyOf Tryd.f18) = some (.loop (loopAt [1, 1, 0, 1, 0] (bodyOf Tryd.f18))) := by kernel_rfl
theorem cso_r (n : Nat) (p : RP) (m : Nat) (q : RP) (t : N3) (i : Int) : roundS csoC0 60 [1, 1, 0, 1, 0, 0] (loopAt [1, 1, 0, 1, 0] (bodyOf Tryd.f18)) csoNt csoNi 15 csoNt csoNi 15 (csoSt n p m q t i) =
    bif decide (i ≥ 0) then suR n p m q t i (fun t => some (.normal, csoSt n p m q t (IntKind.i64.wrap (i - 1)))) else some (.exit 0, csoSt n p m q t i) := by kernel_rfl
noncomputable def csoC (n : Nat) (p : RP) (m : Nat) (q : RP) (t : N3) (i : Int) : Cfg := ⟨tab, [(39, LenF), (42, PtF)], 40, [([1, 1, 0, 1, 0], atSt csoNt csoNi 15 (csoSt n p m q (0, 0, 0) i) (.exit 0) (csoSt n p m q t (-1)))]⟩
theorem cso_ev (n : Nat) (p : RP) (m : Nat) (q : RP) (t : N3) (i : Int) : fnS (csoC n p m q t i) 60 Tryd.f18 (bodyOf Tryd.f18) [num n, ptV p, num m, ptV q] =
    req (isNum (num n)) (req (isNum (num m)) (req (stEq (csoSt n p m q (0, 0, 0) (IntKind.i64.wrap ((if ((bitLen (unnum (num m)) : Nat) : Int) > ((bitLen (unnum (num n)) : Nat) : Int) then ((bitLen (unnum (num m)) : Nat) : Int) else ((bitLen (unnum (num n)) : Nat) : Int)) - 1))) (csoSt n p m q (0, 0, 0) i))
      (req (isJac (jacV t)) (some (ptV (ptR (unJ (jacV t)))))))) := by kernel_rfl
theorem sumOf_sum : Sum Tryd.prog 18 SuOF := by
  intro args v h
  unfold SuOF at h
  split at h
  · rename_i n0 p0 m0 q0
    simp only [Option.some.injEq, Prod.mk.injEq, Bool.and_eq_true] at h
    obtain ⟨⟨⟨⟨⟨⟨h1, h2⟩, h3⟩, h4⟩, c1⟩, c2⟩, rfl⟩ := h
    obtain ⟨n, hn, rfl⟩ := isNum_some h1
    obtain ⟨p, hp, rfl⟩ := isPt_some h2
    obtain ⟨m, hm, rfl⟩ := isNum_some h3
    obtain ⟨q, hq, rfl⟩ := isPt_some h4
    simp only [unnum_lt hn, unnum_lt hm, unPt_ptV hp, unPt_ptV hq] at c1 c2 ⊢
    obtain ⟨L, hL1, hL2, hL3, hL⟩ : ∃ L : Nat, bitLen n ≤ L ∧ bitLen m ≤ L ∧ L ≤ 256 ∧ ((if ((bitLen m : Nat) : Int) > ((bitLen n : Nat) : Int) then ((bitLen m : Nat) : Int) else ((bitLen n : Nat) : Int)) : Int) = (L : Int) := by
      have a1 := bitLen_lt hn
      have a2 := bitLen_lt hm
      split
      · exact ⟨bitLen m, by omega, by omega, a2, rfl⟩
      · exact ⟨bitLen n, by omega, by omega, a1, rfl⟩
    have hLo : LoopOk Tryd.prog 40 (loopAt [1, 1, 0, 1, 0] (bodyOf Tryd.f18)) (atSt csoNt csoNi 15 (csoSt n p m q (0, 0, 0) ((L : Int) - 1)) (.exit 0) (csoSt n p m q (smK n p m q L L) (-1))) := by
      refine atSt_ok fun w0 R a W hrel => ?_
      refine loop_rounds (R := R) (C := csoC0) csoOk0 cso_at (m := 60) (nt := csoNt) (ni := csoNi) (et := csoNt) (ei := csoNi) (nx := 15) (ex := 15) (e := .exit 0) (sf := csoSt n p m q (smK n p m q L L) (-1))
        (fun k => csoSt n p m q (smK n p m q L k) ((L : Int) - 1 - (k : Int))) L (by intro h; cases h) ?_ ?_ ?_
      · intro k hk
        refine (cso_r _ _ _ _ _ _).trans ?_
        rw [decide_eq_true (by omega), cond_true, suR_eq hn hm hp hq hL3 hk, wrap_i64 (by omega), show ((L : Int) - 1 - (k : Int) - 1) = (L : Int) - 1 - ((k + 1 : Nat) : Int) from by omega]
      · refine (cso_r _ _ _ _ _ _).trans ?_
        have e : (L : Int) - 1 - ((L : Nat) : Int) = -1 := by omega
        rw [e]; rfl
      · rw [show (L : Int) - 1 - ((0 : Nat) : Int) = (L : Int) - 1 from by omega]; exact hrel
    have hOk : CfgOk Tryd.prog (csoC n p m q (smK n p m q L L) ((L : Int) - 1)) (bodyOf Tryd.f18) := ⟨mixed, tabOk, sums_cons Len_sum (sums_cons cptt_sum sums_nil), oneL hLo⟩
    refine sum_at hOk Tryd.func18 (by kernel_rfl) (by kernel_rfl) rfl (fuel := 60) (by show 4 ≤ Tryd.f18.ntmps; decide +kernel) ?_ rfl
    refine (cso_ev n p m q _ _).trans ?_
    rw [isNum_num, isNum_num, req_true rfl, req_true rfl, unnum_lt hn, unnum_lt hm, hL, wrap_i64 (by omega), req_true (stEq_refl rfl), isJac_jacV, req_true rfl, unJ_jacV (okJ_sm n hp m hq L L), J3_smL c1 c2 (lt_bitLen hL1) (lt_bitLen hL2)]
  · simp at h
noncomputable def cTiC : Cfg := ⟨tab, [(20, CkF), (18, SuOF)], 15, []⟩
theorem cTiOk : CfgOk Tryd.prog cTiC (bodyOf Tryd.f6) := ⟨mixed, tabOk, (sums_cons cis_sum (sums_cons sumOf_sum sums_nil)), noL⟩
theorem cTi_ev (n : Nat) (p : RP) : fnS cTiC 60 Tryd.f6 (bodyOf Tryd.f6) [(num n), (ptV p)] = cTimT (num n) (ptV p) := by kernel_rfl
theorem cTi_sum : Sum Tryd.prog 6 CTimF := by
  refine sum_of cTiOk Tryd.func6 (by kernel_rfl) (by kernel_rfl) rfl (fuel := 60) fun args v h _ => ?_
  unfold CTimF at h
  split at h
  · simp only [Option.some.injEq, Prod.mk.injEq, Bool.and_eq_true] at h
    obtain ⟨⟨h0, h1⟩, rfl⟩ := h
    obtain ⟨n, hn, rfl⟩ := isNum_some h0
    obtain ⟨p, hp, rfl⟩ := isPt_some h1
    rw [unnum_lt hn, unPt_ptV hp]
    exact ⟨by show 2 ≤ Tryd.f6.ntmps; decide +kernel, (cTi_ev n p).trans (cTimT_eq hn hp), rfl⟩
  · simp at h
noncomputable def cBaC : Cfg := ⟨tab, [(19, GF), (18, SuOF)], 8, []⟩
theorem cBaOk : CfgOk Tryd.prog cBaC (bodyOf Tryd.f5) := ⟨mixed, tabOk, (sums_cons cg_sum (sums_cons sumOf_sum sums_nil)), noL⟩
theorem cBa_ev (n : Nat) : fnS cBaC 60 Tryd.f5 (bodyOf Tryd.f5) [(num n)] = cBasT (num n) := by kernel_rfl
theorem cBa_sum : Sum Tryd.prog 5 CBasF := by
  refine sum_of cBaOk Tryd.func5 (by kernel_rfl) (by kernel_rfl) rfl (fuel := 60) fun args v h _ => ?_
  unfold CBasF at h
  split at h
  · simp only [Option.some.injEq, Prod.mk.injEq] at h
    obtain ⟨h0, rfl⟩ := h
    obtain ⟨n, hn, rfl⟩ := isNum_some h0
    rw [unnum_lt hn]
    exact ⟨by show 1 ≤ Tryd.f5.ntmps; decide +kernel, (cBa_ev n).trans (cBasT_eq hn), rfl⟩
  · simp at h
noncomputable def cTwC : Cfg := ⟨tab, [(20, CkF), (18, SuOF)], 24, []⟩
theorem cTwOk : CfgOk Tryd.prog cTwC (bodyOf Tryd.f14) := ⟨mixed, tabOk, (sums_cons cis_sum (sums_cons sumOf_sum sums_nil)), noL⟩
theorem cTw_ev (n : Nat) (p : RP) (m : Nat) (q : RP) : fnS cTwC 60 Tryd.f14 (bodyOf Tryd.f14) [(num n), (ptV p), (num m), (ptV q)] = cTwoT (num n) (ptV p) (num m) (ptV q) := by kernel_rfl
theorem cTw_sum : Sum Tryd.prog 14 CTwoF := by
  refine sum_of cTwOk Tryd.func14 (by kernel_rfl) (by kernel_rfl) rfl (fuel := 60) fun args v h _ => ?_
  unfold CTwoF at h
  split at h
  · simp only [Option.some.injEq, Prod.mk.injEq, Bool.and_eq_true] at h
    obtain ⟨⟨⟨⟨h0, h1⟩, h2⟩, h3⟩, rfl⟩ := h
    obtain ⟨n, hn, rfl⟩ := isNum_some h0
    obtain ⟨p, hp, rfl⟩ := isPt_some h1
    obtain ⟨m, hm, rfl⟩ := isNum_some h2
    obtain ⟨q, hq, rfl⟩ := isPt_some h3
    rw [unnum_lt hn, unPt_ptV hp, unnum_lt hm, unPt_ptV hq]
    exact ⟨by show 4 ≤ Tryd.f14.ntmps; decide +kernel, (cTw_ev n p m q).trans (cTwoT_eq hn hm hp hq), rfl⟩
  · simp at h
end Go.Proofs.YtafeeiodgfgepaaDoor
/-
  Bytes, held against one another; twins.
-/
namespace Go.Proofs.YtafeeiodgfgepaaDoor
set_option maxRecDepth 100000
open Go.W
open Go.RowKit (Below)
end Go.Proofs.YtafeeiodgfgepaaDoor
/-
  The bytes of points.
-/
namespace Go.Proofs.YtafeeiodgfgepaaDoor
set_option maxRecDepth 100000
open Go.W
open Go.RowKit (Below)
def cbyC : Cfg := ⟨tab, [(20, CkF), (25, BytesF), (26, BitF)], 22, []⟩
theorem cbyOk : CfgOk Tryd.prog cbyC (bodyOf Tryd.f12) := ⟨mixed, tabOk, sums_cons cis_sum (sums_cons Bytes_sum (sums_cons Bit_sum sums_nil)), noL⟩
theorem cby_ev (i : Bool) (X Y : Nat) (es : Nat → Nat) (id : Nat) : fnMS cbyC 60 Tryd.f12 (bodyOf Tryd.f12) (cArgs [.pl (ptV (i, X, Y))] 0) (cMem es [.pl (ptV (i, X, Y))] 0) 0 id = cBytT 5 id i (num X) (num Y) := by kernel_rfl
theorem cby_msum : MSum Tryd.prog 12 (CBytF 5) := by
  refine msum_of (fuel := 60) (next := 0) cbyOk Tryd.func12 (by kernel_rfl) (by kernel_rfl) rfl fun vs mm id v l hpick hlt => ?_
  match vs, hpick with
  | [a], hpick =>
    obtain ⟨r, hr, rfl⟩ : ∃ r, okR r ∧ a = ptV r := by
      cases hc : isPt a with
      | true => exact isPt_some hc
      | false => rw [CBytF_eq, hc] at hpick; simp [pickM] at hpick
    obtain ⟨i, X, Y⟩ := r
    refine ⟨[.pl (ptV (i, X, Y))], ⟨rfl, rfl, trivial⟩, by show 1 ≤ Tryd.f12.ntmps; decide +kernel, CBytF_one hpick, fun es => ?_⟩
    exact (cby_ev i X Y es id).trans ((cBytT_eq hr.1 hr.2).trans hpick)
  | [], h => simp [CBytF, pickM] at h
  | _ :: _ :: _, h => simp [CBytF, pickM] at h
end Go.Proofs.YtafeeiodgfgepaaDoor
