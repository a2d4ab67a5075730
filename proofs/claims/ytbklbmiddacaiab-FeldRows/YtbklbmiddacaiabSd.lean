/-
  Several texts in one.
-/
import Derived.Test.YtbklbmiddacaiabSb
import Derived.Test.YtbklbmiddacaiabEd
import Derived.Test.YtbklbmiddacaiabSc
/-
  The document's own answers, package curve: what the engine says of their texts, first part.
-/
namespace Go.Proofs.Ytbklbmiddacaiab
set_option maxRecDepth 100000
open Go.W
open Go.RowKit (Below)

end Go.Proofs.Ytbklbmiddacaiab

/-
  The document's own answers, package curve: what the engine says of their texts, second part: sums, multiples.
-/
namespace Go.Proofs.Ytbklbmiddacaiab
set_option maxRecDepth 100000
open Go.W
open Go.RowKit (Below)

def kpC : Cfg := ⟨tab, [], 24, []⟩
theorem kpOk : CfgOk Try.prog kpC (bodyOf Try.f8) := ⟨mixed, tabOk, sums_nil, noL⟩
theorem kp_ev (i i2 : Bool) (X Y X2 Y2 : Nat) : fnS kpC 60 Try.f8 (bodyOf Try.f8) [ptV (i, X, Y), ptV (i2, X2, Y2)] = kpT i (num X) (num Y) i2 (num X2) (num Y2) := by kernel_rfl
theorem kp_sum : Sum Try.prog 8 KpF := by
  refine sum_of kpOk Try.func8 (by kernel_rfl) (by kernel_rfl) rfl (fuel := 60) fun args v h _ => ?_
  unfold KpF at h
  split at h
  · simp only [Option.some.injEq, Prod.mk.injEq, Bool.and_eq_true] at h
    obtain ⟨⟨h1, h2⟩, rfl⟩ := h
    obtain ⟨⟨i, X, Y⟩, hp, rfl⟩ := isPt_some h1
    obtain ⟨⟨i2, X2, Y2⟩, hq, rfl⟩ := isPt_some h2
    rw [unPt_ptV hp, unPt_ptV hq]
    exact ⟨by show 2 ≤ Try.f8.ntmps; decide +kernel, (kp_ev i i2 X Y X2 Y2).trans (kpT_eq hp hq), rfl⟩
  · simp at h

end Go.Proofs.Ytbklbmiddacaiab

/-
  The laws of package curve that ask for no bytes: what the engine says of their texts, given the contracts of its functions.
-/
namespace Go.Proofs.Ytbklbmiddacaiab
set_option maxRecDepth 100000
open Go.W
open Go.RowKit (Below)


end Go.Proofs.Ytbklbmiddacaiab

/-
  Package curve as it landed: contracts, first part.
-/
namespace Go.Proofs.Ytbklbmiddacaiab
set_option maxRecDepth 100000
open Go.W
open Go.RowKit (Below)

noncomputable def caddC : Cfg := ⟨tab, [(41, FAddF)], 8, []⟩
theorem caddOk : CfgOk Try.prog caddC (bodyOf Try.f31) := ⟨mixed, tabOk, (sums_cons FAdd_sum sums_nil), noL⟩
theorem cadd_ev (A : Nat) (B : Nat) : fnS caddC 60 Try.f31 (bodyOf Try.f31) [(num A), (num B)] = r2 (num A) (num B) (some (av (num A) (num B))) := by kernel_rfl
theorem cadd_sum : Sum Try.prog 31 AvF := by
  refine sum_of caddOk Try.func31 (by kernel_rfl) (by kernel_rfl) rfl (fuel := 60) fun args v h _ => ?_
  unfold AvF at h
  split at h
  · simp only [Option.some.injEq, Prod.mk.injEq, Bool.and_eq_true] at h
    obtain ⟨⟨h0, h1⟩, rfl⟩ := h
    obtain ⟨A, hA, rfl⟩ := isNum_some h0
    obtain ⟨B, hB, rfl⟩ := isNum_some h1
    exact ⟨by show 2 ≤ Try.f31.ntmps; decide +kernel, (cadd_ev A B).trans (by rw [r2_num]), rfl⟩
  · simp at h

noncomputable def csubC : Cfg := ⟨tab, [(40, FSubF)], 8, []⟩
theorem csubOk : CfgOk Try.prog csubC (bodyOf Try.f29) := ⟨mixed, tabOk, (sums_cons FSub_sum sums_nil), noL⟩
theorem csub_ev (A : Nat) (B : Nat) : fnS csubC 60 Try.f29 (bodyOf Try.f29) [(num A), (num B)] = r2 (num A) (num B) (some (sv (num A) (num B))) := by kernel_rfl
theorem csub_sum : Sum Try.prog 29 SvF := by
  refine sum_of csubOk Try.func29 (by kernel_rfl) (by kernel_rfl) rfl (fuel := 60) fun args v h _ => ?_
  unfold SvF at h
  split at h
  · simp only [Option.some.injEq, Prod.mk.injEq, Bool.and_eq_true] at h
    obtain ⟨⟨h0, h1⟩, rfl⟩ := h
    obtain ⟨A, hA, rfl⟩ := isNum_some h0
    obtain ⟨B, hB, rfl⟩ := isNum_some h1
    exact ⟨by show 2 ≤ Try.f29.ntmps; decide +kernel, (csub_ev A B).trans (by rw [r2_num]), rfl⟩
  · simp at h

noncomputable def cmulC : Cfg := ⟨tab, [(39, FMulF)], 8, []⟩
theorem cmulOk : CfgOk Try.prog cmulC (bodyOf Try.f26) := ⟨mixed, tabOk, (sums_cons FMul_sum sums_nil), noL⟩
theorem cmul_ev (A : Nat) (B : Nat) : fnS cmulC 60 Try.f26 (bodyOf Try.f26) [(num A), (num B)] = r2 (num A) (num B) (some (mv (num A) (num B))) := by kernel_rfl
theorem cmul_sum : Sum Try.prog 26 MvF := by
  refine sum_of cmulOk Try.func26 (by kernel_rfl) (by kernel_rfl) rfl (fuel := 60) fun args v h _ => ?_
  unfold MvF at h
  split at h
  · simp only [Option.some.injEq, Prod.mk.injEq, Bool.and_eq_true] at h
    obtain ⟨⟨h0, h1⟩, rfl⟩ := h
    obtain ⟨A, hA, rfl⟩ := isNum_some h0
    obtain ⟨B, hB, rfl⟩ := isNum_some h1
    exact ⟨by show 2 ≤ Try.f26.ntmps; decide +kernel, (cmul_ev A B).trans (by rw [r2_num]), rfl⟩
  · simp at h

noncomputable def clowC : Cfg := ⟨tab, [(38, CmpF), (37, PrimeF)], 7, []⟩
theorem clowOk : CfgOk Try.prog clowC (bodyOf Try.f25) := ⟨mixed, tabOk, (sums_cons Cmp_sum (sums_cons Prime_sum sums_nil)), noL⟩
theorem clow_ev (A : Nat) : fnS clowC 60 Try.f25 (bodyOf Try.f25) [(num A)] = lowPT (num A) := by kernel_rfl
theorem clow_sum : Sum Try.prog 25 LowPF := by
  refine sum_of clowOk Try.func25 (by kernel_rfl) (by kernel_rfl) rfl (fuel := 60) fun args v h _ => ?_
  unfold LowPF at h
  split at h
  · simp only [Option.some.injEq, Prod.mk.injEq] at h
    obtain ⟨h0, rfl⟩ := h
    obtain ⟨A, hA, rfl⟩ := isNum_some h0
    rw [unnum_lt hA]
    exact ⟨by show 1 ≤ Try.f25.ntmps; decide +kernel, (clow_ev A).trans (lowPT_eq hA), rfl⟩
  · simp at h

noncomputable def csqC : Cfg := ⟨tab, [(26, MvF), (31, AvF)], 10, []⟩
theorem csqOk : CfgOk Try.prog csqC (bodyOf Try.f27) := ⟨mixed, tabOk, (sums_cons cmul_sum (sums_cons cadd_sum sums_nil)), noL⟩
theorem csq_ev (A : Nat) : fnS csqC 60 Try.f27 (bodyOf Try.f27) [(num A)] = sqT (num A) := by kernel_rfl
theorem csq_sum : Sum Try.prog 27 SqAF := by
  refine sum_of csqOk Try.func27 (by kernel_rfl) (by kernel_rfl) rfl (fuel := 60) fun args v h _ => ?_
  unfold SqAF at h
  split at h
  · simp only [Option.some.injEq, Prod.mk.injEq] at h
    obtain ⟨h0, rfl⟩ := h
    obtain ⟨A, hA, rfl⟩ := isNum_some h0
    rw [unnum_lt hA]
    exact ⟨by show 1 ≤ Try.f27.ntmps; decide +kernel, (csq_ev A).trans (sqT_eq hA), rfl⟩
  · simp at h

noncomputable def cisC : Cfg := ⟨tab, [(26, MvF), (25, LowPF), (27, SqAF)], 27, []⟩
theorem cisOk : CfgOk Try.prog cisC (bodyOf Try.f15) := ⟨mixed, tabOk, (sums_cons cmul_sum (sums_cons clow_sum (sums_cons csq_sum sums_nil))), noL⟩
theorem cis_ev (ip : Bool) (Xp Yp : Nat) : fnS cisC 60 Try.f15 (bodyOf Try.f15) [(ptV (ip, Xp, Yp))] = isPT ip (num Xp) (num Yp) := by kernel_rfl
theorem cis_sum : Sum Try.prog 15 CkF := by
  refine sum_of cisOk Try.func15 (by kernel_rfl) (by kernel_rfl) rfl (fuel := 60) fun args v h _ => ?_
  unfold CkF at h
  split at h
  · simp only [Option.some.injEq, Prod.mk.injEq] at h
    obtain ⟨h0, rfl⟩ := h
    obtain ⟨⟨ip, Xp, Yp⟩, ⟨hXp, hYp⟩, rfl⟩ := isPt_some h0
    rw [unPt_ptV (r := (ip, Xp, Yp)) ⟨hXp, hYp⟩]
    exact ⟨by show 1 ≤ Try.f15.ntmps; decide +kernel, (cis_ev ip Xp Yp).trans (isPT_eq hXp hYp), rfl⟩
  · simp at h

noncomputable def cchkC : Cfg := ⟨tab, [(15, CkF)], 5, []⟩
theorem cchkOk : CfgOk Try.prog cchkC (bodyOf Try.f22) := ⟨mixed, tabOk, (sums_cons cis_sum sums_nil), noL⟩
theorem cchk_ev (p : RP) : fnS cchkC 60 Try.f22 (bodyOf Try.f22) [(ptV p)] = chkT (ptV p) := by kernel_rfl
theorem cchk_sum : Sum Try.prog 22 CChkF := by
  refine sum_of cchkOk Try.func22 (by kernel_rfl) (by kernel_rfl) rfl (fuel := 60) fun args v h _ => ?_
  unfold CChkF at h
  split at h
  · simp only [Option.some.injEq, Prod.mk.injEq] at h
    obtain ⟨h0, rfl⟩ := h
    obtain ⟨p, hp, rfl⟩ := isPt_some h0
    rw [unPt_ptV hp]
    exact ⟨by show 1 ≤ Try.f22.ntmps; decide +kernel, (cchk_ev p).trans (chkT_eq hp), rfl⟩
  · simp at h

noncomputable def clifC : Cfg := ⟨tab, [], 12, []⟩
theorem clifOk : CfgOk Try.prog clifC (bodyOf Try.f17) := ⟨mixed, tabOk, sums_nil, noL⟩
theorem clif_ev (ip : Bool) (Xp Yp : Nat) : fnS clifC 60 Try.f17 (bodyOf Try.f17) [(ptV (ip, Xp, Yp))] = lfT ip (num Xp) (num Yp) := by kernel_rfl
theorem clif_sum : Sum Try.prog 17 LiftF := by
  refine sum_of clifOk Try.func17 (by kernel_rfl) (by kernel_rfl) rfl (fuel := 60) fun args v h _ => ?_
  unfold LiftF at h
  split at h
  · simp only [Option.some.injEq, Prod.mk.injEq] at h
    obtain ⟨h0, rfl⟩ := h
    obtain ⟨⟨ip, Xp, Yp⟩, ⟨hXp, hYp⟩, rfl⟩ := isPt_some h0
    rw [unPt_ptV (r := (ip, Xp, Yp)) ⟨hXp, hYp⟩]
    exact ⟨by show 1 ≤ Try.f17.ntmps; decide +kernel, (clif_ev ip Xp Yp).trans (lfT_eq ip Xp Yp), rfl⟩
  · simp at h

noncomputable def cisiC : Cfg := ⟨tab, [], 7, []⟩
theorem cisiOk : CfgOk Try.prog cisiC (bodyOf Try.f28) := ⟨mixed, tabOk, sums_nil, noL⟩
theorem cisi_ev (Xt Yt Zt : Nat) : fnS cisiC 60 Try.f28 (bodyOf Try.f28) [(jacV (Xt, Yt, Zt))] = isIT (num Zt) := by kernel_rfl
theorem cisi_sum : Sum Try.prog 28 IsIF := by
  refine sum_of cisiOk Try.func28 (by kernel_rfl) (by kernel_rfl) rfl (fuel := 60) fun args v h _ => ?_
  unfold IsIF at h
  split at h
  · simp only [Option.some.injEq, Prod.mk.injEq] at h
    obtain ⟨h0, rfl⟩ := h
    obtain ⟨⟨Xt, Yt, Zt⟩, ⟨hXt, hYt, hZt⟩, rfl⟩ := isJac_some h0
    rw [unJ_jacV (t := (Xt, Yt, Zt)) ⟨hXt, hYt, hZt⟩]
    exact ⟨by show 1 ≤ Try.f28.ntmps; decide +kernel, (cisi_ev Xt Yt Zt).trans (isIT_eq hZt), rfl⟩
  · simp at h

noncomputable def cpttC : Cfg := ⟨tab, [(28, IsIF), (32, InvF), (26, MvF)], 25, []⟩
theorem cpttOk : CfgOk Try.prog cpttC (bodyOf Try.f18) := ⟨mixed, tabOk, (sums_cons cisi_sum (sums_cons Inv_sum (sums_cons cmul_sum sums_nil))), noL⟩
theorem cptt_ev (Xt Yt Zt : Nat) : fnS cpttC 60 Try.f18 (bodyOf Try.f18) [(jacV (Xt, Yt, Zt))] = ptT (num Xt) (num Yt) (num Zt) := by kernel_rfl
theorem cptt_sum : Sum Try.prog 18 PtF := by
  refine sum_of cpttOk Try.func18 (by kernel_rfl) (by kernel_rfl) rfl (fuel := 60) fun args v h _ => ?_
  unfold PtF at h
  split at h
  · simp only [Option.some.injEq, Prod.mk.injEq] at h
    obtain ⟨h0, rfl⟩ := h
    obtain ⟨⟨Xt, Yt, Zt⟩, ⟨hXt, hYt, hZt⟩, rfl⟩ := isJac_some h0
    rw [unJ_jacV (t := (Xt, Yt, Zt)) ⟨hXt, hYt, hZt⟩]
    exact ⟨by show 1 ≤ Try.f18.ntmps; decide +kernel, (cptt_ev Xt Yt Zt).trans (ptT_eq hXt hYt hZt), rfl⟩
  · simp at h

noncomputable def cdblC : Cfg := ⟨tab, [(26, MvF), (31, AvF), (29, SvF)], 58, []⟩
theorem cdblOk : CfgOk Try.prog cdblC (bodyOf Try.f34) := ⟨mixed, tabOk, (sums_cons cmul_sum (sums_cons cadd_sum (sums_cons csub_sum sums_nil))), noL⟩
theorem cdbl_ev (Xt Yt Zt : Nat) : fnS cdblC 60 Try.f34 (bodyOf Try.f34) [(jacV (Xt, Yt, Zt))] = dbT (num Xt) (num Yt) (num Zt) := by kernel_rfl
theorem cdbl_sum : Sum Try.prog 34 DblF := by
  refine sum_of cdblOk Try.func34 (by kernel_rfl) (by kernel_rfl) rfl (fuel := 60) fun args v h _ => ?_
  unfold DblF at h
  split at h
  · simp only [Option.some.injEq, Prod.mk.injEq] at h
    obtain ⟨h0, rfl⟩ := h
    obtain ⟨⟨Xt, Yt, Zt⟩, ⟨hXt, hYt, hZt⟩, rfl⟩ := isJac_some h0
    rw [unJ_jacV (t := (Xt, Yt, Zt)) ⟨hXt, hYt, hZt⟩]
    exact ⟨by show 1 ≤ Try.f34.ntmps; decide +kernel, (cdbl_ev Xt Yt Zt).trans (dbT_eq hXt hYt hZt), rfl⟩
  · simp at h

noncomputable def csamC : Cfg := ⟨tab, [(34, DblF)], 11, []⟩
theorem csamOk : CfgOk Try.prog csamC (bodyOf Try.f30) := ⟨mixed, tabOk, (sums_cons cdbl_sum sums_nil), noL⟩
theorem csam_ev (t : N3) (A : Nat) : fnS csamC 60 Try.f30 (bodyOf Try.f30) [(jacV t), (num A)] = samT (jacV t) (num A) := by kernel_rfl
theorem csam_sum : Sum Try.prog 30 SamF := by
  refine sum_of csamOk Try.func30 (by kernel_rfl) (by kernel_rfl) rfl (fuel := 60) fun args v h _ => ?_
  unfold SamF at h
  split at h
  · simp only [Option.some.injEq, Prod.mk.injEq, Bool.and_eq_true] at h
    obtain ⟨⟨h0, h1⟩, rfl⟩ := h
    obtain ⟨t, ht, rfl⟩ := isJac_some h0
    obtain ⟨A, hA, rfl⟩ := isNum_some h1
    rw [unJ_jacV ht, unnum_lt hA]
    exact ⟨by show 2 ≤ Try.f30.ntmps; decide +kernel, (csam_ev t A).trans (samT_eq ht hA), rfl⟩
  · simp at h

noncomputable def cplsC : Cfg := ⟨tab, [(26, MvF), (31, AvF), (29, SvF), (28, IsIF), (17, LiftF), (30, SamF)], 84, []⟩
theorem cplsOk : CfgOk Try.prog cplsC (bodyOf Try.f16) := ⟨mixed, tabOk, (sums_cons cmul_sum (sums_cons cadd_sum (sums_cons csub_sum (sums_cons cisi_sum (sums_cons clif_sum (sums_cons csam_sum sums_nil)))))), noL⟩
theorem cpls_ev (Xt Yt Zt : Nat) (ip : Bool) (Xp Yp : Nat) : fnS cplsC 60 Try.f16 (bodyOf Try.f16) [(jacV (Xt, Yt, Zt)), (ptV (ip, Xp, Yp))] = psT (jacV (Xt, Yt, Zt)) (num Xt) (num Yt) (num Zt) ip (num Xp) (num Yp) := by kernel_rfl
theorem cpls_sum : Sum Try.prog 16 PlsF := by
  refine sum_of cplsOk Try.func16 (by kernel_rfl) (by kernel_rfl) rfl (fuel := 60) fun args v h _ => ?_
  unfold PlsF at h
  split at h
  · simp only [Option.some.injEq, Prod.mk.injEq, Bool.and_eq_true] at h
    obtain ⟨⟨h0, h1⟩, rfl⟩ := h
    obtain ⟨⟨Xt, Yt, Zt⟩, ⟨hXt, hYt, hZt⟩, rfl⟩ := isJac_some h0
    obtain ⟨⟨ip, Xp, Yp⟩, ⟨hXp, hYp⟩, rfl⟩ := isPt_some h1
    rw [unJ_jacV (t := (Xt, Yt, Zt)) ⟨hXt, hYt, hZt⟩, unPt_ptV (r := (ip, Xp, Yp)) ⟨hXp, hYp⟩]
    exact ⟨by show 2 ≤ Try.f16.ntmps; decide +kernel, (cpls_ev Xt Yt Zt ip Xp Yp).trans (psT_eq hXt hYt hZt hXp hYp), rfl⟩
  · simp at h

noncomputable def cgC : Cfg := ⟨tab, [], 4, []⟩
theorem cgOk : CfgOk Try.prog cgC (bodyOf Try.f21) := ⟨mixed, tabOk, sums_nil, noL⟩
theorem cg_ev  : fnS cgC 60 Try.f21 (bodyOf Try.f21) [] = some (ptV (false, gXn, gYn)) := by kernel_rfl
theorem cg_sum : Sum Try.prog 21 GF := by
  refine sum_of cgOk Try.func21 (by kernel_rfl) (by kernel_rfl) rfl (fuel := 60) fun args v h _ => ?_
  unfold GF at h
  split at h
  · simp only [Option.some.injEq, Prod.mk.injEq, true_and] at h
    subst h
    exact ⟨by show 0 ≤ Try.f21.ntmps; decide +kernel, (cg_ev ).trans (rfl), rfl⟩
  · simp at h

end Go.Proofs.Ytbklbmiddacaiab

/-
  Package curve as it landed: contracts, second part; its laws without bytes.
-/
namespace Go.Proofs.Ytbklbmiddacaiab
set_option maxRecDepth 100000
open Go.W
open Go.RowKit (Below)

def suNt : List Nat := [4, 5, 6, 7, 8, 9, 10]
def suNi : List Nat := [0, 1, 2, 3, 4, 6]
def suSt (n : Nat) (p : RP) (m : Nat) (q : RP) (t : N3) (i : Int) : St :=
  ⟨[(4, ptr 0), (5, ptr 1), (6, ptr 2), (7, ptr 3), (8, ptr 4), (9, ptr 6), (10, i64 i)],
   [(0, ⟨cells4 n, 25, true⟩), (1, ⟨ptC p, 33, true⟩), (2, ⟨cells4 m, 25, true⟩), (3, ⟨ptC q, 33, true⟩), (4, ⟨ptC zR, 33, true⟩), (6, ⟨jacC t, 47, true⟩)], 15⟩
def suC0 : Cfg := ⟨tab, [(34, DblF), (35, BitF), (16, PlsF)], 40, []⟩
theorem suOk0 : CfgOk Try.prog suC0 (bodyOf Try.f20) := ⟨mixed, tabOk, sums_cons cdbl_sum (sums_cons Bit_sum (sums_cons cpls_sum sums_nil)), noL⟩
theorem su_at : codeAt [1, 1, 0, 1, 0] (bodyOf Try.f20) = some (.loop (loopAt [1, 1, 0, 1, 0] (bodyOf Try.f20))) := by kernel_rfl
theorem su_r (n : Nat) (p : RP) (m : Nat) (q : RP) (t : N3) (i : Int) : roundS suC0 60 [1, 1, 0, 1, 0, 0] (loopAt [1, 1, 0, 1, 0] (bodyOf Try.f20)) suNt suNi 15 suNt suNi 15 (suSt n p m q t i) =
    bif decide (i ≥ 0) then suR n p m q t i (fun t => some (.normal, suSt n p m q t (IntKind.i64.wrap (i - 1)))) else some (.exit 0, suSt n p m q t i) := by kernel_rfl
noncomputable def suC (n : Nat) (p : RP) (m : Nat) (q : RP) (t : N3) (i : Int) : Cfg := ⟨tab, [(33, LenF), (18, PtF)], 40, [([1, 1, 0, 1, 0], atSt suNt suNi 15 (suSt n p m q (0, 0, 0) i) (.exit 0) (suSt n p m q t (-1)))]⟩
theorem su_ev (n : Nat) (p : RP) (m : Nat) (q : RP) (t : N3) (i : Int) : fnS (suC n p m q t i) 60 Try.f20 (bodyOf Try.f20) [num n, ptV p, num m, ptV q] =
    req (isNum (num n)) (req (isNum (num m)) (req (stEq (suSt n p m q (0, 0, 0) (IntKind.i64.wrap ((if ((bitLen (unnum (num m)) : Nat) : Int) > ((bitLen (unnum (num n)) : Nat) : Int) then ((bitLen (unnum (num m)) : Nat) : Int) else ((bitLen (unnum (num n)) : Nat) : Int)) - 1))) (suSt n p m q (0, 0, 0) i))
      (req (isJac (jacV t)) (some (ptV (ptR (unJ (jacV t)))))))) := by kernel_rfl
theorem sumOf_sum : Sum Try.prog 20 SuOF := by
  intro args v h
  unfold SuOF at h
  split at h
  · rename_i n0 p0 m0 q0
    simp only [Option.some.injEq, Prod.mk.injEq, Bool.and_eq_true] at h
    obtain ⟨⟨⟨⟨⟨⟨h1, h2⟩, h3⟩, h4⟩, c1⟩, c2⟩, rfl⟩ := h
    obtain ⟨n, hn, rfl⟩ := isNum_some h1
    obtain ⟨p, hp, rfl⟩ := isPt_some h2
    obtain ⟨m, hm, rfl⟩ := isNum_some h3
    obtain ⟨q, hq, rfl⟩ := isPt_some h4
    simp only [unnum_lt hn, unnum_lt hm, unPt_ptV hp, unPt_ptV hq] at c1 c2 ⊢
    obtain ⟨L, hL1, hL2, hL3, hL⟩ : ∃ L : Nat, bitLen n ≤ L ∧ bitLen m ≤ L ∧ L ≤ 256 ∧ ((if ((bitLen m : Nat) : Int) > ((bitLen n : Nat) : Int) then ((bitLen m : Nat) : Int) else ((bitLen n : Nat) : Int)) : Int) = (L : Int) := by
      have a1 := bitLen_lt hn
      have a2 := bitLen_lt hm
      split
      · exact ⟨bitLen m, by omega, by omega, a2, rfl⟩
      · exact ⟨bitLen n, by omega, by omega, a1, rfl⟩
    have hLo : LoopOk Try.prog 40 (loopAt [1, 1, 0, 1, 0] (bodyOf Try.f20)) (atSt suNt suNi 15 (suSt n p m q (0, 0, 0) ((L : Int) - 1)) (.exit 0) (suSt n p m q (smK n p m q L L) (-1))) := by
      refine atSt_ok fun w0 R a W hrel => ?_
      refine loop_rounds (R := R) (C := suC0) suOk0 su_at (m := 60) (nt := suNt) (ni := suNi) (et := suNt) (ei := suNi) (nx := 15) (ex := 15) (e := .exit 0) (sf := suSt n p m q (smK n p m q L L) (-1))
        (fun k => suSt n p m q (smK n p m q L k) ((L : Int) - 1 - (k : Int))) L (by intro h; cases h) ?_ ?_ ?_
      · intro k hk
        refine (su_r _ _ _ _ _ _).trans ?_
        rw [decide_eq_true (by omega), cond_true, suR_eq hn hm hp hq hL3 hk, wrap_i64 (by omega), show ((L : Int) - 1 - (k : Int) - 1) = (L : Int) - 1 - ((k + 1 : Nat) : Int) from by omega]
      · refine (su_r _ _ _ _ _ _).trans ?_
        have e : (L : Int) - 1 - ((L : Nat) : Int) = -1 := by omega
        rw [e]; rfl
      · rw [show (L : Int) - 1 - ((0 : Nat) : Int) = (L : Int) - 1 from by omega]; exact hrel
    have hOk : CfgOk Try.prog (suC n p m q (smK n p m q L L) ((L : Int) - 1)) (bodyOf Try.f20) := ⟨mixed, tabOk, sums_cons Len_sum (sums_cons cptt_sum sums_nil), oneL hLo⟩
    refine sum_at hOk Try.func20 (by kernel_rfl) (by kernel_rfl) rfl (fuel := 60) (by show 4 ≤ Try.f20.ntmps; decide +kernel) ?_ rfl
    refine (su_ev n p m q _ _).trans ?_
    rw [isNum_num, isNum_num, req_true rfl, req_true rfl, unnum_lt hn, unnum_lt hm, hL, wrap_i64 (by omega), req_true (stEq_refl rfl), isJac_jacV, req_true rfl, unJ_jacV (okJ_sm n hp m hq L L), J3_smL c1 c2 (lt_bitLen hL1) (lt_bitLen hL2)]
  · simp at h

noncomputable def cAdC : Cfg := ⟨tab, [(15, CkF), (17, LiftF), (16, PlsF), (18, PtF)], 20, []⟩
theorem cAdOk : CfgOk Try.prog cAdC (bodyOf Try.f7) := ⟨mixed, tabOk, (sums_cons cis_sum (sums_cons clif_sum (sums_cons cpls_sum (sums_cons cptt_sum sums_nil)))), noL⟩
theorem cAd_ev (p : RP) (q : RP) : fnS cAdC 60 Try.f7 (bodyOf Try.f7) [(ptV p), (ptV q)] = cAddT (ptV p) (ptV q) := by kernel_rfl
theorem cAd_sum : Sum Try.prog 7 CAddF := by
  refine sum_of cAdOk Try.func7 (by kernel_rfl) (by kernel_rfl) rfl (fuel := 60) fun args v h _ => ?_
  unfold CAddF at h
  split at h
  · simp only [Option.some.injEq, Prod.mk.injEq, Bool.and_eq_true] at h
    obtain ⟨⟨h0, h1⟩, rfl⟩ := h
    obtain ⟨p, hp, rfl⟩ := isPt_some h0
    obtain ⟨q, hq, rfl⟩ := isPt_some h1
    rw [unPt_ptV hp, unPt_ptV hq]
    exact ⟨by show 2 ≤ Try.f7.ntmps; decide +kernel, (cAd_ev p q).trans (cAddT_eq hp hq), rfl⟩
  · simp at h

noncomputable def cBaC : Cfg := ⟨tab, [(21, GF), (20, SuOF)], 8, []⟩
theorem cBaOk : CfgOk Try.prog cBaC (bodyOf Try.f10) := ⟨mixed, tabOk, (sums_cons cg_sum (sums_cons sumOf_sum sums_nil)), noL⟩
theorem cBa_ev (n : Nat) : fnS cBaC 60 Try.f10 (bodyOf Try.f10) [(num n)] = cBasT (num n) := by kernel_rfl
theorem cBa_sum : Sum Try.prog 10 CBasF := by
  refine sum_of cBaOk Try.func10 (by kernel_rfl) (by kernel_rfl) rfl (fuel := 60) fun args v h _ => ?_
  unfold CBasF at h
  split at h
  · simp only [Option.some.injEq, Prod.mk.injEq] at h
    obtain ⟨h0, rfl⟩ := h
    obtain ⟨n, hn, rfl⟩ := isNum_some h0
    rw [unnum_lt hn]
    exact ⟨by show 1 ≤ Try.f10.ntmps; decide +kernel, (cBa_ev n).trans (cBasT_eq hn), rfl⟩
  · simp at h

noncomputable def cTwC : Cfg := ⟨tab, [(15, CkF), (20, SuOF)], 24, []⟩
theorem cTwOk : CfgOk Try.prog cTwC (bodyOf Try.f14) := ⟨mixed, tabOk, (sums_cons cis_sum (sums_cons sumOf_sum sums_nil)), noL⟩
theorem cTw_ev (n : Nat) (p : RP) (m : Nat) (q : RP) : fnS cTwC 60 Try.f14 (bodyOf Try.f14) [(num n), (ptV p), (num m), (ptV q)] = cTwoT (num n) (ptV p) (num m) (ptV q) := by kernel_rfl
theorem cTw_sum : Sum Try.prog 14 CTwoF := by
  refine sum_of cTwOk Try.func14 (by kernel_rfl) (by kernel_rfl) rfl (fuel := 60) fun args v h _ => ?_
  unfold CTwoF at h
  split at h
  · simp only [Option.some.injEq, Prod.mk.injEq, Bool.and_eq_true] at h
    obtain ⟨⟨⟨⟨h0, h1⟩, h2⟩, h3⟩, rfl⟩ := h
    obtain ⟨n, hn, rfl⟩ := isNum_some h0
    obtain ⟨p, hp, rfl⟩ := isPt_some h1
    obtain ⟨m, hm, rfl⟩ := isNum_some h2
    obtain ⟨q, hq, rfl⟩ := isPt_some h3
    rw [unnum_lt hn, unPt_ptV hp, unnum_lt hm, unPt_ptV hq]
    exact ⟨by show 4 ≤ Try.f14.ntmps; decide +kernel, (cTw_ev n p m q).trans (cTwoT_eq hn hm hp hq), rfl⟩
  · simp at h

end Go.Proofs.Ytbklbmiddacaiab
