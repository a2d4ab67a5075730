/-
  Several texts in one.
-/
import Derived.Test.YtbklbmiddacaiaaSb
import Derived.Test.YtbklbmiddacaiaaEd
import Derived.Test.YtbklbmiddacaiaaSc
/-
  The document's own answers, package curve: what the engine says of their texts, first part.
-/
namespace Go.Proofs.Ytbklbmiddacaiaa
set_option maxRecDepth 100000
open Go.W
open Go.RowKit (Below)

def mulC : Cfg := ⟨tab, [(69, FMulF)], 8, []⟩
theorem mulOk : CfgOk Try.prog mulC (bodyOf Try.f78) := ⟨mixed, tabOk, sums_cons FMulR_sum sums_nil, noL⟩
theorem mul_ev (A B : Nat) : fnS mulC 60 Try.f78 (bodyOf Try.f78) [num A, num B] = r2 (num A) (num B) (some (mv (num A) (num B))) := by kernel_rfl
theorem mul_sum : Sum Try.prog 78 MvF := by
  refine sum_of mulOk Try.func78 (by kernel_rfl) (by kernel_rfl) rfl (fuel := 60) fun args v h _ => ?_
  obtain ⟨X, Y, hX, hY, rfl, rfl⟩ := arg2 (f := fun x y => mv x y) h
  exact ⟨by show 2 ≤ Try.f78.ntmps; decide +kernel, by rw [mul_ev, r2_num], rfl⟩

def addC : Cfg := ⟨tab, [(68, FAddF)], 8, []⟩
theorem addOk : CfgOk Try.prog addC (bodyOf Try.f79) := ⟨mixed, tabOk, sums_cons FAddR_sum sums_nil, noL⟩
theorem add_ev (A B : Nat) : fnS addC 60 Try.f79 (bodyOf Try.f79) [num A, num B] = r2 (num A) (num B) (some (av (num A) (num B))) := by kernel_rfl
theorem add_sum : Sum Try.prog 79 AvF := by
  refine sum_of addOk Try.func79 (by kernel_rfl) (by kernel_rfl) rfl (fuel := 60) fun args v h _ => ?_
  obtain ⟨X, Y, hX, hY, rfl, rfl⟩ := arg2 (f := fun x y => av x y) h
  exact ⟨by show 2 ≤ Try.f79.ntmps; decide +kernel, by rw [add_ev, r2_num], rfl⟩

def subC : Cfg := ⟨tab, [(71, FSubF)], 8, []⟩
theorem subOk : CfgOk Try.prog subC (bodyOf Try.f108) := ⟨mixed, tabOk, sums_cons FSubR_sum sums_nil, noL⟩
theorem sub_ev (A B : Nat) : fnS subC 60 Try.f108 (bodyOf Try.f108) [num A, num B] = r2 (num A) (num B) (some (sv (num A) (num B))) := by kernel_rfl
theorem sub_sum : Sum Try.prog 108 SvF := by
  refine sum_of subOk Try.func108 (by kernel_rfl) (by kernel_rfl) rfl (fuel := 60) fun args v h _ => ?_
  obtain ⟨X, Y, hX, hY, rfl, rfl⟩ := arg2 (f := fun x y => sv x y) h
  exact ⟨by show 2 ≤ Try.f108.ntmps; decide +kernel, by rw [sub_ev, r2_num], rfl⟩

def infC : Cfg := ⟨tab, [], 2, []⟩
theorem infOk : CfgOk Try.prog infC (bodyOf Try.f54) := ⟨mixed, tabOk, sums_nil, noL⟩
theorem inf_ev  : fnS infC 60 Try.f54 (bodyOf Try.f54) [] = some (ptV (true, 0, 0)) := by kernel_rfl
theorem inf_sum : Sum Try.prog 54 InfF := by
  refine sum_of infOk Try.func54 (by kernel_rfl) (by kernel_rfl) rfl (fuel := 60) fun args v h _ => ?_
  unfold InfF at h
  split at h
  · simp only [Option.some.injEq, Prod.mk.injEq, true_and] at h
    subst h
    exact ⟨by show 0 ≤ Try.f54.ntmps; decide +kernel, inf_ev, rfl⟩
  · simp at h

def ggC : Cfg := ⟨tab, [], 4, []⟩
theorem ggOk : CfgOk Try.prog ggC (bodyOf Try.f76) := ⟨mixed, tabOk, sums_nil, noL⟩
theorem gg_ev  : fnS ggC 60 Try.f76 (bodyOf Try.f76) [] = some (ptV (false, gXn, gYn)) := by kernel_rfl
theorem gg_sum : Sum Try.prog 76 GF := by
  refine sum_of ggOk Try.func76 (by kernel_rfl) (by kernel_rfl) rfl (fuel := 60) fun args v h _ => ?_
  unfold GF at h
  split at h
  · simp only [Option.some.injEq, Prod.mk.injEq, true_and] at h
    subst h
    exact ⟨by show 0 ≤ Try.f76.ntmps; decide +kernel, gg_ev, rfl⟩
  · simp at h

def ckC : Cfg := ⟨tab, [(78, MvF), (79, AvF), (77, CmpF), (73, PrimeF)], 45, []⟩
theorem ckOk : CfgOk Try.prog ckC (bodyOf Try.f53) := ⟨mixed, tabOk, sums_cons mul_sum (sums_cons add_sum (sums_cons CmpR_sum (sums_cons PrimeR_sum (sums_nil)))), noL⟩
theorem ck_ev (i : Bool) (X Y : Nat) : fnS ckC 60 Try.f53 (bodyOf Try.f53) [ptV (i, X, Y)] = ckT i (num X) (num Y) := by kernel_rfl
theorem ck_sum : Sum Try.prog 53 CkF := by
  refine sum_of ckOk Try.func53 (by kernel_rfl) (by kernel_rfl) rfl (fuel := 60) fun args v h _ => ?_
  unfold CkF at h
  split at h
  · simp only [Option.some.injEq, Prod.mk.injEq] at h
    obtain ⟨h1, rfl⟩ := h
    obtain ⟨⟨i, X, Y⟩, ⟨hX, hY⟩, rfl⟩ := isPt_some h1
    rw [unPt_ptV (r := (i, X, Y)) ⟨hX, hY⟩]
    exact ⟨by show 1 ≤ Try.f53.ntmps; decide +kernel, (ck_ev i X Y).trans (ckT_eq hX hY), rfl⟩
  · simp at h

def uprC : Cfg := ⟨tab, [], 15, []⟩
theorem uprOk : CfgOk Try.prog uprC (bodyOf Try.f82) := ⟨mixed, tabOk, sums_nil, noL⟩
theorem upr_ev (i : Bool) (X Y : Nat) : fnS uprC 60 Try.f82 (bodyOf Try.f82) [ptV (i, X, Y)] = upT i (num X) (num Y) := by kernel_rfl
theorem upr_sum : Sum Try.prog 82 UpF := by
  refine sum_of uprOk Try.func82 (by kernel_rfl) (by kernel_rfl) rfl (fuel := 60) fun args v h _ => ?_
  unfold UpF at h
  split at h
  · simp only [Option.some.injEq, Prod.mk.injEq] at h
    obtain ⟨h1, rfl⟩ := h
    obtain ⟨⟨i, X, Y⟩, ⟨hX, hY⟩, rfl⟩ := isPt_some h1
    rw [unPt_ptV (r := (i, X, Y)) ⟨hX, hY⟩]
    exact ⟨by show 1 ≤ Try.f82.ntmps; decide +kernel, (upr_ev i X Y).trans (upT_eq i X Y), rfl⟩
  · simp at h

def dnrC : Cfg := ⟨tab, [(78, MvF), (44, InvF), (54, InfF)], 27, []⟩
theorem dnrOk : CfgOk Try.prog dnrC (bodyOf Try.f80) := ⟨mixed, tabOk, sums_cons mul_sum (sums_cons InvR_sum (sums_cons inf_sum (sums_nil))), noL⟩
theorem dnr_ev (X Y Z : Nat) : fnS dnrC 60 Try.f80 (bodyOf Try.f80) [jacV (X, Y, Z)] = dnT (num X) (num Y) (num Z) := by kernel_rfl
theorem dnr_sum : Sum Try.prog 80 DnF := by
  refine sum_of dnrOk Try.func80 (by kernel_rfl) (by kernel_rfl) rfl (fuel := 60) fun args v h _ => ?_
  unfold DnF at h
  split at h
  · simp only [Option.some.injEq, Prod.mk.injEq] at h
    obtain ⟨h1, rfl⟩ := h
    obtain ⟨⟨X, Y, Z⟩, ⟨hX, hY, hZ⟩, rfl⟩ := isJac_some h1
    rw [unJ_jacV (t := (X, Y, Z)) ⟨hX, hY, hZ⟩]
    exact ⟨by show 1 ≤ Try.f80.ntmps; decide +kernel, (dnr_ev X Y Z).trans (dnT_eq hX hY hZ), rfl⟩
  · simp at h

def twC : Cfg := ⟨tab, [(78, MvF), (79, AvF), (108, SvF), (54, InfF), (82, UpF)], 92, []⟩
theorem twOk : CfgOk Try.prog twC (bodyOf Try.f109) := ⟨mixed, tabOk, sums_cons mul_sum (sums_cons add_sum (sums_cons sub_sum (sums_cons inf_sum (sums_cons upr_sum (sums_nil))))), noL⟩
theorem tw_ev (X Y Z : Nat) : fnS twC 60 Try.f109 (bodyOf Try.f109) [jacV (X, Y, Z)] = twT (num X) (num Y) (num Z) := by kernel_rfl
theorem tw_sum : Sum Try.prog 109 TwF := by
  refine sum_of twOk Try.func109 (by kernel_rfl) (by kernel_rfl) rfl (fuel := 60) fun args v h _ => ?_
  unfold TwF at h
  split at h
  · simp only [Option.some.injEq, Prod.mk.injEq] at h
    obtain ⟨h1, rfl⟩ := h
    obtain ⟨⟨X, Y, Z⟩, ⟨hX, hY, hZ⟩, rfl⟩ := isJac_some h1
    rw [unJ_jacV (t := (X, Y, Z)) ⟨hX, hY, hZ⟩]
    exact ⟨by show 1 ≤ Try.f109.ntmps; decide +kernel, (tw_ev X Y Z).trans (twT_eq hX hY hZ), rfl⟩
  · simp at h

def plC : Cfg := ⟨tab, [(78, MvF), (79, AvF), (108, SvF), (54, InfF), (82, UpF), (109, TwF)], 113, []⟩
theorem plOk : CfgOk Try.prog plC (bodyOf Try.f81) := ⟨mixed, tabOk, sums_cons mul_sum (sums_cons add_sum (sums_cons sub_sum (sums_cons inf_sum (sums_cons upr_sum (sums_cons tw_sum (sums_nil)))))), noL⟩
theorem pl_ev (X Y Z X2 Y2 Z2 : Nat) : fnS plC 60 Try.f81 (bodyOf Try.f81) [jacV (X, Y, Z), jacV (X2, Y2, Z2)] = plT (num X) (num Y) (num Z) (num X2) (num Y2) (num Z2) := by kernel_rfl
theorem pl_sum : Sum Try.prog 81 PlF := by
  refine sum_of plOk Try.func81 (by kernel_rfl) (by kernel_rfl) rfl (fuel := 60) fun args v h _ => ?_
  unfold PlF at h
  split at h
  · simp only [Option.some.injEq, Prod.mk.injEq] at h
    rw [Bool.and_eq_true] at h
    obtain ⟨⟨h1, h2⟩, rfl⟩ := h
    obtain ⟨⟨X, Y, Z⟩, ⟨hX, hY, hZ⟩, rfl⟩ := isJac_some h1
    obtain ⟨⟨X2, Y2, Z2⟩, ⟨hX2, hY2, hZ2⟩, rfl⟩ := isJac_some h2
    rw [unJ_jacV (t := (X, Y, Z)) ⟨hX, hY, hZ⟩, unJ_jacV (t := (X2, Y2, Z2)) ⟨hX2, hY2, hZ2⟩]
    exact ⟨by show 2 ≤ Try.f81.ntmps; decide +kernel, (pl_ev X Y Z X2 Y2 Z2).trans (plT_eq hX hY hZ hX2 hY2 hZ2), rfl⟩
  · simp at h

end Go.Proofs.Ytbklbmiddacaiaa

/-
  The document's own answers, package curve: what the engine says of their texts, second part: sums, multiples.
-/
namespace Go.Proofs.Ytbklbmiddacaiaa
set_option maxRecDepth 100000
open Go.W
open Go.RowKit (Below)

def tmNt : List Nat := [2, 3, 4, 5, 6]
def tmNi : List Nat := [0, 1, 2, 5]
def tmSt (n : Nat) (r : RP) (t : N3) (i : Int) : St :=
  ⟨[(2, ptr 0), (3, ptr 1), (4, ptr 2), (5, ptr 5), (6, i64 i)], [(0, ⟨cells4 n, 25, true⟩), (1, ⟨ptC r, 45, true⟩), (2, ⟨jacC (0, 0, 0), 89, true⟩), (5, ⟨jacC t, 89, true⟩)], 8⟩
def tmC0 : Cfg := ⟨tab, [(109, TwF), (106, BitF), (82, UpF), (81, PlF)], 24, []⟩
theorem tmOk0 : CfgOk Try.prog tmC0 (bodyOf Try.f83) := ⟨mixed, tabOk, sums_cons tw_sum (sums_cons BitR_sum (sums_cons upr_sum (sums_cons pl_sum sums_nil))), noL⟩
theorem tm_at : codeAt [1, 1, 0, 1, 0] (bodyOf Try.f83) = some (.loop (loopAt [1, 1, 0, 1, 0] (bodyOf Try.f83))) := by kernel_rfl
theorem tm_r (n : Nat) (r : RP) (t : N3) (i : Int) : roundS tmC0 60 [1, 1, 0, 1, 0, 0] (loopAt [1, 1, 0, 1, 0] (bodyOf Try.f83)) tmNt tmNi 8 tmNt tmNi 8 (tmSt n r t i) =
    bif decide (i ≥ 0) then tmR n r t i (fun t => some (.normal, tmSt n r t (IntKind.i64.wrap (i - 1)))) else some (.exit 0, tmSt n r t i) := by kernel_rfl
noncomputable def tmC (n : Nat) (r : RP) (t : N3) : Cfg := ⟨tab, [(54, InfF), (82, UpF)], 24, [([1, 1, 0, 1, 0], atSt tmNt tmNi 8 (tmSt n r (1, 1, 0) 255) (.exit 0) (tmSt n r t (-1)))]⟩
theorem tm_ev (n : Nat) (r : RP) (t : N3) : fnS (tmC n r t) 60 Try.f83 (bodyOf Try.f83) [num n, ptV r] =
    req (stEq (tmSt n r (1, 1, 0) 255) (tmSt n r (1, 1, 0) 255)) (some (jacV t)) := by kernel_rfl
theorem tm_sum : Sum Try.prog 83 TmF := by
  intro args v h
  unfold TmF at h
  split at h
  · rename_i n0 p0
    simp only [Option.some.injEq, Prod.mk.injEq, Bool.and_eq_true] at h
    obtain ⟨⟨h1, h2⟩, rfl⟩ := h
    obtain ⟨n, hn, rfl⟩ := isNum_some h1
    obtain ⟨r, hr, rfl⟩ := isPt_some h2
    rw [unnum_lt hn, unPt_ptV hr, tmJ_eq]
    have hL : LoopOk Try.prog 24 (loopAt [1, 1, 0, 1, 0] (bodyOf Try.f83)) (atSt tmNt tmNi 8 (tmSt n r (1, 1, 0) 255) (.exit 0) (tmSt n r (tmK n (upJ r) 256) (-1))) := by
      refine atSt_ok fun w0 R a W hrel => ?_
      refine loop_rounds (R := R) (C := tmC0) tmOk0 tm_at (m := 60) (nt := tmNt) (ni := tmNi) (et := tmNt) (ei := tmNi) (nx := 8) (ex := 8) (e := .exit 0) (sf := tmSt n r (tmK n (upJ r) 256) (-1))
        (fun k => tmSt n r (tmK n (upJ r) k) (255 - (k : Int))) 256 (by intro h; cases h) ?_ ?_ hrel
      · intro k hk
        refine (tm_r _ _ _ _).trans ?_
        rw [decide_eq_true (by omega), cond_true, tmR_eq hn hr hk, wrap_i64 (by omega), show (255 - (k : Int) - 1) = 255 - ((k + 1 : Nat) : Int) from by omega]
      · refine (tm_r _ _ _ _).trans ?_
        have hd : decide (255 - ((256 : Nat) : Int) ≥ 0) = false := by decide
        rw [hd, cond_false]; rfl
    have hOk : CfgOk Try.prog (tmC n r (tmK n (upJ r) 256)) (bodyOf Try.f83) := ⟨mixed, tabOk, sums_cons inf_sum (sums_cons upr_sum sums_nil), oneL hL⟩
    refine sum_at hOk Try.func83 (by kernel_rfl) (by kernel_rfl) rfl (fuel := 60) (by show 2 ≤ Try.f83.ntmps; decide +kernel) ?_ rfl
    refine (tm_ev n r _).trans ?_
    rw [req_true (stEq_refl rfl)]
  · simp at h

noncomputable def sumRC : Cfg := ⟨tab, [(82, UpF), (81, PlF), (80, DnF)], 11, []⟩
theorem sumROk : CfgOk Try.prog sumRC (bodyOf Try.f55) := ⟨mixed, tabOk, sums_cons upr_sum (sums_cons pl_sum (sums_cons dnr_sum (sums_nil))), noL⟩
theorem sumR_ev (p q : RP) : fnS sumRC 60 Try.f55 (bodyOf Try.f55) [ptV p, ptV q] = sumT (ptV p) (ptV q) := by kernel_rfl
theorem sumR_sum : Sum Try.prog 55 SumRF := by
  refine sum_of sumROk Try.func55 (by kernel_rfl) (by kernel_rfl) rfl (fuel := 60) fun args v h _ => ?_
  unfold SumRF at h
  split at h
  · simp only [Option.some.injEq, Prod.mk.injEq, Bool.and_eq_true] at h
    obtain ⟨⟨h1, h2⟩, rfl⟩ := h
    obtain ⟨p, hp, rfl⟩ := isPt_some h1
    obtain ⟨q, hq, rfl⟩ := isPt_some h2
    rw [unPt_ptV hp, unPt_ptV hq]
    exact ⟨by show 2 ≤ Try.f55.ntmps; decide +kernel, (sumR_ev p q).trans (sumT_eq hp hq), rfl⟩
  · simp at h

noncomputable def timRC : Cfg := ⟨tab, [(83, TmF), (80, DnF)], 9, []⟩
theorem timROk : CfgOk Try.prog timRC (bodyOf Try.f56) := ⟨mixed, tabOk, sums_cons tm_sum (sums_cons dnr_sum (sums_nil)), noL⟩
theorem timR_ev (n : Nat) (p : RP) : fnS timRC 60 Try.f56 (bodyOf Try.f56) [num n, ptV p] = timT (num n) (ptV p) := by kernel_rfl
theorem timR_sum : Sum Try.prog 56 TimRF := by
  refine sum_of timROk Try.func56 (by kernel_rfl) (by kernel_rfl) rfl (fuel := 60) fun args v h _ => ?_
  unfold TimRF at h
  split at h
  · simp only [Option.some.injEq, Prod.mk.injEq, Bool.and_eq_true] at h
    obtain ⟨⟨h1, h2⟩, rfl⟩ := h
    obtain ⟨n, hn, rfl⟩ := isNum_some h1
    obtain ⟨p, hp, rfl⟩ := isPt_some h2
    rw [unnum_lt hn, unPt_ptV hp]
    exact ⟨by show 2 ≤ Try.f56.ntmps; decide +kernel, (timR_ev n p).trans (timT_eq hn hp), rfl⟩
  · simp at h

noncomputable def basRC : Cfg := ⟨tab, [(56, TimRF), (76, GF)], 6, []⟩
theorem basROk : CfgOk Try.prog basRC (bodyOf Try.f52) := ⟨mixed, tabOk, sums_cons timR_sum (sums_cons gg_sum (sums_nil)), noL⟩
theorem basR_ev (n : Nat) : fnS basRC 60 Try.f52 (bodyOf Try.f52) [num n] = req (isNum (num n) && isPt (ptV gR)) (some (ptV (timR (unnum (num n)) (unPt (ptV gR))))) := by kernel_rfl
theorem basR_sum : Sum Try.prog 52 BasRF := by
  refine sum_of basROk Try.func52 (by kernel_rfl) (by kernel_rfl) rfl (fuel := 60) fun args v h _ => ?_
  unfold BasRF at h
  split at h
  · simp only [Option.some.injEq, Prod.mk.injEq] at h
    obtain ⟨h1, rfl⟩ := h
    obtain ⟨n, hn, rfl⟩ := isNum_some h1
    rw [unnum_lt hn]
    exact ⟨by show 1 ≤ Try.f52.ntmps; decide +kernel, (basR_ev n).trans (by rw [isNum_num, isPt_ptV, unnum_lt hn, unPt_ptV (ck_okR gR_ck)]; rfl), rfl⟩
  · simp at h

def kpC : Cfg := ⟨tab, [], 24, []⟩
theorem kpOk : CfgOk Try.prog kpC (bodyOf Try.f27) := ⟨mixed, tabOk, sums_nil, noL⟩
theorem kp_ev (i i2 : Bool) (X Y X2 Y2 : Nat) : fnS kpC 60 Try.f27 (bodyOf Try.f27) [ptV (i, X, Y), ptV (i2, X2, Y2)] = kpT i (num X) (num Y) i2 (num X2) (num Y2) := by kernel_rfl
theorem kp_sum : Sum Try.prog 27 KpF := by
  refine sum_of kpOk Try.func27 (by kernel_rfl) (by kernel_rfl) rfl (fuel := 60) fun args v h _ => ?_
  unfold KpF at h
  split at h
  · simp only [Option.some.injEq, Prod.mk.injEq, Bool.and_eq_true] at h
    obtain ⟨⟨h1, h2⟩, rfl⟩ := h
    obtain ⟨⟨i, X, Y⟩, hp, rfl⟩ := isPt_some h1
    obtain ⟨⟨i2, X2, Y2⟩, hq, rfl⟩ := isPt_some h2
    rw [unPt_ptV hp, unPt_ptV hq]
    exact ⟨by show 2 ≤ Try.f27.ntmps; decide +kernel, (kp_ev i i2 X Y X2 Y2).trans (kpT_eq hp hq), rfl⟩
  · simp at h

end Go.Proofs.Ytbklbmiddacaiaa

/-
  The laws of package curve that ask for no bytes: what the engine says of their texts, given the contracts of its functions.
-/
namespace Go.Proofs.Ytbklbmiddacaiaa
set_option maxRecDepth 100000
open Go.W
open Go.RowKit (Below)


end Go.Proofs.Ytbklbmiddacaiaa

/-
  Package curve as it landed: contracts, first part.
-/
namespace Go.Proofs.Ytbklbmiddacaiaa
set_option maxRecDepth 100000
open Go.W
open Go.RowKit (Below)

noncomputable def caddC : Cfg := ⟨tab, [(31, FAddF)], 8, []⟩
theorem caddOk : CfgOk Try.prog caddC (bodyOf Try.f114) := ⟨mixed, tabOk, (sums_cons FAdd_sum sums_nil), noL⟩
theorem cadd_ev (A : Nat) (B : Nat) : fnS caddC 60 Try.f114 (bodyOf Try.f114) [(num A), (num B)] = r2 (num A) (num B) (some (av (num A) (num B))) := by kernel_rfl
theorem cadd_sum : Sum Try.prog 114 AvF := by
  refine sum_of caddOk Try.func114 (by kernel_rfl) (by kernel_rfl) rfl (fuel := 60) fun args v h _ => ?_
  unfold AvF at h
  split at h
  · simp only [Option.some.injEq, Prod.mk.injEq, Bool.and_eq_true] at h
    obtain ⟨⟨h0, h1⟩, rfl⟩ := h
    obtain ⟨A, hA, rfl⟩ := isNum_some h0
    obtain ⟨B, hB, rfl⟩ := isNum_some h1
    exact ⟨by show 2 ≤ Try.f114.ntmps; decide +kernel, (cadd_ev A B).trans (by rw [r2_num]), rfl⟩
  · simp at h

noncomputable def csubC : Cfg := ⟨tab, [(103, FSubF)], 8, []⟩
theorem csubOk : CfgOk Try.prog csubC (bodyOf Try.f112) := ⟨mixed, tabOk, (sums_cons FSub_sum sums_nil), noL⟩
theorem csub_ev (A : Nat) (B : Nat) : fnS csubC 60 Try.f112 (bodyOf Try.f112) [(num A), (num B)] = r2 (num A) (num B) (some (sv (num A) (num B))) := by kernel_rfl
theorem csub_sum : Sum Try.prog 112 SvF := by
  refine sum_of csubOk Try.func112 (by kernel_rfl) (by kernel_rfl) rfl (fuel := 60) fun args v h _ => ?_
  unfold SvF at h
  split at h
  · simp only [Option.some.injEq, Prod.mk.injEq, Bool.and_eq_true] at h
    obtain ⟨⟨h0, h1⟩, rfl⟩ := h
    obtain ⟨A, hA, rfl⟩ := isNum_some h0
    obtain ⟨B, hB, rfl⟩ := isNum_some h1
    exact ⟨by show 2 ≤ Try.f112.ntmps; decide +kernel, (csub_ev A B).trans (by rw [r2_num]), rfl⟩
  · simp at h

noncomputable def cmulC : Cfg := ⟨tab, [(67, FMulF)], 8, []⟩
theorem cmulOk : CfgOk Try.prog cmulC (bodyOf Try.f93) := ⟨mixed, tabOk, (sums_cons FMul_sum sums_nil), noL⟩
theorem cmul_ev (A : Nat) (B : Nat) : fnS cmulC 60 Try.f93 (bodyOf Try.f93) [(num A), (num B)] = r2 (num A) (num B) (some (mv (num A) (num B))) := by kernel_rfl
theorem cmul_sum : Sum Try.prog 93 MvF := by
  refine sum_of cmulOk Try.func93 (by kernel_rfl) (by kernel_rfl) rfl (fuel := 60) fun args v h _ => ?_
  unfold MvF at h
  split at h
  · simp only [Option.some.injEq, Prod.mk.injEq, Bool.and_eq_true] at h
    obtain ⟨⟨h0, h1⟩, rfl⟩ := h
    obtain ⟨A, hA, rfl⟩ := isNum_some h0
    obtain ⟨B, hB, rfl⟩ := isNum_some h1
    exact ⟨by show 2 ≤ Try.f93.ntmps; decide +kernel, (cmul_ev A B).trans (by rw [r2_num]), rfl⟩
  · simp at h

noncomputable def clowC : Cfg := ⟨tab, [(115, CmpF), (36, PrimeF)], 7, []⟩
theorem clowOk : CfgOk Try.prog clowC (bodyOf Try.f92) := ⟨mixed, tabOk, (sums_cons Cmp_sum (sums_cons Prime_sum sums_nil)), noL⟩
theorem clow_ev (A : Nat) : fnS clowC 60 Try.f92 (bodyOf Try.f92) [(num A)] = lowPT (num A) := by kernel_rfl
theorem clow_sum : Sum Try.prog 92 LowPF := by
  refine sum_of clowOk Try.func92 (by kernel_rfl) (by kernel_rfl) rfl (fuel := 60) fun args v h _ => ?_
  unfold LowPF at h
  split at h
  · simp only [Option.some.injEq, Prod.mk.injEq] at h
    obtain ⟨h0, rfl⟩ := h
    obtain ⟨A, hA, rfl⟩ := isNum_some h0
    rw [unnum_lt hA]
    exact ⟨by show 1 ≤ Try.f92.ntmps; decide +kernel, (clow_ev A).trans (lowPT_eq hA), rfl⟩
  · simp at h

noncomputable def csqC : Cfg := ⟨tab, [(93, MvF), (114, AvF)], 10, []⟩
theorem csqOk : CfgOk Try.prog csqC (bodyOf Try.f94) := ⟨mixed, tabOk, (sums_cons cmul_sum (sums_cons cadd_sum sums_nil)), noL⟩
theorem csq_ev (A : Nat) : fnS csqC 60 Try.f94 (bodyOf Try.f94) [(num A)] = sqT (num A) := by kernel_rfl
theorem csq_sum : Sum Try.prog 94 SqAF := by
  refine sum_of csqOk Try.func94 (by kernel_rfl) (by kernel_rfl) rfl (fuel := 60) fun args v h _ => ?_
  unfold SqAF at h
  split at h
  · simp only [Option.some.injEq, Prod.mk.injEq] at h
    obtain ⟨h0, rfl⟩ := h
    obtain ⟨A, hA, rfl⟩ := isNum_some h0
    rw [unnum_lt hA]
    exact ⟨by show 1 ≤ Try.f94.ntmps; decide +kernel, (csq_ev A).trans (sqT_eq hA), rfl⟩
  · simp at h

noncomputable def cisC : Cfg := ⟨tab, [(93, MvF), (92, LowPF), (94, SqAF)], 27, []⟩
theorem cisOk : CfgOk Try.prog cisC (bodyOf Try.f64) := ⟨mixed, tabOk, (sums_cons cmul_sum (sums_cons clow_sum (sums_cons csq_sum sums_nil))), noL⟩
theorem cis_ev (ip : Bool) (Xp Yp : Nat) : fnS cisC 60 Try.f64 (bodyOf Try.f64) [(ptV (ip, Xp, Yp))] = isPT ip (num Xp) (num Yp) := by kernel_rfl
theorem cis_sum : Sum Try.prog 64 CkF := by
  refine sum_of cisOk Try.func64 (by kernel_rfl) (by kernel_rfl) rfl (fuel := 60) fun args v h _ => ?_
  unfold CkF at h
  split at h
  · simp only [Option.some.injEq, Prod.mk.injEq] at h
    obtain ⟨h0, rfl⟩ := h
    obtain ⟨⟨ip, Xp, Yp⟩, ⟨hXp, hYp⟩, rfl⟩ := isPt_some h0
    rw [unPt_ptV (r := (ip, Xp, Yp)) ⟨hXp, hYp⟩]
    exact ⟨by show 1 ≤ Try.f64.ntmps; decide +kernel, (cis_ev ip Xp Yp).trans (isPT_eq hXp hYp), rfl⟩
  · simp at h

noncomputable def cchkC : Cfg := ⟨tab, [(64, CkF)], 5, []⟩
theorem cchkOk : CfgOk Try.prog cchkC (bodyOf Try.f34) := ⟨mixed, tabOk, (sums_cons cis_sum sums_nil), noL⟩
theorem cchk_ev (p : RP) : fnS cchkC 60 Try.f34 (bodyOf Try.f34) [(ptV p)] = chkT (ptV p) := by kernel_rfl
theorem cchk_sum : Sum Try.prog 34 CChkF := by
  refine sum_of cchkOk Try.func34 (by kernel_rfl) (by kernel_rfl) rfl (fuel := 60) fun args v h _ => ?_
  unfold CChkF at h
  split at h
  · simp only [Option.some.injEq, Prod.mk.injEq] at h
    obtain ⟨h0, rfl⟩ := h
    obtain ⟨p, hp, rfl⟩ := isPt_some h0
    rw [unPt_ptV hp]
    exact ⟨by show 1 ≤ Try.f34.ntmps; decide +kernel, (cchk_ev p).trans (chkT_eq hp), rfl⟩
  · simp at h

noncomputable def clifC : Cfg := ⟨tab, [], 12, []⟩
theorem clifOk : CfgOk Try.prog clifC (bodyOf Try.f90) := ⟨mixed, tabOk, sums_nil, noL⟩
theorem clif_ev (ip : Bool) (Xp Yp : Nat) : fnS clifC 60 Try.f90 (bodyOf Try.f90) [(ptV (ip, Xp, Yp))] = lfT ip (num Xp) (num Yp) := by kernel_rfl
theorem clif_sum : Sum Try.prog 90 LiftF := by
  refine sum_of clifOk Try.func90 (by kernel_rfl) (by kernel_rfl) rfl (fuel := 60) fun args v h _ => ?_
  unfold LiftF at h
  split at h
  · simp only [Option.some.injEq, Prod.mk.injEq] at h
    obtain ⟨h0, rfl⟩ := h
    obtain ⟨⟨ip, Xp, Yp⟩, ⟨hXp, hYp⟩, rfl⟩ := isPt_some h0
    rw [unPt_ptV (r := (ip, Xp, Yp)) ⟨hXp, hYp⟩]
    exact ⟨by show 1 ≤ Try.f90.ntmps; decide +kernel, (clif_ev ip Xp Yp).trans (lfT_eq ip Xp Yp), rfl⟩
  · simp at h

noncomputable def cisiC : Cfg := ⟨tab, [], 7, []⟩
theorem cisiOk : CfgOk Try.prog cisiC (bodyOf Try.f111) := ⟨mixed, tabOk, sums_nil, noL⟩
theorem cisi_ev (Xt Yt Zt : Nat) : fnS cisiC 60 Try.f111 (bodyOf Try.f111) [(jacV (Xt, Yt, Zt))] = isIT (num Zt) := by kernel_rfl
theorem cisi_sum : Sum Try.prog 111 IsIF := by
  refine sum_of cisiOk Try.func111 (by kernel_rfl) (by kernel_rfl) rfl (fuel := 60) fun args v h _ => ?_
  unfold IsIF at h
  split at h
  · simp only [Option.some.injEq, Prod.mk.injEq] at h
    obtain ⟨h0, rfl⟩ := h
    obtain ⟨⟨Xt, Yt, Zt⟩, ⟨hXt, hYt, hZt⟩, rfl⟩ := isJac_some h0
    rw [unJ_jacV (t := (Xt, Yt, Zt)) ⟨hXt, hYt, hZt⟩]
    exact ⟨by show 1 ≤ Try.f111.ntmps; decide +kernel, (cisi_ev Xt Yt Zt).trans (isIT_eq hZt), rfl⟩
  · simp at h

noncomputable def cpttC : Cfg := ⟨tab, [(111, IsIF), (75, InvF), (93, MvF)], 25, []⟩
theorem cpttOk : CfgOk Try.prog cpttC (bodyOf Try.f91) := ⟨mixed, tabOk, (sums_cons cisi_sum (sums_cons Inv_sum (sums_cons cmul_sum sums_nil))), noL⟩
theorem cptt_ev (Xt Yt Zt : Nat) : fnS cpttC 60 Try.f91 (bodyOf Try.f91) [(jacV (Xt, Yt, Zt))] = ptT (num Xt) (num Yt) (num Zt) := by kernel_rfl
theorem cptt_sum : Sum Try.prog 91 PtF := by
  refine sum_of cpttOk Try.func91 (by kernel_rfl) (by kernel_rfl) rfl (fuel := 60) fun args v h _ => ?_
  unfold PtF at h
  split at h
  · simp only [Option.some.injEq, Prod.mk.injEq] at h
    obtain ⟨h0, rfl⟩ := h
    obtain ⟨⟨Xt, Yt, Zt⟩, ⟨hXt, hYt, hZt⟩, rfl⟩ := isJac_some h0
    rw [unJ_jacV (t := (Xt, Yt, Zt)) ⟨hXt, hYt, hZt⟩]
    exact ⟨by show 1 ≤ Try.f91.ntmps; decide +kernel, (cptt_ev Xt Yt Zt).trans (ptT_eq hXt hYt hZt), rfl⟩
  · simp at h

noncomputable def cdblC : Cfg := ⟨tab, [(93, MvF), (114, AvF), (112, SvF)], 58, []⟩
theorem cdblOk : CfgOk Try.prog cdblC (bodyOf Try.f96) := ⟨mixed, tabOk, (sums_cons cmul_sum (sums_cons cadd_sum (sums_cons csub_sum sums_nil))), noL⟩
theorem cdbl_ev (Xt Yt Zt : Nat) : fnS cdblC 60 Try.f96 (bodyOf Try.f96) [(jacV (Xt, Yt, Zt))] = dbT (num Xt) (num Yt) (num Zt) := by kernel_rfl
theorem cdbl_sum : Sum Try.prog 96 DblF := by
  refine sum_of cdblOk Try.func96 (by kernel_rfl) (by kernel_rfl) rfl (fuel := 60) fun args v h _ => ?_
  unfold DblF at h
  split at h
  · simp only [Option.some.injEq, Prod.mk.injEq] at h
    obtain ⟨h0, rfl⟩ := h
    obtain ⟨⟨Xt, Yt, Zt⟩, ⟨hXt, hYt, hZt⟩, rfl⟩ := isJac_some h0
    rw [unJ_jacV (t := (Xt, Yt, Zt)) ⟨hXt, hYt, hZt⟩]
    exact ⟨by show 1 ≤ Try.f96.ntmps; decide +kernel, (cdbl_ev Xt Yt Zt).trans (dbT_eq hXt hYt hZt), rfl⟩
  · simp at h

noncomputable def csamC : Cfg := ⟨tab, [(96, DblF)], 11, []⟩
theorem csamOk : CfgOk Try.prog csamC (bodyOf Try.f113) := ⟨mixed, tabOk, (sums_cons cdbl_sum sums_nil), noL⟩
theorem csam_ev (t : N3) (A : Nat) : fnS csamC 60 Try.f113 (bodyOf Try.f113) [(jacV t), (num A)] = samT (jacV t) (num A) := by kernel_rfl
theorem csam_sum : Sum Try.prog 113 SamF := by
  refine sum_of csamOk Try.func113 (by kernel_rfl) (by kernel_rfl) rfl (fuel := 60) fun args v h _ => ?_
  unfold SamF at h
  split at h
  · simp only [Option.some.injEq, Prod.mk.injEq, Bool.and_eq_true] at h
    obtain ⟨⟨h0, h1⟩, rfl⟩ := h
    obtain ⟨t, ht, rfl⟩ := isJac_some h0
    obtain ⟨A, hA, rfl⟩ := isNum_some h1
    rw [unJ_jacV ht, unnum_lt hA]
    exact ⟨by show 2 ≤ Try.f113.ntmps; decide +kernel, (csam_ev t A).trans (samT_eq ht hA), rfl⟩
  · simp at h

noncomputable def cplsC : Cfg := ⟨tab, [(93, MvF), (114, AvF), (112, SvF), (111, IsIF), (90, LiftF), (113, SamF)], 84, []⟩
theorem cplsOk : CfgOk Try.prog cplsC (bodyOf Try.f89) := ⟨mixed, tabOk, (sums_cons cmul_sum (sums_cons cadd_sum (sums_cons csub_sum (sums_cons cisi_sum (sums_cons clif_sum (sums_cons csam_sum sums_nil)))))), noL⟩
theorem cpls_ev (Xt Yt Zt : Nat) (ip : Bool) (Xp Yp : Nat) : fnS cplsC 60 Try.f89 (bodyOf Try.f89) [(jacV (Xt, Yt, Zt)), (ptV (ip, Xp, Yp))] = psT (jacV (Xt, Yt, Zt)) (num Xt) (num Yt) (num Zt) ip (num Xp) (num Yp) := by kernel_rfl
theorem cpls_sum : Sum Try.prog 89 PlsF := by
  refine sum_of cplsOk Try.func89 (by kernel_rfl) (by kernel_rfl) rfl (fuel := 60) fun args v h _ => ?_
  unfold PlsF at h
  split at h
  · simp only [Option.some.injEq, Prod.mk.injEq, Bool.and_eq_true] at h
    obtain ⟨⟨h0, h1⟩, rfl⟩ := h
    obtain ⟨⟨Xt, Yt, Zt⟩, ⟨hXt, hYt, hZt⟩, rfl⟩ := isJac_some h0
    obtain ⟨⟨ip, Xp, Yp⟩, ⟨hXp, hYp⟩, rfl⟩ := isPt_some h1
    rw [unJ_jacV (t := (Xt, Yt, Zt)) ⟨hXt, hYt, hZt⟩, unPt_ptV (r := (ip, Xp, Yp)) ⟨hXp, hYp⟩]
    exact ⟨by show 2 ≤ Try.f89.ntmps; decide +kernel, (cpls_ev Xt Yt Zt ip Xp Yp).trans (psT_eq hXt hYt hZt hXp hYp), rfl⟩
  · simp at h

noncomputable def cgC : Cfg := ⟨tab, [], 4, []⟩
theorem cgOk : CfgOk Try.prog cgC (bodyOf Try.f66) := ⟨mixed, tabOk, sums_nil, noL⟩
theorem cg_ev  : fnS cgC 60 Try.f66 (bodyOf Try.f66) [] = some (ptV (false, gXn, gYn)) := by kernel_rfl
theorem cg_sum : Sum Try.prog 66 GF := by
  refine sum_of cgOk Try.func66 (by kernel_rfl) (by kernel_rfl) rfl (fuel := 60) fun args v h _ => ?_
  unfold GF at h
  split at h
  · simp only [Option.some.injEq, Prod.mk.injEq, true_and] at h
    subst h
    exact ⟨by show 0 ≤ Try.f66.ntmps; decide +kernel, (cg_ev ).trans (rfl), rfl⟩
  · simp at h

end Go.Proofs.Ytbklbmiddacaiaa

/-
  Package curve as it landed: contracts, second part; its laws without bytes.
-/
namespace Go.Proofs.Ytbklbmiddacaiaa
set_option maxRecDepth 100000
open Go.W
open Go.RowKit (Below)

def suNt : List Nat := [4, 5, 6, 7, 8, 9, 10]
def suNi : List Nat := [0, 1, 2, 3, 4, 6]
def suSt (n : Nat) (p : RP) (m : Nat) (q : RP) (t : N3) (i : Int) : St :=
  ⟨[(4, ptr 0), (5, ptr 1), (6, ptr 2), (7, ptr 3), (8, ptr 4), (9, ptr 6), (10, i64 i)],
   [(0, ⟨cells4 n, 25, true⟩), (1, ⟨ptC p, 45, true⟩), (2, ⟨cells4 m, 25, true⟩), (3, ⟨ptC q, 45, true⟩), (4, ⟨ptC zR, 45, true⟩), (6, ⟨jacC t, 94, true⟩)], 15⟩
def suC0 : Cfg := ⟨tab, [(96, DblF), (97, BitF), (89, PlsF)], 40, []⟩
theorem suOk0 : CfgOk Try.prog suC0 (bodyOf Try.f65) := ⟨mixed, tabOk, sums_cons cdbl_sum (sums_cons Bit_sum (sums_cons cpls_sum sums_nil)), noL⟩
theorem su_at : codeAt [1, 1, 0, 1, 0] (bodyOf Try.f65) = some (.loop (loopAt [1, 1, 0, 1, 0] (bodyOf Try.f65))) := by kernel_rfl
theorem su_r (n : Nat) (p : RP) (m : Nat) (q : RP) (t : N3) (i : Int) : roundS suC0 60 [1, 1, 0, 1, 0, 0] (loopAt [1, 1, 0, 1, 0] (bodyOf Try.f65)) suNt suNi 15 suNt suNi 15 (suSt n p m q t i) =
    bif decide (i ≥ 0) then suR n p m q t i (fun t => some (.normal, suSt n p m q t (IntKind.i64.wrap (i - 1)))) else some (.exit 0, suSt n p m q t i) := by kernel_rfl
noncomputable def suC (n : Nat) (p : RP) (m : Nat) (q : RP) (t : N3) (i : Int) : Cfg := ⟨tab, [(95, LenF), (91, PtF)], 40, [([1, 1, 0, 1, 0], atSt suNt suNi 15 (suSt n p m q (0, 0, 0) i) (.exit 0) (suSt n p m q t (-1)))]⟩
theorem su_ev (n : Nat) (p : RP) (m : Nat) (q : RP) (t : N3) (i : Int) : fnS (suC n p m q t i) 60 Try.f65 (bodyOf Try.f65) [num n, ptV p, num m, ptV q] =
    req (isNum (num n)) (req (isNum (num m)) (req (stEq (suSt n p m q (0, 0, 0) (IntKind.i64.wrap ((if ((bitLen (unnum (num m)) : Nat) : Int) > ((bitLen (unnum (num n)) : Nat) : Int) then ((bitLen (unnum (num m)) : Nat) : Int) else ((bitLen (unnum (num n)) : Nat) : Int)) - 1))) (suSt n p m q (0, 0, 0) i))
      (req (isJac (jacV t)) (some (ptV (ptR (unJ (jacV t)))))))) := by kernel_rfl
theorem sumOf_sum : Sum Try.prog 65 SuOF := by
  intro args v h
  unfold SuOF at h
  split at h
  · rename_i n0 p0 m0 q0
    simp only [Option.some.injEq, Prod.mk.injEq, Bool.and_eq_true] at h
    obtain ⟨⟨⟨⟨⟨⟨h1, h2⟩, h3⟩, h4⟩, c1⟩, c2⟩, rfl⟩ := h
    obtain ⟨n, hn, rfl⟩ := isNum_some h1
    obtain ⟨p, hp, rfl⟩ := isPt_some h2
    obtain ⟨m, hm, rfl⟩ := isNum_some h3
    obtain ⟨q, hq, rfl⟩ := isPt_some h4
    simp only [unnum_lt hn, unnum_lt hm, unPt_ptV hp, unPt_ptV hq] at c1 c2 ⊢
    obtain ⟨L, hL1, hL2, hL3, hL⟩ : ∃ L : Nat, bitLen n ≤ L ∧ bitLen m ≤ L ∧ L ≤ 256 ∧ ((if ((bitLen m : Nat) : Int) > ((bitLen n : Nat) : Int) then ((bitLen m : Nat) : Int) else ((bitLen n : Nat) : Int)) : Int) = (L : Int) := by
      have a1 := bitLen_lt hn
      have a2 := bitLen_lt hm
      split
      · exact ⟨bitLen m, by omega, by omega, a2, rfl⟩
      · exact ⟨bitLen n, by omega, by omega, a1, rfl⟩
    have hLo : LoopOk Try.prog 40 (loopAt [1, 1, 0, 1, 0] (bodyOf Try.f65)) (atSt suNt suNi 15 (suSt n p m q (0, 0, 0) ((L : Int) - 1)) (.exit 0) (suSt n p m q (smK n p m q L L) (-1))) := by
      refine atSt_ok fun w0 R a W hrel => ?_
      refine loop_rounds (R := R) (C := suC0) suOk0 su_at (m := 60) (nt := suNt) (ni := suNi) (et := suNt) (ei := suNi) (nx := 15) (ex := 15) (e := .exit 0) (sf := suSt n p m q (smK n p m q L L) (-1))
        (fun k => suSt n p m q (smK n p m q L k) ((L : Int) - 1 - (k : Int))) L (by intro h; cases h) ?_ ?_ ?_
      · intro k hk
        refine (su_r _ _ _ _ _ _).trans ?_
        rw [decide_eq_true (by omega), cond_true, suR_eq hn hm hp hq hL3 hk, wrap_i64 (by omega), show ((L : Int) - 1 - (k : Int) - 1) = (L : Int) - 1 - ((k + 1 : Nat) : Int) from by omega]
      · refine (su_r _ _ _ _ _ _).trans ?_
        have e : (L : Int) - 1 - ((L : Nat) : Int) = -1 := by omega
        rw [e]; rfl
      · rw [show (L : Int) - 1 - ((0 : Nat) : Int) = (L : Int) - 1 from by omega]; exact hrel
    have hOk : CfgOk Try.prog (suC n p m q (smK n p m q L L) ((L : Int) - 1)) (bodyOf Try.f65) := ⟨mixed, tabOk, sums_cons Len_sum (sums_cons cptt_sum sums_nil), oneL hLo⟩
    refine sum_at hOk Try.func65 (by kernel_rfl) (by kernel_rfl) rfl (fuel := 60) (by show 4 ≤ Try.f65.ntmps; decide +kernel) ?_ rfl
    refine (su_ev n p m q _ _).trans ?_
    rw [isNum_num, isNum_num, req_true rfl, req_true rfl, unnum_lt hn, unnum_lt hm, hL, wrap_i64 (by omega), req_true (stEq_refl rfl), isJac_jacV, req_true rfl, unJ_jacV (okJ_sm n hp m hq L L), J3_smL c1 c2 (lt_bitLen hL1) (lt_bitLen hL2)]
  · simp at h

noncomputable def cAdC : Cfg := ⟨tab, [(64, CkF), (90, LiftF), (89, PlsF), (91, PtF)], 20, []⟩
theorem cAdOk : CfgOk Try.prog cAdC (bodyOf Try.f63) := ⟨mixed, tabOk, (sums_cons cis_sum (sums_cons clif_sum (sums_cons cpls_sum (sums_cons cptt_sum sums_nil)))), noL⟩
theorem cAd_ev (p : RP) (q : RP) : fnS cAdC 60 Try.f63 (bodyOf Try.f63) [(ptV p), (ptV q)] = cAddT (ptV p) (ptV q) := by kernel_rfl
theorem cAd_sum : Sum Try.prog 63 CAddF := by
  refine sum_of cAdOk Try.func63 (by kernel_rfl) (by kernel_rfl) rfl (fuel := 60) fun args v h _ => ?_
  unfold CAddF at h
  split at h
  · simp only [Option.some.injEq, Prod.mk.injEq, Bool.and_eq_true] at h
    obtain ⟨⟨h0, h1⟩, rfl⟩ := h
    obtain ⟨p, hp, rfl⟩ := isPt_some h0
    obtain ⟨q, hq, rfl⟩ := isPt_some h1
    rw [unPt_ptV hp, unPt_ptV hq]
    exact ⟨by show 2 ≤ Try.f63.ntmps; decide +kernel, (cAd_ev p q).trans (cAddT_eq hp hq), rfl⟩
  · simp at h

noncomputable def cBaC : Cfg := ⟨tab, [(66, GF), (65, SuOF)], 8, []⟩
theorem cBaOk : CfgOk Try.prog cBaC (bodyOf Try.f35) := ⟨mixed, tabOk, (sums_cons cg_sum (sums_cons sumOf_sum sums_nil)), noL⟩
theorem cBa_ev (n : Nat) : fnS cBaC 60 Try.f35 (bodyOf Try.f35) [(num n)] = cBasT (num n) := by kernel_rfl
theorem cBa_sum : Sum Try.prog 35 CBasF := by
  refine sum_of cBaOk Try.func35 (by kernel_rfl) (by kernel_rfl) rfl (fuel := 60) fun args v h _ => ?_
  unfold CBasF at h
  split at h
  · simp only [Option.some.injEq, Prod.mk.injEq] at h
    obtain ⟨h0, rfl⟩ := h
    obtain ⟨n, hn, rfl⟩ := isNum_some h0
    rw [unnum_lt hn]
    exact ⟨by show 1 ≤ Try.f35.ntmps; decide +kernel, (cBa_ev n).trans (cBasT_eq hn), rfl⟩
  · simp at h

noncomputable def cTwC : Cfg := ⟨tab, [(64, CkF), (65, SuOF)], 24, []⟩
theorem cTwOk : CfgOk Try.prog cTwC (bodyOf Try.f51) := ⟨mixed, tabOk, (sums_cons cis_sum (sums_cons sumOf_sum sums_nil)), noL⟩
theorem cTw_ev (n : Nat) (p : RP) (m : Nat) (q : RP) : fnS cTwC 60 Try.f51 (bodyOf Try.f51) [(num n), (ptV p), (num m), (ptV q)] = cTwoT (num n) (ptV p) (num m) (ptV q) := by kernel_rfl
theorem cTw_sum : Sum Try.prog 51 CTwoF := by
  refine sum_of cTwOk Try.func51 (by kernel_rfl) (by kernel_rfl) rfl (fuel := 60) fun args v h _ => ?_
  unfold CTwoF at h
  split at h
  · simp only [Option.some.injEq, Prod.mk.injEq, Bool.and_eq_true] at h
    obtain ⟨⟨⟨⟨h0, h1⟩, h2⟩, h3⟩, rfl⟩ := h
    obtain ⟨n, hn, rfl⟩ := isNum_some h0
    obtain ⟨p, hp, rfl⟩ := isPt_some h1
    obtain ⟨m, hm, rfl⟩ := isNum_some h2
    obtain ⟨q, hq, rfl⟩ := isPt_some h3
    rw [unnum_lt hn, unPt_ptV hp, unnum_lt hm, unPt_ptV hq]
    exact ⟨by show 4 ≤ Try.f51.ntmps; decide +kernel, (cTw_ev n p m q).trans (cTwoT_eq hn hm hp hq), rfl⟩
  · simp at h

end Go.Proofs.Ytbklbmiddacaiaa
