/-
  Several texts in one.
-/
import Derived.Test.YtcadoocgbfchaaaSb
import Derived.Test.YtcadoocgbfchaaaEd
import Derived.Test.YtcadoocgbfchaaaSc
/-
  The document's own answers, package curve: what the engine says of their texts, first part.
-/
namespace Go.Proofs.Ytcadoocgbfchaaa
set_option maxRecDepth 100000
open Go.W
open Go.RowKit (Below)

def mulC : Cfg := ⟨tab, [(71, FMulF)], 8, []⟩
theorem mulOk : CfgOk Try.prog mulC (bodyOf Try.f38) := ⟨mixed, tabOk, sums_cons FMulR_sum sums_nil, noL⟩
theorem mul_ev (A B : Nat) : fnS mulC 60 Try.f38 (bodyOf Try.f38) [num A, num B] = r2 (num A) (num B) (some (mv (num A) (num B))) := by kernel_rfl
theorem mul_sum : Sum Try.prog 38 MvF := by
  refine sum_of mulOk Try.func38 (by kernel_rfl) (by kernel_rfl) rfl (fuel := 60) fun args v h _ => ?_
  obtain ⟨X, Y, hX, hY, rfl, rfl⟩ := arg2 (f := fun x y => mv x y) h
  exact ⟨by show 2 ≤ Try.f38.ntmps; decide +kernel, by rw [mul_ev, r2_num], rfl⟩

def addC : Cfg := ⟨tab, [(72, FAddF)], 8, []⟩
theorem addOk : CfgOk Try.prog addC (bodyOf Try.f39) := ⟨mixed, tabOk, sums_cons FAddR_sum sums_nil, noL⟩
theorem add_ev (A B : Nat) : fnS addC 60 Try.f39 (bodyOf Try.f39) [num A, num B] = r2 (num A) (num B) (some (av (num A) (num B))) := by kernel_rfl
theorem add_sum : Sum Try.prog 39 AvF := by
  refine sum_of addOk Try.func39 (by kernel_rfl) (by kernel_rfl) rfl (fuel := 60) fun args v h _ => ?_
  obtain ⟨X, Y, hX, hY, rfl, rfl⟩ := arg2 (f := fun x y => av x y) h
  exact ⟨by show 2 ≤ Try.f39.ntmps; decide +kernel, by rw [add_ev, r2_num], rfl⟩

def subC : Cfg := ⟨tab, [(82, FSubF)], 8, []⟩
theorem subOk : CfgOk Try.prog subC (bodyOf Try.f47) := ⟨mixed, tabOk, sums_cons FSubR_sum sums_nil, noL⟩
theorem sub_ev (A B : Nat) : fnS subC 60 Try.f47 (bodyOf Try.f47) [num A, num B] = r2 (num A) (num B) (some (sv (num A) (num B))) := by kernel_rfl
theorem sub_sum : Sum Try.prog 47 SvF := by
  refine sum_of subOk Try.func47 (by kernel_rfl) (by kernel_rfl) rfl (fuel := 60) fun args v h _ => ?_
  obtain ⟨X, Y, hX, hY, rfl, rfl⟩ := arg2 (f := fun x y => sv x y) h
  exact ⟨by show 2 ≤ Try.f47.ntmps; decide +kernel, by rw [sub_ev, r2_num], rfl⟩

def infC : Cfg := ⟨tab, [], 2, []⟩
theorem infOk : CfgOk Try.prog infC (bodyOf Try.f57) := ⟨mixed, tabOk, sums_nil, noL⟩
theorem inf_ev  : fnS infC 60 Try.f57 (bodyOf Try.f57) [] = some (ptV (true, 0, 0)) := by kernel_rfl
theorem inf_sum : Sum Try.prog 57 InfF := by
  refine sum_of infOk Try.func57 (by kernel_rfl) (by kernel_rfl) rfl (fuel := 60) fun args v h _ => ?_
  unfold InfF at h
  split at h
  · simp only [Option.some.injEq, Prod.mk.injEq, true_and] at h
    subst h
    exact ⟨by show 0 ≤ Try.f57.ntmps; decide +kernel, inf_ev, rfl⟩
  · simp at h

def ggC : Cfg := ⟨tab, [], 4, []⟩
theorem ggOk : CfgOk Try.prog ggC (bodyOf Try.f46) := ⟨mixed, tabOk, sums_nil, noL⟩
theorem gg_ev  : fnS ggC 60 Try.f46 (bodyOf Try.f46) [] = some (ptV (false, gXn, gYn)) := by kernel_rfl
theorem gg_sum : Sum Try.prog 46 GF := by
  refine sum_of ggOk Try.func46 (by kernel_rfl) (by kernel_rfl) rfl (fuel := 60) fun args v h _ => ?_
  unfold GF at h
  split at h
  · simp only [Option.some.injEq, Prod.mk.injEq, true_and] at h
    subst h
    exact ⟨by show 0 ≤ Try.f46.ntmps; decide +kernel, gg_ev, rfl⟩
  · simp at h

def ckC : Cfg := ⟨tab, [(38, MvF), (39, AvF), (36, CmpF), (37, PrimeF)], 45, []⟩
theorem ckOk : CfgOk Try.prog ckC (bodyOf Try.f9) := ⟨mixed, tabOk, sums_cons mul_sum (sums_cons add_sum (sums_cons CmpR_sum (sums_cons PrimeR_sum (sums_nil)))), noL⟩
theorem ck_ev (i : Bool) (X Y : Nat) : fnS ckC 60 Try.f9 (bodyOf Try.f9) [ptV (i, X, Y)] = ckT i (num X) (num Y) := by kernel_rfl
theorem ck_sum : Sum Try.prog 9 CkF := by
  refine sum_of ckOk Try.func9 (by kernel_rfl) (by kernel_rfl) rfl (fuel := 60) fun args v h _ => ?_
  unfold CkF at h
  split at h
  · simp only [Option.some.injEq, Prod.mk.injEq] at h
    obtain ⟨h1, rfl⟩ := h
    obtain ⟨⟨i, X, Y⟩, ⟨hX, hY⟩, rfl⟩ := isPt_some h1
    rw [unPt_ptV (r := (i, X, Y)) ⟨hX, hY⟩]
    exact ⟨by show 1 ≤ Try.f9.ntmps; decide +kernel, (ck_ev i X Y).trans (ckT_eq hX hY), rfl⟩
  · simp at h

def ngC : Cfg := ⟨tab, [(47, SvF)], 12, []⟩
theorem ngOk : CfgOk Try.prog ngC (bodyOf Try.f17) := ⟨mixed, tabOk, sums_cons sub_sum (sums_nil), noL⟩
theorem ng_ev (i : Bool) (X Y : Nat) : fnS ngC 60 Try.f17 (bodyOf Try.f17) [ptV (i, X, Y)] = ngT i (num X) (num Y) := by kernel_rfl
theorem ng_sum : Sum Try.prog 17 NegRF := by
  refine sum_of ngOk Try.func17 (by kernel_rfl) (by kernel_rfl) rfl (fuel := 60) fun args v h _ => ?_
  unfold NegRF at h
  split at h
  · simp only [Option.some.injEq, Prod.mk.injEq] at h
    obtain ⟨h1, rfl⟩ := h
    obtain ⟨⟨i, X, Y⟩, ⟨hX, hY⟩, rfl⟩ := isPt_some h1
    rw [unPt_ptV (r := (i, X, Y)) ⟨hX, hY⟩]
    exact ⟨by show 1 ≤ Try.f17.ntmps; decide +kernel, (ng_ev i X Y).trans (ngT_eq hY), rfl⟩
  · simp at h

def uprC : Cfg := ⟨tab, [], 15, []⟩
theorem uprOk : CfgOk Try.prog uprC (bodyOf Try.f51) := ⟨mixed, tabOk, sums_nil, noL⟩
theorem upr_ev (i : Bool) (X Y : Nat) : fnS uprC 60 Try.f51 (bodyOf Try.f51) [ptV (i, X, Y)] = upT i (num X) (num Y) := by kernel_rfl
theorem upr_sum : Sum Try.prog 51 UpF := by
  refine sum_of uprOk Try.func51 (by kernel_rfl) (by kernel_rfl) rfl (fuel := 60) fun args v h _ => ?_
  unfold UpF at h
  split at h
  · simp only [Option.some.injEq, Prod.mk.injEq] at h
    obtain ⟨h1, rfl⟩ := h
    obtain ⟨⟨i, X, Y⟩, ⟨hX, hY⟩, rfl⟩ := isPt_some h1
    rw [unPt_ptV (r := (i, X, Y)) ⟨hX, hY⟩]
    exact ⟨by show 1 ≤ Try.f51.ntmps; decide +kernel, (upr_ev i X Y).trans (upT_eq i X Y), rfl⟩
  · simp at h

def dnrC : Cfg := ⟨tab, [(38, MvF), (83, InvF), (57, InfF)], 27, []⟩
theorem dnrOk : CfgOk Try.prog dnrC (bodyOf Try.f48) := ⟨mixed, tabOk, sums_cons mul_sum (sums_cons InvR_sum (sums_cons inf_sum (sums_nil))), noL⟩
theorem dnr_ev (X Y Z : Nat) : fnS dnrC 60 Try.f48 (bodyOf Try.f48) [jacV (X, Y, Z)] = dnT (num X) (num Y) (num Z) := by kernel_rfl
theorem dnr_sum : Sum Try.prog 48 DnF := by
  refine sum_of dnrOk Try.func48 (by kernel_rfl) (by kernel_rfl) rfl (fuel := 60) fun args v h _ => ?_
  unfold DnF at h
  split at h
  · simp only [Option.some.injEq, Prod.mk.injEq] at h
    obtain ⟨h1, rfl⟩ := h
    obtain ⟨⟨X, Y, Z⟩, ⟨hX, hY, hZ⟩, rfl⟩ := isJac_some h1
    rw [unJ_jacV (t := (X, Y, Z)) ⟨hX, hY, hZ⟩]
    exact ⟨by show 1 ≤ Try.f48.ntmps; decide +kernel, (dnr_ev X Y Z).trans (dnT_eq hX hY hZ), rfl⟩
  · simp at h

def twC : Cfg := ⟨tab, [(38, MvF), (39, AvF), (47, SvF), (57, InfF), (51, UpF)], 92, []⟩
theorem twOk : CfgOk Try.prog twC (bodyOf Try.f84) := ⟨mixed, tabOk, sums_cons mul_sum (sums_cons add_sum (sums_cons sub_sum (sums_cons inf_sum (sums_cons upr_sum (sums_nil))))), noL⟩
theorem tw_ev (X Y Z : Nat) : fnS twC 60 Try.f84 (bodyOf Try.f84) [jacV (X, Y, Z)] = twT (num X) (num Y) (num Z) := by kernel_rfl
theorem tw_sum : Sum Try.prog 84 TwF := by
  refine sum_of twOk Try.func84 (by kernel_rfl) (by kernel_rfl) rfl (fuel := 60) fun args v h _ => ?_
  unfold TwF at h
  split at h
  · simp only [Option.some.injEq, Prod.mk.injEq] at h
    obtain ⟨h1, rfl⟩ := h
    obtain ⟨⟨X, Y, Z⟩, ⟨hX, hY, hZ⟩, rfl⟩ := isJac_some h1
    rw [unJ_jacV (t := (X, Y, Z)) ⟨hX, hY, hZ⟩]
    exact ⟨by show 1 ≤ Try.f84.ntmps; decide +kernel, (tw_ev X Y Z).trans (twT_eq hX hY hZ), rfl⟩
  · simp at h

def plC : Cfg := ⟨tab, [(38, MvF), (39, AvF), (47, SvF), (57, InfF), (51, UpF), (84, TwF)], 113, []⟩
theorem plOk : CfgOk Try.prog plC (bodyOf Try.f50) := ⟨mixed, tabOk, sums_cons mul_sum (sums_cons add_sum (sums_cons sub_sum (sums_cons inf_sum (sums_cons upr_sum (sums_cons tw_sum (sums_nil)))))), noL⟩
theorem pl_ev (X Y Z X2 Y2 Z2 : Nat) : fnS plC 60 Try.f50 (bodyOf Try.f50) [jacV (X, Y, Z), jacV (X2, Y2, Z2)] = plT (num X) (num Y) (num Z) (num X2) (num Y2) (num Z2) := by kernel_rfl
theorem pl_sum : Sum Try.prog 50 PlF := by
  refine sum_of plOk Try.func50 (by kernel_rfl) (by kernel_rfl) rfl (fuel := 60) fun args v h _ => ?_
  unfold PlF at h
  split at h
  · simp only [Option.some.injEq, Prod.mk.injEq] at h
    rw [Bool.and_eq_true] at h
    obtain ⟨⟨h1, h2⟩, rfl⟩ := h
    obtain ⟨⟨X, Y, Z⟩, ⟨hX, hY, hZ⟩, rfl⟩ := isJac_some h1
    obtain ⟨⟨X2, Y2, Z2⟩, ⟨hX2, hY2, hZ2⟩, rfl⟩ := isJac_some h2
    rw [unJ_jacV (t := (X, Y, Z)) ⟨hX, hY, hZ⟩, unJ_jacV (t := (X2, Y2, Z2)) ⟨hX2, hY2, hZ2⟩]
    exact ⟨by show 2 ≤ Try.f50.ntmps; decide +kernel, (pl_ev X Y Z X2 Y2 Z2).trans (plT_eq hX hY hZ hX2 hY2 hZ2), rfl⟩
  · simp at h

end Go.Proofs.Ytcadoocgbfchaaa

/-
  The document's own answers, package curve: what the engine says of their texts, second part: sums, multiples.
-/
namespace Go.Proofs.Ytcadoocgbfchaaa
set_option maxRecDepth 100000
open Go.W
open Go.RowKit (Below)

def tmNt : List Nat := [2, 3, 4, 5, 6]
def tmNi : List Nat := [0, 1, 2, 5]
def tmSt (n : Nat) (r : RP) (t : N3) (i : Int) : St :=
  ⟨[(2, ptr 0), (3, ptr 1), (4, ptr 2), (5, ptr 5), (6, i64 i)], [(0, ⟨cells4 n, 24, true⟩), (1, ⟨ptC r, 26, true⟩), (2, ⟨jacC (0, 0, 0), 70, true⟩), (5, ⟨jacC t, 70, true⟩)], 8⟩
def tmC0 : Cfg := ⟨tab, [(84, TwF), (85, BitF), (51, UpF), (50, PlF)], 24, []⟩
theorem tmOk0 : CfgOk Try.prog tmC0 (bodyOf Try.f49) := ⟨mixed, tabOk, sums_cons tw_sum (sums_cons BitR_sum (sums_cons upr_sum (sums_cons pl_sum sums_nil))), noL⟩
theorem tm_at : codeAt [1, 1, 0, 1, 0] (bodyOf Try.f49) = some (.loop (loopAt [1, 1, 0, 1, 0] (bodyOf Try.f49))) := by kernel_rfl
theorem tm_r (n : Nat) (r : RP) (t : N3) (i : Int) : roundS tmC0 60 [1, 1, 0, 1, 0, 0] (loopAt [1, 1, 0, 1, 0] (bodyOf Try.f49)) tmNt tmNi 8 tmNt tmNi 8 (tmSt n r t i) =
    bif decide (i ≥ 0) then tmR n r t i (fun t => some (.normal, tmSt n r t (IntKind.i64.wrap (i - 1)))) else some (.exit 0, tmSt n r t i) := by kernel_rfl
noncomputable def tmC (n : Nat) (r : RP) (t : N3) : Cfg := ⟨tab, [(57, InfF), (51, UpF)], 24, [([1, 1, 0, 1, 0], atSt tmNt tmNi 8 (tmSt n r (1, 1, 0) 255) (.exit 0) (tmSt n r t (-1)))]⟩
theorem tm_ev (n : Nat) (r : RP) (t : N3) : fnS (tmC n r t) 60 Try.f49 (bodyOf Try.f49) [num n, ptV r] =
    req (stEq (tmSt n r (1, 1, 0) 255) (tmSt n r (1, 1, 0) 255)) (some (jacV t)) := by kernel_rfl
theorem tm_sum : Sum Try.prog 49 TmF := by
  intro args v h
  unfold TmF at h
  split at h
  · rename_i n0 p0
    simp only [Option.some.injEq, Prod.mk.injEq, Bool.and_eq_true] at h
    obtain ⟨⟨h1, h2⟩, rfl⟩ := h
    obtain ⟨n, hn, rfl⟩ := isNum_some h1
    obtain ⟨r, hr, rfl⟩ := isPt_some h2
    rw [unnum_lt hn, unPt_ptV hr, tmJ_eq]
    have hL : LoopOk Try.prog 24 (loopAt [1, 1, 0, 1, 0] (bodyOf Try.f49)) (atSt tmNt tmNi 8 (tmSt n r (1, 1, 0) 255) (.exit 0) (tmSt n r (tmK n (upJ r) 256) (-1))) := by
      refine atSt_ok fun w0 R a W hrel => ?_
      refine loop_rounds (R := R) (C := tmC0) tmOk0 tm_at (m := 60) (nt := tmNt) (ni := tmNi) (et := tmNt) (ei := tmNi) (nx := 8) (ex := 8) (e := .exit 0) (sf := tmSt n r (tmK n (upJ r) 256) (-1))
        (fun k => tmSt n r (tmK n (upJ r) k) (255 - (k : Int))) 256 (by intro h; cases h) ?_ ?_ hrel
      · intro k hk
        refine (tm_r _ _ _ _).trans ?_
        rw [decide_eq_true (by omega), cond_true, tmR_eq hn hr hk, wrap_i64 (by omega), show (255 - (k : Int) - 1) = 255 - ((k + 1 : Nat) : Int) from by omega]
      · refine (tm_r _ _ _ _).trans ?_
        have hd : decide (255 - ((256 : Nat) : Int) ≥ 0) = false := by decide
        rw [hd, cond_false]; rfl
    have hOk : CfgOk Try.prog (tmC n r (tmK n (upJ r) 256)) (bodyOf Try.f49) := ⟨mixed, tabOk, sums_cons inf_sum (sums_cons upr_sum sums_nil), oneL hL⟩
    refine sum_at hOk Try.func49 (by kernel_rfl) (by kernel_rfl) rfl (fuel := 60) (by show 2 ≤ Try.f49.ntmps; decide +kernel) ?_ rfl
    refine (tm_ev n r _).trans ?_
    rw [req_true (stEq_refl rfl)]
  · simp at h

noncomputable def sumRC : Cfg := ⟨tab, [(51, UpF), (50, PlF), (48, DnF)], 11, []⟩
theorem sumROk : CfgOk Try.prog sumRC (bodyOf Try.f19) := ⟨mixed, tabOk, sums_cons upr_sum (sums_cons pl_sum (sums_cons dnr_sum (sums_nil))), noL⟩
theorem sumR_ev (p q : RP) : fnS sumRC 60 Try.f19 (bodyOf Try.f19) [ptV p, ptV q] = sumT (ptV p) (ptV q) := by kernel_rfl
theorem sumR_sum : Sum Try.prog 19 SumRF := by
  refine sum_of sumROk Try.func19 (by kernel_rfl) (by kernel_rfl) rfl (fuel := 60) fun args v h _ => ?_
  unfold SumRF at h
  split at h
  · simp only [Option.some.injEq, Prod.mk.injEq, Bool.and_eq_true] at h
    obtain ⟨⟨h1, h2⟩, rfl⟩ := h
    obtain ⟨p, hp, rfl⟩ := isPt_some h1
    obtain ⟨q, hq, rfl⟩ := isPt_some h2
    rw [unPt_ptV hp, unPt_ptV hq]
    exact ⟨by show 2 ≤ Try.f19.ntmps; decide +kernel, (sumR_ev p q).trans (sumT_eq hp hq), rfl⟩
  · simp at h

noncomputable def timRC : Cfg := ⟨tab, [(49, TmF), (48, DnF)], 9, []⟩
theorem timROk : CfgOk Try.prog timRC (bodyOf Try.f18) := ⟨mixed, tabOk, sums_cons tm_sum (sums_cons dnr_sum (sums_nil)), noL⟩
theorem timR_ev (n : Nat) (p : RP) : fnS timRC 60 Try.f18 (bodyOf Try.f18) [num n, ptV p] = timT (num n) (ptV p) := by kernel_rfl
theorem timR_sum : Sum Try.prog 18 TimRF := by
  refine sum_of timROk Try.func18 (by kernel_rfl) (by kernel_rfl) rfl (fuel := 60) fun args v h _ => ?_
  unfold TimRF at h
  split at h
  · simp only [Option.some.injEq, Prod.mk.injEq, Bool.and_eq_true] at h
    obtain ⟨⟨h1, h2⟩, rfl⟩ := h
    obtain ⟨n, hn, rfl⟩ := isNum_some h1
    obtain ⟨p, hp, rfl⟩ := isPt_some h2
    rw [unnum_lt hn, unPt_ptV hp]
    exact ⟨by show 2 ≤ Try.f18.ntmps; decide +kernel, (timR_ev n p).trans (timT_eq hn hp), rfl⟩
  · simp at h

noncomputable def basRC : Cfg := ⟨tab, [(18, TimRF), (46, GF)], 6, []⟩
theorem basROk : CfgOk Try.prog basRC (bodyOf Try.f23) := ⟨mixed, tabOk, sums_cons timR_sum (sums_cons gg_sum (sums_nil)), noL⟩
theorem basR_ev (n : Nat) : fnS basRC 60 Try.f23 (bodyOf Try.f23) [num n] = req (isNum (num n) && isPt (ptV gR)) (some (ptV (timR (unnum (num n)) (unPt (ptV gR))))) := by kernel_rfl
theorem basR_sum : Sum Try.prog 23 BasRF := by
  refine sum_of basROk Try.func23 (by kernel_rfl) (by kernel_rfl) rfl (fuel := 60) fun args v h _ => ?_
  unfold BasRF at h
  split at h
  · simp only [Option.some.injEq, Prod.mk.injEq] at h
    obtain ⟨h1, rfl⟩ := h
    obtain ⟨n, hn, rfl⟩ := isNum_some h1
    rw [unnum_lt hn]
    exact ⟨by show 1 ≤ Try.f23.ntmps; decide +kernel, (basR_ev n).trans (by rw [isNum_num, isPt_ptV, unnum_lt hn, unPt_ptV (ck_okR gR_ck)]; rfl), rfl⟩
  · simp at h

noncomputable def twoRC : Cfg := ⟨tab, [(49, TmF), (50, PlF), (48, DnF)], 17, []⟩
theorem twoROk : CfgOk Try.prog twoRC (bodyOf Try.f20) := ⟨mixed, tabOk, sums_cons tm_sum (sums_cons pl_sum (sums_cons dnr_sum (sums_nil))), noL⟩
theorem twoR_ev (n m : Nat) (p q : RP) : fnS twoRC 60 Try.f20 (bodyOf Try.f20) [num n, ptV p, num m, ptV q] = twoT (num n) (ptV p) (num m) (ptV q) := by kernel_rfl
theorem twoR_sum : Sum Try.prog 20 TwoRF := by
  refine sum_of twoROk Try.func20 (by kernel_rfl) (by kernel_rfl) rfl (fuel := 60) fun args v h _ => ?_
  unfold TwoRF at h
  split at h
  · simp only [Option.some.injEq, Prod.mk.injEq, Bool.and_eq_true] at h
    obtain ⟨⟨⟨⟨h1, h2⟩, h3⟩, h4⟩, rfl⟩ := h
    obtain ⟨n, hn, rfl⟩ := isNum_some h1
    obtain ⟨p, hp, rfl⟩ := isPt_some h2
    obtain ⟨m, hm, rfl⟩ := isNum_some h3
    obtain ⟨q, hq, rfl⟩ := isPt_some h4
    rw [unnum_lt hn, unnum_lt hm, unPt_ptV hp, unPt_ptV hq]
    exact ⟨by show 4 ≤ Try.f20.ntmps; decide +kernel, (twoR_ev n m p q).trans (twoT_eq hn hm hp hq), rfl⟩
  · simp at h

def kpC : Cfg := ⟨tab, [], 24, []⟩
theorem kpOk : CfgOk Try.prog kpC (bodyOf Try.f21) := ⟨mixed, tabOk, sums_nil, noL⟩
theorem kp_ev (i i2 : Bool) (X Y X2 Y2 : Nat) : fnS kpC 60 Try.f21 (bodyOf Try.f21) [ptV (i, X, Y), ptV (i2, X2, Y2)] = kpT i (num X) (num Y) i2 (num X2) (num Y2) := by kernel_rfl
theorem kp_sum : Sum Try.prog 21 KpF := by
  refine sum_of kpOk Try.func21 (by kernel_rfl) (by kernel_rfl) rfl (fuel := 60) fun args v h _ => ?_
  unfold KpF at h
  split at h
  · simp only [Option.some.injEq, Prod.mk.injEq, Bool.and_eq_true] at h
    obtain ⟨⟨h1, h2⟩, rfl⟩ := h
    obtain ⟨⟨i, X, Y⟩, hp, rfl⟩ := isPt_some h1
    obtain ⟨⟨i2, X2, Y2⟩, hq, rfl⟩ := isPt_some h2
    rw [unPt_ptV hp, unPt_ptV hq]
    exact ⟨by show 2 ≤ Try.f21.ntmps; decide +kernel, (kp_ev i i2 X Y X2 Y2).trans (kpT_eq hp hq), rfl⟩
  · simp at h

def likC : Cfg := ⟨tab, [(21, KpF)], 25, []⟩
theorem likOk : CfgOk Try.prog likC (bodyOf Try.f15) := ⟨mixed, tabOk, sums_cons kp_sum (sums_nil), noL⟩
theorem lik_ev (p q : RP) (e : Int) (ok : Bool) : fnS likC 60 Try.f15 (bodyOf Try.f15) [ptV p, i64 e, .bool ok, ptV q] = likT (ptV p) e ok (ptV q) := by kernel_rfl
theorem lik_sum : Sum Try.prog 15 LikF := by
  refine sum_of likOk Try.func15 (by kernel_rfl) (by kernel_rfl) rfl (fuel := 60) fun args v h _ => ?_
  unfold LikF at h
  split at h
  · simp only [Option.some.injEq, Prod.mk.injEq, Bool.and_eq_true] at h
    obtain ⟨⟨h1, h2⟩, rfl⟩ := h
    obtain ⟨p, hp, rfl⟩ := isPt_some h1
    obtain ⟨q, hq, rfl⟩ := isPt_some h2
    rw [unPt_ptV hp, unPt_ptV hq]
    exact ⟨by show 4 ≤ Try.f15.ntmps; decide +kernel, (lik_ev p q _ _).trans (likT_eq hp hq _ _), rfl⟩
  · simp at h

end Go.Proofs.Ytcadoocgbfchaaa

/-
  The laws of package curve that ask for no bytes: what the engine says of their texts, given the contracts of its functions.
-/
namespace Go.Proofs.Ytcadoocgbfchaaa
set_option maxRecDepth 100000
open Go.W
open Go.RowKit (Below)

def wak3F : List Value → Option (Bool × Value)
  | [] => some (true, .bool true)
  | _ => none
noncomputable def curG : Sums := [(10, CChkF), (11, CNegF), (12, CAddF), (13, CTimF), (22, CBasF), (14, CTwoF), (21, KpF)]
noncomputable def wak3C : Cfg := ⟨tab, (10, CChkF) :: (22, CBasF) :: (21, KpF) :: [(46, GF)], 17, []⟩
theorem wak3_ev : fnS wak3C 60 Try.f16 (bodyOf Try.f16) [] = wak3T := by kernel_rfl

noncomputable def CExC : Cfg := ⟨tab, (16, wak3F) :: (15, LikF) :: (9, CkF) :: (17, NegRF) :: (18, TimRF) :: (19, SumRF) :: (20, TwoRF) :: (23, BasRF) :: curG, 145, []⟩
theorem CEx_ev (p q : RP) (n m : Nat) : fnS CExC 100 Try.f3 (bodyOf Try.f3) [ptV p, ptV q, num n, num m] = CExT (ptV p) (ptV q) (num n) (num m) := by kernel_rfl

noncomputable def CGrC : Cfg := ⟨tab, (16, wak3F) :: curG, 133, []⟩
theorem CGr_ev (A B C : Nat) : fnS CGrC 100 Try.f5 (bodyOf Try.f5) [num A, num B, num C] = CGrT (num A) (num B) (num C) := by kernel_rfl

noncomputable def CMuC : Cfg := ⟨tab, (16, wak3F) :: (30, FAddF) :: (31, FMulF) :: curG, 95, []⟩
theorem CMu_ev (n m k : Nat) : fnS CMuC 100 Try.f6 (bodyOf Try.f6) [num n, num m, num k] = CMuT (num n) (num m) (num k) := by kernel_rfl

end Go.Proofs.Ytcadoocgbfchaaa

/-
  Package curve as it landed: contracts, first part.
-/
namespace Go.Proofs.Ytcadoocgbfchaaa
set_option maxRecDepth 100000
open Go.W
open Go.RowKit (Below)

noncomputable def caddC : Cfg := ⟨tab, [(30, FAddF)], 8, []⟩
theorem caddOk : CfgOk Try.prog caddC (bodyOf Try.f78) := ⟨mixed, tabOk, (sums_cons FAdd_sum sums_nil), noL⟩
theorem cadd_ev (A : Nat) (B : Nat) : fnS caddC 60 Try.f78 (bodyOf Try.f78) [(num A), (num B)] = r2 (num A) (num B) (some (av (num A) (num B))) := by kernel_rfl
theorem cadd_sum : Sum Try.prog 78 AvF := by
  refine sum_of caddOk Try.func78 (by kernel_rfl) (by kernel_rfl) rfl (fuel := 60) fun args v h _ => ?_
  unfold AvF at h
  split at h
  · simp only [Option.some.injEq, Prod.mk.injEq, Bool.and_eq_true] at h
    obtain ⟨⟨h0, h1⟩, rfl⟩ := h
    obtain ⟨A, hA, rfl⟩ := isNum_some h0
    obtain ⟨B, hB, rfl⟩ := isNum_some h1
    exact ⟨by show 2 ≤ Try.f78.ntmps; decide +kernel, (cadd_ev A B).trans (by rw [r2_num]), rfl⟩
  · simp at h

noncomputable def csubC : Cfg := ⟨tab, [(68, FSubF)], 8, []⟩
theorem csubOk : CfgOk Try.prog csubC (bodyOf Try.f75) := ⟨mixed, tabOk, (sums_cons FSub_sum sums_nil), noL⟩
theorem csub_ev (A : Nat) (B : Nat) : fnS csubC 60 Try.f75 (bodyOf Try.f75) [(num A), (num B)] = r2 (num A) (num B) (some (sv (num A) (num B))) := by kernel_rfl
theorem csub_sum : Sum Try.prog 75 SvF := by
  refine sum_of csubOk Try.func75 (by kernel_rfl) (by kernel_rfl) rfl (fuel := 60) fun args v h _ => ?_
  unfold SvF at h
  split at h
  · simp only [Option.some.injEq, Prod.mk.injEq, Bool.and_eq_true] at h
    obtain ⟨⟨h0, h1⟩, rfl⟩ := h
    obtain ⟨A, hA, rfl⟩ := isNum_some h0
    obtain ⟨B, hB, rfl⟩ := isNum_some h1
    exact ⟨by show 2 ≤ Try.f75.ntmps; decide +kernel, (csub_ev A B).trans (by rw [r2_num]), rfl⟩
  · simp at h

noncomputable def cmulC : Cfg := ⟨tab, [(31, FMulF)], 8, []⟩
theorem cmulOk : CfgOk Try.prog cmulC (bodyOf Try.f74) := ⟨mixed, tabOk, (sums_cons FMul_sum sums_nil), noL⟩
theorem cmul_ev (A : Nat) (B : Nat) : fnS cmulC 60 Try.f74 (bodyOf Try.f74) [(num A), (num B)] = r2 (num A) (num B) (some (mv (num A) (num B))) := by kernel_rfl
theorem cmul_sum : Sum Try.prog 74 MvF := by
  refine sum_of cmulOk Try.func74 (by kernel_rfl) (by kernel_rfl) rfl (fuel := 60) fun args v h _ => ?_
  unfold MvF at h
  split at h
  · simp only [Option.some.injEq, Prod.mk.injEq, Bool.and_eq_true] at h
    obtain ⟨⟨h0, h1⟩, rfl⟩ := h
    obtain ⟨A, hA, rfl⟩ := isNum_some h0
    obtain ⟨B, hB, rfl⟩ := isNum_some h1
    exact ⟨by show 2 ≤ Try.f74.ntmps; decide +kernel, (cmul_ev A B).trans (by rw [r2_num]), rfl⟩
  · simp at h

noncomputable def ctrnC : Cfg := ⟨tab, [(75, SvF)], 6, []⟩
theorem ctrnOk : CfgOk Try.prog ctrnC (bodyOf Try.f41) := ⟨mixed, tabOk, (sums_cons csub_sum sums_nil), noL⟩
theorem ctrn_ev (A : Nat) : fnS ctrnC 60 Try.f41 (bodyOf Try.f41) [(num A)] = r2 (num 0) (num A) (some (sv (num 0) (num A))) := by kernel_rfl
theorem ctrn_sum : Sum Try.prog 41 TrnF := by
  refine sum_of ctrnOk Try.func41 (by kernel_rfl) (by kernel_rfl) rfl (fuel := 60) fun args v h _ => ?_
  unfold TrnF at h
  split at h
  · simp only [Option.some.injEq, Prod.mk.injEq] at h
    obtain ⟨h0, rfl⟩ := h
    obtain ⟨A, hA, rfl⟩ := isNum_some h0
    exact ⟨by show 1 ≤ Try.f41.ntmps; decide +kernel, (ctrn_ev A).trans (by rw [r2_num]), rfl⟩
  · simp at h

noncomputable def clowC : Cfg := ⟨tab, [(34, CmpF), (32, PrimeF)], 7, []⟩
theorem clowOk : CfgOk Try.prog clowC (bodyOf Try.f73) := ⟨mixed, tabOk, (sums_cons Cmp_sum (sums_cons Prime_sum sums_nil)), noL⟩
theorem clow_ev (A : Nat) : fnS clowC 60 Try.f73 (bodyOf Try.f73) [(num A)] = lowPT (num A) := by kernel_rfl
theorem clow_sum : Sum Try.prog 73 LowPF := by
  refine sum_of clowOk Try.func73 (by kernel_rfl) (by kernel_rfl) rfl (fuel := 60) fun args v h _ => ?_
  unfold LowPF at h
  split at h
  · simp only [Option.some.injEq, Prod.mk.injEq] at h
    obtain ⟨h0, rfl⟩ := h
    obtain ⟨A, hA, rfl⟩ := isNum_some h0
    rw [unnum_lt hA]
    exact ⟨by show 1 ≤ Try.f73.ntmps; decide +kernel, (clow_ev A).trans (lowPT_eq hA), rfl⟩
  · simp at h

noncomputable def csqC : Cfg := ⟨tab, [(74, MvF), (78, AvF)], 10, []⟩
theorem csqOk : CfgOk Try.prog csqC (bodyOf Try.f55) := ⟨mixed, tabOk, (sums_cons cmul_sum (sums_cons cadd_sum sums_nil)), noL⟩
theorem csq_ev (A : Nat) : fnS csqC 60 Try.f55 (bodyOf Try.f55) [(num A)] = sqT (num A) := by kernel_rfl
theorem csq_sum : Sum Try.prog 55 SqAF := by
  refine sum_of csqOk Try.func55 (by kernel_rfl) (by kernel_rfl) rfl (fuel := 60) fun args v h _ => ?_
  unfold SqAF at h
  split at h
  · simp only [Option.some.injEq, Prod.mk.injEq] at h
    obtain ⟨h0, rfl⟩ := h
    obtain ⟨A, hA, rfl⟩ := isNum_some h0
    rw [unnum_lt hA]
    exact ⟨by show 1 ≤ Try.f55.ntmps; decide +kernel, (csq_ev A).trans (sqT_eq hA), rfl⟩
  · simp at h

noncomputable def cisC : Cfg := ⟨tab, [(74, MvF), (73, LowPF), (55, SqAF)], 27, []⟩
theorem cisOk : CfgOk Try.prog cisC (bodyOf Try.f40) := ⟨mixed, tabOk, (sums_cons cmul_sum (sums_cons clow_sum (sums_cons csq_sum sums_nil))), noL⟩
theorem cis_ev (ip : Bool) (Xp Yp : Nat) : fnS cisC 60 Try.f40 (bodyOf Try.f40) [(ptV (ip, Xp, Yp))] = isPT ip (num Xp) (num Yp) := by kernel_rfl
theorem cis_sum : Sum Try.prog 40 CkF := by
  refine sum_of cisOk Try.func40 (by kernel_rfl) (by kernel_rfl) rfl (fuel := 60) fun args v h _ => ?_
  unfold CkF at h
  split at h
  · simp only [Option.some.injEq, Prod.mk.injEq] at h
    obtain ⟨h0, rfl⟩ := h
    obtain ⟨⟨ip, Xp, Yp⟩, ⟨hXp, hYp⟩, rfl⟩ := isPt_some h0
    rw [unPt_ptV (r := (ip, Xp, Yp)) ⟨hXp, hYp⟩]
    exact ⟨by show 1 ≤ Try.f40.ntmps; decide +kernel, (cis_ev ip Xp Yp).trans (isPT_eq hXp hYp), rfl⟩
  · simp at h

noncomputable def cchkC : Cfg := ⟨tab, [(40, CkF)], 5, []⟩
theorem cchkOk : CfgOk Try.prog cchkC (bodyOf Try.f10) := ⟨mixed, tabOk, (sums_cons cis_sum sums_nil), noL⟩
theorem cchk_ev (p : RP) : fnS cchkC 60 Try.f10 (bodyOf Try.f10) [(ptV p)] = chkT (ptV p) := by kernel_rfl
theorem cchk_sum : Sum Try.prog 10 CChkF := by
  refine sum_of cchkOk Try.func10 (by kernel_rfl) (by kernel_rfl) rfl (fuel := 60) fun args v h _ => ?_
  unfold CChkF at h
  split at h
  · simp only [Option.some.injEq, Prod.mk.injEq] at h
    obtain ⟨h0, rfl⟩ := h
    obtain ⟨p, hp, rfl⟩ := isPt_some h0
    rw [unPt_ptV hp]
    exact ⟨by show 1 ≤ Try.f10.ntmps; decide +kernel, (cchk_ev p).trans (chkT_eq hp), rfl⟩
  · simp at h

noncomputable def cnegC : Cfg := ⟨tab, [(40, CkF), (41, TrnF)], 16, []⟩
theorem cnegOk : CfgOk Try.prog cnegC (bodyOf Try.f11) := ⟨mixed, tabOk, (sums_cons cis_sum (sums_cons ctrn_sum sums_nil)), noL⟩
theorem cneg_ev (ip : Bool) (Xp Yp : Nat) : fnS cnegC 60 Try.f11 (bodyOf Try.f11) [(ptV (ip, Xp, Yp))] = negT ip (num Xp) (num Yp) := by kernel_rfl
theorem cneg_sum : Sum Try.prog 11 CNegF := by
  refine sum_of cnegOk Try.func11 (by kernel_rfl) (by kernel_rfl) rfl (fuel := 60) fun args v h _ => ?_
  unfold CNegF at h
  split at h
  · simp only [Option.some.injEq, Prod.mk.injEq] at h
    obtain ⟨h0, rfl⟩ := h
    obtain ⟨⟨ip, Xp, Yp⟩, ⟨hXp, hYp⟩, rfl⟩ := isPt_some h0
    rw [unPt_ptV (r := (ip, Xp, Yp)) ⟨hXp, hYp⟩]
    exact ⟨by show 1 ≤ Try.f11.ntmps; decide +kernel, (cneg_ev ip Xp Yp).trans (negT_eq hXp hYp), rfl⟩
  · simp at h

noncomputable def clifC : Cfg := ⟨tab, [], 12, []⟩
theorem clifOk : CfgOk Try.prog clifC (bodyOf Try.f43) := ⟨mixed, tabOk, sums_nil, noL⟩
theorem clif_ev (ip : Bool) (Xp Yp : Nat) : fnS clifC 60 Try.f43 (bodyOf Try.f43) [(ptV (ip, Xp, Yp))] = lfT ip (num Xp) (num Yp) := by kernel_rfl
theorem clif_sum : Sum Try.prog 43 LiftF := by
  refine sum_of clifOk Try.func43 (by kernel_rfl) (by kernel_rfl) rfl (fuel := 60) fun args v h _ => ?_
  unfold LiftF at h
  split at h
  · simp only [Option.some.injEq, Prod.mk.injEq] at h
    obtain ⟨h0, rfl⟩ := h
    obtain ⟨⟨ip, Xp, Yp⟩, ⟨hXp, hYp⟩, rfl⟩ := isPt_some h0
    rw [unPt_ptV (r := (ip, Xp, Yp)) ⟨hXp, hYp⟩]
    exact ⟨by show 1 ≤ Try.f43.ntmps; decide +kernel, (clif_ev ip Xp Yp).trans (lfT_eq ip Xp Yp), rfl⟩
  · simp at h

noncomputable def cisiC : Cfg := ⟨tab, [], 7, []⟩
theorem cisiOk : CfgOk Try.prog cisiC (bodyOf Try.f76) := ⟨mixed, tabOk, sums_nil, noL⟩
theorem cisi_ev (Xt Yt Zt : Nat) : fnS cisiC 60 Try.f76 (bodyOf Try.f76) [(jacV (Xt, Yt, Zt))] = isIT (num Zt) := by kernel_rfl
theorem cisi_sum : Sum Try.prog 76 IsIF := by
  refine sum_of cisiOk Try.func76 (by kernel_rfl) (by kernel_rfl) rfl (fuel := 60) fun args v h _ => ?_
  unfold IsIF at h
  split at h
  · simp only [Option.some.injEq, Prod.mk.injEq] at h
    obtain ⟨h0, rfl⟩ := h
    obtain ⟨⟨Xt, Yt, Zt⟩, ⟨hXt, hYt, hZt⟩, rfl⟩ := isJac_some h0
    rw [unJ_jacV (t := (Xt, Yt, Zt)) ⟨hXt, hYt, hZt⟩]
    exact ⟨by show 1 ≤ Try.f76.ntmps; decide +kernel, (cisi_ev Xt Yt Zt).trans (isIT_eq hZt), rfl⟩
  · simp at h

noncomputable def cpttC : Cfg := ⟨tab, [(76, IsIF), (79, InvF), (74, MvF)], 25, []⟩
theorem cpttOk : CfgOk Try.prog cpttC (bodyOf Try.f44) := ⟨mixed, tabOk, (sums_cons cisi_sum (sums_cons Inv_sum (sums_cons cmul_sum sums_nil))), noL⟩
theorem cptt_ev (Xt Yt Zt : Nat) : fnS cpttC 60 Try.f44 (bodyOf Try.f44) [(jacV (Xt, Yt, Zt))] = ptT (num Xt) (num Yt) (num Zt) := by kernel_rfl
theorem cptt_sum : Sum Try.prog 44 PtF := by
  refine sum_of cpttOk Try.func44 (by kernel_rfl) (by kernel_rfl) rfl (fuel := 60) fun args v h _ => ?_
  unfold PtF at h
  split at h
  · simp only [Option.some.injEq, Prod.mk.injEq] at h
    obtain ⟨h0, rfl⟩ := h
    obtain ⟨⟨Xt, Yt, Zt⟩, ⟨hXt, hYt, hZt⟩, rfl⟩ := isJac_some h0
    rw [unJ_jacV (t := (Xt, Yt, Zt)) ⟨hXt, hYt, hZt⟩]
    exact ⟨by show 1 ≤ Try.f44.ntmps; decide +kernel, (cptt_ev Xt Yt Zt).trans (ptT_eq hXt hYt hZt), rfl⟩
  · simp at h

noncomputable def cdblC : Cfg := ⟨tab, [(74, MvF), (78, AvF), (75, SvF)], 58, []⟩
theorem cdblOk : CfgOk Try.prog cdblC (bodyOf Try.f81) := ⟨mixed, tabOk, (sums_cons cmul_sum (sums_cons cadd_sum (sums_cons csub_sum sums_nil))), noL⟩
theorem cdbl_ev (Xt Yt Zt : Nat) : fnS cdblC 60 Try.f81 (bodyOf Try.f81) [(jacV (Xt, Yt, Zt))] = dbT (num Xt) (num Yt) (num Zt) := by kernel_rfl
theorem cdbl_sum : Sum Try.prog 81 DblF := by
  refine sum_of cdblOk Try.func81 (by kernel_rfl) (by kernel_rfl) rfl (fuel := 60) fun args v h _ => ?_
  unfold DblF at h
  split at h
  · simp only [Option.some.injEq, Prod.mk.injEq] at h
    obtain ⟨h0, rfl⟩ := h
    obtain ⟨⟨Xt, Yt, Zt⟩, ⟨hXt, hYt, hZt⟩, rfl⟩ := isJac_some h0
    rw [unJ_jacV (t := (Xt, Yt, Zt)) ⟨hXt, hYt, hZt⟩]
    exact ⟨by show 1 ≤ Try.f81.ntmps; decide +kernel, (cdbl_ev Xt Yt Zt).trans (dbT_eq hXt hYt hZt), rfl⟩
  · simp at h

noncomputable def csamC : Cfg := ⟨tab, [(81, DblF)], 11, []⟩
theorem csamOk : CfgOk Try.prog csamC (bodyOf Try.f77) := ⟨mixed, tabOk, (sums_cons cdbl_sum sums_nil), noL⟩
theorem csam_ev (t : N3) (A : Nat) : fnS csamC 60 Try.f77 (bodyOf Try.f77) [(jacV t), (num A)] = samT (jacV t) (num A) := by kernel_rfl
theorem csam_sum : Sum Try.prog 77 SamF := by
  refine sum_of csamOk Try.func77 (by kernel_rfl) (by kernel_rfl) rfl (fuel := 60) fun args v h _ => ?_
  unfold SamF at h
  split at h
  · simp only [Option.some.injEq, Prod.mk.injEq, Bool.and_eq_true] at h
    obtain ⟨⟨h0, h1⟩, rfl⟩ := h
    obtain ⟨t, ht, rfl⟩ := isJac_some h0
    obtain ⟨A, hA, rfl⟩ := isNum_some h1
    rw [unJ_jacV ht, unnum_lt hA]
    exact ⟨by show 2 ≤ Try.f77.ntmps; decide +kernel, (csam_ev t A).trans (samT_eq ht hA), rfl⟩
  · simp at h

noncomputable def cplsC : Cfg := ⟨tab, [(74, MvF), (78, AvF), (75, SvF), (76, IsIF), (43, LiftF), (77, SamF)], 84, []⟩
theorem cplsOk : CfgOk Try.prog cplsC (bodyOf Try.f42) := ⟨mixed, tabOk, (sums_cons cmul_sum (sums_cons cadd_sum (sums_cons csub_sum (sums_cons cisi_sum (sums_cons clif_sum (sums_cons csam_sum sums_nil)))))), noL⟩
theorem cpls_ev (Xt Yt Zt : Nat) (ip : Bool) (Xp Yp : Nat) : fnS cplsC 60 Try.f42 (bodyOf Try.f42) [(jacV (Xt, Yt, Zt)), (ptV (ip, Xp, Yp))] = psT (jacV (Xt, Yt, Zt)) (num Xt) (num Yt) (num Zt) ip (num Xp) (num Yp) := by kernel_rfl
theorem cpls_sum : Sum Try.prog 42 PlsF := by
  refine sum_of cplsOk Try.func42 (by kernel_rfl) (by kernel_rfl) rfl (fuel := 60) fun args v h _ => ?_
  unfold PlsF at h
  split at h
  · simp only [Option.some.injEq, Prod.mk.injEq, Bool.and_eq_true] at h
    obtain ⟨⟨h0, h1⟩, rfl⟩ := h
    obtain ⟨⟨Xt, Yt, Zt⟩, ⟨hXt, hYt, hZt⟩, rfl⟩ := isJac_some h0
    obtain ⟨⟨ip, Xp, Yp⟩, ⟨hXp, hYp⟩, rfl⟩ := isPt_some h1
    rw [unJ_jacV (t := (Xt, Yt, Zt)) ⟨hXt, hYt, hZt⟩, unPt_ptV (r := (ip, Xp, Yp)) ⟨hXp, hYp⟩]
    exact ⟨by show 2 ≤ Try.f42.ntmps; decide +kernel, (cpls_ev Xt Yt Zt ip Xp Yp).trans (psT_eq hXt hYt hZt hXp hYp), rfl⟩
  · simp at h

noncomputable def cgC : Cfg := ⟨tab, [], 4, []⟩
theorem cgOk : CfgOk Try.prog cgC (bodyOf Try.f52) := ⟨mixed, tabOk, sums_nil, noL⟩
theorem cg_ev  : fnS cgC 60 Try.f52 (bodyOf Try.f52) [] = some (ptV (false, gXn, gYn)) := by kernel_rfl
theorem cg_sum : Sum Try.prog 52 GF := by
  refine sum_of cgOk Try.func52 (by kernel_rfl) (by kernel_rfl) rfl (fuel := 60) fun args v h _ => ?_
  unfold GF at h
  split at h
  · simp only [Option.some.injEq, Prod.mk.injEq, true_and] at h
    subst h
    exact ⟨by show 0 ≤ Try.f52.ntmps; decide +kernel, (cg_ev ).trans (rfl), rfl⟩
  · simp at h

end Go.Proofs.Ytcadoocgbfchaaa

/-
  Package curve as it landed: contracts, second part; its laws without bytes.
-/
namespace Go.Proofs.Ytcadoocgbfchaaa
set_option maxRecDepth 100000
open Go.W
open Go.RowKit (Below)

def suNt : List Nat := [4, 5, 6, 7, 8, 9, 10]
def suNi : List Nat := [0, 1, 2, 3, 4, 6]
def suSt (n : Nat) (p : RP) (m : Nat) (q : RP) (t : N3) (i : Int) : St :=
  ⟨[(4, ptr 0), (5, ptr 1), (6, ptr 2), (7, ptr 3), (8, ptr 4), (9, ptr 6), (10, i64 i)],
   [(0, ⟨cells4 n, 24, true⟩), (1, ⟨ptC p, 26, true⟩), (2, ⟨cells4 m, 24, true⟩), (3, ⟨ptC q, 26, true⟩), (4, ⟨ptC zR, 26, true⟩), (6, ⟨jacC t, 64, true⟩)], 15⟩
def suC0 : Cfg := ⟨tab, [(81, DblF), (53, BitF), (42, PlsF)], 40, []⟩
theorem suOk0 : CfgOk Try.prog suC0 (bodyOf Try.f45) := ⟨mixed, tabOk, sums_cons cdbl_sum (sums_cons Bit_sum (sums_cons cpls_sum sums_nil)), noL⟩
theorem su_at : codeAt [1, 1, 0, 1, 0] (bodyOf Try.f45) = some (.loop (loopAt [1, 1, 0, 1, 0] (bodyOf Try.f45))) := by kernel_rfl
theorem su_r (n : Nat) (p : RP) (m : Nat) (q : RP) (t : N3) (i : Int) : roundS suC0 60 [1, 1, 0, 1, 0, 0] (loopAt [1, 1, 0, 1, 0] (bodyOf Try.f45)) suNt suNi 15 suNt suNi 15 (suSt n p m q t i) =
    bif decide (i ≥ 0) then suR n p m q t i (fun t => some (.normal, suSt n p m q t (IntKind.i64.wrap (i - 1)))) else some (.exit 0, suSt n p m q t i) := by kernel_rfl
noncomputable def suC (n : Nat) (p : RP) (m : Nat) (q : RP) (t : N3) (i : Int) : Cfg := ⟨tab, [(80, LenF), (44, PtF)], 40, [([1, 1, 0, 1, 0], atSt suNt suNi 15 (suSt n p m q (0, 0, 0) i) (.exit 0) (suSt n p m q t (-1)))]⟩
theorem su_ev (n : Nat) (p : RP) (m : Nat) (q : RP) (t : N3) (i : Int) : fnS (suC n p m q t i) 60 Try.f45 (bodyOf Try.f45) [num n, ptV p, num m, ptV q] =
    req (isNum (num n)) (req (isNum (num m)) (req (stEq (suSt n p m q (0, 0, 0) (IntKind.i64.wrap ((if ((bitLen (unnum (num m)) : Nat) : Int) > ((bitLen (unnum (num n)) : Nat) : Int) then ((bitLen (unnum (num m)) : Nat) : Int) else ((bitLen (unnum (num n)) : Nat) : Int)) - 1))) (suSt n p m q (0, 0, 0) i))
      (req (isJac (jacV t)) (some (ptV (ptR (unJ (jacV t)))))))) := by kernel_rfl
theorem sumOf_sum : Sum Try.prog 45 SuOF := by
  intro args v h
  unfold SuOF at h
  split at h
  · rename_i n0 p0 m0 q0
    simp only [Option.some.injEq, Prod.mk.injEq, Bool.and_eq_true] at h
    obtain ⟨⟨⟨⟨⟨⟨h1, h2⟩, h3⟩, h4⟩, c1⟩, c2⟩, rfl⟩ := h
    obtain ⟨n, hn, rfl⟩ := isNum_some h1
    obtain ⟨p, hp, rfl⟩ := isPt_some h2
    obtain ⟨m, hm, rfl⟩ := isNum_some h3
    obtain ⟨q, hq, rfl⟩ := isPt_some h4
    simp only [unnum_lt hn, unnum_lt hm, unPt_ptV hp, unPt_ptV hq] at c1 c2 ⊢
    obtain ⟨L, hL1, hL2, hL3, hL⟩ : ∃ L : Nat, bitLen n ≤ L ∧ bitLen m ≤ L ∧ L ≤ 256 ∧ ((if ((bitLen m : Nat) : Int) > ((bitLen n : Nat) : Int) then ((bitLen m : Nat) : Int) else ((bitLen n : Nat) : Int)) : Int) = (L : Int) := by
      have a1 := bitLen_lt hn
      have a2 := bitLen_lt hm
      split
      · exact ⟨bitLen m, by omega, by omega, a2, rfl⟩
      · exact ⟨bitLen n, by omega, by omega, a1, rfl⟩
    have hLo : LoopOk Try.prog 40 (loopAt [1, 1, 0, 1, 0] (bodyOf Try.f45)) (atSt suNt suNi 15 (suSt n p m q (0, 0, 0) ((L : Int) - 1)) (.exit 0) (suSt n p m q (smK n p m q L L) (-1))) := by
      refine atSt_ok fun w0 R a W hrel => ?_
      refine loop_rounds (R := R) (C := suC0) suOk0 su_at (m := 60) (nt := suNt) (ni := suNi) (et := suNt) (ei := suNi) (nx := 15) (ex := 15) (e := .exit 0) (sf := suSt n p m q (smK n p m q L L) (-1))
        (fun k => suSt n p m q (smK n p m q L k) ((L : Int) - 1 - (k : Int))) L (by intro h; cases h) ?_ ?_ ?_
      · intro k hk
        refine (su_r _ _ _ _ _ _).trans ?_
        rw [decide_eq_true (by omega), cond_true, suR_eq hn hm hp hq hL3 hk, wrap_i64 (by omega), show ((L : Int) - 1 - (k : Int) - 1) = (L : Int) - 1 - ((k + 1 : Nat) : Int) from by omega]
      · refine (su_r _ _ _ _ _ _).trans ?_
        have e : (L : Int) - 1 - ((L : Nat) : Int) = -1 := by omega
        rw [e]; rfl
      · rw [show (L : Int) - 1 - ((0 : Nat) : Int) = (L : Int) - 1 from by omega]; exact hrel
    have hOk : CfgOk Try.prog (suC n p m q (smK n p m q L L) ((L : Int) - 1)) (bodyOf Try.f45) := ⟨mixed, tabOk, sums_cons Len_sum (sums_cons cptt_sum sums_nil), oneL hLo⟩
    refine sum_at hOk Try.func45 (by kernel_rfl) (by kernel_rfl) rfl (fuel := 60) (by show 4 ≤ Try.f45.ntmps; decide +kernel) ?_ rfl
    refine (su_ev n p m q _ _).trans ?_
    rw [isNum_num, isNum_num, req_true rfl, req_true rfl, unnum_lt hn, unnum_lt hm, hL, wrap_i64 (by omega), req_true (stEq_refl rfl), isJac_jacV, req_true rfl, unJ_jacV (okJ_sm n hp m hq L L), J3_smL c1 c2 (lt_bitLen hL1) (lt_bitLen hL2)]
  · simp at h

noncomputable def cAdC : Cfg := ⟨tab, [(40, CkF), (43, LiftF), (42, PlsF), (44, PtF)], 20, []⟩
theorem cAdOk : CfgOk Try.prog cAdC (bodyOf Try.f12) := ⟨mixed, tabOk, (sums_cons cis_sum (sums_cons clif_sum (sums_cons cpls_sum (sums_cons cptt_sum sums_nil)))), noL⟩
theorem cAd_ev (p : RP) (q : RP) : fnS cAdC 60 Try.f12 (bodyOf Try.f12) [(ptV p), (ptV q)] = cAddT (ptV p) (ptV q) := by kernel_rfl
theorem cAd_sum : Sum Try.prog 12 CAddF := by
  refine sum_of cAdOk Try.func12 (by kernel_rfl) (by kernel_rfl) rfl (fuel := 60) fun args v h _ => ?_
  unfold CAddF at h
  split at h
  · simp only [Option.some.injEq, Prod.mk.injEq, Bool.and_eq_true] at h
    obtain ⟨⟨h0, h1⟩, rfl⟩ := h
    obtain ⟨p, hp, rfl⟩ := isPt_some h0
    obtain ⟨q, hq, rfl⟩ := isPt_some h1
    rw [unPt_ptV hp, unPt_ptV hq]
    exact ⟨by show 2 ≤ Try.f12.ntmps; decide +kernel, (cAd_ev p q).trans (cAddT_eq hp hq), rfl⟩
  · simp at h

noncomputable def cTiC : Cfg := ⟨tab, [(40, CkF), (45, SuOF)], 15, []⟩
theorem cTiOk : CfgOk Try.prog cTiC (bodyOf Try.f13) := ⟨mixed, tabOk, (sums_cons cis_sum (sums_cons sumOf_sum sums_nil)), noL⟩
theorem cTi_ev (n : Nat) (p : RP) : fnS cTiC 60 Try.f13 (bodyOf Try.f13) [(num n), (ptV p)] = cTimT (num n) (ptV p) := by kernel_rfl
theorem cTi_sum : Sum Try.prog 13 CTimF := by
  refine sum_of cTiOk Try.func13 (by kernel_rfl) (by kernel_rfl) rfl (fuel := 60) fun args v h _ => ?_
  unfold CTimF at h
  split at h
  · simp only [Option.some.injEq, Prod.mk.injEq, Bool.and_eq_true] at h
    obtain ⟨⟨h0, h1⟩, rfl⟩ := h
    obtain ⟨n, hn, rfl⟩ := isNum_some h0
    obtain ⟨p, hp, rfl⟩ := isPt_some h1
    rw [unnum_lt hn, unPt_ptV hp]
    exact ⟨by show 2 ≤ Try.f13.ntmps; decide +kernel, (cTi_ev n p).trans (cTimT_eq hn hp), rfl⟩
  · simp at h

noncomputable def cBaC : Cfg := ⟨tab, [(52, GF), (45, SuOF)], 8, []⟩
theorem cBaOk : CfgOk Try.prog cBaC (bodyOf Try.f22) := ⟨mixed, tabOk, (sums_cons cg_sum (sums_cons sumOf_sum sums_nil)), noL⟩
theorem cBa_ev (n : Nat) : fnS cBaC 60 Try.f22 (bodyOf Try.f22) [(num n)] = cBasT (num n) := by kernel_rfl
theorem cBa_sum : Sum Try.prog 22 CBasF := by
  refine sum_of cBaOk Try.func22 (by kernel_rfl) (by kernel_rfl) rfl (fuel := 60) fun args v h _ => ?_
  unfold CBasF at h
  split at h
  · simp only [Option.some.injEq, Prod.mk.injEq] at h
    obtain ⟨h0, rfl⟩ := h
    obtain ⟨n, hn, rfl⟩ := isNum_some h0
    rw [unnum_lt hn]
    exact ⟨by show 1 ≤ Try.f22.ntmps; decide +kernel, (cBa_ev n).trans (cBasT_eq hn), rfl⟩
  · simp at h

noncomputable def cTwC : Cfg := ⟨tab, [(40, CkF), (45, SuOF)], 24, []⟩
theorem cTwOk : CfgOk Try.prog cTwC (bodyOf Try.f14) := ⟨mixed, tabOk, (sums_cons cis_sum (sums_cons sumOf_sum sums_nil)), noL⟩
theorem cTw_ev (n : Nat) (p : RP) (m : Nat) (q : RP) : fnS cTwC 60 Try.f14 (bodyOf Try.f14) [(num n), (ptV p), (num m), (ptV q)] = cTwoT (num n) (ptV p) (num m) (ptV q) := by kernel_rfl
theorem cTw_sum : Sum Try.prog 14 CTwoF := by
  refine sum_of cTwOk Try.func14 (by kernel_rfl) (by kernel_rfl) rfl (fuel := 60) fun args v h _ => ?_
  unfold CTwoF at h
  split at h
  · simp only [Option.some.injEq, Prod.mk.injEq, Bool.and_eq_true] at h
    obtain ⟨⟨⟨⟨h0, h1⟩, h2⟩, h3⟩, rfl⟩ := h
    obtain ⟨n, hn, rfl⟩ := isNum_some h0
    obtain ⟨p, hp, rfl⟩ := isPt_some h1
    obtain ⟨m, hm, rfl⟩ := isNum_some h2
    obtain ⟨q, hq, rfl⟩ := isPt_some h3
    rw [unnum_lt hn, unPt_ptV hp, unnum_lt hm, unPt_ptV hq]
    exact ⟨by show 4 ≤ Try.f14.ntmps; decide +kernel, (cTw_ev n p m q).trans (cTwoT_eq hn hm hp hq), rfl⟩
  · simp at h

theorem wak3Ok : CfgOk Try.prog wak3C (bodyOf Try.f16) := ⟨mixed, tabOk, sums_cons cchk_sum (sums_cons cBa_sum (sums_cons kp_sum (sums_cons gg_sum sums_nil))), noL⟩
theorem wak3_sum : Sum Try.prog 16 wak3F := by
  refine sum_of wak3Ok Try.func16 (by kernel_rfl) (by kernel_rfl) rfl (fuel := 60) fun args v h _ => ?_
  unfold wak3F at h
  split at h
  · simp only [Option.some.injEq, Prod.mk.injEq, true_and] at h
    subst h
    exact ⟨by show 0 ≤ Try.f16.ntmps; decide +kernel, wak3_ev.trans wak3T_eq, rfl⟩
  · simp at h

theorem CExOk : CfgOk Try.prog CExC (bodyOf Try.f3) := ⟨mixed, tabOk, (sums_cons wak3_sum (sums_cons lik_sum (sums_cons ck_sum (sums_cons ng_sum (sums_cons timR_sum (sums_cons sumR_sum (sums_cons twoR_sum (sums_cons basR_sum (sums_cons cchk_sum (sums_cons cneg_sum (sums_cons cAd_sum (sums_cons cTi_sum (sums_cons cBa_sum (sums_cons cTw_sum (sums_cons kp_sum sums_nil))))))))))))))), noL⟩
theorem CEx_calls {p q : RP} {n m : Nat} (hp : okR p) (hq : okR q) (hn : lt6 n) (hm : lt6 m) (W : World) : Calls Try.prog 3 #[ptV p, ptV q, num n, num m] W fun e W' => e = .returned (.bool true) ∧ Below W.heap.size W W' :=
  fn_sound CExOk Try.func3 (by kernel_rfl) rfl (args := [ptV p, ptV q, num n, num m]) (fuel := 100) (by show 4 ≤ Try.f3.ntmps; decide +kernel) rfl ((CEx_ev p q n m).trans (CExT_eq hp hq hn hm)) rfl W

theorem CGrOk : CfgOk Try.prog CGrC (bodyOf Try.f5) := ⟨mixed, tabOk, (sums_cons wak3_sum (sums_cons cchk_sum (sums_cons cneg_sum (sums_cons cAd_sum (sums_cons cTi_sum (sums_cons cBa_sum (sums_cons cTw_sum (sums_cons kp_sum sums_nil)))))))), noL⟩
theorem CGr_calls {A B C : Nat} (hA : lt6 A) (hB : lt6 B) (hC : lt6 C) (W : World) : Calls Try.prog 5 #[num A, num B, num C] W fun e W' => e = .returned (.bool true) ∧ Below W.heap.size W W' :=
  fn_sound CGrOk Try.func5 (by kernel_rfl) rfl (args := [num A, num B, num C]) (fuel := 100) (by show 3 ≤ Try.f5.ntmps; decide +kernel) rfl ((CGr_ev A B C).trans (CGrT_eq hA hB hC)) rfl W

theorem CMuOk : CfgOk Try.prog CMuC (bodyOf Try.f6) := ⟨mixed, tabOk, (sums_cons wak3_sum (sums_cons FAdd_sum (sums_cons FMul_sum (sums_cons cchk_sum (sums_cons cneg_sum (sums_cons cAd_sum (sums_cons cTi_sum (sums_cons cBa_sum (sums_cons cTw_sum (sums_cons kp_sum sums_nil)))))))))), noL⟩
theorem CMu_calls {n m k : Nat} (hn : lt6 n) (hm : lt6 m) (hk : lt6 k) (W : World) : Calls Try.prog 6 #[num n, num m, num k] W fun e W' => e = .returned (.bool true) ∧ Below W.heap.size W W' :=
  fn_sound CMuOk Try.func6 (by kernel_rfl) rfl (args := [num n, num m, num k]) (fuel := 100) (by show 3 ≤ Try.f6.ntmps; decide +kernel) rfl ((CMu_ev n m k).trans (CMuT_eq hn hm hk)) rfl W

end Go.Proofs.Ytcadoocgbfchaaa

/-
  Bytes, held against one another; twins.
-/
namespace Go.Proofs.Ytcadoocgbfchaaa
set_option maxRecDepth 100000
open Go.W
open Go.RowKit (Below)

def kbNt : List Nat := [0, 1, 4, 5]
def kbNi : List Nat := [1500000, 1500001]
def kbSt (n : Nat) (f : Nat → List Value) (m : Nat) (g : Nat → List Value) (e0 e1 : Nat) (i : Int) : St :=
  ⟨[(0, aSl 0 n), (1, aSl 1 m), (4, .bool false), (5, i64 i)], [(1500000, ⟨.row kB n f, e0, false⟩), (1500001, ⟨.row kB m g, e1, false⟩)], 20⟩
def kbC0 : Cfg := ⟨tab, [], 26, []⟩
theorem kbOk0 : CfgOk Try.prog kbC0 (bodyOf Try.f26) := ⟨mixed, tabOk, sums_nil, noL⟩
theorem kb_at : codeAt [1, 1, 0, 1, 0] (bodyOf Try.f26) = some (.loop (loopAt [1, 1, 0, 1, 0] (bodyOf Try.f26))) := by kernel_rfl
theorem kb_r (n : Nat) (f : Nat → List Value) (m : Nat) (g : Nat → List Value) (e0 e1 : Nat) (i : Int) : roundS kbC0 60 [1, 1, 0, 1, 0, 0] (loopAt [1, 1, 0, 1, 0] (bodyOf Try.f26)) kbNt kbNi 20 kbNt kbNi 20 (kbSt n f m g e0 e1 i) =
    kbR n f m g i (some (.normal, kbSt n f m g e0 e1 (IntKind.i64.wrap (i + 1)))) (some (.ret, kbSt n f m g e0 e1 i)) (some (.exit 0, kbSt n f m g e0 e1 i)) := by kernel_rfl
noncomputable def kbC (n : Nat) (f : Nat → List Value) (m : Nat) (g : Nat → List Value) (e0 e1 : Nat) (e : Exit) (i : Int) : Cfg := ⟨tab, [], 26, [([1, 1, 0, 1, 0], atSt kbNt kbNi 20 (kbSt n f m g e0 e1 0) e (kbSt n f m g e0 e1 i))]⟩
theorem kb_ev0 (n : Nat) (f : Nat → List Value) (m : Nat) (g : Nat → List Value) (es : Nat → Nat) (i : Int) (id : Nat) : fnMS (kbC n f m g (es 0) (es 1) (.exit 0) i) 60 Try.f26 (bodyOf Try.f26) (cArgs [.sl kB n f, .sl kB m g] 0) (cMem es [.sl kB n f, .sl kB m g] 0) 0 id =
    bif ((n : Nat) : Int) != ((m : Nat) : Int) then some (.bool false, []) else req (stEq (kbSt n f m g (es 0) (es 1) 0) (kbSt n f m g (es 0) (es 1) 0)) (some (.bool true, [])) := by kernel_rfl
theorem kb_ev1 (n : Nat) (f : Nat → List Value) (m : Nat) (g : Nat → List Value) (es : Nat → Nat) (i : Int) (id : Nat) : fnMS (kbC n f m g (es 0) (es 1) .ret i) 60 Try.f26 (bodyOf Try.f26) (cArgs [.sl kB n f, .sl kB m g] 0) (cMem es [.sl kB n f, .sl kB m g] 0) 0 id =
    bif ((n : Nat) : Int) != ((m : Nat) : Int) then some (.bool false, []) else req (stEq (kbSt n f m g (es 0) (es 1) 0) (kbSt n f m g (es 0) (es 1) 0)) (some (.bool false, [])) := by kernel_rfl

theorem kb_ev2 (n : Nat) (f : Nat → List Value) (m : Nat) (g : Nat → List Value) (es : Nat → Nat) (id : Nat) : fnMS ⟨tab, [], 26, [([1, 1, 0, 1, 0], fun _ => [])]⟩ 60 Try.f26 (bodyOf Try.f26) (cArgs [.sl kB n f, .sl kB m g] 0) (cMem es [.sl kB n f, .sl kB m g] 0) 0 id =
    bif ((n : Nat) : Int) != ((m : Nat) : Int) then some (.bool false, []) else none := by kernel_rfl
theorem kb_msum : MSum Try.prog 26 KbF := by
  intro w0 R fm w hm vs args' hl mm hsub id hlt v l hpick hnew
  match vs, hl, hpick with
  | [a, b], hl, hpick =>
    obtain ⟨hc, rfl, rfl⟩ := pick_one hpick
    simp only [Bool.and_eq_true] at hc
    obtain ⟨⟨ha, hb⟩, hn⟩ := hc
    generalize hqa : srcB mm kB a = qa at ha hn ⊢
    generalize hqb : srcB mm kB b = qb at hb ⊢
    obtain ⟨ok1, n, f⟩ := qa
    obtain ⟨ok2, m, g⟩ := qb
    simp only at ha hb hn ⊢
    subst ha hb
    have hn := Nat.le_of_ble_eq_true hn
    have hA : AOk mm [a, b] [.sl kB n f, .sl kB m g] := ⟨hqa, hqb, trivial⟩
    refine msum_at (c := bodyOf Try.f26) (fuel := 60) (next := 0) Try.func26 (by kernel_rfl) (by kernel_rfl) hm hl hsub hlt hA (by show 2 ≤ Try.f26.ntmps; decide +kernel) (.inl rfl) hnew (fun es => ?_)
    have rounds : ∀ (k : Nat) (e : Exit) (i : Int), n = m → k ≤ n → (∀ j, j < k → bI f j = bI g j) → e ≠ .normal → kbR n f m g (k : Int) (some (.normal, kbSt n f m g (es 0) (es 1) (IntKind.i64.wrap ((k : Int) + 1)))) (some (.ret, kbSt n f m g (es 0) (es 1) (k : Int))) (some (.exit 0, kbSt n f m g (es 0) (es 1) (k : Int))) = some (e, kbSt n f m g (es 0) (es 1) i) →
        LoopOk Try.prog 26 (loopAt [1, 1, 0, 1, 0] (bodyOf Try.f26)) (atSt kbNt kbNi 20 (kbSt n f m g (es 0) (es 1) 0) e (kbSt n f m g (es 0) (es 1) i)) := by
      intro k e i hnm hk hj he hlast
      subst hnm
      refine atSt_ok fun w0 R a W hrel => ?_
      refine loop_rounds (R := R) (C := kbC0) kbOk0 kb_at (m := 60) (nt := kbNt) (ni := kbNi) (et := kbNt) (ei := kbNi) (nx := 20) (ex := 20) (e := e) (sf := kbSt n f n g (es 0) (es 1) i)
        (fun j => kbSt n f n g (es 0) (es 1) (j : Int)) k he ?_ ?_ hrel
      · intro j hjk
        refine (kb_r _ _ _ _ _ _ _).trans ?_
        rw [kbR_eq (by omega), if_pos (hj j hjk), wrap_i64 (by omega)]; rfl
      · exact (kb_r _ _ _ _ _ _ _).trans hlast
    by_cases hnm : n = m
    · subst hnm
      have hne : ((((n : Nat) : Int) != ((n : Nat) : Int)) : Bool) = false := bne_self_eq_false _
      by_cases hall : ∀ j, j < n → bI f j = bI g j
      · refine ⟨kbC n f n g (es 0) (es 1) (.exit 0) (n : Int), ⟨mixed, tabOk, sums_nil, oneL (rounds n (.exit 0) (n : Int) rfl (Nat.le_refl _) hall (by intro h; cases h) (kbR_out _ _ _))⟩, rfl, ?_⟩
        refine (kb_ev0 n f n g es _ id).trans ?_
        rw [hne, cond_false, req_true (stEq_refl rfl), eqR_iff.2 ⟨rfl, hall⟩]
      · obtain ⟨k, h1, h2, h3⟩ := first_diff hall
        refine ⟨kbC n f n g (es 0) (es 1) .ret (k : Int), ⟨mixed, tabOk, sums_nil, oneL (rounds k .ret (k : Int) rfl (by omega) h3 (by intro h; cases h) (by rw [kbR_eq h1, if_neg h2]))⟩, rfl, ?_⟩
        refine (kb_ev1 n f n g es _ id).trans ?_
        have : eqR n f n g = false := by rw [Bool.eq_false_iff, ne_eq, eqR_iff]; exact fun h => hall h.2
        rw [hne, cond_false, req_true (stEq_refl rfl), this]
    · refine ⟨⟨tab, [], 26, [([1, 1, 0, 1, 0], fun _ => [])]⟩, ⟨mixed, tabOk, sums_nil, noneL2⟩, rfl, ?_⟩
      refine (kb_ev2 n f m g es id).trans ?_
      have : eqR n f m g = false := by rw [Bool.eq_false_iff, ne_eq, eqR_iff]; exact fun h => hnm h.1
      rw [show ((((n : Nat) : Int) != ((m : Nat) : Int)) : Bool) = true from by rw [bne_iff_ne]; omega, cond_true, this]
  | [], _, h => simp [KbF, pickM] at h
  | [_], _, h => simp [KbF, pickM] at h
  | _ :: _ :: _ :: _, _, h => simp [KbF, pickM] at h

def twnC : Cfg := ⟨tab, [], 7, []⟩
theorem twnOk : CfgOk Try.prog twnC (bodyOf Try.f28) := ⟨mixed, tabOk, sums_nil, noL⟩
theorem twn_ev (n : Nat) (f : Nat → List Value) (es : Nat → Nat) (id : Nat) : fnMS twnC 60 Try.f28 (bodyOf Try.f28) (cArgs [.sl kB n f] 0) (cMem es [.sl kB n f] 0) 0 id =
    req (Nat.ble n n && true) (req (szOk n 1) (req (Nat.ble n n) (some (.slice (some ⟨nid id 0, 0, none⟩) n n, [(nid id 0, ⟨.row kB n (twF f), 5, true⟩)])))) := by kernel_rfl
theorem twn_msum : MSum Try.prog 28 (TwnF 5) := by
  refine msum_of (fuel := 60) (next := 0) twnOk Try.func28 (by kernel_rfl) (by kernel_rfl) rfl fun vs mm id v l hpick hlt => ?_
  match vs, hpick with
  | [a], hpick =>
    obtain ⟨hc, rfl, rfl⟩ := pick_one hpick
    simp only [Bool.and_eq_true] at hc
    obtain ⟨ha, hs⟩ := hc
    generalize hqa : srcB mm kB a = qa at ha hs ⊢
    obtain ⟨ok1, n, f⟩ := qa
    simp only at ha hs ⊢
    subst ha
    refine ⟨[.sl kB n f], ⟨hqa, trivial⟩, by show 1 ≤ Try.f28.ntmps; decide +kernel, .inr ⟨_, rfl⟩, fun es => ?_⟩
    have hnn : Nat.ble n n = true := by rw [Nat.ble_eq]; exact Nat.le_refl _
    exact (twn_ev n f es id).trans (by rw [hnn, hs]; rfl)
  | [], h => simp [TwnF, pickM] at h
  | _ :: _ :: _, h => simp [TwnF, pickM] at h

end Go.Proofs.Ytcadoocgbfchaaa

/-
  The bytes of points.
-/
namespace Go.Proofs.Ytcadoocgbfchaaa
set_option maxRecDepth 100000
open Go.W
open Go.RowKit (Below)

def cbyC : Cfg := ⟨tab, [(40, CkF), (33, BytesF), (53, BitF)], 22, []⟩
theorem cbyOk : CfgOk Try.prog cbyC (bodyOf Try.f24) := ⟨mixed, tabOk, sums_cons cis_sum (sums_cons Bytes_sum (sums_cons Bit_sum sums_nil)), noL⟩
theorem cby_ev (i : Bool) (X Y : Nat) (es : Nat → Nat) (id : Nat) : fnMS cbyC 60 Try.f24 (bodyOf Try.f24) (cArgs [.pl (ptV (i, X, Y))] 0) (cMem es [.pl (ptV (i, X, Y))] 0) 0 id = cBytT 5 id i (num X) (num Y) := by kernel_rfl

theorem cby_msum : MSum Try.prog 24 (CBytF 5) := by
  refine msum_of (fuel := 60) (next := 0) cbyOk Try.func24 (by kernel_rfl) (by kernel_rfl) rfl fun vs mm id v l hpick hlt => ?_
  match vs, hpick with
  | [a], hpick =>
    obtain ⟨r, hr, rfl⟩ : ∃ r, okR r ∧ a = ptV r := by
      cases hc : isPt a with
      | true => exact isPt_some hc
      | false => rw [CBytF_eq, hc] at hpick; simp [pickM] at hpick
    obtain ⟨i, X, Y⟩ := r
    refine ⟨[.pl (ptV (i, X, Y))], ⟨rfl, rfl, trivial⟩, by show 1 ≤ Try.f24.ntmps; decide +kernel, CBytF_one hpick, fun es => ?_⟩
    exact (cby_ev i X Y es id).trans ((cBytT_eq hr.1 hr.2).trans hpick)
  | [], h => simp [CBytF, pickM] at h
  | _ :: _ :: _, h => simp [CBytF, pickM] at h

def BytesRC : Cfg := ⟨tab, [], 24, []⟩
theorem BytesROk : CfgOk Try.prog BytesRC (bodyOf Try.f56) := ⟨mixed, tabOk, sums_nil, noL⟩
theorem BytesR_ev (a b c d : Nat) : fnS BytesRC 100 Try.f56 (bodyOf Try.f56) [numd a b c d] = BytesT a b c d := by kernel_rfl
theorem BytesR_sum : Sum Try.prog 56 BytesF := by
  refine sum_of BytesROk Try.func56 (by kernel_rfl) (by kernel_rfl) rfl (fuel := 100) fun args v h _ => ?_
  obtain ⟨X, hX, rfl, rfl⟩ := arg1 (f := fun x => bytesV (unnum x)) h
  refine ⟨by show 1 ≤ Try.f56.ntmps; decide +kernel, ?_, by kernel_rfl⟩
  obtain ⟨a, b, c, d, h0, h1, h2, h3, e1, e2⟩ := digits hX
  rw [unnum_lt hX, e2, BytesR_ev, BytesT_eq h0 h1 h2, e1]

def rbyC : Cfg := ⟨tab, [(56, BytesF)], 21, []⟩
theorem rbyOk : CfgOk Try.prog rbyC (bodyOf Try.f27) := ⟨mixed, tabOk, sums_cons BytesR_sum sums_nil, noL⟩
theorem rby_ev (i : Bool) (X Y : Nat) (es : Nat → Nat) (id : Nat) : fnMS rbyC 60 Try.f27 (bodyOf Try.f27) (cArgs [.pl (ptV (i, X, Y))] 0) (cMem es [.pl (ptV (i, X, Y))] 0) 0 id = rBytT 5 id i (num X) (dig Y 0) := by kernel_rfl

theorem rby_msum : MSum Try.prog 27 (RBytF 5) := by
  refine msum_of (fuel := 60) (next := 0) rbyOk Try.func27 (by kernel_rfl) (by kernel_rfl) rfl fun vs mm id v l hpick hlt => ?_
  match vs, hpick with
  | [a], hpick =>
    obtain ⟨r, hr, rfl⟩ : ∃ r, okR r ∧ a = ptV r := by
      cases hc : isPt a with
      | true => exact isPt_some hc
      | false => rw [RBytF_eq, hc] at hpick; simp [pickM] at hpick
    obtain ⟨i, X, Y⟩ := r
    refine ⟨[.pl (ptV (i, X, Y))], ⟨rfl, rfl, trivial⟩, by show 1 ≤ Try.f27.ntmps; decide +kernel, RBytF_one hpick, fun es => ?_⟩
    exact (rby_ev i X Y es id).trans ((rBytT_eq hr.1 hr.2).trans hpick)
  | [], h => simp [RBytF, pickM] at h
  | _ :: _ :: _, h => simp [RBytF, pickM] at h

def crdC : Cfg := ⟨tab, [(54, ReadF), (55, SqAF), (35, RootF), (41, TrnF)], 64, []⟩
theorem crdOk : CfgOk Try.prog crdC (bodyOf Try.f25) := ⟨mixed, tabOk, (sums_cons Read_sum (sums_cons csq_sum (sums_cons Root_sum (sums_cons ctrn_sum sums_nil)))), noL⟩
theorem crd_33 (f : Nat → List Value) (es : Nat → Nat) (id : Nat) : fnMS crdC 60 Try.f25 (bodyOf Try.f25) (cArgs [.sl kB 33 f] 0) (cMem es [.sl kB 33 f] 0) 0 id = rd33 (bI f 0) (rdK (b32V f) (bI f 0)) := by kernel_rfl
theorem crd_1 (f : Nat → List Value) (es : Nat → Nat) (id : Nat) : fnMS crdC 60 Try.f25 (bodyOf Try.f25) (cArgs [.sl kB 1 f] 0) (cMem es [.sl kB 1 f] 0) 0 id = rd1 (bI f 0) := by kernel_rfl
theorem crd_more (k : Nat) (f : Nat → List Value) (es : Nat → Nat) (id : Nat) : fnMS crdC 60 Try.f25 (bodyOf Try.f25) (cArgs [.sl kB (k + 34) f] 0) (cMem es [.sl kB (k + 34) f] 0) 0 id = eT 7 := by kernel_rfl
theorem crd_less (f : Nat → List Value) (es : Nat → Nat) (id : Nat) : ∀ n, n < 33 → n ≠ 1 → fnMS crdC 60 Try.f25 (bodyOf Try.f25) (cArgs [.sl kB n f] 0) (cMem es [.sl kB n f] 0) 0 id = eT 7
  | 0, _, _ => by kernel_rfl
  | 1, _, h => absurd rfl h
  | 2, _, _ => by kernel_rfl
  | 3, _, _ => by kernel_rfl
  | 4, _, _ => by kernel_rfl
  | 5, _, _ => by kernel_rfl
  | 6, _, _ => by kernel_rfl
  | 7, _, _ => by kernel_rfl
  | 8, _, _ => by kernel_rfl
  | 9, _, _ => by kernel_rfl
  | 10, _, _ => by kernel_rfl
  | 11, _, _ => by kernel_rfl
  | 12, _, _ => by kernel_rfl
  | 13, _, _ => by kernel_rfl
  | 14, _, _ => by kernel_rfl
  | 15, _, _ => by kernel_rfl
  | 16, _, _ => by kernel_rfl
  | 17, _, _ => by kernel_rfl
  | 18, _, _ => by kernel_rfl
  | 19, _, _ => by kernel_rfl
  | 20, _, _ => by kernel_rfl
  | 21, _, _ => by kernel_rfl
  | 22, _, _ => by kernel_rfl
  | 23, _, _ => by kernel_rfl
  | 24, _, _ => by kernel_rfl
  | 25, _, _ => by kernel_rfl
  | 26, _, _ => by kernel_rfl
  | 27, _, _ => by kernel_rfl
  | 28, _, _ => by kernel_rfl
  | 29, _, _ => by kernel_rfl
  | 30, _, _ => by kernel_rfl
  | 31, _, _ => by kernel_rfl
  | 32, _, _ => by kernel_rfl
  | n + 33, h, _ => absurd h (by omega)
theorem crd_msum : MSum Try.prog 25 RdF := by
  refine msum_of (fuel := 60) (next := 0) crdOk Try.func25 (by kernel_rfl) (by kernel_rfl) rfl fun vs mm id v l hpick hlt => ?_
  match vs, hpick with
  | [a], hpick =>
    obtain ⟨hc, rfl, rfl⟩ := pick_one hpick
    simp only [Bool.and_eq_true] at hc
    obtain ⟨ha, hs⟩ := hc
    generalize hqa : srcB mm kB a = qa at ha hs ⊢
    obtain ⟨ok1, n, f⟩ := qa
    simp only at ha hs ⊢
    subst ha
    refine ⟨[.sl kB n f], ⟨hqa, trivial⟩, by show 1 ≤ Try.f25.ntmps; decide +kernel, .inl trivial, fun es => ?_⟩
    exact rd_all (fun n => fnMS crdC 60 Try.f25 (bodyOf Try.f25) (cArgs [.sl kB n f] 0) (cMem es [.sl kB n f] 0) 0 id) hs (crd_1 f es id) (crd_33 f es id) (fun h => rdK_eq h) (crd_less f es id) (fun k => crd_more k f es id)
  | [], h => simp [RdF, pickM] at h
  | _ :: _ :: _, h => simp [RdF, pickM] at h

def rrdC : Cfg := ⟨tab, [(57, InfF), (58, OfF), (36, CmpF), (37, PrimeF), (59, RootF), (39, AvF), (38, MvF), (47, SvF)], 69, []⟩
theorem rrdOk : CfgOk Try.prog rrdC (bodyOf Try.f29) := ⟨mixed, tabOk, (sums_cons inf_sum (sums_cons OfR_sum (sums_cons CmpR_sum (sums_cons PrimeR_sum (sums_cons RootR_sum (sums_cons add_sum (sums_cons mul_sum (sums_cons sub_sum sums_nil)))))))), noL⟩
theorem rrd_33 (f : Nat → List Value) (es : Nat → Nat) (id : Nat) : fnMS rrdC 60 Try.f29 (bodyOf Try.f29) (cArgs [.sl kB 33 f] 0) (cMem es [.sl kB 33 f] 0) 0 id = rd33 (bI f 0) (rrK (b32V f) (bI f 0)) := by kernel_rfl
theorem rrd_1 (f : Nat → List Value) (es : Nat → Nat) (id : Nat) : fnMS rrdC 60 Try.f29 (bodyOf Try.f29) (cArgs [.sl kB 1 f] 0) (cMem es [.sl kB 1 f] 0) 0 id = rd1 (bI f 0) := by kernel_rfl
theorem rrd_more (k : Nat) (f : Nat → List Value) (es : Nat → Nat) (id : Nat) : fnMS rrdC 60 Try.f29 (bodyOf Try.f29) (cArgs [.sl kB (k + 34) f] 0) (cMem es [.sl kB (k + 34) f] 0) 0 id = eT 7 := by kernel_rfl
theorem rrd_less (f : Nat → List Value) (es : Nat → Nat) (id : Nat) : ∀ n, n < 33 → n ≠ 1 → fnMS rrdC 60 Try.f29 (bodyOf Try.f29) (cArgs [.sl kB n f] 0) (cMem es [.sl kB n f] 0) 0 id = eT 7
  | 0, _, _ => by kernel_rfl
  | 1, _, h => absurd rfl h
  | 2, _, _ => by kernel_rfl
  | 3, _, _ => by kernel_rfl
  | 4, _, _ => by kernel_rfl
  | 5, _, _ => by kernel_rfl
  | 6, _, _ => by kernel_rfl
  | 7, _, _ => by kernel_rfl
  | 8, _, _ => by kernel_rfl
  | 9, _, _ => by kernel_rfl
  | 10, _, _ => by kernel_rfl
  | 11, _, _ => by kernel_rfl
  | 12, _, _ => by kernel_rfl
  | 13, _, _ => by kernel_rfl
  | 14, _, _ => by kernel_rfl
  | 15, _, _ => by kernel_rfl
  | 16, _, _ => by kernel_rfl
  | 17, _, _ => by kernel_rfl
  | 18, _, _ => by kernel_rfl
  | 19, _, _ => by kernel_rfl
  | 20, _, _ => by kernel_rfl
  | 21, _, _ => by kernel_rfl
  | 22, _, _ => by kernel_rfl
  | 23, _, _ => by kernel_rfl
  | 24, _, _ => by kernel_rfl
  | 25, _, _ => by kernel_rfl
  | 26, _, _ => by kernel_rfl
  | 27, _, _ => by kernel_rfl
  | 28, _, _ => by kernel_rfl
  | 29, _, _ => by kernel_rfl
  | 30, _, _ => by kernel_rfl
  | 31, _, _ => by kernel_rfl
  | 32, _, _ => by kernel_rfl
  | n + 33, h, _ => absurd h (by omega)
theorem rrd_msum : MSum Try.prog 29 RdF := by
  refine msum_of (fuel := 60) (next := 0) rrdOk Try.func29 (by kernel_rfl) (by kernel_rfl) rfl fun vs mm id v l hpick hlt => ?_
  match vs, hpick with
  | [a], hpick =>
    obtain ⟨hc, rfl, rfl⟩ := pick_one hpick
    simp only [Bool.and_eq_true] at hc
    obtain ⟨ha, hs⟩ := hc
    generalize hqa : srcB mm kB a = qa at ha hs ⊢
    obtain ⟨ok1, n, f⟩ := qa
    simp only at ha hs ⊢
    subst ha
    refine ⟨[.sl kB n f], ⟨hqa, trivial⟩, by show 1 ≤ Try.f29.ntmps; decide +kernel, .inl trivial, fun es => ?_⟩
    exact rd_all (fun n => fnMS rrdC 60 Try.f29 (bodyOf Try.f29) (cArgs [.sl kB n f] 0) (cMem es [.sl kB n f] 0) 0 id) hs (rrd_1 f es id) (rrd_33 f es id) (fun h => rrK_eq h) (rrd_less f es id) (fun k => rrd_more k f es id)
  | [], h => simp [RdF, pickM] at h
  | _ :: _ :: _, h => simp [RdF, pickM] at h

end Go.Proofs.Ytcadoocgbfchaaa

/-
  The laws of package curve that ask for bytes.
-/
namespace Go.Proofs.Ytcadoocgbfchaaa
set_option maxRecDepth 100000
open Go.W
open Go.RowKit (Below)

noncomputable def CSiC : Cfg := ⟨tab, (16, wak3F) :: (33, BytesF) :: (25, Ent.me RdF) :: (34, CmpF) :: (32, PrimeF) :: (35, RootF) :: (30, FAddF) :: (31, FMulF) :: curG, 111, []⟩
theorem CSi_ev (X : Nat) : fnS CSiC 100 Try.f8 (bodyOf Try.f8) [num X] = CSiT (num X) := by kernel_rfl
theorem CSiOk : CfgOk Try.prog CSiC (bodyOf Try.f8) := ⟨mixed, tabOk, (sums_cons wak3_sum (sums_cons Bytes_sum (sums_consM crd_msum (sums_cons Cmp_sum (sums_cons Prime_sum (sums_cons Root_sum (sums_cons FAdd_sum (sums_cons FMul_sum (sums_cons cchk_sum (sums_cons cneg_sum (sums_cons cAd_sum (sums_cons cTi_sum (sums_cons cBa_sum (sums_cons cTw_sum (sums_cons kp_sum sums_nil))))))))))))))), noL⟩
theorem CSi_calls {X : Nat} (hX : lt6 X) (W : World) : Calls Try.prog 8 #[num X] W fun e W' => e = .returned (.bool true) ∧ Below W.heap.size W W' :=
  fn_sound CSiOk Try.func8 (by kernel_rfl) rfl (args := [num X]) (fuel := 100) (by show 1 ≤ Try.f8.ntmps; decide +kernel) rfl ((CSi_ev X).trans (CSiT_eq hX)) rfl W

noncomputable def COrC : Cfg := ⟨tab, (16, wak3F) :: (24, Ent.me (CBytF 5)) :: (26, Ent.me KbF) :: (32, PrimeF) :: curG, 115, []⟩
theorem COr_ev (K : Nat) : fnS COrC 100 Try.f7 (bodyOf Try.f7) [num K] = COrT (num K) := by kernel_rfl
theorem COrOk : CfgOk Try.prog COrC (bodyOf Try.f7) := ⟨mixed, tabOk, (sums_cons wak3_sum (sums_consM cby_msum (sums_consM kb_msum (sums_cons Prime_sum (sums_cons cchk_sum (sums_cons cneg_sum (sums_cons cAd_sum (sums_cons cTi_sum (sums_cons cBa_sum (sums_cons cTw_sum (sums_cons kp_sum sums_nil))))))))))), noL⟩
theorem COr_calls {K : Nat} (hK : lt6 K) (W : World) : Calls Try.prog 7 #[num K] W fun e W' => e = .returned (.bool true) ∧ Below W.heap.size W W' :=
  fn_sound COrOk Try.func7 (by kernel_rfl) rfl (args := [num K]) (fuel := 100) (by show 1 ≤ Try.f7.ntmps; decide +kernel) rfl ((COr_ev K).trans (COrT_eq hK)) rfl W

end Go.Proofs.Ytcadoocgbfchaaa

/-
  The law of the bytes of points.
-/
namespace Go.Proofs.Ytcadoocgbfchaaa
set_option maxRecDepth 100000
open Go.W
open Go.RowKit (Below)

noncomputable def CByC : Cfg := ⟨tab, (25, Ent.me RdF) :: (24, Ent.me (CBytF 5)) :: (26, Ent.me KbF) :: (28, Ent.me (TwnF 5)) :: (27, Ent.me (RBytF 5)) :: (29, Ent.me RdF) :: (9, CkF) :: (21, KpF) :: (16, wak3F) :: [], 100, []⟩
theorem CBy_ev (p : RP) (n : Nat) (f : Nat → List Value) (es : Nat → Nat) : fnA CByC 60 Try.f4 (bodyOf Try.f4) (cArgs [.pl (ptV p), .sl kB n f] 0) (cMem es [.pl (ptV p), .sl kB n f] 0) 0 = CByT (ptV p) n f := by kernel_rfl
theorem CByOk : CfgOk Try.prog CByC (bodyOf Try.f4) := ⟨mixed, tabOk, (sums_consM crd_msum (sums_consM cby_msum (sums_consM kb_msum (sums_consM twn_msum (sums_consM rby_msum (sums_consM rrd_msum (sums_cons ck_sum (sums_cons kp_sum (sums_cons wak3_sum sums_nil))))))))), noL⟩
theorem CBy_calls {p : RP} (hp : okR p) {n : Nat} {f : Nat → List Value} (hu : ∀ j, ∃ x : Nat, x < 256 ∧ f j = [.int .u8 (x : Int)]) {W : World} {v : Value} (hv : SrcW W kB n f v) : Calls Try.prog 4 #[ptV p, v] W fun e W' => e = .returned (.bool true) ∧ Below W.heap.size W W' :=
  law_sound (c := bodyOf Try.f4) (fuel := 60) (next := 0) (A := [.pl (ptV p), .sl kB n f]) (args' := [ptV p, v]) Try.func4 (by kernel_rfl) ⟨rfl, rfl, hv, trivial⟩ (by show 2 ≤ Try.f4.ntmps; decide +kernel) rfl (by intro _ h; cases h)
    (fun es => ⟨CByC, CByOk, rfl, (CBy_ev p n f es).trans (CByT_eq hp (fun j => by obtain ⟨x, hx, e⟩ := hu j; unfold bI; rw [e]; show 0 ≤ ((x : Nat) : Int) ∧ ((x : Nat) : Int) < 256; omega))⟩)

end Go.Proofs.Ytcadoocgbfchaaa
