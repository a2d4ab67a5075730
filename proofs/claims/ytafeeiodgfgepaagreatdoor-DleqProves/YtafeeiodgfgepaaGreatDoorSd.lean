/-
  Several texts in one.
-/
import Derived.Test.YtafeeiodgfgepaaGreatDoorSb
import Derived.Test.YtafeeiodgfgepaaGreatDoorEd
import Derived.Test.YtafeeiodgfgepaaGreatDoorSc
import Derived.Test.YtafeeiodgfgepaaGreatDoorSa
/-
  The document's own answers, package curve: what the engine says of their texts, first part.
-/
namespace Go.Proofs.YtafeeiodgfgepaaGreatDoor
set_option maxRecDepth 100000
open Go.W
open Go.RowKit (Below)
def mulC : Cfg := ⟨tab, [(47, FMulF)], 8, []⟩
theorem mulOk : CfgOk Tryz.prog mulC (bodyOf Tryz.f19) := ⟨mixed, tabOk, sums_cons FMulR_sum sums_nil, noL⟩
theorem mul_ev (A B : Nat) : fnS mulC 60 Tryz.f19 (bodyOf Tryz.f19) [num A, num B] = r2 (num A) (num B) (some (mv (num A) (num B))) := by kernel_rfl
theorem mul_sum : Sum Tryz.prog 19 MvF := by
  refine sum_of mulOk Tryz.func19 (by kernel_rfl) (by kernel_rfl) rfl (fuel := 60) fun args v h _ => ?_
  obtain ⟨X, Y, hX, hY, rfl, rfl⟩ := arg2 (f := fun x y => mv x y) h
  exact ⟨by show 2 ≤ Tryz.f19.ntmps; decide +kernel, by rw [mul_ev, r2_num], rfl⟩
def addC : Cfg := ⟨tab, [(48, FAddF)], 8, []⟩
theorem addOk : CfgOk Tryz.prog addC (bodyOf Tryz.f20) := ⟨mixed, tabOk, sums_cons FAddR_sum sums_nil, noL⟩
theorem add_ev (A B : Nat) : fnS addC 60 Tryz.f20 (bodyOf Tryz.f20) [num A, num B] = r2 (num A) (num B) (some (av (num A) (num B))) := by kernel_rfl
theorem add_sum : Sum Tryz.prog 20 AvF := by
  refine sum_of addOk Tryz.func20 (by kernel_rfl) (by kernel_rfl) rfl (fuel := 60) fun args v h _ => ?_
  obtain ⟨X, Y, hX, hY, rfl, rfl⟩ := arg2 (f := fun x y => av x y) h
  exact ⟨by show 2 ≤ Tryz.f20.ntmps; decide +kernel, by rw [add_ev, r2_num], rfl⟩
def subC : Cfg := ⟨tab, [(53, FSubF)], 8, []⟩
theorem subOk : CfgOk Tryz.prog subC (bodyOf Tryz.f91) := ⟨mixed, tabOk, sums_cons FSubR_sum sums_nil, noL⟩
theorem sub_ev (A B : Nat) : fnS subC 60 Tryz.f91 (bodyOf Tryz.f91) [num A, num B] = r2 (num A) (num B) (some (sv (num A) (num B))) := by kernel_rfl
theorem sub_sum : Sum Tryz.prog 91 SvF := by
  refine sum_of subOk Tryz.func91 (by kernel_rfl) (by kernel_rfl) rfl (fuel := 60) fun args v h _ => ?_
  obtain ⟨X, Y, hX, hY, rfl, rfl⟩ := arg2 (f := fun x y => sv x y) h
  exact ⟨by show 2 ≤ Tryz.f91.ntmps; decide +kernel, by rw [sub_ev, r2_num], rfl⟩
def infC : Cfg := ⟨tab, [], 2, []⟩
theorem infOk : CfgOk Tryz.prog infC (bodyOf Tryz.f86) := ⟨mixed, tabOk, sums_nil, noL⟩
theorem inf_ev  : fnS infC 60 Tryz.f86 (bodyOf Tryz.f86) [] = some (ptV (true, 0, 0)) := by kernel_rfl
theorem inf_sum : Sum Tryz.prog 86 InfF := by
  refine sum_of infOk Tryz.func86 (by kernel_rfl) (by kernel_rfl) rfl (fuel := 60) fun args v h _ => ?_
  unfold InfF at h
  split at h
  · simp only [Option.some.injEq, Prod.mk.injEq, true_and] at h
    subst h
    exact ⟨by show 0 ≤ Tryz.f86.ntmps; decide +kernel, inf_ev, rfl⟩
  · simp at h
def ggC : Cfg := ⟨tab, [], 4, []⟩
theorem ggOk : CfgOk Tryz.prog ggC (bodyOf Tryz.f32) := ⟨mixed, tabOk, sums_nil, noL⟩
theorem gg_ev  : fnS ggC 60 Tryz.f32 (bodyOf Tryz.f32) [] = some (ptV (false, gXn, gYn)) := by kernel_rfl
theorem gg_sum : Sum Tryz.prog 32 GF := by
  refine sum_of ggOk Tryz.func32 (by kernel_rfl) (by kernel_rfl) rfl (fuel := 60) fun args v h _ => ?_
  unfold GF at h
  split at h
  · simp only [Option.some.injEq, Prod.mk.injEq, true_and] at h
    subst h
    exact ⟨by show 0 ≤ Tryz.f32.ntmps; decide +kernel, gg_ev, rfl⟩
  · simp at h
def ckC : Cfg := ⟨tab, [(19, MvF), (20, AvF), (17, CmpF), (18, PrimeF)], 45, []⟩
theorem ckOk : CfgOk Tryz.prog ckC (bodyOf Tryz.f6) := ⟨mixed, tabOk, sums_cons mul_sum (sums_cons add_sum (sums_cons CmpR_sum (sums_cons PrimeR_sum (sums_nil)))), noL⟩
theorem ck_ev (i : Bool) (X Y : Nat) : fnS ckC 60 Tryz.f6 (bodyOf Tryz.f6) [ptV (i, X, Y)] = ckT i (num X) (num Y) := by kernel_rfl
theorem ck_sum : Sum Tryz.prog 6 CkF := by
  refine sum_of ckOk Tryz.func6 (by kernel_rfl) (by kernel_rfl) rfl (fuel := 60) fun args v h _ => ?_
  unfold CkF at h
  split at h
  · simp only [Option.some.injEq, Prod.mk.injEq] at h
    obtain ⟨h1, rfl⟩ := h
    obtain ⟨⟨i, X, Y⟩, ⟨hX, hY⟩, rfl⟩ := isPt_some h1
    rw [unPt_ptV (r := (i, X, Y)) ⟨hX, hY⟩]
    exact ⟨by show 1 ≤ Tryz.f6.ntmps; decide +kernel, (ck_ev i X Y).trans (ckT_eq hX hY), rfl⟩
  · simp at h
def uprC : Cfg := ⟨tab, [], 15, []⟩
theorem uprOk : CfgOk Tryz.prog uprC (bodyOf Tryz.f88) := ⟨mixed, tabOk, sums_nil, noL⟩
theorem upr_ev (i : Bool) (X Y : Nat) : fnS uprC 60 Tryz.f88 (bodyOf Tryz.f88) [ptV (i, X, Y)] = upT i (num X) (num Y) := by kernel_rfl
theorem upr_sum : Sum Tryz.prog 88 UpF := by
  refine sum_of uprOk Tryz.func88 (by kernel_rfl) (by kernel_rfl) rfl (fuel := 60) fun args v h _ => ?_
  unfold UpF at h
  split at h
  · simp only [Option.some.injEq, Prod.mk.injEq] at h
    obtain ⟨h1, rfl⟩ := h
    obtain ⟨⟨i, X, Y⟩, ⟨hX, hY⟩, rfl⟩ := isPt_some h1
    rw [unPt_ptV (r := (i, X, Y)) ⟨hX, hY⟩]
    exact ⟨by show 1 ≤ Tryz.f88.ntmps; decide +kernel, (upr_ev i X Y).trans (upT_eq i X Y), rfl⟩
  · simp at h
def dnrC : Cfg := ⟨tab, [(19, MvF), (87, InvF), (86, InfF)], 27, []⟩
theorem dnrOk : CfgOk Tryz.prog dnrC (bodyOf Tryz.f51) := ⟨mixed, tabOk, sums_cons mul_sum (sums_cons InvR_sum (sums_cons inf_sum (sums_nil))), noL⟩
theorem dnr_ev (X Y Z : Nat) : fnS dnrC 60 Tryz.f51 (bodyOf Tryz.f51) [jacV (X, Y, Z)] = dnT (num X) (num Y) (num Z) := by kernel_rfl
theorem dnr_sum : Sum Tryz.prog 51 DnF := by
  refine sum_of dnrOk Tryz.func51 (by kernel_rfl) (by kernel_rfl) rfl (fuel := 60) fun args v h _ => ?_
  unfold DnF at h
  split at h
  · simp only [Option.some.injEq, Prod.mk.injEq] at h
    obtain ⟨h1, rfl⟩ := h
    obtain ⟨⟨X, Y, Z⟩, ⟨hX, hY, hZ⟩, rfl⟩ := isJac_some h1
    rw [unJ_jacV (t := (X, Y, Z)) ⟨hX, hY, hZ⟩]
    exact ⟨by show 1 ≤ Tryz.f51.ntmps; decide +kernel, (dnr_ev X Y Z).trans (dnT_eq hX hY hZ), rfl⟩
  · simp at h
def twC : Cfg := ⟨tab, [(19, MvF), (20, AvF), (91, SvF), (86, InfF), (88, UpF)], 92, []⟩
theorem twOk : CfgOk Tryz.prog twC (bodyOf Tryz.f89) := ⟨mixed, tabOk, sums_cons mul_sum (sums_cons add_sum (sums_cons sub_sum (sums_cons inf_sum (sums_cons upr_sum (sums_nil))))), noL⟩
theorem tw_ev (X Y Z : Nat) : fnS twC 60 Tryz.f89 (bodyOf Tryz.f89) [jacV (X, Y, Z)] = twT (num X) (num Y) (num Z) := by kernel_rfl
theorem tw_sum : Sum Tryz.prog 89 TwF := by
  refine sum_of twOk Tryz.func89 (by kernel_rfl) (by kernel_rfl) rfl (fuel := 60) fun args v h _ => ?_
  unfold TwF at h
  split at h
  · simp only [Option.some.injEq, Prod.mk.injEq] at h
    obtain ⟨h1, rfl⟩ := h
    obtain ⟨⟨X, Y, Z⟩, ⟨hX, hY, hZ⟩, rfl⟩ := isJac_some h1
    rw [unJ_jacV (t := (X, Y, Z)) ⟨hX, hY, hZ⟩]
    exact ⟨by show 1 ≤ Tryz.f89.ntmps; decide +kernel, (tw_ev X Y Z).trans (twT_eq hX hY hZ), rfl⟩
  · simp at h
def plC : Cfg := ⟨tab, [(19, MvF), (20, AvF), (91, SvF), (86, InfF), (88, UpF), (89, TwF)], 113, []⟩
theorem plOk : CfgOk Tryz.prog plC (bodyOf Tryz.f55) := ⟨mixed, tabOk, sums_cons mul_sum (sums_cons add_sum (sums_cons sub_sum (sums_cons inf_sum (sums_cons upr_sum (sums_cons tw_sum (sums_nil)))))), noL⟩
theorem pl_ev (X Y Z X2 Y2 Z2 : Nat) : fnS plC 60 Tryz.f55 (bodyOf Tryz.f55) [jacV (X, Y, Z), jacV (X2, Y2, Z2)] = plT (num X) (num Y) (num Z) (num X2) (num Y2) (num Z2) := by kernel_rfl
theorem pl_sum : Sum Tryz.prog 55 PlF := by
  refine sum_of plOk Tryz.func55 (by kernel_rfl) (by kernel_rfl) rfl (fuel := 60) fun args v h _ => ?_
  unfold PlF at h
  split at h
  · simp only [Option.some.injEq, Prod.mk.injEq] at h
    rw [Bool.and_eq_true] at h
    obtain ⟨⟨h1, h2⟩, rfl⟩ := h
    obtain ⟨⟨X, Y, Z⟩, ⟨hX, hY, hZ⟩, rfl⟩ := isJac_some h1
    obtain ⟨⟨X2, Y2, Z2⟩, ⟨hX2, hY2, hZ2⟩, rfl⟩ := isJac_some h2
    rw [unJ_jacV (t := (X, Y, Z)) ⟨hX, hY, hZ⟩, unJ_jacV (t := (X2, Y2, Z2)) ⟨hX2, hY2, hZ2⟩]
    exact ⟨by show 2 ≤ Tryz.f55.ntmps; decide +kernel, (pl_ev X Y Z X2 Y2 Z2).trans (plT_eq hX hY hZ hX2 hY2 hZ2), rfl⟩
  · simp at h
end Go.Proofs.YtafeeiodgfgepaaGreatDoor
/-
  The document's own answers, package curve: what the engine says of their texts, second part: sums, multiples.
-/
namespace Go.Proofs.YtafeeiodgfgepaaGreatDoor
set_option maxRecDepth 100000
open Go.W
open Go.RowKit (Below)
def tmNt : List Nat := [2, 3, 4, 5, 6]
def tmNi : List Nat := [0, 1, 2, 5]
def tmSt (n : Nat) (r : RP) (t : N3) (i : Int) : St :=
  ⟨[(2, ptr 0), (3, ptr 1), (4, ptr 2), (5, ptr 5), (6, i64 i)], [(0, ⟨cells4 n, 24, true⟩), (1, ⟨ptC r, 26, true⟩), (2, ⟨jacC (0, 0, 0), 76, true⟩), (5, ⟨jacC t, 76, true⟩)], 8⟩
def tmC0 : Cfg := ⟨tab, [(89, TwF), (90, BitF), (88, UpF), (55, PlF)], 24, []⟩
theorem tmOk0 : CfgOk Tryz.prog tmC0 (bodyOf Tryz.f52) := ⟨mixed, tabOk, sums_cons tw_sum (sums_cons BitR_sum (sums_cons upr_sum (sums_cons pl_sum sums_nil))), noL⟩
theorem tm_at : codeAt [1, 1, 0, 1, 0] (bodyOf Tryz.f52) = some (.loop (loopAt [1, 1, 0, 1, 0] (bodyOf Tryz.f52))) := by kernel_rfl
theorem tm_r (n : Nat) (r : RP) (t : N3) (i : Int) : roundS tmC0 60 [1, 1, 0, 1, 0, 0] (loopAt [1, 1, 0, 1, 0] (bodyOf Tryz.f52)) tmNt tmNi 8 tmNt tmNi 8 (tmSt n r t i) =
    bif decide (i ≥ 0) then tmR n r t i (fun t => some (.normal, tmSt n r t (IntKind.i64.wrap (i - 1)))) else some (.exit 0, tmSt n r t i) := by kernel_rfl
noncomputable def tmC (n : Nat) (r : RP) (t : N3) : Cfg := ⟨tab, [(86, InfF), (88, UpF)], 24, [([1, 1, 0, 1, 0], atSt tmNt tmNi 8 (tmSt n r (1, 1, 0) 255) (.exit 0) (tmSt n r t (-1)))]⟩
theorem tm_ev (n : Nat) (r : RP) (t : N3) : fnS (tmC n r t) 60 Tryz.f52 (bodyOf Tryz.f52) [num n, ptV r] =
    req (stEq (tmSt n r (1, 1, 0) 255) (tmSt n r (1, 1, 0) 255)) (some (jacV t)) := by kernel_rfl
theorem tm_sum : Sum Tryz.prog 52 TmF := by
  intro args v h
  unfold TmF at h
  split at h
  · rename_i n0 p0
    simp only [Option.some.injEq, Prod.mk.injEq, Bool.and_eq_true] at h
    obtain ⟨⟨h1, h2⟩, rfl⟩ := h
    obtain ⟨n, hn, rfl⟩ := isNum_some h1
    obtain ⟨r, hr, rfl⟩ := isPt_some h2
    rw [unnum_lt hn, unPt_ptV hr, tmJ_eq]
    have hL : LoopOk Tryz.prog 24 (loopAt [1, 1, 0, 1, 0] (bodyOf Tryz.f52)) (atSt tmNt tmNi 8 (tmSt n r (1, 1, 0) 255) (.exit 0) (tmSt n r (tmK n (upJ r) 256) (-1))) := by
      refine atSt_ok fun w0 R a W hrel => ?_
      refine loop_rounds (R := R) (C := tmC0) tmOk0 tm_at (m := 60) (nt := tmNt) (ni := tmNi) (et := tmNt) (ei := tmNi) (nx := 8) (ex := 8) (e := .exit 0) (sf := tmSt n r (tmK n (upJ r) 256) (-1))
        (fun k => tmSt n r (tmK n (upJ r) k) (255 - (k : Int))) 256 (by intro h; cases h) ?_ ?_ hrel
      · intro k hk
        refine (tm_r _ _ _ _).trans ?_
        rw [decide_eq_true (by omega), cond_true, tmR_eq hn hr hk, wrap_i64 (by omega), show (255 - (k : Int) - 1) = 255 - ((k + 1 : Nat) : Int) from by omega]
      · refine (tm_r _ _ _ _).trans ?_
        have hd : decide (255 - ((256 : Nat) : Int) ≥ 0) = false := by decide
        rw [hd, cond_false]; rfl
    have hOk : CfgOk Tryz.prog (tmC n r (tmK n (upJ r) 256)) (bodyOf Tryz.f52) := ⟨mixed, tabOk, sums_cons inf_sum (sums_cons upr_sum sums_nil), oneL hL⟩
    refine sum_at hOk Tryz.func52 (by kernel_rfl) (by kernel_rfl) rfl (fuel := 60) (by show 2 ≤ Tryz.f52.ntmps; decide +kernel) ?_ rfl
    refine (tm_ev n r _).trans ?_
    rw [req_true (stEq_refl rfl)]
  · simp at h
noncomputable def timRC : Cfg := ⟨tab, [(52, TmF), (51, DnF)], 9, []⟩
theorem timROk : CfgOk Tryz.prog timRC (bodyOf Tryz.f24) := ⟨mixed, tabOk, sums_cons tm_sum (sums_cons dnr_sum (sums_nil)), noL⟩
theorem timR_ev (n : Nat) (p : RP) : fnS timRC 60 Tryz.f24 (bodyOf Tryz.f24) [num n, ptV p] = timT (num n) (ptV p) := by kernel_rfl
theorem timR_sum : Sum Tryz.prog 24 TimRF := by
  refine sum_of timROk Tryz.func24 (by kernel_rfl) (by kernel_rfl) rfl (fuel := 60) fun args v h _ => ?_
  unfold TimRF at h
  split at h
  · simp only [Option.some.injEq, Prod.mk.injEq, Bool.and_eq_true] at h
    obtain ⟨⟨h1, h2⟩, rfl⟩ := h
    obtain ⟨n, hn, rfl⟩ := isNum_some h1
    obtain ⟨p, hp, rfl⟩ := isPt_some h2
    rw [unnum_lt hn, unPt_ptV hp]
    exact ⟨by show 2 ≤ Tryz.f24.ntmps; decide +kernel, (timR_ev n p).trans (timT_eq hn hp), rfl⟩
  · simp at h
noncomputable def basRC : Cfg := ⟨tab, [(24, TimRF), (32, GF)], 6, []⟩
theorem basROk : CfgOk Tryz.prog basRC (bodyOf Tryz.f23) := ⟨mixed, tabOk, sums_cons timR_sum (sums_cons gg_sum (sums_nil)), noL⟩
theorem basR_ev (n : Nat) : fnS basRC 60 Tryz.f23 (bodyOf Tryz.f23) [num n] = req (isNum (num n) && isPt (ptV gR)) (some (ptV (timR (unnum (num n)) (unPt (ptV gR))))) := by kernel_rfl
theorem basR_sum : Sum Tryz.prog 23 BasRF := by
  refine sum_of basROk Tryz.func23 (by kernel_rfl) (by kernel_rfl) rfl (fuel := 60) fun args v h _ => ?_
  unfold BasRF at h
  split at h
  · simp only [Option.some.injEq, Prod.mk.injEq] at h
    obtain ⟨h1, rfl⟩ := h
    obtain ⟨n, hn, rfl⟩ := isNum_some h1
    rw [unnum_lt hn]
    exact ⟨by show 1 ≤ Tryz.f23.ntmps; decide +kernel, (basR_ev n).trans (by rw [isNum_num, isPt_ptV, unnum_lt hn, unPt_ptV (ck_okR gR_ck)]; rfl), rfl⟩
  · simp at h
noncomputable def twoRC : Cfg := ⟨tab, [(52, TmF), (55, PlF), (51, DnF)], 17, []⟩
theorem twoROk : CfgOk Tryz.prog twoRC (bodyOf Tryz.f31) := ⟨mixed, tabOk, sums_cons tm_sum (sums_cons pl_sum (sums_cons dnr_sum (sums_nil))), noL⟩
theorem twoR_ev (n m : Nat) (p q : RP) : fnS twoRC 60 Tryz.f31 (bodyOf Tryz.f31) [num n, ptV p, num m, ptV q] = twoT (num n) (ptV p) (num m) (ptV q) := by kernel_rfl
theorem twoR_sum : Sum Tryz.prog 31 TwoRF := by
  refine sum_of twoROk Tryz.func31 (by kernel_rfl) (by kernel_rfl) rfl (fuel := 60) fun args v h _ => ?_
  unfold TwoRF at h
  split at h
  · simp only [Option.some.injEq, Prod.mk.injEq, Bool.and_eq_true] at h
    obtain ⟨⟨⟨⟨h1, h2⟩, h3⟩, h4⟩, rfl⟩ := h
    obtain ⟨n, hn, rfl⟩ := isNum_some h1
    obtain ⟨p, hp, rfl⟩ := isPt_some h2
    obtain ⟨m, hm, rfl⟩ := isNum_some h3
    obtain ⟨q, hq, rfl⟩ := isPt_some h4
    rw [unnum_lt hn, unnum_lt hm, unPt_ptV hp, unPt_ptV hq]
    exact ⟨by show 4 ≤ Tryz.f31.ntmps; decide +kernel, (twoR_ev n m p q).trans (twoT_eq hn hm hp hq), rfl⟩
  · simp at h
end Go.Proofs.YtafeeiodgfgepaaGreatDoor
/-
  The laws of package curve that ask for no bytes: what the engine says of their texts, given the contracts of its functions.
-/
namespace Go.Proofs.YtafeeiodgfgepaaGreatDoor
set_option maxRecDepth 100000
open Go.W
open Go.RowKit (Below)
end Go.Proofs.YtafeeiodgfgepaaGreatDoor
/-
  Package curve as it landed: contracts, first part.
-/
namespace Go.Proofs.YtafeeiodgfgepaaGreatDoor
set_option maxRecDepth 100000
open Go.W
open Go.RowKit (Below)
noncomputable def caddC : Cfg := ⟨tab, [(109, FAddF)], 8, []⟩
theorem caddOk : CfgOk Tryz.prog caddC (bodyOf Tryz.f92) := ⟨mixed, tabOk, (sums_cons FAdd_sum sums_nil), noL⟩
theorem cadd_ev (A : Nat) (B : Nat) : fnS caddC 60 Tryz.f92 (bodyOf Tryz.f92) [(num A), (num B)] = r2 (num A) (num B) (some (av (num A) (num B))) := by kernel_rfl
theorem cadd_sum : Sum Tryz.prog 92 AvF := by
  refine sum_of caddOk Tryz.func92 (by kernel_rfl) (by kernel_rfl) rfl (fuel := 60) fun args v h _ => ?_
  unfold AvF at h
  split at h
  · simp only [Option.some.injEq, Prod.mk.injEq, Bool.and_eq_true] at h
    obtain ⟨⟨h0, h1⟩, rfl⟩ := h
    obtain ⟨A, hA, rfl⟩ := isNum_some h0
    obtain ⟨B, hB, rfl⟩ := isNum_some h1
    exact ⟨by show 2 ≤ Tryz.f92.ntmps; decide +kernel, (cadd_ev A B).trans (by rw [r2_num]), rfl⟩
  · simp at h
noncomputable def csubC : Cfg := ⟨tab, [(15, FSubF)], 8, []⟩
theorem csubOk : CfgOk Tryz.prog csubC (bodyOf Tryz.f94) := ⟨mixed, tabOk, (sums_cons FSub_sum sums_nil), noL⟩
theorem csub_ev (A : Nat) (B : Nat) : fnS csubC 60 Tryz.f94 (bodyOf Tryz.f94) [(num A), (num B)] = r2 (num A) (num B) (some (sv (num A) (num B))) := by kernel_rfl
theorem csub_sum : Sum Tryz.prog 94 SvF := by
  refine sum_of csubOk Tryz.func94 (by kernel_rfl) (by kernel_rfl) rfl (fuel := 60) fun args v h _ => ?_
  unfold SvF at h
  split at h
  · simp only [Option.some.injEq, Prod.mk.injEq, Bool.and_eq_true] at h
    obtain ⟨⟨h0, h1⟩, rfl⟩ := h
    obtain ⟨A, hA, rfl⟩ := isNum_some h0
    obtain ⟨B, hB, rfl⟩ := isNum_some h1
    exact ⟨by show 2 ≤ Tryz.f94.ntmps; decide +kernel, (csub_ev A B).trans (by rw [r2_num]), rfl⟩
  · simp at h
noncomputable def cmulC : Cfg := ⟨tab, [(16, FMulF)], 8, []⟩
theorem cmulOk : CfgOk Tryz.prog cmulC (bodyOf Tryz.f57) := ⟨mixed, tabOk, (sums_cons FMul_sum sums_nil), noL⟩
theorem cmul_ev (A : Nat) (B : Nat) : fnS cmulC 60 Tryz.f57 (bodyOf Tryz.f57) [(num A), (num B)] = r2 (num A) (num B) (some (mv (num A) (num B))) := by kernel_rfl
theorem cmul_sum : Sum Tryz.prog 57 MvF := by
  refine sum_of cmulOk Tryz.func57 (by kernel_rfl) (by kernel_rfl) rfl (fuel := 60) fun args v h _ => ?_
  unfold MvF at h
  split at h
  · simp only [Option.some.injEq, Prod.mk.injEq, Bool.and_eq_true] at h
    obtain ⟨⟨h0, h1⟩, rfl⟩ := h
    obtain ⟨A, hA, rfl⟩ := isNum_some h0
    obtain ⟨B, hB, rfl⟩ := isNum_some h1
    exact ⟨by show 2 ≤ Tryz.f57.ntmps; decide +kernel, (cmul_ev A B).trans (by rw [r2_num]), rfl⟩
  · simp at h
noncomputable def clowC : Cfg := ⟨tab, [(54, CmpF), (21, PrimeF)], 7, []⟩
theorem clowOk : CfgOk Tryz.prog clowC (bodyOf Tryz.f56) := ⟨mixed, tabOk, (sums_cons Cmp_sum (sums_cons Prime_sum sums_nil)), noL⟩
theorem clow_ev (A : Nat) : fnS clowC 60 Tryz.f56 (bodyOf Tryz.f56) [(num A)] = lowPT (num A) := by kernel_rfl
theorem clow_sum : Sum Tryz.prog 56 LowPF := by
  refine sum_of clowOk Tryz.func56 (by kernel_rfl) (by kernel_rfl) rfl (fuel := 60) fun args v h _ => ?_
  unfold LowPF at h
  split at h
  · simp only [Option.some.injEq, Prod.mk.injEq] at h
    obtain ⟨h0, rfl⟩ := h
    obtain ⟨A, hA, rfl⟩ := isNum_some h0
    rw [unnum_lt hA]
    exact ⟨by show 1 ≤ Tryz.f56.ntmps; decide +kernel, (clow_ev A).trans (lowPT_eq hA), rfl⟩
  · simp at h
noncomputable def csqC : Cfg := ⟨tab, [(57, MvF), (92, AvF)], 10, []⟩
theorem csqOk : CfgOk Tryz.prog csqC (bodyOf Tryz.f58) := ⟨mixed, tabOk, (sums_cons cmul_sum (sums_cons cadd_sum sums_nil)), noL⟩
theorem csq_ev (A : Nat) : fnS csqC 60 Tryz.f58 (bodyOf Tryz.f58) [(num A)] = sqT (num A) := by kernel_rfl
theorem csq_sum : Sum Tryz.prog 58 SqAF := by
  refine sum_of csqOk Tryz.func58 (by kernel_rfl) (by kernel_rfl) rfl (fuel := 60) fun args v h _ => ?_
  unfold SqAF at h
  split at h
  · simp only [Option.some.injEq, Prod.mk.injEq] at h
    obtain ⟨h0, rfl⟩ := h
    obtain ⟨A, hA, rfl⟩ := isNum_some h0
    rw [unnum_lt hA]
    exact ⟨by show 1 ≤ Tryz.f58.ntmps; decide +kernel, (csq_ev A).trans (sqT_eq hA), rfl⟩
  · simp at h
noncomputable def cisC : Cfg := ⟨tab, [(57, MvF), (56, LowPF), (58, SqAF)], 27, []⟩
theorem cisOk : CfgOk Tryz.prog cisC (bodyOf Tryz.f33) := ⟨mixed, tabOk, (sums_cons cmul_sum (sums_cons clow_sum (sums_cons csq_sum sums_nil))), noL⟩
theorem cis_ev (ip : Bool) (Xp Yp : Nat) : fnS cisC 60 Tryz.f33 (bodyOf Tryz.f33) [(ptV (ip, Xp, Yp))] = isPT ip (num Xp) (num Yp) := by kernel_rfl
theorem cis_sum : Sum Tryz.prog 33 CkF := by
  refine sum_of cisOk Tryz.func33 (by kernel_rfl) (by kernel_rfl) rfl (fuel := 60) fun args v h _ => ?_
  unfold CkF at h
  split at h
  · simp only [Option.some.injEq, Prod.mk.injEq] at h
    obtain ⟨h0, rfl⟩ := h
    obtain ⟨⟨ip, Xp, Yp⟩, ⟨hXp, hYp⟩, rfl⟩ := isPt_some h0
    rw [unPt_ptV (r := (ip, Xp, Yp)) ⟨hXp, hYp⟩]
    exact ⟨by show 1 ≤ Tryz.f33.ntmps; decide +kernel, (cis_ev ip Xp Yp).trans (isPT_eq hXp hYp), rfl⟩
  · simp at h
noncomputable def cchkC : Cfg := ⟨tab, [(33, CkF)], 5, []⟩
theorem cchkOk : CfgOk Tryz.prog cchkC (bodyOf Tryz.f27) := ⟨mixed, tabOk, (sums_cons cis_sum sums_nil), noL⟩
theorem cchk_ev (p : RP) : fnS cchkC 60 Tryz.f27 (bodyOf Tryz.f27) [(ptV p)] = chkT (ptV p) := by kernel_rfl
theorem cchk_sum : Sum Tryz.prog 27 CChkF := by
  refine sum_of cchkOk Tryz.func27 (by kernel_rfl) (by kernel_rfl) rfl (fuel := 60) fun args v h _ => ?_
  unfold CChkF at h
  split at h
  · simp only [Option.some.injEq, Prod.mk.injEq] at h
    obtain ⟨h0, rfl⟩ := h
    obtain ⟨p, hp, rfl⟩ := isPt_some h0
    rw [unPt_ptV hp]
    exact ⟨by show 1 ≤ Tryz.f27.ntmps; decide +kernel, (cchk_ev p).trans (chkT_eq hp), rfl⟩
  · simp at h
noncomputable def clifC : Cfg := ⟨tab, [], 12, []⟩
theorem clifOk : CfgOk Tryz.prog clifC (bodyOf Tryz.f96) := ⟨mixed, tabOk, sums_nil, noL⟩
theorem clif_ev (ip : Bool) (Xp Yp : Nat) : fnS clifC 60 Tryz.f96 (bodyOf Tryz.f96) [(ptV (ip, Xp, Yp))] = lfT ip (num Xp) (num Yp) := by kernel_rfl
theorem clif_sum : Sum Tryz.prog 96 LiftF := by
  refine sum_of clifOk Tryz.func96 (by kernel_rfl) (by kernel_rfl) rfl (fuel := 60) fun args v h _ => ?_
  unfold LiftF at h
  split at h
  · simp only [Option.some.injEq, Prod.mk.injEq] at h
    obtain ⟨h0, rfl⟩ := h
    obtain ⟨⟨ip, Xp, Yp⟩, ⟨hXp, hYp⟩, rfl⟩ := isPt_some h0
    rw [unPt_ptV (r := (ip, Xp, Yp)) ⟨hXp, hYp⟩]
    exact ⟨by show 1 ≤ Tryz.f96.ntmps; decide +kernel, (clif_ev ip Xp Yp).trans (lfT_eq ip Xp Yp), rfl⟩
  · simp at h
noncomputable def cisiC : Cfg := ⟨tab, [], 7, []⟩
theorem cisiOk : CfgOk Tryz.prog cisiC (bodyOf Tryz.f95) := ⟨mixed, tabOk, sums_nil, noL⟩
theorem cisi_ev (Xt Yt Zt : Nat) : fnS cisiC 60 Tryz.f95 (bodyOf Tryz.f95) [(jacV (Xt, Yt, Zt))] = isIT (num Zt) := by kernel_rfl
theorem cisi_sum : Sum Tryz.prog 95 IsIF := by
  refine sum_of cisiOk Tryz.func95 (by kernel_rfl) (by kernel_rfl) rfl (fuel := 60) fun args v h _ => ?_
  unfold IsIF at h
  split at h
  · simp only [Option.some.injEq, Prod.mk.injEq] at h
    obtain ⟨h0, rfl⟩ := h
    obtain ⟨⟨Xt, Yt, Zt⟩, ⟨hXt, hYt, hZt⟩, rfl⟩ := isJac_some h0
    rw [unJ_jacV (t := (Xt, Yt, Zt)) ⟨hXt, hYt, hZt⟩]
    exact ⟨by show 1 ≤ Tryz.f95.ntmps; decide +kernel, (cisi_ev Xt Yt Zt).trans (isIT_eq hZt), rfl⟩
  · simp at h
noncomputable def cpttC : Cfg := ⟨tab, [(95, IsIF), (98, InvF), (57, MvF)], 25, []⟩
theorem cpttOk : CfgOk Tryz.prog cpttC (bodyOf Tryz.f63) := ⟨mixed, tabOk, (sums_cons cisi_sum (sums_cons Inv_sum (sums_cons cmul_sum sums_nil))), noL⟩
theorem cptt_ev (Xt Yt Zt : Nat) : fnS cpttC 60 Tryz.f63 (bodyOf Tryz.f63) [(jacV (Xt, Yt, Zt))] = ptT (num Xt) (num Yt) (num Zt) := by kernel_rfl
theorem cptt_sum : Sum Tryz.prog 63 PtF := by
  refine sum_of cpttOk Tryz.func63 (by kernel_rfl) (by kernel_rfl) rfl (fuel := 60) fun args v h _ => ?_
  unfold PtF at h
  split at h
  · simp only [Option.some.injEq, Prod.mk.injEq] at h
    obtain ⟨h0, rfl⟩ := h
    obtain ⟨⟨Xt, Yt, Zt⟩, ⟨hXt, hYt, hZt⟩, rfl⟩ := isJac_some h0
    rw [unJ_jacV (t := (Xt, Yt, Zt)) ⟨hXt, hYt, hZt⟩]
    exact ⟨by show 1 ≤ Tryz.f63.ntmps; decide +kernel, (cptt_ev Xt Yt Zt).trans (ptT_eq hXt hYt hZt), rfl⟩
  · simp at h
noncomputable def cdblC : Cfg := ⟨tab, [(57, MvF), (92, AvF), (94, SvF)], 58, []⟩
theorem cdblOk : CfgOk Tryz.prog cdblC (bodyOf Tryz.f60) := ⟨mixed, tabOk, (sums_cons cmul_sum (sums_cons cadd_sum (sums_cons csub_sum sums_nil))), noL⟩
theorem cdbl_ev (Xt Yt Zt : Nat) : fnS cdblC 60 Tryz.f60 (bodyOf Tryz.f60) [(jacV (Xt, Yt, Zt))] = dbT (num Xt) (num Yt) (num Zt) := by kernel_rfl
theorem cdbl_sum : Sum Tryz.prog 60 DblF := by
  refine sum_of cdblOk Tryz.func60 (by kernel_rfl) (by kernel_rfl) rfl (fuel := 60) fun args v h _ => ?_
  unfold DblF at h
  split at h
  · simp only [Option.some.injEq, Prod.mk.injEq] at h
    obtain ⟨h0, rfl⟩ := h
    obtain ⟨⟨Xt, Yt, Zt⟩, ⟨hXt, hYt, hZt⟩, rfl⟩ := isJac_some h0
    rw [unJ_jacV (t := (Xt, Yt, Zt)) ⟨hXt, hYt, hZt⟩]
    exact ⟨by show 1 ≤ Tryz.f60.ntmps; decide +kernel, (cdbl_ev Xt Yt Zt).trans (dbT_eq hXt hYt hZt), rfl⟩
  · simp at h
noncomputable def csamC : Cfg := ⟨tab, [(60, DblF)], 11, []⟩
theorem csamOk : CfgOk Tryz.prog csamC (bodyOf Tryz.f97) := ⟨mixed, tabOk, (sums_cons cdbl_sum sums_nil), noL⟩
theorem csam_ev (t : N3) (A : Nat) : fnS csamC 60 Tryz.f97 (bodyOf Tryz.f97) [(jacV t), (num A)] = samT (jacV t) (num A) := by kernel_rfl
theorem csam_sum : Sum Tryz.prog 97 SamF := by
  refine sum_of csamOk Tryz.func97 (by kernel_rfl) (by kernel_rfl) rfl (fuel := 60) fun args v h _ => ?_
  unfold SamF at h
  split at h
  · simp only [Option.some.injEq, Prod.mk.injEq, Bool.and_eq_true] at h
    obtain ⟨⟨h0, h1⟩, rfl⟩ := h
    obtain ⟨t, ht, rfl⟩ := isJac_some h0
    obtain ⟨A, hA, rfl⟩ := isNum_some h1
    rw [unJ_jacV ht, unnum_lt hA]
    exact ⟨by show 2 ≤ Tryz.f97.ntmps; decide +kernel, (csam_ev t A).trans (samT_eq ht hA), rfl⟩
  · simp at h
noncomputable def cplsC : Cfg := ⟨tab, [(57, MvF), (92, AvF), (94, SvF), (95, IsIF), (96, LiftF), (97, SamF)], 84, []⟩
theorem cplsOk : CfgOk Tryz.prog cplsC (bodyOf Tryz.f62) := ⟨mixed, tabOk, (sums_cons cmul_sum (sums_cons cadd_sum (sums_cons csub_sum (sums_cons cisi_sum (sums_cons clif_sum (sums_cons csam_sum sums_nil)))))), noL⟩
theorem cpls_ev (Xt Yt Zt : Nat) (ip : Bool) (Xp Yp : Nat) : fnS cplsC 60 Tryz.f62 (bodyOf Tryz.f62) [(jacV (Xt, Yt, Zt)), (ptV (ip, Xp, Yp))] = psT (jacV (Xt, Yt, Zt)) (num Xt) (num Yt) (num Zt) ip (num Xp) (num Yp) := by kernel_rfl
theorem cpls_sum : Sum Tryz.prog 62 PlsF := by
  refine sum_of cplsOk Tryz.func62 (by kernel_rfl) (by kernel_rfl) rfl (fuel := 60) fun args v h _ => ?_
  unfold PlsF at h
  split at h
  · simp only [Option.some.injEq, Prod.mk.injEq, Bool.and_eq_true] at h
    obtain ⟨⟨h0, h1⟩, rfl⟩ := h
    obtain ⟨⟨Xt, Yt, Zt⟩, ⟨hXt, hYt, hZt⟩, rfl⟩ := isJac_some h0
    obtain ⟨⟨ip, Xp, Yp⟩, ⟨hXp, hYp⟩, rfl⟩ := isPt_some h1
    rw [unJ_jacV (t := (Xt, Yt, Zt)) ⟨hXt, hYt, hZt⟩, unPt_ptV (r := (ip, Xp, Yp)) ⟨hXp, hYp⟩]
    exact ⟨by show 2 ≤ Tryz.f62.ntmps; decide +kernel, (cpls_ev Xt Yt Zt ip Xp Yp).trans (psT_eq hXt hYt hZt hXp hYp), rfl⟩
  · simp at h
noncomputable def cgC : Cfg := ⟨tab, [], 4, []⟩
theorem cgOk : CfgOk Tryz.prog cgC (bodyOf Tryz.f37) := ⟨mixed, tabOk, sums_nil, noL⟩
theorem cg_ev  : fnS cgC 60 Tryz.f37 (bodyOf Tryz.f37) [] = some (ptV (false, gXn, gYn)) := by kernel_rfl
theorem cg_sum : Sum Tryz.prog 37 GF := by
  refine sum_of cgOk Tryz.func37 (by kernel_rfl) (by kernel_rfl) rfl (fuel := 60) fun args v h _ => ?_
  unfold GF at h
  split at h
  · simp only [Option.some.injEq, Prod.mk.injEq, true_and] at h
    subst h
    exact ⟨by show 0 ≤ Tryz.f37.ntmps; decide +kernel, (cg_ev ).trans (rfl), rfl⟩
  · simp at h
end Go.Proofs.YtafeeiodgfgepaaGreatDoor
/-
  Package curve as it landed: contracts, second part; its laws without bytes.
-/
namespace Go.Proofs.YtafeeiodgfgepaaGreatDoor
set_option maxRecDepth 100000
open Go.W
open Go.RowKit (Below)
def csoNt : List Nat := [4, 5, 6, 7, 8, 9, 10]
def csoNi : List Nat := [0, 1, 2, 3, 4, 6]
def csoSt (n : Nat) (p : RP) (m : Nat) (q : RP) (t : N3) (i : Int) : St :=
  ⟨[(4, ptr 0), (5, ptr 1), (6, ptr 2), (7, ptr 3), (8, ptr 4), (9, ptr 6), (10, i64 i)],
   [(0, ⟨cells4 n, 24, true⟩), (1, ⟨ptC p, 26, true⟩), (2, ⟨cells4 m, 24, true⟩), (3, ⟨ptC q, 26, true⟩), (4, ⟨ptC zR, 26, true⟩), (6, ⟨jacC t, 81, true⟩)], 15⟩
def csoC0 : Cfg := ⟨tab, [(60, DblF), (61, BitF), (62, PlsF)], 40, []⟩
theorem csoOk0 : CfgOk Tryz.prog csoC0 (bodyOf Tryz.f34) := ⟨mixed, tabOk, sums_cons cdbl_sum (sums_cons Bit_sum (sums_cons cpls_sum sums_nil)), noL⟩
theorem cso_at : codeAt [1, 1, 0, 1, 0] (bodyOf Tryz.f34) = some (.loop (loopAt [1, 1, 0, 1, 0] (bodyOf Tryz.f34))) := by kernel_rfl
theorem cso_r (n : Nat) (p : RP) (m : Nat) (q : RP) (t : N3) (i : Int) : roundS csoC0 60 [1, 1, 0, 1, 0, 0] (loopAt [1, 1, 0, 1, 0] (bodyOf Tryz.f34)) csoNt csoNi 15 csoNt csoNi 15 (csoSt n p m q t i) =
    bif decide (i ≥ 0) then suR n p m q t i (fun t => some (.normal, csoSt n p m q t (IntKind.i64.wrap (i - 1)))) else some (.exit 0, csoSt n p m q t i) := by kernel_rfl
noncomputable def csoC (n : Nat) (p : RP) (m : Nat) (q : RP) (t : N3) (i : Int) : Cfg := ⟨tab, [(59, LenF), (63, PtF)], 40, [([1, 1, 0, 1, 0], atSt csoNt csoNi 15 (csoSt n p m q (0, 0, 0) i) (.exit 0) (csoSt n p m q t (-1)))]⟩
theorem cso_ev (n : Nat) (p : RP) (m : Nat) (q : RP) (t : N3) (i : Int) : fnS (csoC n p m q t i) 60 Tryz.f34 (bodyOf Tryz.f34) [num n, ptV p, num m, ptV q] =
    req (isNum (num n)) (req (isNum (num m)) (req (stEq (csoSt n p m q (0, 0, 0) (IntKind.i64.wrap ((if ((bitLen (unnum (num m)) : Nat) : Int) > ((bitLen (unnum (num n)) : Nat) : Int) then ((bitLen (unnum (num m)) : Nat) : Int) else ((bitLen (unnum (num n)) : Nat) : Int)) - 1))) (csoSt n p m q (0, 0, 0) i))
      (req (isJac (jacV t)) (some (ptV (ptR (unJ (jacV t)))))))) := by kernel_rfl
theorem sumOf_sum : Sum Tryz.prog 34 SuOF := by
  intro args v h
  unfold SuOF at h
  split at h
  · rename_i n0 p0 m0 q0
    simp only [Option.some.injEq, Prod.mk.injEq, Bool.and_eq_true] at h
    obtain ⟨⟨⟨⟨⟨⟨h1, h2⟩, h3⟩, h4⟩, c1⟩, c2⟩, rfl⟩ := h
    obtain ⟨n, hn, rfl⟩ := isNum_some h1
    obtain ⟨p, hp, rfl⟩ := isPt_some h2
    obtain ⟨m, hm, rfl⟩ := isNum_some h3
    obtain ⟨q, hq, rfl⟩ := isPt_some h4
    simp only [unnum_lt hn, unnum_lt hm, unPt_ptV hp, unPt_ptV hq] at c1 c2 ⊢
    obtain ⟨L, hL1, hL2, hL3, hL⟩ : ∃ L : Nat, bitLen n ≤ L ∧ bitLen m ≤ L ∧ L ≤ 256 ∧ ((if ((bitLen m : Nat) : Int) > ((bitLen n : Nat) : Int) then ((bitLen m : Nat) : Int) else ((bitLen n : Nat) : Int)) : Int) = (L : Int) := by
      have a1 := bitLen_lt hn
      have a2 := bitLen_lt hm
      split
      · exact ⟨bitLen m, by omega, by omega, a2, rfl⟩
      · exact ⟨bitLen n, by omega, by omega, a1, rfl⟩
    have hLo : LoopOk Tryz.prog 40 (loopAt [1, 1, 0, 1, 0] (bodyOf Tryz.f34)) (atSt csoNt csoNi 15 (csoSt n p m q (0, 0, 0) ((L : Int) - 1)) (.exit 0) (csoSt n p m q (smK n p m q L L) (-1))) := by
      refine atSt_ok fun w0 R a W hrel => ?_
      refine loop_rounds (R := R) (C := csoC0) csoOk0 cso_at (m := 60) (nt := csoNt) (ni := csoNi) (et := csoNt) (ei := csoNi) (nx := 15) (ex := 15) (e := .exit 0) (sf := csoSt n p m q (smK n p m q L L) (-1))
        (fun k => csoSt n p m q (smK n p m q L k) ((L : Int) - 1 - (k : Int))) L (by intro h; cases h) ?_ ?_ ?_
      · intro k hk
        refine (cso_r _ _ _ _ _ _).trans ?_
        rw [decide_eq_true (by omega), cond_true, suR_eq hn hm hp hq hL3 hk, wrap_i64 (by omega), show ((L : Int) - 1 - (k : Int) - 1) = (L : Int) - 1 - ((k + 1 : Nat) : Int) from by omega]
      · refine (cso_r _ _ _ _ _ _).trans ?_
        have e : (L : Int) - 1 - ((L : Nat) : Int) = -1 := by omega
        rw [e]; rfl
      · rw [show (L : Int) - 1 - ((0 : Nat) : Int) = (L : Int) - 1 from by omega]; exact hrel
    have hOk : CfgOk Tryz.prog (csoC n p m q (smK n p m q L L) ((L : Int) - 1)) (bodyOf Tryz.f34) := ⟨mixed, tabOk, sums_cons Len_sum (sums_cons cptt_sum sums_nil), oneL hLo⟩
    refine sum_at hOk Tryz.func34 (by kernel_rfl) (by kernel_rfl) rfl (fuel := 60) (by show 4 ≤ Tryz.f34.ntmps; decide +kernel) ?_ rfl
    refine (cso_ev n p m q _ _).trans ?_
    rw [isNum_num, isNum_num, req_true rfl, req_true rfl, unnum_lt hn, unnum_lt hm, hL, wrap_i64 (by omega), req_true (stEq_refl rfl), isJac_jacV, req_true rfl, unJ_jacV (okJ_sm n hp m hq L L), J3_smL c1 c2 (lt_bitLen hL1) (lt_bitLen hL2)]
  · simp at h
noncomputable def cTiC : Cfg := ⟨tab, [(33, CkF), (34, SuOF)], 15, []⟩
theorem cTiOk : CfgOk Tryz.prog cTiC (bodyOf Tryz.f12) := ⟨mixed, tabOk, (sums_cons cis_sum (sums_cons sumOf_sum sums_nil)), noL⟩
theorem cTi_ev (n : Nat) (p : RP) : fnS cTiC 60 Tryz.f12 (bodyOf Tryz.f12) [(num n), (ptV p)] = cTimT (num n) (ptV p) := by kernel_rfl
theorem cTi_sum : Sum Tryz.prog 12 CTimF := by
  refine sum_of cTiOk Tryz.func12 (by kernel_rfl) (by kernel_rfl) rfl (fuel := 60) fun args v h _ => ?_
  unfold CTimF at h
  split at h
  · simp only [Option.some.injEq, Prod.mk.injEq, Bool.and_eq_true] at h
    obtain ⟨⟨h0, h1⟩, rfl⟩ := h
    obtain ⟨n, hn, rfl⟩ := isNum_some h0
    obtain ⟨p, hp, rfl⟩ := isPt_some h1
    rw [unnum_lt hn, unPt_ptV hp]
    exact ⟨by show 2 ≤ Tryz.f12.ntmps; decide +kernel, (cTi_ev n p).trans (cTimT_eq hn hp), rfl⟩
  · simp at h
noncomputable def cBaC : Cfg := ⟨tab, [(37, GF), (34, SuOF)], 8, []⟩
theorem cBaOk : CfgOk Tryz.prog cBaC (bodyOf Tryz.f14) := ⟨mixed, tabOk, (sums_cons cg_sum (sums_cons sumOf_sum sums_nil)), noL⟩
theorem cBa_ev (n : Nat) : fnS cBaC 60 Tryz.f14 (bodyOf Tryz.f14) [(num n)] = cBasT (num n) := by kernel_rfl
theorem cBa_sum : Sum Tryz.prog 14 CBasF := by
  refine sum_of cBaOk Tryz.func14 (by kernel_rfl) (by kernel_rfl) rfl (fuel := 60) fun args v h _ => ?_
  unfold CBasF at h
  split at h
  · simp only [Option.some.injEq, Prod.mk.injEq] at h
    obtain ⟨h0, rfl⟩ := h
    obtain ⟨n, hn, rfl⟩ := isNum_some h0
    rw [unnum_lt hn]
    exact ⟨by show 1 ≤ Tryz.f14.ntmps; decide +kernel, (cBa_ev n).trans (cBasT_eq hn), rfl⟩
  · simp at h
noncomputable def cTwC : Cfg := ⟨tab, [(33, CkF), (34, SuOF)], 24, []⟩
theorem cTwOk : CfgOk Tryz.prog cTwC (bodyOf Tryz.f29) := ⟨mixed, tabOk, (sums_cons cis_sum (sums_cons sumOf_sum sums_nil)), noL⟩
theorem cTw_ev (n : Nat) (p : RP) (m : Nat) (q : RP) : fnS cTwC 60 Tryz.f29 (bodyOf Tryz.f29) [(num n), (ptV p), (num m), (ptV q)] = cTwoT (num n) (ptV p) (num m) (ptV q) := by kernel_rfl
theorem cTw_sum : Sum Tryz.prog 29 CTwoF := by
  refine sum_of cTwOk Tryz.func29 (by kernel_rfl) (by kernel_rfl) rfl (fuel := 60) fun args v h _ => ?_
  unfold CTwoF at h
  split at h
  · simp only [Option.some.injEq, Prod.mk.injEq, Bool.and_eq_true] at h
    obtain ⟨⟨⟨⟨h0, h1⟩, h2⟩, h3⟩, rfl⟩ := h
    obtain ⟨n, hn, rfl⟩ := isNum_some h0
    obtain ⟨p, hp, rfl⟩ := isPt_some h1
    obtain ⟨m, hm, rfl⟩ := isNum_some h2
    obtain ⟨q, hq, rfl⟩ := isPt_some h3
    rw [unnum_lt hn, unPt_ptV hp, unnum_lt hm, unPt_ptV hq]
    exact ⟨by show 4 ≤ Tryz.f29.ntmps; decide +kernel, (cTw_ev n p m q).trans (cTwoT_eq hn hm hp hq), rfl⟩
  · simp at h
end Go.Proofs.YtafeeiodgfgepaaGreatDoor
/-
  Bytes, held against one another; twins.
-/
namespace Go.Proofs.YtafeeiodgfgepaaGreatDoor
set_option maxRecDepth 100000
open Go.W
open Go.RowKit (Below)
end Go.Proofs.YtafeeiodgfgepaaGreatDoor
/-
  The bytes of points.
-/
namespace Go.Proofs.YtafeeiodgfgepaaGreatDoor
set_option maxRecDepth 100000
open Go.W
open Go.RowKit (Below)
def cbyC : Cfg := ⟨tab, [(33, CkF), (64, BytesF), (61, BitF)], 22, []⟩
theorem cbyOk : CfgOk Tryz.prog cbyC (bodyOf Tryz.f35) := ⟨mixed, tabOk, sums_cons cis_sum (sums_cons Bytes_sum (sums_cons Bit_sum sums_nil)), noL⟩
theorem cby_ev (i : Bool) (X Y : Nat) (es : Nat → Nat) (id : Nat) : fnMS cbyC 60 Tryz.f35 (bodyOf Tryz.f35) (cArgs [.pl (ptV (i, X, Y))] 0) (cMem es [.pl (ptV (i, X, Y))] 0) 0 id = cBytT 5 id i (num X) (num Y) := by kernel_rfl
theorem cby_msum : MSum Tryz.prog 35 (CBytF 5) := by
  refine msum_of (fuel := 60) (next := 0) cbyOk Tryz.func35 (by kernel_rfl) (by kernel_rfl) rfl fun vs mm id v l hpick hlt => ?_
  match vs, hpick with
  | [a], hpick =>
    obtain ⟨r, hr, rfl⟩ : ∃ r, okR r ∧ a = ptV r := by
      cases hc : isPt a with
      | true => exact isPt_some hc
      | false => rw [CBytF_eq, hc] at hpick; simp [pickM] at hpick
    obtain ⟨i, X, Y⟩ := r
    refine ⟨[.pl (ptV (i, X, Y))], ⟨rfl, rfl, trivial⟩, by show 1 ≤ Tryz.f35.ntmps; decide +kernel, CBytF_one hpick, fun es => ?_⟩
    exact (cby_ev i X Y es id).trans ((cBytT_eq hr.1 hr.2).trans hpick)
  | [], h => simp [CBytF, pickM] at h
  | _ :: _ :: _, h => simp [CBytF, pickM] at h
def BytesRC : Cfg := ⟨tab, [], 24, []⟩
theorem BytesROk : CfgOk Tryz.prog BytesRC (bodyOf Tryz.f80) := ⟨mixed, tabOk, sums_nil, noL⟩
theorem BytesR_ev (a b c d : Nat) : fnS BytesRC 100 Tryz.f80 (bodyOf Tryz.f80) [numd a b c d] = BytesT a b c d := by kernel_rfl
theorem BytesR_sum : Sum Tryz.prog 80 BytesF := by
  refine sum_of BytesROk Tryz.func80 (by kernel_rfl) (by kernel_rfl) rfl (fuel := 100) fun args v h _ => ?_
  obtain ⟨X, hX, rfl, rfl⟩ := arg1 (f := fun x => bytesV (unnum x)) h
  refine ⟨by show 1 ≤ Tryz.f80.ntmps; decide +kernel, ?_, by kernel_rfl⟩
  obtain ⟨a, b, c, d, h0, h1, h2, h3, e1, e2⟩ := digits hX
  rw [unnum_lt hX, e2, BytesR_ev, BytesT_eq h0 h1 h2, e1]
def rbyC : Cfg := ⟨tab, [(80, BytesF)], 21, []⟩
theorem rbyOk : CfgOk Tryz.prog rbyC (bodyOf Tryz.f49) := ⟨mixed, tabOk, sums_cons BytesR_sum sums_nil, noL⟩
theorem rby_ev (i : Bool) (X Y : Nat) (es : Nat → Nat) (id : Nat) : fnMS rbyC 60 Tryz.f49 (bodyOf Tryz.f49) (cArgs [.pl (ptV (i, X, Y))] 0) (cMem es [.pl (ptV (i, X, Y))] 0) 0 id = rBytT 5 id i (num X) (dig Y 0) := by kernel_rfl
theorem rby_msum : MSum Tryz.prog 49 (RBytF 5) := by
  refine msum_of (fuel := 60) (next := 0) rbyOk Tryz.func49 (by kernel_rfl) (by kernel_rfl) rfl fun vs mm id v l hpick hlt => ?_
  match vs, hpick with
  | [a], hpick =>
    obtain ⟨r, hr, rfl⟩ : ∃ r, okR r ∧ a = ptV r := by
      cases hc : isPt a with
      | true => exact isPt_some hc
      | false => rw [RBytF_eq, hc] at hpick; simp [pickM] at hpick
    obtain ⟨i, X, Y⟩ := r
    refine ⟨[.pl (ptV (i, X, Y))], ⟨rfl, rfl, trivial⟩, by show 1 ≤ Tryz.f49.ntmps; decide +kernel, RBytF_one hpick, fun es => ?_⟩
    exact (rby_ev i X Y es id).trans ((rBytT_eq hr.1 hr.2).trans hpick)
  | [], h => simp [RBytF, pickM] at h
  | _ :: _ :: _, h => simp [RBytF, pickM] at h
end Go.Proofs.YtafeeiodgfgepaaGreatDoor
