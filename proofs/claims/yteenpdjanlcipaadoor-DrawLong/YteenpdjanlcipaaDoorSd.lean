/-
  Several texts in one.
-/
import Derived.Test.YteenpdjanlcipaaDoorSb
import Derived.Test.YteenpdjanlcipaaDoorEd
import Derived.Test.YteenpdjanlcipaaDoorSc
import Derived.Test.YteenpdjanlcipaaDoorSa
/-
  The document's own answers, package curve: what the engine says of their texts, first part.
-/
namespace Go.Proofs.YteenpdjanlcipaaDoor
set_option maxRecDepth 100000
open Go.W
open Go.RowKit (Below)

def mulC : Cfg := ⟨tab, [(86, FMulF)], 8, []⟩
theorem mulOk : CfgOk Tryd.prog mulC (bodyOf Tryd.f63) := ⟨mixed, tabOk, sums_cons FMulR_sum sums_nil, noL⟩
theorem mul_ev (A B : Nat) : fnS mulC 60 Tryd.f63 (bodyOf Tryd.f63) [num A, num B] = r2 (num A) (num B) (some (mv (num A) (num B))) := by kernel_rfl
theorem mul_sum : Sum Tryd.prog 63 MvF := by
  refine sum_of mulOk Tryd.func63 (by kernel_rfl) (by kernel_rfl) rfl (fuel := 60) fun args v h _ => ?_
  obtain ⟨X, Y, hX, hY, rfl, rfl⟩ := arg2 (f := fun x y => mv x y) h
  exact ⟨by show 2 ≤ Tryd.f63.ntmps; decide +kernel, by rw [mul_ev, r2_num], rfl⟩

def addC : Cfg := ⟨tab, [(88, FAddF)], 8, []⟩
theorem addOk : CfgOk Tryd.prog addC (bodyOf Tryd.f62) := ⟨mixed, tabOk, sums_cons FAddR_sum sums_nil, noL⟩
theorem add_ev (A B : Nat) : fnS addC 60 Tryd.f62 (bodyOf Tryd.f62) [num A, num B] = r2 (num A) (num B) (some (av (num A) (num B))) := by kernel_rfl
theorem add_sum : Sum Tryd.prog 62 AvF := by
  refine sum_of addOk Tryd.func62 (by kernel_rfl) (by kernel_rfl) rfl (fuel := 60) fun args v h _ => ?_
  obtain ⟨X, Y, hX, hY, rfl, rfl⟩ := arg2 (f := fun x y => av x y) h
  exact ⟨by show 2 ≤ Tryd.f62.ntmps; decide +kernel, by rw [add_ev, r2_num], rfl⟩

def subC : Cfg := ⟨tab, [(87, FSubF)], 8, []⟩
theorem subOk : CfgOk Tryd.prog subC (bodyOf Tryd.f64) := ⟨mixed, tabOk, sums_cons FSubR_sum sums_nil, noL⟩
theorem sub_ev (A B : Nat) : fnS subC 60 Tryd.f64 (bodyOf Tryd.f64) [num A, num B] = r2 (num A) (num B) (some (sv (num A) (num B))) := by kernel_rfl
theorem sub_sum : Sum Tryd.prog 64 SvF := by
  refine sum_of subOk Tryd.func64 (by kernel_rfl) (by kernel_rfl) rfl (fuel := 60) fun args v h _ => ?_
  obtain ⟨X, Y, hX, hY, rfl, rfl⟩ := arg2 (f := fun x y => sv x y) h
  exact ⟨by show 2 ≤ Tryd.f64.ntmps; decide +kernel, by rw [sub_ev, r2_num], rfl⟩

def infC : Cfg := ⟨tab, [], 2, []⟩
theorem infOk : CfgOk Tryd.prog infC (bodyOf Tryd.f59) := ⟨mixed, tabOk, sums_nil, noL⟩
theorem inf_ev  : fnS infC 60 Tryd.f59 (bodyOf Tryd.f59) [] = some (ptV (true, 0, 0)) := by kernel_rfl
theorem inf_sum : Sum Tryd.prog 59 InfF := by
  refine sum_of infOk Tryd.func59 (by kernel_rfl) (by kernel_rfl) rfl (fuel := 60) fun args v h _ => ?_
  unfold InfF at h
  split at h
  · simp only [Option.some.injEq, Prod.mk.injEq, true_and] at h
    subst h
    exact ⟨by show 0 ≤ Tryd.f59.ntmps; decide +kernel, inf_ev, rfl⟩
  · simp at h

end Go.Proofs.YteenpdjanlcipaaDoor

/-
  The document's own answers, package curve: what the engine says of their texts, second part: sums, multiples.
-/
namespace Go.Proofs.YteenpdjanlcipaaDoor
set_option maxRecDepth 100000
open Go.W
open Go.RowKit (Below)

def kpC : Cfg := ⟨tab, [], 24, []⟩
theorem kpOk : CfgOk Tryd.prog kpC (bodyOf Tryd.f19) := ⟨mixed, tabOk, sums_nil, noL⟩
theorem kp_ev (i i2 : Bool) (X Y X2 Y2 : Nat) : fnS kpC 60 Tryd.f19 (bodyOf Tryd.f19) [ptV (i, X, Y), ptV (i2, X2, Y2)] = kpT i (num X) (num Y) i2 (num X2) (num Y2) := by kernel_rfl
theorem kp_sum : Sum Tryd.prog 19 KpF := by
  refine sum_of kpOk Tryd.func19 (by kernel_rfl) (by kernel_rfl) rfl (fuel := 60) fun args v h _ => ?_
  unfold KpF at h
  split at h
  · simp only [Option.some.injEq, Prod.mk.injEq, Bool.and_eq_true] at h
    obtain ⟨⟨h1, h2⟩, rfl⟩ := h
    obtain ⟨⟨i, X, Y⟩, hp, rfl⟩ := isPt_some h1
    obtain ⟨⟨i2, X2, Y2⟩, hq, rfl⟩ := isPt_some h2
    rw [unPt_ptV hp, unPt_ptV hq]
    exact ⟨by show 2 ≤ Tryd.f19.ntmps; decide +kernel, (kp_ev i i2 X Y X2 Y2).trans (kpT_eq hp hq), rfl⟩
  · simp at h

end Go.Proofs.YteenpdjanlcipaaDoor

/-
  The laws of package curve that ask for no bytes: what the engine says of their texts, given the contracts of its functions.
-/
namespace Go.Proofs.YteenpdjanlcipaaDoor
set_option maxRecDepth 100000
open Go.W
open Go.RowKit (Below)


end Go.Proofs.YteenpdjanlcipaaDoor

/-
  Package curve as it landed: contracts, first part.
-/
namespace Go.Proofs.YteenpdjanlcipaaDoor
set_option maxRecDepth 100000
open Go.W
open Go.RowKit (Below)

noncomputable def caddC : Cfg := ⟨tab, [(98, FAddF)], 8, []⟩
theorem caddOk : CfgOk Tryd.prog caddC (bodyOf Tryd.f77) := ⟨mixed, tabOk, (sums_cons FAdd_sum sums_nil), noL⟩
theorem cadd_ev (A : Nat) (B : Nat) : fnS caddC 60 Tryd.f77 (bodyOf Tryd.f77) [(num A), (num B)] = r2 (num A) (num B) (some (av (num A) (num B))) := by kernel_rfl
theorem cadd_sum : Sum Tryd.prog 77 AvF := by
  refine sum_of caddOk Tryd.func77 (by kernel_rfl) (by kernel_rfl) rfl (fuel := 60) fun args v h _ => ?_
  unfold AvF at h
  split at h
  · simp only [Option.some.injEq, Prod.mk.injEq, Bool.and_eq_true] at h
    obtain ⟨⟨h0, h1⟩, rfl⟩ := h
    obtain ⟨A, hA, rfl⟩ := isNum_some h0
    obtain ⟨B, hB, rfl⟩ := isNum_some h1
    exact ⟨by show 2 ≤ Tryd.f77.ntmps; decide +kernel, (cadd_ev A B).trans (by rw [r2_num]), rfl⟩
  · simp at h

noncomputable def csubC : Cfg := ⟨tab, [(76, FSubF)], 8, []⟩
theorem csubOk : CfgOk Tryd.prog csubC (bodyOf Tryd.f78) := ⟨mixed, tabOk, (sums_cons FSub_sum sums_nil), noL⟩
theorem csub_ev (A : Nat) (B : Nat) : fnS csubC 60 Tryd.f78 (bodyOf Tryd.f78) [(num A), (num B)] = r2 (num A) (num B) (some (sv (num A) (num B))) := by kernel_rfl
theorem csub_sum : Sum Tryd.prog 78 SvF := by
  refine sum_of csubOk Tryd.func78 (by kernel_rfl) (by kernel_rfl) rfl (fuel := 60) fun args v h _ => ?_
  unfold SvF at h
  split at h
  · simp only [Option.some.injEq, Prod.mk.injEq, Bool.and_eq_true] at h
    obtain ⟨⟨h0, h1⟩, rfl⟩ := h
    obtain ⟨A, hA, rfl⟩ := isNum_some h0
    obtain ⟨B, hB, rfl⟩ := isNum_some h1
    exact ⟨by show 2 ≤ Tryd.f78.ntmps; decide +kernel, (csub_ev A B).trans (by rw [r2_num]), rfl⟩
  · simp at h

noncomputable def cmulC : Cfg := ⟨tab, [(74, FMulF)], 8, []⟩
theorem cmulOk : CfgOk Tryd.prog cmulC (bodyOf Tryd.f66) := ⟨mixed, tabOk, (sums_cons FMul_sum sums_nil), noL⟩
theorem cmul_ev (A : Nat) (B : Nat) : fnS cmulC 60 Tryd.f66 (bodyOf Tryd.f66) [(num A), (num B)] = r2 (num A) (num B) (some (mv (num A) (num B))) := by kernel_rfl
theorem cmul_sum : Sum Tryd.prog 66 MvF := by
  refine sum_of cmulOk Tryd.func66 (by kernel_rfl) (by kernel_rfl) rfl (fuel := 60) fun args v h _ => ?_
  unfold MvF at h
  split at h
  · simp only [Option.some.injEq, Prod.mk.injEq, Bool.and_eq_true] at h
    obtain ⟨⟨h0, h1⟩, rfl⟩ := h
    obtain ⟨A, hA, rfl⟩ := isNum_some h0
    obtain ⟨B, hB, rfl⟩ := isNum_some h1
    exact ⟨by show 2 ≤ Tryd.f66.ntmps; decide +kernel, (cmul_ev A B).trans (by rw [r2_num]), rfl⟩
  · simp at h

noncomputable def ctrnC : Cfg := ⟨tab, [(78, SvF)], 6, []⟩
theorem ctrnOk : CfgOk Tryd.prog ctrnC (bodyOf Tryd.f51) := ⟨mixed, tabOk, (sums_cons csub_sum sums_nil), noL⟩
theorem ctrn_ev (A : Nat) : fnS ctrnC 60 Tryd.f51 (bodyOf Tryd.f51) [(num A)] = r2 (num 0) (num A) (some (sv (num 0) (num A))) := by kernel_rfl
theorem ctrn_sum : Sum Tryd.prog 51 TrnF := by
  refine sum_of ctrnOk Tryd.func51 (by kernel_rfl) (by kernel_rfl) rfl (fuel := 60) fun args v h _ => ?_
  unfold TrnF at h
  split at h
  · simp only [Option.some.injEq, Prod.mk.injEq] at h
    obtain ⟨h0, rfl⟩ := h
    obtain ⟨A, hA, rfl⟩ := isNum_some h0
    exact ⟨by show 1 ≤ Tryd.f51.ntmps; decide +kernel, (ctrn_ev A).trans (by rw [r2_num]), rfl⟩
  · simp at h

noncomputable def clowC : Cfg := ⟨tab, [(52, CmpF), (16, PrimeF)], 7, []⟩
theorem clowOk : CfgOk Tryd.prog clowC (bodyOf Tryd.f65) := ⟨mixed, tabOk, (sums_cons Cmp_sum (sums_cons Prime_sum sums_nil)), noL⟩
theorem clow_ev (A : Nat) : fnS clowC 60 Tryd.f65 (bodyOf Tryd.f65) [(num A)] = lowPT (num A) := by kernel_rfl
theorem clow_sum : Sum Tryd.prog 65 LowPF := by
  refine sum_of clowOk Tryd.func65 (by kernel_rfl) (by kernel_rfl) rfl (fuel := 60) fun args v h _ => ?_
  unfold LowPF at h
  split at h
  · simp only [Option.some.injEq, Prod.mk.injEq] at h
    obtain ⟨h0, rfl⟩ := h
    obtain ⟨A, hA, rfl⟩ := isNum_some h0
    rw [unnum_lt hA]
    exact ⟨by show 1 ≤ Tryd.f65.ntmps; decide +kernel, (clow_ev A).trans (lowPT_eq hA), rfl⟩
  · simp at h

noncomputable def csqC : Cfg := ⟨tab, [(66, MvF), (77, AvF)], 10, []⟩
theorem csqOk : CfgOk Tryd.prog csqC (bodyOf Tryd.f50) := ⟨mixed, tabOk, (sums_cons cmul_sum (sums_cons cadd_sum sums_nil)), noL⟩
theorem csq_ev (A : Nat) : fnS csqC 60 Tryd.f50 (bodyOf Tryd.f50) [(num A)] = sqT (num A) := by kernel_rfl
theorem csq_sum : Sum Tryd.prog 50 SqAF := by
  refine sum_of csqOk Tryd.func50 (by kernel_rfl) (by kernel_rfl) rfl (fuel := 60) fun args v h _ => ?_
  unfold SqAF at h
  split at h
  · simp only [Option.some.injEq, Prod.mk.injEq] at h
    obtain ⟨h0, rfl⟩ := h
    obtain ⟨A, hA, rfl⟩ := isNum_some h0
    rw [unnum_lt hA]
    exact ⟨by show 1 ≤ Tryd.f50.ntmps; decide +kernel, (csq_ev A).trans (sqT_eq hA), rfl⟩
  · simp at h

noncomputable def cisC : Cfg := ⟨tab, [(66, MvF), (65, LowPF), (50, SqAF)], 27, []⟩
theorem cisOk : CfgOk Tryd.prog cisC (bodyOf Tryd.f42) := ⟨mixed, tabOk, (sums_cons cmul_sum (sums_cons clow_sum (sums_cons csq_sum sums_nil))), noL⟩
theorem cis_ev (ip : Bool) (Xp Yp : Nat) : fnS cisC 60 Tryd.f42 (bodyOf Tryd.f42) [(ptV (ip, Xp, Yp))] = isPT ip (num Xp) (num Yp) := by kernel_rfl
theorem cis_sum : Sum Tryd.prog 42 CkF := by
  refine sum_of cisOk Tryd.func42 (by kernel_rfl) (by kernel_rfl) rfl (fuel := 60) fun args v h _ => ?_
  unfold CkF at h
  split at h
  · simp only [Option.some.injEq, Prod.mk.injEq] at h
    obtain ⟨h0, rfl⟩ := h
    obtain ⟨⟨ip, Xp, Yp⟩, ⟨hXp, hYp⟩, rfl⟩ := isPt_some h0
    rw [unPt_ptV (r := (ip, Xp, Yp)) ⟨hXp, hYp⟩]
    exact ⟨by show 1 ≤ Tryd.f42.ntmps; decide +kernel, (cis_ev ip Xp Yp).trans (isPT_eq hXp hYp), rfl⟩
  · simp at h

noncomputable def cchkC : Cfg := ⟨tab, [(42, CkF)], 5, []⟩
theorem cchkOk : CfgOk Tryd.prog cchkC (bodyOf Tryd.f20) := ⟨mixed, tabOk, (sums_cons cis_sum sums_nil), noL⟩
theorem cchk_ev (p : RP) : fnS cchkC 60 Tryd.f20 (bodyOf Tryd.f20) [(ptV p)] = chkT (ptV p) := by kernel_rfl
theorem cchk_sum : Sum Tryd.prog 20 CChkF := by
  refine sum_of cchkOk Tryd.func20 (by kernel_rfl) (by kernel_rfl) rfl (fuel := 60) fun args v h _ => ?_
  unfold CChkF at h
  split at h
  · simp only [Option.some.injEq, Prod.mk.injEq] at h
    obtain ⟨h0, rfl⟩ := h
    obtain ⟨p, hp, rfl⟩ := isPt_some h0
    rw [unPt_ptV hp]
    exact ⟨by show 1 ≤ Tryd.f20.ntmps; decide +kernel, (cchk_ev p).trans (chkT_eq hp), rfl⟩
  · simp at h

end Go.Proofs.YteenpdjanlcipaaDoor

/-
  Package curve as it landed: contracts, second part; its laws without bytes.
-/
namespace Go.Proofs.YteenpdjanlcipaaDoor
set_option maxRecDepth 100000
open Go.W
open Go.RowKit (Below)

end Go.Proofs.YteenpdjanlcipaaDoor

/-
  Bytes, held against one another; twins.
-/
namespace Go.Proofs.YteenpdjanlcipaaDoor
set_option maxRecDepth 100000
open Go.W
open Go.RowKit (Below)

def kbNt : List Nat := [0, 1, 4, 5]
def kbNi : List Nat := [1500000, 1500001]
def kbSt (n : Nat) (f : Nat → List Value) (m : Nat) (g : Nat → List Value) (e0 e1 : Nat) (i : Int) : St :=
  ⟨[(0, aSl 0 n), (1, aSl 1 m), (4, .bool false), (5, i64 i)], [(1500000, ⟨.row kB n f, e0, false⟩), (1500001, ⟨.row kB m g, e1, false⟩)], 20⟩
def kbC0 : Cfg := ⟨tab, [], 26, []⟩
theorem kbOk0 : CfgOk Tryd.prog kbC0 (bodyOf Tryd.f22) := ⟨mixed, tabOk, sums_nil, noL⟩
theorem kb_at : codeAt [1, 1, 0, 1, 0] (bodyOf Tryd.f22) = some (.loop (loopAt [1, 1, 0, 1, 0] (bodyOf Tryd.f22))) := by kernel_rfl
theorem kb_r (n : Nat) (f : Nat → List Value) (m : Nat) (g : Nat → List Value) (e0 e1 : Nat) (i : Int) : roundS kbC0 60 [1, 1, 0, 1, 0, 0] (loopAt [1, 1, 0, 1, 0] (bodyOf Tryd.f22)) kbNt kbNi 20 kbNt kbNi 20 (kbSt n f m g e0 e1 i) =
    kbR n f m g i (some (.normal, kbSt n f m g e0 e1 (IntKind.i64.wrap (i + 1)))) (some (.ret, kbSt n f m g e0 e1 i)) (some (.exit 0, kbSt n f m g e0 e1 i)) := by kernel_rfl
noncomputable def kbC (n : Nat) (f : Nat → List Value) (m : Nat) (g : Nat → List Value) (e0 e1 : Nat) (e : Exit) (i : Int) : Cfg := ⟨tab, [], 26, [([1, 1, 0, 1, 0], atSt kbNt kbNi 20 (kbSt n f m g e0 e1 0) e (kbSt n f m g e0 e1 i))]⟩
theorem kb_ev0 (n : Nat) (f : Nat → List Value) (m : Nat) (g : Nat → List Value) (es : Nat → Nat) (i : Int) (id : Nat) : fnMS (kbC n f m g (es 0) (es 1) (.exit 0) i) 60 Tryd.f22 (bodyOf Tryd.f22) (cArgs [.sl kB n f, .sl kB m g] 0) (cMem es [.sl kB n f, .sl kB m g] 0) 0 id =
    bif ((n : Nat) : Int) != ((m : Nat) : Int) then some (.bool false, []) else req (stEq (kbSt n f m g (es 0) (es 1) 0) (kbSt n f m g (es 0) (es 1) 0)) (some (.bool true, [])) := by kernel_rfl
theorem kb_ev1 (n : Nat) (f : Nat → List Value) (m : Nat) (g : Nat → List Value) (es : Nat → Nat) (i : Int) (id : Nat) : fnMS (kbC n f m g (es 0) (es 1) .ret i) 60 Tryd.f22 (bodyOf Tryd.f22) (cArgs [.sl kB n f, .sl kB m g] 0) (cMem es [.sl kB n f, .sl kB m g] 0) 0 id =
    bif ((n : Nat) : Int) != ((m : Nat) : Int) then some (.bool false, []) else req (stEq (kbSt n f m g (es 0) (es 1) 0) (kbSt n f m g (es 0) (es 1) 0)) (some (.bool false, [])) := by kernel_rfl

theorem kb_ev2 (n : Nat) (f : Nat → List Value) (m : Nat) (g : Nat → List Value) (es : Nat → Nat) (id : Nat) : fnMS ⟨tab, [], 26, [([1, 1, 0, 1, 0], fun _ => [])]⟩ 60 Tryd.f22 (bodyOf Tryd.f22) (cArgs [.sl kB n f, .sl kB m g] 0) (cMem es [.sl kB n f, .sl kB m g] 0) 0 id =
    bif ((n : Nat) : Int) != ((m : Nat) : Int) then some (.bool false, []) else none := by kernel_rfl
theorem kb_msum : MSum Tryd.prog 22 KbF := by
  intro w0 R fm w hm vs args' hl mm hsub id hlt v l hpick hnew
  match vs, hl, hpick with
  | [a, b], hl, hpick =>
    obtain ⟨hc, rfl, rfl⟩ := pick_one hpick
    simp only [Bool.and_eq_true] at hc
    obtain ⟨⟨ha, hb⟩, hn⟩ := hc
    generalize hqa : srcB mm kB a = qa at ha hn ⊢
    generalize hqb : srcB mm kB b = qb at hb ⊢
    obtain ⟨ok1, n, f⟩ := qa
    obtain ⟨ok2, m, g⟩ := qb
    simp only at ha hb hn ⊢
    subst ha hb
    have hn := Nat.le_of_ble_eq_true hn
    have hA : AOk mm [a, b] [.sl kB n f, .sl kB m g] := ⟨hqa, hqb, trivial⟩
    refine msum_at (c := bodyOf Tryd.f22) (fuel := 60) (next := 0) Tryd.func22 (by kernel_rfl) (by kernel_rfl) hm hl hsub hlt hA (by show 2 ≤ Tryd.f22.ntmps; decide +kernel) (.inl rfl) hnew (fun es => ?_)
    have rounds : ∀ (k : Nat) (e : Exit) (i : Int), n = m → k ≤ n → (∀ j, j < k → bI f j = bI g j) → e ≠ .normal → kbR n f m g (k : Int) (some (.normal, kbSt n f m g (es 0) (es 1) (IntKind.i64.wrap ((k : Int) + 1)))) (some (.ret, kbSt n f m g (es 0) (es 1) (k : Int))) (some (.exit 0, kbSt n f m g (es 0) (es 1) (k : Int))) = some (e, kbSt n f m g (es 0) (es 1) i) →
        LoopOk Tryd.prog 26 (loopAt [1, 1, 0, 1, 0] (bodyOf Tryd.f22)) (atSt kbNt kbNi 20 (kbSt n f m g (es 0) (es 1) 0) e (kbSt n f m g (es 0) (es 1) i)) := by
      intro k e i hnm hk hj he hlast
      subst hnm
      refine atSt_ok fun w0 R a W hrel => ?_
      refine loop_rounds (R := R) (C := kbC0) kbOk0 kb_at (m := 60) (nt := kbNt) (ni := kbNi) (et := kbNt) (ei := kbNi) (nx := 20) (ex := 20) (e := e) (sf := kbSt n f n g (es 0) (es 1) i)
        (fun j => kbSt n f n g (es 0) (es 1) (j : Int)) k he ?_ ?_ hrel
      · intro j hjk
        refine (kb_r _ _ _ _ _ _ _).trans ?_
        rw [kbR_eq (by omega), if_pos (hj j hjk), wrap_i64 (by omega)]; rfl
      · exact (kb_r _ _ _ _ _ _ _).trans hlast
    by_cases hnm : n = m
    · subst hnm
      have hne : ((((n : Nat) : Int) != ((n : Nat) : Int)) : Bool) = false := bne_self_eq_false _
      by_cases hall : ∀ j, j < n → bI f j = bI g j
      · refine ⟨kbC n f n g (es 0) (es 1) (.exit 0) (n : Int), ⟨mixed, tabOk, sums_nil, oneL (rounds n (.exit 0) (n : Int) rfl (Nat.le_refl _) hall (by intro h; cases h) (kbR_out _ _ _))⟩, rfl, ?_⟩
        refine (kb_ev0 n f n g es _ id).trans ?_
        rw [hne, cond_false, req_true (stEq_refl rfl), eqR_iff.2 ⟨rfl, hall⟩]
      · obtain ⟨k, h1, h2, h3⟩ := first_diff hall
        refine ⟨kbC n f n g (es 0) (es 1) .ret (k : Int), ⟨mixed, tabOk, sums_nil, oneL (rounds k .ret (k : Int) rfl (by omega) h3 (by intro h; cases h) (by rw [kbR_eq h1, if_neg h2]))⟩, rfl, ?_⟩
        refine (kb_ev1 n f n g es _ id).trans ?_
        have : eqR n f n g = false := by rw [Bool.eq_false_iff, ne_eq, eqR_iff]; exact fun h => hall h.2
        rw [hne, cond_false, req_true (stEq_refl rfl), this]
    · refine ⟨⟨tab, [], 26, [([1, 1, 0, 1, 0], fun _ => [])]⟩, ⟨mixed, tabOk, sums_nil, noneL2⟩, rfl, ?_⟩
      refine (kb_ev2 n f m g es id).trans ?_
      have : eqR n f m g = false := by rw [Bool.eq_false_iff, ne_eq, eqR_iff]; exact fun h => hnm h.1
      rw [show ((((n : Nat) : Int) != ((m : Nat) : Int)) : Bool) = true from by rw [bne_iff_ne]; omega, cond_true, this]
  | [], _, h => simp [KbF, pickM] at h
  | [_], _, h => simp [KbF, pickM] at h
  | _ :: _ :: _ :: _, _, h => simp [KbF, pickM] at h

def twnC : Cfg := ⟨tab, [], 7, []⟩
theorem twnOk : CfgOk Tryd.prog twnC (bodyOf Tryd.f27) := ⟨mixed, tabOk, sums_nil, noL⟩
theorem twn_ev (n : Nat) (f : Nat → List Value) (es : Nat → Nat) (id : Nat) : fnMS twnC 60 Tryd.f27 (bodyOf Tryd.f27) (cArgs [.sl kB n f] 0) (cMem es [.sl kB n f] 0) 0 id =
    req (Nat.ble n n && true) (req (szOk n 1) (req (Nat.ble n n) (some (.slice (some ⟨nid id 0, 0, none⟩) n n, [(nid id 0, ⟨.row kB n (twF f), 5, true⟩)])))) := by kernel_rfl
theorem twn_msum : MSum Tryd.prog 27 (TwnF 5) := by
  refine msum_of (fuel := 60) (next := 0) twnOk Tryd.func27 (by kernel_rfl) (by kernel_rfl) rfl fun vs mm id v l hpick hlt => ?_
  match vs, hpick with
  | [a], hpick =>
    obtain ⟨hc, rfl, rfl⟩ := pick_one hpick
    simp only [Bool.and_eq_true] at hc
    obtain ⟨ha, hs⟩ := hc
    generalize hqa : srcB mm kB a = qa at ha hs ⊢
    obtain ⟨ok1, n, f⟩ := qa
    simp only at ha hs ⊢
    subst ha
    refine ⟨[.sl kB n f], ⟨hqa, trivial⟩, by show 1 ≤ Tryd.f27.ntmps; decide +kernel, .inr ⟨_, rfl⟩, fun es => ?_⟩
    have hnn : Nat.ble n n = true := by rw [Nat.ble_eq]; exact Nat.le_refl _
    exact (twn_ev n f es id).trans (by rw [hnn, hs]; rfl)
  | [], h => simp [TwnF, pickM] at h
  | _ :: _ :: _, h => simp [TwnF, pickM] at h

end Go.Proofs.YteenpdjanlcipaaDoor

/-
  The bytes of points.
-/
namespace Go.Proofs.YteenpdjanlcipaaDoor
set_option maxRecDepth 100000
open Go.W
open Go.RowKit (Below)

def crdC : Cfg := ⟨tab, [(48, ReadF), (50, SqAF), (49, RootF), (51, TrnF)], 64, []⟩
theorem crdOk : CfgOk Tryd.prog crdC (bodyOf Tryd.f26) := ⟨mixed, tabOk, (sums_cons Read_sum (sums_cons csq_sum (sums_cons Root_sum (sums_cons ctrn_sum sums_nil)))), noL⟩
theorem crd_33 (f : Nat → List Value) (es : Nat → Nat) (id : Nat) : fnMS crdC 60 Tryd.f26 (bodyOf Tryd.f26) (cArgs [.sl kB 33 f] 0) (cMem es [.sl kB 33 f] 0) 0 id = rd33 (bI f 0) (rdK (b32V f) (bI f 0)) := by kernel_rfl
theorem crd_1 (f : Nat → List Value) (es : Nat → Nat) (id : Nat) : fnMS crdC 60 Tryd.f26 (bodyOf Tryd.f26) (cArgs [.sl kB 1 f] 0) (cMem es [.sl kB 1 f] 0) 0 id = rd1 (bI f 0) := by kernel_rfl
theorem crd_more (k : Nat) (f : Nat → List Value) (es : Nat → Nat) (id : Nat) : fnMS crdC 60 Tryd.f26 (bodyOf Tryd.f26) (cArgs [.sl kB (k + 34) f] 0) (cMem es [.sl kB (k + 34) f] 0) 0 id = eT 7 := by kernel_rfl
theorem crd_less (f : Nat → List Value) (es : Nat → Nat) (id : Nat) : ∀ n, n < 33 → n ≠ 1 → fnMS crdC 60 Tryd.f26 (bodyOf Tryd.f26) (cArgs [.sl kB n f] 0) (cMem es [.sl kB n f] 0) 0 id = eT 7
  | 0, _, _ => by kernel_rfl
  | 1, _, h => absurd rfl h
  | 2, _, _ => by kernel_rfl
  | 3, _, _ => by kernel_rfl
  | 4, _, _ => by kernel_rfl
  | 5, _, _ => by kernel_rfl
  | 6, _, _ => by kernel_rfl
  | 7, _, _ => by kernel_rfl
  | 8, _, _ => by kernel_rfl
  | 9, _, _ => by kernel_rfl
  | 10, _, _ => by kernel_rfl
  | 11, _, _ => by kernel_rfl
  | 12, _, _ => by kernel_rfl
  | 13, _, _ => by kernel_rfl
  | 14, _, _ => by kernel_rfl
  | 15, _, _ => by kernel_rfl
  | 16, _, _ => by kernel_rfl
  | 17, _, _ => by kernel_rfl
  | 18, _, _ => by kernel_rfl
  | 19, _, _ => by kernel_rfl
  | 20, _, _ => by kernel_rfl
  | 21, _, _ => by kernel_rfl
  | 22, _, _ => by kernel_rfl
  | 23, _, _ => by kernel_rfl
  | 24, _, _ => by kernel_rfl
  | 25, _, _ => by kernel_rfl
  | 26, _, _ => by kernel_rfl
  | 27, _, _ => by kernel_rfl
  | 28, _, _ => by kernel_rfl
  | 29, _, _ => by kernel_rfl
  | 30, _, _ => by kernel_rfl
  | 31, _, _ => by kernel_rfl
  | 32, _, _ => by kernel_rfl
  | n + 33, h, _ => absurd h (by omega)
theorem crd_msum : MSum Tryd.prog 26 RdF := by
  refine msum_of (fuel := 60) (next := 0) crdOk Tryd.func26 (by kernel_rfl) (by kernel_rfl) rfl fun vs mm id v l hpick hlt => ?_
  match vs, hpick with
  | [a], hpick =>
    obtain ⟨hc, rfl, rfl⟩ := pick_one hpick
    simp only [Bool.and_eq_true] at hc
    obtain ⟨ha, hs⟩ := hc
    generalize hqa : srcB mm kB a = qa at ha hs ⊢
    obtain ⟨ok1, n, f⟩ := qa
    simp only at ha hs ⊢
    subst ha
    refine ⟨[.sl kB n f], ⟨hqa, trivial⟩, by show 1 ≤ Tryd.f26.ntmps; decide +kernel, .inl trivial, fun es => ?_⟩
    exact rd_all (fun n => fnMS crdC 60 Tryd.f26 (bodyOf Tryd.f26) (cArgs [.sl kB n f] 0) (cMem es [.sl kB n f] 0) 0 id) hs (crd_1 f es id) (crd_33 f es id) (fun h => rdK_eq h) (crd_less f es id) (fun k => crd_more k f es id)
  | [], h => simp [RdF, pickM] at h
  | _ :: _ :: _, h => simp [RdF, pickM] at h

def rrdC : Cfg := ⟨tab, [(59, InfF), (37, OfF), (15, CmpF), (60, PrimeF), (61, RootF), (62, AvF), (63, MvF), (64, SvF)], 69, []⟩
theorem rrdOk : CfgOk Tryd.prog rrdC (bodyOf Tryd.f41) := ⟨mixed, tabOk, (sums_cons inf_sum (sums_cons OfR_sum (sums_cons CmpR_sum (sums_cons PrimeR_sum (sums_cons RootR_sum (sums_cons add_sum (sums_cons mul_sum (sums_cons sub_sum sums_nil)))))))), noL⟩
theorem rrd_33 (f : Nat → List Value) (es : Nat → Nat) (id : Nat) : fnMS rrdC 60 Tryd.f41 (bodyOf Tryd.f41) (cArgs [.sl kB 33 f] 0) (cMem es [.sl kB 33 f] 0) 0 id = rd33 (bI f 0) (rrK (b32V f) (bI f 0)) := by kernel_rfl
theorem rrd_1 (f : Nat → List Value) (es : Nat → Nat) (id : Nat) : fnMS rrdC 60 Tryd.f41 (bodyOf Tryd.f41) (cArgs [.sl kB 1 f] 0) (cMem es [.sl kB 1 f] 0) 0 id = rd1 (bI f 0) := by kernel_rfl
theorem rrd_more (k : Nat) (f : Nat → List Value) (es : Nat → Nat) (id : Nat) : fnMS rrdC 60 Tryd.f41 (bodyOf Tryd.f41) (cArgs [.sl kB (k + 34) f] 0) (cMem es [.sl kB (k + 34) f] 0) 0 id = eT 7 := by kernel_rfl
theorem rrd_less (f : Nat → List Value) (es : Nat → Nat) (id : Nat) : ∀ n, n < 33 → n ≠ 1 → fnMS rrdC 60 Tryd.f41 (bodyOf Tryd.f41) (cArgs [.sl kB n f] 0) (cMem es [.sl kB n f] 0) 0 id = eT 7
  | 0, _, _ => by kernel_rfl
  | 1, _, h => absurd rfl h
  | 2, _, _ => by kernel_rfl
  | 3, _, _ => by kernel_rfl
  | 4, _, _ => by kernel_rfl
  | 5, _, _ => by kernel_rfl
  | 6, _, _ => by kernel_rfl
  | 7, _, _ => by kernel_rfl
  | 8, _, _ => by kernel_rfl
  | 9, _, _ => by kernel_rfl
  | 10, _, _ => by kernel_rfl
  | 11, _, _ => by kernel_rfl
  | 12, _, _ => by kernel_rfl
  | 13, _, _ => by kernel_rfl
  | 14, _, _ => by kernel_rfl
  | 15, _, _ => by kernel_rfl
  | 16, _, _ => by kernel_rfl
  | 17, _, _ => by kernel_rfl
  | 18, _, _ => by kernel_rfl
  | 19, _, _ => by kernel_rfl
  | 20, _, _ => by kernel_rfl
  | 21, _, _ => by kernel_rfl
  | 22, _, _ => by kernel_rfl
  | 23, _, _ => by kernel_rfl
  | 24, _, _ => by kernel_rfl
  | 25, _, _ => by kernel_rfl
  | 26, _, _ => by kernel_rfl
  | 27, _, _ => by kernel_rfl
  | 28, _, _ => by kernel_rfl
  | 29, _, _ => by kernel_rfl
  | 30, _, _ => by kernel_rfl
  | 31, _, _ => by kernel_rfl
  | 32, _, _ => by kernel_rfl
  | n + 33, h, _ => absurd h (by omega)
theorem rrd_msum : MSum Tryd.prog 41 RdF := by
  refine msum_of (fuel := 60) (next := 0) rrdOk Tryd.func41 (by kernel_rfl) (by kernel_rfl) rfl fun vs mm id v l hpick hlt => ?_
  match vs, hpick with
  | [a], hpick =>
    obtain ⟨hc, rfl, rfl⟩ := pick_one hpick
    simp only [Bool.and_eq_true] at hc
    obtain ⟨ha, hs⟩ := hc
    generalize hqa : srcB mm kB a = qa at ha hs ⊢
    obtain ⟨ok1, n, f⟩ := qa
    simp only at ha hs ⊢
    subst ha
    refine ⟨[.sl kB n f], ⟨hqa, trivial⟩, by show 1 ≤ Tryd.f41.ntmps; decide +kernel, .inl trivial, fun es => ?_⟩
    exact rd_all (fun n => fnMS rrdC 60 Tryd.f41 (bodyOf Tryd.f41) (cArgs [.sl kB n f] 0) (cMem es [.sl kB n f] 0) 0 id) hs (rrd_1 f es id) (rrd_33 f es id) (fun h => rrK_eq h) (rrd_less f es id) (fun k => rrd_more k f es id)
  | [], h => simp [RdF, pickM] at h
  | _ :: _ :: _, h => simp [RdF, pickM] at h

end Go.Proofs.YteenpdjanlcipaaDoor
