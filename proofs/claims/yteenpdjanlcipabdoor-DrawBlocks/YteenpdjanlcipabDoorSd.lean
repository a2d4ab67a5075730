/-
  Several texts in one.
-/
import Derived.Test.YteenpdjanlcipabDoorSb
import Derived.Test.YteenpdjanlcipabDoorEd
import Derived.Test.YteenpdjanlcipabDoorSc
import Derived.Test.YteenpdjanlcipabDoorSa
/-
  The document's own answers, package curve: what the engine says of their texts, first part.
-/
namespace Go.Proofs.YteenpdjanlcipabDoor
set_option maxRecDepth 100000
open Go.W
open Go.RowKit (Below)

end Go.Proofs.YteenpdjanlcipabDoor

/-
  The document's own answers, package curve: what the engine says of their texts, second part: sums, multiples.
-/
namespace Go.Proofs.YteenpdjanlcipabDoor
set_option maxRecDepth 100000
open Go.W
open Go.RowKit (Below)

end Go.Proofs.YteenpdjanlcipabDoor

/-
  The laws of package curve that ask for no bytes: what the engine says of their texts, given the contracts of its functions.
-/
namespace Go.Proofs.YteenpdjanlcipabDoor
set_option maxRecDepth 100000
open Go.W
open Go.RowKit (Below)


end Go.Proofs.YteenpdjanlcipabDoor

/-
  Package curve as it landed: contracts, first part.
-/
namespace Go.Proofs.YteenpdjanlcipabDoor
set_option maxRecDepth 100000
open Go.W
open Go.RowKit (Below)

noncomputable def caddC : Cfg := ⟨tab, [(54, FAddF)], 8, []⟩
theorem caddOk : CfgOk Tryd.prog caddC (bodyOf Tryd.f42) := ⟨mixed, tabOk, (sums_cons FAdd_sum sums_nil), noL⟩
theorem cadd_ev (A : Nat) (B : Nat) : fnS caddC 60 Tryd.f42 (bodyOf Tryd.f42) [(num A), (num B)] = r2 (num A) (num B) (some (av (num A) (num B))) := by kernel_rfl
theorem cadd_sum : Sum Tryd.prog 42 AvF := by
  refine sum_of caddOk Tryd.func42 (by kernel_rfl) (by kernel_rfl) rfl (fuel := 60) fun args v h _ => ?_
  unfold AvF at h
  split at h
  · simp only [Option.some.injEq, Prod.mk.injEq, Bool.and_eq_true] at h
    obtain ⟨⟨h0, h1⟩, rfl⟩ := h
    obtain ⟨A, hA, rfl⟩ := isNum_some h0
    obtain ⟨B, hB, rfl⟩ := isNum_some h1
    exact ⟨by show 2 ≤ Tryd.f42.ntmps; decide +kernel, (cadd_ev A B).trans (by rw [r2_num]), rfl⟩
  · simp at h

noncomputable def csubC : Cfg := ⟨tab, [(46, FSubF)], 8, []⟩
theorem csubOk : CfgOk Tryd.prog csubC (bodyOf Tryd.f47) := ⟨mixed, tabOk, (sums_cons FSub_sum sums_nil), noL⟩
theorem csub_ev (A : Nat) (B : Nat) : fnS csubC 60 Tryd.f47 (bodyOf Tryd.f47) [(num A), (num B)] = r2 (num A) (num B) (some (sv (num A) (num B))) := by kernel_rfl
theorem csub_sum : Sum Tryd.prog 47 SvF := by
  refine sum_of csubOk Tryd.func47 (by kernel_rfl) (by kernel_rfl) rfl (fuel := 60) fun args v h _ => ?_
  unfold SvF at h
  split at h
  · simp only [Option.some.injEq, Prod.mk.injEq, Bool.and_eq_true] at h
    obtain ⟨⟨h0, h1⟩, rfl⟩ := h
    obtain ⟨A, hA, rfl⟩ := isNum_some h0
    obtain ⟨B, hB, rfl⟩ := isNum_some h1
    exact ⟨by show 2 ≤ Tryd.f47.ntmps; decide +kernel, (csub_ev A B).trans (by rw [r2_num]), rfl⟩
  · simp at h

noncomputable def cmulC : Cfg := ⟨tab, [(41, FMulF)], 8, []⟩
theorem cmulOk : CfgOk Tryd.prog cmulC (bodyOf Tryd.f33) := ⟨mixed, tabOk, (sums_cons FMul_sum sums_nil), noL⟩
theorem cmul_ev (A : Nat) (B : Nat) : fnS cmulC 60 Tryd.f33 (bodyOf Tryd.f33) [(num A), (num B)] = r2 (num A) (num B) (some (mv (num A) (num B))) := by kernel_rfl
theorem cmul_sum : Sum Tryd.prog 33 MvF := by
  refine sum_of cmulOk Tryd.func33 (by kernel_rfl) (by kernel_rfl) rfl (fuel := 60) fun args v h _ => ?_
  unfold MvF at h
  split at h
  · simp only [Option.some.injEq, Prod.mk.injEq, Bool.and_eq_true] at h
    obtain ⟨⟨h0, h1⟩, rfl⟩ := h
    obtain ⟨A, hA, rfl⟩ := isNum_some h0
    obtain ⟨B, hB, rfl⟩ := isNum_some h1
    exact ⟨by show 2 ≤ Tryd.f33.ntmps; decide +kernel, (cmul_ev A B).trans (by rw [r2_num]), rfl⟩
  · simp at h

noncomputable def ctrnC : Cfg := ⟨tab, [(47, SvF)], 6, []⟩
theorem ctrnOk : CfgOk Tryd.prog ctrnC (bodyOf Tryd.f38) := ⟨mixed, tabOk, (sums_cons csub_sum sums_nil), noL⟩
theorem ctrn_ev (A : Nat) : fnS ctrnC 60 Tryd.f38 (bodyOf Tryd.f38) [(num A)] = r2 (num 0) (num A) (some (sv (num 0) (num A))) := by kernel_rfl
theorem ctrn_sum : Sum Tryd.prog 38 TrnF := by
  refine sum_of ctrnOk Tryd.func38 (by kernel_rfl) (by kernel_rfl) rfl (fuel := 60) fun args v h _ => ?_
  unfold TrnF at h
  split at h
  · simp only [Option.some.injEq, Prod.mk.injEq] at h
    obtain ⟨h0, rfl⟩ := h
    obtain ⟨A, hA, rfl⟩ := isNum_some h0
    exact ⟨by show 1 ≤ Tryd.f38.ntmps; decide +kernel, (ctrn_ev A).trans (by rw [r2_num]), rfl⟩
  · simp at h

noncomputable def clowC : Cfg := ⟨tab, [(30, CmpF), (25, PrimeF)], 7, []⟩
theorem clowOk : CfgOk Tryd.prog clowC (bodyOf Tryd.f32) := ⟨mixed, tabOk, (sums_cons Cmp_sum (sums_cons Prime_sum sums_nil)), noL⟩
theorem clow_ev (A : Nat) : fnS clowC 60 Tryd.f32 (bodyOf Tryd.f32) [(num A)] = lowPT (num A) := by kernel_rfl
theorem clow_sum : Sum Tryd.prog 32 LowPF := by
  refine sum_of clowOk Tryd.func32 (by kernel_rfl) (by kernel_rfl) rfl (fuel := 60) fun args v h _ => ?_
  unfold LowPF at h
  split at h
  · simp only [Option.some.injEq, Prod.mk.injEq] at h
    obtain ⟨h0, rfl⟩ := h
    obtain ⟨A, hA, rfl⟩ := isNum_some h0
    rw [unnum_lt hA]
    exact ⟨by show 1 ≤ Tryd.f32.ntmps; decide +kernel, (clow_ev A).trans (lowPT_eq hA), rfl⟩
  · simp at h

noncomputable def csqC : Cfg := ⟨tab, [(33, MvF), (42, AvF)], 10, []⟩
theorem csqOk : CfgOk Tryd.prog csqC (bodyOf Tryd.f34) := ⟨mixed, tabOk, (sums_cons cmul_sum (sums_cons cadd_sum sums_nil)), noL⟩
theorem csq_ev (A : Nat) : fnS csqC 60 Tryd.f34 (bodyOf Tryd.f34) [(num A)] = sqT (num A) := by kernel_rfl
theorem csq_sum : Sum Tryd.prog 34 SqAF := by
  refine sum_of csqOk Tryd.func34 (by kernel_rfl) (by kernel_rfl) rfl (fuel := 60) fun args v h _ => ?_
  unfold SqAF at h
  split at h
  · simp only [Option.some.injEq, Prod.mk.injEq] at h
    obtain ⟨h0, rfl⟩ := h
    obtain ⟨A, hA, rfl⟩ := isNum_some h0
    rw [unnum_lt hA]
    exact ⟨by show 1 ≤ Tryd.f34.ntmps; decide +kernel, (csq_ev A).trans (sqT_eq hA), rfl⟩
  · simp at h

noncomputable def cisC : Cfg := ⟨tab, [(33, MvF), (32, LowPF), (34, SqAF)], 27, []⟩
theorem cisOk : CfgOk Tryd.prog cisC (bodyOf Tryd.f26) := ⟨mixed, tabOk, (sums_cons cmul_sum (sums_cons clow_sum (sums_cons csq_sum sums_nil))), noL⟩
theorem cis_ev (ip : Bool) (Xp Yp : Nat) : fnS cisC 60 Tryd.f26 (bodyOf Tryd.f26) [(ptV (ip, Xp, Yp))] = isPT ip (num Xp) (num Yp) := by kernel_rfl
theorem cis_sum : Sum Tryd.prog 26 CkF := by
  refine sum_of cisOk Tryd.func26 (by kernel_rfl) (by kernel_rfl) rfl (fuel := 60) fun args v h _ => ?_
  unfold CkF at h
  split at h
  · simp only [Option.some.injEq, Prod.mk.injEq] at h
    obtain ⟨h0, rfl⟩ := h
    obtain ⟨⟨ip, Xp, Yp⟩, ⟨hXp, hYp⟩, rfl⟩ := isPt_some h0
    rw [unPt_ptV (r := (ip, Xp, Yp)) ⟨hXp, hYp⟩]
    exact ⟨by show 1 ≤ Tryd.f26.ntmps; decide +kernel, (cis_ev ip Xp Yp).trans (isPT_eq hXp hYp), rfl⟩
  · simp at h

noncomputable def cchkC : Cfg := ⟨tab, [(26, CkF)], 5, []⟩
theorem cchkOk : CfgOk Tryd.prog cchkC (bodyOf Tryd.f15) := ⟨mixed, tabOk, (sums_cons cis_sum sums_nil), noL⟩
theorem cchk_ev (p : RP) : fnS cchkC 60 Tryd.f15 (bodyOf Tryd.f15) [(ptV p)] = chkT (ptV p) := by kernel_rfl
theorem cchk_sum : Sum Tryd.prog 15 CChkF := by
  refine sum_of cchkOk Tryd.func15 (by kernel_rfl) (by kernel_rfl) rfl (fuel := 60) fun args v h _ => ?_
  unfold CChkF at h
  split at h
  · simp only [Option.some.injEq, Prod.mk.injEq] at h
    obtain ⟨h0, rfl⟩ := h
    obtain ⟨p, hp, rfl⟩ := isPt_some h0
    rw [unPt_ptV hp]
    exact ⟨by show 1 ≤ Tryd.f15.ntmps; decide +kernel, (cchk_ev p).trans (chkT_eq hp), rfl⟩
  · simp at h

end Go.Proofs.YteenpdjanlcipabDoor

/-
  Package curve as it landed: contracts, second part; its laws without bytes.
-/
namespace Go.Proofs.YteenpdjanlcipabDoor
set_option maxRecDepth 100000
open Go.W
open Go.RowKit (Below)

end Go.Proofs.YteenpdjanlcipabDoor

/-
  Bytes, held against one another; twins.
-/
namespace Go.Proofs.YteenpdjanlcipabDoor
set_option maxRecDepth 100000
open Go.W
open Go.RowKit (Below)

def kbNt : List Nat := [0, 1, 4, 5]
def kbNi : List Nat := [1500000, 1500001]
def kbSt (n : Nat) (f : Nat → List Value) (m : Nat) (g : Nat → List Value) (e0 e1 : Nat) (i : Int) : St :=
  ⟨[(0, aSl 0 n), (1, aSl 1 m), (4, .bool false), (5, i64 i)], [(1500000, ⟨.row kB n f, e0, false⟩), (1500001, ⟨.row kB m g, e1, false⟩)], 20⟩
def kbC0 : Cfg := ⟨tab, [], 26, []⟩
theorem kbOk0 : CfgOk Tryd.prog kbC0 (bodyOf Tryd.f6) := ⟨mixed, tabOk, sums_nil, noL⟩
theorem kb_at : codeAt [1, 1, 0, 1, 0] (bodyOf Tryd.f6) = some (.loop (loopAt [1, 1, 0, 1, 0] (bodyOf Tryd.f6))) := by kernel_rfl
theorem kb_r (n : Nat) (f : Nat → List Value) (m : Nat) (g : Nat → List Value) (e0 e1 : Nat) (i : Int) : roundS kbC0 60 [1, 1, 0, 1, 0, 0] (loopAt [1, 1, 0, 1, 0] (bodyOf Tryd.f6)) kbNt kbNi 20 kbNt kbNi 20 (kbSt n f m g e0 e1 i) =
    kbR n f m g i (some (.normal, kbSt n f m g e0 e1 (IntKind.i64.wrap (i + 1)))) (some (.ret, kbSt n f m g e0 e1 i)) (some (.exit 0, kbSt n f m g e0 e1 i)) := by kernel_rfl
noncomputable def kbC (n : Nat) (f : Nat → List Value) (m : Nat) (g : Nat → List Value) (e0 e1 : Nat) (e : Exit) (i : Int) : Cfg := ⟨tab, [], 26, [([1, 1, 0, 1, 0], atSt kbNt kbNi 20 (kbSt n f m g e0 e1 0) e (kbSt n f m g e0 e1 i))]⟩
theorem kb_ev0 (n : Nat) (f : Nat → List Value) (m : Nat) (g : Nat → List Value) (es : Nat → Nat) (i : Int) (id : Nat) : fnMS (kbC n f m g (es 0) (es 1) (.exit 0) i) 60 Tryd.f6 (bodyOf Tryd.f6) (cArgs [.sl kB n f, .sl kB m g] 0) (cMem es [.sl kB n f, .sl kB m g] 0) 0 id =
    bif ((n : Nat) : Int) != ((m : Nat) : Int) then some (.bool false, []) else req (stEq (kbSt n f m g (es 0) (es 1) 0) (kbSt n f m g (es 0) (es 1) 0)) (some (.bool true, [])) := by kernel_rfl
theorem kb_ev1 (n : Nat) (f : Nat → List Value) (m : Nat) (g : Nat → List Value) (es : Nat → Nat) (i : Int) (id : Nat) : fnMS (kbC n f m g (es 0) (es 1) .ret i) 60 Tryd.f6 (bodyOf Tryd.f6) (cArgs [.sl kB n f, .sl kB m g] 0) (cMem es [.sl kB n f, .sl kB m g] 0) 0 id =
    bif ((n : Nat) : Int) != ((m : Nat) : Int) then some (.bool false, []) else req (stEq (kbSt n f m g (es 0) (es 1) 0) (kbSt n f m g (es 0) (es 1) 0)) (some (.bool false, [])) := by kernel_rfl

theorem kb_ev2 (n : Nat) (f : Nat → List Value) (m : Nat) (g : Nat → List Value) (es : Nat → Nat) (id : Nat) : fnMS ⟨tab, [], 26, [([1, 1, 0, 1, 0], fun _ => [])]⟩ 60 Tryd.f6 (bodyOf Tryd.f6) (cArgs [.sl kB n f, .sl kB m g] 0) (cMem es [.sl kB n f, .sl kB m g] 0) 0 id =
    bif ((n : Nat) : Int) != ((m : Nat) : Int) then some (.bool false, []) else none := by kernel_rfl
theorem kb_msum : MSum Tryd.prog 6 KbF := by
  intro w0 R fm w hm vs args' hl mm hsub id hlt v l hpick hnew
  match vs, hl, hpick with
  | [a, b], hl, hpick =>
    obtain ⟨hc, rfl, rfl⟩ := pick_one hpick
    simp only [Bool.and_eq_true] at hc
    obtain ⟨⟨ha, hb⟩, hn⟩ := hc
    generalize hqa : srcB mm kB a = qa at ha hn ⊢
    generalize hqb : srcB mm kB b = qb at hb ⊢
    obtain ⟨ok1, n, f⟩ := qa
    obtain ⟨ok2, m, g⟩ := qb
    simp only at ha hb hn ⊢
    subst ha hb
    have hn := Nat.le_of_ble_eq_true hn
    have hA : AOk mm [a, b] [.sl kB n f, .sl kB m g] := ⟨hqa, hqb, trivial⟩
    refine msum_at (c := bodyOf Tryd.f6) (fuel := 60) (next := 0) Tryd.func6 (by kernel_rfl) (by kernel_rfl) hm hl hsub hlt hA (by show 2 ≤ Tryd.f6.ntmps; decide +kernel) (.inl rfl) hnew (fun es => ?_)
    have rounds : ∀ (k : Nat) (e : Exit) (i : Int), n = m → k ≤ n → (∀ j, j < k → bI f j = bI g j) → e ≠ .normal → kbR n f m g (k : Int) (some (.normal, kbSt n f m g (es 0) (es 1) (IntKind.i64.wrap ((k : Int) + 1)))) (some (.ret, kbSt n f m g (es 0) (es 1) (k : Int))) (some (.exit 0, kbSt n f m g (es 0) (es 1) (k : Int))) = some (e, kbSt n f m g (es 0) (es 1) i) →
        LoopOk Tryd.prog 26 (loopAt [1, 1, 0, 1, 0] (bodyOf Tryd.f6)) (atSt kbNt kbNi 20 (kbSt n f m g (es 0) (es 1) 0) e (kbSt n f m g (es 0) (es 1) i)) := by
      intro k e i hnm hk hj he hlast
      subst hnm
      refine atSt_ok fun w0 R a W hrel => ?_
      refine loop_rounds (R := R) (C := kbC0) kbOk0 kb_at (m := 60) (nt := kbNt) (ni := kbNi) (et := kbNt) (ei := kbNi) (nx := 20) (ex := 20) (e := e) (sf := kbSt n f n g (es 0) (es 1) i)
        (fun j => kbSt n f n g (es 0) (es 1) (j : Int)) k he ?_ ?_ hrel
      · intro j hjk
        refine (kb_r _ _ _ _ _ _ _).trans ?_
        rw [kbR_eq (by omega), if_pos (hj j hjk), wrap_i64 (by omega)]; rfl
      · exact (kb_r _ _ _ _ _ _ _).trans hlast
    by_cases hnm : n = m
    · subst hnm
      have hne : ((((n : Nat) : Int) != ((n : Nat) : Int)) : Bool) = false := bne_self_eq_false _
      by_cases hall : ∀ j, j < n → bI f j = bI g j
      · refine ⟨kbC n f n g (es 0) (es 1) (.exit 0) (n : Int), ⟨mixed, tabOk, sums_nil, oneL (rounds n (.exit 0) (n : Int) rfl (Nat.le_refl _) hall (by intro h; cases h) (kbR_out _ _ _))⟩, rfl, ?_⟩
        refine (kb_ev0 n f n g es _ id).trans ?_
        rw [hne, cond_false, req_true (stEq_refl rfl), eqR_iff.2 ⟨rfl, hall⟩]
      · obtain ⟨k, h1, h2, h3⟩ := first_diff hall
        refine ⟨kbC n f n g (es 0) (es 1) .ret (k : Int), ⟨mixed, tabOk, sums_nil, oneL (rounds k .ret (k : Int) rfl (by omega) h3 (by intro h; cases h) (by rw [kbR_eq h1, if_neg h2]))⟩, rfl, ?_⟩
        refine (kb_ev1 n f n g es _ id).trans ?_
        have : eqR n f n g = false := by rw [Bool.eq_false_iff, ne_eq, eqR_iff]; exact fun h => hall h.2
        rw [hne, cond_false, req_true (stEq_refl rfl), this]
    · refine ⟨⟨tab, [], 26, [([1, 1, 0, 1, 0], fun _ => [])]⟩, ⟨mixed, tabOk, sums_nil, noneL2⟩, rfl, ?_⟩
      refine (kb_ev2 n f m g es id).trans ?_
      have : eqR n f m g = false := by rw [Bool.eq_false_iff, ne_eq, eqR_iff]; exact fun h => hnm h.1
      rw [show ((((n : Nat) : Int) != ((m : Nat) : Int)) : Bool) = true from by rw [bne_iff_ne]; omega, cond_true, this]
  | [], _, h => simp [KbF, pickM] at h
  | [_], _, h => simp [KbF, pickM] at h
  | _ :: _ :: _ :: _, _, h => simp [KbF, pickM] at h

end Go.Proofs.YteenpdjanlcipabDoor

/-
  The bytes of points.
-/
namespace Go.Proofs.YteenpdjanlcipabDoor
set_option maxRecDepth 100000
open Go.W
open Go.RowKit (Below)

def crdC : Cfg := ⟨tab, [(36, ReadF), (34, SqAF), (37, RootF), (38, TrnF)], 64, []⟩
theorem crdOk : CfgOk Tryd.prog crdC (bodyOf Tryd.f29) := ⟨mixed, tabOk, (sums_cons Read_sum (sums_cons csq_sum (sums_cons Root_sum (sums_cons ctrn_sum sums_nil)))), noL⟩
theorem crd_33 (f : Nat → List Value) (es : Nat → Nat) (id : Nat) : fnMS crdC 60 Tryd.f29 (bodyOf Tryd.f29) (cArgs [.sl kB 33 f] 0) (cMem es [.sl kB 33 f] 0) 0 id = rd33 (bI f 0) (rdK (b32V f) (bI f 0)) := by kernel_rfl
theorem crd_1 (f : Nat → List Value) (es : Nat → Nat) (id : Nat) : fnMS crdC 60 Tryd.f29 (bodyOf Tryd.f29) (cArgs [.sl kB 1 f] 0) (cMem es [.sl kB 1 f] 0) 0 id = rd1 (bI f 0) := by kernel_rfl
theorem crd_more (k : Nat) (f : Nat → List Value) (es : Nat → Nat) (id : Nat) : fnMS crdC 60 Tryd.f29 (bodyOf Tryd.f29) (cArgs [.sl kB (k + 34) f] 0) (cMem es [.sl kB (k + 34) f] 0) 0 id = eT 7 := by kernel_rfl
theorem crd_less (f : Nat → List Value) (es : Nat → Nat) (id : Nat) : ∀ n, n < 33 → n ≠ 1 → fnMS crdC 60 Tryd.f29 (bodyOf Tryd.f29) (cArgs [.sl kB n f] 0) (cMem es [.sl kB n f] 0) 0 id = eT 7
  | 0, _, _ => by kernel_rfl
  | 1, _, h => absurd rfl h
  | 2, _, _ => by kernel_rfl
  | 3, _, _ => by kernel_rfl
  | 4, _, _ => by kernel_rfl
  | 5, _, _ => by kernel_rfl
  | 6, _, _ => by kernel_rfl
  | 7, _, _ => by kernel_rfl
  | 8, _, _ => by kernel_rfl
  | 9, _, _ => by kernel_rfl
  | 10, _, _ => by kernel_rfl
  | 11, _, _ => by kernel_rfl
  | 12, _, _ => by kernel_rfl
  | 13, _, _ => by kernel_rfl
  | 14, _, _ => by kernel_rfl
  | 15, _, _ => by kernel_rfl
  | 16, _, _ => by kernel_rfl
  | 17, _, _ => by kernel_rfl
  | 18, _, _ => by kernel_rfl
  | 19, _, _ => by kernel_rfl
  | 20, _, _ => by kernel_rfl
  | 21, _, _ => by kernel_rfl
  | 22, _, _ => by kernel_rfl
  | 23, _, _ => by kernel_rfl
  | 24, _, _ => by kernel_rfl
  | 25, _, _ => by kernel_rfl
  | 26, _, _ => by kernel_rfl
  | 27, _, _ => by kernel_rfl
  | 28, _, _ => by kernel_rfl
  | 29, _, _ => by kernel_rfl
  | 30, _, _ => by kernel_rfl
  | 31, _, _ => by kernel_rfl
  | 32, _, _ => by kernel_rfl
  | n + 33, h, _ => absurd h (by omega)
theorem crd_msum : MSum Tryd.prog 29 RdF := by
  refine msum_of (fuel := 60) (next := 0) crdOk Tryd.func29 (by kernel_rfl) (by kernel_rfl) rfl fun vs mm id v l hpick hlt => ?_
  match vs, hpick with
  | [a], hpick =>
    obtain ⟨hc, rfl, rfl⟩ := pick_one hpick
    simp only [Bool.and_eq_true] at hc
    obtain ⟨ha, hs⟩ := hc
    generalize hqa : srcB mm kB a = qa at ha hs ⊢
    obtain ⟨ok1, n, f⟩ := qa
    simp only at ha hs ⊢
    subst ha
    refine ⟨[.sl kB n f], ⟨hqa, trivial⟩, by show 1 ≤ Tryd.f29.ntmps; decide +kernel, .inl trivial, fun es => ?_⟩
    exact rd_all (fun n => fnMS crdC 60 Tryd.f29 (bodyOf Tryd.f29) (cArgs [.sl kB n f] 0) (cMem es [.sl kB n f] 0) 0 id) hs (crd_1 f es id) (crd_33 f es id) (fun h => rdK_eq h) (crd_less f es id) (fun k => crd_more k f es id)
  | [], h => simp [RdF, pickM] at h
  | _ :: _ :: _, h => simp [RdF, pickM] at h

end Go.Proofs.YteenpdjanlcipabDoor
