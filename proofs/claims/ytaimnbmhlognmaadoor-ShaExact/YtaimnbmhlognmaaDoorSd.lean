/-
  Several texts in one.
-/
import Derived.Test.YtaimnbmhlognmaaDoorSa
import Derived.Test.YtaimnbmhlognmaaDoorEd
/-
  Bytes, held against one another; twins.
-/
namespace Go.Proofs.YtaimnbmhlognmaaDoor
set_option maxRecDepth 100000
open Go.W
open Go.RowKit (Below)

def kbNt : List Nat := [0, 1, 4, 5]
def kbNi : List Nat := [1500000, 1500001]
def kbSt (n : Nat) (f : Nat → List Value) (m : Nat) (g : Nat → List Value) (e0 e1 : Nat) (i : Int) : St :=
  ⟨[(0, aSl 0 n), (1, aSl 1 m), (4, .bool false), (5, i64 i)], [(1500000, ⟨.row kB n f, e0, false⟩), (1500001, ⟨.row kB m g, e1, false⟩)], 20⟩
def kbC0 : Cfg := ⟨tab, [], 26, []⟩
theorem kbOk0 : CfgOk Tryd.prog kbC0 (bodyOf Tryd.f14) := ⟨mixed, tabOk, sums_nil, noL⟩
theorem kb_at : codeAt [1, 1, 0, 1, 0] (bodyOf Tryd.f14) = some (.loop (loopAt [1, 1, 0, 1, 0] (bodyOf Tryd.f14))) := by kernel_rfl
theorem kb_r (n : Nat) (f : Nat → List Value) (m : Nat) (g : Nat → List Value) (e0 e1 : Nat) (i : Int) : roundS kbC0 60 [1, 1, 0, 1, 0, 0] (loopAt [1, 1, 0, 1, 0] (bodyOf Tryd.f14)) kbNt kbNi 20 kbNt kbNi 20 (kbSt n f m g e0 e1 i) =
    kbR n f m g i (some (.normal, kbSt n f m g e0 e1 (IntKind.i64.wrap (i + 1)))) (some (.ret, kbSt n f m g e0 e1 i)) (some (.exit 0, kbSt n f m g e0 e1 i)) := by kernel_rfl
noncomputable def kbC (n : Nat) (f : Nat → List Value) (m : Nat) (g : Nat → List Value) (e0 e1 : Nat) (e : Exit) (i : Int) : Cfg := ⟨tab, [], 26, [([1, 1, 0, 1, 0], atSt kbNt kbNi 20 (kbSt n f m g e0 e1 0) e (kbSt n f m g e0 e1 i))]⟩
theorem kb_ev0 (n : Nat) (f : Nat → List Value) (m : Nat) (g : Nat → List Value) (es : Nat → Nat) (i : Int) (id : Nat) : fnMS (kbC n f m g (es 0) (es 1) (.exit 0) i) 60 Tryd.f14 (bodyOf Tryd.f14) (cArgs [.sl kB n f, .sl kB m g] 0) (cMem es [.sl kB n f, .sl kB m g] 0) 0 id =
    bif ((n : Nat) : Int) != ((m : Nat) : Int) then some (.bool false, []) else req (stEq (kbSt n f m g (es 0) (es 1) 0) (kbSt n f m g (es 0) (es 1) 0)) (some (.bool true, [])) := by kernel_rfl
theorem kb_ev1 (n : Nat) (f : Nat → List Value) (m : Nat) (g : Nat → List Value) (es : Nat → Nat) (i : Int) (id : Nat) : fnMS (kbC n f m g (es 0) (es 1) .ret i) 60 Tryd.f14 (bodyOf Tryd.f14) (cArgs [.sl kB n f, .sl kB m g] 0) (cMem es [.sl kB n f, .sl kB m g] 0) 0 id =
    bif ((n : Nat) : Int) != ((m : Nat) : Int) then some (.bool false, []) else req (stEq (kbSt n f m g (es 0) (es 1) 0) (kbSt n f m g (es 0) (es 1) 0)) (some (.bool false, [])) := by kernel_rfl

theorem kb_ev2 (n : Nat) (f : Nat → List Value) (m : Nat) (g : Nat → List Value) (es : Nat → Nat) (id : Nat) : fnMS ⟨tab, [], 26, [([1, 1, 0, 1, 0], fun _ => [])]⟩ 60 Tryd.f14 (bodyOf Tryd.f14) (cArgs [.sl kB n f, .sl kB m g] 0) (cMem es [.sl kB n f, .sl kB m g] 0) 0 id =
    bif ((n : Nat) : Int) != ((m : Nat) : Int) then some (.bool false, []) else none := by kernel_rfl
theorem kb_msum : MSum Tryd.prog 14 KbF := by
  intro w0 R fm w hm vs args' hl mm hsub id hlt v l hpick hnew
  match vs, hl, hpick with
  | [a, b], hl, hpick =>
    obtain ⟨hc, rfl, rfl⟩ := pick_one hpick
    simp only [Bool.and_eq_true] at hc
    obtain ⟨⟨ha, hb⟩, hn⟩ := hc
    generalize hqa : srcB mm kB a = qa at ha hn ⊢
    generalize hqb : srcB mm kB b = qb at hb ⊢
    obtain ⟨ok1, n, f⟩ := qa
    obtain ⟨ok2, m, g⟩ := qb
    simp only at ha hb hn ⊢
    subst ha hb
    have hn := Nat.le_of_ble_eq_true hn
    have hA : AOk mm [a, b] [.sl kB n f, .sl kB m g] := ⟨hqa, hqb, trivial⟩
    refine msum_at (c := bodyOf Tryd.f14) (fuel := 60) (next := 0) Tryd.func14 (by kernel_rfl) (by kernel_rfl) hm hl hsub hlt hA (by show 2 ≤ Tryd.f14.ntmps; decide +kernel) (.inl rfl) hnew (fun es => ?_)
    have rounds : ∀ (k : Nat) (e : Exit) (i : Int), n = m → k ≤ n → (∀ j, j < k → bI f j = bI g j) → e ≠ .normal → kbR n f m g (k : Int) (some (.normal, kbSt n f m g (es 0) (es 1) (IntKind.i64.wrap ((k : Int) + 1)))) (some (.ret, kbSt n f m g (es 0) (es 1) (k : Int))) (some (.exit 0, kbSt n f m g (es 0) (es 1) (k : Int))) = some (e, kbSt n f m g (es 0) (es 1) i) →
        LoopOk Tryd.prog 26 (loopAt [1, 1, 0, 1, 0] (bodyOf Tryd.f14)) (atSt kbNt kbNi 20 (kbSt n f m g (es 0) (es 1) 0) e (kbSt n f m g (es 0) (es 1) i)) := by
      intro k e i hnm hk hj he hlast
      subst hnm
      refine atSt_ok fun w0 R a W hrel => ?_
      refine loop_rounds (R := R) (C := kbC0) kbOk0 kb_at (m := 60) (nt := kbNt) (ni := kbNi) (et := kbNt) (ei := kbNi) (nx := 20) (ex := 20) (e := e) (sf := kbSt n f n g (es 0) (es 1) i)
        (fun j => kbSt n f n g (es 0) (es 1) (j : Int)) k he ?_ ?_ hrel
      · intro j hjk
        refine (kb_r _ _ _ _ _ _ _).trans ?_
        rw [kbR_eq (by omega), if_pos (hj j hjk), wrap_i64 (by omega)]; rfl
      · exact (kb_r _ _ _ _ _ _ _).trans hlast
    by_cases hnm : n = m
    · subst hnm
      have hne : ((((n : Nat) : Int) != ((n : Nat) : Int)) : Bool) = false := bne_self_eq_false _
      by_cases hall : ∀ j, j < n → bI f j = bI g j
      · refine ⟨kbC n f n g (es 0) (es 1) (.exit 0) (n : Int), ⟨mixed, tabOk, sums_nil, oneL (rounds n (.exit 0) (n : Int) rfl (Nat.le_refl _) hall (by intro h; cases h) (kbR_out _ _ _))⟩, rfl, ?_⟩
        refine (kb_ev0 n f n g es _ id).trans ?_
        rw [hne, cond_false, req_true (stEq_refl rfl), eqR_iff.2 ⟨rfl, hall⟩]
      · obtain ⟨k, h1, h2, h3⟩ := first_diff hall
        refine ⟨kbC n f n g (es 0) (es 1) .ret (k : Int), ⟨mixed, tabOk, sums_nil, oneL (rounds k .ret (k : Int) rfl (by omega) h3 (by intro h; cases h) (by rw [kbR_eq h1, if_neg h2]))⟩, rfl, ?_⟩
        refine (kb_ev1 n f n g es _ id).trans ?_
        have : eqR n f n g = false := by rw [Bool.eq_false_iff, ne_eq, eqR_iff]; exact fun h => hall h.2
        rw [hne, cond_false, req_true (stEq_refl rfl), this]
    · refine ⟨⟨tab, [], 26, [([1, 1, 0, 1, 0], fun _ => [])]⟩, ⟨mixed, tabOk, sums_nil, noneL2⟩, rfl, ?_⟩
      refine (kb_ev2 n f m g es id).trans ?_
      have : eqR n f m g = false := by rw [Bool.eq_false_iff, ne_eq, eqR_iff]; exact fun h => hnm h.1
      rw [show ((((n : Nat) : Int) != ((m : Nat) : Int)) : Bool) = true from by rw [bne_iff_ne]; omega, cond_true, this]
  | [], _, h => simp [KbF, pickM] at h
  | [_], _, h => simp [KbF, pickM] at h
  | _ :: _ :: _ :: _, _, h => simp [KbF, pickM] at h

def twnC : Cfg := ⟨tab, [], 7, []⟩
theorem twnOk : CfgOk Tryd.prog twnC (bodyOf Tryd.f9) := ⟨mixed, tabOk, sums_nil, noL⟩
theorem twn_ev (n : Nat) (f : Nat → List Value) (es : Nat → Nat) (id : Nat) : fnMS twnC 60 Tryd.f9 (bodyOf Tryd.f9) (cArgs [.sl kB n f] 0) (cMem es [.sl kB n f] 0) 0 id =
    req (Nat.ble n n && true) (req (szOk n 1) (req (Nat.ble n n) (some (.slice (some ⟨nid id 0, 0, none⟩) n n, [(nid id 0, ⟨.row kB n (twF f), 5, true⟩)])))) := by kernel_rfl
theorem twn_msum : MSum Tryd.prog 9 (TwnF 5) := by
  refine msum_of (fuel := 60) (next := 0) twnOk Tryd.func9 (by kernel_rfl) (by kernel_rfl) rfl fun vs mm id v l hpick hlt => ?_
  match vs, hpick with
  | [a], hpick =>
    obtain ⟨hc, rfl, rfl⟩ := pick_one hpick
    simp only [Bool.and_eq_true] at hc
    obtain ⟨ha, hs⟩ := hc
    generalize hqa : srcB mm kB a = qa at ha hs ⊢
    obtain ⟨ok1, n, f⟩ := qa
    simp only at ha hs ⊢
    subst ha
    refine ⟨[.sl kB n f], ⟨hqa, trivial⟩, by show 1 ≤ Tryd.f9.ntmps; decide +kernel, .inr ⟨_, rfl⟩, fun es => ?_⟩
    have hnn : Nat.ble n n = true := by rw [Nat.ble_eq]; exact Nat.le_refl _
    exact (twn_ev n f es id).trans (by rw [hnn, hs]; rfl)
  | [], h => simp [TwnF, pickM] at h
  | _ :: _ :: _, h => simp [TwnF, pickM] at h

end Go.Proofs.YtaimnbmhlognmaaDoor
