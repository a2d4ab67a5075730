/-
  Slices of rows: copies, and held against one another.
-/
import Derived.Test.YteenpdjanlcipaaDoorSd
import Derived.Test.YteenpdjanlcipaaDoorEh
namespace Go.Proofs.YteenpdjanlcipaaDoor
set_option maxRecDepth 100000
open Go.W

def trS : Sums := [(27, TwnF 5)]
theorem trS_ok : SumsOk Tryd.prog trS := sums_consM twn_msum sums_nil
def trC0 : Cfg := ⟨tab, trS, 20, []⟩
theorem trOk0 : CfgOk Tryd.prog trC0 (bodyOf Tryd.f10) := ⟨mixed, tabOk, trS_ok, noL⟩
theorem tr_at : codeAt [1, 1, 0, 1, 0] (bodyOf Tryd.f10) = some (.loop (loopAt [1, 1, 0, 1, 0] (bodyOf Tryd.f10))) := by kernel_rfl
def trNt : List Nat := [0, 3, 4]
def trB : Nat := nid 0 0
def trNi : Ren := [(trB, nid 14 0), (1500000, 1500000)]
def trEi : Ren := [(trB, trB), (1500000, 1500000)]
def trZi : List Nat := [1500000]
def trSt0 (n : Nat) (g : Nat → Nat × (Nat → List Value)) (er : Nat → Nat) (e1 : Nat) : St := ⟨[(0, aSl 0 n), (3, .slice none 0 0), (4, i64 0)], [(1500000, ⟨.fam kB n er g, e1, false⟩)], 3⟩
def trSt (n : Nat) (g : Nat → Nat × (Nat → List Value)) (er : Nat → Nat) (e1 : Nat) (k : Nat) (i : Int) : St := ⟨[(0, aSl 0 n), (3, .slice (some ⟨trB, 0, none⟩) (k + 1) (k + 1)), (4, i64 i)], [(trB, ⟨.fam kB (k + 1) (trE 5 k) (trG g k), 37, true⟩), (1500000, ⟨.fam kB n er g, e1, false⟩)], 3⟩
def trO (m : Nat) : Bool := Nat.ble m m && Nat.ble m m && true && true && true && true && true
theorem trO_true (m : Nat) : trO m = true := by unfold trO; rw [ble_of (Nat.le_refl _)]; rfl
theorem tr_r0 (n : Nat) (g : Nat → Nat × (Nat → List Value)) (er : Nat → Nat) (e1 : Nat) : roundS trC0 60 [1, 1, 0, 1, 0, 0] (loopAt [1, 1, 0, 1, 0] (bodyOf Tryd.f10)) trNt trNi 3 trNt trEi 3 (trSt0 n g er e1) =
    bif decide ((0 : Int) < (n : Int)) then req (inR 0 n) (req (Nat.blt 0 n && true && true) (req (kbk (g 0).1 && szOk (g 0).1 1) (req (trO (g 0).1) (some (.normal, trSt n g er e1 0 1)))))
    else none := by kernel_rfl
theorem tr_z (g : Nat → Nat × (Nat → List Value)) (er : Nat → Nat) (e1 : Nat) : roundS trC0 60 [1, 1, 0, 1, 0, 0] (loopAt [1, 1, 0, 1, 0] (bodyOf Tryd.f10)) trNt trNi 3 trNt trZi 3 (trSt0 0 g er e1) = some (.exit 0, trSt0 0 g er e1) := by kernel_rfl
theorem tr_r (n : Nat) (g : Nat → Nat × (Nat → List Value)) (er : Nat → Nat) (e1 : Nat) (k : Nat) : roundS trC0 60 [1, 1, 0, 1, 0, 0] (loopAt [1, 1, 0, 1, 0] (bodyOf Tryd.f10)) trNt trNi 3 trNt trEi 3 (trSt n g er e1 k ((k + 1 : Nat) : Int)) =
    bif decide (((k + 1 : Nat) : Int) < (n : Int)) then req (inR ((k + 1 : Nat) : Int) n) (req (Nat.blt (k + 1) n && true && true) (req (kbk (g (k + 1)).1 && szOk (g (k + 1)).1 1) (req (trO (g (k + 1)).1) (req (Nat.beq (k + 1) (k + 1) && true && true && szOk (k + 1 + 1) 24 && true) (some (.normal, trSt n g er e1 (k + 1) (IntKind.i64.wrap (((k + 1 : Nat) : Int) + 1))))))))
    else some (.exit 0, trSt n g er e1 k ((k + 1 : Nat) : Int)) := by kernel_rfl
def trQ (n : Nat) (g : Nat → Nat × (Nat → List Value)) (er : Nat → Nat) (e1 : Nat) : Nat → St
  | 0 => trSt0 n g er e1
  | k + 1 => trSt n g er e1 k ((k + 1 : Nat) : Int)
theorem szOk24 {n : Nat} (h : n ≤ 1000) : szOk n 24 = true := by unfold szOk; rw [Nat.ble_eq]; omega
theorem tr_loop (k : Nat) (g : Nat → Nat × (Nat → List Value)) (er : Nat → Nat) (e1 : Nat) (hn : k + 1 ≤ 50) (hs : ∀ j, j < k + 1 → (g j).1 ≤ 2000) :
    LoopOk Tryd.prog 20 (loopAt [1, 1, 0, 1, 0] (bodyOf Tryd.f10)) (atSt trNt trZi 3 (trSt0 (k + 1) g er e1) (.exit 0) (trSt (k + 1) g er e1 k ((k + 1 : Nat) : Int))) := by
  refine atSt_ok fun w0 R a W hrel => ?_
  refine loop_rounds (R := R) (C := trC0) trOk0 tr_at (m := 60) (nt := trNt) (ni := trNi) (et := trNt) (ei := trEi) (nx := 3) (ex := 3) (e := .exit 0) (sf := trSt (k + 1) g er e1 k ((k + 1 : Nat) : Int))
    (trQ (k + 1) g er e1) (k + 1) (by intro h; cases h) ?_ ?_ hrel
  · intro j hj
    cases j with
    | zero =>
      refine (tr_r0 (k + 1) g er e1).trans ?_
      have := hs 0 hj
      rw [decide_eq_true (by omega), cond_true, show inR 0 (k + 1) = true from inR_of (i := 0) (by omega), req_true rfl, blt_of (by omega), req_true (b := true && true && true) rfl, kbk_true, szOk_small (by omega), req_true (b := true && true) rfl, trO_true, req_true rfl]
      rfl
    | succ j =>
      refine (tr_r (k + 1) g er e1 j).trans ?_
      have := hs (j + 1) hj
      rw [decide_eq_true (by omega), cond_true, inR_of (by omega), req_true rfl, blt_of (by omega), req_true (b := true && true && true) rfl, kbk_true, szOk_small (by omega), req_true (b := true && true) rfl, trO_true, req_true rfl, Nat.beq_refl, szOk24 (by omega), req_true (b := true && true && true && true && true) rfl, wrap_i64 (by omega)]
      rfl
  · refine (tr_r (k + 1) g er e1 k).trans ?_
    rw [decide_eq_false (by omega), cond_false]
theorem tr_loopz (g : Nat → Nat × (Nat → List Value)) (er : Nat → Nat) (e1 : Nat) :
    LoopOk Tryd.prog 20 (loopAt [1, 1, 0, 1, 0] (bodyOf Tryd.f10)) (atSt trNt trZi 3 (trSt0 0 g er e1) (.exit 0) (trSt0 0 g er e1)) := by
  refine atSt_ok fun w0 R a W hrel => ?_
  exact loop_rounds (R := R) (C := trC0) trOk0 tr_at (m := 60) (nt := trNt) (ni := trNi) (et := trNt) (ei := trZi) (nx := 3) (ex := 3) (e := .exit 0) (sf := trSt0 0 g er e1)
    (fun _ => trSt0 0 g er e1) 0 (by intro h; cases h) (fun j hj => absurd hj (by omega)) (tr_z g er e1) hrel
noncomputable def trC (n : Nat) (g : Nat → Nat × (Nat → List Value)) (er : Nat → Nat) (e1 : Nat) (k : Nat) : Cfg := ⟨tab, trS, 20, [([1, 1, 0, 1, 0], atSt trNt trZi 3 (trSt0 n g er e1) (.exit 0) (trSt n g er e1 k ((k + 1 : Nat) : Int)))]⟩
noncomputable def trCz (g : Nat → Nat × (Nat → List Value)) (er : Nat → Nat) (e1 : Nat) : Cfg := ⟨tab, trS, 20, [([1, 1, 0, 1, 0], atSt trNt trZi 3 (trSt0 0 g er e1) (.exit 0) (trSt0 0 g er e1))]⟩
theorem tr_ev (n : Nat) (g : Nat → Nat × (Nat → List Value)) (es : Nat → Nat) (er : Nat → Nat → Nat) (k id : Nat) : fnMS (trC n g (er 0) (es 0) k) 60 Tryd.f10 (bodyOf Tryd.f10) (cArgsF [.fm kB n g] 0) (cMemF es er [.fm kB n g] 0) 0 id =
    req (stEq (trSt0 n g (er 0) (es 0)) (trSt0 n g (er 0) (es 0))) (req (Nat.ble (k + 1) (k + 1)) (some (.slice (some ⟨nid id 0, 0, none⟩) (k + 1) (k + 1), [(nid id 0, ⟨.fam kB (k + 1) (trE 5 k) (trG g k), 37, true⟩)]))) := by kernel_rfl
theorem tr_evz (g : Nat → Nat × (Nat → List Value)) (es : Nat → Nat) (er : Nat → Nat → Nat) (id : Nat) : fnMS (trCz g (er 0) (es 0)) 60 Tryd.f10 (bodyOf Tryd.f10) (cArgsF [.fm kB 0 g] 0) (cMemF es er [.fm kB 0 g] 0) 0 id =
    req (stEq (trSt0 0 g (er 0) (es 0)) (trSt0 0 g (er 0) (es 0))) (some (.slice none 0 0, [])) := by kernel_rfl
theorem tr_msum : MSum Tryd.prog 10 (TrF 37 5) := by
  intro w0 R fm w hm vs args' hl mm hsub id hlt v l hpick hnew
  match vs, hl, hpick with
  | [a], hl, hpick =>
    simp only [TrF, pickM] at hpick
    generalize hqa : srcF mm kB a = qa at hpick
    obtain ⟨ok1, n, g⟩ := qa
    simp only at hpick
    cases ok1 with
    | false => simp at hpick
    | true =>
    rw [Bool.true_and, Bool.true_and] at hpick
    by_cases hn0 : n = 0
    · subst hn0
      rw [show Nat.beq 0 0 = true from rfl, cond_true] at hpick
      simp only [Option.some.injEq, Prod.mk.injEq] at hpick
      obtain ⟨rfl, rfl⟩ := hpick
      refine msum_atF (c := bodyOf Tryd.f10) (fuel := 60) (next := 0) Tryd.func10 (by kernel_rfl) (by kernel_rfl) hm hl hsub hlt (A := [.fm kB 0 g]) ⟨hqa, trivial⟩ (by show 1 ≤ Tryd.f10.ntmps; decide +kernel) (.inl rfl) hnew (fun es er => ?_)
      exact ⟨trCz g (er 0) (es 0), ⟨mixed, tabOk, trS_ok, oneL (tr_loopz g (er 0) (es 0))⟩, rfl, (tr_evz g es er id).trans (by rw [req_true (stEq_refl rfl)])⟩
    · rw [nbeq_ne hn0, cond_false] at hpick
      obtain ⟨h1, h2⟩ := cond_some.1 hpick
      simp only [Bool.and_eq_true, Bool.not_eq_true'] at h1
      obtain ⟨h3, h4⟩ := h1
      have h3 := Nat.le_of_ble_eq_true h3
      have h4 := (hvR_false g n).1 h4
      simp only [Option.some.injEq, Prod.mk.injEq] at h2
      obtain ⟨rfl, rfl⟩ := h2
      obtain ⟨k, rfl⟩ : ∃ k, n = k + 1 := ⟨n - 1, by omega⟩
      refine msum_atF (c := bodyOf Tryd.f10) (fuel := 60) (next := 0) Tryd.func10 (by kernel_rfl) (by kernel_rfl) hm hl hsub hlt (A := [.fm kB (k + 1) g]) ⟨hqa, trivial⟩ (by show 1 ≤ Tryd.f10.ntmps; decide +kernel) (.inr ⟨_, rfl⟩) hnew (fun es er => ?_)
      refine ⟨trC (k + 1) g (er 0) (es 0) k, ⟨mixed, tabOk, trS_ok, oneL (tr_loop k g (er 0) (es 0) h3 h4)⟩, rfl, ?_⟩
      exact (tr_ev (k + 1) g es er k id).trans (by rw [req_true (stEq_refl rfl), ble_of (Nat.le_refl _), req_true rfl]; rfl)
  | [], _, h => simp [TrF, pickM] at h
  | _ :: _ :: _, _, h => simp [TrF, pickM] at h

noncomputable def rrS : Sums := [(22, KbF)]
theorem rrS_ok : SumsOk Tryd.prog rrS := sums_consM kb_msum sums_nil
noncomputable def rrC0 : Cfg := ⟨tab, rrS, 27, []⟩
theorem rrOk0 : CfgOk Tryd.prog rrC0 (bodyOf Tryd.f13) := ⟨mixed, tabOk, rrS_ok, noL⟩
theorem rr_at : codeAt [1, 1, 0, 1, 0] (bodyOf Tryd.f13) = some (.loop (loopAt [1, 1, 0, 1, 0] (bodyOf Tryd.f13))) := by kernel_rfl
def rrNt : List Nat := [0, 1, 4, 5]
def rrNi : List Nat := [1500000, 1500001]
def rrSt (n : Nat) (g : Nat → Nat × (Nat → List Value)) (m : Nat) (h : Nat → Nat × (Nat → List Value)) (es : Nat → Nat) (er : Nat → Nat → Nat) (i : Int) : St :=
  ⟨[(0, aSl 0 n), (1, aSl 1 m), (4, .bool false), (5, i64 i)], [(1500000, ⟨.fam kB n (er 0) g, es 0, false⟩), (1500001, ⟨.fam kB m (er 1) h, es 1, false⟩)], 20⟩
theorem rr_r (n : Nat) (g : Nat → Nat × (Nat → List Value)) (m : Nat) (h : Nat → Nat × (Nat → List Value)) (es : Nat → Nat) (er : Nat → Nat → Nat) (k : Nat) : roundS rrC0 60 [1, 1, 0, 1, 0, 0] (loopAt [1, 1, 0, 1, 0] (bodyOf Tryd.f13)) rrNt rrNi 20 rrNt rrNi 20 (rrSt n g m h es er (k : Int)) =
    bif decide ((k : Int) < (n : Int)) then req (inR (k : Int) n) (req (Nat.blt k n && true && true) (req (inR (k : Int) m) (req (Nat.blt k m && true && true) (req (kbk (g k).1 && kbk (h k).1 && Nat.ble (g k).1 9223372036854775807)
      (bif !(eqR (g k).1 (sgF (g k).1 (g k).2) (h k).1 (sgF (h k).1 (h k).2)) then some (.ret, rrSt n g m h es er (k : Int)) else some (.normal, rrSt n g m h es er (IntKind.i64.wrap ((k : Int) + 1))))))))
    else some (.exit 0, rrSt n g m h es er (k : Int)) := by kernel_rfl
theorem rr_step {n : Nat} {g h : Nat → Nat × (Nat → List Value)} {es : Nat → Nat} {er : Nat → Nat → Nat} (hn : n ≤ 1000000) (hs : ∀ j, j < n → (g j).1 ≤ 2000) {k : Nat} (hk : k < n) : roundS rrC0 60 [1, 1, 0, 1, 0, 0] (loopAt [1, 1, 0, 1, 0] (bodyOf Tryd.f13)) rrNt rrNi 20 rrNt rrNi 20 (rrSt n g n h es er (k : Int)) =
    bif !(eqR (g k).1 (g k).2 (h k).1 (h k).2) then some (.ret, rrSt n g n h es er (k : Int)) else some (.normal, rrSt n g n h es er ((k + 1 : Nat) : Int)) := by
  refine (rr_r n g n h es er k).trans ?_
  have := hs k hk
  rw [decide_eq_true (by omega), cond_true, inR_of hk, req_true rfl, blt_of hk, req_true (b := true && true && true) rfl, req_true rfl, req_true (b := true && true && true) rfl, kbk_true, kbk_true, ble_of (show (g k).1 ≤ 9223372036854775807 by omega), req_true (b := true && true && true) rfl, eqR_sg, wrap_i64 (by omega)]
  rfl
theorem rr_loop {n : Nat} {g h : Nat → Nat × (Nat → List Value)} {es : Nat → Nat} {er : Nat → Nat → Nat} (hn : n ≤ 1000000) (hs : ∀ j, j < n → (g j).1 ≤ 2000) (k : Nat) (hk : k ≤ n) (hlo : ∀ j, j < k → eqR (g j).1 (g j).2 (h j).1 (h j).2 = true) {ex : Exit} {sf : St} (hex : ex ≠ .normal)
    (hlast : roundS rrC0 60 [1, 1, 0, 1, 0, 0] (loopAt [1, 1, 0, 1, 0] (bodyOf Tryd.f13)) rrNt rrNi 20 rrNt rrNi 20 (rrSt n g n h es er (k : Int)) = some (ex, sf)) :
    LoopOk Tryd.prog 27 (loopAt [1, 1, 0, 1, 0] (bodyOf Tryd.f13)) (atSt rrNt rrNi 20 (rrSt n g n h es er 0) ex sf) := by
  refine atSt_ok fun w0 R a W hrel => ?_
  refine loop_rounds (R := R) (C := rrC0) rrOk0 rr_at (m := 60) (nt := rrNt) (ni := rrNi) (et := rrNt) (ei := rrNi) (nx := 20) (ex := 20) (e := ex) (sf := sf)
    (fun j => rrSt n g n h es er (j : Int)) k hex ?_ hlast hrel
  intro j hj
  refine (rr_step hn hs (by omega)).trans ?_
  rw [hlo j hj, Bool.not_true, cond_false]
noncomputable def rrC (n : Nat) (g : Nat → Nat × (Nat → List Value)) (m : Nat) (h : Nat → Nat × (Nat → List Value)) (es : Nat → Nat) (er : Nat → Nat → Nat) (ex : Exit) (i : Int) : Cfg := ⟨tab, rrS, 27, [([1, 1, 0, 1, 0], atSt rrNt rrNi 20 (rrSt n g m h es er 0) ex (rrSt n g m h es er i))]⟩
theorem rr_evX (n : Nat) (g : Nat → Nat × (Nat → List Value)) (m : Nat) (h : Nat → Nat × (Nat → List Value)) (es : Nat → Nat) (er : Nat → Nat → Nat) (i : Int) (id : Nat) : fnMS (rrC n g m h es er (.exit 0) i) 60 Tryd.f13 (bodyOf Tryd.f13) (cArgsF [.fm kB n g, .fm kB m h] 0) (cMemF es er [.fm kB n g, .fm kB m h] 0) 0 id =
    bif ((n : Nat) : Int) != ((m : Nat) : Int) then some (.bool false, []) else req (stEq (rrSt n g m h es er 0) (rrSt n g m h es er 0)) (some (.bool true, [])) := by kernel_rfl
theorem rr_evR (n : Nat) (g : Nat → Nat × (Nat → List Value)) (m : Nat) (h : Nat → Nat × (Nat → List Value)) (es : Nat → Nat) (er : Nat → Nat → Nat) (i : Int) (id : Nat) : fnMS (rrC n g m h es er .ret i) 60 Tryd.f13 (bodyOf Tryd.f13) (cArgsF [.fm kB n g, .fm kB m h] 0) (cMemF es er [.fm kB n g, .fm kB m h] 0) 0 id =
    bif ((n : Nat) : Int) != ((m : Nat) : Int) then some (.bool false, []) else req (stEq (rrSt n g m h es er 0) (rrSt n g m h es er 0)) (some (.bool false, [])) := by kernel_rfl
theorem rr_evN (n : Nat) (g : Nat → Nat × (Nat → List Value)) (m : Nat) (h : Nat → Nat × (Nat → List Value)) (es : Nat → Nat) (er : Nat → Nat → Nat) (id : Nat) : fnMS ⟨tab, rrS, 27, [([1, 1, 0, 1, 0], fun _ => [])]⟩ 60 Tryd.f13 (bodyOf Tryd.f13) (cArgsF [.fm kB n g, .fm kB m h] 0) (cMemF es er [.fm kB n g, .fm kB m h] 0) 0 id =
    bif ((n : Nat) : Int) != ((m : Nat) : Int) then some (.bool false, []) else none := by kernel_rfl
theorem rr_msum : MSum Tryd.prog 13 RrF := by
  intro w0 R fm w hm vs args' hl mm hsub id hlt v l hpick hnew
  match vs, hl, hpick with
  | [a, b], hl, hpick =>
    obtain ⟨hc, rfl, rfl⟩ := pick_one hpick
    simp only [Bool.and_eq_true, Bool.not_eq_true'] at hc
    obtain ⟨⟨⟨ha, hb⟩, hn⟩, hs⟩ := hc
    generalize hqa : srcF mm kB a = qa at ha hn hs ⊢
    generalize hqb : srcF mm kB b = qb at hb ⊢
    obtain ⟨ok1, n, g⟩ := qa
    obtain ⟨ok2, m, h⟩ := qb
    simp only at ha hb hn hs ⊢
    subst ha hb
    have hn := Nat.le_of_ble_eq_true hn
    have hs := (hvR_false g n).1 hs
    refine msum_atF (c := bodyOf Tryd.f13) (fuel := 60) (next := 0) Tryd.func13 (by kernel_rfl) (by kernel_rfl) hm hl hsub hlt (A := [.fm kB n g, .fm kB m h]) ⟨hqa, hqb, trivial⟩ (by show 2 ≤ Tryd.f13.ntmps; decide +kernel) (.inl rfl) hnew (fun es er => ?_)
    by_cases hnm : n = m
    · subst hnm
      have hne : ((((n : Nat) : Int) != ((n : Nat) : Int)) : Bool) = false := bne_self_eq_false _
      by_cases hall : ∀ j, j < n → eqR (g j).1 (g j).2 (h j).1 (h j).2 = true
      · refine ⟨rrC n g n h es er (.exit 0) (n : Int), ⟨mixed, tabOk, rrS_ok, oneL (rr_loop hn hs n (Nat.le_refl _) hall (by intro h; cases h) ?_)⟩, rfl, (rr_evX n g n h es er _ id).trans ?_⟩
        · refine (rr_r n g n h es er n).trans ?_
          rw [decide_eq_false (by omega), cond_false]
        · rw [hne, cond_false, req_true (stEq_refl rfl), eqG_true ⟨rfl, hall⟩]
      · obtain ⟨k, hk, hbad, hlo⟩ : ∃ k, k < n ∧ eqR (g k).1 (g k).2 (h k).1 (h k).2 = false ∧ ∀ j, j < k → eqR (g j).1 (g j).2 (h j).1 (h j).2 = true := by
          cases hf : fstC (fun k => !(eqR (g k).1 (g k).2 (h k).1 (h k).2)) n with
          | none =>
            exfalso
            refine hall fun j hj => ?_
            have := fstC_none' hf j hj
            simpa using this
          | some k =>
            obtain ⟨h1, h2, h3⟩ := fstC_some hf
            exact ⟨k, h1, by simpa using h2, fun j hj => by simpa using h3 j hj⟩
        refine ⟨rrC n g n h es er .ret (k : Int), ⟨mixed, tabOk, rrS_ok, oneL (rr_loop hn hs k (by omega) hlo (by intro h; cases h) ?_)⟩, rfl, (rr_evR n g n h es er _ id).trans ?_⟩
        · refine (rr_step hn hs hk).trans ?_
          rw [hbad, Bool.not_false, cond_true]
        · rw [hne, cond_false, req_true (stEq_refl rfl), eqG_false (fun e => hall e.2)]
    · refine ⟨⟨tab, rrS, 27, [([1, 1, 0, 1, 0], fun _ => [])]⟩, ⟨mixed, tabOk, rrS_ok, noneL2⟩, rfl, (rr_evN n g m h es er id).trans ?_⟩
      rw [show ((((n : Nat) : Int) != ((m : Nat) : Int)) : Bool) = true from by rw [bne_iff_ne]; omega, cond_true, eqG_false (fun e => hnm e.1)]
  | [], _, h => simp [RrF, pickM] at h
  | [_], _, h => simp [RrF, pickM] at h
  | _ :: _ :: _ :: _, _, h => simp [RrF, pickM] at h

end Go.Proofs.YteenpdjanlcipaaDoor
