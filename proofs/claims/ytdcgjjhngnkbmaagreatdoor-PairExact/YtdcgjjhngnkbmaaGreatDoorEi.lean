/-
  Several texts in one.
-/
import Derived.Test.YtdcgjjhngnkbmaaGreatDoorEf
/-
  The engine, part 25: loops whose rounds come to what is told, cell by cell.
-/
namespace Go.W

theorem loopE {P : Program} [Laid P] {code : Code} {n : Nat} (C : Nat → Cfg) (N : Nat) (hC : ∀ k, k ≤ N → CfgOk P (C k) code) (hn : ∀ k, (C k).n = n) {p : List Nat} (hp : codeAt p code = some (.loop (loopAt p code))) {m : Nat} {ts : List Nat} {is : Ren} {tx : Nat} {nt et : List Nat} {ni ei : Ren} {nx ex : Nat} (st : Nat → St) {e : Exit} {s0 sf : St} (h0 : s0 = st 0) (he : e ≠ .normal)
    (step : ∀ k, k < N → ∃ s, roundS (C k) m (p ++ [0]) (loopAt p code) nt ni nx et ei ex (st k) = some (.normal, s) ∧ stEq s (st (k + 1)) = true)
    (last : ∃ s, roundS (C N) m (p ++ [0]) (loopAt p code) nt ni nx et ei ex (st N) = some (e, s) ∧ stEq s sf = true) :
    LoopOk P n (loopAt p code) (atSt ts is tx s0 e sf) := by
  refine atSt_ok fun w0 R a w hrel => ?_
  rw [h0] at hrel
  have hx : codeAt (p ++ [0]) code = some (loopAt p code) := by rw [codeAt_app, hp]; rfl
  have key : ∀ j, j ≤ N → ∀ (R : Nat → Pl → Prop) (a : Act) (w : World), Rel w0 n R (st (N - j)).f a w → Code.rounds P (loopAt p code) (fun e' a' w' => e' = e ∧ ∃ R', Rel w0 n R' sf.f a' w') (j + 1) a w := by
    intro j
    induction j with
    | zero =>
      intro _ R a w hr
      rw [rounds_succ]
      obtain ⟨s, h1, h2⟩ := last
      have hs := round_sound (hC N (Nat.le_refl _)) hx h1 (w0 := w0) (R := R) (a := a) (w := w) (by rw [hn]; exact hr)
      rw [hn] at hs
      refine wp_mono hs ?_
      rintro e' a' w' ⟨rfl, R', hr'⟩
      cases e' with
      | normal => exact absurd rfl he
      | _ => exact ⟨rfl, R', hr'.eqv h2⟩
    | succ j ih =>
      intro hj R a w hr
      rw [rounds_succ]
      obtain ⟨s, h1, h2⟩ := step (N - (j + 1)) (by omega)
      have hs := round_sound (hC (N - (j + 1)) (by omega)) hx h1 (w0 := w0) (R := R) (a := a) (w := w) (by rw [hn]; exact hr)
      rw [hn] at hs
      refine wp_mono hs ?_
      rintro e' a' w' ⟨rfl, R', hr'⟩
      refine ih (by omega) R' a' w' ?_
      rw [show N - j = N - (j + 1) + 1 from by omega]
      exact hr'.eqv h2
  exact wp_loop_rounds (N + 1) (key N (Nat.le_refl N) R a w (by rw [Nat.sub_self]; exact hrel))

theorem loopV {P : Program} [Laid P] {code : Code} {n : Nat} (C : Nat → Cfg) (N : Nat) (hC : ∀ k, k ≤ N → CfgOk P (C k) code) (hn : ∀ k, (C k).n = n) {p : List Nat} (hp : codeAt p code = some (.loop (loopAt p code))) {m : Nat} {ts : List Nat} {is : Ren} {tx : Nat} {nt et : List Nat} {ni ei : Nat → Ren} {nx ex : Nat} (st : Nat → St) {e : Exit} {s0 sf : St} (h0 : s0 = st 0) (he : e ≠ .normal)
    (step : ∀ k, k < N → ∃ s, roundS (C k) m (p ++ [0]) (loopAt p code) nt (ni k) nx et (ei k) ex (st k) = some (.normal, s) ∧ stEq s (st (k + 1)) = true)
    (last : ∃ s, roundS (C N) m (p ++ [0]) (loopAt p code) nt (ni N) nx et (ei N) ex (st N) = some (e, s) ∧ stEq s sf = true) :
    LoopOk P n (loopAt p code) (atSt ts is tx s0 e sf) := by
  refine atSt_ok fun w0 R a w hrel => ?_
  rw [h0] at hrel
  have hx : codeAt (p ++ [0]) code = some (loopAt p code) := by rw [codeAt_app, hp]; rfl
  have key : ∀ j, j ≤ N → ∀ (R : Nat → Pl → Prop) (a : Act) (w : World), Rel w0 n R (st (N - j)).f a w → Code.rounds P (loopAt p code) (fun e' a' w' => e' = e ∧ ∃ R', Rel w0 n R' sf.f a' w') (j + 1) a w := by
    intro j
    induction j with
    | zero =>
      intro _ R a w hr
      rw [rounds_succ]
      obtain ⟨s, h1, h2⟩ := last
      have hs := round_sound (hC N (Nat.le_refl _)) hx h1 (w0 := w0) (R := R) (a := a) (w := w) (by rw [hn]; exact hr)
      rw [hn] at hs
      refine wp_mono hs ?_
      rintro e' a' w' ⟨rfl, R', hr'⟩
      cases e' with
      | normal => exact absurd rfl he
      | _ => exact ⟨rfl, R', hr'.eqv h2⟩
    | succ j ih =>
      intro hj R a w hr
      rw [rounds_succ]
      obtain ⟨s, h1, h2⟩ := step (N - (j + 1)) (by omega)
      have hs := round_sound (hC (N - (j + 1)) (by omega)) hx h1 (w0 := w0) (R := R) (a := a) (w := w) (by rw [hn]; exact hr)
      rw [hn] at hs
      refine wp_mono hs ?_
      rintro e' a' w' ⟨rfl, R', hr'⟩
      refine ih (by omega) R' a' w' ?_
      rw [show N - j = N - (j + 1) + 1 from by omega]
      exact hr'.eqv h2
  exact wp_loop_rounds (N + 1) (key N (Nat.le_refl N) R a w (by rw [Nat.sub_self]; exact hrel))

theorem mNil : memEq [] [] = true := rfl
theorem mRow {a : Nat} {ks : List CK} {n : Nat} {f g : Nat → List Value} {e : TypeId} {o : Bool} {l m : List (Nat × Blk)} (h : ∀ j, j < n → nrmK ks (f j) = nrmK ks (g j)) (h2 : memEq l m = true) : memEq ((a, ⟨.row ks n f, e, o⟩) :: l) ((a, ⟨.row ks n g, e, o⟩) :: m) = true := memEq_cons (cellsEq_rr h) h2
theorem mSame {a : Nat} {c : Cells} {e : TypeId} {o : Bool} {l m : List (Nat × Blk)} (h : vokC c = true) (h2 : memEq l m = true) : memEq ((a, ⟨c, e, o⟩) :: l) ((a, ⟨c, e, o⟩) :: m) = true := memEq_cons (cellsEq_refl h) h2
end Go.W
