/-
  The engine, part 12: a state cut down to what is named; loops, round by round.
-/
import Derived.Test.YtdhbnidobpkkfaaW11
namespace Go.W
open Go.RowKit (Below)

def ids0 (is : List Nat) : Value → Bool
  | .pointer (some a) => nmem a.block is
  | .slice (some a) _ _ => nmem a.block is
  | _ => true

def ids1 (is : List Nat) : Value → Bool
  | .agg cs => cs.toList.all (ids0 is)
  | v => ids0 is v

def ids2 (is : List Nat) : Value → Bool
  | .tuple vs => vs.toList.all (ids1 is)
  | v => ids1 is v

def getSlots (s : St) (is : List Nat) : List Nat → Option (List (Nat × Value))
  | [] => some []
  | t :: r => oK (look s.slots t) (fun v => bif ids2 is v then oK (getSlots s is r) (fun l => some ((t, v) :: l)) none else none) none

def getMem (s : St) (is : List Nat) : List Nat → Option (List (Nat × Blk))
  | [] => some []
  | i :: r => oK (look s.mem i) (fun b => bif b.cells.all (ids0 is) then oK (getMem s is r) (fun l => some ((i, b) :: l)) none else none) none

/-- Cut down: these slots, these blocks, and nothing else is known. -/
def restS (ts is : List Nat) (nx : Nat) (s : St) : Option St :=
  oK (getSlots s is ts) (fun sl => oK (getMem s is is) (fun me => some ⟨sl, me, nx⟩) none) none

section
variable {w0 w : World} {n : Nat} {R : Nat → Nat → Prop} {a : Act}

theorem V0_ids {is : List Nat} {v v' : Value} (h : V0 R v v') (hi : ids0 is v = true) : V0 (fun i b => R i b ∧ i ∈ is) v v' := by
  unfold V0 at h
  split at h
  · obtain ⟨b, hb, rfl⟩ := h; exact ⟨b, ⟨hb, nmem_iff.1 hi⟩, rfl⟩
  · obtain ⟨b, hb, rfl⟩ := h; exact ⟨b, ⟨hb, nmem_iff.1 hi⟩, rfl⟩
  · exact h.elim
  · exact h.elim
  · subst h; unfold V0; split <;> simp_all

theorem LR_ids {r r' : Value → Value → Prop} {q : Value → Bool} (hr : ∀ v v', r v v' → q v = true → r' v v') : ∀ {l l' : List Value}, LR r l l' → l.all q = true → LR r' l l'
  | [], [], _, _ => trivial
  | _ :: _, _ :: _, h, hi => by
    simp only [List.all_cons, Bool.and_eq_true] at hi
    exact ⟨hr _ _ h.1 hi.1, LR_ids hr h.2 hi.2⟩
  | [], _ :: _, h, _ => h.elim
  | _ :: _, [], h, _ => h.elim

theorem V1_ids {is : List Nat} {v v' : Value} (h : V1 R v v') (hi : ids1 is v = true) : V1 (fun i b => R i b ∧ i ∈ is) v v' := by
  unfold V1 at h ⊢
  split at h
  · obtain ⟨cs', rfl, hl⟩ := h
    exact ⟨cs', rfl, LR_ids (q := ids0 is) (fun _ _ h1 h2 => V0_ids h1 h2) hl hi⟩
  · rename_i hne
    refine V0_ids h ?_
    unfold ids1 at hi
    split at hi
    · exact absurd rfl (hne _)
    · exact hi

theorem V2_ids {is : List Nat} {v v' : Value} (h : V2 R v v') (hi : ids2 is v = true) : V2 (fun i b => R i b ∧ i ∈ is) v v' := by
  unfold V2 at h ⊢
  split at h
  · obtain ⟨cs', rfl, hl⟩ := h
    exact ⟨cs', rfl, LR_ids (q := ids1 is) (fun _ _ h1 h2 => V1_ids h1 h2) hl hi⟩
  · rename_i hne
    refine V1_ids h ?_
    unfold ids2 at hi
    split at hi
    · exact absurd rfl (hne _)
    · exact hi

theorem getSlots_look {s : St} {is : List Nat} : ∀ {ts : List Nat} {l : List (Nat × Value)}, getSlots s is ts = some l → ∀ t v, look l t = some v → look s.slots t = some v ∧ ids2 is v = true
  | [], l, h, t, v, hv => by simp only [getSlots, Option.some.injEq] at h; subst h; simp [look] at hv
  | u :: r, l, h, t, v, hv => by
    simp only [getSlots, oK_some, cond_some] at h
    obtain ⟨x, hx, hi, l', hl', h⟩ := h
    cases h
    rw [look_cons] at hv
    by_cases hu : u = t
    · subst hu; rw [upd_same] at hv; cases hv; exact ⟨hx, hi⟩
    · rw [upd_ne _ _ hu] at hv; exact getSlots_look hl' t v hv

theorem getMem_look {s : St} {is : List Nat} : ∀ {js : List Nat} {l : List (Nat × Blk)}, getMem s is js = some l → (∀ i b, look l i = some b → look s.mem i = some b ∧ b.cells.all (ids0 is) = true) ∧ (∀ i, i ∈ js → (look l i).isSome = true)
  | [], l, h => by simp only [getMem, Option.some.injEq] at h; subst h; exact ⟨fun i b hb => by simp [look] at hb, fun i hi => by simp at hi⟩
  | u :: r, l, h => by
    simp only [getMem, oK_some, cond_some] at h
    obtain ⟨x, hx, hi, l', hl', h⟩ := h
    cases h
    obtain ⟨ih1, ih2⟩ := getMem_look hl'
    constructor
    · intro i b hb
      rw [look_cons] at hb
      by_cases hu : u = i
      · subst hu; rw [upd_same] at hb; cases hb; exact ⟨hx, hi⟩
      · rw [upd_ne _ _ hu] at hb; exact ih1 i b hb
    · intro i hi'
      rw [look_cons]
      by_cases hu : u = i
      · subst hu; rw [upd_same]; rfl
      · rw [upd_ne _ _ hu]
        rcases List.mem_cons.1 hi' with rfl | hi'
        · exact absurd rfl hu
        · exact ih2 i hi'

theorem Rel.rest {ts is : List Nat} {nx : Nat} {s s' : St} (hr : restS ts is nx s = some s') (h : Rel w0 n R s.f a w) : ∃ R', Rel w0 n R' s'.f a w := by
  simp only [restS, oK_some] at hr
  obtain ⟨sl, h1, me, h2, h3⟩ := hr
  cases h3
  obtain ⟨hm1, hm2⟩ := getMem_look h2
  refine ⟨fun i b => R i b ∧ i ∈ is, h.defers, h.below, h.size, ?_, fun i b b' hb hb' => h.func i b b' hb.1 hb'.1, fun i j b hi hj => h.inj i j b hi.1 hj.1, ?_, fun i b hb => hm2 i hb.2⟩
  · intro t v hv
    obtain ⟨h3, h4⟩ := getSlots_look h1 t v hv
    obtain ⟨v', h5, h6⟩ := h.slot t v h3
    exact ⟨v', h5, V2_ids h6 h4⟩
  · intro i blk hi
    obtain ⟨h3, h4⟩ := hm1 i blk hi
    obtain ⟨b, cs, fz, h5, h6, h7, h8⟩ := h.mem i blk h3
    have hin : i ∈ is := by
      have key : ∀ (js : List Nat) (l : List (Nat × Blk)), getMem s is js = some l → ∀ i b, look l i = some b → i ∈ js := by
        intro js
        induction js with
        | nil => intro l hl i b hb; simp only [getMem, Option.some.injEq] at hl; subst hl; simp [look] at hb
        | cons u r ih =>
          intro l hl i b hb
          simp only [getMem, oK_some, cond_some] at hl
          obtain ⟨x, hx, _, l', hl', hl⟩ := hl
          cases hl
          rw [look_cons] at hb
          by_cases hu : u = i
          · simp [hu]
          · rw [upd_ne _ _ hu] at hb; exact List.mem_cons_of_mem _ (ih l' hl' i b hb)
      exact key is me h2 i blk hi
    exact ⟨b, cs, fz, ⟨h5, hin⟩, h6, LR_ids (q := ids0 is) (fun _ _ h1 h2 => V0_ids h1 h2) h7 h4, h8⟩

end

section
variable {P : Program} {C : Cfg} {code body : Code}

/-- What a round comes to, cut down: by the way that it ends. -/
def cutK (nt ni : List Nat) (nx : Nat) (et ei : List Nat) (ex : Nat) (e : Exit) (s : St) : Option (Exit × St) :=
  match e with
  | .normal => oK (restS nt ni nx s) (fun s => some (.normal, s)) none
  | e => oK (restS et ei ex s) (fun s => some (e, s)) none

/-- One round, evaluated and cut down. -/
def roundS (C : Cfg) (m : Nat) (p : List Nat) (body : Code) (nt ni : List Nat) (nx : Nat) (et ei : List Nat) (ex : Nat) (s : St) : Option (Exit × St) :=
  evK C m p body s (fun e s' => cutK nt ni nx et ei ex e s') none

theorem round_sound (hC : CfgOk P C code) {p : List Nat} (hp : codeAt p code = some body) {m : Nat} {nt ni et ei : List Nat} {nx ex : Nat} {s s' : St} {e : Exit} (h : roundS C m p body nt ni nx et ei ex s = some (e, s'))
    {w0 : World} {R : Nat → Nat → Prop} {a : Act} {w : World} (hrel : Rel w0 C.n R s.f a w) : body.wp P (fun e' a' w' => e' = e ∧ ∃ R', Rel w0 C.n R' s'.f a' w') a w := by
  unfold roundS at h
  rw [evK_eq, oK_some] at h
  obtain ⟨⟨e1, s1⟩, h1, h2⟩ := h
  refine wp_mono (ev_sound hC hp h1 hrel) ?_
  rintro e' a' w' ⟨rfl, R', hr'⟩
  cases e' <;> simp only [cutK, oK_some] at h2 <;>
    (obtain ⟨s2, h3, h4⟩ := h2; cases h4; exact ⟨rfl, Rel.rest h3 hr'⟩)

/-- A loop of rounds from state to state. -/
theorem loop_rounds (hC : CfgOk P C code) {p : List Nat} (hp : codeAt p code = some (.loop body)) {m : Nat} {nt ni et ei : List Nat} {nx ex : Nat} (st : Nat → St) (N : Nat) {e : Exit} {sf : St} (he : e ≠ .normal)
    (step : ∀ k, k < N → roundS C m (p ++ [0]) body nt ni nx et ei ex (st k) = some (.normal, st (k + 1)))
    (last : roundS C m (p ++ [0]) body nt ni nx et ei ex (st N) = some (e, sf))
    {w0 : World} {R : Nat → Nat → Prop} {a : Act} {w : World} (hrel : Rel w0 C.n R (st 0).f a w) : (Code.loop body).wp P (fun e' a' w' => e' = e ∧ ∃ R', Rel w0 C.n R' sf.f a' w') a w := by
  have hx : codeAt (p ++ [0]) code = some body := by rw [codeAt_app, hp]; rfl
  have key : ∀ j, j ≤ N → ∀ (R : Nat → Nat → Prop) (a : Act) (w : World), Rel w0 C.n R (st (N - j)).f a w → Code.rounds P body (fun e' a' w' => e' = e ∧ ∃ R', Rel w0 C.n R' sf.f a' w') (j + 1) a w := by
    intro j
    induction j with
    | zero =>
      intro _ R a w hr
      rw [rounds_succ]
      refine wp_mono (round_sound hC hx last hr) ?_
      rintro e' a' w' ⟨rfl, hr'⟩
      cases e' with
      | normal => exact absurd rfl he
      | _ => exact ⟨rfl, hr'⟩
    | succ j ih =>
      intro hj R a w hr
      rw [rounds_succ]
      refine wp_mono (round_sound hC hx (step (N - (j + 1)) (by omega)) hr) ?_
      rintro e' a' w' ⟨rfl, R', hr'⟩
      refine ih (by omega) R' a' w' ?_
      rw [show N - j = N - (j + 1) + 1 from by omega]
      exact hr'
  exact wp_loop_rounds (N + 1) (key N (Nat.le_refl N) R a w (by rw [Nat.sub_self]; exact hrel))

end
end Go.W
