/-
  The engine, part 9: a region in whatever order its edges allow.
-/
import Derived.Test.YtdhbnidobpkkfaaW8
namespace Go.W
open Go.RowKit (Below)

def upE (acc : List Nat) : List Edge → Nat → Nat
  | [], s => s
  | e :: r, s => upE acc r (bif Region.binds .any e && Nat.blt e.on acc.length then s ||| 2 ^ e.on ||| acc.getD e.on 0 else s)

def ancL : List Oper → List Nat → List Nat
  | [], acc => acc
  | o :: r, acc => ancL r (acc ++ [upE acc o.after.toList 0])

theorem upE_bit {acc : List Nat} {i : Nat} : ∀ (es : List Edge) (s : Nat), (upE acc es s).testBit i = true →
    s.testBit i = true ∨ ∃ e ∈ es, Region.binds .any e = true ∧ e.on < acc.length ∧ (e.on = i ∨ (acc.getD e.on 0).testBit i = true)
  | [], s, h => .inl h
  | e :: r, s, h => by
    rcases upE_bit r _ h with h1 | ⟨e', h1, h2⟩
    · cases hb : (Region.binds .any e && Nat.blt e.on acc.length) with
      | false => rw [hb] at h1; exact .inl h1
      | true =>
        rw [hb] at h1
        simp only [Bool.and_eq_true] at hb
        simp only [cond_true, Nat.testBit_or, Bool.or_eq_true, Nat.testBit_two_pow, decide_eq_true_eq] at h1
        rcases h1 with (h1 | h1) | h1
        · exact .inl h1
        · exact .inr ⟨e, by simp, hb.1, (Nat.blt_eq ▸ hb.2), .inl h1⟩
        · exact .inr ⟨e, by simp, hb.1, (Nat.blt_eq ▸ hb.2), .inr h1⟩
    · exact .inr ⟨e', by simp [h1], h2⟩

theorem ancL_prefix : ∀ (l : List Oper) (acc : List Nat), ∃ t, ancL l acc = acc ++ t
  | [], acc => ⟨[], by simp [ancL]⟩
  | o :: r, acc => by
    obtain ⟨t, ht⟩ := ancL_prefix r (acc ++ [upE acc o.after.toList 0])
    exact ⟨_, by simp only [ancL, ht, List.append_assoc]; rfl⟩

theorem ancL_at : ∀ (l : List Oper) (acc : List Nat) (k : Nat) (o : Oper), l[k]? = some o →
    (ancL l acc).getD (acc.length + k) 0 = upE ((ancL l acc).take (acc.length + k)) o.after.toList 0 ∧ acc.length + k ≤ (ancL l acc).length
  | [], _, _, _, h => by simp at h
  | x :: r, acc, 0, o, h => by
    simp only [List.getElem?_cons_zero, Option.some.injEq] at h
    subst h
    obtain ⟨t, ht⟩ := ancL_prefix r (acc ++ [upE acc x.after.toList 0])
    simp only [ancL, ht, Nat.add_zero, List.append_assoc]
    constructor
    · rw [List.take_left, List.getD_eq_getElem?_getD, List.getElem?_append_right (Nat.le_refl _)]
      simp
    · simp
  | x :: r, acc, k + 1, o, h => by
    simp only [List.getElem?_cons_succ] at h
    have := ancL_at r (acc ++ [upE acc x.after.toList 0]) k o h
    simp only [List.length_append, List.length_cons, List.length_nil, Nat.zero_add] at this
    simp only [ancL]
    rw [show acc.length + (k + 1) = acc.length + 1 + k from by omega]
    exact this

theorem anc_step {ops : Array Oper} {j i : Nat} {o : Oper} (ho : ops[j]? = some o) (h : ((ancL ops.toList []).getD j 0).testBit i = true) :
    ∃ e ∈ o.after.toList, Region.binds .any e = true ∧ e.on < j ∧ (e.on = i ∨ ((ancL ops.toList []).getD e.on 0).testBit i = true) := by
  have h0 := ancL_at ops.toList [] j o (by rw [Array.getElem?_toList]; exact ho)
  simp only [List.length_nil, Nat.zero_add] at h0
  rw [h0.1] at h
  rcases upE_bit _ _ h with h1 | ⟨e, h1, h2, h3, h4⟩
  · simp at h1
  · simp only [List.length_take] at h3
    refine ⟨e, h1, h2, by omega, ?_⟩
    rcases h4 with h4 | h4
    · exact .inl h4
    · refine .inr ?_
      rw [List.getD_eq_getElem?_getD] at h4 ⊢
      rwa [List.getElem?_take_of_lt (by omega)] at h4

def closedL (ops : Array Oper) (listed : Array Bool) : Prop :=
  ∀ (j : Nat) (o : Oper), ops[j]? = some o → listed[j]? = some true → ∀ e ∈ o.after.toList, Region.binds .any e = true → listed.getD e.on false = true

theorem anc_listed {ops : Array Oper} {listed : Array Bool} (hc : closedL ops listed) : ∀ (j : Nat) (o : Oper), ops[j]? = some o → (∀ e ∈ o.after.toList, Region.binds .any e = true → listed.getD e.on false = true) →
    ∀ i, ((ancL ops.toList []).getD j 0).testBit i = true → listed.getD i false = true := by
  intro j
  induction j using Nat.strongRecOn with
  | _ j ih =>
    intro o ho hready i hi
    obtain ⟨e, he, hb, hlt, h⟩ := anc_step ho hi
    have hl := hready e he hb
    rcases h with rfl | h
    · exact hl
    · have hjs : j < ops.size := by
        rcases Nat.lt_or_ge j ops.size with h | h
        · exact h
        · rw [Array.getElem?_eq_none h] at ho; simp at ho
      have hoe : ops[e.on]? = some ops[e.on] := Array.getElem?_eq_getElem (by omega)
      refine ih e.on hlt _ hoe (hc _ _ hoe ?_) i h
      rw [Array.getD_eq_getD_getElem?] at hl
      cases hx : listed[e.on]? with
      | none => rw [hx] at hl; simp at hl
      | some b => rw [hx] at hl; simp at hl; rw [hl]

def okWith (ops : Array Oper) (Aj : Nat) (y : Rec) : List Rec → Nat → Bool
  | [], _ => true
  | x :: r, i => (Aj.testBit i || !clash ops x y) && okWith ops Aj y r (i + 1)

def okAll (ops : Array Oper) (A : List Nat) : List Rec → List Rec → Bool
  | _, [] => true
  | done, y :: r => okWith ops (A.getD done.length 0) y done 0 && okAll ops A (done ++ [y]) r

theorem okWith_at {ops : Array Oper} {Aj : Nat} {y : Rec} : ∀ (l : List Rec) (i : Nat), okWith ops Aj y l i = true → ∀ k x, l[k]? = some x → Aj.testBit (i + k) = true ∨ clash ops x y = false
  | [], _, _, _, _, h => by simp at h
  | z :: l, i, h, 0, x, hx => by
    simp only [okWith, Bool.and_eq_true, Bool.or_eq_true, Bool.not_eq_true'] at h
    simp at hx; subst hx
    exact h.1
  | z :: l, i, h, k + 1, x, hx => by
    simp only [okWith, Bool.and_eq_true] at h
    have := okWith_at l (i + 1) h.2 k x (by simpa using hx)
    rwa [show i + (k + 1) = i + 1 + k from by omega]

theorem okAll_at {ops : Array Oper} {A : List Nat} : ∀ (todo done : List Rec), okAll ops A done todo = true → ∀ k y, todo[k]? = some y → ∀ i x, (done ++ todo)[i]? = some x → i < done.length + k →
    (A.getD (done.length + k) 0).testBit i = true ∨ clash ops x y = false
  | [], _, _, _, _, h, _, _, _, _ => by simp at h
  | z :: todo, done, h, 0, y, hy, i, x, hx, hlt => by
    simp only [okAll, Bool.and_eq_true] at h
    simp at hy; subst hy
    have := okWith_at done 0 h.1 i x (by rwa [List.getElem?_append_left (by omega)] at hx)
    simpa using this
  | z :: todo, done, h, k + 1, y, hy, i, x, hx, hlt => by
    simp only [okAll, Bool.and_eq_true] at h
    have := okAll_at todo (done ++ [z]) h.2 k y (by simpa using hy) i x (by simpa using hx) (by simp; omega)
    simpa [Nat.add_assoc, Nat.add_comm 1 k] using this

def edgesDown : List Oper → Nat → Bool
  | [], _ => true
  | o :: r, j => o.after.toList.all (fun e => !Region.binds .any e || Nat.blt e.on j) && edgesDown r (j + 1)

theorem edgesDown_at : ∀ (l : List Oper) (j : Nat), edgesDown l j = true → ∀ k o, l[k]? = some o → ∀ e ∈ o.after.toList, Region.binds .any e = true → e.on < j + k
  | [], _, _, _, _, h => by simp at h
  | z :: l, j, h, 0, o, ho => by
    simp only [edgesDown, Bool.and_eq_true] at h
    simp at ho; subst ho
    intro e he hb
    have := List.all_eq_true.1 h.1 e he
    simp only [hb, Bool.not_true, Bool.false_or] at this
    rw [Nat.blt_eq] at this; simpa using this
  | z :: l, j, h, k + 1, o, ho => by
    simp only [edgesDown, Bool.and_eq_true] at h
    intro e he hb
    have := edgesDown_at l (j + 1) h.2 k o (by simpa using ho) e he hb
    omega

def drawOk (ops : Array Oper) (recs : List Rec) : Bool := edgesDown ops.toList 0 && okAll ops (ancL ops.toList []) [] recs

section
variable {P : Program} {T : Tab} {G : Sums} {w0 : World} {n : Nat} {ops : Array Oper} {Q : Exit → Act → World → Prop}

theorem any_sound (hT : TabOk P T) (hG : SumsOk P G) {recs : List Rec} (hok : drawOk ops recs = true) : ∀ (fuel : Nat) (I : List (Nat × Rec)) (listed : Array Bool) {R : Nat → Nat → Prop} {S S' : FS} {a : Act} {w : World},
    I.length ≤ fuel → I.Pairwise (fun x y => x.1 < y.1) →
    (∀ c ∈ I, ops[c.1]? = some c.2.o ∧ recs[c.1]? = some c.2 ∧ ∀ t, c.2.o.dst = some t → t < n) →
    (∀ j, (∃ c ∈ I, c.1 = j) ↔ (j < ops.size ∧ listed.getD j true = false)) → (∀ j, j < ops.size → j < listed.size) → closedL ops listed →
    RunL T G ops (I.map (·.2)) S S' → Rel w0 n R S a w → (∀ R a w, Rel w0 n R S' a w → Q .normal a w) → wpAny P .any ops Q fuel listed a w := by
  have hdown := edgesDown_at ops.toList 0 (by simp only [drawOk, Bool.and_eq_true] at hok; exact hok.1)
  have hpairs := okAll_at recs [] (by simp only [drawOk, Bool.and_eq_true] at hok; exact hok.2)
  simp only [Nat.zero_add, List.length_nil, List.nil_append] at hdown hpairs
  -- the least of those that wait is ready
  have hmin : ∀ (c : Nat × Rec) (I : List (Nat × Rec)) (listed : Array Bool), (c :: I).Pairwise (fun x y => x.1 < y.1) → (∀ d ∈ c :: I, ops[d.1]? = some d.2.o ∧ recs[d.1]? = some d.2 ∧ ∀ t, d.2.o.dst = some t → t < n) →
      (∀ j, (∃ d ∈ c :: I, d.1 = j) ↔ (j < ops.size ∧ listed.getD j true = false)) → c.1 ∈ Region.ready .any ops listed := by
    intro c I listed hs hI hl
    obtain ⟨h1, _, _⟩ := hI c (by simp)
    obtain ⟨h2, h3⟩ := (hl c.1).1 ⟨c, by simp, rfl⟩
    unfold Region.ready
    rw [List.mem_filter]
    refine ⟨List.mem_range.2 h2, ?_⟩
    simp only [h3, Bool.not_false, Bool.true_and, h1, Option.map_some, Option.getD_some]
    rw [Array.all_eq_true_iff_forall_mem]
    intro e he
    cases hb : Region.binds .any e with
    | false => rfl
    | true =>
      simp only [Bool.not_true, Bool.false_or]
      have hlt := hdown c.1 c.2.o (by rw [Array.getElem?_toList]; exact h1) e (by simpa using he) hb
      cases hx : listed.getD e.on false with
      | true => rfl
      | false =>
        exfalso
        have hx' : listed.getD e.on true = false ∨ listed[e.on]? = none := by
          rw [Array.getD_eq_getD_getElem?] at hx ⊢
          cases hy : listed[e.on]? with
          | none => exact .inr rfl
          | some b => rw [hy] at hx; simp at hx; left; simp [hx]
        rcases hx' with hx' | hx'
        · obtain ⟨d, hd, hde⟩ := (hl e.on).2 ⟨by omega, hx'⟩
          rcases List.mem_cons.1 hd with rfl | hd
          · omega
          · have := List.rel_of_pairwise_cons hs hd
            omega
        · have := Array.getElem?_eq_none_iff.1 hx'
          rw [Array.getD_eq_getD_getElem?, Array.getElem?_eq_none (by omega)] at h3
          simp at h3
  intro fuel
  induction fuel with
  | zero =>
    intro I listed R S S' a w hf hs hI hl hsz hc hrun h hQ
    have : I = [] := List.length_eq_zero_iff.1 (Nat.le_zero.1 hf)
    subst this
    have hr : Region.ready .any ops listed = [] := by
      unfold Region.ready
      rw [List.filter_eq_nil_iff]
      intro j hj
      have hj := List.mem_range.1 hj
      cases hx : listed.getD j true with
      | true => simp
      | false => exact absurd ((hl j).2 ⟨hj, hx⟩) (by simp)
    have : S = S' := hrun
    subst this
    exact ⟨hr, hQ R a w h⟩
  | succ fuel ih =>
    intro I listed R S S' a w hf hs hI hl hsz hc hrun h hQ
    constructor
    · intro hr
      cases I with
      | nil => have : S = S' := hrun; subst this; exact hQ R a w h
      | cons c I => have := hmin c I listed hs hI hl; rw [hr] at this; simp at this
    · intro i hi
      unfold Region.ready at hi
      rw [List.mem_filter] at hi
      obtain ⟨hi1, hi2⟩ := hi
      have hi1 := List.mem_range.1 hi1
      simp only [Bool.and_eq_true, Bool.not_eq_true'] at hi2
      obtain ⟨hi2, hi3⟩ := hi2
      obtain ⟨c, hc1, rfl⟩ := (hl i).2 ⟨hi1, hi2⟩
      obtain ⟨pre, post, rfl⟩ := List.append_of_mem hc1
      obtain ⟨k1, k2, k3⟩ := hI c hc1
      have hready : ∀ e ∈ c.2.o.after.toList, Region.binds .any e = true → listed.getD e.on false = true := by
        intro e he hb
        simp only [k1, Option.map_some, Option.getD_some, Array.all_eq_true_iff_forall_mem] at hi3
        have := hi3 e (by simpa using he)
        simpa [hb] using this
      have hpw := List.pairwise_append.1 hs
      -- none of those ahead clashes with it
      have hfront : RunL T G ops (c.2 :: (pre.map (·.2) ++ post.map (·.2))) S S' := by
        refine RunL_front _ (fun p hp => ?_) (by simpa using hrun)
        obtain ⟨d, hd, rfl⟩ := List.mem_map.1 hp
        obtain ⟨j1, j2, _⟩ := hI d (by simp [hd])
        have hlt : d.1 < c.1 := hpw.2.2 d hd c (by simp)
        rcases hpairs c.1 c.2 k2 d.1 d.2 j2 hlt with hb | hb
        · have hlisted := anc_listed hc c.1 c.2.o k1 hready d.1 hb
          have hd2 := ((hl d.1).1 ⟨d, by simp [hd], rfl⟩).2
          rw [Array.getD_eq_getD_getElem?] at hlisted hd2
          cases hx : listed[d.1]? with
          | none => rw [hx] at hlisted; simp at hlisted
          | some b => rw [hx] at hlisted hd2; simp at hlisted hd2; rw [hlisted] at hd2; simp at hd2
        · exact hb
      refine step_sound hT hG h k1 k3 hfront.1 fun R' a' w' h' => ?_
      refine ih (pre ++ post) (listed.setIfInBounds c.1 true) (by simp at hf ⊢; omega) ?_ (fun d hd => hI d (by
          rcases List.mem_append.1 hd with hd | hd <;> simp [hd])) ?_ (by simpa using hsz) ?_ (by simpa using hfront.2) h' hQ
      · refine List.pairwise_append.2 ⟨hpw.1, (List.pairwise_cons.1 hpw.2.1).2, fun x hx y hy => hpw.2.2 x hx y (by simp [hy])⟩
      · intro j
        have hcs : c.1 < listed.size := hsz _ hi1
        by_cases hj : c.1 = j
        · subst hj
          constructor
          · rintro ⟨d, hd, he⟩
            rcases List.mem_append.1 hd with hd | hd
            · have := hpw.2.2 d hd c (by simp); omega
            · have := (List.pairwise_cons.1 hpw.2.1).1 d hd; omega
          · rintro ⟨_, hx⟩
            rw [Array.getD_eq_getD_getElem?, Array.getElem?_setIfInBounds_self_of_lt hcs] at hx
            simp at hx
        · rw [Array.getD_eq_getD_getElem?, Array.getElem?_setIfInBounds_ne hj, ← Array.getD_eq_getD_getElem?, ← hl j]
          constructor
          · rintro ⟨d, hd, he⟩
            refine ⟨d, ?_, he⟩
            rcases List.mem_append.1 hd with hd | hd <;> simp [hd]
          · rintro ⟨d, hd, he⟩
            refine ⟨d, ?_, he⟩
            rcases List.mem_append.1 hd with hd | hd
            · simp [hd]
            · rcases List.mem_cons.1 hd with rfl | hd
              · exact absurd he hj
              · simp [hd]
      · intro j o ho hj e he hb
        by_cases hje : e.on = c.1
        · rw [hje, Array.getD_eq_getD_getElem?, Array.getElem?_setIfInBounds_self_of_lt (hsz _ hi1)]; rfl
        · rw [Array.getD_eq_getD_getElem?, Array.getElem?_setIfInBounds_ne (Ne.symm hje), ← Array.getD_eq_getD_getElem?]
          by_cases hjc : c.1 = j
          · subst hjc
            rw [k1] at ho
            cases ho
            exact hready e he hb
          · rw [Array.getElem?_setIfInBounds_ne hjc] at hj
            exact hc j o ho hj e he hb

end
end Go.W
