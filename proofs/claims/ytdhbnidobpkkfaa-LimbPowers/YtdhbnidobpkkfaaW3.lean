/-
  The engine, part 3: what an operation comes to hangs on its operands and on the blocks that it reads alone; and the run of each operation is what the evaluator says.
-/
import Derived.Test.YtdhbnidobpkkfaaW2
namespace Go.W

section inv
variable {α β : Type}
theorem oK_some {o : Option α} {k : α → Option β} {r : β} : oK o k none = some r ↔ ∃ a, o = some a ∧ k a = some r := by cases o <;> simp [oK]
theorem cond_some {b : Bool} {x : Option β} {r : β} : (bif b then x else none) = some r ↔ b = true ∧ x = some r := by cases b <;> simp
theorem cond_none {b : Bool} {x : Option β} {r : β} : (bif b then none else x) = some r ↔ b = false ∧ x = some r := by cases b <;> simp
theorem boolK_some {v : Value} {k : Bool → Option β} {r : β} : boolK v k none = some r ↔ ∃ b, v = .bool b ∧ k b = some r := by cases v <;> simp [boolK]
theorem intK_some {v : Value} {k : IntKind → Int → Option β} {r : β} : intK v k none = some r ↔ ∃ kd n, v = .int kd n ∧ k kd n = some r := by
  cases v <;> simp [intK]
  constructor
  · intro h; exact ⟨_, _, ⟨rfl, rfl⟩, h⟩
  · rintro ⟨_, _, ⟨rfl, rfl⟩, h⟩; exact h
theorem ptrK_some {v : Value} {k : Nat → Nat → Option β} {r : β} : ptrK v k none = some r ↔ ∃ b off, v = .pointer (some ⟨b, off, none⟩) ∧ k b off = some r := by
  unfold ptrK; split
  · constructor
    · intro h; exact ⟨_, _, rfl, h⟩
    · rintro ⟨_, _, h, h'⟩; cases h; exact h'
  · rename_i h; constructor
    · intro h'; simp at h'
    · rintro ⟨b, off, rfl, _⟩; exact absurd rfl (h b off)
theorem sliceK_some {v : Value} {k : Nat → Nat → Nat → Nat → Option β} {r : β} :
    sliceK v k none = some r ↔ ∃ b off n c, v = .slice (some ⟨b, off, none⟩) n c ∧ k b off n c = some r := by
  unfold sliceK; split
  · constructor
    · intro h; exact ⟨_, _, _, _, rfl, h⟩
    · rintro ⟨_, _, _, _, h, h'⟩; cases h; exact h'
  · rename_i h; constructor
    · intro h'; simp at h'
    · rintro ⟨b, off, n, c, rfl, _⟩; exact absurd rfl (h b off n c)
theorem aggK_some {v : Value} {k : List Value → Option β} {r : β} : aggK v k none = some r ↔ ∃ cs, v = .agg cs ∧ k cs.toList = some r := by cases v <;> simp [aggK]
theorem tupK_some {v : Value} {k : List Value → Option β} {r : β} : tupK v k none = some r ↔ ∃ cs, v = .tuple cs ∧ k cs.toList = some r := by cases v <;> simp [tupK]
theorem strK_some {v : Value} {k : ByteArray → Option β} {r : β} : strK v k none = some r ↔ ∃ s, v = .string s ∧ k s = some r := by cases v <;> simp [strK]
theorem slLenK_some {v : Value} {k : Nat → Option β} {r : β} : slLenK v k none = some r ↔ ∃ a n c, v = .slice a n c ∧ k n = some r := by
  unfold slLenK; split
  · constructor
    · intro h; exact ⟨_, _, _, rfl, h⟩
    · rintro ⟨_, _, _, h, h'⟩; cases h; exact h'
  · rename_i h; constructor
    · intro h'; simp at h'
    · rintro ⟨a, n, c, rfl, _⟩; exact absurd rfl (h a n c)
theorem oneLK_some {vs : List Value} {ts : List Nat} {k : Value → Nat → Option β} {r : β} : oneLK vs ts k none = some r ↔ ∃ v t l, vs = [v] ∧ ts = t :: l ∧ k v t = some r := by
  unfold oneLK; split
  · rename_i v t l; constructor
    · intro h; exact ⟨v, t, l, rfl, rfl, h⟩
    · rintro ⟨v', t', l', h1, h2, h3⟩
      simp at h1 h2; obtain rfl := h1; obtain ⟨rfl, rfl⟩ := h2; exact h3
  · rename_i h; constructor
    · intro h'; simp at h'
    · rintro ⟨v, t, l, rfl, rfl, _⟩; exact absurd rfl (h v t l rfl)
theorem twoK_some {vs : List Value} {ts : List Nat} {k : Value → Value → Nat → Option β} {r : β} :
    twoK vs ts k none = some r ↔ ∃ d s t l, vs = [d, s] ∧ ts = t :: l ∧ k d s t = some r := by
  unfold twoK; split
  · rename_i d s t l; constructor
    · intro h; exact ⟨d, s, t, l, rfl, rfl, h⟩
    · rintro ⟨d', s', t', l', h1, h2, h3⟩
      simp at h1 h2; obtain ⟨rfl, rfl⟩ := h1; obtain ⟨rfl, rfl⟩ := h2; exact h3
  · rename_i h; constructor
    · intro h'; simp at h'
    · rintro ⟨d, s, t, l, rfl, rfl, _⟩; exact absurd rfl (h d s t l rfl)
end inv

/-! ## What it hangs on -/

theorem evsK_congr {R : Type} {ev ev' : Operand → Option Value} : ∀ (xs : List Operand) (k : List Value → R) (f : R), (∀ x ∈ xs, ev' x = ev x) → evsK ev' xs k f = evsK ev xs k f
  | [], _, _, _ => rfl
  | x :: r, k, f, h => by
    simp only [evsK, h x (by simp)]
    congr 1; funext v
    exact evsK_congr r _ _ fun y hy => h y (by simp [hy])

theorem partsK_congr {R : Type} {ev ev' : Operand → Option Value} : ∀ (xs : List (Nat × Operand)) (k : List (Nat × Value) → R) (f : R), (∀ x ∈ xs, ev' x.2 = ev x.2) → partsK ev' xs k f = partsK ev xs k f
  | [], _, _, _ => rfl
  | x :: r, k, f, h => by
    simp only [partsK, h x (by simp)]
    congr 1; funext v
    exact partsK_congr r _ _ fun y hy => h y (by simp [hy])

theorem optK_congr {R : Type} {ev ev' : Operand → Option Value} (o : Option Operand) (k : Option Value → R) (f : R) (h : ∀ x, o = some x → ev' x = ev x) : optK ev' o k f = optK ev o k f := by
  cases o with
  | none => rfl
  | some x => simp only [optK, h x rfl]

/-- The operands alone. -/
theorem opS_ev {T : Tab} {G : Sums} {id : Nat} {op : Op} {ev ev' : Operand → Option Value} {mm : Nat → Option Blk} (h : ∀ x ∈ op.operands.toList, ev' x = ev x) :
    opS T G id op ev' mm = opS T G id op ev mm := by
  unfold opS
  cases op <;> simp only [opK] <;> simp only [Op.operands, Array.toList_append, List.mem_append, List.mem_cons, List.not_mem_nil, or_false, forall_eq_or_imp, forall_eq] at h
  case build t parts =>
    congr 1; funext i
    exact partsK_congr _ _ _ fun x hx => h _ (by simp; exact ⟨x.1, by simpa using hx⟩)
  case buildSlice t len parts =>
    congr 1; funext i
    exact partsK_congr _ _ _ fun x hx => h _ (by simp; exact ⟨x.1, by simpa using hx⟩)
  case slice t x lo hi mx =>
    cases mx with
    | some m => rfl
    | none =>
      simp only [noneK, h x (by simp)]
      congr 1; funext vx
      rw [optK_congr lo _ _ (fun y hy => h y (by simp [hy]))]
      congr 1; funext l
      rw [optK_congr hi _ _ (fun y hy => h y (by simp [hy]))]
  case call c =>
    unfold callK
    split
    · exact evsK_congr _ _ _ fun x hx => h x (by simp [Call.operands]; exact .inr (by simpa using hx))
    · exact evsK_congr _ _ _ fun x hx => h x (by simp [Call.operands]; exact .inr (by simpa using hx))
    · exact evsK_congr _ _ _ fun x hx => h x (by simp [Call.operands]; exact .inr (by simpa using hx))
    · rfl
  all_goals first | rfl | simp only [h]

theorem oK_congr {α R : Type} {o o' : Option α} {k k' : α → R} {f : R} (h : o' = o) (hk : ∀ a, o = some a → k' a = k a) : oK o' k' f = oK o k f := by
  subst h; cases o' with
  | none => rfl
  | some a => exact hk a rfl

/-- The blocks that are read alone. -/
theorem opS_mm {T : Tab} {G : Sums} {id : Nat} {op : Op} {ev : Operand → Option Value} {mm mm' : Nat → Option Blk} {r : Res} (h : opS T G id op ev mm = some r) (hm : ∀ b ∈ r.rd, mm' b = mm b) :
    opS T G id op ev mm' = some r := by
  unfold opS at *
  cases op <;> simp only [opK] at h ⊢ <;> first | exact h | skip
  case load t x =>
    simp only [oK_some, ptrK_some] at h ⊢
    obtain ⟨a, ha, b, off, hp, blk, hb, i, hi, hr⟩ := h
    refine ⟨a, ha, b, off, hp, blk, ?_, i, hi, hr⟩
    rw [← hb]; apply hm
    unfold partK at hr
    have : r.rd = [b] := by
      cases hA : isAggT i <;> simp only [hA, cond_true, cond_false] at hr
      · obtain ⟨v, _, hv⟩ := oK_some.1 hr; cases hv; rfl
      · obtain ⟨_, hv⟩ := cond_some.1 hr; cases hv; rfl
    simp [this]
  case alloc t =>
    simp only [oK_some, cond_some] at h ⊢
    obtain ⟨i, hi, hc, hr⟩ := h
    have : r.rd = [id] := by cases hr; rfl
    exact ⟨i, hi, by rw [hm id (by simp [this])]; exact hc, hr⟩
  case buildSlice t len parts =>
    have key : ∀ (xs : List (Nat × Operand)) (F F' : List (Nat × Value) → Option Res), (∀ vs, F vs = some r → F' vs = some r) → partsK ev xs F none = some r → partsK ev xs F' none = some r := by
      intro xs
      induction xs with
      | nil => intro F F' hF hh; exact hF _ hh
      | cons x xs ih =>
        intro F F' hF hh
        simp only [partsK, oK_some] at hh ⊢
        obtain ⟨v, hv, hh⟩ := hh
        exact ⟨v, hv, ih _ _ (fun vs hvs => hF _ hvs) hh⟩
    obtain ⟨i, hi, h⟩ := oK_some.1 h
    refine oK_some.2 ⟨i, hi, key _ _ _ (fun vs hvs => ?_) h⟩
    unfold descK at hvs ⊢
    cases hst : i.st <;> simp only [hst, cond_true, cond_false] at hvs ⊢
    · split at hvs <;> first | (simp at hvs; done) | skip
      obtain ⟨j, hj, h5⟩ := oK_some.1 hvs
      obtain ⟨h6, h7⟩ := cond_some.1 h5
      have hrd : r.rd = [id] := by
        have fl : ∀ (place : Nat → Option (Nat × Nat)) (ps : List (Nat × Value)) (cells : List Value) (k : List Value → Option Res), fillK place ps cells k none = some r → ∃ cs, k cs = some r := by
          intro place ps
          induction ps with
          | nil => intro cells k hk; exact ⟨cells, hk⟩
          | cons p ps ih =>
            intro cells k hk
            simp only [fillK, oK_some, cond_some] at hk
            obtain ⟨q, _, _, hk⟩ := hk
            exact ih _ _ hk
        obtain ⟨cs, hcs⟩ := fl _ _ _ _ h7
        cases hcs; rfl
      exact oK_some.2 ⟨j, hj, cond_some.2 ⟨by rw [hm id (by simp [hrd])]; exact h6, h7⟩⟩
    · simp at hvs
  case box t x =>
    simp only [oK_some, cond_some] at h ⊢
    obtain ⟨v, hv, hc, hr⟩ := h
    have : r.rd = [id] := by cases hr; rfl
    exact ⟨v, hv, by rw [hm id (by simp [this])]; exact hc, hr⟩
  case store t x y =>
    simp only [oK_some, ptrK_some] at h ⊢
    obtain ⟨a, ha, v, hv, b, off, hp, blk, hb, i, hi, hr⟩ := h
    refine ⟨a, ha, v, hv, b, off, hp, blk, ?_, i, hi, hr⟩
    rw [← hb]; apply hm
    unfold storeK at hr
    obtain ⟨_, hr⟩ := cond_some.1 hr
    have : r.rd = [b] := by
      cases hA : Nat.beq i.siz 1 <;> simp only [hA, cond_true, cond_false] at hr
      · cases hr; rfl
      · obtain ⟨v, _, hv⟩ := oK_some.1 hr; cases hv; rfl
    simp [this]
  case call c =>
    unfold callK at h ⊢
    split at h
    · exact h
    · rw [← evsK_nat (fun x : Option Res => x)] at h ⊢
      have key : ∀ (xs : List Operand) (F F' : List Value → Option Res), (∀ vs, F vs = some r → F' vs = some r) → evsK ev xs F none = some r → evsK ev xs F' none = some r := by
        intro xs
        induction xs with
        | nil => intro F F' hF hh; exact hF _ hh
        | cons x xs ih =>
          intro F F' hF hh
          simp only [evsK, oK_some] at hh ⊢
          obtain ⟨v, hv, hh⟩ := hh
          exact ⟨v, hv, ih _ _ (fun vs hvs => hF _ hvs) hh⟩
      refine key _ _ _ (fun vs hvs => ?_) h
      simp only [twoK_some] at hvs ⊢
      obtain ⟨d, s, t, l, h1, h2, h3⟩ := hvs
      refine ⟨d, s, t, l, h1, h2, ?_⟩
      unfold copyK at h3 ⊢
      simp only [sliceK_some, oK_some] at h3 ⊢
      obtain ⟨b, off, n, c1, hd, b', off', n', c2, hs, blk, hb, blk', hb', i, hi, h4⟩ := h3
      have hrd : r.rd = [b, b'] := by
        unfold descK at h4
        cases hst : i.st <;> simp only [hst, cond_true, cond_false] at h4
        · split at h4 <;> first | (simp at h4; done) | skip
          obtain ⟨j, _, h5⟩ := oK_some.1 h4
          obtain ⟨_, h6⟩ := cond_some.1 h5
          cases h6; rfl
        · simp at h4
      exact ⟨b, off, n, c1, hd, b', off', n', c2, hs, blk, by rw [← hb]; exact hm b (by simp [hrd]), blk', by rw [← hb']; exact hm b' (by simp [hrd]), i, hi, h4⟩
    · exact h
    · exact h

end Go.W
