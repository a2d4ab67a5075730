/-
  The engine, part 8: regions: in the order of the text; and in whatever order, where what may clash is ordered.
-/
import Derived.Test.YtdhbnidobpkkfaaW7
namespace Go.W
open Go.RowKit (Below)

structure Rec where
  o : Oper
  id : Nat
  r : Res

def nmem (d : Nat) : List Nat → Bool
  | [] => false
  | x :: l => Nat.beq x d || nmem d l

theorem nmem_iff {d : Nat} {l : List Nat} : nmem d l = true ↔ d ∈ l := by
  induction l with
  | nil => simp [nmem]
  | cons x l ih =>
    simp only [nmem, Bool.or_eq_true, ih, nbeq, List.mem_cons]
    exact ⟨fun h => h.elim (fun e => .inl e.symm) .inr, fun h => h.elim (fun e => .inl e.symm) .inr⟩

def opTmps : List Operand → List Nat
  | [] => []
  | .tmp t :: r => t :: opTmps r
  | _ :: r => opTmps r

theorem opTmps_mem {t : Nat} {l : List Operand} (h : .tmp t ∈ l) : t ∈ opTmps l := by
  induction l with
  | nil => simp at h
  | cons x l ih =>
    rcases List.mem_cons.1 h with rfl | h'
    · simp [opTmps]
    · cases x <;> simp [opTmps, ih h']

def gslot (ops : Array Oper) (o : Oper) : Option Nat := o.guard.bind fun g => (ops[g.1]?).bind (·.dst)

def looks (ops : Array Oper) (o : Oper) : List Nat := opTmps o.op.operands.toList ++ (gslot ops o).toList

def wrs (c : Rec) : List Nat := (match c.r.new with | some _ => [c.id] | none => []) ++ (match c.r.wr with | some p => [p.1] | none => [])

def dstIn (d : Option Nat) (l : List Nat) : Bool :=
  match d with
  | some t => nmem t l
  | none => false

def meets (l m : List Nat) : Bool :=
  match l with
  | [] => false
  | x :: l => nmem x m || meets l m

theorem meets_false {l m : List Nat} (h : meets l m = false) : ∀ x ∈ l, x ∉ m := by
  induction l with
  | nil => simp
  | cons y l ih =>
    simp only [meets, Bool.or_eq_false_iff] at h
    intro x hx
    rcases List.mem_cons.1 hx with rfl | hx
    · intro hm; rw [nmem_iff.2 hm] at h; simp at h
    · exact ih h.2 x hx

/-- The two may not change places. -/
def clash (ops : Array Oper) (x y : Rec) : Bool :=
  dstIn x.o.dst (looks ops y.o) || dstIn x.o.dst y.o.dst.toList || dstIn y.o.dst (looks ops x.o) ||
  meets (wrs x) y.r.rd || meets (wrs x) (wrs y) || meets (wrs y) x.r.rd

/-- What a slot holds whose operation was passed over. -/
def isTup (v : Value) : Bool :=
  match v with
  | .tuple _ => true
  | _ => false

section
variable (T : Tab) (G : Sums) (ops : Array Oper)

def stepF (id : Nat) (o : Oper) (S : FS) : Option Res :=
  match o.guard with
  | none => opS T G id o.op (evF S.fs) S.fm
  | some g => oK (gslot ops o) (fun t => oK (S.fs t) (fun v => bif isTup v then some (val undef) else boolK v (fun b => bif b == g.2 then opS T G id o.op (evF S.fs) S.fm else some (val undef)) none) none) none

def RunL : List Rec → FS → FS → Prop
  | [], S, S' => S = S'
  | c :: I, S, S' => stepF T G ops c.id c.o S = some c.r ∧ RunL I (S.apply c.o.dst c.id c.r) S'

variable {T G ops}

theorem stepF_congr {id : Nat} {o : Oper} {S S' : FS} {r : Res} (h : stepF T G ops id o S = some r) (hs : ∀ t ∈ looks ops o, S'.fs t = S.fs t) (hm : ∀ b ∈ r.rd, S'.fm b = S.fm b) :
    stepF T G ops id o S' = some r := by
  have hev : ∀ x ∈ o.op.operands.toList, evF S'.fs x = evF S.fs x := by
    intro x hx
    cases x with
    | tmp t => exact hs t (List.mem_append_left _ (opTmps_mem hx))
    | _ => rfl
  have hop : ∀ r, opS T G id o.op (evF S.fs) S.fm = some r → (∀ b ∈ r.rd, S'.fm b = S.fm b) → opS T G id o.op (evF S'.fs) S'.fm = some r := by
    intro r hr hm
    rw [opS_ev hev]
    exact opS_mm hr hm
  unfold stepF at *
  split at h
  · rename_i hg; simp only [hg] at *; exact hop r h hm
  · rename_i g hg
    simp only [hg] at *
    simp only [oK_some] at h ⊢
    obtain ⟨t, ht, v, hv, h⟩ := h
    refine ⟨t, ht, v, by rw [← hv]; exact hs t (List.mem_append_right _ (by simp [ht])), ?_⟩
    cases hu : isTup v with
    | true => simp only [hu, cond_true] at h ⊢; exact h
    | false =>
      simp only [hu, cond_false, boolK_some] at h ⊢
      obtain ⟨b, hb, h⟩ := h
      refine ⟨b, hb, ?_⟩
      cases hbg : (b == g.2) with
      | true => simp only [hbg, cond_true] at h ⊢; exact hop r h hm
      | false => simp only [hbg, cond_false] at h ⊢; exact h

theorem putF_ne {f : Nat → Option Value} {d : Option Nat} {v : Value} {t : Nat} (h : ∀ u, d = some u → u ≠ t) : putF f d v t = f t := by
  cases d with
  | none => rfl
  | some u => exact upd_ne _ _ (h u rfl)

theorem memF_ne {fm : Nat → Option Blk} {c : Rec} {b : Nat} (h : b ∉ wrs c) : memF fm c.id c.r.new c.r.wr b = fm b := by
  obtain ⟨o, id, v, new, wr, rd⟩ := c
  simp only [wrs, List.mem_append, not_or] at h
  cases new <;> cases wr <;> simp only [memF] at * <;> simp at h
  · exact upd_ne _ _ (Ne.symm h)
  · exact upd_ne _ _ (Ne.symm h)
  · rw [upd_ne _ _ (Ne.symm h.2), upd_ne _ _ (Ne.symm h.1)]

theorem putF_comm {f : Nat → Option Value} {d e : Option Nat} {v u : Value} (h : ∀ t, d = some t → e ≠ some t) : putF (putF f d v) e u = putF (putF f e u) d v := by
  cases d with
  | none => rfl
  | some t =>
    cases e with
    | none => rfl
    | some s => exact upd_comm _ _ _ (fun hts => h t rfl (by rw [hts]))

theorem upd_comm' {α : Type} (f : Nat → Option α) {t u : Nat} (v x : α) (h : u ≠ t) : upd (upd f t v) u x = upd (upd f u x) t v := upd_comm f v x (Ne.symm h)

theorem memF_eq (fm : Nat → Option Blk) (c : Rec) (b : Nat) : b ∈ wrs c → ∀ fm', memF fm c.id c.r.new c.r.wr b = memF fm' c.id c.r.new c.r.wr b := by
  intro hb fm'
  obtain ⟨o, id, v, new, wr, rd⟩ := c
  simp only [wrs, List.mem_append] at hb
  cases new with
  | none => cases wr with
    | none => simp at hb
    | some p => simp at hb; subst hb; simp [memF, upd_same]
  | some nb => cases wr with
    | none => simp at hb; subst hb; simp [memF, upd_same]
    | some p =>
      simp at hb
      simp only [memF]
      by_cases hp : p.1 = b
      · subst hp; simp [upd_same]
      · rcases hb with rfl | hb
        · rw [upd_ne _ _ hp, upd_ne _ _ hp, upd_same, upd_same]
        · exact absurd hb.symm hp

theorem memF_comm {fm : Nat → Option Blk} {x y : Rec} (h : meets (wrs x) (wrs y) = false) :
    memF (memF fm x.id x.r.new x.r.wr) y.id y.r.new y.r.wr = memF (memF fm y.id y.r.new y.r.wr) x.id x.r.new x.r.wr := by
  funext b
  have hm := meets_false h
  by_cases hx : b ∈ wrs x
  · have hy := hm b hx
    rw [memF_ne hy]
    exact memF_eq _ _ _ hx _
  · rw [memF_ne hx]
    by_cases hy : b ∈ wrs y
    · exact memF_eq _ _ _ hy _
    · rw [memF_ne hy, memF_ne hy, memF_ne hx]

theorem dstIn_false {d : Option Nat} {l : List Nat} (h : dstIn d l = false) : ∀ u, d = some u → u ∉ l := by
  rintro u rfl hm
  simp only [dstIn] at h
  rw [nmem_iff.2 hm] at h
  simp at h

/-- Two that do not clash change places. -/
theorem RunL_swap {x y : Rec} {I : List Rec} {S S' : FS} (hc : clash ops x y = false) (h : RunL T G ops (x :: y :: I) S S') : RunL T G ops (y :: x :: I) S S' := by
  simp only [clash, Bool.or_eq_false_iff] at hc
  obtain ⟨⟨⟨⟨⟨c1, c2⟩, c3⟩, c4⟩, c5⟩, c6⟩ := hc
  obtain ⟨h1, h2, h3⟩ := h
  have d1 := dstIn_false c1
  have d3 := dstIn_false c3
  have m4 := meets_false c4
  have m6 := meets_false c6
  refine ⟨stepF_congr h2 (fun t ht => ?_) (fun b hb => ?_), stepF_congr h1 (fun t ht => ?_) (fun b hb => ?_), ?_⟩
  · exact (putF_ne (fun u hu e => d1 u hu (e ▸ ht))).symm
  · exact (memF_ne (fun hw => m4 b hw hb)).symm
  · exact putF_ne (fun u hu e => d3 u hu (e ▸ ht))
  · exact memF_ne (fun hw => m6 b hw hb)
  · have : (S.apply y.o.dst y.id y.r).apply x.o.dst x.id x.r = (S.apply x.o.dst x.id x.r).apply y.o.dst y.id y.r := by
      simp only [FS.apply]
      congr 1
      · refine putF_comm fun t ht e => ?_
        have := dstIn_false c2 t e
        rw [ht] at this
        simp at this
      · exact (memF_comm c5).symm
    rw [this]; exact h3

theorem RunL_front {x : Rec} : ∀ (pre : List Rec) {post : List Rec} {S S' : FS}, (∀ p ∈ pre, clash ops p x = false) → RunL T G ops (pre ++ x :: post) S S' → RunL T G ops (x :: (pre ++ post)) S S'
  | [], _, _, _, _, h => h
  | p :: pre, post, S, S', hc, h => by
    have h' : RunL T G ops (p :: x :: (pre ++ post)) S S' := ⟨h.1, RunL_front pre (fun q hq => hc q (by simp [hq])) h.2⟩
    exact RunL_swap (hc p (by simp)) h'

end

section
variable {P : Program} {T : Tab} {G : Sums} {w0 w : World} {n : Nat} {R : Nat → Nat → Prop} {S : FS} {a : Act} {ops : Array Oper} {Q : Exit → Act → World → Prop}

/-- One operation of a region, with its guard. -/
theorem step_sound (hT : TabOk P T) (hG : SumsOk P G) (h : Rel w0 n R S a w) {i : Nat} {o : Oper} (hi : ops[i]? = some o) {id : Nat} (hd : ∀ t, o.dst = some t → t < n) {r : Res}
    (hr : stepF T G ops id o S = some r) {K : Act → World → Prop} (hK : ∀ R' a' w', Rel w0 n R' (S.apply o.dst id r) a' w' → K a' w') : wpOp P ops Q i K a w := by
  unfold wpOp
  simp only [hi]
  unfold stepF at hr
  split at hr
  · rename_i hg
    have : Region.wanted o (yielded ops a.tmps) = true := by simp [Region.wanted, hg]
    rw [if_pos this]
    exact .inl (op_sound hT hG h hd hr hK)
  · rename_i g hg
    simp only [oK_some] at hr
    obtain ⟨t, ht, v, hv, hr⟩ := hr
    obtain ⟨v', h1, h2⟩ := h.slot t _ hv
    cases hu : isTup v with
    | true =>
      simp only [hu, cond_true] at hr
      cases hr
      have hw : Region.wanted o (yielded ops a.tmps) = false := by
        obtain ⟨j, want⟩ := g
        simp only [gslot, hg, Option.bind_some] at ht
        unfold isTup at hu
        split at hu
        · obtain ⟨cs', rfl, _⟩ := V2_tuple h2
          simp [Region.wanted, hg, yielded, ht, h1]
        · simp at hu
      rw [hw]
      exact hK R _ _ (h.put hd V2_undef)
    | false =>
    simp only [hu, cond_false, boolK_some] at hr
    obtain ⟨b, rfl, hr⟩ := hr
    have := V2_bool h2; subst this
    have hy : yielded ops a.tmps g.1 = some b := by
      simp only [gslot, hg, Option.bind_some] at ht
      simp [yielded, ht, h1]
    have hw : Region.wanted o (yielded ops a.tmps) = (b == g.2) := by
      obtain ⟨j, want⟩ := g
      simp only [Region.wanted, hg] at *
      rw [hy]
      cases b <;> cases want <;> rfl
    rw [hw]
    cases hbg : (b == g.2) with
    | true =>
      simp only [hbg, cond_true] at hr
      exact .inl (op_sound hT hG h hd hr hK)
    | false =>
      simp only [hbg, cond_false] at hr
      cases hr
      exact hK R _ _ (h.put hd V2_undef)

/-- In the order of the text. -/
theorem text_sound (hT : TabOk P T) (hG : SumsOk P G) : ∀ (I : List (Nat × Rec)) {R : Nat → Nat → Prop} {S S' : FS} {a : Act} {w : World}, RunL T G ops (I.map (·.2)) S S' → Rel w0 n R S a w →
    (∀ c ∈ I, ops[c.1]? = some c.2.o ∧ ∀ t, c.2.o.dst = some t → t < n) → (∀ R a w, Rel w0 n R S' a w → Q .normal a w) → wpOps P ops Q (I.map (·.1)) a w
  | [], R, S, S', a, w, hrun, h, _, hQ => by
    have : S = S' := hrun
    subst this; exact hQ R a w h
  | c :: I, R, S, S', a, w, hrun, h, hI, hQ => by
    simp only [List.map_cons]
    rw [wpOps_cons]
    obtain ⟨h1, h2⟩ := hI c (by simp)
    exact step_sound hT hG h h1 h2 hrun.1 fun R' a' w' h' => text_sound hT hG I hrun.2 h' (fun d hd => hI d (by simp [hd])) hQ

end
end Go.W
