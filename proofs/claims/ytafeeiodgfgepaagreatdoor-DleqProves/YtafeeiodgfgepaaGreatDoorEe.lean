/-
  Several texts in one.
-/
import Derived.Test.YtafeeiodgfgepaaGreatDoorEg
import Derived.LoopN
import Derived.Scope
/-
  The engine, part 8: regions: in the order of the text; and in whatever order, where what may clash is ordered.
-/
namespace Go.W
open Go.RowKit (Below)
structure Rec where
  o : Oper
  id : Nat
  r : Res
def opTmps : List Operand → List Nat
  | [] => []
  | .tmp t :: r => t :: opTmps r
  | _ :: r => opTmps r
theorem opTmps_mem {t : Nat} {l : List Operand} (h : .tmp t ∈ l) : t ∈ opTmps l := by
  induction l with
  | nil => simp at h
  | cons x l ih =>
    rcases List.mem_cons.1 h with rfl | h'
    · simp [opTmps]
    · cases x <;> simp [opTmps, ih h']
def gslot (ops : Array Oper) (o : Oper) : Option Nat := o.guard.bind fun g => (ops[g.1]?).bind (·.dst)
def looks (ops : Array Oper) (o : Oper) : List Nat := opTmps o.op.operands.toList ++ (gslot ops o).toList
def wrs (c : Rec) : List Nat := c.r.mem.map (·.1)
def dstIn (d : Option Nat) (l : List Nat) : Bool :=
  match d with
  | some t => nmem t l
  | none => false
def meets (l m : List Nat) : Bool :=
  match l with
  | [] => false
  | x :: l => nmem x m || meets l m
theorem meets_false {l m : List Nat} (h : meets l m = false) : ∀ x ∈ l, x ∉ m := by
  induction l with
  | nil => simp
  | cons y l ih =>
    simp only [meets, Bool.or_eq_false_iff] at h
    intro x hx
    rcases List.mem_cons.1 hx with rfl | hx
    · intro hm; rw [nmem_iff.2 hm] at h; simp at h
    · exact ih h.2 x hx
def clash (ops : Array Oper) (x y : Rec) : Bool :=
  dstIn x.o.dst (looks ops y.o) || dstIn x.o.dst y.o.dst.toList || dstIn y.o.dst (looks ops x.o) ||
  meets (wrs x) y.r.rd || meets (wrs x) (wrs y) || meets (wrs y) x.r.rd
def isTup (v : Value) : Bool :=
  match v with
  | .tuple _ => true
  | _ => false
section
variable (T : Tab) (G : Sums) (ops : Array Oper)
def stepF (id : Nat) (o : Oper) (S : FS) : Option Res :=
  match o.guard with
  | none => opS T G id o.op (evF S.fs) S.fm
  | some g => oK (gslot ops o) (fun t => oK (S.fs t) (fun v => bif isTup v then some (val undef) else boolK v (fun b => bif b == g.2 then opS T G id o.op (evF S.fs) S.fm else some (val undef)) none) none) none
def RunL : List Rec → FS → FS → Prop
  | [], S, S' => S = S'
  | c :: I, S, S' => stepF T G ops c.id c.o S = some c.r ∧ RunL I (S.apply c.o.dst c.r) S'
variable {T G ops}
theorem stepF_congr {id : Nat} {o : Oper} {S S' : FS} {r : Res} (h : stepF T G ops id o S = some r) (hs : ∀ t ∈ looks ops o, S'.fs t = S.fs t) (hm : ∀ b ∈ r.rd, S'.fm b = S.fm b) :
    stepF T G ops id o S' = some r := by
  have hev : ∀ x ∈ o.op.operands.toList, evF S'.fs x = evF S.fs x := by
    intro x hx
    cases x with
    | tmp t => exact hs t (List.mem_append_left _ (opTmps_mem hx))
    | _ => rfl
  have hop : ∀ r, opS T G id o.op (evF S.fs) S.fm = some r → (∀ b ∈ r.rd, S'.fm b = S.fm b) → opS T G id o.op (evF S'.fs) S'.fm = some r := by
    intro r hr hm
    rw [opS_ev hev]
    exact opS_mm hr hm
  unfold stepF at *
  split at h
  · rename_i hg; simp only [hg] at *; exact hop r h hm
  · rename_i g hg
    simp only [hg] at *
    simp only [oK_some] at h ⊢
    obtain ⟨t, ht, v, hv, h⟩ := h
    refine ⟨t, ht, v, by rw [← hv]; exact hs t (List.mem_append_right _ (by simp [ht])), ?_⟩
    cases hu : isTup v with
    | true => simp only [hu, cond_true] at h ⊢; exact h
    | false =>
      simp only [hu, cond_false, boolK_some] at h ⊢
      obtain ⟨b, hb, h⟩ := h
      refine ⟨b, hb, ?_⟩
      cases hbg : (b == g.2) with
      | true => simp only [hbg, cond_true] at h ⊢; exact hop r h hm
      | false => simp only [hbg, cond_false] at h ⊢; exact h
theorem putF_ne {f : Nat → Option Value} {d : Option Nat} {v : Value} {t : Nat} (h : ∀ u, d = some u → u ≠ t) : putF f d v t = f t := by
  cases d with
  | none => rfl
  | some u => exact upd_ne _ _ (h u rfl)
theorem memF_out : ∀ {l : List (Nat × Blk)} {fm : Nat → Option Blk} {b : Nat}, b ∉ l.map (·.1) → memF fm l b = fm b
  | [], _, _, _ => rfl
  | p :: l, fm, b, h => by
    simp only [List.map_cons, List.mem_cons, not_or] at h
    rw [memF, upd_ne _ _ (Ne.symm h.1), memF_out h.2]
theorem memF_ne {fm : Nat → Option Blk} {c : Rec} {b : Nat} (h : b ∉ wrs c) : memF fm c.r.mem b = fm b := memF_out h
theorem putF_comm {f : Nat → Option Value} {d e : Option Nat} {v u : Value} (h : ∀ t, d = some t → e ≠ some t) : putF (putF f d v) e u = putF (putF f e u) d v := by
  cases d with
  | none => rfl
  | some t =>
    cases e with
    | none => rfl
    | some s => exact upd_comm _ _ _ (fun hts => h t rfl (by rw [hts]))
theorem upd_comm' {α : Type} (f : Nat → Option α) {t u : Nat} (v x : α) (h : u ≠ t) : upd (upd f t v) u x = upd (upd f u x) t v := upd_comm f v x (Ne.symm h)
theorem memF_in : ∀ {l : List (Nat × Blk)} {fm fm' : Nat → Option Blk} {b : Nat}, b ∈ l.map (·.1) → memF fm l b = memF fm' l b
  | [], _, _, _, h => by simp at h
  | p :: l, fm, fm', b, h => by
    rw [memF, memF]
    by_cases hp : p.1 = b
    · rw [hp, upd_same, upd_same]
    · rw [upd_ne _ _ hp, upd_ne _ _ hp]
      simp only [List.map_cons, List.mem_cons] at h
      exact memF_in (h.resolve_left (Ne.symm hp))
theorem memF_eq (fm : Nat → Option Blk) (c : Rec) (b : Nat) : b ∈ wrs c → ∀ fm', memF fm c.r.mem b = memF fm' c.r.mem b := fun h _ => memF_in h
theorem memF_comm {fm : Nat → Option Blk} {x y : Rec} (h : meets (wrs x) (wrs y) = false) :
    memF (memF fm x.r.mem) y.r.mem = memF (memF fm y.r.mem) x.r.mem := by
  funext b
  have hm := meets_false h
  by_cases hx : b ∈ wrs x
  · have hy := hm b hx
    rw [memF_ne hy]
    exact memF_eq _ _ _ hx _
  · rw [memF_ne (c := x) hx]
    by_cases hy : b ∈ wrs y
    · exact memF_eq _ _ _ hy _
    · rw [memF_ne (c := y) hy, memF_ne (c := y) hy, memF_ne (c := x) hx]
theorem dstIn_false {d : Option Nat} {l : List Nat} (h : dstIn d l = false) : ∀ u, d = some u → u ∉ l := by
  rintro u rfl hm
  simp only [dstIn] at h
  rw [nmem_iff.2 hm] at h
  simp at h
theorem RunL_swap {x y : Rec} {I : List Rec} {S S' : FS} (hc : clash ops x y = false) (h : RunL T G ops (x :: y :: I) S S') : RunL T G ops (y :: x :: I) S S' := by
  simp only [clash, Bool.or_eq_false_iff] at hc
  obtain ⟨⟨⟨⟨⟨c1, c2⟩, c3⟩, c4⟩, c5⟩, c6⟩ := hc
  obtain ⟨h1, h2, h3⟩ := h
  have d1 := dstIn_false c1
  have d3 := dstIn_false c3
  have m4 := meets_false c4
  have m6 := meets_false c6
  refine ⟨stepF_congr h2 (fun t ht => ?_) (fun b hb => ?_), stepF_congr h1 (fun t ht => ?_) (fun b hb => ?_), ?_⟩
  · exact (putF_ne (fun u hu e => d1 u hu (e ▸ ht))).symm
  · exact (memF_ne (fun hw => m4 b hw hb)).symm
  · exact putF_ne (fun u hu e => d3 u hu (e ▸ ht))
  · exact memF_ne (fun hw => m6 b hw hb)
  · have : (S.apply y.o.dst y.r).apply x.o.dst x.r = (S.apply x.o.dst x.r).apply y.o.dst y.r := by
      simp only [FS.apply]
      congr 1
      · refine putF_comm fun t ht e => ?_
        have := dstIn_false c2 t e
        rw [ht] at this
        simp at this
      · exact (memF_comm c5).symm
    rw [this]; exact h3
theorem RunL_front {x : Rec} : ∀ (pre : List Rec) {post : List Rec} {S S' : FS}, (∀ p ∈ pre, clash ops p x = false) → RunL T G ops (pre ++ x :: post) S S' → RunL T G ops (x :: (pre ++ post)) S S'
  | [], _, _, _, _, h => h
  | p :: pre, post, S, S', hc, h => by
    have h' : RunL T G ops (p :: x :: (pre ++ post)) S S' := ⟨h.1, RunL_front pre (fun q hq => hc q (by simp [hq])) h.2⟩
    exact RunL_swap (hc p (by simp)) h'
end
section
variable {P : Program} [Laid P] {T : Tab} {G : Sums} {w0 : Wb (lay P)} {w : World} {n : Nat} {R : Nat → Pl → Prop} {S : FS} {a : Act} {ops : Array Oper} {Q : Exit → Act → World → Prop}
theorem step_sound (hT : TabOk P T) (hG : SumsOk P G) (h : Rel w0 n R S a w) {i : Nat} {o : Oper} (hi : ops[i]? = some o) {id : Nat} (hd : ∀ t, o.dst = some t → t < n) {r : Res}
    (hr : stepF T G ops id o S = some r) {K : Act → World → Prop} (hK : ∀ R' a' w', Rel w0 n R' (S.apply o.dst r) a' w' → K a' w') : wpOp P ops Q i K a w := by
  unfold wpOp
  simp only [hi]
  unfold stepF at hr
  split at hr
  · rename_i hg
    have : Region.wanted o (yielded ops a.tmps) = true := by simp [Region.wanted, hg]
    rw [if_pos this]
    exact .inl (op_sound hT hG h hd hr hK)
  · rename_i g hg
    simp only [oK_some] at hr
    obtain ⟨t, ht, v, hv, hr⟩ := hr
    obtain ⟨v', h1, h2⟩ := h.slot t _ hv
    cases hu : isTup v with
    | true =>
      simp only [hu, cond_true] at hr
      cases hr
      have hw : Region.wanted o (yielded ops a.tmps) = false := by
        obtain ⟨j, want⟩ := g
        simp only [gslot, hg, Option.bind_some] at ht
        unfold isTup at hu
        split at hu
        · obtain ⟨cs', rfl, _⟩ := V2_tuple h2
          simp [Region.wanted, hg, yielded, ht, h1]
        · simp at hu
      rw [hw]
      exact hK R _ _ (h.put hd V2_undef)
    | false =>
    simp only [hu, cond_false, boolK_some] at hr
    obtain ⟨b, rfl, hr⟩ := hr
    have := V2_bool h2; subst this
    have hy : yielded ops a.tmps g.1 = some b := by
      simp only [gslot, hg, Option.bind_some] at ht
      simp [yielded, ht, h1]
    have hw : Region.wanted o (yielded ops a.tmps) = (b == g.2) := by
      obtain ⟨j, want⟩ := g
      simp only [Region.wanted, hg] at *
      rw [hy]
      cases b <;> cases want <;> rfl
    rw [hw]
    cases hbg : (b == g.2) with
    | true =>
      simp only [hbg, cond_true] at hr
      exact .inl (op_sound hT hG h hd hr hK)
    | false =>
      simp only [hbg, cond_false] at hr
      cases hr
      exact hK R _ _ (h.put hd V2_undef)
theorem text_sound (hT : TabOk P T) (hG : SumsOk P G) : ∀ (I : List (Nat × Rec)) {R : Nat → Pl → Prop} {S S' : FS} {a : Act} {w : World}, RunL T G ops (I.map (·.2)) S S' → Rel w0 n R S a w →
    (∀ c ∈ I, ops[c.1]? = some c.2.o ∧ ∀ t, c.2.o.dst = some t → t < n) → (∀ R a w, Rel w0 n R S' a w → Q .normal a w) → wpOps P ops Q (I.map (·.1)) a w
  | [], R, S, S', a, w, hrun, h, _, hQ => by
    have : S = S' := hrun
    subst this; exact hQ R a w h
  | c :: I, R, S, S', a, w, hrun, h, hI, hQ => by
    simp only [List.map_cons]
    rw [wpOps_cons]
    obtain ⟨h1, h2⟩ := hI c (by simp)
    exact step_sound hT hG h h1 h2 hrun.1 fun R' a' w' h' => text_sound hT hG I hrun.2 h' (fun d hd => hI d (by simp [hd])) hQ
end
end Go.W
/-
  The engine, part 9: a region in whatever order its edges allow.
-/
namespace Go.W
open Go.RowKit (Below)
def upE (acc : List Nat) : List Edge → Nat → Nat
  | [], s => s
  | e :: r, s => upE acc r (bif Region.binds .any e && Nat.blt e.on acc.length then s ||| 2 ^ e.on ||| acc.getD e.on 0 else s)
def ancL : List Oper → List Nat → List Nat
  | [], acc => acc
  | o :: r, acc => ancL r (acc ++ [upE acc o.after.toList 0])
theorem upE_bit {acc : List Nat} {i : Nat} : ∀ (es : List Edge) (s : Nat), (upE acc es s).testBit i = true →
    s.testBit i = true ∨ ∃ e ∈ es, Region.binds .any e = true ∧ e.on < acc.length ∧ (e.on = i ∨ (acc.getD e.on 0).testBit i = true)
  | [], s, h => .inl h
  | e :: r, s, h => by
    rcases upE_bit r _ h with h1 | ⟨e', h1, h2⟩
    · cases hb : (Region.binds .any e && Nat.blt e.on acc.length) with
      | false => rw [hb] at h1; exact .inl h1
      | true =>
        rw [hb] at h1
        simp only [Bool.and_eq_true] at hb
        simp only [cond_true, Nat.testBit_or, Bool.or_eq_true, Nat.testBit_two_pow, decide_eq_true_eq] at h1
        rcases h1 with (h1 | h1) | h1
        · exact .inl h1
        · exact .inr ⟨e, by simp, hb.1, (Nat.blt_eq ▸ hb.2), .inl h1⟩
        · exact .inr ⟨e, by simp, hb.1, (Nat.blt_eq ▸ hb.2), .inr h1⟩
    · exact .inr ⟨e', by simp [h1], h2⟩
theorem ancL_prefix : ∀ (l : List Oper) (acc : List Nat), ∃ t, ancL l acc = acc ++ t
  | [], acc => ⟨[], by simp [ancL]⟩
  | o :: r, acc => by
    obtain ⟨t, ht⟩ := ancL_prefix r (acc ++ [upE acc o.after.toList 0])
    exact ⟨_, by simp only [ancL, ht, List.append_assoc]; rfl⟩
theorem ancL_at : ∀ (l : List Oper) (acc : List Nat) (k : Nat) (o : Oper), l[k]? = some o →
    (ancL l acc).getD (acc.length + k) 0 = upE ((ancL l acc).take (acc.length + k)) o.after.toList 0 ∧ acc.length + k ≤ (ancL l acc).length
  | [], _, _, _, h => by simp at h
  | x :: r, acc, 0, o, h => by
    simp only [List.getElem?_cons_zero, Option.some.injEq] at h
    subst h
    obtain ⟨t, ht⟩ := ancL_prefix r (acc ++ [upE acc x.after.toList 0])
    simp only [ancL, ht, Nat.add_zero, List.append_assoc]
    constructor
    · rw [List.take_left, List.getD_eq_getElem?_getD, List.getElem?_append_right (Nat.le_refl _)]
      simp
    · simp
  | x :: r, acc, k + 1, o, h => by
    simp only [List.getElem?_cons_succ] at h
    have := ancL_at r (acc ++ [upE acc x.after.toList 0]) k o h
    simp only [List.length_append, List.length_cons, List.length_nil, Nat.zero_add] at this
    simp only [ancL]
    rw [show acc.length + (k + 1) = acc.length + 1 + k from by omega]
    exact this
theorem anc_step {ops : Array Oper} {j i : Nat} {o : Oper} (ho : ops[j]? = some o) (h : ((ancL ops.toList []).getD j 0).testBit i = true) :
    ∃ e ∈ o.after.toList, Region.binds .any e = true ∧ e.on < j ∧ (e.on = i ∨ ((ancL ops.toList []).getD e.on 0).testBit i = true) := by
  have h0 := ancL_at ops.toList [] j o (by rw [Array.getElem?_toList]; exact ho)
  simp only [List.length_nil, Nat.zero_add] at h0
  rw [h0.1] at h
  rcases upE_bit _ _ h with h1 | ⟨e, h1, h2, h3, h4⟩
  · simp at h1
  · simp only [List.length_take] at h3
    refine ⟨e, h1, h2, by omega, ?_⟩
    rcases h4 with h4 | h4
    · exact .inl h4
    · refine .inr ?_
      rw [List.getD_eq_getElem?_getD] at h4 ⊢
      rwa [List.getElem?_take_of_lt (by omega)] at h4
def closedL (ops : Array Oper) (listed : Array Bool) : Prop :=
  ∀ (j : Nat) (o : Oper), ops[j]? = some o → listed[j]? = some true → ∀ e ∈ o.after.toList, Region.binds .any e = true → listed.getD e.on false = true
theorem anc_listed {ops : Array Oper} {listed : Array Bool} (hc : closedL ops listed) : ∀ (j : Nat) (o : Oper), ops[j]? = some o → (∀ e ∈ o.after.toList, Region.binds .any e = true → listed.getD e.on false = true) →
    ∀ i, ((ancL ops.toList []).getD j 0).testBit i = true → listed.getD i false = true := by
  intro j
  induction j using Nat.strongRecOn with
  | _ j ih =>
    intro o ho hready i hi
    obtain ⟨e, he, hb, hlt, h⟩ := anc_step ho hi
    have hl := hready e he hb
    rcases h with rfl | h
    · exact hl
    · have hjs : j < ops.size := by
        rcases Nat.lt_or_ge j ops.size with h | h
        · exact h
        · rw [Array.getElem?_eq_none h] at ho; simp at ho
      have hoe : ops[e.on]? = some ops[e.on] := Array.getElem?_eq_getElem (by omega)
      refine ih e.on hlt _ hoe (hc _ _ hoe ?_) i h
      rw [Array.getD_eq_getD_getElem?] at hl
      cases hx : listed[e.on]? with
      | none => rw [hx] at hl; simp at hl
      | some b => rw [hx] at hl; simp at hl; rw [hl]
def okWith (ops : Array Oper) (Aj : Nat) (y : Rec) : List Rec → Nat → Bool
  | [], _ => true
  | x :: r, i => (Aj.testBit i || !clash ops x y) && okWith ops Aj y r (i + 1)
def okAll (ops : Array Oper) (A : List Nat) : List Rec → List Rec → Bool
  | _, [] => true
  | done, y :: r => okWith ops (A.getD done.length 0) y done 0 && okAll ops A (done ++ [y]) r
theorem okWith_at {ops : Array Oper} {Aj : Nat} {y : Rec} : ∀ (l : List Rec) (i : Nat), okWith ops Aj y l i = true → ∀ k x, l[k]? = some x → Aj.testBit (i + k) = true ∨ clash ops x y = false
  | [], _, _, _, _, h => by simp at h
  | z :: l, i, h, 0, x, hx => by
    simp only [okWith, Bool.and_eq_true, Bool.or_eq_true, Bool.not_eq_true'] at h
    simp at hx; subst hx
    exact h.1
  | z :: l, i, h, k + 1, x, hx => by
    simp only [okWith, Bool.and_eq_true] at h
    have := okWith_at l (i + 1) h.2 k x (by simpa using hx)
    rwa [show i + (k + 1) = i + 1 + k from by omega]
theorem okAll_at {ops : Array Oper} {A : List Nat} : ∀ (todo done : List Rec), okAll ops A done todo = true → ∀ k y, todo[k]? = some y → ∀ i x, (done ++ todo)[i]? = some x → i < done.length + k →
    (A.getD (done.length + k) 0).testBit i = true ∨ clash ops x y = false
  | [], _, _, _, _, h, _, _, _, _ => by simp at h
  | z :: todo, done, h, 0, y, hy, i, x, hx, hlt => by
    simp only [okAll, Bool.and_eq_true] at h
    simp at hy; subst hy
    have := okWith_at done 0 h.1 i x (by rwa [List.getElem?_append_left (by omega)] at hx)
    simpa using this
  | z :: todo, done, h, k + 1, y, hy, i, x, hx, hlt => by
    simp only [okAll, Bool.and_eq_true] at h
    have := okAll_at todo (done ++ [z]) h.2 k y (by simpa using hy) i x (by simpa using hx) (by simp; omega)
    simpa [Nat.add_assoc, Nat.add_comm 1 k] using this
def edgesDown : List Oper → Nat → Bool
  | [], _ => true
  | o :: r, j => o.after.toList.all (fun e => !Region.binds .any e || Nat.blt e.on j) && edgesDown r (j + 1)
theorem edgesDown_at : ∀ (l : List Oper) (j : Nat), edgesDown l j = true → ∀ k o, l[k]? = some o → ∀ e ∈ o.after.toList, Region.binds .any e = true → e.on < j + k
  | [], _, _, _, _, h => by simp at h
  | z :: l, j, h, 0, o, ho => by
    simp only [edgesDown, Bool.and_eq_true] at h
    simp at ho; subst ho
    intro e he hb
    have := List.all_eq_true.1 h.1 e he
    simp only [hb, Bool.not_true, Bool.false_or] at this
    rw [Nat.blt_eq] at this; simpa using this
  | z :: l, j, h, k + 1, o, ho => by
    simp only [edgesDown, Bool.and_eq_true] at h
    intro e he hb
    have := edgesDown_at l (j + 1) h.2 k o (by simpa using ho) e he hb
    omega
def drawOk (ops : Array Oper) (recs : List Rec) : Bool := edgesDown ops.toList 0 && okAll ops (ancL ops.toList []) [] recs
section
variable {P : Program} [Laid P] {T : Tab} {G : Sums} {w0 : Wb (lay P)} {n : Nat} {ops : Array Oper} {Q : Exit → Act → World → Prop}
theorem any_sound (hT : TabOk P T) (hG : SumsOk P G) {recs : List Rec} (hok : drawOk ops recs = true) : ∀ (fuel : Nat) (I : List (Nat × Rec)) (listed : Array Bool) {R : Nat → Pl → Prop} {S S' : FS} {a : Act} {w : World},
    I.length ≤ fuel → I.Pairwise (fun x y => x.1 < y.1) →
    (∀ c ∈ I, ops[c.1]? = some c.2.o ∧ recs[c.1]? = some c.2 ∧ ∀ t, c.2.o.dst = some t → t < n) →
    (∀ j, (∃ c ∈ I, c.1 = j) ↔ (j < ops.size ∧ listed.getD j true = false)) → (∀ j, j < ops.size → j < listed.size) → closedL ops listed →
    RunL T G ops (I.map (·.2)) S S' → Rel w0 n R S a w → (∀ R a w, Rel w0 n R S' a w → Q .normal a w) → wpAny P .any ops Q fuel listed a w := by
  have hdown := edgesDown_at ops.toList 0 (by simp only [drawOk, Bool.and_eq_true] at hok; exact hok.1)
  have hpairs := okAll_at recs [] (by simp only [drawOk, Bool.and_eq_true] at hok; exact hok.2)
  simp only [Nat.zero_add, List.length_nil, List.nil_append] at hdown hpairs
  -- the least of those that wait is ready
  have hmin : ∀ (c : Nat × Rec) (I : List (Nat × Rec)) (listed : Array Bool), (c :: I).Pairwise (fun x y => x.1 < y.1) → (∀ d ∈ c :: I, ops[d.1]? = some d.2.o ∧ recs[d.1]? = some d.2 ∧ ∀ t, d.2.o.dst = some t → t < n) →
      (∀ j, (∃ d ∈ c :: I, d.1 = j) ↔ (j < ops.size ∧ listed.getD j true = false)) → c.1 ∈ Region.ready .any ops listed := by
    intro c I listed hs hI hl
    obtain ⟨h1, _, _⟩ := hI c (by simp)
    obtain ⟨h2, h3⟩ := (hl c.1).1 ⟨c, by simp, rfl⟩
    unfold Region.ready
    rw [List.mem_filter]
    refine ⟨List.mem_range.2 h2, ?_⟩
    simp only [h3, Bool.not_false, Bool.true_and, h1, Option.map_some, Option.getD_some]
    rw [Array.all_eq_true_iff_forall_mem]
    intro e he
    cases hb : Region.binds .any e with
    | false => rfl
    | true =>
      simp only [Bool.not_true, Bool.false_or]
      have hlt := hdown c.1 c.2.o (by rw [Array.getElem?_toList]; exact h1) e (by simpa using he) hb
      cases hx : listed.getD e.on false with
      | true => rfl
      | false =>
        exfalso
        have hx' : listed.getD e.on true = false ∨ listed[e.on]? = none := by
          rw [Array.getD_eq_getD_getElem?] at hx ⊢
          cases hy : listed[e.on]? with
          | none => exact .inr rfl
          | some b => rw [hy] at hx; simp at hx; left; simp [hx]
        rcases hx' with hx' | hx'
        · obtain ⟨d, hd, hde⟩ := (hl e.on).2 ⟨by omega, hx'⟩
          rcases List.mem_cons.1 hd with rfl | hd
          · omega
          · have := List.rel_of_pairwise_cons hs hd
            omega
        · have := Array.getElem?_eq_none_iff.1 hx'
          rw [Array.getD_eq_getD_getElem?, Array.getElem?_eq_none (by omega)] at h3
          simp at h3
  intro fuel
  induction fuel with
  | zero =>
    intro I listed R S S' a w hf hs hI hl hsz hc hrun h hQ
    have : I = [] := List.length_eq_zero_iff.1 (Nat.le_zero.1 hf)
    subst this
    have hr : Region.ready .any ops listed = [] := by
      unfold Region.ready
      rw [List.filter_eq_nil_iff]
      intro j hj
      have hj := List.mem_range.1 hj
      cases hx : listed.getD j true with
      | true => simp
      | false => exact absurd ((hl j).2 ⟨hj, hx⟩) (by simp)
    have : S = S' := hrun
    subst this
    exact ⟨hr, hQ R a w h⟩
  | succ fuel ih =>
    intro I listed R S S' a w hf hs hI hl hsz hc hrun h hQ
    constructor
    · intro hr
      cases I with
      | nil => have : S = S' := hrun; subst this; exact hQ R a w h
      | cons c I => have := hmin c I listed hs hI hl; rw [hr] at this; simp at this
    · intro i hi
      unfold Region.ready at hi
      rw [List.mem_filter] at hi
      obtain ⟨hi1, hi2⟩ := hi
      have hi1 := List.mem_range.1 hi1
      simp only [Bool.and_eq_true, Bool.not_eq_true'] at hi2
      obtain ⟨hi2, hi3⟩ := hi2
      obtain ⟨c, hc1, rfl⟩ := (hl i).2 ⟨hi1, hi2⟩
      obtain ⟨pre, post, rfl⟩ := List.append_of_mem hc1
      obtain ⟨k1, k2, k3⟩ := hI c hc1
      have hready : ∀ e ∈ c.2.o.after.toList, Region.binds .any e = true → listed.getD e.on false = true := by
        intro e he hb
        simp only [k1, Option.map_some, Option.getD_some, Array.all_eq_true_iff_forall_mem] at hi3
        have := hi3 e (by simpa using he)
        simpa [hb] using this
      have hpw := List.pairwise_append.1 hs
      -- none of those ahead clashes with it
      have hfront : RunL T G ops (c.2 :: (pre.map (·.2) ++ post.map (·.2))) S S' := by
        refine RunL_front _ (fun p hp => ?_) (by simpa using hrun)
        obtain ⟨d, hd, rfl⟩ := List.mem_map.1 hp
        obtain ⟨j1, j2, _⟩ := hI d (by simp [hd])
        have hlt : d.1 < c.1 := hpw.2.2 d hd c (by simp)
        rcases hpairs c.1 c.2 k2 d.1 d.2 j2 hlt with hb | hb
        · have hlisted := anc_listed hc c.1 c.2.o k1 hready d.1 hb
          have hd2 := ((hl d.1).1 ⟨d, by simp [hd], rfl⟩).2
          rw [Array.getD_eq_getD_getElem?] at hlisted hd2
          cases hx : listed[d.1]? with
          | none => rw [hx] at hlisted; simp at hlisted
          | some b => rw [hx] at hlisted hd2; simp at hlisted hd2; rw [hlisted] at hd2; simp at hd2
        · exact hb
      refine step_sound hT hG h k1 k3 hfront.1 fun R' a' w' h' => ?_
      refine ih (pre ++ post) (listed.setIfInBounds c.1 true) (by simp at hf ⊢; omega) ?_ (fun d hd => hI d (by
          rcases List.mem_append.1 hd with hd | hd <;> simp [hd])) ?_ (by simpa using hsz) ?_ (by simpa using hfront.2) h' hQ
      · refine List.pairwise_append.2 ⟨hpw.1, (List.pairwise_cons.1 hpw.2.1).2, fun x hx y hy => hpw.2.2 x hx y (by simp [hy])⟩
      · intro j
        have hcs : c.1 < listed.size := hsz _ hi1
        by_cases hj : c.1 = j
        · subst hj
          constructor
          · rintro ⟨d, hd, he⟩
            rcases List.mem_append.1 hd with hd | hd
            · have := hpw.2.2 d hd c (by simp); omega
            · have := (List.pairwise_cons.1 hpw.2.1).1 d hd; omega
          · rintro ⟨_, hx⟩
            rw [Array.getD_eq_getD_getElem?, Array.getElem?_setIfInBounds_self_of_lt hcs] at hx
            simp at hx
        · rw [Array.getD_eq_getD_getElem?, Array.getElem?_setIfInBounds_ne hj, ← Array.getD_eq_getD_getElem?, ← hl j]
          constructor
          · rintro ⟨d, hd, he⟩
            refine ⟨d, ?_, he⟩
            rcases List.mem_append.1 hd with hd | hd <;> simp [hd]
          · rintro ⟨d, hd, he⟩
            refine ⟨d, ?_, he⟩
            rcases List.mem_append.1 hd with hd | hd
            · simp [hd]
            · rcases List.mem_cons.1 hd with rfl | hd
              · exact absurd he hj
              · simp [hd]
      · intro j o ho hj e he hb
        by_cases hje : e.on = c.1
        · rw [hje, Array.getD_eq_getD_getElem?, Array.getElem?_setIfInBounds_self_of_lt (hsz _ hi1)]; rfl
        · rw [Array.getD_eq_getD_getElem?, Array.getElem?_setIfInBounds_ne (Ne.symm hje), ← Array.getD_eq_getD_getElem?]
          by_cases hjc : c.1 = j
          · subst hjc
            rw [k1] at ho
            cases ho
            exact hready e he hb
          · rw [Array.getElem?_setIfInBounds_ne hjc] at hj
            exact hc j o ho hj e he hb
end
end Go.W
/-
  The engine, part 10: the evaluator of a body, and that the body does what it says.
-/
namespace Go.W
open Go.RowKit (Below)
structure St where
  slots : List (Nat × Value)
  mem : List (Nat × Blk)
  next : Nat
def St.f (s : St) : FS := ⟨look s.slots, look s.mem⟩
theorem look_memL (mem : List (Nat × Blk)) : ∀ l : List (Nat × Blk), look (l ++ mem) = memF (look mem) l
  | [] => rfl
  | p :: l => by rw [List.cons_append, memF, ← look_memL mem l]; rfl
def slotL (slots : List (Nat × Value)) (d : Option Nat) (v : Value) : List (Nat × Value) :=
  match d with
  | some t => (t, v) :: slots
  | none => slots
def St.app (s : St) (dst : Option Nat) (r : Res) : St := ⟨slotL s.slots dst r.val, r.mem ++ s.mem, s.next⟩
theorem St.app_f (s : St) (dst : Option Nat) (r : Res) : (s.app dst r).f = s.f.apply dst r := by
  unfold St.app St.f FS.apply
  congr 1
  · cases dst <;> rfl
  · exact look_memL _ _
def St.ref (s : St) (t : Nat) (b : Bool) : St := ⟨(t, .bool b) :: s.slots, s.mem, s.next⟩
theorem St.ref_f {s : St} {t : Nat} {b : Bool} (h : look s.slots t = some (.bool b)) : (s.ref t b).f = s.f := by
  unfold St.ref St.f
  simp only [look_cons, upd_idem _ h]
structure Cfg where
  T : Tab
  G : Sums
  n : Nat
  L : List (List Nat × (St → List (Bool × Exit × St)))
section
variable {R : Type}
def tstK (s : St) (t : Nat) (yes no : St → R) (f : R) : R :=
  oK (look s.slots t) (fun v => boolK v (fun b => bif b then yes (s.ref t true) else no (s.ref t false)) f) f
def grdK (ops : Array Oper) (o : Oper) (s : St) (yes no : St → R) (f : R) : R :=
  match o.guard with
  | none => yes s
  | some g => oK (gslot ops o) (fun t => oK (look s.slots t) (fun v => bif isTup v then no s else bif g.2 then tstK s t yes no f else tstK s t no yes f) f) f
def dstLt (n : Nat) (d : Option Nat) : Bool :=
  match d with
  | some t => Nat.blt t n
  | none => true
def rgK (C : Cfg) (ops : Array Oper) (base : Nat) : List Oper → Nat → St → List Rec → (St → List Rec → R) → R → R
  | [], _, s, acc, k, _ => k s acc
  | o :: rest, i, s, acc, k, f =>
    bif dstLt C.n o.dst then
      grdK ops o s
        (fun s => opK C.T C.G (base + i) o.op (evF (look s.slots)) (look s.mem) (fun r => rgK C ops base rest (i + 1) (s.app o.dst r) (acc ++ [⟨o, base + i, r⟩]) k f) f)
        (fun s => rgK C ops base rest (i + 1) (s.app o.dst (val undef)) (acc ++ [⟨o, base + i, val undef⟩]) k f) f
    else f
def St.bump (s : St) (m : Nat) : St := ⟨s.slots, s.mem, m⟩
def regK (C : Cfg) (ops : Array Oper) (draw : Bool) (s : St) (k : St → R) (f : R) : R :=
  rgK C ops s.next ops.toList 0 s [] (fun s' acc => bif !draw || drawOk ops acc then k (s'.bump (s.next + ops.toList.length)) else f) f
def nlEq : List Nat → List Nat → Bool
  | [], [] => true
  | a :: l, b :: m => Nat.beq a b && nlEq l m
  | _, _ => false
theorem nlEq_iff : ∀ {l m : List Nat}, nlEq l m = true → l = m
  | [], [], _ => rfl
  | a :: l, b :: m, h => by
    simp only [nlEq, Bool.and_eq_true] at h
    rw [nbeq.1 h.1, nlEq_iff h.2]
  | [], _ :: _, h => by simp [nlEq] at h
  | _ :: _, [], h => by simp [nlEq] at h
def lookP {α : Type} : List (List Nat × α) → List Nat → Option α
  | [], _ => none
  | p :: r, t => bif nlEq p.1 t then some p.2 else lookP r t
def altK : List (Bool × Exit × St) → (Exit → St → R) → R → R
  | [], _, f => f
  | p :: r, k, f => bif p.1 then k p.2.1 p.2.2 else altK r k f
def thenK (e : Exit) (s : St) (nxt : St → R) (k : Exit → St → R) : R :=
  match e with
  | .normal => nxt s
  | e => k e s
def blockK (id : Nat) (e : Exit) (s : St) (k : Exit → St → R) : R :=
  match e with
  | .exit j => bif Nat.beq j id then k .normal s else k (.exit j) s
  | e => k e s
def scopeK (e : Exit) (s : St) (k : Exit → St → R) (f : R) : R :=
  match e with
  | .goto _ => f
  | e => k e s
def condK (s : St) (c : Operand) (yes no : St → R) (f : R) : R :=
  match c with
  | .tmp t => tstK s t yes no f
  | .const (.bool b) => bif b then yes s else no s
  | _ => f
def evK (C : Cfg) : Nat → List Nat → Code → St → (Exit → St → R) → R → R
  | 0, _, _, _, _, f => f
  | m + 1, p, c, s, k, f =>
    match c with
    | .skip => k .normal s
    | .label _ => k .normal s
    | .region _ ops draw => regK C ops draw s (fun s' => k .normal s') f
    | .seq x y => evK C m (p ++ [0]) x s (fun e s' => thenK e s' (fun s' => evK C m (p ++ [1]) y s' k f) k) f
    | .cond c x y => condK s c (fun s => evK C m (p ++ [0]) x s k f) (fun s => evK C m (p ++ [1]) y s k f) f
    | .block id x => evK C m (p ++ [0]) x s (fun e s' => blockK id e s' k) f
    | .loop x => oK (lookP C.L p) (fun F => altK (F s) k f) (evK C m (p ++ [0]) x s (fun e s' => thenK e s' (fun s' => evK C m p (.loop x) s' k f) k) f)
    | .exit id => k (.exit id) s
    | .scope x => evK C m (p ++ [0]) x s (fun e s' => scopeK e s' k f) f
    | .ret => k .ret s
    | _ => f
variable {R' : Type} (h : R → R')
theorem tstK_nat (s : St) (t : Nat) (yes no : St → R) (f : R) : h (tstK s t yes no f) = tstK s t (fun s => h (yes s)) (fun s => h (no s)) (h f) := by
  simp only [tstK, oK_nat h, boolK_nat h, cond_nat h]
theorem grdK_nat (ops : Array Oper) (o : Oper) (s : St) (yes no : St → R) (f : R) : h (grdK ops o s yes no f) = grdK ops o s (fun s => h (yes s)) (fun s => h (no s)) (h f) := by
  unfold grdK; split <;> simp only [oK_nat h, cond_nat h, tstK_nat h]
theorem rgK_nat (C : Cfg) (ops : Array Oper) (base : Nat) : ∀ (l : List Oper) (i : Nat) (s : St) (acc : List Rec) (k : St → List Rec → R) (f : R),
    h (rgK C ops base l i s acc k f) = rgK C ops base l i s acc (fun s a => h (k s a)) (h f)
  | [], _, _, _, _, _ => rfl
  | o :: rest, i, s, acc, k, f => by
    simp only [rgK, cond_nat h, grdK_nat h, opK_nat h, rgK_nat C ops base rest]
theorem regK_nat (C : Cfg) (ops : Array Oper) (draw : Bool) (s : St) (k : St → R) (f : R) : h (regK C ops draw s k f) = regK C ops draw s (fun s => h (k s)) (h f) := by
  simp only [regK, rgK_nat h, cond_nat h]
theorem altK_nat : ∀ (l : List (Bool × Exit × St)) (k : Exit → St → R) (f : R), h (altK l k f) = altK l (fun e s => h (k e s)) (h f)
  | [], _, _ => rfl
  | p :: r, k, f => by simp only [altK, cond_nat h, altK_nat r]
theorem thenK_nat (e : Exit) (s : St) (nxt : St → R) (k : Exit → St → R) : h (thenK e s nxt k) = thenK e s (fun s => h (nxt s)) (fun e s => h (k e s)) := by
  cases e <;> rfl
theorem blockK_nat (id : Nat) (e : Exit) (s : St) (k : Exit → St → R) : h (blockK id e s k) = blockK id e s (fun e s => h (k e s)) := by
  cases e <;> simp only [blockK, cond_nat h]
theorem scopeK_nat (e : Exit) (s : St) (k : Exit → St → R) (f : R) : h (scopeK e s k f) = scopeK e s (fun e s => h (k e s)) (h f) := by
  cases e <;> rfl
theorem condK_nat (s : St) (c : Operand) (yes no : St → R) (f : R) : h (condK s c yes no f) = condK s c (fun s => h (yes s)) (fun s => h (no s)) (h f) := by
  unfold condK; split <;> simp only [tstK_nat h, cond_nat h]
theorem evK_nat (C : Cfg) : ∀ (m : Nat) (p : List Nat) (c : Code) (s : St) (k : Exit → St → R) (f : R), h (evK C m p c s k f) = evK C m p c s (fun e s => h (k e s)) (h f)
  | 0, _, _, _, _, _ => rfl
  | m + 1, p, c, s, k, f => by
    cases c <;> simp only [evK] <;> first | rfl | simp only [regK_nat h, evK_nat C m, thenK_nat h, condK_nat h, blockK_nat h, scopeK_nat h, oK_nat h, altK_nat h]
end
def evS (C : Cfg) (m : Nat) (p : List Nat) (c : Code) (s : St) : Option (Exit × St) := evK C m p c s (fun e s => some (e, s)) none
theorem evK_eq {R : Type} (C : Cfg) (m : Nat) (p : List Nat) (c : Code) (s : St) (k : Exit → St → R) (f : R) : evK C m p c s k f = oK (evS C m p c s) (fun q => k q.1 q.2) f :=
  (evK_nat (fun o : Option (Exit × St) => oK o (fun q => k q.1 q.2) f) C m p c s (fun e s => some (e, s)) none).symm
def codeAt : List Nat → Code → Option Code
  | [], c => some c
  | i :: p, c =>
    match c with
    | .seq a b => codeAt p (bif Nat.beq i 0 then a else b)
    | .cond _ a b => codeAt p (bif Nat.beq i 0 then a else b)
    | .block _ b => codeAt p b
    | .loop b => codeAt p b
    | .scope b => codeAt p b
    | _ => none
theorem codeAt_app (i : Nat) : ∀ (p : List Nat) (c : Code), codeAt (p ++ [i]) c = (codeAt p c).bind (codeAt [i])
  | [], c => by cases c <;> simp [codeAt]
  | j :: p, c => by cases c <;> simp [codeAt, codeAt_app i p]
def loopAt (p : List Nat) (c : Code) : Code :=
  match codeAt p c with
  | some (.loop b) => b
  | _ => .skip
def pickL : List (Bool × Exit × St) → Option (Exit × St)
  | [] => none
  | p :: r => bif p.1 then some p.2 else pickL r
theorem altK_eq {R : Type} (l : List (Bool × Exit × St)) (k : Exit → St → R) (f : R) : altK l k f = oK (pickL l) (fun q => k q.1 q.2) f := by
  induction l with
  | nil => rfl
  | cons p r ih => simp only [altK, pickL, ih]; cases p.1 <;> rfl
def LoopOk (P : Program) [Laid P] (n : Nat) (body : Code) (F : St → List (Bool × Exit × St)) : Prop :=
  ∀ (w0 : Wb (lay P)) R s a w, Rel w0 n R s.f a w → ∀ e s', pickL (F s) = some (e, s') → (Code.loop body).wp P (fun e' a' w' => e' = e ∧ ∃ R', Rel w0 n R' s'.f a' w') a w
structure CfgOk (P : Program) [Laid P] (C : Cfg) (code : Code) : Prop where
  mixed : P.follows .mixedOrders = true
  T : TabOk P C.T
  G : SumsOk P C.G
  L : ∀ p F, lookP C.L p = some F → LoopOk P C.n (loopAt p code) F
section
variable {P : Program} [Laid P] {C : Cfg} {code : Code} {w0 : Wb (lay P)}
theorem tst_some {β : Type} {s : St} {t : Nat} {yes no : St → Option β} {r : β} (h : tstK s t yes no none = some r) :
    (look s.slots t = some (.bool true) ∧ yes (s.ref t true) = some r) ∨ (look s.slots t = some (.bool false) ∧ no (s.ref t false) = some r) := by
  simp only [tstK, oK_some, boolK_some] at h
  obtain ⟨v, hv, b, rfl, h⟩ := h
  cases b
  · exact .inr ⟨hv, h⟩
  · exact .inl ⟨hv, h⟩
theorem rg_run {ops : Array Oper} {base : Nat} : ∀ (l : List Oper) (i : Nat) (s : St) (acc : List Rec) {s' : St} {acc' : List Rec},
    rgK C ops base l i s acc (fun s a => some (s, a)) none = some (s', acc') →
      ∃ recs, acc' = acc ++ recs ∧ recs.map (·.o) = l ∧ (∀ c ∈ recs, ∀ t, c.o.dst = some t → t < C.n) ∧ RunL C.T C.G ops recs s.f s'.f
  | [], _, s, acc, s', acc', h => by
    simp only [rgK, Option.some.injEq, Prod.mk.injEq] at h
    obtain ⟨rfl, rfl⟩ := h
    exact ⟨[], by simp, rfl, by simp, rfl⟩
  | o :: rest, i, s, acc, s', acc', h => by
    simp only [rgK, cond_some] at h
    obtain ⟨hd, h⟩ := h
    have hdst : ∀ t, o.dst = some t → t < C.n := by
      intro t ht
      simp only [dstLt, ht, Nat.blt_eq] at hd
      exact hd
    -- what is common to the ways
    have go : ∀ (s0 : St) (r : Res), s0.f = s.f → stepF C.T C.G ops (base + i) o s.f = some r →
        rgK C ops base rest (i + 1) (s0.app o.dst r) (acc ++ [⟨o, base + i, r⟩]) (fun s a => some (s, a)) none = some (s', acc') →
        ∃ recs, acc' = acc ++ recs ∧ recs.map (·.o) = o :: rest ∧ (∀ c ∈ recs, ∀ t, c.o.dst = some t → t < C.n) ∧ RunL C.T C.G ops recs s.f s'.f := by
      intro s0 r hs hstep hrest
      obtain ⟨recs, h1, h2, h3, h4⟩ := rg_run rest (i + 1) _ _ hrest
      refine ⟨⟨o, base + i, r⟩ :: recs, by rw [h1]; simp, by simp [h2], ?_, hstep, ?_⟩
      · intro c hc
        rcases List.mem_cons.1 hc with rfl | hc
        · exact hdst
        · exact h3 c hc
      · rw [St.app_f, hs] at h4; exact h4
    have goOp : ∀ (s0 : St), s0.f = s.f → (∀ r, opS C.T C.G (base + i) o.op (evF s.f.fs) s.f.fm = some r → stepF C.T C.G ops (base + i) o s.f = some r) →
        opK C.T C.G (base + i) o.op (evF (look s0.slots)) (look s0.mem) (fun r => rgK C ops base rest (i + 1) (s0.app o.dst r) (acc ++ [⟨o, base + i, r⟩]) (fun s a => some (s, a)) none) none = some (s', acc') →
        ∃ recs, acc' = acc ++ recs ∧ recs.map (·.o) = o :: rest ∧ (∀ c ∈ recs, ∀ t, c.o.dst = some t → t < C.n) ∧ RunL C.T C.G ops recs s.f s'.f := by
      intro s0 hs hst hop
      rw [opK_eq, oK_some] at hop
      obtain ⟨r, hr, hop⟩ := hop
      have e1 : look s0.slots = s.f.fs := congrArg FS.fs hs
      have e2 : look s0.mem = s.f.fm := congrArg FS.fm hs
      rw [e1, e2] at hr
      exact go s0 r hs (hst r hr) hop
    unfold grdK at h
    split at h
    · rename_i hg
      exact goOp s rfl (fun r hr => by simp only [stepF, hg]; exact hr) h
    · rename_i g hg
      simp only [oK_some] at h
      obtain ⟨t, ht, v0, hv0, h⟩ := h
      cases hu : isTup v0 with
      | true =>
        simp only [hu, cond_true] at h
        refine go s _ rfl ?_ h
        simp only [stepF, hg, ht, oK]
        have : s.f.fs t = some v0 := hv0
        simp only [this, hu, cond_true]
      | false =>
      simp only [hu, cond_false] at h
      have hstep : ∀ (b : Bool) (r : Res), look s.slots t = some (.bool b) → (bif b == g.2 then opS C.T C.G (base + i) o.op (evF s.f.fs) s.f.fm else some (val undef)) = some r → stepF C.T C.G ops (base + i) o s.f = some r := by
        intro b r hb hr
        simp only [stepF, hg, ht, oK]
        have : s.f.fs t = some (.bool b) := hb
        simp only [this, boolK, isTup, cond_false]
        exact hr
      cases hg2 : g.2 with
      | true =>
        simp only [hg2, cond_true] at h
        rcases tst_some h with ⟨hb, h⟩ | ⟨hb, h⟩
        · exact goOp _ (St.ref_f hb) (fun r hr => hstep true r hb (by simp [hg2, hr])) h
        · exact go _ _ (St.ref_f hb) (hstep false _ hb (by simp [hg2])) h
      | false =>
        simp only [hg2, cond_false] at h
        rcases tst_some h with ⟨hb, h⟩ | ⟨hb, h⟩
        · exact go _ _ (St.ref_f hb) (hstep true _ hb (by simp [hg2])) h
        · exact goOp _ (St.ref_f hb) (fun r hr => hstep false r hb (by simp [hg2, hr])) h
theorem zip_fst {α : Type} : ∀ (recs : List α) (i : Nat), (recs.zipIdx i).map (·.2) = List.range' i recs.length
  | [], _ => rfl
  | c :: r, i => by simp [List.range'_succ, zip_fst r (i + 1)]
def pairUp (recs : List Rec) : List (Nat × Rec) := recs.zipIdx.map fun q => (q.2, q.1)
theorem pairUp_fst (recs : List Rec) : (pairUp recs).map (·.1) = List.range recs.length := by
  unfold pairUp
  rw [List.map_map, List.range_eq_range', ← zip_fst recs 0]
  rfl
theorem pairUp_snd (recs : List Rec) : (pairUp recs).map (·.2) = recs := by
  unfold pairUp
  rw [List.map_map]
  have : ((fun x : Nat × Rec => x.2) ∘ fun q : Rec × Nat => (q.2, q.1)) = Prod.fst := rfl
  rw [this, List.zipIdx_map_fst]
theorem pairUp_mem {recs : List Rec} {c : Nat × Rec} (h : c ∈ pairUp recs) : recs[c.1]? = some c.2 := by
  unfold pairUp at h
  obtain ⟨q, hq, rfl⟩ := List.mem_map.1 h
  exact List.mem_zipIdx_iff_getElem?.1 hq
theorem pairUp_of {recs : List Rec} {j : Nat} (h : j < recs.length) : ∃ c ∈ pairUp recs, c.1 = j := by
  have : j ∈ (pairUp recs).map (·.1) := by rw [pairUp_fst]; exact List.mem_range.2 h
  obtain ⟨c, hc, rfl⟩ := List.mem_map.1 this
  exact ⟨c, hc, rfl⟩
theorem reg_sound (hC : CfgOk P C code) {ops : Array Oper} {draw : Bool} {rid : Nat} {s s' : St} (h : regK C ops draw s some none = some s') {R : Nat → Pl → Prop} {a : Act} {w : World} (hrel : Rel w0 C.n R s.f a w) :
    (Code.region rid ops draw).wp P (fun e a' w' => e = .normal ∧ ∃ R', Rel w0 C.n R' s'.f a' w') a w := by
  unfold regK at h
  have hnat := rgK_nat (fun o : Option (St × List Rec) => oK o (fun q => bif !draw || drawOk ops q.2 then some (q.1.bump (s.next + ops.toList.length)) else none) none) C ops s.next ops.toList 0 s [] (fun s a => some (s, a)) none
  simp only [oK] at hnat
  rw [← hnat] at h
  cases hrun : rgK C ops s.next ops.toList 0 s [] (fun s a => some (s, a)) none with
  | none => rw [hrun] at h; simp at h
  | some q =>
    obtain ⟨s1, acc⟩ := q
    rw [hrun] at h
    simp only [cond_some] at h
    obtain ⟨hok, h⟩ := h
    have h := Option.some.inj h
    have hf : s'.f = s1.f := by rw [← h]; rfl
    obtain ⟨recs, h1, h2, h3, h4⟩ := rg_run _ _ _ _ hrun
    simp only [List.nil_append] at h1
    subst h1
    have hlen : acc.length = ops.size := by rw [← Array.length_toList, ← h2, List.length_map]
    have hI : ∀ c ∈ pairUp acc, ops[c.1]? = some c.2.o ∧ ∀ t, c.2.o.dst = some t → t < C.n := by
      intro c hc
      have hc' := pairUp_mem hc
      refine ⟨?_, h3 c.2 (List.mem_of_getElem? hc')⟩
      rw [← Array.getElem?_toList, ← h2, List.getElem?_map, hc']
      rfl
    have hQ : ∀ R a w, Rel w0 C.n R s1.f a w → (fun e a' w' => e = Exit.normal ∧ ∃ R', Rel w0 C.n R' s'.f a' w') Exit.normal a w := by
      intro R a w hr; exact ⟨rfl, R, by rw [hf]; exact hr⟩
    cases draw with
    | false =>
      refine wp_region ?_
      have := text_sound (Q := fun e a' w' => e = Exit.normal ∧ ∃ R', Rel w0 C.n R' s'.f a' w') hC.T hC.G (pairUp acc) (by rw [pairUp_snd]; exact h4) hrel hI hQ
      rw [pairUp_fst, hlen] at this
      exact this
    | true =>
      simp only [Bool.not_true, Bool.false_or] at hok
      refine wp_region_any hC.mixed ?_
      have hrel' : Rel w0 C.n R s.f a { w with drawn := w.drawn + 1 } := hrel.world ⟨rfl, rfl, rfl, Nat.le_refl _, fun _ _ => rfl⟩
      refine any_sound hC.T hC.G hok ops.size (pairUp acc) _ (by rw [← List.length_map (f := (·.1)), pairUp_fst, List.length_range, hlen]; exact Nat.le_refl _) ?_ (fun c hc => ⟨(hI c hc).1, pairUp_mem hc, (hI c hc).2⟩) ?_ (by simp) ?_ (by rw [pairUp_snd]; exact h4) hrel' hQ
      · have : ((pairUp acc).map (·.1)).Pairwise (· < ·) := by rw [pairUp_fst]; exact List.pairwise_lt_range
        exact List.pairwise_map.1 this
      · intro j
        constructor
        · rintro ⟨c, hc, rfl⟩
          have h5 := (hI c hc).1
          have hlt : c.1 < ops.size := by
            rcases Nat.lt_or_ge c.1 ops.size with h | h
            · exact h
            · rw [Array.getElem?_eq_none h] at h5; simp at h5
          exact ⟨hlt, by simp [Array.getD_eq_getD_getElem?, hlt]⟩
        · rintro ⟨hlt, _⟩
          exact pairUp_of (by omega)
      · intro j o ho hj
        rw [Array.getElem?_replicate] at hj
        split at hj <;> simp at hj
theorem cond_run {β : Type} {s : St} {c : Operand} {yes no : St → Option β} {r : β} (h : condK s c yes no none = some r) {n : Nat} {R : Nat → Pl → Prop} {a : Act} {w : World} (hrel : Rel w0 n R s.f a w) :
    ∃ (b : Bool) (s0 : St), a.eval c = .bool b ∧ s0.f = s.f ∧ (if b then yes s0 else no s0) = some r := by
  unfold condK at h
  split at h
  · rename_i t
    rcases tst_some h with ⟨hb, h⟩ | ⟨hb, h⟩
    · exact ⟨true, _, V2_bool (hrel.ev (x := .tmp t) hb), St.ref_f hb, h⟩
    · exact ⟨false, _, V2_bool (hrel.ev (x := .tmp t) hb), St.ref_f hb, h⟩
  · rename_i b
    cases b
    · exact ⟨false, s, rfl, rfl, h⟩
    · exact ⟨true, s, rfl, rfl, h⟩
  · simp at h
theorem ev_sound2 (hC : CfgOk P C code) : ∀ (m : Nat) (p : List Nat) (c : Code) (s : St) (e : Exit) (s' : St), codeAt p code = some c → evS C m p c s = some (e, s') →
    (∀ {R : Nat → Pl → Prop} {a : Act} {w : World}, Rel w0 C.n R s.f a w → c.wp P (fun e' a' w' => e' = e ∧ ∃ R', Rel w0 C.n R' s'.f a' w') a w) ∧
    (∀ x, c = .loop x → lookP C.L p = none → ∃ r, ∀ {R : Nat → Pl → Prop} {a : Act} {w : World}, Rel w0 C.n R s.f a w → Code.rounds P x (fun e' a' w' => e' = e ∧ ∃ R', Rel w0 C.n R' s'.f a' w') r a w) := by
  intro m
  induction m with
  | zero => intro p c s e s' _ h; simp [evS, evK] at h
  | succ m ih =>
    intro p c s e s' hp h
    unfold evS at h
    cases c with
    | skip => simp only [evK, Option.some.injEq, Prod.mk.injEq] at h; obtain ⟨rfl, rfl⟩ := h; exact ⟨fun hrel => wp_skip ⟨rfl, _, hrel⟩, nofun⟩
    | label l => simp only [evK, Option.some.injEq, Prod.mk.injEq] at h; obtain ⟨rfl, rfl⟩ := h; exact ⟨fun hrel => wp_label ⟨rfl, _, hrel⟩, nofun⟩
    | exit id => simp only [evK, Option.some.injEq, Prod.mk.injEq] at h; obtain ⟨rfl, rfl⟩ := h; exact ⟨fun hrel => wp_exit ⟨rfl, _, hrel⟩, nofun⟩
    | ret => simp only [evK, Option.some.injEq, Prod.mk.injEq] at h; obtain ⟨rfl, rfl⟩ := h; exact ⟨fun hrel => wp_ret ⟨rfl, _, hrel⟩, nofun⟩
    | region rid ops draw =>
      simp only [evK] at h
      have hnat := regK_nat (fun o : Option St => oK o (fun s' => some (Exit.normal, s')) none) C ops draw s some none
      simp only [oK] at hnat
      rw [← hnat] at h
      cases hr : regK C ops draw s some none with
      | none => rw [hr] at h; simp at h
      | some s1 =>
        rw [hr] at h
        simp only [Option.some.injEq, Prod.mk.injEq] at h
        obtain ⟨rfl, rfl⟩ := h
        exact ⟨fun hrel => reg_sound hC hr hrel, nofun⟩
    | seq x y =>
      refine ⟨fun {R a w} hrel => ?_, nofun⟩
      simp only [evK] at h
      rw [evK_eq, oK_some] at h
      obtain ⟨⟨e1, s1⟩, h1, h2⟩ := h
      have hx : codeAt (p ++ [0]) code = some x := by rw [codeAt_app, hp]; rfl
      have hy : codeAt (p ++ [1]) code = some y := by rw [codeAt_app, hp]; rfl
      refine wp_seq (wp_mono ((ih _ _ _ _ _ hx h1).1 hrel) ?_)
      rintro e' a' w' ⟨rfl, R', hrel'⟩
      cases e' with
      | normal => simp only [thenK] at h2; exact (ih _ _ _ _ _ hy h2).1 hrel'
      | _ => simp only [thenK, Option.some.injEq, Prod.mk.injEq] at h2; obtain ⟨rfl, rfl⟩ := h2; exact ⟨rfl, R', hrel'⟩
    | cond cc x y =>
      refine ⟨fun {R a w} hrel => ?_, nofun⟩
      simp only [evK] at h
      obtain ⟨b, s0, hb, hs0, h1⟩ := cond_run h hrel
      have hx : codeAt (p ++ [0]) code = some x := by rw [codeAt_app, hp]; rfl
      have hy : codeAt (p ++ [1]) code = some y := by rw [codeAt_app, hp]; rfl
      refine wp_cond hb ?_
      cases b with
      | true => exact (ih _ _ _ _ _ hx h1).1 (by rw [hs0]; exact hrel)
      | false => exact (ih _ _ _ _ _ hy h1).1 (by rw [hs0]; exact hrel)
    | block id x =>
      refine ⟨fun {R a w} hrel => ?_, nofun⟩
      simp only [evK] at h
      rw [evK_eq, oK_some] at h
      obtain ⟨⟨e1, s1⟩, h1, h2⟩ := h
      have hx : codeAt (p ++ [0]) code = some x := by rw [codeAt_app, hp]; rfl
      refine wp_block (wp_mono ((ih _ _ _ _ _ hx h1).1 hrel) ?_)
      rintro e' a' w' ⟨rfl, R', hrel'⟩
      cases e' with
      | exit j =>
        simp only [blockK] at h2
        simp only [Exit.inBlock]
        by_cases hj : j = id
        · subst hj
          simp only [Nat.beq_refl, cond_true, Option.some.injEq, Prod.mk.injEq] at h2
          obtain ⟨rfl, rfl⟩ := h2
          rw [if_pos rfl]
          exact ⟨rfl, R', hrel'⟩
        · rw [nbeq_ne hj] at h2
          simp only [cond_false, Option.some.injEq, Prod.mk.injEq] at h2
          obtain ⟨rfl, rfl⟩ := h2
          rw [if_neg hj]
          exact ⟨rfl, R', hrel'⟩
      | _ => simp only [blockK, Option.some.injEq, Prod.mk.injEq] at h2; obtain ⟨rfl, rfl⟩ := h2; exact ⟨rfl, R', hrel'⟩
    | scope x =>
      refine ⟨fun {R a w} hrel => ?_, nofun⟩
      simp only [evK] at h
      rw [evK_eq, oK_some] at h
      obtain ⟨⟨e1, s1⟩, h1, h2⟩ := h
      have hx : codeAt (p ++ [0]) code = some x := by rw [codeAt_app, hp]; rfl
      refine wp_scope_straight (wp_mono ((ih _ _ _ _ _ hx h1).1 hrel) ?_)
      rintro e' a' w' ⟨rfl, R', hrel'⟩
      cases e' with
      | goto l => simp [scopeK] at h2
      | _ => simp only [scopeK, Option.some.injEq, Prod.mk.injEq] at h2; obtain ⟨rfl, rfl⟩ := h2; exact ⟨rfl, R', hrel'⟩
    | loop x =>
      simp only [evK] at h
      have hx : codeAt (p ++ [0]) code = some x := by rw [codeAt_app, hp]; rfl
      cases hL : lookP C.L p with
      | some F =>
        rw [hL] at h
        simp only [oK, altK_eq] at h
        have hbody : loopAt p code = x := by simp [loopAt, hp]
        have h0 := hC.L p F hL
        rw [hbody] at h0
        cases hpk : pickL (F s) with
        | none => rw [hpk] at h; simp at h
        | some q =>
          rw [hpk] at h
          have h : q = (e, s') := Option.some.inj h
          subst h
          exact ⟨fun {R a w} hrel => h0 w0 R s a w hrel e s' hpk, nofun⟩
      | none =>
        rw [hL] at h
        simp only [oK] at h
        have hr : ∃ r, ∀ {R : Nat → Pl → Prop} {a : Act} {w : World}, Rel w0 C.n R s.f a w → Code.rounds P x (fun e' a' w' => e' = e ∧ ∃ R', Rel w0 C.n R' s'.f a' w') r a w := by
          rw [evK_eq, oK_some] at h
          obtain ⟨⟨e1, s1⟩, h1, h2⟩ := h
          obtain ⟨hb, _⟩ := ih _ _ _ _ _ hx h1
          cases e1 with
          | normal =>
            simp only [thenK] at h2
            obtain ⟨r, hr⟩ := (ih p (.loop x) s1 e s' hp h2).2 x rfl hL
            refine ⟨r + 1, fun {R a w} hrel => ?_⟩
            rw [rounds_succ]
            refine wp_mono (hb hrel) ?_
            rintro e' a' w' ⟨rfl, R', hrel'⟩
            exact hr hrel'
          | _ =>
            simp only [thenK, Option.some.injEq, Prod.mk.injEq] at h2
            obtain ⟨rfl, rfl⟩ := h2
            refine ⟨1, fun {R a w} hrel => wp_mono (hb hrel) ?_⟩
            rintro e' a' w' ⟨rfl, hrel'⟩
            exact ⟨rfl, hrel'⟩
        obtain ⟨r, hr⟩ := hr
        exact ⟨fun {R a w} hrel => wp_loop_rounds r (hr hrel), fun x' hx' _ => by cases hx'; exact ⟨r, hr⟩⟩
    | _ => simp [evK] at h
theorem ev_sound (hC : CfgOk P C code) {m : Nat} {p : List Nat} {c : Code} {s : St} {e : Exit} {s' : St} (hp : codeAt p code = some c) (h : evS C m p c s = some (e, s')) {R : Nat → Pl → Prop} {a : Act} {w : World} (hrel : Rel w0 C.n R s.f a w) :
    c.wp P (fun e' a' w' => e' = e ∧ ∃ R', Rel w0 C.n R' s'.f a' w') a w := (ev_sound2 hC m p c s e s' hp h).1 hrel
end
end Go.W
/-
  The engine, part 11: a whole function: what it answers; and how what functions answer is told to those that call them.
-/
namespace Go.W
open Go.RowKit (Below)
section
variable {R : Type}
def resK (T : Tab) (s : St) : List ResultVar → (List Value → R) → R → R
  | [], k, _ => k []
  | .tmp t :: r, k, f => oK (look s.slots t) (fun v => resK T s r (fun vs => k (v :: vs)) f) f
  | .cell a t :: r, k, f => oK (look s.slots a) (fun v => ptrK v (fun b off => loadK T t (look s.mem) b off (fun q => resK T s r (fun vs => k (q.val :: vs)) f) f) f) f
def oneK (vs : List Value) (k : Value → R) : R :=
  match vs with
  | [v] => k v
  | vs => k (.tuple vs.toArray)
def endK (T : Tab) (fn : Func) (e : Exit) (s : St) (k : Value → R) (f : R) : R :=
  match e with
  | .normal => resK T s fn.results.toList (fun vs => oneK vs k) f
  | .ret => resK T s fn.results.toList (fun vs => oneK vs k) f
  | _ => f
def argSlots : Nat → List Value → List (Nat × Value)
  | _, [] => []
  | i, v :: r => (i, v) :: argSlots (i + 1) r
def fnK (C : Cfg) (fuel : Nat) (fn : Func) (c : Code) (args : List Value) (k : Value → R) (f : R) : R :=
  evK C fuel [] c ⟨argSlots 0 args, [], 0⟩ (fun e s => endK C.T fn e s k f) f
variable {R' : Type} (h : R → R')
theorem resK_nat (T : Tab) (s : St) : ∀ (l : List ResultVar) (k : List Value → R) (f : R), h (resK T s l k f) = resK T s l (fun vs => h (k vs)) (h f)
  | [], _, _ => rfl
  | .tmp t :: r, k, f => by simp only [resK, oK_nat h, resK_nat T s r]
  | .cell a t :: r, k, f => by simp only [resK, oK_nat h, ptrK_nat h, loadK_nat h, resK_nat T s r]
theorem oneK_nat (vs : List Value) (k : Value → R) : h (oneK vs k) = oneK vs (fun v => h (k v)) := by
  unfold oneK; split <;> rfl
end
def fnS (C : Cfg) (fuel : Nat) (fn : Func) (c : Code) (args : List Value) : Option Value := fnK C fuel fn c args some none
def resOne (tmps : Array Value) (x : ResultVar) : Sem Value :=
  match x with
  | .tmp t => pure (tmps.getD t undef)
  | .cell b t => do loadVar t (← asAddr (tmps.getD b undef))
theorem results_eq (fn : Func) (tmps : Array Value) : results fn tmps = (do
    let vs ← fn.results.mapM (resOne tmps)
    pure (if h : vs.size = 1 then vs[0] else .tuple vs)) := by
  unfold results
  congr 1
section
variable {P : Program} [Laid P] {C : Cfg} {c : Code} {w0 : Wb (lay P)} {w : World} {R : Nat → Pl → Prop} {a : Act}
theorem res_run (hC : CfgOk P C c) {s : St} (hrel : Rel w0 C.n R s.f a w) : ∀ (l : List ResultVar) {β : Type} {k : List Value → Option β} {r : β}, resK C.T s l k none = some r →
    ∃ vs vs', k vs = some r ∧ LR (V2 R) vs vs' ∧
      (l.mapM (resOne a.tmps)).run P w = .ok vs' w
  | [], β, k, r, h => ⟨[], [], h, trivial, rfl⟩
  | .tmp t :: l, β, k, r, h => by
    simp only [resK, oK_some] at h
    obtain ⟨v, hv, h⟩ := h
    obtain ⟨vs, vs', h1, h2, h3⟩ := res_run hC hrel l h
    have hev := hrel.ev (x := .tmp t) hv
    refine ⟨v :: vs, a.tmps.getD t undef :: vs', h1, ⟨hev, h2⟩, ?_⟩
    simp only [List.mapM_cons, resOne, Sem.run_bind, Sem.run_pure, Result.andThen_ok] at h3 ⊢
    simp only [h3, Result.andThen_ok]
  | .cell b t :: l, β, k, r, h => by
    simp only [resK, oK_some, ptrK_some] at h
    obtain ⟨v, hv, b1, off, rfl, h⟩ := h
    obtain ⟨p, b2, hp, hpa, hev⟩ := V2_ptr (hrel.ev (x := .tmp b) hv)
    have hev : a.tmps.getD b undef = .pointer (some ⟨b2, p.d + off, none⟩) := hev
    obtain ⟨q, hq, h⟩ : ∃ q, loadK C.T t (look s.mem) b1 off some none = some q ∧ resK C.T s l (fun vs => k (q.val :: vs)) none = some r := by
      have := loadK_nat (fun o : Option Res => oK o (fun q => resK C.T s l (fun vs => k (q.val :: vs)) none) none) C.T t (look s.mem) b1 off some none
      simp only [oK] at this
      rw [← this] at h
      cases hq : loadK C.T t (look s.mem) b1 off some none with
      | none => rw [hq] at h; simp at h
      | some q => rw [hq] at h; exact ⟨q, rfl, h⟩
    obtain ⟨_, u', h5, h4⟩ := load_run hC.T hrel.m hp hpa hq
    obtain ⟨vs, vs', h6, h7, h8⟩ := res_run hC hrel l h
    refine ⟨q.val :: vs, u' :: vs', h6, ⟨h4, h7⟩, ?_⟩
    have hadr : (asAddr (a.tmps.getD b undef)).run P w = .ok ⟨b2, p.d + off, none⟩ w := by rw [hev]; rfl
    rw [List.mapM_cons]
    have h9 : (resOne a.tmps (.cell b t)).run P w = .ok u' w := by simp only [resOne, Sem.run_bind, hadr, Result.andThen_ok, h5]
    simp only [Sem.run_bind, h9, Sem.run_pure, Result.andThen_ok, h8]
theorem oneK_some {vs : List Value} {v : Value} (h : oneK vs some = some v) : (vs = [v]) ∨ (vs.length ≠ 1 ∧ v = .tuple vs.toArray) := by
  unfold oneK at h
  split at h
  · left; simp at h; rw [h]
  · rename_i hne
    right
    simp at h
    refine ⟨fun hl => ?_, h.symm⟩
    match vs, hl with
    | [x], _ => exact hne x rfl
theorem pl_of_one {vs : List Value} (h : vs.all pl2 = true) {vs' : List Value} (hl : LR (V2 R) vs vs') : vs' = vs := (LR_plain (fun _ _ hv => V2_plain hv) h).1 hl
theorem argSlots_look : ∀ (args : List Value) (i t : Nat) (v : Value), look (argSlots i args) t = some v → ∃ j, t = i + j ∧ args[j]? = some v
  | [], _, _, _, h => by simp [argSlots, look] at h
  | x :: r, i, t, v, h => by
    simp only [argSlots, look_cons] at h
    by_cases ht : i = t
    · subst ht
      rw [upd_same] at h
      cases h
      exact ⟨0, rfl, rfl⟩
    · rw [upd_ne _ _ ht] at h
      obtain ⟨j, h1, h2⟩ := argSlots_look r (i + 1) t v h
      exact ⟨j + 1, by omega, by simpa using h2⟩
theorem fn_sound (hC : CfgOk P C c) {g : FuncId} {fn : Func} (hf : P.funcs[g]? = some fn) (hb : fn.body = some c) (hn : C.n = fn.ntmps) {args : List Value} (hlen : args.length ≤ fn.ntmps) (hp : args.all pl2 = true)
    {fuel : Nat} {v : Value} (h : fnS C fuel fn c args = some v) (hv : pl2 v = true) (w : World) (hg : GOk (lay P) w) : Calls P g args.toArray w fun e w' => e = .returned v ∧ Below w.heap.size w w' := by
  unfold fnS fnK at h
  rw [evK_eq, oK_some] at h
  obtain ⟨⟨e, s'⟩, h1, h2⟩ := h
  refine calls_of_wp hf hb ?_
  have hrel : Rel (⟨w, fun _ => False, fun _ _ => False⟩ : Wb (lay P)) C.n (fun _ _ => False) (St.f ⟨argSlots 0 args, [], 0⟩) { tmps := args.toArray ++ Array.replicate (fn.ntmps - args.toArray.size) undef, defers := [] } w := by
    refine ⟨rfl, by simp; omega, ?_, ⟨BelowX.refl _ _ _ hg (fun _ _ h => h), nofun, nofun, ?_, nofun, nofun, nofun, nofun⟩⟩
    · intro t u hu
      obtain ⟨j, rfl, hj⟩ := argSlots_look args 0 t u hu
      have hu2 := List.all_eq_true.1 hp u (List.mem_of_getElem? hj)
      have hlt : j < args.length := by
        rcases Nat.lt_or_ge j args.length with h | h
        · exact h
        · rw [List.getElem?_eq_none h] at hj; simp at hj
      refine ⟨u, ?_, (V2_plain hu2).2 rfl⟩
      rw [Nat.zero_add, Array.getElem?_append_left (by simpa using hlt)]
      simpa using hj
    · intro i blk hi; simp [St.f, look] at hi
  refine wp_mono (ev_sound hC (p := []) rfl h1 hrel) ?_
  rintro e' a' w' ⟨rfl, R', hr'⟩
  have fin : endK C.T fn e' s' some none = some v → (e' = .normal ∨ e' = .ret) → a'.defers = [] ∧ ∃ v', (results fn a'.tmps).run P w' = .ok v' w' ∧ (v' = v ∧ Below w.heap.size w w') := by
    intro h3 h4
    refine ⟨hr'.defers, ?_⟩
    have h3 : resK C.T s' fn.results.toList (fun vs => oneK vs some) none = some v := by
      rcases h4 with rfl | rfl <;> exact h3
    obtain ⟨vs, vs', h5, h6, h7⟩ := res_run hC hr' _ h3
    have hrun : (results fn a'.tmps).run P w' = .ok (if h : vs'.toArray.size = 1 then vs'.toArray[0] else .tuple vs'.toArray) w' := by
      rw [results_eq, Array.mapM_eq_mapM_toList]
      simp only [Sem.run_bind, Sem.run_map, h7, Result.andThen_ok, Sem.run_pure]
    refine ⟨_, hrun, ?_, hr'.m.below.below fun _ h => h⟩
    rcases oneK_some h5 with rfl | ⟨hl, rfl⟩
    · match vs', h6 with
      | [u], h6 =>
        have := (V2_plain hv).1 h6.1
        subst this
        simp
    · have hl' : vs'.length ≠ 1 := by rw [← LR_len h6]; exact hl
      rw [dif_neg (by simpa using hl')]
      have hall : vs.all pl1 = true := by simpa [pl2] using hv
      have : vs' = vs := by
        refine (LR_plain (r := V2 R') (pl := pl1) (fun u u' hu => ?_) hall).1 h6
        refine V2_plain ?_
        unfold pl2; split
        · simp [pl1, pl0] at hu
        · exact hu
      rw [this]
  cases e' with
  | normal => obtain ⟨k1, v', k2, rfl, k3⟩ := fin h2 (.inl rfl); exact ⟨k1, v', k2, rfl, k3⟩
  | ret => obtain ⟨k1, v', k2, rfl, k3⟩ := fin h2 (.inr rfl); exact ⟨k1, v', k2, rfl, k3⟩
  | _ => simp [endK] at h2
theorem sums_nil : SumsOk P [] := by intro g e h; simp [look] at h
theorem sums_cons {G : Sums} {g : FuncId} {F : List Value → Option (Bool × Value)} (h : Sum P g F) (hG : SumsOk P G) : SumsOk P ((g, .pl F) :: G) := by
  intro g' F' hF
  rw [look_cons] at hF
  by_cases hg : g = g'
  · subst hg; rw [upd_same] at hF; cases hF; exact h
  · rw [upd_ne _ _ hg] at hF; exact hG g' F' hF
theorem sums_consM {G : Sums} {g : FuncId} {F : List Value → (Nat → Option Blk) → Nat → List (Bool × Value × List (Nat × Blk))} (h : MSum P g F) (hG : SumsOk P G) : SumsOk P ((g, .me F) :: G) := by
  intro g' F' hF
  rw [look_cons] at hF
  by_cases hg : g = g'
  · subst hg; rw [upd_same] at hF; cases hF; exact h
  · rw [upd_ne _ _ hg] at hF; exact hG g' F' hF
theorem sum_of (hC : CfgOk P C c) {g : FuncId} {fn : Func} (hf : P.funcs[g]? = some fn) (hname : (fn.name == "runtime.NumGoroutine") = false) (hb : fn.body = some c) (hn : C.n = fn.ntmps) {F : List Value → Option (Bool × Value)} {fuel : Nat}
    (h : ∀ args v, F args = some (true, v) → args.all pl2 = true → args.length ≤ fn.ntmps ∧ fnS C fuel fn c args = some v ∧ pl2 v = true) : Sum P g F := by
  intro args v hF hp w hgk
  obtain ⟨h1, h2, h3⟩ := h args v hF hp
  have hne : fn.name ≠ "runtime.NumGoroutine" := by simpa using hname
  have hrun : (callFunc g args.toArray).run P w = .ok (.enter g args.toArray) w := by simp [callFunc, hf, hne, hb]
  unfold Invokes
  rw [hrun]
  refine Calls.mono (fn_sound hC hf hb hn h1 hp h2 h3 w hgk) ?_
  rintro e w' ⟨rfl, hb⟩
  exact ⟨rfl, hb⟩
theorem sum_at (hC : CfgOk P C c) {g : FuncId} {fn : Func} (hf : P.funcs[g]? = some fn) (hname : (fn.name == "runtime.NumGoroutine") = false) (hb : fn.body = some c) (hn : C.n = fn.ntmps) {args : List Value} {v : Value} {fuel : Nat}
    (h1 : args.length ≤ fn.ntmps) (h2 : fnS C fuel fn c args = some v) (h3 : pl2 v = true) : args.all pl2 = true → ∀ w, GOk (lay P) w → Invokes P g args.toArray w fun v' w' => v' = v ∧ Below w.heap.size w w' := by
  intro hp w hgk
  have hne : fn.name ≠ "runtime.NumGoroutine" := by simpa using hname
  have hrun : (callFunc g args.toArray).run P w = .ok (.enter g args.toArray) w := by simp [callFunc, hf, hne, hb]
  unfold Invokes
  rw [hrun]
  refine Calls.mono (fn_sound hC hf hb hn h1 hp h2 h3 w hgk) ?_
  rintro e w' ⟨rfl, hb⟩
  exact ⟨rfl, hb⟩
end
section
variable {P : Program}
theorem tab_nil : TabOk P [] := by intro t i h; simp [look] at h
theorem tab_cons {T : Tab} {t : Nat} {i : TInf} (h : TOk P t i) (hT : TabOk P T) : TabOk P ((t, i) :: T) := by
  intro t' i' hi
  rw [look_cons] at hi
  by_cases ht : t = t'
  · subst ht; rw [upd_same] at hi; cases hi; exact h
  · rw [upd_ne _ _ ht] at hi; exact hT t' i' hi
theorem tok_plain {t : Nat} {d : TypeDesc} {siz byt : Nat} {zer : Value} (h1 : P.underlying t = some d) (h2 : (P.info? t).map (fun i => (i.size, i.zero, i.bytes)) = some (siz, some zer, byt)) : TOk P t ⟨d, siz, zer, false, [], [], byt⟩ := by
  obtain ⟨i, h3, h4⟩ := Option.map_eq_some_iff.1 h2
  simp only [Prod.mk.injEq] at h4
  exact ⟨⟨i, h3, h4.1, h4.2.1, h4.2.2⟩, fun _ => h1, nofun, fun h => absurd rfl h⟩
theorem tok_eq {t : Nat} {d : TypeDesc} {siz byt : Nat} {zer : Value} {ks : List CK} (h1 : P.underlying t = some d) (h2 : (P.info? t).map (fun i => (i.size, i.zero, i.bytes)) = some (siz, some zer, byt)) (h3 : P.eqGuardType P.depth t = false) (h6 : kindsT P 20 t = some ks) : TOk P t ⟨d, siz, zer, false, [], ks, byt⟩ := by
  obtain ⟨i, h4, h5⟩ := Option.map_eq_some_iff.1 h2
  simp only [Prod.mk.injEq] at h5
  exact ⟨⟨i, h4, h5.1, h5.2.1, h5.2.2⟩, fun _ => h1, nofun, fun _ => ⟨h3, h6⟩⟩
def structFlds (d : Option TypeDesc) : Option (List (Nat × Nat)) :=
  match d with
  | some (.struct fs) => some (fs.toList.map fun f => (f.offset, f.type))
  | _ => none
theorem tok_struct {t : Nat} {siz byt : Nat} {zer : Value} {flds : List (Nat × Nat)} (h1 : structFlds (P.underlying t) = some flds) (h2 : (P.info? t).map (fun i => (i.size, i.zero, i.bytes)) = some (siz, some zer, byt)) : TOk P t ⟨.bool, siz, zer, true, flds, [], byt⟩ := by
  obtain ⟨i, h3, h4⟩ := Option.map_eq_some_iff.1 h2
  simp only [Prod.mk.injEq] at h4
  refine ⟨⟨i, h3, h4.1, h4.2.1, h4.2.2⟩, nofun, fun _ => ?_, fun h => absurd rfl h⟩
  unfold structFlds at h1
  split at h1
  · rename_i fs hd
    exact ⟨fs, hd, Option.some.inj h1⟩
  · simp at h1
theorem tok_structE {t : Nat} {siz byt : Nat} {zer : Value} {flds : List (Nat × Nat)} {ks : List CK} (h1 : structFlds (P.underlying t) = some flds) (h2 : (P.info? t).map (fun i => (i.size, i.zero, i.bytes)) = some (siz, some zer, byt))
    (h5 : P.eqGuardType P.depth t = false) (h6 : kindsT P 20 t = some ks) : TOk P t ⟨.bool, siz, zer, true, flds, ks, byt⟩ := by
  obtain ⟨i, h3, h4⟩ := Option.map_eq_some_iff.1 h2
  simp only [Prod.mk.injEq] at h4
  refine ⟨⟨i, h3, h4.1, h4.2.1, h4.2.2⟩, nofun, fun _ => ?_, fun _ => ⟨h5, h6⟩⟩
  unfold structFlds at h1
  split at h1
  · rename_i fs hd
    exact ⟨fs, hd, Option.some.inj h1⟩
  · simp at h1
end
end Go.W
/-
  The engine, part 12: a state cut down to what is named, by other numbers where these are wanted; loops, round by round.
-/
namespace Go.W
open Go.RowKit (Below)
abbrev Ren := List (Nat × Nat)
def idR (l : List Nat) : Ren := l.map fun i => (i, i)
instance : Coe (List Nat) Ren := ⟨idR⟩
def swapR : Ren → Ren
  | [] => []
  | p :: l => (p.2, p.1) :: swapR l
def ren0 (ρ : Ren) : Value → Option Value
  | .pointer (some a) => oK (look ρ a.block) (fun b => some (.pointer (some ⟨b, a.off, a.spot⟩))) none
  | .slice (some a) n c => oK (look ρ a.block) (fun b => some (.slice (some ⟨b, a.off, a.spot⟩) n c)) none
  | v => some v
def renL (q : Value → Option Value) : List Value → Option (List Value)
  | [] => some []
  | v :: l => oK (q v) (fun u => oK (renL q l) (fun m => some (u :: m)) none) none
def ren1 (ρ : Ren) : Value → Option Value
  | .agg cs => oK (renL (ren0 ρ) cs.toList) (fun l => some (.agg l.toArray)) none
  | v => ren0 ρ v
def ren2 (ρ : Ren) : Value → Option Value
  | .tuple vs => oK (renL (ren1 ρ) vs.toList) (fun l => some (.tuple l.toArray)) none
  | v => ren1 ρ v
def renC (ρ : Ren) : Cells → Option Cells
  | .lst l => oK (renL (ren0 ρ) l) (fun m => some (.lst m)) none
  | .row ks n f => some (.row ks n f)
  | .elt i k sz => oK (look ρ i) (fun j => some (.elt j k sz)) none
  | .tail i l cnt sz => oK (look ρ i) (fun j => some (.tail j l cnt sz)) none
  | .fam ks n es g => some (.fam ks n es g)
def renOk1 (p : Nat × Nat) : Bool := (loose p.1 == loose p.2) && (Nat.beq p.1 p.2 || Nat.blt p.1 1000000) && (Nat.blt p.1 1000000000 && Nat.blt p.2 1000000000)
def nodupB : List Nat → Bool
  | [] => true
  | x :: l => !(nmem x l) && nodupB l
def renOk (is : Ren) : Bool := is.all renOk1 && nodupB (is.map (·.1)) && nodupB (is.map (·.2))
def getSlots (s : St) (ρ : Ren) : List Nat → Option (List (Nat × Value))
  | [] => some []
  | t :: r => oK (look s.slots t) (fun v => oK (ren2 ρ v) (fun u => oK (getSlots s ρ r) (fun l => some ((t, u) :: l)) none) none) none
def getMem (s : St) (ρ : Ren) : Ren → Option (List (Nat × Blk))
  | [] => some []
  | i :: r => oK (look s.mem i.2) (fun b => oK (renC ρ b.cells) (fun c => oK (getMem s ρ r) (fun l => some ((i.1, ⟨c, b.elem, b.own⟩) :: l)) none) none) none
def restS (ts : List Nat) (is : Ren) (nx : Nat) (s : St) : Option St :=
  bif renOk is then oK (getSlots s (swapR is) ts) (fun sl => oK (getMem s (swapR is) is) (fun me => some ⟨sl, me, nx⟩) none) none else none
section
variable {GL : Glob} {w0 : Wb GL} {w : World} {n : Nat} {R : Nat → Pl → Prop} {a : Act} {is : Ren}
theorem look_swap : ∀ {is : Ren} {o i : Nat}, nodupB (is.map (·.1)) = true → look (swapR is) o = some i → look is i = some o
  | [], _, _, _, h => by simp [swapR, look] at h
  | p :: is, o, i, hn, h => by
    simp only [List.map_cons, nodupB, Bool.and_eq_true, Bool.not_eq_true'] at hn
    simp only [swapR, look_cons] at h
    by_cases hp : p.2 = o
    · subst hp
      rw [upd_same] at h
      cases h
      obtain ⟨x, y⟩ := p
      rw [look_cons, upd_same]
    · rw [upd_ne _ _ hp] at h
      have ih := look_swap hn.2 h
      obtain ⟨x, y⟩ := p
      rw [look_cons]
      by_cases hx : x = i
      · subst hx
        have : x ∈ is.map (·.1) := by
          have key : ∀ (l : Ren) (z : Nat), look l x = some z → x ∈ l.map (·.1) := by
            intro l
            induction l with
            | nil => intro z hz; simp [look] at hz
            | cons q l ih2 =>
              intro z hz
              obtain ⟨q1, q2⟩ := q
              rw [look_cons] at hz
              by_cases hq : q1 = x
              · simp [hq]
              · rw [upd_ne _ _ hq] at hz; simp [ih2 z hz]
          exact key is o ih
        rw [nmem_iff.2 this] at hn
        simp at hn
      · rw [upd_ne _ _ hx]; exact ih
theorem look_mem2 : ∀ {is : Ren} {i o : Nat}, look is i = some o → (i, o) ∈ is
  | [], _, _, h => by simp [look] at h
  | (x, y) :: is, i, o, h => by
    rw [look_cons] at h
    by_cases hx : x = i
    · subst hx; rw [upd_same] at h; cases h; simp
    · rw [upd_ne _ _ hx] at h; exact List.mem_cons_of_mem _ (look_mem2 h)
theorem look_inj : ∀ {is : Ren} {i j o : Nat}, nodupB (is.map (·.2)) = true → look is i = some o → look is j = some o → i = j
  | [], _, _, _, _, h, _ => by simp [look] at h
  | (x, y) :: is, i, j, o, hn, hi, hj => by
    simp only [List.map_cons, nodupB, Bool.and_eq_true, Bool.not_eq_true'] at hn
    rw [look_cons] at hi hj
    have out : ∀ z, look is z = some y → False := by
      intro z hz
      have : y ∈ is.map (·.2) := List.mem_map.2 ⟨(z, y), look_mem2 hz, rfl⟩
      rw [nmem_iff.2 this] at hn
      simp at hn
    by_cases hx : x = i
    · subst hx
      rw [upd_same] at hi
      cases hi
      by_cases hx2 : x = j
      · exact hx2
      · rw [upd_ne _ _ hx2] at hj; exact (out _ hj).elim
    · rw [upd_ne _ _ hx] at hi
      by_cases hx2 : x = j
      · subst hx2
        rw [upd_same] at hj
        cases hj
        exact (out _ hi).elim
      · rw [upd_ne _ _ hx2] at hj
        exact look_inj hn.2 hi hj
def renR (is : Ren) (R : Nat → Pl → Prop) (i : Nat) (p : Pl) : Prop := (∃ o, look is i = some o ∧ R o p) ∨ (1000000000 ≤ i ∧ R i p)
theorem renOk_loose (hk : renOk is = true) {i o : Nat} (h : look is i = some o) : loose i = loose o ∧ (i = o ∨ i < 1000000) := by
  unfold renOk at hk
  simp only [Bool.and_eq_true] at hk
  have := List.all_eq_true.1 hk.1.1 _ (look_mem2 h)
  simp only [renOk1, Bool.and_eq_true, beq_iff_eq, Bool.or_eq_true, nbeq, Nat.blt_eq] at this
  exact this.1
theorem renOk_lt (hk : renOk is = true) {i o : Nat} (h : look is i = some o) : i < 1000000000 ∧ o < 1000000000 := by
  unfold renOk at hk
  simp only [Bool.and_eq_true] at hk
  have := List.all_eq_true.1 hk.1.1 _ (look_mem2 h)
  simp only [renOk1, Bool.and_eq_true, beq_iff_eq, Bool.or_eq_true, nbeq, Nat.blt_eq] at this
  exact this.2
theorem V0_ren (hk : renOk is = true) {v u v' : Value} (h : V0 R v v') (hu : ren0 (swapR is) v = some u) : V0 (renR is R) u v' := by
  have hn : nodupB (is.map (·.1)) = true := by
    unfold renOk at hk
    simp only [Bool.and_eq_true] at hk
    exact hk.1.2
  unfold ren0 at hu
  split at hu
  · rename_i a
    obtain ⟨b, hb, hu⟩ := oK_some.1 hu
    cases hu
    obtain ⟨p, bl, h1, h2, h3⟩ := h
    exact ⟨p, bl, .inl ⟨a.block, look_swap hn hb, h1⟩, h2, h3⟩
  · rename_i a n c
    obtain ⟨b, hb, hu⟩ := oK_some.1 hu
    cases hu
    obtain ⟨p, h1, h2⟩ := h
    refine ⟨p, .inl ⟨a.block, look_swap hn hb, h1⟩, ?_⟩
    unfold SlOk at h2 ⊢
    simp only
    rw [(renOk_loose hk (look_swap hn hb)).1]
    exact h2
  · cases hu
    rename_i h1 h2
    unfold V0 at h ⊢
    split at h
    · exact absurd rfl (h1 _)
    · exact absurd rfl (h2 _ _ _)
    · exact h
    · exact h
    · exact h
theorem LR_ren {r r' : Value → Value → Prop} {q : Value → Option Value} (hr : ∀ v u v', r v v' → q v = some u → r' u v') : ∀ {l m l' : List Value}, LR r l l' → renL q l = some m → LR r' m l'
  | [], m, [], _, h => by simp only [renL, Option.some.injEq] at h; subst h; trivial
  | v :: l, m, v' :: l', hl, h => by
    simp only [renL, oK_some] at h
    obtain ⟨u, hu, m', hm', h⟩ := h
    cases h
    exact ⟨hr _ _ _ hl.1 hu, LR_ren hr hl.2 hm'⟩
  | [], _, _ :: _, h, _ => h.elim
  | _ :: _, _, [], h, _ => h.elim
theorem renL_len {q : Value → Option Value} : ∀ {l m : List Value}, renL q l = some m → m.length = l.length
  | [], m, h => by simp only [renL, Option.some.injEq] at h; subst h; rfl
  | v :: l, m, h => by
    simp only [renL, oK_some] at h
    obtain ⟨u, hu, m', hm', h⟩ := h
    cases h
    simp [renL_len hm']
theorem V1_ren (hk : renOk is = true) {v u v' : Value} (h : V1 R v v') (hu : ren1 (swapR is) v = some u) : V1 (renR is R) u v' := by
  unfold ren1 at hu
  split at hu
  · obtain ⟨m, hm, hu⟩ := oK_some.1 hu
    cases hu
    obtain ⟨cs', rfl, hl⟩ := h
    exact ⟨cs', rfl, LR_ren (r := V0 R) (fun _ _ _ h1 h2 => V0_ren hk h1 h2) hl hm⟩
  · rename_i hne
    have h0 : V0 R v v' := by
      unfold V1 at h
      split at h
      · exact absurd rfl (hne _)
      · exact h
    have := V0_ren hk h0 hu
    unfold V1
    split
    · exact (show False from this).elim
    · exact this
theorem V2_ren (hk : renOk is = true) {v u v' : Value} (h : V2 R v v') (hu : ren2 (swapR is) v = some u) : V2 (renR is R) u v' := by
  unfold ren2 at hu
  split at hu
  · obtain ⟨m, hm, hu⟩ := oK_some.1 hu
    cases hu
    obtain ⟨cs', rfl, hl⟩ := h
    exact ⟨cs', rfl, LR_ren (r := V1 R) (fun _ _ _ h1 h2 => V1_ren hk h1 h2) hl hm⟩
  · rename_i hne
    have h0 : V1 R v v' := by
      unfold V2 at h
      split at h
      · exact absurd rfl (hne _)
      · exact h
    exact V2_of_V1 (V1_ren hk h0 hu)
theorem getSlots_look {s : St} {ρ : Ren} : ∀ {ts : List Nat} {l : List (Nat × Value)}, getSlots s ρ ts = some l → ∀ t u, look l t = some u → ∃ v, look s.slots t = some v ∧ ren2 ρ v = some u
  | [], l, h, t, u, hv => by simp only [getSlots, Option.some.injEq] at h; subst h; simp [look] at hv
  | x :: r, l, h, t, u, hv => by
    simp only [getSlots, oK_some] at h
    obtain ⟨v, hx, u', hu, l', hl', h⟩ := h
    cases h
    rw [look_cons] at hv
    by_cases hu2 : x = t
    · subst hu2; rw [upd_same] at hv; cases hv; exact ⟨v, hx, hu⟩
    · rw [upd_ne _ _ hu2] at hv; exact getSlots_look hl' t u hv
theorem getMem_look {s : St} {ρ : Ren} : ∀ {js : Ren} {l : List (Nat × Blk)}, getMem s ρ js = some l → (∀ i, look l i = none ↔ look js i = none) ∧ ∀ i b, look l i = some b → ∃ o b0, look js i = some o ∧ look s.mem o = some b0 ∧ renC ρ b0.cells = some b.cells ∧ b.elem = b0.elem ∧ b.own = b0.own
  | [], l, h => by simp only [getMem, Option.some.injEq] at h; subst h; exact ⟨fun i => by simp [look], fun i b hb => by simp [look] at hb⟩
  | (x, y) :: r, l, h => by
    simp only [getMem, oK_some] at h
    obtain ⟨b0, hx, c, hc, l', hl', h⟩ := h
    cases h
    obtain ⟨ih1, ih2⟩ := getMem_look hl'
    constructor
    · intro i
      rw [look_cons, look_cons]
      by_cases hu : x = i
      · subst hu; simp [upd_same]
      · rw [upd_ne _ _ hu, upd_ne _ _ hu]; exact ih1 i
    · intro i b hb
      rw [look_cons] at hb ⊢
      by_cases hu : x = i
      · subst hu
        rw [upd_same] at hb
        cases hb
        exact ⟨y, b0, by rw [upd_same], hx, hc, rfl, rfl⟩
      · rw [upd_ne _ _ hu] at hb ⊢
        exact ih2 i b hb
theorem MRel.ren (hk : renOk is = true) {s : St} {me : List (Nat × Blk)} (hm : getMem s (swapR is) is = some me) (h : MRel w0 R (look s.mem) w) : MRel w0 (renR is R) (look me) w := by
  obtain ⟨g1, g2⟩ := getMem_look hm
  have hk2 := hk
  unfold renOk at hk2
  simp only [Bool.and_eq_true] at hk2
  have hn1 := hk2.1.2
  have hn2 := hk2.2
  have big : ∀ i, 1000000000 ≤ i → look is i = none := fun i hi => by
    cases hl : look is i with
    | none => rfl
    | some o => have := (renOk_lt hk hl).1; omega
  have bigm : ∀ i blk, look me i = some blk → i < 1000000000 := fun i blk hi => by
    obtain ⟨o, b0, k1, _⟩ := g2 _ _ hi
    exact (renOk_lt hk k1).1
  have frz : ∀ b, Frz R b → Frz (renR is R) b := fun b hb => .inr ⟨Nat.le_add_right _ _, hb⟩
  have row : ∀ (e : TypeId) (ks : List CK) (m : Nat) (f : Nat → List Value) (v : Value), RowAt R w e ks m f v → RowAt (renR is R) w e ks m f v := by
    intro e ks m f v hr
    rcases hr with hr | ⟨b, d, c, cs, fz, h1, h2, h3, h4, h5⟩
    · exact .inl hr
    · exact .inr ⟨b, d, c, cs, fz, h1, h2, frz _ h3, h4, h5⟩
  refine ⟨h.below, ?_, ?_, ?_, ?_, ?_, ?_, ?_⟩
  · rintro i p p' (⟨o, h1, h2⟩ | ⟨h1, h2⟩) (⟨o', h3, h4⟩ | ⟨h3, h4⟩)
    · rw [h1] at h3; cases h3
      exact h.func _ _ _ h2 h4
    · have := (renOk_lt hk h1).1; omega
    · have := (renOk_lt hk h3).1; omega
    · exact h.func _ _ _ h2 h4
  · rintro i j p q b (⟨o, h1, h2⟩ | ⟨h1, h2⟩) (⟨o', h3, h4⟩ | ⟨h3, h4⟩) ha hb hne blk hblk hown blk' hblk'
    rotate_left
    · have := bigm _ _ hblk'; omega
    · have := bigm _ _ hblk; omega
    · have := bigm _ _ hblk; omega
    obtain ⟨o1, b1, k1, k2, k3, k4, k5⟩ := g2 _ _ hblk
    obtain ⟨o2, b2, l1, l2, l3, l4, l5⟩ := g2 _ _ hblk'
    rw [h1] at k1; cases k1
    rw [h3] at l1; cases l1
    have := h.inj o o' p q b h2 h4 ha hb (fun e => hne (look_inj hn2 h1 (by rw [e]; exact h3))) b1 k2 (by rw [← k5]; exact hown) b2 l2
    refine ⟨by rw [l5]; exact this.1, ?_⟩
    have hl := this.2
    unfold renC at l3
    split at l3
    · rename_i l hc
      rw [hc] at hl
      have hl : l = [] := hl
      rw [hl] at l3
      simp only [renL, oK] at l3
      rw [← Option.some.inj l3]; rfl
    · rename_i hc
      rw [hc] at hl
      rw [← Option.some.inj l3]; exact hl
    · obtain ⟨_, _, l3⟩ := oK_some.1 l3; rw [← Option.some.inj l3]; rfl
    · obtain ⟨_, _, l3⟩ := oK_some.1 l3; rw [← Option.some.inj l3]; rfl
    · rw [← Option.some.inj l3]; rfl
  · intro i blk hi
    obtain ⟨o, b0, k1, k2, k3, k4, k5⟩ := g2 _ _ hi
    have hmo := h.mem o b0 k2
    obtain ⟨cells, elem, own⟩ := blk
    obtain ⟨cells0, elem0, own0⟩ := b0
    simp only at k3 k4 k5
    subst k4 k5
    have cont : ∀ (c : Cells), ContOk w0 R w o ⟨cells0, elem, own⟩ → (∀ l, LP R cells0.list l → LP (renR is R) c.list l) → (cells0.list = [] → c.list = []) → (∀ p size, roomOk o cells0 p size → roomOk i c p size) → ContOk w0 (renR is R) w i ⟨c, elem, own⟩ := by
      intro c hco hlp hnil hroom
      obtain ⟨p, m1, m2⟩ := hco
      refine ⟨p, .inl ⟨o, k1, m1⟩, ?_⟩
      cases hpa : p.a with
      | none => rw [hpa] at m2; exact hnil m2
      | some b =>
        rw [hpa] at m2
        obtain ⟨cs, fz, n1, n2, n3⟩ := m2
        exact ⟨cs, fz, n1, hlp _ n2, fun ho => ⟨(n3 ho).1, (n3 ho).2.1, hroom _ _ (n3 ho).2.2⟩⟩
    unfold renC at k3
    split at k3
    · rename_i l
      obtain ⟨m, hm2, k3⟩ := oK_some.1 k3
      have k3 := (Option.some.inj k3).symm; subst k3
      refine cont (.lst m) hmo (fun l' hl' => ?_) (fun h0 => ?_) (fun p size hr => by show loose i = true → _; rw [(renOk_loose hk k1).1]; exact hr)
      · have hl' : LR (V0 R) l (l'.take l.length) := hl'
        show LR (V0 (renR is R)) m (l'.take m.length)
        rw [renL_len hm2]
        exact LR_ren (r := V0 R) (fun _ _ _ h1 h2 => V0_ren hk h1 h2) hl' hm2
      · have h0 : l = [] := h0
        rw [h0] at hm2
        simp only [renL, Option.some.injEq] at hm2
        exact hm2.symm
    · rename_i ks n f
      have k3 := (Option.some.inj k3).symm; subst k3
      refine cont (.row ks n f) hmo (fun l' hl' => ?_) (fun h0 => h0) (fun p size hr => ?_)
      · have hl' : LP R (rowL ks f 0 n) l' := hl'
        show LP (renR is R) (rowL ks f 0 n) l'
        have := (LR_plain (r := V0 R) (pl := pl0) (fun v v' hv => V0_plain hv) (rowL_pl ks f n 0)).1 hl'
        exact LP_plain (rowL_pl _ _ _ _) this
      · show loose i = true → _
        rw [(renOk_loose hk k1).1]; exact hr
    · rename_i j k sz
      obtain ⟨j', hj, k3⟩ := oK_some.1 k3
      have k3 := (Option.some.inj k3).symm; subst k3
      obtain ⟨p, q, b, m1, m2, m3⟩ := hmo
      exact ⟨p, q, b, .inl ⟨j, look_swap hn1 hj, m1⟩, .inl ⟨o, k1, m2⟩, m3⟩
    · rename_i j l cnt sz
      obtain ⟨j', hj, k3⟩ := oK_some.1 k3
      have k3 := (Option.some.inj k3).symm; subst k3
      obtain ⟨p, q, m1, m2, m3⟩ := hmo
      exact ⟨p, q, .inl ⟨j, look_swap hn1 hj, m1⟩, .inl ⟨o, k1, m2⟩, m3⟩
    · rename_i ks m es g
      have k3 := (Option.some.inj k3).symm; subst k3
      obtain ⟨p, m1, m2⟩ : FamOk w0 R w o elem own ks m es g := hmo
      refine ⟨p, .inl ⟨o, k1, m1⟩, ?_⟩
      cases hpa : p.a with
      | none => rw [hpa] at m2; exact m2
      | some b =>
        rw [hpa] at m2
        obtain ⟨cs, fz, n1, n2, n3, n4⟩ := m2
        refine ⟨cs, fz, n1, fun j hj => ?_, fun hf => frz _ (n3 hf), n4⟩
        obtain ⟨v, n5, n6⟩ := n2 j hj
        exact ⟨v, n5, row _ _ _ _ _ n6⟩
  · rintro i p (⟨o, h1, h2⟩ | ⟨h1, h2⟩) hvb
    · cases hl : look me i with
      | none => rw [(g1 i).1 hl] at h1; simp at h1
      | some _ => rfl
    · omega
  · rintro i p (⟨o, h1, h2⟩ | ⟨h1, h2⟩) hge hvb
    · rcases (renOk_loose hk h1).2 with e | e
      · subst e; exact h.anc _ _ h2 hge hvb
      · omega
    · omega
  · rintro i p b (⟨o, h1, h2⟩ | ⟨h1, h2⟩) hb
    · exact h.there _ _ _ h2 hb
    · exact h.there _ _ _ h2 hb
  · rintro i p (⟨o, h1, h2⟩ | ⟨h1, h2⟩) hge
    · have := (renOk_lt hk h1).1; omega
    · obtain ⟨h3, h4⟩ := h.fro i p h2 hge
      refine ⟨h3, ?_⟩
      rintro j q (⟨o, h5, h6⟩ | ⟨h5, h6⟩) hq blk hblk
      · obtain ⟨o1, b1, k1, k2, k3, k4, k5⟩ := g2 _ _ hblk
        rw [h5] at k1; cases k1
        rw [k5]; exact h4 o q h6 hq b1 k2
      · have := bigm _ _ hblk; omega
theorem Rel.rest {ts : List Nat} {nx : Nat} {s s' : St} (hr : restS ts is nx s = some s') (h : Rel w0 n R s.f a w) : ∃ R', Rel w0 n R' s'.f a w := by
  unfold restS at hr
  obtain ⟨hk, hr⟩ := cond_some.1 hr
  obtain ⟨sl, h1, hr⟩ := oK_some.1 hr
  obtain ⟨me, h2, h3⟩ := oK_some.1 hr
  cases h3
  refine ⟨renR is R, h.defers, h.size, ?_, MRel.ren hk h2 h.m⟩
  intro t u hu
  obtain ⟨v, h3, h4⟩ := getSlots_look h1 t u hu
  obtain ⟨v', h5, h6⟩ := h.slot t v h3
  exact ⟨v', h5, V2_ren hk h6 h4⟩
end
section
variable {P : Program} [Laid P] {C : Cfg} {code body : Code}
def cutK (nt : List Nat) (ni : Ren) (nx : Nat) (et : List Nat) (ei : Ren) (ex : Nat) (e : Exit) (s : St) : Option (Exit × St) :=
  match e with
  | .normal => oK (restS nt ni nx s) (fun s => some (.normal, s)) none
  | e => oK (restS et ei ex s) (fun s => some (e, s)) none
def roundS (C : Cfg) (m : Nat) (p : List Nat) (body : Code) (nt : List Nat) (ni : Ren) (nx : Nat) (et : List Nat) (ei : Ren) (ex : Nat) (s : St) : Option (Exit × St) :=
  evK C m p body s (fun e s' => cutK nt ni nx et ei ex e s') none
theorem round_sound (hC : CfgOk P C code) {p : List Nat} (hp : codeAt p code = some body) {m : Nat} {nt et : List Nat} {ni ei : Ren} {nx ex : Nat} {s s' : St} {e : Exit} (h : roundS C m p body nt ni nx et ei ex s = some (e, s'))
    {w0 : Wb (lay P)} {R : Nat → Pl → Prop} {a : Act} {w : World} (hrel : Rel w0 C.n R s.f a w) : body.wp P (fun e' a' w' => e' = e ∧ ∃ R', Rel w0 C.n R' s'.f a' w') a w := by
  unfold roundS at h
  rw [evK_eq, oK_some] at h
  obtain ⟨⟨e1, s1⟩, h1, h2⟩ := h
  refine wp_mono (ev_sound hC hp h1 hrel) ?_
  rintro e' a' w' ⟨rfl, R', hr'⟩
  cases e' <;> simp only [cutK, oK_some] at h2 <;>
    (obtain ⟨s2, h3, h4⟩ := h2; cases h4; exact ⟨rfl, Rel.rest h3 hr'⟩)
theorem loop_rounds (hC : CfgOk P C code) {p : List Nat} (hp : codeAt p code = some (.loop body)) {m : Nat} {nt et : List Nat} {ni ei : Ren} {nx ex : Nat} (st : Nat → St) (N : Nat) {e : Exit} {sf : St} (he : e ≠ .normal)
    (step : ∀ k, k < N → roundS C m (p ++ [0]) body nt ni nx et ei ex (st k) = some (.normal, st (k + 1)))
    (last : roundS C m (p ++ [0]) body nt ni nx et ei ex (st N) = some (e, sf))
    {w0 : Wb (lay P)} {R : Nat → Pl → Prop} {a : Act} {w : World} (hrel : Rel w0 C.n R (st 0).f a w) : (Code.loop body).wp P (fun e' a' w' => e' = e ∧ ∃ R', Rel w0 C.n R' sf.f a' w') a w := by
  have hx : codeAt (p ++ [0]) code = some body := by rw [codeAt_app, hp]; rfl
  have key : ∀ j, j ≤ N → ∀ (R : Nat → Pl → Prop) (a : Act) (w : World), Rel w0 C.n R (st (N - j)).f a w → Code.rounds P body (fun e' a' w' => e' = e ∧ ∃ R', Rel w0 C.n R' sf.f a' w') (j + 1) a w := by
    intro j
    induction j with
    | zero =>
      intro _ R a w hr
      rw [rounds_succ]
      refine wp_mono (round_sound hC hx last hr) ?_
      rintro e' a' w' ⟨rfl, hr'⟩
      cases e' with
      | normal => exact absurd rfl he
      | _ => exact ⟨rfl, hr'⟩
    | succ j ih =>
      intro hj R a w hr
      rw [rounds_succ]
      refine wp_mono (round_sound hC hx (step (N - (j + 1)) (by omega)) hr) ?_
      rintro e' a' w' ⟨rfl, R', hr'⟩
      refine ih (by omega) R' a' w' ?_
      rw [show N - j = N - (j + 1) + 1 from by omega]
      exact hr'
  exact wp_loop_rounds (N + 1) (key N (Nat.le_refl N) R a w (by rw [Nat.sub_self]; exact hrel))
end
end Go.W
/-
  The engine, part 13: loops that are told at one state.
-/
namespace Go.W
open Go.RowKit (Below)
def veq0 : Value → Value → Bool
  | .int k x, .int k' y => decide (k = k') && decide (x = y)
  | .bool a, .bool b => decide (a = b)
  | .pointer a, .pointer b => decide (a = b)
  | .slice a n c, .slice b m d => decide (a = b) && Nat.beq n m && Nat.beq c d
  | .string s, .string t => decide (s = t)
  | _, _ => false
def leq (q : Value → Value → Bool) : List Value → List Value → Bool
  | [], [] => true
  | a :: l, b :: m => q a b && leq q l m
  | _, _ => false
def veq1 : Value → Value → Bool
  | .agg xs, .agg ys => leq veq0 xs.toList ys.toList
  | v, u => veq0 v u
def slotsEq : List (Nat × Value) → List (Nat × Value) → Bool
  | [], [] => true
  | a :: l, b :: m => Nat.beq a.1 b.1 && veq1 a.2 b.2 && slotsEq l m
  | _, _ => false
noncomputable def rowEq (ks : List CK) (n : Nat) (f g : Nat → List Value) : Bool := @decide (∀ j, j < n → nrmK ks (f j) = nrmK ks (g j)) (Classical.propDecidable _)
noncomputable def lstEq (l m : List Value) : Bool := @decide (l = m) (Classical.propDecidable _)
noncomputable def famEq (ks : List CK) (n : Nat) (es es' : Nat → TypeId) (g g' : Nat → Nat × (Nat → List Value)) : Bool := @decide (∀ j, j < n → es j = es' j ∧ (g j).1 = (g' j).1 ∧ ∀ x, x < (g j).1 → nrmK ks ((g j).2 x) = nrmK ks ((g' j).2 x)) (Classical.propDecidable _)
noncomputable def cellsEq (i : Nat) : Cells → Cells → Bool
  | .lst l, .lst m => leq veq0 l m
  | .row ks n f, .row ks' n' g => ksEq ks ks' && Nat.beq n n' && rowEq ks n f g
  | .lst l, .row ks n f => !(loose i) && lstEq l (rowL ks f 0 n)
  | .row ks n f, .lst l => !(loose i) && lstEq (rowL ks f 0 n) l
  | .elt a k sz, .elt b k' sz' => Nat.beq a b && Nat.beq k k' && Nat.beq sz sz'
  | .tail a l c sz, .tail b l' c' sz' => Nat.beq a b && Nat.beq l l' && Nat.beq c c' && Nat.beq sz sz'
  | .fam ks n es g, .fam ks' n' es' g' => ksEq ks ks' && Nat.beq n n' && famEq ks n es es' g g'
  | _, _ => false
noncomputable def memEq : List (Nat × Blk) → List (Nat × Blk) → Bool
  | [], [] => true
  | a :: l, b :: m => Nat.beq a.1 b.1 && cellsEq a.1 a.2.cells b.2.cells && Nat.beq a.2.elem b.2.elem && decide (a.2.own = b.2.own) && memEq l m
  | _, _ => false
noncomputable def stEq (s t : St) : Bool := slotsEq s.slots t.slots && memEq s.mem t.mem && Nat.beq s.next t.next
theorem veq0_eq {a b : Value} (h : veq0 a b = true) : a = b := by
  unfold veq0 at h
  split at h <;> simp_all
theorem leq_eq {q : Value → Value → Bool} (hq : ∀ a b, q a b = true → a = b) : ∀ {l m : List Value}, leq q l m = true → l = m
  | [], [], _ => rfl
  | a :: l, b :: m, h => by
    simp only [leq, Bool.and_eq_true] at h
    rw [hq a b h.1, leq_eq hq h.2]
  | [], _ :: _, h => by simp [leq] at h
  | _ :: _, [], h => by simp [leq] at h
theorem veq1_eq {a b : Value} (h : veq1 a b = true) : a = b := by
  unfold veq1 at h
  split at h
  · rename_i xs ys
    congr 1
    exact Array.toList_inj.1 (leq_eq (fun _ _ => veq0_eq) h)
  · exact veq0_eq h
theorem slotsEq_eq : ∀ {l m : List (Nat × Value)}, slotsEq l m = true → l = m
  | [], [], _ => rfl
  | (a, x) :: l, (b, y) :: m, h => by
    simp only [slotsEq, Bool.and_eq_true] at h
    rw [nbeq.1 h.1.1, veq1_eq h.1.2, slotsEq_eq h.2]
  | [], _ :: _, h => by simp [slotsEq] at h
  | _ :: _, [], h => by simp [slotsEq] at h
def CellsEqv (i : Nat) (c c' : Cells) : Prop := c' = c ∨ (∃ ks n es es' g g', c = .fam ks n es g ∧ c' = .fam ks n es' g' ∧ ∀ j, j < n → es j = es' j ∧ (g j).1 = (g' j).1 ∧ ∀ x, x < (g j).1 → nrmK ks ((g j).2 x) = nrmK ks ((g' j).2 x)) ∨ ((∀ ks n es g, c ≠ .fam ks n es g) ∧ (∀ ks n es g, c' ≠ .fam ks n es g) ∧ (∀ a k sz, c ≠ .elt a k sz) ∧ (∀ a l k sz, c ≠ .tail a l k sz) ∧ (∀ a k sz, c' ≠ .elt a k sz) ∧ (∀ a l k sz, c' ≠ .tail a l k sz) ∧ c'.list = c.list ∧ ∀ p size, roomOk i c p size → roomOk i c' p size)
theorem cellsEq_eqv {i : Nat} {c c' : Cells} (h : cellsEq i c c' = true) : CellsEqv i c c' := by
  unfold cellsEq at h
  split at h
  · left; rw [leq_eq (fun _ _ => veq0_eq) h]
  · rename_i ks n f ks' n' g
    simp only [Bool.and_eq_true] at h
    obtain ⟨⟨h1, h2⟩, h3⟩ := h
    have h1 := ksEq_eq h1; subst h1
    have h2 := nbeq.1 h2; subst h2
    have h3 : ∀ j, j < n → nrmK ks (f j) = nrmK ks (g j) := @of_decide_eq_true _ (Classical.propDecidable _) h3
    refine .inr (.inr ⟨nofun, nofun, nofun, nofun, nofun, nofun, ?_, fun _ _ h => h⟩)
    exact rowL_congr ks n 0 (fun j _ hj => (h3 j (by omega)).symm)
  · rename_i l ks n f
    simp only [Bool.and_eq_true, Bool.not_eq_true'] at h
    have h2 : l = rowL ks f 0 n := @of_decide_eq_true _ (Classical.propDecidable _) h.2
    refine .inr (.inr ⟨nofun, nofun, nofun, nofun, nofun, nofun, h2.symm, fun p size _ => ?_⟩)
    show loose i = true → _
    rw [h.1]; intro e; simp at e
  · rename_i ks n f l
    simp only [Bool.and_eq_true, Bool.not_eq_true'] at h
    have h2 : rowL ks f 0 n = l := @of_decide_eq_true _ (Classical.propDecidable _) h.2
    exact .inr (.inr ⟨nofun, nofun, nofun, nofun, nofun, nofun, h2.symm, fun p size _ => by show loose i = true → _; rw [h.1]; intro e; simp at e⟩)
  · simp only [Bool.and_eq_true] at h
    left; rw [nbeq.1 h.1.1, nbeq.1 h.1.2, nbeq.1 h.2]
  · simp only [Bool.and_eq_true] at h
    left; rw [nbeq.1 h.1.1.1, nbeq.1 h.1.1.2, nbeq.1 h.1.2, nbeq.1 h.2]
  · rename_i ks n es g ks' n' es' g'
    simp only [Bool.and_eq_true] at h
    obtain ⟨⟨h1, h2⟩, h3⟩ := h
    have h1 := ksEq_eq h1; subst h1
    have h2 := nbeq.1 h2; subst h2
    exact .inr (.inl ⟨ks, n, es, es', g, g', rfl, rfl, @of_decide_eq_true _ (Classical.propDecidable _) h3⟩)
  · simp at h
theorem memEq_eqv : ∀ {l m : List (Nat × Blk)}, memEq l m = true → ∀ i, (look l i = none ∧ look m i = none) ∨ ∃ b b', look l i = some b ∧ look m i = some b' ∧ b'.elem = b.elem ∧ b'.own = b.own ∧ CellsEqv i b.cells b'.cells
  | [], [], _, i => .inl ⟨rfl, rfl⟩
  | (x, b) :: l, (y, b') :: m, h, i => by
    simp only [memEq, Bool.and_eq_true, decide_eq_true_eq] at h
    obtain ⟨⟨⟨⟨h1, h2⟩, h3⟩, h4⟩, h5⟩ := h
    have h1 := nbeq.1 h1; subst h1
    rw [look_cons, look_cons]
    by_cases hi : x = i
    · subst hi
      rw [upd_same, upd_same]
      exact .inr ⟨b, b', rfl, rfl, (nbeq.1 h3).symm, h4.symm, cellsEq_eqv h2⟩
    · rw [upd_ne _ _ hi, upd_ne _ _ hi]
      exact memEq_eqv h5 i
  | [], _ :: _, h, _ => by simp [memEq] at h
  | _ :: _, [], h, _ => by simp [memEq] at h
theorem Rel.eqv {GL : Glob} {w0 : Wb GL} {n : Nat} {R : Nat → Pl → Prop} {s t : St} {a : Act} {w : World} (he : stEq s t = true) (h : Rel w0 n R s.f a w) : Rel w0 n R t.f a w := by
  obtain ⟨sl, me, nx⟩ := s
  obtain ⟨sl', me', nx'⟩ := t
  simp only [stEq, Bool.and_eq_true] at he
  obtain ⟨⟨h1, h2⟩, _⟩ := he
  have h1 := slotsEq_eq h1
  subst h1
  have hm := memEq_eqv h2
  refine ⟨h.defers, h.size, h.slot, h.m.below, h.m.func, ?_, ?_, ?_, h.m.anc, h.m.there, fun i1 p1 h1 hge1 => by
    obtain ⟨h2, h3⟩ := h.m.fro i1 p1 h1 hge1
    refine ⟨h2, fun j q hj hq blk1 hblk1 => ?_⟩
    have hblk1 : look me' j = some blk1 := hblk1
    rcases hm j with ⟨_, e⟩ | ⟨c, c', k1, k2, k3, k4, _⟩
    · rw [e] at hblk1; simp at hblk1
    · rw [k2] at hblk1; cases hblk1
      rw [k4]; exact h3 j q hj hq c k1⟩
  · intro i j p q b r1 r2 ha hb hne blk hblk hown blk' hblk'
    have hblk : look me' i = some blk := hblk
    have hblk' : look me' j = some blk' := hblk'
    rcases hm i with ⟨_, e⟩ | ⟨c, c', k1, k2, k3, k4, _⟩
    · rw [e] at hblk; simp at hblk
    · rw [k2] at hblk; cases hblk
      rcases hm j with ⟨_, e⟩ | ⟨d, d', l1, l2, l3, l4, l5⟩
      · rw [e] at hblk'; simp at hblk'
      · rw [l2] at hblk'; cases hblk'
        have := h.m.inj i j p q b r1 r2 ha hb hne c k1 (by rw [← k4]; exact hown) d l1
        refine ⟨by rw [l4]; exact this.1, ?_⟩
        rcases l5 with e | ⟨_, _, _, _, _, _, _, e, _⟩ | ⟨_, _, _, _, _, _, e, _⟩
        · rw [e]; exact this.2
        · rw [e]; rfl
        · rw [e]; exact this.2
  · intro i blk hblk
    have hblk : look me' i = some blk := hblk
    rcases hm i with ⟨_, e⟩ | ⟨c, c', k1, k2, k3, k4, k5⟩
    · rw [e] at hblk; simp at hblk
    · rw [k2] at hblk; cases hblk
      have hmo := h.m.mem i c k1
      obtain ⟨cells, elem, own⟩ := c
      obtain ⟨cells', elem', own'⟩ := blk
      simp only at k3 k4 k5
      subst k3 k4
      rcases k5 with e | ⟨ks, m, es, es', g, g', rfl, rfl, e⟩ | ⟨f1, f2, e1, e2, e3, e4, e5, e6⟩
      · subst e; exact hmo
      · obtain ⟨p, m1, m2⟩ : FamOk w0 R w i elem' own' ks m es g := hmo
        refine ⟨p, m1, ?_⟩
        cases hpa : p.a with
        | none => rw [hpa] at m2; exact m2
        | some b =>
          rw [hpa] at m2
          obtain ⟨cs, fz, n1, n2, n3⟩ := m2
          refine ⟨cs, fz, n1, fun j hj => ?_, n3.1, fun ho => ⟨(n3.2 ho).1, (n3.2 ho).2.1, (n3.2 ho).2.2.1, fun j hj v hv => by rw [← (e j hj).2.1]; exact (n3.2 ho).2.2.2 j hj v hv⟩⟩
          obtain ⟨v, n5, n6⟩ := n2 j hj
          obtain ⟨d1, d2, d3⟩ := e j hj
          refine ⟨v, n5, ?_⟩
          rw [← d1, ← d2]
          rcases n6 with n6 | ⟨b2, d, c, cs2, fz2, o1, o2, o3, o4, o5⟩
          · exact .inl n6
          · exact .inr ⟨b2, d, c, cs2, fz2, o1, o2, o3, o4, by rw [o5]; exact rowL_congr ks _ 0 (fun x _ hx => d3 x (by omega))⟩
      · have hco : ContOk w0 R w i ⟨cells, elem', own'⟩ := by
          unfold MemOk at hmo
          split at hmo
          · rename_i hc; exact absurd hc (e1 _ _ _)
          · rename_i hc; exact absurd hc (e2 _ _ _ _)
          · rename_i hc; exact absurd hc (f1 _ _ _ _)
          · exact hmo
        unfold MemOk
        split
        · rename_i hc; exact absurd hc (e3 _ _ _)
        · rename_i hc; exact absurd hc (e4 _ _ _ _)
        · rename_i hc; exact absurd hc (f2 _ _ _ _)
        · obtain ⟨p, m1, m2⟩ := hco
          refine ⟨p, m1, ?_⟩
          cases hpa : p.a with
          | none => rw [hpa] at m2; show cells'.list = []; rw [e5]; exact m2
          | some b =>
            rw [hpa] at m2
            obtain ⟨cs, fz, n1, n2, n3⟩ := m2
            refine ⟨cs, fz, n1, ?_, fun ho => ⟨(n3 ho).1, (n3 ho).2.1, e6 _ _ (n3 ho).2.2⟩⟩
            show LP R cells'.list _
            rw [e5]; exact n2
  · intro i p hp hvb
    have := h.m.dom i p hp hvb
    show (look me' i).isSome = true
    rcases hm i with ⟨e, _⟩ | ⟨c, c', k1, k2, _⟩
    · have this : (look me i).isSome = true := this
      rw [e] at this; simp at this
    · rw [k2]; rfl
def vok0 : Value → Bool
  | .int _ _ => true
  | .bool _ => true
  | .pointer _ => true
  | .slice _ _ _ => true
  | .string _ => true
  | _ => false
def vok1 : Value → Bool
  | .agg xs => xs.toList.all vok0
  | v => vok0 v
def vokC : Cells → Bool
  | .lst l => l.all vok0
  | _ => true
def stOk (s : St) : Bool := s.slots.all (fun p => vok1 p.2) && s.mem.all (fun p => vokC p.2.cells)
theorem veq0_refl {a : Value} (h : vok0 a = true) : veq0 a a = true := by
  unfold vok0 at h
  split at h <;> simp_all [veq0]
theorem leq_refl {q : Value → Value → Bool} {p : Value → Bool} (hq : ∀ a, p a = true → q a a = true) : ∀ {l : List Value}, l.all p = true → leq q l l = true
  | [], _ => rfl
  | a :: l, h => by
    simp only [List.all_cons, Bool.and_eq_true] at h
    simp only [leq, hq a h.1, leq_refl hq h.2, Bool.and_self]
theorem veq1_refl {a : Value} (h : vok1 a = true) : veq1 a a = true := by
  unfold vok1 at h
  split at h
  · exact leq_refl (fun _ => veq0_refl) h
  · rename_i hne
    unfold veq1
    split
    · exact absurd rfl (hne _)
    · exact veq0_refl h
theorem slotsEq_refl : ∀ {l : List (Nat × Value)}, l.all (fun p => vok1 p.2) = true → slotsEq l l = true
  | [], _ => rfl
  | (a, x) :: l, h => by
    simp only [List.all_cons, Bool.and_eq_true] at h
    simp only [slotsEq, Nat.beq_refl, veq1_refl h.1, slotsEq_refl h.2, Bool.and_self]
theorem cellsEq_refl {i : Nat} {c : Cells} (h : vokC c = true) : cellsEq i c c = true := by
  cases c with
  | lst l => exact leq_refl (fun _ => veq0_refl) h
  | row ks n f =>
    have : rowEq ks n f f = true := @decide_eq_true _ (Classical.propDecidable _) (fun _ _ => rfl)
    simp only [cellsEq, ksEq_refl, Nat.beq_refl, this, Bool.and_self]
  | elt a k sz => simp only [cellsEq, Nat.beq_refl, Bool.and_self]
  | tail a l k sz => simp only [cellsEq, Nat.beq_refl, Bool.and_self]
  | fam ks n es g =>
    have : famEq ks n es es g g = true := @decide_eq_true _ (Classical.propDecidable _) (fun _ _ => ⟨rfl, rfl, fun _ _ => rfl⟩)
    simp only [cellsEq, ksEq_refl, Nat.beq_refl, this, Bool.and_self]
theorem memEq_refl : ∀ {l : List (Nat × Blk)}, l.all (fun p => vokC p.2.cells) = true → memEq l l = true
  | [], _ => rfl
  | (a, ⟨c, e, o⟩) :: l, h => by
    simp only [List.all_cons, Bool.and_eq_true] at h
    have h5 := cellsEq_refl (i := a) h.1
    simp only [memEq, Nat.beq_refl, h5, memEq_refl h.2, Bool.and_self, decide_true]
theorem stEq_refl {s : St} (h : stOk s = true) : stEq s s = true := by
  simp only [stOk, Bool.and_eq_true] at h
  simp only [stEq, slotsEq_refl h.1, memEq_refl h.2, Nat.beq_refl, Bool.and_self]
theorem lstEq_of {l m : List Value} (h : l = m) : lstEq l m = true := @decide_eq_true _ (Classical.propDecidable _) h
theorem cellsEq_lr {i : Nat} {l : List Value} {ks : List CK} {n : Nat} {f : Nat → List Value} (hl : loose i = false) (h : l = rowL ks f 0 n) : cellsEq i (.lst l) (.row ks n f) = true := by
  simp only [cellsEq, hl, lstEq_of h, Bool.not_false, Bool.and_self]
theorem cellsEq_rl {i : Nat} {l : List Value} {ks : List CK} {n : Nat} {f : Nat → List Value} (hl : loose i = false) (h : rowL ks f 0 n = l) : cellsEq i (.row ks n f) (.lst l) = true := by
  simp only [cellsEq, hl, lstEq_of h, Bool.not_false, Bool.and_self]
theorem cellsEq_rr {i : Nat} {ks : List CK} {n : Nat} {f g : Nat → List Value} (h : ∀ j, j < n → nrmK ks (f j) = nrmK ks (g j)) : cellsEq i (.row ks n f) (.row ks n g) = true := by
  have : rowEq ks n f g = true := @decide_eq_true _ (Classical.propDecidable _) h
  simp only [cellsEq, ksEq_refl, Nat.beq_refl, this, Bool.and_self]
theorem cellsEq_ff {i : Nat} {ks : List CK} {n : Nat} {es es' : Nat → TypeId} {g g' : Nat → Nat × (Nat → List Value)} (h : ∀ j, j < n → es j = es' j ∧ (g j).1 = (g' j).1 ∧ ∀ x, x < (g j).1 → nrmK ks ((g j).2 x) = nrmK ks ((g' j).2 x)) : cellsEq i (.fam ks n es g) (.fam ks n es' g') = true := by
  have : famEq ks n es es' g g' = true := @decide_eq_true _ (Classical.propDecidable _) h
  simp only [cellsEq, ksEq_refl, Nat.beq_refl, this, Bool.and_self]
theorem memEq_cons {a : Nat} {c c' : Cells} {e : TypeId} {o : Bool} {l m : List (Nat × Blk)} (h : cellsEq a c c' = true) (h2 : memEq l m = true) : memEq ((a, ⟨c, e, o⟩) :: l) ((a, ⟨c', e, o⟩) :: m) = true := by
  simp only [memEq, Nat.beq_refl, h, h2, Bool.and_self, decide_true]
theorem stEq_mk {sl : List (Nat × Value)} {m m' : List (Nat × Blk)} {nx : Nat} (h1 : sl.all (fun p => vok1 p.2) = true) (h2 : memEq m m' = true) : stEq ⟨sl, m, nx⟩ ⟨sl, m', nx⟩ = true := by
  simp only [stEq, slotsEq_refl h1, h2, Nat.beq_refl, Bool.and_self]
noncomputable def atSt (ts : List Nat) (is : Ren) (nx : Nat) (s0 : St) (e : Exit) (sf : St) (s : St) : List (Bool × Exit × St) :=
  oK (restS ts is nx s) (fun s1 => [(stEq s1 s0, e, sf)]) []
theorem atSt_ok {P : Program} [Laid P] {n : Nat} {body : Code} {ts : List Nat} {is : Ren} {nx : Nat} {s0 : St} {e : Exit} {sf : St}
    (h : ∀ (w0 : Wb (lay P)) (R : Nat → Pl → Prop) (a : Act) (w : World), Rel w0 n R s0.f a w → (Code.loop body).wp P (fun e' a' w' => e' = e ∧ ∃ R', Rel w0 n R' sf.f a' w') a w) : LoopOk P n body (atSt ts is nx s0 e sf) := by
  intro w0 R s a w hrel e' s' hp
  unfold atSt at hp
  cases hr : restS ts is nx s with
  | none => rw [hr] at hp; simp [oK, pickL] at hp
  | some s1 =>
    rw [hr] at hp
    simp only [oK, pickL, cond_some] at hp
    obtain ⟨h1, h2⟩ := hp
    cases h2
    obtain ⟨R', hr'⟩ := Rel.rest hr hrel
    exact h w0 R' a w (hr'.eqv h1)
theorem oneL {P : Program} [Laid P] {n : Nat} {c : Code} {p : List Nat} {F : St → List (Bool × Exit × St)} (h : LoopOk P n (loopAt p c) F) : ∀ q F', lookP [(p, F)] q = some F' → LoopOk P n (loopAt q c) F' := by
  intro q F' hq
  simp only [lookP] at hq
  cases he : nlEq p q with
  | false => rw [he] at hq; simp at hq
  | true => rw [he] at hq; simp at hq; subst hq; rw [← nlEq_iff he]; exact h
theorem consL {P : Program} [Laid P] {n : Nat} {c : Code} {p : List Nat} {F : St → List (Bool × Exit × St)} {L : List (List Nat × (St → List (Bool × Exit × St)))} (h : LoopOk P n (loopAt p c) F)
    (hL : ∀ q F', lookP L q = some F' → LoopOk P n (loopAt q c) F') : ∀ q F', lookP ((p, F) :: L) q = some F' → LoopOk P n (loopAt q c) F' := by
  intro q F' hq
  simp only [lookP] at hq
  cases he : nlEq p q with
  | false => rw [he] at hq; exact hL q F' hq
  | true => rw [he] at hq; simp at hq; subst hq; rw [← nlEq_iff he]; exact h
def ptr (b : Nat) : Value := .pointer (some ⟨b, 0, none⟩)
end Go.W
/-
  The engine, part 15: functions whose arguments stand for rows that they read, and that may answer with a new row.
-/
namespace Go.W
open Go.RowKit (Below)
def srcB (mm : Nat → Option Blk) (ks : List CK) (v : Value) : Bool × Nat × (Nat → List Value) :=
  match v with
  | .slice none n c => (Nat.beq n 0 && Nat.beq c 0, 0, fun _ => [])
  | .slice (some ⟨b, off, none⟩) n c => (match mm b with
    | some blk => (match blk.cells with
      | .lst l => (Nat.ble (off + n * ks.length) l.length && fitsK (repK n ks) ((l.drop off).take (n * ks.length)) && Nat.ble n c, n, lstF l off ks.length)
      | .row ks' m f => (Nat.beq off 0 && Nat.ble n m && ksEq ks' ks && Nat.ble n c, n, segF ⟨b, 0, m, ks', m, f, blk.elem, blk.own, [b]⟩)
      | .tail i l cnt sz => (match mm i with
        | some base => (match base.cells with
          | .row ks' m f => ((Nat.beq ks'.length sz && Nat.ble (l + cnt) m) && (Nat.beq off 0 && Nat.ble n cnt && ksEq ks' ks && Nat.ble n c), n, segF ⟨i, l, cnt, ks', m, f, base.elem, base.own, [b, i]⟩)
          | _ => (false, 0, fun _ => []))
        | none => (false, 0, fun _ => []))
      | _ => (false, 0, fun _ => []))
    | none => (false, 0, fun _ => []))
  | _ => (false, 0, fun _ => [])
theorem srcB_src {mm : Nat → Option Blk} {ks : List CK} {v : Value} (h : (srcB mm ks v).1 = true) : ∃ rd, srcS mm ks v = some ⟨(srcB mm ks v).2.1, (srcB mm ks v).2.2, rd⟩ := by
  unfold srcB at h ⊢
  split at h
  · simp only [Bool.and_eq_true] at h
    exact ⟨[], by simp only [srcS, srcK, h.1, cond_true]⟩
  · rename_i b off n c
    split at h
    · rename_i blk hb
      obtain ⟨cells, e, own⟩ := blk
      simp only at h
      split at h
      · rename_i l
        simp only [Bool.and_eq_true] at h
        refine ⟨[b], ?_⟩
        simp only [srcS, srcK, hb, oK, h.1.1, h.1.2, Bool.and_self, cond_true]
      · rename_i ks' m f
        simp only [Bool.and_eq_true] at h
        refine ⟨[b], ?_⟩
        simp only [srcS, srcK, segK, hb, oK, h.1.1.1, h.1.1.2, h.1.2, Bool.and_self, cond_true]
      · rename_i i l cnt sz
        split at h
        · rename_i base hi
          obtain ⟨cells2, e2, own2⟩ := base
          simp only at h
          split at h
          · rename_i ks' m f
            simp only [Bool.and_eq_true] at h
            refine ⟨[b, i], ?_⟩
            simp only [srcS, srcK, segK, hb, hi, oK, h.1.1, h.1.2, h.2.1.1.1, h.2.1.1.2, h.2.1.2, Bool.and_self, cond_true]
          · simp at h
        · simp at h
      · simp at h
    · simp at h
  · simp at h
inductive Arg where
  | pl (v : Value)
  | sl (ks : List CK) (n : Nat) (g : Nat → List Value)
def argId (k : Nat) : Nat := 1500000 + k
def cArgs : List Arg → Nat → List Value
  | [], _ => []
  | .pl v :: r, k => v :: cArgs r (k + 1)
  | .sl _ n _ :: r, k => .slice (some ⟨argId k, 0, none⟩) n n :: cArgs r (k + 1)
def cMem (es : Nat → TypeId) : List Arg → Nat → List (Nat × Blk)
  | [], _ => []
  | .pl _ :: r, k => cMem es r (k + 1)
  | .sl ks n g :: r, k => (argId k, ⟨.row ks n g, es k, false⟩) :: cMem es r (k + 1)
def AOk (mm : Nat → Option Blk) : List Value → List Arg → Prop
  | [], [] => True
  | v :: vs, .pl u :: A => v = u ∧ pl2 u = true ∧ AOk mm vs A
  | v :: vs, .sl ks n g :: A => srcB mm ks v = (true, n, g) ∧ AOk mm vs A
  | _, _ => False
def joinL (l m : List (Nat × Blk)) : Option (List (Nat × Blk)) :=
  match l with
  | [] => some m
  | p :: l => (match m with
    | [] => some (p :: l)
    | _ => none)
section
variable {R : Type}
def isTail : Cells → Bool
  | .tail _ _ _ _ => true
  | _ => false
def tailOf (mem : Nat → Option Blk) (c : Cells) : Option Seg :=
  match c with
  | .tail i l cnt sz => (match mem i with
    | some base => (match base.cells with
      | .row ks n g => bif Nat.beq ks.length sz && Nat.ble (l + cnt) n then some ⟨i, l, cnt, ks, n, g, base.elem, base.own, []⟩ else none
      | _ => none)
    | none => none)
  | _ => none
def expV (T : Tab) (mem : Nat → Option Blk) (id : Nat) (v : Value) (k : Value → List (Nat × Blk) → R) (f : R) : R :=
  match v with
  | .slice (some ⟨j, off, none⟩) m c => oK (mem j) (fun blk => bif isTail blk.cells then oK (tailOf mem blk.cells) (fun q => bif q.own && loose j && Nat.beq off 0 && Nat.ble m q.cnt && Nat.ble m c && Nat.blt 0 m then
        k (.slice (some ⟨nid id 0, 0, none⟩) m m) [(nid id 0, ⟨.row q.ks m (fun x => q.f (q.start + x)), q.elem, loose q.base⟩)] else f) f else bif blk.own && Nat.blt j 1000000 then (match blk.cells with
      | .row ks n g => bif loose j && Nat.beq off 0 && Nat.ble m c then k (.slice (some ⟨nid id 0, 0, none⟩) m c) [(nid id 0, ⟨.row ks n g, blk.elem, true⟩)] else f
      | .lst l => oK (look T blk.elem) (fun i => bif !(loose j) && ksOk i && Nat.ble m c && Nat.ble (off + c * i.siz) l.length && fitsK (repK c i.eqk) ((l.drop off).take (c * i.siz)) then
          k (.slice (some ⟨nid id 0, 0, none⟩) m c) [(nid id 0, ⟨.row i.eqk c (lstF l off i.siz), blk.elem, true⟩)] else f) f
      | .fam ks n es g => bif loose j && Nat.beq off 0 && Nat.ble m c then k (.slice (some ⟨nid id 0, 0, none⟩) m c) [(nid id 0, ⟨.fam ks n es g, blk.elem, true⟩)] else f
      | _ => f) else f) f
  | v => bif pl1 v then k v [] else f
def expL (T : Tab) (mem : Nat → Option Blk) (id : Nat) : List Value → (List Value → List (Nat × Blk) → R) → R → R
  | [], k, _ => k [] []
  | v :: r, k, f => expV T mem id v (fun u l => expL T mem id r (fun us m => oK (joinL l m) (fun x => k (u :: us) x) f) f) f
def expK (T : Tab) (mem : Nat → Option Blk) (id : Nat) (v : Value) (k : Value → List (Nat × Blk) → R) (f : R) : R :=
  match v with
  | .tuple vs => expL T mem id vs.toList (fun us l => k (.tuple us.toArray) l) f
  | v => expV T mem id v k f
def fnM (C : Cfg) (fuel : Nat) (fn : Func) (c : Code) (args : List Value) (mem : List (Nat × Blk)) (next id : Nat) (k : Value → List (Nat × Blk) → R) (f : R) : R :=
  evK C fuel [] c ⟨argSlots 0 args, mem, next⟩ (fun e s => endK C.T fn e s (fun v => expK C.T (look s.mem) id v k f) f) f
variable {R' : Type} (h : R → R')
theorem expV_nat (T : Tab) (mem : Nat → Option Blk) (id : Nat) (v : Value) (k : Value → List (Nat × Blk) → R) (f : R) : h (expV T mem id v k f) = expV T mem id v (fun a b => h (k a b)) (h f) := by
  unfold expV
  split
  · rw [oK_nat h]
    congr 1; funext blk
    rw [cond_nat h]
    congr 1
    · simp only [oK_nat h, cond_nat h]
    rw [cond_nat h]
    congr 1
    split
    · rw [cond_nat h]
    · simp only [oK_nat h, cond_nat h]
    · rw [cond_nat h]
    · rfl
  · rw [cond_nat h]
theorem expL_nat (T : Tab) (mem : Nat → Option Blk) (id : Nat) : ∀ (vs : List Value) (k : List Value → List (Nat × Blk) → R) (f : R), h (expL T mem id vs k f) = expL T mem id vs (fun a b => h (k a b)) (h f)
  | [], _, _ => rfl
  | v :: r, k, f => by
    simp only [expL, expV_nat h, expL_nat T mem id r, oK_nat h]
theorem expK_nat (T : Tab) (mem : Nat → Option Blk) (id : Nat) (v : Value) (k : Value → List (Nat × Blk) → R) (f : R) : h (expK T mem id v k f) = expK T mem id v (fun a b => h (k a b)) (h f) := by
  unfold expK; split
  · rw [expL_nat h]
  · rw [expV_nat h]
end
theorem expV_some {β : Type} {T : Tab} {mem : Nat → Option Blk} {id : Nat} {v : Value} {k : Value → List (Nat × Blk) → Option β} {r : β} : expV T mem id v k none = some r ↔ ∃ u l, expV T mem id v (fun a b => some (a, b)) none = some (u, l) ∧ k u l = some r := by
  have : expV T mem id v k none = oK (expV T mem id v (fun a b => some (a, b)) none) (fun q => k q.1 q.2) none := (expV_nat (fun o : Option (Value × List (Nat × Blk)) => oK o (fun q => k q.1 q.2) none) T mem id v (fun a b => some (a, b)) none).symm
  rw [this, oK_some]
  exact ⟨fun ⟨q, h1, h2⟩ => ⟨q.1, q.2, h1, h2⟩, fun ⟨u, l, h1, h2⟩ => ⟨(u, l), h1, h2⟩⟩
theorem expL_some {β : Type} {T : Tab} {mem : Nat → Option Blk} {id : Nat} {vs : List Value} {k : List Value → List (Nat × Blk) → Option β} {r : β} : expL T mem id vs k none = some r ↔ ∃ u l, expL T mem id vs (fun a b => some (a, b)) none = some (u, l) ∧ k u l = some r := by
  have : expL T mem id vs k none = oK (expL T mem id vs (fun a b => some (a, b)) none) (fun q => k q.1 q.2) none := (expL_nat (fun o : Option (List Value × List (Nat × Blk)) => oK o (fun q => k q.1 q.2) none) T mem id vs (fun a b => some (a, b)) none).symm
  rw [this, oK_some]
  exact ⟨fun ⟨q, h1, h2⟩ => ⟨q.1, q.2, h1, h2⟩, fun ⟨u, l, h1, h2⟩ => ⟨(u, l), h1, h2⟩⟩
def fnMS (C : Cfg) (fuel : Nat) (fn : Func) (c : Code) (args : List Value) (mem : List (Nat × Blk)) (next id : Nat) : Option (Value × List (Nat × Blk)) := fnM C fuel fn c args mem next id (fun v l => some (v, l)) none
section
variable {P : Program} {GL : Glob} {w0 : Wb GL} {R : Nat → Pl → Prop} {fm : Nat → Option Blk} {w : World}
theorem src_heap (h : MRel w0 R fm w) {ks : List CK} {v v' : Value} {n : Nat} {g : Nat → List Value} (hq : srcB fm ks v = (true, n, g)) (hv : V2 R v v') :
    ∃ (p : Pl) (e : TypeId), n ≤ p.c ∧ (match p.a with
      | some b => v' = .slice (some ⟨b, p.d, none⟩) n p.c ∧ ∃ cs fz, w.heap[b]? = some (.cells cs e fz) ∧ LP R (rowL ks g 0 n) (cs.toList.drop p.d)
      | none => n = 0 ∧ p.c = 0 ∧ p.d = 0 ∧ Emp v') := by
  unfold srcB at hq
  split at hq
  · rename_i n0 c
    simp only [Prod.mk.injEq, Bool.and_eq_true] at hq
    obtain ⟨⟨h0, h1⟩, rfl, _⟩ := hq
    have h0 := nbeq.1 h0; subst h0
    have h1 := nbeq.1 h1; subst h1
    have := (V2_plain (R := R) (v := .slice none 0 0) rfl).1 hv
    exact ⟨⟨none, 0, 0⟩, 0, Nat.le_refl _, rfl, rfl, rfl, none, this⟩
  · rename_i b off n0 c
    obtain ⟨p0, hp0, hsl⟩ := V2_slice hv
    -- where it lies
    have key : ∀ (hn : n0 = n) (hnc : n ≤ c) (e : TypeId), (∀ bl, p0.a = some bl → n ≠ 0 → ∃ cs fz, w.heap[bl]? = some (.cells cs e fz) ∧ LP R (rowL ks g 0 n) (cs.toList.drop (p0.d + off))) →
        ∃ (p : Pl) (e : TypeId), n ≤ p.c ∧ (match p.a with
          | some b => v' = .slice (some ⟨b, p.d, none⟩) n p.c ∧ ∃ cs fz, w.heap[b]? = some (.cells cs e fz) ∧ LP R (rowL ks g 0 n) (cs.toList.drop p.d)
          | none => n = 0 ∧ p.c = 0 ∧ p.d = 0 ∧ Emp v') := by
      intro hn hnc e hcont
      subst hn
      have some_case : ∀ bl c', p0.a = some bl → c ≤ c' → v' = .slice (some ⟨bl, p0.d + off, none⟩) n0 c' → ∃ (p : Pl) (e : TypeId), n0 ≤ p.c ∧ (match p.a with
          | some b => v' = .slice (some ⟨b, p.d, none⟩) n0 p.c ∧ ∃ cs fz, w.heap[b]? = some (.cells cs e fz) ∧ LP R (rowL ks g 0 n0) (cs.toList.drop p.d)
          | none => n0 = 0 ∧ p.c = 0 ∧ p.d = 0 ∧ Emp v') := by
        intro bl c' hpa hcc hv'
        by_cases h0 : n0 = 0
        · obtain ⟨cs, e1, fz, h1⟩ := h.there _ _ _ hp0 hpa
          exact ⟨⟨some bl, p0.d + off, c'⟩, e1, by simp only; omega, hv', cs, fz, h1, by rw [h0]; exact LP_nil⟩
        · obtain ⟨cs, fz, h1, h2⟩ := hcont bl hpa h0
          exact ⟨⟨some bl, p0.d + off, c'⟩, e, by simp only; omega, hv', cs, fz, h1, h2⟩
      cases hlo : loose b with
      | false =>
        obtain ⟨bl, h1, h2⟩ := SlOk_tight hlo hsl
        exact some_case bl c h1 (Nat.le_refl _) h2
      | true =>
        obtain ⟨rfl, h2, ⟨bl, h3, h4⟩ | ⟨h3, h4, h5, h6⟩⟩ := SlOk_loose hlo hsl
        · exact some_case bl p0.c h3 h2 (by rw [Nat.add_zero]; exact h4)
        · exact ⟨⟨none, 0, 0⟩, 0, by simp only; omega, h4, rfl, rfl, h6⟩
    split at hq
    · rename_i blk hb
      obtain ⟨cells, e, own⟩ := blk
      simp only at hq
      split at hq
      · rename_i l
        simp only [Prod.mk.injEq, Bool.and_eq_true] at hq
        obtain ⟨⟨⟨h1, h2⟩, h3⟩, h4, h5⟩ := hq
        have h1 := Nat.le_of_ble_eq_true h1
        refine key h4 (by rw [← h4]; exact Nat.le_of_ble_eq_true h3) e (fun bl hpa h0 => ?_)
        subst h4
        obtain ⟨p', hp', hcont⟩ := memOk_lst h hb
        have := h.func _ _ _ hp0 hp'; subst this
        rw [hpa] at hcont
        obtain ⟨cs, fz, k1, k2, _⟩ := hcont
        have k2 : LP R l (cs.toList.drop p0.d) := k2
        refine ⟨cs, fz, k1, ?_⟩
        rw [← h5, rowL_lst h2 n0 (Nat.le_refl _)]
        have := LP_part k2 (off := off) (n := n0 * ks.length) h1
        unfold LP
        rw [← List.drop_drop, List.length_take, List.length_drop, Nat.min_eq_left (by omega)]
        exact this
      · rename_i ks' m f
        simp only [Prod.mk.injEq, Bool.and_eq_true] at hq
        obtain ⟨⟨⟨⟨h1, h2⟩, h2'⟩, h3⟩, h4, h5⟩ := hq
        have h1 := nbeq.1 h1
        have h2 := Nat.le_of_ble_eq_true h2
        have h2' := ksEq_eq h2'
        subst h1 h2'
        refine key h4 (by rw [← h4]; exact Nat.le_of_ble_eq_true h3) e (fun bl hpa h0 => ?_)
        subst h4
        have hs : segS fm b = some ⟨b, 0, m, ks', m, f, e, own, [b]⟩ := by simp only [segS, segK, hb, oK]
        obtain ⟨p1, cs, fz, _, _, _, _, _, k3, k4, k5, _⟩ := seg_cells h hs hp0 hpa (by simp only; omega)
        simp only at k3 k4 k5
        refine ⟨cs, fz, k3, ?_⟩
        rw [← h5, Nat.add_zero]
        have e1 := rowL_seg ⟨b, 0, m, ks', m, f, e, own, [b]⟩ n0 0
        simp only [Nat.add_zero] at e1
        rw [e1]
        refine LP_plain (rowL_pl _ _ _ _) ?_
        rw [rowL_len]
        have := congrArg (List.take (n0 * ks'.length)) k4
        rw [List.take_take, Nat.min_eq_left (Nat.mul_le_mul_right _ h2), rowL_take ks' f n0 m 0 h2] at this
        exact this
      · rename_i i l cnt sz
        split at hq
        · rename_i base hi
          obtain ⟨cells2, e2, own2⟩ := base
          simp only at hq
          split at hq
          · rename_i ks' m f
            simp only [Prod.mk.injEq, Bool.and_eq_true] at hq
            obtain ⟨⟨⟨g1, g2⟩, ⟨⟨h1, h2⟩, h2'⟩, h3⟩, h4, h5⟩ := hq
            have h1 := nbeq.1 h1
            have h2 := Nat.le_of_ble_eq_true h2
            have h2' := ksEq_eq h2'
            subst h1 h2'
            refine key h4 (by rw [← h4]; exact Nat.le_of_ble_eq_true h3) e2 (fun bl hpa h0 => ?_)
            subst h4
            have hs : segS fm b = some ⟨i, l, cnt, ks', m, f, e2, own2, [b, i]⟩ := by simp only [segS, segK, hb, hi, oK, g1, g2, Bool.and_self, cond_true]
            obtain ⟨p1, cs, fz, _, _, _, _, _, k3, k4, k5, _⟩ := seg_cells h hs hp0 hpa (by simp only; omega)
            simp only at k3 k4 k5
            refine ⟨cs, fz, k3, ?_⟩
            rw [← h5, Nat.add_zero]
            have e1 := rowL_seg ⟨i, l, cnt, ks', m, f, e2, own2, [b, i]⟩ n0 0
            simp only [Nat.add_zero] at e1
            rw [e1]
            refine LP_plain (rowL_pl _ _ _ _) ?_
            rw [rowL_len]
            have := congrArg (List.take (n0 * ks'.length)) k4
            rw [List.take_take, Nat.min_eq_left (Nat.mul_le_mul_right _ h2), rowL_take ks' f n0 cnt l h2] at this
            exact this
          · simp at hq
        · simp at hq
      · simp at hq
    · simp at hq
  · simp at hq
theorem argId_loose (k : Nat) : loose (argId k) = true := by
  unfold loose argId
  rw [show Nat.ble 1500000 (1500000 + k) = true from by rw [Nat.ble_eq]; omega, Bool.or_true]
theorem cMem_congr {es es' : Nat → TypeId} : ∀ (A : List Arg) (k : Nat), (∀ j, k ≤ j → es j = es' j) → cMem es A k = cMem es' A k
  | [], _, _ => rfl
  | .pl _ :: r, k, h => cMem_congr r (k + 1) (fun j hj => h j (by omega))
  | .sl ks n g :: r, k, h => by simp only [cMem, h k (Nat.le_refl _), cMem_congr r (k + 1) (fun j hj => h j (by omega))]
def plAt (k : Nat) (p : Pl) (pl : Nat → Option Pl) (j : Nat) : Option Pl := if j = k then some p else pl j
theorem plAt_same (k : Nat) (p : Pl) (pl : Nat → Option Pl) : plAt k p pl k = some p := if_pos rfl
theorem plAt_ne {k j : Nat} (p : Pl) (pl : Nat → Option Pl) (h : j ≠ k) : plAt k p pl j = pl j := if_neg h
def PlOk (w : World) (i : Nat) (blk : Blk) (p : Pl) : Prop := blk.own = false ∧ (∃ ks n g, blk.cells = .row ks n g) ∧ (match p.a with
  | none => blk.cells.list = []
  | some b => ∃ cs fz, w.heap[b]? = some (.cells cs blk.elem fz) ∧ LP (fun _ _ => False) blk.cells.list (cs.toList.drop p.d)) ∧ i = i
theorem callee_mem (h : MRel w0 R fm w) : ∀ (A : List Arg) (vs args' : List Value) (k : Nat), AOk fm vs A → LR (V2 R) vs args' →
    ∃ (es : Nat → TypeId) (pl : Nat → Option Pl), (∀ i, i < k → pl i = none) ∧
      (∀ i blk, look (cMem es A k) i = some blk → ∃ j p, i = argId j ∧ pl j = some p ∧ PlOk w i blk p) ∧
      (∀ j p, pl j = some p → (look (cMem es A k) (argId j)).isSome = true ∧ ∀ b, p.a = some b → ∃ cs e fz, w.heap[b]? = some (.cells cs e fz)) ∧
      LR (V2 fun i p => ∃ j, i = argId j ∧ pl j = some p) (cArgs A k) args'
  | [], [], [], k, _, _ => ⟨fun _ => 0, fun _ => none, fun _ _ => rfl, fun i blk hi => by simp [cMem, look] at hi, fun j p hp => by simp at hp, trivial⟩
  | .pl u :: A, v :: vs, v' :: args', k, hA, hl => by
    obtain ⟨rfl, hp, hA⟩ := hA
    obtain ⟨es, pl, h1, h2, h3, h4⟩ := callee_mem h A vs args' (k + 1) hA hl.2
    have := (V2_plain hp).1 hl.1; subst this
    exact ⟨es, pl, fun i hi => h1 i (by omega), h2, h3, (V2_plain hp).2 rfl, h4⟩
  | .sl ks n g :: A, v :: vs, v' :: args', k, hA, hl => by
    obtain ⟨hs, hA⟩ := hA
    obtain ⟨es, pl, h1, h2, h3, h4⟩ := callee_mem h A vs args' (k + 1) hA hl.2
    obtain ⟨p, e, hc, hm⟩ := src_heap h hs hl.1
    have hcm : cMem (fun j => if j = k then e else es j) A (k + 1) = cMem es A (k + 1) := cMem_congr A (k + 1) (fun j hj => by rw [if_neg (by omega)])
    have hlk : ∀ i, look (cMem (fun j => if j = k then e else es j) (.sl ks n g :: A) k) i = upd (look (cMem es A (k + 1))) (argId k) ⟨.row ks n g, e, false⟩ i := by
      intro i
      rw [cMem, hcm, look_cons, if_pos rfl]
    refine ⟨fun j => if j = k then e else es j, plAt k p pl, ?_, ?_, ?_, ?_, ?_⟩
    · intro i hi
      rw [plAt_ne _ _ (by omega)]; exact h1 i (by omega)
    · intro i blk hi
      rw [hlk] at hi
      by_cases e1 : argId k = i
      · subst e1
        rw [upd_same] at hi
        cases hi
        refine ⟨k, p, rfl, plAt_same _ _ _, rfl, ⟨ks, n, g, rfl⟩, ?_, rfl⟩
        cases hpa : p.a with
        | none =>
          rw [hpa] at hm
          show rowL ks g 0 n = []
          rw [hm.1]; rfl
        | some b =>
          rw [hpa] at hm
          obtain ⟨_, cs, fz, k1, k2⟩ := hm
          refine ⟨cs, fz, k1, ?_⟩
          show LP _ (rowL ks g 0 n) _
          have := (LR_plain (r := V0 R) (pl := pl0) (fun _ _ hv => V0_plain hv) (rowL_pl ks g n 0)).1 k2
          exact LP_plain (rowL_pl _ _ _ _) this
      · rw [upd_ne _ _ e1] at hi
        obtain ⟨j, p', rfl, k2, k3⟩ := h2 i blk hi
        have hjk : j ≠ k := fun e2 => e1 (by rw [e2])
        exact ⟨j, p', rfl, by rw [plAt_ne _ _ hjk]; exact k2, k3⟩
    · intro j p' hp'
      rw [hlk]
      by_cases e1 : j = k
      · subst e1
        rw [upd_same]
        rw [plAt_same] at hp'
        cases hp'
        refine ⟨rfl, fun b hb => ?_⟩
        rw [hb] at hm
        obtain ⟨_, cs, fz, k1, _⟩ := hm
        exact ⟨cs, e, fz, k1⟩
      · rw [plAt_ne _ _ e1] at hp'
        rw [upd_ne _ _ (by unfold argId; omega)]
        exact h3 j p' hp'
    · refine slice_V2 (q := p) (argId_loose k) ⟨k, rfl, plAt_same _ _ _⟩ hc ?_
      cases hpa : p.a with
      | none => rw [hpa] at hm; exact ⟨hm.1, hm.2.1, hm.2.2.2⟩
      | some b => rw [hpa] at hm; exact hm.1
    · refine LR_mono (fun u u' hu => V2_mono ?_ hu) h4
      rintro i q ⟨j, rfl, hj⟩
      have hjk : j ≠ k := fun e2 => by
        have := h1 k (by omega)
        rw [e2, this] at hj; simp at hj
      exact ⟨j, rfl, by rw [plAt_ne _ _ hjk]; exact hj⟩
  | [], _ :: _, _, _, hA, _ => hA.elim
  | .pl _ :: _, [], _, _, hA, _ => hA.elim
  | .sl _ _ _ :: _, [], _, _, hA, _ => hA.elim
  | [], [], _ :: _, _, _, hl => hl.elim
  | .pl _ :: _, _ :: _, [], _, _, hl => hl.elim
  | .sl _ _ _ :: _, _ :: _, [], _, _, hl => hl.elim
theorem cMem_lt {es : Nat → TypeId} : ∀ (A : List Arg) (k j : Nat), (look (cMem es A k) (argId j)).isSome = true → j < k + A.length
  | [], k, j, h => by simp [cMem, look] at h
  | .pl _ :: r, k, j, h => by
    have := cMem_lt r (k + 1) j h
    simp only [List.length_cons]; omega
  | .sl ks n g :: r, k, j, h => by
    rw [cMem, look_cons] at h
    by_cases e : argId k = argId j
    · unfold argId at e; simp only [List.length_cons]; omega
    · rw [upd_ne _ _ e] at h
      have := cMem_lt r (k + 1) j h
      simp only [List.length_cons]; omega
theorem callee_rel (hg : GOk GL w) {es : Nat → TypeId} {pl : Nat → Option Pl} {A : List Arg} (h2 : ∀ i blk, look (cMem es A 0) i = some blk → ∃ j p, i = argId j ∧ pl j = some p ∧ PlOk w i blk p)
    (h3 : ∀ j p, pl j = some p → (look (cMem es A 0) (argId j)).isSome = true ∧ ∀ b, p.a = some b → ∃ cs e fz, w.heap[b]? = some (.cells cs e fz)) (hA : A.length ≤ 900000000) :
    MRel (⟨w, fun _ => False, fun i p => ∃ j, i = argId j ∧ pl j = some p⟩ : Wb GL) (fun i p => ∃ j, i = argId j ∧ pl j = some p) (look (cMem es A 0)) w := by
  refine ⟨BelowX.refl _ _ _ hg (fun _ _ h => h), ?_, ?_, ?_, ?_, fun _ _ h _ _ => h, ?_, ?_⟩
  · rintro i p p' ⟨j, rfl, hj⟩ ⟨j', e, hj'⟩
    have : j = j' := by unfold argId at e; omega
    subst this
    rw [hj] at hj'; exact Option.some.inj hj'
  · rintro i j p q b _ _ _ _ _ blk hblk hown _ _
    obtain ⟨_, _, _, _, k⟩ := h2 _ _ hblk
    rw [k.1] at hown; simp at hown
  · intro i blk hi
    obtain ⟨j, p, rfl, k2, k3, ⟨ks, n, g, k4⟩, k5, _⟩ := h2 _ _ hi
    have hc : ContOk (⟨w, fun _ => False, fun i p => ∃ j, i = argId j ∧ pl j = some p⟩ : Wb GL) (fun i p => ∃ j, i = argId j ∧ pl j = some p) w (argId j) blk := by
      refine ⟨p, ⟨j, rfl, k2⟩, ?_⟩
      cases hpa : p.a with
      | none => rw [hpa] at k5; exact k5
      | some b =>
        rw [hpa] at k5
        obtain ⟨cs, fz, m1, m2⟩ := k5
        exact ⟨cs, fz, m1, LP_mono (fun _ _ h => h.elim) m2, fun ho => by rw [k3] at ho; simp at ho⟩
    unfold MemOk
    rw [k4]; exact hc
  · rintro i p ⟨j, rfl, hj⟩ _; exact (h3 j p hj).1
  · rintro i p b ⟨j, rfl, hj⟩ hb; exact (h3 j p hj).2 b hb
  · rintro i p ⟨j, rfl, hj⟩ hge
    have := cMem_lt A 0 j (h3 j p hj).1
    unfold argId at hge; omega
theorem MRel.adopt (h : MRel w0 R fm w) {w' : World} (hbel : Below w.heap.size w w') {id : Nat} (hid : fm id = none) (hsm : id < 1000000) {q : Pl} {c : Cells} {e : TypeId} (hv : ∀ i k sz, c ≠ .elt i k sz) (hv2 : ∀ i l k sz, c ≠ .tail i l k sz) (hv3 : ∀ ks n es g, c ≠ .fam ks n es g)
    (hq : match q.a with
      | none => c.list = []
      | some b => w.heap.size ≤ b ∧ ∃ cs, w'.heap[b]? = some (.cells cs e (0, 0)) ∧ LP (fun _ _ => False) c.list (cs.toList.drop q.d) ∧ roomOk id c q cs.size) :
    MRel w0 (fun i p => R i p ∨ (i = id ∧ p = q)) (upd fm id ⟨c, e, true⟩) w' := by
  have hm := h.world hbel
  cases hqa : q.a with
  | none =>
    rw [hqa] at hq
    refine hm.view hid hsm (.inr (.inl hqa)) (fun b hb => by rw [hqa] at hb; simp at hb) (fun R' _ hR => ?_)
    have hc : ContOk w0 R' w' id ⟨c, e, true⟩ := ⟨q, hR, by rw [hqa]; exact hq⟩
    unfold MemOk
    split
    · rename_i hc2; exact absurd hc2 (hv _ _ _)
    · rename_i hc2; exact absurd hc2 (hv2 _ _ _ _)
    · rename_i hc2; exact absurd hc2 (hv3 _ _ _ _)
    · exact hc
  | some b =>
    rw [hqa] at hq
    obtain ⟨hge, cs, h1, h2, h3⟩ := hq
    refine hm.rename hid hsm (b := b) (fun j p blk' hp hpa _ => ?_) (fun hf => by have := h.frz_lt hf; omega) hqa h1 (.inr (Nat.le_trans h.below.size hge)) hv hv2 hv3 (LP_mono (fun _ _ h => h.elim) h2) h3
    have := h.lt hp hpa
    omega
end
section
variable {GL : Glob} {w0 : Wb GL} {R : Nat → Pl → Prop} {fm : Nat → Option Blk} {w : World}
theorem MRel.adoptF (h : MRel w0 R fm w) {w' : World} (hbel : Below w.heap.size w w') {id : Nat} (hid : fm id = none) (hsm : id < 1000000) {q : Pl} {c : Cells} {e : TypeId} (hv : ∀ i k sz, c ≠ .elt i k sz) (hv2 : ∀ i l k sz, c ≠ .tail i l k sz) (hv3 : ∀ ks n es g, c ≠ .fam ks n es g)
    (hq : match q.a with
      | none => c.list = []
      | some b => w.heap.size ≤ b ∧ ∃ cs fz, w'.heap[b]? = some (.cells cs e fz) ∧ LP (fun _ _ => False) c.list (cs.toList.drop q.d)) :
    MRel w0 (fun i p => R i p ∨ (i = id ∧ p = q)) (upd fm id ⟨c, e, false⟩) w' := by
  have hm := h.world hbel
  have hmem : ∀ R' : Nat → Pl → Prop, (∀ i p, R i p → R' i p) → R' id q → MemOk w0 R' w' id ⟨c, e, false⟩ := by
    intro R' _ hR
    have hc : ContOk w0 R' w' id ⟨c, e, false⟩ := by
      refine ⟨q, hR, ?_⟩
      cases hqa : q.a with
      | none => rw [hqa] at hq; exact hq
      | some b =>
        rw [hqa] at hq
        obtain ⟨_, cs, fz, h1, h2⟩ := hq
        exact ⟨cs, fz, h1, LP_mono (fun _ _ h => h.elim) h2, fun ho => by simp at ho⟩
    unfold MemOk
    split
    · rename_i hc2; exact absurd hc2 (hv _ _ _)
    · rename_i hc2; exact absurd hc2 (hv2 _ _ _ _)
    · rename_i hc2; exact absurd hc2 (hv3 _ _ _ _)
    · exact hc
  have hR : ∀ p, ¬ R id p := fun p hp => by have := h.dom id p hp (by omega); rw [hid] at this; simp at this
  have hno : ∀ i p b, R i p → p.a = some b → q.a = some b → False := by
    intro i p b h1 h2 h3
    rw [h3] at hq
    have := h.lt h1 h2
    have := hq.1
    omega
  refine ⟨hm.below, ?_, ?_, ?_, ?_, ?_, ?_, ?_⟩
  · rintro i p p' (h1 | ⟨rfl, rfl⟩) (h2 | ⟨h3, rfl⟩)
    · exact hm.func _ _ _ h1 h2
    · subst h3; exact absurd h1 (hR _)
    · exact absurd h2 (hR _)
    · rfl
  · rintro i j p p2 b (h1 | ⟨rfl, rfl⟩) (h2 | ⟨rfl, rfl⟩) ha hb hne blk1 hblk hown blk' hblk'
    · by_cases e1 : id = i
      · subst e1; exact absurd h1 (hR _)
      · by_cases e2 : id = j
        · subst e2; exact absurd h2 (hR _)
        · rw [upd_ne _ _ e1] at hblk
          rw [upd_ne _ _ e2] at hblk'
          exact hm.inj _ _ _ _ _ h1 h2 ha hb hne blk1 hblk hown blk' hblk'
    · exact (hno _ _ _ h1 ha hb).elim
    · exact (hno _ _ _ h2 hb ha).elim
    · exact absurd rfl hne
  · intro i blk1 hi
    by_cases e1 : id = i
    · subst e1
      rw [upd_same] at hi
      cases hi
      exact hmem _ (fun _ _ => .inl) (.inr ⟨rfl, rfl⟩)
    · rw [upd_ne _ _ e1] at hi
      have hm1 := hm.mem i blk1 hi
      unfold MemOk at hm1 ⊢
      split at hm1
      · obtain ⟨p, q, b, k1, k2, k3⟩ := hm1; exact ⟨p, q, b, .inl k1, .inl k2, k3⟩
      · obtain ⟨p, q, k1, k2, k3⟩ := hm1; exact ⟨p, q, .inl k1, .inl k2, k3⟩
      · exact hm1.mono (fun _ _ => .inl) (fun _ _ => rfl) (fun _ _ _ _ _ => rfl)
      · obtain ⟨p, k1, k2⟩ := hm1
        refine ⟨p, .inl k1, ?_⟩
        cases hpa : p.a with
        | none => rw [hpa] at k2; exact k2
        | some b =>
          rw [hpa] at k2
          obtain ⟨cs', fz, k3, k4, k5⟩ := k2
          exact ⟨cs', fz, k3, LP_mono (fun _ _ => .inl) k4, k5⟩
  · rintro i p (h1 | ⟨rfl, rfl⟩) hvb
    · by_cases e1 : id = i
      · subst e1; simp [upd_same]
      · rw [upd_ne _ _ e1]; exact hm.dom _ _ h1 hvb
    · simp [upd_same]
  · rintro i p (h1 | ⟨rfl, rfl⟩) hge hvb
    · exact hm.anc _ _ h1 hge hvb
    · omega
  · rintro i p b (h1 | ⟨rfl, rfl⟩) hb
    · exact hm.there _ _ _ h1 hb
    · rw [hb] at hq
      obtain ⟨_, cs, fz, k1, _⟩ := hq
      exact ⟨cs, e, fz, k1⟩
  · rintro i p (h1 | ⟨rfl, rfl⟩) hge
    · obtain ⟨h2, h3⟩ := hm.fro i p h1 hge
      refine ⟨h2, ?_⟩
      rintro j q2 (h4 | ⟨rfl, rfl⟩) hq2 blk2 hblk
      · by_cases e1 : id = j
        · subst e1; exact absurd h4 (hR _)
        · rw [upd_ne _ _ e1] at hblk; exact h3 j q2 h4 hq2 blk2 hblk
      · rw [upd_same] at hblk
        cases hblk; rfl
    · omega
theorem MRel.adoptFam (h : MRel w0 R fm w) {w' : World} (hbel : Below w.heap.size w w') {id : Nat} (hid : fm id = none) (hsm : id < 1000000) {q : Pl} {e : TypeId} {ks : List CK} {n : Nat} {es : Nat → TypeId} {g : Nat → Nat × (Nat → List Value)}
    (hq : match q.a with
      | none => n = 0
      | some b => w.heap.size ≤ b ∧ ∃ cs, w'.heap[b]? = some (.cells cs e (0, 0)) ∧ (∀ j, j < n → ∃ v, cs.toList[q.d + j]? = some v ∧ ((((g j).1 = 0 ∧ Emp v)) ∨ ∃ bl d c cs2 fz, v = .slice (some ⟨bl, d, none⟩) (g j).1 c ∧ (g j).1 ≤ c ∧ w.heap.size ≤ bl ∧ bl ≠ b ∧ w'.heap[bl]? = some (.cells cs2 (es j) fz) ∧ (cs2.toList.drop d).take ((g j).1 * ks.length) = rowL ks (g j).2 0 (g j).1)) ∧ (q.c ≠ 0 → q.d + q.c ≤ cs.size)) :
    ∃ R2 : Nat → Pl → Prop, (∀ i p, R i p → R2 i p) ∧ R2 id q ∧ MRel w0 R2 (upd fm id ⟨.fam ks n es g, e, true⟩) w' := by
  have hm := h.world hbel
  have hR : ∀ p, ¬ R id p := fun p hp => by have := h.dom id p hp (by omega); rw [hid] at this; simp at this
  have hq1 : ∀ b, q.a = some b → w.heap.size ≤ b := fun b hb => by rw [hb] at hq; exact hq.1
  have hold : ∀ i p b, R i p → p.a = some b → b < w.heap.size := fun i p b h1 h2 => h.lt h1 h2
  refine ⟨fun i p => R i p ∨ (i = id ∧ p = q) ∨ ∃ bl, (w.heap.size ≤ bl ∧ q.a ≠ some bl ∧ ∃ cs e fz, w'.heap[bl]? = some (.cells cs e fz)) ∧ i = 1000000000 + bl ∧ p = ⟨some bl, 0, 0⟩, fun _ _ => .inl, .inr (.inl ⟨rfl, rfl⟩), hm.below, ?_, ?_, ?_, ?_, ?_, ?_, ?_⟩
  · rintro i p p' (h1 | ⟨rfl, rfl⟩ | ⟨bl, g1, rfl, rfl⟩) (h2 | ⟨h3, rfl⟩ | ⟨bl', g2, h3, rfl⟩)
    · exact hm.func _ _ _ h1 h2
    · subst h3; exact absurd h1 (hR _)
    · subst h3
      have h5 := (hm.fro _ _ h1 (Nat.le_add_right _ _)).1
      rw [h5, Nat.add_sub_cancel_left]
    · exact absurd h2 (hR _)
    · rfl
    · omega
    · have h5 := (hm.fro _ _ h2 (Nat.le_add_right _ _)).1
      rw [h5, Nat.add_sub_cancel_left]
    · omega
    · have : bl = bl' := by omega
      rw [this]
  · intro i j p p2 b hp hp2 ha hb hne blk1 hblk hown blk' hblk'
    have notmark : ∀ i blk, upd fm id ⟨.fam ks n es g, e, true⟩ i = some blk → blk.own = true → ∀ bl, i = 1000000000 + bl → False := by
      intro i blk hi ho bl e1
      rw [upd_ne _ _ (by omega)] at hi
      have h5 := hm.mem _ _ hi
      have h6 : ∃ p, R i p := by
        unfold MemOk at h5
        split at h5
        · obtain ⟨_, q, _, _, h6, _⟩ := h5; exact ⟨q, h6⟩
        · obtain ⟨_, q, _, h6, _⟩ := h5; exact ⟨q, h6⟩
        · obtain ⟨p, h6, _⟩ := h5; exact ⟨p, h6⟩
        · obtain ⟨p, h6, _⟩ := h5; exact ⟨p, h6⟩
      obtain ⟨p6, h6⟩ := h6
      have := (hm.fro _ _ h6 (by omega)).2 _ _ h6 rfl blk hi
      rw [this] at ho; simp at ho
    rcases hp with h1 | ⟨rfl, rfl⟩ | ⟨bl, g1, rfl, rfl⟩
    · have hbl := hold _ _ _ h1 ha
      rcases hp2 with h2 | ⟨rfl, rfl⟩ | ⟨bl, g2, rfl, rfl⟩
      · by_cases e1 : id = i
        · subst e1; exact absurd h1 (hR _)
        · by_cases e2 : id = j
          · subst e2; exact absurd h2 (hR _)
          · rw [upd_ne _ _ e1] at hblk
            rw [upd_ne _ _ e2] at hblk'
            exact hm.inj _ _ _ _ _ h1 h2 ha hb hne blk1 hblk hown blk' hblk'
      · have := hq1 _ hb; omega
      · simp only [Option.some.injEq] at hb; omega
    · rcases hp2 with h2 | ⟨rfl, rfl⟩ | ⟨bl, g2, rfl, rfl⟩
      · have := hold _ _ _ h2 hb
        have := hq1 _ ha; omega
      · exact absurd rfl hne
      · simp only [Option.some.injEq] at hb
        subst hb
        exact absurd ha g2.2.1
    · exact (notmark _ _ hblk hown bl rfl).elim
  · intro i blk1 hi
    by_cases e1 : id = i
    · subst e1
      rw [upd_same] at hi
      cases hi
      refine ⟨q, .inr (.inl ⟨rfl, rfl⟩), ?_⟩
      cases hqa : q.a with
      | none => rw [hqa] at hq; exact hq
      | some b =>
        rw [hqa] at hq
        obtain ⟨hge, cs, y1, y2, y3⟩ := hq
        refine ⟨cs, (0, 0), y1, fun jj hjj => ?_, fun hx => by simp at hx, fun _ => ⟨rfl, .inr (Nat.le_trans h.below.size hge), y3, fun jj hjj v5 hcell => ?_⟩⟩
        · obtain ⟨v, z1, z2⟩ := y2 jj hjj
          refine ⟨v, z1, ?_⟩
          rcases z2 with z2 | ⟨bl, d, c, cs2, fz, o1, o2, o3, o4, o5, o6⟩
          · exact .inl z2
          · exact .inr ⟨bl, d, c, cs2, fz, o1, o2, .inr (.inr ⟨bl, ⟨o3, fun e9 => o4 (Option.some.inj e9).symm, cs2, es jj, fz, o5⟩, rfl, rfl⟩), o5, o6⟩
        · obtain ⟨v, z1, z2⟩ := y2 jj hjj
          rw [z1] at hcell
          have hcell := Option.some.inj hcell
          rw [← hcell]
          rcases z2 with z2 | ⟨bl, d, c, cs2, fz, o1, o2, o3, _⟩
          · exact .inl z2
          · exact .inr ⟨bl, d, _, c, o1, .inr (Nat.le_trans h.below.size o3)⟩
    · rw [upd_ne _ _ e1] at hi
      have hm1 := hm.mem i blk1 hi
      unfold MemOk at hm1 ⊢
      split at hm1
      · obtain ⟨p, q, b, k1, k2, k3⟩ := hm1; exact ⟨p, q, b, .inl k1, .inl k2, k3⟩
      · obtain ⟨p, q, k1, k2, k3⟩ := hm1; exact ⟨p, q, .inl k1, .inl k2, k3⟩
      · exact hm1.mono (fun _ _ => .inl) (fun _ _ => rfl) (fun _ _ _ _ _ => rfl)
      · obtain ⟨p, k1, k2⟩ := hm1
        refine ⟨p, .inl k1, ?_⟩
        cases hpa : p.a with
        | none => rw [hpa] at k2; exact k2
        | some b =>
          rw [hpa] at k2
          obtain ⟨cs', fz, k3, k4, k5⟩ := k2
          exact ⟨cs', fz, k3, LP_mono (fun _ _ => .inl) k4, k5⟩
  · rintro i p (h1 | ⟨rfl, rfl⟩ | ⟨bl, g1, rfl, rfl⟩) hvb
    · by_cases e1 : id = i
      · subst e1; simp [upd_same]
      · rw [upd_ne _ _ e1]; exact hm.dom _ _ h1 hvb
    · simp [upd_same]
    · omega
  · rintro i p (h1 | ⟨rfl, rfl⟩ | ⟨bl, g1, rfl, rfl⟩) hge hvb
    · exact hm.anc _ _ h1 hge hvb
    · omega
    · omega
  · rintro i p b (h1 | ⟨rfl, rfl⟩ | ⟨bl, g1, rfl, rfl⟩) hb
    · exact hm.there _ _ _ h1 hb
    · rw [hb] at hq
      obtain ⟨_, cs, k1, _⟩ := hq
      exact ⟨cs, e, _, k1⟩
    · simp only [Option.some.injEq] at hb
      subst hb
      exact g1.2.2
  · rintro i p (h1 | ⟨rfl, rfl⟩ | ⟨bl, g1, rfl, rfl⟩) hge
    · obtain ⟨h2, h3⟩ := hm.fro i p h1 hge
      have hbl := hold _ _ (i - 1000000000) h1 (by rw [h2])
      refine ⟨h2, ?_⟩
      rintro j q2 (h4 | ⟨rfl, rfl⟩ | ⟨bl', g2, rfl, rfl⟩) hq2 blk2 hblk
      · by_cases e1 : id = j
        · subst e1; exact absurd h4 (hR _)
        · rw [upd_ne _ _ e1] at hblk; exact h3 j q2 h4 hq2 blk2 hblk
      · rw [h2] at hq2
        have := hq1 _ hq2; omega
      · rw [h2] at hq2
        simp only [Option.some.injEq] at hq2; omega
    · omega
    · refine ⟨by rw [Nat.add_sub_cancel_left], ?_⟩
      rintro j q2 (h4 | ⟨rfl, rfl⟩ | ⟨bl', g2, rfl, rfl⟩) hq2 blk2 hblk
      · have := hold _ _ _ h4 hq2
        have := g1.1; omega
      · exact absurd hq2 g1.2.1
      · rw [upd_ne _ _ (by omega)] at hblk
        cases ho : blk2.own with
        | false => rfl
        | true =>
          have h5 := hm.mem _ _ hblk
          have h6 : ∃ p, R (1000000000 + bl') p := by
            unfold MemOk at h5
            split at h5
            · obtain ⟨_, q, _, _, h6, _⟩ := h5; exact ⟨q, h6⟩
            · obtain ⟨_, q, _, h6, _⟩ := h5; exact ⟨q, h6⟩
            · obtain ⟨p, h6, _⟩ := h5; exact ⟨p, h6⟩
            · obtain ⟨p, h6, _⟩ := h5; exact ⟨p, h6⟩
          obtain ⟨p6, h6⟩ := h6
          have := (hm.fro _ _ h6 (Nat.le_add_right _ _)).2 _ _ h6 rfl blk2 hblk
          rw [this] at ho; simp at ho
theorem tailOf_some {mem : Nat → Option Blk} {c : Cells} {q : Seg} (h : tailOf mem c = some q) : ∃ sz, c = .tail q.base q.start q.cnt sz ∧ mem q.base = some ⟨.row q.ks q.n q.f, q.elem, q.own⟩ ∧ q.ks.length = sz ∧ q.start + q.cnt ≤ q.n := by
  unfold tailOf at h
  split at h
  · rename_i i l cnt sz
    split at h
    · rename_i base hb
      obtain ⟨cells, e, own⟩ := base
      simp only at h
      split at h
      · obtain ⟨h1, h2⟩ := cond_some.1 h
        simp only [Bool.and_eq_true] at h1
        cases h2
        exact ⟨sz, rfl, hb, nbeq.1 h1.1, Nat.le_of_ble_eq_true h1.2⟩
      · simp at h
    · simp at h
  · simp at h
end
section
variable {P : Program} [Laid P] {C : Cfg} {c : Code}
def noTT : Value → Bool
  | .tuple vs => vs.toList.all notTup
  | _ => true
theorem V1_of_V2 {R : Nat → Pl → Prop} {v v' : Value} (h : V2 R v v') (ht : notTup v = true) : V1 R v v' := by
  cases v <;> first | exact h | simp [notTup] at ht
theorem fn_mem (hC : CfgOk P C c) {g : FuncId} {fn : Func} (hf : P.funcs[g]? = some fn) (hb : fn.body = some c) (hn : C.n = fn.ntmps) {w0 : Wb (lay P)} {R : Nat → Pl → Prop} {w : World} {args args' : List Value} {mem0 : List (Nat × Blk)} {next : Nat}
    (hm : MRel w0 R (look mem0) w) (hargs : LR (V2 R) args args') (hlen : args.length ≤ fn.ntmps) {fuel : Nat} {e : Exit} {s' : St} (h1 : evS C fuel [] c ⟨argSlots 0 args, mem0, next⟩ = some (e, s')) {v : Value} (h2 : endK C.T fn e s' some none = some v) :
    Calls P g args'.toArray w fun ex w' => ∃ R' v', ex = .returned v' ∧ ((∀ vs, v ≠ .tuple vs) → V2 R' v v') ∧ (∀ vs, v = .tuple vs → ∃ vs', v' = .tuple vs' ∧ LR (V2 R') vs.toList vs'.toList) ∧ MRel w0 R' (look s'.mem) w' := by
  refine calls_of_wp hf hb ?_
  have hla := LR_len hargs
  have hrel : Rel w0 C.n R (St.f ⟨argSlots 0 args, mem0, next⟩) { tmps := args'.toArray ++ Array.replicate (fn.ntmps - args'.toArray.size) undef, defers := [] } w := by
    refine MRel.toR hm rfl (by simp; omega) ?_
    intro t u hu
    obtain ⟨j, rfl, hj⟩ := argSlots_look args 0 t u hu
    obtain ⟨u', h3, h4⟩ := LR_get hargs hj
    refine ⟨u', ?_, h4⟩
    have hlt : j < args'.length := by
      rcases Nat.lt_or_ge j args'.length with h | h
      · exact h
      · rw [List.getElem?_eq_none h] at h3; simp at h3
    rw [Nat.zero_add, Array.getElem?_append_left (by simpa using hlt)]
    simpa using h3
  refine wp_mono (ev_sound hC (p := []) rfl h1 hrel) ?_
  rintro e' a' w' ⟨rfl, R', hr'⟩
  have fin : endK C.T fn e' s' some none = some v → (e' = .normal ∨ e' = .ret) → a'.defers = [] ∧ ∃ v', (results fn a'.tmps).run P w' = .ok v' w' ∧ ((∀ vs, v ≠ .tuple vs) → V2 R' v v') ∧ (∀ vs, v = .tuple vs → ∃ vs', v' = .tuple vs' ∧ LR (V2 R') vs.toList vs'.toList) := by
    intro h3 h4
    refine ⟨hr'.defers, ?_⟩
    have h3 : resK C.T s' fn.results.toList (fun vs => oneK vs some) none = some v := by
      rcases h4 with rfl | rfl <;> exact h3
    obtain ⟨vs, vs', h5, h6, h7⟩ := res_run hC hr' _ h3
    have hrun : (results fn a'.tmps).run P w' = .ok (if h : vs'.toArray.size = 1 then vs'.toArray[0] else .tuple vs'.toArray) w' := by
      rw [results_eq, Array.mapM_eq_mapM_toList]
      simp only [Sem.run_bind, Sem.run_map, h7, Result.andThen_ok, Sem.run_pure]
    refine ⟨_, hrun, ?_⟩
    rcases oneK_some h5 with rfl | ⟨hl, rfl⟩
    · match vs', h6 with
      | [u], h6 =>
        refine ⟨fun _ => by simpa using h6.1, fun ws hw => ?_⟩
        subst hw
        have h6 := h6.1
        obtain ⟨ws', e1, e2⟩ := V2_tuple h6
        exact ⟨ws', by simpa using e1, LR_mono (fun _ _ => V2_of_V1) e2⟩
    · have hl' : vs'.length ≠ 1 := by rw [← LR_len h6]; exact hl
      rw [dif_neg (by simpa using hl')]
      exact ⟨fun hne => absurd rfl (hne _), fun ws hw => by cases hw; exact ⟨vs'.toArray, rfl, h6⟩⟩
  cases e' with
  | normal => obtain ⟨k1, v', k2, k3, k4⟩ := fin h2 (.inl rfl); exact ⟨k1, v', k2, R', v', rfl, k3, k4, hr'.m⟩
  | ret => obtain ⟨k1, v', k2, k3, k4⟩ := fin h2 (.inr rfl); exact ⟨k1, v', k2, R', v', rfl, k3, k4, hr'.m⟩
  | _ => simp [endK] at h2
theorem srcB_mono {mm fm : Nat → Option Blk} (hsub : ∀ b blk, mm b = some blk → fm b = some blk) {ks : List CK} {v : Value} {n : Nat} {g : Nat → List Value} (h : srcB mm ks v = (true, n, g)) : srcB fm ks v = (true, n, g) := by
  unfold srcB at h ⊢
  split at h
  · exact h
  · rename_i b off n0 c0
    split at h
    · rename_i blk hb
      rw [hsub b blk hb]
      obtain ⟨cells, e, own⟩ := blk
      simp only at h ⊢
      split at h
      · exact h
      · exact h
      · rename_i i l cnt sz
        split at h
        · rename_i base hi
          simp only [hsub i base hi]
          exact h
        · simp at h
      · simp at h
    · simp at h
  · simp at h
theorem AOk_mono {mm fm : Nat → Option Blk} (hsub : ∀ b blk, mm b = some blk → fm b = some blk) : ∀ {vs : List Value} {A : List Arg}, AOk mm vs A → AOk fm vs A
  | [], [], _ => trivial
  | _ :: _, .pl _ :: _, h => ⟨h.1, h.2.1, AOk_mono hsub h.2.2⟩
  | _ :: _, .sl _ _ _ :: _, h => ⟨srcB_mono hsub h.1, AOk_mono hsub h.2⟩
  | [], .pl _ :: _, h => h.elim
  | [], .sl _ _ _ :: _, h => h.elim
  | _ :: _, [], h => h.elim
theorem cArgs_len : ∀ (A : List Arg) (k : Nat), (cArgs A k).length = A.length
  | [], _ => rfl
  | .pl _ :: r, k => by simp [cArgs, cArgs_len r]
  | .sl _ _ _ :: r, k => by simp [cArgs, cArgs_len r]
section
variable {T : Tab} {GL : Glob} {w0 : Wb GL} {R R' : Nat → Pl → Prop} {fm : Nat → Option Blk} {w w' : World} {wc : Wb GL} {mC : Nat → Option Blk}
theorem expV_ok (h : MRel w0 R fm w) (hc : MRel wc R' mC w') (hwc : wc.w = w) (hX : ∀ k, ¬ wc.X k) {id : Nat} (hid : fm (nid id 0) = none) (hlt : id < 60000) {v v' : Value} (hv : V2 R' v v') {u : Value} {l : List (Nat × Blk)}
    (he : expV T mC id v (fun a b => some (a, b)) none = some (u, l)) :
    (l = [] ∧ u = v ∧ pl1 v = true ∧ v' = v) ∨ ∃ R2 : Nat → Pl → Prop, (∀ i p, R i p → R2 i p) ∧ V2 R2 u v' ∧ notTup u = true ∧ MRel w0 R2 (memF fm l) w' := by
  have hbel : Below w.heap.size w w' := by have := hc.below.below hX; rw [hwc] at this; exact this
  unfold expV at he
  split at he
  · rename_i j off m cc
    obtain ⟨blk, hb, he⟩ := oK_some.1 he
    obtain ⟨cells, e, own⟩ := blk
    dsimp only at he
    cases hit : isTail cells with
    | true =>
      rw [hit, cond_true] at he
      obtain ⟨s, hs, he⟩ := oK_some.1 he
      obtain ⟨hcond, he⟩ := cond_some.1 he
      simp only [Bool.and_eq_true, Nat.blt_eq] at hcond
      obtain ⟨⟨⟨⟨⟨hown, hlo⟩, hoff⟩, hmc⟩, hmc2⟩, hm0⟩ := hcond
      simp only [Option.some.injEq, Prod.mk.injEq] at he
      obtain ⟨rfl, rfl⟩ := he
      have hmc := Nat.le_of_ble_eq_true hmc
      have hmc2 := Nat.le_of_ble_eq_true hmc2
      right
      obtain ⟨sz, rfl, hbase, hks, hle⟩ := tailOf_some hs
      obtain ⟨p, hp, hsl⟩ := V2_slice hv
      obtain ⟨pb, q', hpb, hq', hcase, _⟩ : ∃ p q, R' s.base p ∧ R' j q ∧ (s.cnt = 0 ∨ (q.a = p.a ∧ q.d = p.d + s.start * sz ∧ q.c + s.start ≤ p.c)) ∧ own = false := hc.mem j _ hb
      have := hc.func _ _ _ hp hq'; subst this
      obtain ⟨_, hcc, hsl2⟩ := SlOk_loose hlo hsl
      rw [hown] at hbase
      have hvs : (∃ b, p.a = some b ∧ v' = .slice (some ⟨b, p.d, none⟩) m p.c) := by
        rcases hsl2 with ⟨b, hpa, hv'⟩ | ⟨_, hm1, _, _⟩
        · exact ⟨b, hpa, hv'⟩
        · omega
      obtain ⟨b, hpa, hv'⟩ := hvs
      obtain ⟨h1, h2, h3⟩ := hcase.resolve_left (by omega)
      obtain ⟨cs, fz, g1, g2, g3, g4⟩ := row_cells hc hbase hpb (by rw [← h1]; exact hpa)
      obtain ⟨rfl, hge, hroom⟩ := g4 rfl
      have hge : w.heap.size ≤ b := by
        rcases hge with hx | hx
        · exact absurd hx (hX b)
        · rw [hwc] at hx; exact hx
      have hLP : LP (fun _ _ => False) (rowL s.ks (fun x => s.f (s.start + x)) 0 m) (cs.toList.drop p.d) := by
        refine LP_plain (rowL_pl _ _ _ _) ?_
        rw [rowL_len, rowL_shift, Nat.add_zero, h2, ← hks, ← List.drop_drop]
        have e1 := congrArg (fun l => (List.drop (s.start * s.ks.length) l).take (m * s.ks.length)) g2
        rw [List.drop_take, List.take_take, Nat.min_eq_left (by
          rw [← Nat.sub_mul]
          exact Nat.mul_le_mul_right _ (by omega)), rowL_drop s.ks s.f s.start s.n 0 (by omega), Nat.zero_add, rowL_take s.ks s.f m (s.n - s.start) s.start (by omega)] at e1
        exact e1
      cases hlb : loose s.base with
      | false =>
        refine ⟨_, fun _ _ => .inl, slice_V2 (nid_loose hlt (by omega)) (.inr ⟨rfl, rfl⟩) (show m ≤ p.c by omega) (by rw [hpa]; exact hv'), rfl, h.adoptF hbel hid (nid_lt hlt (by omega)) (q := p) nofun nofun nofun ?_⟩
        rw [hpa]
        exact ⟨hge, cs, (0, 0), g1, LP_mono (fun _ _ hf => hf.elim) hLP⟩
      | true =>
        refine ⟨_, fun _ _ => .inl, slice_V2 (nid_loose hlt (by omega)) (.inr ⟨rfl, rfl⟩) (show m ≤ p.c by omega) (by rw [hpa]; exact hv'), rfl, h.adopt hbel hid (nid_lt hlt (by omega)) (q := p) nofun nofun nofun ?_⟩
        rw [hpa]
        refine ⟨hge, cs, g1, hLP, fun _ hc0 => ?_⟩
        have hr := hroom hlb (by omega)
        have e2 : (p.c + s.start) * s.ks.length ≤ pb.c * s.ks.length := Nat.mul_le_mul_right _ h3
        rw [Nat.add_mul] at e2
        rw [h2, ← hks]
        omega
    | false =>
    rw [hit, cond_false] at he
    have hcond := (cond_some.1 he).1
    have he2 := (cond_some.1 he).2
    clear he
    simp only [Bool.and_eq_true] at hcond
    obtain ⟨hown, _⟩ := hcond
    subst hown
    obtain ⟨p, hp, hsl⟩ := V2_slice hv
    split at he2
    · rename_i ks n g
      obtain ⟨hcond, he⟩ := cond_some.1 he2
      simp only [Bool.and_eq_true] at hcond
      obtain ⟨⟨hlo, _⟩, _⟩ := hcond
      simp only [Option.some.injEq, Prod.mk.injEq] at he
      obtain ⟨rfl, rfl⟩ := he
      right
      obtain ⟨p', hp', hcont⟩ := memOk_row hc hb
      have := hc.func _ _ _ hp hp'; subst this
      obtain ⟨_, hcc, hcase⟩ := SlOk_loose hlo hsl
      refine ⟨_, fun _ _ => .inl, slice_V2 (nid_loose hlt (by omega)) (.inr ⟨rfl, rfl⟩) hcc ?_, rfl, h.adopt hbel hid (nid_lt hlt (by omega)) (q := p) nofun nofun nofun ?_⟩
      · rcases hcase with ⟨b, hpa, hv'⟩ | ⟨hpa, hm0, hc0, hv'⟩
        · rw [hpa]; exact hv'
        · rw [hpa]; exact ⟨hm0, hc0, hv'⟩
      · cases hpa : p.a with
        | none => rw [hpa] at hcont; exact hcont
        | some b =>
          rw [hpa] at hcont
          obtain ⟨cs, fz, g1, g2, g3⟩ := hcont
          obtain ⟨rfl, hge, hroom⟩ := g3 rfl
          have hge : w.heap.size ≤ b := by
            rcases hge with hx | hx
            · exact absurd hx (hX b)
            · rw [hwc] at hx; exact hx
          refine ⟨hge, cs, g1, ?_, fun _ hc0 => hroom hlo hc0⟩
          have g2 : LP R' (rowL ks g 0 n) (cs.toList.drop p.d) := g2
          have := (LR_plain (r := V0 R') (pl := pl0) (fun _ _ hv => V0_plain hv) (rowL_pl ks g n 0)).1 g2
          exact LP_plain (rowL_pl _ _ _ _) this
    · rename_i ls
      obtain ⟨i, hi, he3⟩ := oK_some.1 he2
      obtain ⟨hcond, he⟩ := cond_some.1 he3
      simp only [Bool.and_eq_true, Bool.not_eq_true'] at hcond
      obtain ⟨⟨⟨⟨hlo, hks⟩, hmc⟩, hle⟩, hfit⟩ := hcond
      simp only [Option.some.injEq, Prod.mk.injEq] at he
      obtain ⟨rfl, rfl⟩ := he
      right
      obtain ⟨hke, hkl, _, _⟩ := ksOk_parts hks
      have hle := Nat.le_of_ble_eq_true hle
      obtain ⟨p', hp', hcont⟩ := memOk_lst hc hb
      have := hc.func _ _ _ hp hp'; subst this
      obtain ⟨b, hpa, hv'⟩ := SlOk_tight hlo hsl
      rw [hpa] at hcont
      obtain ⟨cs, fz, g1, g2, g3⟩ := hcont
      obtain ⟨rfl, hge, _⟩ := g3 rfl
      have hge : w.heap.size ≤ b := by
        rcases hge with hx | hx
        · exact absurd hx (hX b)
        · rw [hwc] at hx; exact hx
      have g2 : LP R' ls (cs.toList.drop p.d) := g2
      have hl2 := LP_le g2
      rw [List.length_drop] at hl2
      have ecs : cs.toList.length = cs.size := Array.length_toList
      refine ⟨_, fun _ _ => .inl, slice_V2 (nid_loose hlt (by omega)) (.inr ⟨rfl, rfl⟩) (Nat.le_refl _) hv', rfl, h.adopt hbel hid (nid_lt hlt (by omega)) (q := ⟨some b, p.d + off, cc⟩) nofun nofun nofun ⟨hge, cs, g1, ?_, ?_⟩⟩
      · show LP _ (rowL i.eqk (lstF ls off i.siz) 0 cc) _
        have e5 := rowL_lst (ks := i.eqk) (l := ls) (off := off) (n := cc) (by rw [hkl]; exact hfit) cc (Nat.le_refl _)
        rw [hkl] at e5
        have e6 := LP_part g2 (off := off) (n := cc * i.siz) hle
        have e7 := (LR_plain (r := V0 R') (pl := pl0) (fun _ _ hv => V0_plain hv) (fitsK_pl hfit)).1 e6
        refine LP_plain (rowL_pl _ _ _ _) ?_
        rw [rowL_len, hkl, e5, ← List.drop_drop]; exact e7
      · show loose (nid id 0) = true → _
        intro _ hc0
        have : 0 < i.eqk.length := List.length_pos_iff.2 hke
        have : 0 < cc * i.siz := Nat.mul_pos (by simp only at hc0; omega) (by omega)
        show p.d + off + cc * i.eqk.length ≤ cs.size
        rw [hkl]; omega
    · rename_i ks n es g
      obtain ⟨hcond, he⟩ := cond_some.1 he2
      simp only [Bool.and_eq_true] at hcond
      obtain ⟨⟨hlo, _⟩, _⟩ := hcond
      simp only [Option.some.injEq, Prod.mk.injEq] at he
      obtain ⟨rfl, rfl⟩ := he
      right
      obtain ⟨p', hp', hcont⟩ : FamOk wc R' w' j e true ks n es g := hc.mem j _ hb
      have := hc.func _ _ _ hp hp'; subst this
      obtain ⟨_, hcc, hcase⟩ := SlOk_loose hlo hsl
      obtain ⟨R2, y1, y2, y3⟩ := h.adoptFam hbel hid (nid_lt hlt (by omega)) (q := p) (e := e) (ks := ks) (n := n) (es := es) (g := g) (by
        cases hpa : p.a with
        | none => rw [hpa] at hcont; exact hcont
        | some b =>
          rw [hpa] at hcont
          obtain ⟨cs, fz, g1, g2, _, g4⟩ := hcont
          obtain ⟨rfl, hge, hroom, hnr⟩ := g4 rfl
          have new : ∀ b, (wc.X b ∨ wc.w.heap.size ≤ b) → w.heap.size ≤ b := fun b hge => by
            rcases hge with hx | hx
            · exact absurd hx (hX b)
            · rw [hwc] at hx; exact hx
          refine ⟨new b hge, cs, g1, fun jj hjj => ?_, hroom⟩
          obtain ⟨v5, q1, q2⟩ := g2 jj hjj
          refine ⟨v5, q1, ?_⟩
          rcases q2 with q2 | ⟨b5, d5, c5, cs5, fz5, o1, o2, o3, o4, o5⟩
          · exact .inl q2
          · rcases hnr jj hjj v5 q1 with hz | ⟨b6, d6, m6, c6, hv6, hge6⟩
            · exact .inl hz
            · rw [o1] at hv6
              simp only [Value.slice.injEq, Option.some.injEq, Addr.mk.injEq] at hv6
              rw [← hv6.1.1] at hge6
              refine .inr ⟨b5, d5, c5, cs5, fz5, o1, o2, new b5 hge6, ?_, o4, o5⟩
              rintro rfl
              have := hc.frz_own o3 hp hpa hb
              simp at this)
      refine ⟨R2, y1, slice_V2 (nid_loose hlt (by omega)) y2 hcc ?_, rfl, y3⟩
      rcases hcase with ⟨b, hpa, hv'⟩ | ⟨hpa, hm0, hc0, hv'⟩
      · rw [hpa]; exact hv'
      · rw [hpa]; exact ⟨hm0, hc0, hv'⟩
    · simp at he2
  · obtain ⟨hpl, he⟩ := cond_some.1 he
    cases he
    have hp2 : pl2 v = true := by
      unfold pl2; split
      · simp [pl1, pl0] at hpl
      · exact hpl
    exact .inl ⟨rfl, rfl, hpl, (V2_plain hp2).1 hv⟩
theorem notTup_pl1 {v : Value} (h : pl1 v = true) : notTup v = true := by
  cases v <;> first | rfl | simp [pl1, pl0] at h
theorem expL_nil {id : Nat} (hc : MRel wc R' mC w') : ∀ {vs us vs' : List Value}, LR (V2 R') vs vs' → expL T mC id vs (fun a b => some (a, b)) none = some (us, []) → us.all pl1 = true ∧ vs' = us
  | [], us, [], _, he => by simp only [expL, Option.some.injEq, Prod.mk.injEq] at he; rw [← he.1]; exact ⟨rfl, rfl⟩
  | v :: vs, us, v' :: vs', hl, he => by
    simp only [expL] at he
    obtain ⟨u, l, hu, he⟩ := expV_some.1 he
    obtain ⟨us2, m, hus, he⟩ := expL_some.1 he
    obtain ⟨x, hx, he⟩ := oK_some.1 he
    simp only [Option.some.injEq, Prod.mk.injEq] at he
    obtain ⟨rfl, rfl⟩ := he
    cases l with
    | cons q l => cases m <;> simp [joinL] at hx
    | nil =>
      have hx : some m = some [] := hx
      cases hx
      obtain ⟨k1, k2⟩ := expL_nil hc hl.2 hus
      unfold expV at hu
      split at hu
      · obtain ⟨blk, hb, hu⟩ := oK_some.1 hu
        cases hit : isTail blk.cells with
        | true =>
          rw [hit, cond_true] at hu
          obtain ⟨_, _, hu⟩ := oK_some.1 hu
          obtain ⟨_, hu⟩ := cond_some.1 hu; simp at hu
        | false =>
        rw [hit, cond_false] at hu
        obtain ⟨_, hu⟩ := cond_some.1 hu
        split at hu
        · obtain ⟨_, hu⟩ := cond_some.1 hu; simp at hu
        · obtain ⟨_, _, hu⟩ := oK_some.1 hu
          obtain ⟨_, hu⟩ := cond_some.1 hu; simp at hu
        · obtain ⟨_, hu⟩ := cond_some.1 hu; simp at hu
        · simp at hu
      · obtain ⟨hpl, hu⟩ := cond_some.1 hu
        simp only [Option.some.injEq, Prod.mk.injEq, and_true] at hu
        subst hu
        have hp2 : pl2 v = true := by
          unfold pl2; split
          · simp [pl1, pl0] at hpl
          · exact hpl
        rw [List.all_cons, hpl, k1, k2, (V2_plain hp2).1 hl.1]
        exact ⟨rfl, rfl⟩
  | [], _, _ :: _, h, _ => h.elim
  | _ :: _, _, [], h, _ => h.elim
theorem expL_ok (h : MRel w0 R fm w) (hc : MRel wc R' mC w') (hwc : wc.w = w) (hX : ∀ k, ¬ wc.X k) {id : Nat} (hid : fm (nid id 0) = none) (hlt : id < 60000) : ∀ {vs us vs' : List Value} {l : List (Nat × Blk)}, LR (V2 R') vs vs' → expL T mC id vs (fun a b => some (a, b)) none = some (us, l) →
    ∃ R2 : Nat → Pl → Prop, (∀ i p, R i p → R2 i p) ∧ LR (V1 R2) us vs' ∧ MRel w0 R2 (memF fm l) w'
  | [], us, [], l, _, he => by
    simp only [expL, Option.some.injEq, Prod.mk.injEq] at he
    obtain ⟨rfl, rfl⟩ := he
    have hbel : Below w.heap.size w w' := by have := hc.below.below hX; rw [hwc] at this; exact this
    exact ⟨R, fun _ _ h => h, trivial, h.world hbel⟩
  | v :: vs, us, v' :: vs', l, hl, he => by
    simp only [expL] at he
    obtain ⟨u, l1, hu, he⟩ := expV_some.1 he
    obtain ⟨us2, m, hus, he⟩ := expL_some.1 he
    obtain ⟨x, hx, he⟩ := oK_some.1 he
    simp only [Option.some.injEq, Prod.mk.injEq] at he
    obtain ⟨rfl, rfl⟩ := he
    rcases expV_ok h hc hwc hX hid hlt hl.1 hu with ⟨rfl, rfl, hpl, rfl⟩ | ⟨R2, k1, k2, k3, k4⟩
    · have hx : some m = some x := hx
      cases hx
      obtain ⟨R2, k1, k2, k3⟩ := expL_ok h hc hwc hX hid hlt hl.2 hus
      exact ⟨R2, k1, ⟨(V1_plain hpl).2 rfl, k2⟩, k3⟩
    · cases l1 with
      | nil =>
        have hx : some m = some x := hx
        cases hx
        -- a plain one after all
        unfold expV at hu
        split at hu
        · obtain ⟨blk, hb, hu⟩ := oK_some.1 hu
          cases hit : isTail blk.cells with
          | true =>
            rw [hit, cond_true] at hu
            obtain ⟨_, _, hu⟩ := oK_some.1 hu
            obtain ⟨_, hu⟩ := cond_some.1 hu; simp at hu
          | false =>
          rw [hit, cond_false] at hu
          obtain ⟨_, hu⟩ := cond_some.1 hu
          split at hu
          · obtain ⟨_, hu⟩ := cond_some.1 hu; simp at hu
          · obtain ⟨_, _, hu⟩ := oK_some.1 hu
            obtain ⟨_, hu⟩ := cond_some.1 hu; simp at hu
          · obtain ⟨_, hu⟩ := cond_some.1 hu; simp at hu
          · simp at hu
        · obtain ⟨hpl, hu⟩ := cond_some.1 hu
          simp only [Option.some.injEq, Prod.mk.injEq, and_true] at hu
          subst hu
          have hp2 : pl2 v = true := by
            unfold pl2; split
            · simp [pl1, pl0] at hpl
            · exact hpl
          have := (V2_plain hp2).1 hl.1; subst this
          obtain ⟨R3, j1, j2, j3⟩ := expL_ok h hc hwc hX hid hlt hl.2 hus
          exact ⟨R3, j1, ⟨(V1_plain hpl).2 rfl, j2⟩, j3⟩
      | cons q l1 =>
        cases m with
        | cons _ _ => simp [joinL] at hx
        | nil =>
          have hx : some (q :: l1) = some x := hx
          cases hx
          obtain ⟨j1, j2⟩ := expL_nil hc hl.2 hus
          subst j2
          refine ⟨R2, k1, ⟨V1_of_V2 k2 k3, ?_⟩, k4⟩
          exact (LR_plain (r := V1 R2) (pl := pl1) (fun _ _ hv => V1_plain hv) j1).2 rfl
  | [], _, _ :: _, _, h, _ => h.elim
  | _ :: _, _, [], _, h, _ => h.elim
end
theorem msum_at {g : FuncId} {fn : Func} {c : Code} (hf : P.funcs[g]? = some fn) (hname : (fn.name == "runtime.NumGoroutine") = false) (hb : fn.body = some c) {fuel next : Nat}
    {w0 : Wb (lay P)} {R : Nat → Pl → Prop} {fm : Nat → Option Blk} {w : World} (hm : MRel w0 R fm w) {vs args' : List Value} (hl : LR (V2 R) vs args') {mm : Nat → Option Blk} (hsub : ∀ b blk, mm b = some blk → fm b = some blk) {id : Nat} (hlt : id < 60000)
    {A : List Arg} (hA : AOk mm vs A) (hlen : A.length ≤ fn.ntmps) {v : Value} {l : List (Nat × Blk)} (hl1 : l = [] ∨ ∃ blk, l = [(nid id 0, blk)]) (hnew : ∀ p ∈ l, (nid id 0 ≤ p.1 ∧ p.1 < nid id 8 → fm p.1 = none) ∧ (¬ (nid id 0 ≤ p.1 ∧ p.1 < nid id 8) → (mm p.1).isSome = true))
    (hev0 : ∀ es, ∃ C, CfgOk P C c ∧ C.n = fn.ntmps ∧ fnMS C fuel fn c (cArgs A 0) (cMem es A 0) next id = some (v, l)) (hnt : fn.ntmps ≤ 900000000 := by decide +kernel) :
    Invokes P g args'.toArray w fun v' w' => ∃ R' : Nat → Pl → Prop, (∀ i p, R i p → R' i p) ∧ V2 R' v v' ∧ MRel w0 R' (memF fm l) w' := by
  have hne : fn.name ≠ "runtime.NumGoroutine" := by simpa using hname
  have hrun : (callFunc g args'.toArray).run P w = .ok (.enter g args'.toArray) w := by simp [callFunc, hf, hne, hb]
  unfold Invokes
  rw [hrun]
  obtain ⟨es, pl, h1, h2, h3, h4⟩ := callee_mem hm A vs args' 0 (AOk_mono hsub hA) hl
  have hmC := callee_rel hm.below.gok h2 h3 (Nat.le_trans hlen hnt)
  obtain ⟨C, hC, hn, hev⟩ := hev0 es
  unfold fnMS fnM at hev
  rw [evK_eq, oK_some] at hev
  obtain ⟨⟨e, s'⟩, he1, he2⟩ := hev
  obtain ⟨vC, he3, he4⟩ : ∃ vC, endK C.T fn e s' some none = some vC ∧ expK C.T (look s'.mem) id vC (fun v l => some (v, l)) none = some (v, l) := by
    unfold endK at he2 ⊢
    have key : ∀ lr : List ResultVar, resK C.T s' lr (fun vs => oneK vs fun v => expK C.T (look s'.mem) id v (fun v l => some (v, l)) none) none = some (v, l) → ∃ vC, resK C.T s' lr (fun vs => oneK vs some) none = some vC ∧ expK C.T (look s'.mem) id vC (fun v l => some (v, l)) none = some (v, l) := by
      intro lr hh
      have e1 : resK C.T s' lr (fun vs => oneK vs fun v => expK C.T (look s'.mem) id v (fun v l => some (v, l)) none) none = oK (resK C.T s' lr (fun vs => oneK vs some) none) (fun v => expK C.T (look s'.mem) id v (fun v l => some (v, l)) none) none := by
        rw [resK_nat (fun o : Option Value => oK o (fun v => expK C.T (look s'.mem) id v (fun v l => some (v, l)) none) none)]
        congr 1; funext vs
        exact (oneK_nat (fun o : Option Value => oK o (fun v => expK C.T (look s'.mem) id v (fun v l => some (v, l)) none) none) vs some).symm
      rw [e1] at hh
      exact oK_some.1 hh
    cases e <;> simp only at he2 ⊢ <;> first | exact key _ he2 | (simp at he2; done)
  refine Calls.mono (fn_mem hC hf hb hn hmC h4 (by rw [cArgs_len]; exact hlen) he1 he3) ?_
  rintro ex w' ⟨R', v', rfl, hvv, hvt, hm'⟩
  show ∃ R2 : Nat → Pl → Prop, _ ∧ _ ∧ _
  have hX : ∀ k, ¬ (⟨w, fun _ => False, fun i p => ∃ j, i = argId j ∧ pl j = some p⟩ : Wb (lay P)).X k := fun _ h => h
  have h8 : nid id 0 < nid id 8 := by unfold nid; omega
  have hbel : Below w.heap.size w w' := hm'.below.below hX
  -- no new row
  have none_case : l = [] → expK C.T (look s'.mem) id vC (fun v l => some (v, l)) none = some (v, []) → ∃ R2 : Nat → Pl → Prop, (∀ i p, R i p → R2 i p) ∧ V2 R2 v v' ∧ MRel w0 R2 (memF fm []) w' := by
    intro _ he
    refine ⟨R, fun _ _ h => h, ?_, hm.world hbel⟩
    unfold expK at he
    split at he
    · rename_i ws
      obtain ⟨us, l2, hu, he⟩ := expL_some.1 he
      simp only [Option.some.injEq, Prod.mk.injEq] at he
      obtain ⟨rfl, rfl⟩ := he
      obtain ⟨vs', rfl, hl2⟩ := hvt ws rfl
      obtain ⟨j1, j2⟩ := expL_nil hm' hl2 hu
      refine ⟨vs', rfl, ?_⟩
      rw [j2, List.toList_toArray]
      exact (LR_plain (r := V1 R) (pl := pl1) (fun _ _ hv => V1_plain hv) j1).2 rfl
    · rename_i hnt
      have hv2 := hvv hnt
      have := expL_nil (T := C.T) (id := id) hm' (vs := [vC]) (us := [v]) (vs' := [v']) ⟨hv2, trivial⟩ (by
        simp only [expL]
        exact expV_some.2 ⟨v, [], he, rfl⟩)
      obtain ⟨j1, j2⟩ := this
      simp only [List.all_cons, List.all_nil, Bool.and_true] at j1
      simp only [List.cons.injEq, and_true] at j2
      subst j2
      exact V2_of_V1 ((V1_plain j1).2 rfl)
  rcases hl1 with rfl | ⟨blk, rfl⟩
  · exact none_case rfl he4
  · have hid : fm (nid id 0) = none := (hnew _ (List.mem_singleton.2 rfl)).1 ⟨Nat.le_refl _, h8⟩
    unfold expK at he4
    split at he4
    · rename_i ws
      obtain ⟨us, l2, hu, he⟩ := expL_some.1 he4
      simp only [Option.some.injEq, Prod.mk.injEq] at he
      obtain ⟨rfl, rfl⟩ := he
      obtain ⟨vs', rfl, hl2⟩ := hvt ws rfl
      obtain ⟨R2, j1, j2, j3⟩ := expL_ok hm hm' rfl hX hid hlt hl2 hu
      exact ⟨R2, j1, ⟨vs', rfl, by rw [List.toList_toArray]; exact j2⟩, j3⟩
    · rename_i hnt
      have hv2 := hvv hnt
      rcases expV_ok hm hm' rfl hX hid hlt hv2 he4 with ⟨h0, _⟩ | ⟨R2, j1, j2, _, j4⟩
      · simp at h0
      · exact ⟨R2, j1, j2, j4⟩
theorem msum_of {C : Cfg} {c : Code} (hC : CfgOk P C c) {g : FuncId} {fn : Func} (hf : P.funcs[g]? = some fn) (hname : (fn.name == "runtime.NumGoroutine") = false) (hb : fn.body = some c) (hn : C.n = fn.ntmps) {fuel next : Nat}
    {F : List Value → (Nat → Option Blk) → Nat → List (Bool × Value × List (Nat × Blk))}
    (h : ∀ vs mm id v l, pickM (F vs mm id) = some (v, l) → id < 60000 → ∃ A : List Arg, AOk mm vs A ∧ A.length ≤ fn.ntmps ∧ (l = [] ∨ ∃ blk, l = [(nid id 0, blk)]) ∧ ∀ es, fnMS C fuel fn c (cArgs A 0) (cMem es A 0) next id = some (v, l)) (hnt : fn.ntmps ≤ 900000000 := by decide +kernel) : MSum P g F := by
  intro w0 R fm w hm vs args' hl mm hsub id hlt v l hpick hnew
  obtain ⟨A, hA, hlen, hl1, hev⟩ := h vs mm id v l hpick hlt
  exact msum_at hf hname hb hm hl hsub hlt hA hlen hl1 hnew (fun es => ⟨C, hC, hn, hev es⟩) hnt
end
end Go.W
