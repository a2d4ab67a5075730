/-
  The engine, part 6: literals, slices of arrays; what makes and writes memory; calls.
-/
import Derived.Test.YtdhbnidobpkkfaaW5
namespace Go.W

section
variable {P : Program} {T : Tab} {G : Sums} {w0 w : World} {n : Nat} {R : Nat → Nat → Prop} {S : FS} {a : Act}

theorem parts_run (h : Rel w0 n R S a w) {β : Type} : ∀ (ps : List (Nat × Operand)) {k : List (Nat × Value) → Option β} {r : β}, partsK (evF S.fs) ps k none = some r →
    ∃ vs, k vs = some r ∧ vs.map (·.1) = ps.map (·.1) ∧ LR (V2 R) (vs.map (·.2)) (ps.map fun p => a.eval p.2)
  | [], k, r, hr => ⟨[], hr, rfl, trivial⟩
  | p :: ps, k, r, hr => by
    simp only [partsK, oK_some] at hr
    obtain ⟨v, hv, hr⟩ := hr
    obtain ⟨vs, h1, h2, h3⟩ := parts_run h ps hr
    exact ⟨(p.1, v) :: vs, h1, by simp [h2], h.ev hv, h3⟩

theorem foldl_set (cs : List Value) (off : Nat) : ∀ (l : List Value) (j : Nat) (acc : Array Value), acc.toList = cs → off + j + l.length ≤ cs.length →
    ((l.zipIdx j).foldl (fun (A : Array Value) (q : Value × Nat) => A.setIfInBounds (off + q.2) q.1) acc).toList = cs.take (off + j) ++ l ++ cs.drop (off + j + l.length)
  | [], j, acc, h, hl => by simp [h]
  | v :: l, j, acc, h, hl => by
    simp only [List.length_cons] at hl
    simp only [List.zipIdx_cons, List.foldl_cons]
    rw [foldl_set (cs.set (off + j) v) off l (j + 1) _ (by simp [h]) (by simp; omega)]
    have hlt : off + j < cs.length := by omega
    rw [List.take_set, List.drop_set, if_pos (by omega)]
    rw [show off + (j + 1) = (off + j) + 1 from by omega, List.take_succ_eq_append_getElem hlt]
    rw [List.set_append_right _ _ (by simp only [List.length_take]; omega)]
    simp only [List.length_take, List.append_assoc, List.length_cons]
    rw [show off + j - min (off + j) cs.length = 0 from by omega]
    simp only [List.set_cons_zero, List.cons_append, List.nil_append]
    rw [show off + j + 1 + l.length = off + j + (l.length + 1) from by omega]

theorem fill_run {place : Nat → Option (Nat × Nat)} {place' : Nat → Option (Nat × Nat)} (hp : ∀ m q, place m = some q → place' m = some q) :
    ∀ (vs : List (Nat × Value)) (us : List (Nat × Value)), vs.map (·.1) = us.map (·.1) → LR (V2 R) (vs.map (·.2)) (us.map (·.2)) →
      ∀ (cells : List Value) (cells' : Array Value) {k : List Value → Option Res} {r : Res}, LR (V0 R) cells cells'.toList → fillK place vs cells k none = some r →
        ∃ cs cs', k cs = some r ∧ Instr.fill place' cells' us = some cs' ∧ LR (V0 R) cs cs'.toList
  | [], [], _, _, cells, cells', k, r, hl, hk => ⟨cells, cells', hk, rfl, hl⟩
  | v :: vs, u :: us, h1, h2, cells, cells', k, r, hl, hk => by
    simp only [List.map_cons, List.cons.injEq] at h1
    simp only [List.map_cons, LR] at h2
    simp only [fillK, oK_some, cond_some, Bool.and_eq_true] at hk
    obtain ⟨q, hq, ⟨⟨ht, hs⟩, hle⟩, hk⟩ := hk
    have hs := nbeq.1 hs
    have hle := Nat.le_of_ble_eq_true hle
    have hc := V2_cells h2.1 (notTup_ne ht)
    have hlen := LR_len hc
    have hlen' := LR_len hl
    have hpl : place' u.1 = some q := by rw [← h1.1]; exact hp _ _ hq
    have e1 : u.2.cells.size = q.2 := by rw [← Array.length_toList, ← hlen, hs]
    have e2 : cells'.size = cells.length := by rw [← Array.length_toList, ← hlen']
    obtain ⟨cs, cs', h3, h4, h5⟩ := fill_run hp vs us h1.2 h2.2 _ (u.2.cells.zipIdx.foldl (fun cs (c, j) => cs.setIfInBounds (q.1 + j) c) cells') (k := k) (r := r) (by
      rw [← Array.foldl_toList, Array.toList_zipIdx, foldl_set cells'.toList q.1 u.2.cells.toList 0 cells' rfl (by simp [e1, e2]; omega)]
      have hx : q.1 + 0 + u.2.cells.toList.length = q.1 + q.2 := by simp [e1]
      rw [hx]
      exact LR_append (LR_append (by simpa using LR_take q.1 hl) hc) (LR_drop _ hl)) hk
    refine ⟨cs, cs', h3, ?_, h5⟩
    unfold Instr.fill
    simp only [hpl, e1, ne_eq, not_true_eq_false, decide_false, Bool.false_or, decide_eq_true_eq]
    rw [if_neg (by rw [e2]; omega)]
    exact h4
  | [], _ :: _, h1, _, _, _, _, _, _, _ => by simp at h1
  | _ :: _, [], h1, _, _, _, _, _, _, _ => by simp at h1

theorem run_zero (hT : TabOk P T) {t : Nat} {i : TInf} (h : look T t = some i) (w : World) : (zeroValue t).run P w = .ok i.zer w := by
  obtain ⟨inf, h1, _, h3⟩ := info_of hT h
  simp [zeroValue, run_typeInfo w h1, h3]

theorem plain_cells {v : Value} (h : pl1 v = true) (ht : notTup v = true) : LR (V0 R) v.cells.toList v.cells.toList :=
  V2_cells ((V2_plain (by unfold pl2; split; · simp [notTup] at ht
                          · exact h)).2 rfl) (notTup_ne ht)

theorem places_run (hT : TabOk P T) {i : TInf} {w : World} : ∀ (fs : List Field), (∀ f ∈ fs, ∃ j, look T f.type = some j) →
    (fs.mapM (fun f => do pure (f.offset, ← sizeOf f.type)) : Sem (List (Nat × Nat))).run P w = .ok (fs.map fun f => (f.offset, P.cellsOf f.type)) w
  | [], _ => rfl
  | f :: fs, h => by
    obtain ⟨j, hj⟩ := h f (by simp)
    have ih := places_run hT (i := i) (w := w) fs fun g hg => h g (by simp [hg])
    simp only [List.mapM_cons, Sem.run_bind, run_size hT hj, Result.andThen_ok, Sem.run_pure, ih, List.map_cons, cellsOf_of hT hj]

theorem sound_build (hT : TabOk P T) (h : Rel w0 n R S a w) {o : Oper} {t : Nat} {ps : Array (Nat × Operand)} (ho : o.op = .build t ps) {id : Nat} {r : Res} (hr : opS T G id o.op (evF S.fs) S.fm = some r) : PR P R a w o r := by
  rw [ho] at hr
  simp only [opS, opK, oK_some] at hr
  obtain ⟨i, hi, hr⟩ := hr
  obtain ⟨vs, hr, h1, h2⟩ := parts_run h _ hr
  simp only [cond_some, Bool.and_eq_true] at hr
  obtain ⟨⟨ht, hp⟩, hr⟩ := hr
  have hz := plain_cells (R := R) hp ht
  have h1' : vs.map (·.1) = (ps.toList.map fun p => (p.1, a.eval p.2)).map (·.1) := by rw [h1]; simp
  have h2' : LR (V2 R) (vs.map (·.2)) ((ps.toList.map fun p => (p.1, a.eval p.2)).map (·.2)) := by rw [List.map_map]; exact h2
  have hparts : (ps.map fun (i, x) => (i, a.eval x)).toList = ps.toList.map fun p => (p.1, a.eval p.2) := by simp
  obtain ⟨d, hd1, hd2, hd3⟩ := und_some hT hi
  cases hst : i.st with
  | true =>
    simp only [hst, cond_true, cond_some] at hr
    obtain ⟨hall, hr⟩ := hr
    obtain ⟨fs, rfl, hfs⟩ := hd3 hst
    have hin : ∀ f ∈ fs.toList, ∃ j, look T f.type = some j := by
      intro f hf
      have := List.all_eq_true.1 hall (f.offset, f.type) (by rw [← hfs]; exact List.mem_map.2 ⟨f, hf, rfl⟩)
      exact Option.isSome_iff_exists.1 this
    obtain ⟨cs, cs', h3, h4, h5⟩ := fill_run (place' := ((fs.map fun f => (f.offset, P.cellsOf f.type))[·]?)) (by
      intro m q hq
      simp only [placeOf, ← hfs, List.getElem?_map, Option.bind_eq_some_iff, Option.map_eq_some_iff] at hq
      obtain ⟨fl, ⟨f, hf, rfl⟩, j, hj, rfl⟩ := hq
      rw [Array.getElem?_toList] at hf
      simp only [Array.getElem?_map, hf, Option.map_some, cellsOf_of hT hj]) vs _ h1' h2' _ i.zer.cells hz hr
    cases h3
    refine PR.mk (v' := .agg cs') ?_ ⟨_, rfl, by simpa using h5⟩
    have hpl : (fs.mapM (fun f => do pure (f.offset, ← sizeOf f.type)) : Sem (Array (Nat × Nat))).run P w = .ok (fs.map fun f => (f.offset, P.cellsOf f.type)) w := by
      rw [Array.mapM_eq_mapM_toList]
      simp only [Sem.run_map, places_run hT (i := i) fs.toList hin, Result.andThen_ok]
      congr 1
      apply Array.ext'
      simp
    simp only [execOp, ho, Instr.build, Sem.run_bind, run_zero hT hi, Result.andThen_ok, run_underlying hd1, hpl, hparts, h4, Sem.run_pure]
  | false =>
    simp only [hst, cond_false] at hr
    obtain ⟨_, ⟨m, e, hu, h3⟩ | ⟨_, _, h3⟩ | ⟨_, _, h3⟩ | ⟨_, h3⟩ | ⟨_, h3⟩⟩ := descK_some hr <;> first | (simp at h3; done) | skip
    have := hd2 hst; subst this; rw [hu] at hd1
    obtain ⟨j, hj, h3⟩ := oK_some.1 h3
    obtain ⟨cs, cs', h4, h5, h6⟩ := fill_run (place' := fun m => some (m * j.siz, j.siz)) (fun _ _ h => h) vs _ h1' h2' _ i.zer.cells hz h3
    cases h4
    refine PR.mk (v' := .agg cs') ?_ ⟨_, rfl, by simpa using h6⟩
    simp only [execOp, ho, Instr.build, Sem.run_bind, run_zero hT hi, Result.andThen_ok, run_underlying hd1, run_size hT hj, hparts, h5, Sem.run_pure]

theorem repL_len (z : List Value) : ∀ n, (repL n z).length = n * z.length
  | 0 => by simp [repL]
  | n + 1 => by simp [repL, repL_len z n, Nat.add_mul, Nat.add_comm]

theorem repL_get (z : List Value) : ∀ (n i : Nat), i < n * z.length → (repL n z)[i]? = z[i % z.length]?
  | 0, i, h => by simp at h
  | n + 1, i, h => by
    rw [Nat.add_mul, Nat.one_mul] at h
    unfold repL
    by_cases hi : i < z.length
    · rw [List.getElem?_append_left hi, Nat.mod_eq_of_lt hi]
    · rw [List.getElem?_append_right (by omega), repL_get z n (i - z.length) (by omega), Nat.mod_eq_sub_mod (a := i) (by omega)]

theorem repL_range {z : Array Value} {n : Nat} (hz : z.size ≠ 0) : (Array.range (n * z.size)).map (z[· % z.size]!) = (repL n z.toList).toArray := by
  apply Array.ext'
  apply List.ext_getElem?
  intro i
  by_cases hi : i < n * z.size
  · rw [repL_get z.toList n i (by rw [Array.length_toList]; exact hi)]
    have hlt : i % z.size < z.size := Nat.mod_lt _ (by omega)
    simp [hi, hlt]
  · rw [List.getElem?_eq_none (by simp; omega), List.getElem?_eq_none (by rw [List.toList_toArray, repL_len, Array.length_toList]; omega)]

theorem LR_rep {z z' : List Value} (h : LR (V0 R) z z') : ∀ n, LR (V0 R) (repL n z) (repL n z')
  | 0 => trivial
  | n + 1 => LR_append h (LR_rep h n)

theorem opt_run (h : Rel w0 n R S a w) {β : Type} {x : Option Operand} {k : Option Value → Option β} {r : β} (hr : optK (evF S.fs) x k none = some r) :
    ∃ v, k v = some r ∧ ((x = none ∧ v = none) ∨ ∃ y u, x = some y ∧ v = some u ∧ V2 R u (a.eval y)) := by
  cases x with
  | none => exact ⟨none, hr, .inl ⟨rfl, rfl⟩⟩
  | some y =>
    simp only [optK, oK_some] at hr
    obtain ⟨v, hv, hr⟩ := hr
    exact ⟨some v, hr, .inr ⟨y, v, rfl, rfl, h.ev hv⟩⟩

theorem sound_slice (hT : TabOk P T) (h : Rel w0 n R S a w) {o : Oper} {t : Nat} {x : Operand} {lo hi mx : Option Operand} (ho : o.op = .slice t x lo hi mx) {id : Nat} {r : Res} (hr : opS T G id o.op (evF S.fs) S.fm = some r) : PR P R a w o r := by
  rw [ho] at hr
  cases mx with
  | some m => simp [opS, opK, noneK] at hr
  | none =>
    simp only [opS, opK, noneK, oK_some] at hr
    obtain ⟨vx, hx, hr⟩ := hr
    obtain ⟨l, hr, hl⟩ := opt_run h hr
    obtain ⟨u, hr, hu⟩ := opt_run h hr
    obtain ⟨i, hi', hr⟩ := oK_some.1 hr
    obtain ⟨d, hd1, hd2, _⟩ := und_some hT hi'
    obtain ⟨hst, ⟨m, e, hue, h3⟩ | ⟨_, _, h3⟩ | ⟨_, _, h3⟩ | ⟨_, h3⟩ | ⟨_, h3⟩⟩ := descK_some hr <;> first | (simp at h3; done) | skip
    have := hd2 hst; subst this; rw [hue] at hd1
    simp only [ptrK_some, oK_some] at h3
    obtain ⟨b, off, rfl, j, hj, h3⟩ := h3
    obtain ⟨b', hb', hev⟩ := V2_ptr (h.ev hx)
    -- the upper bound
    obtain ⟨H, hH, h4⟩ : ∃ H, (match hi.map a.eval with
        | some v => Instr.sliceBound v m (.sliceAlen)
        | none => pure m).run P w = .ok H w ∧ lowK H l (fun l => some (val (.slice (some ⟨b, bif Nat.beq m l then off else off + l * j.siz, none⟩) (H - l) (m - l)))) none = some r := by
      rcases hu with ⟨rfl, rfl⟩ | ⟨y, v, rfl, rfl, hv⟩
      · exact ⟨m, rfl, h3⟩
      · simp only [highK, intK_some, cond_some, Bool.and_eq_true, decide_eq_true_eq] at h3
        obtain ⟨kd, q, rfl, hq, h3⟩ := h3
        have hev := V2_int hv
        refine ⟨q.toNat, ?_, h3⟩
        simp [Instr.sliceBound, hev, asIntOf, hq]
    obtain ⟨L, hL, h5⟩ : ∃ L, (match lo.map a.eval with
        | some v => Instr.sliceBound v H (.sliceB)
        | none => pure 0).run P w = .ok L w ∧ some (val (.slice (some ⟨b, bif Nat.beq m L then off else off + L * j.siz, none⟩) (H - L) (m - L))) = some r := by
      rcases hl with ⟨rfl, rfl⟩ | ⟨y, v, rfl, rfl, hv⟩
      · exact ⟨0, rfl, h4⟩
      · simp only [lowK, intK_some, cond_some, Bool.and_eq_true, decide_eq_true_eq] at h4
        obtain ⟨kd, q, rfl, hq, h4⟩ := h4
        have hev := V2_int hv
        refine ⟨q.toNat, ?_, h4⟩
        simp [Instr.sliceBound, hev, asIntOf, hq]
    cases h5
    refine PR.mk (v' := .slice (some ⟨b', bif Nat.beq m L then off else off + L * j.siz, none⟩) (H - L) (m - L)) ?_ ⟨b', hb', rfl⟩
    have hbounds : (Instr.sliceBounds false m m (lo.map a.eval) (hi.map a.eval) none).run P w = .ok (L, H, m) w := by
      unfold Instr.sliceBounds
      cases hhi : hi.map a.eval with
      | none =>
        rw [hhi] at hH
        cases hlo : lo.map a.eval with
        | none => rw [hlo] at hL; simp at hH hL; simp [hH, hL]
        | some v => rw [hlo] at hL; simp at hH; subst hH; simp at hL; simp [hL]
      | some v =>
        rw [hhi] at hH
        simp only at hH
        cases hlo : lo.map a.eval with
        | none => rw [hlo] at hL; simp at hL; simp [hH, hL]
        | some v => rw [hlo] at hL; simp at hL; simp [hL, hH]
    simp only [execOp, ho, hev, Instr.sliceAt, Sem.run_bind, run_underlying hd1, Result.andThen_ok, Instr.sureAddr, Sem.run_pure, Option.map_none, hbounds, run_size hT hj]
    congr 3
    by_cases hm : m = L
    · subst hm; simp
    · rw [if_neg hm, nbeq_ne hm]; simp [addr_add]

/-- All operations that neither make nor write memory. -/
theorem sound_quiet (hT : TabOk P T) (h : Rel w0 n R S a w) {o : Oper} {id : Nat} {r : Res} (hr : opS T G id o.op (evF S.fs) S.fm = some r)
    (h1 : ∀ t, o.op ≠ .alloc t) (h2 : ∀ t x, o.op ≠ .box t x) (h3 : ∀ t x y, o.op ≠ .store t x y) (h4 : ∀ c, o.op ≠ .call c) (h5 : ∀ t l ps, o.op ≠ .buildSlice t l ps) : PR P R a w o r := by
  cases ho : o.op with
  | alloc t => exact absurd ho (h1 t)
  | box t x => exact absurd ho (h2 t x)
  | store t x y => exact absurd ho (h3 t x y)
  | call c => exact absurd ho (h4 c)
  | buildSlice t l ps => exact absurd ho (h5 t l ps)
  | move x =>
    rw [ho] at hr; simp only [opS, opK, oK_some] at hr
    obtain ⟨v, hv, hr⟩ := hr; cases hr
    exact PR.mk (v' := a.eval x) (by simp [execOp, ho]) (h.ev hv)
  | assign x =>
    rw [ho] at hr; simp only [opS, opK, oK_some] at hr
    obtain ⟨v, hv, hr⟩ := hr; cases hr
    exact PR.mk (v' := a.eval x) (by simp [execOp, ho]) (h.ev hv)
  | pick c x y => exact sound_pick h ho hr
  | load t x => exact sound_load hT h ho hr
  | indexAddr t x ix => exact sound_indexAddr hT h ho hr
  | fieldAddr t x m => exact sound_fieldAddr hT h ho hr
  | field t x m => exact sound_field hT h ho hr
  | index t x ix => exact sound_index hT h ho hr
  | extract x m => exact sound_extract h ho hr
  | binOp op t x y u => exact sound_binOp hT h ho hr
  | unOp op t x => exact sound_unOp h ho hr
  | convert s d x => exact sound_convert hT h ho hr
  | build t ps => exact sound_build hT h ho hr
  | slice t x lo hi mx => exact sound_slice hT h ho hr
  | _ => rw [ho] at hr; simp [opS, opK] at hr

end
end Go.W
