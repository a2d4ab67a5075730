/-
  The engine, part 7: what makes and writes memory; calls; one operation, whatever it is.
-/
import Derived.Test.YtdhbnidobpkkfaaW6
namespace Go.W
open Go.RowKit (Below)

section
variable {P : Program} {T : Tab} {G : Sums} {w0 w : World} {n : Nat} {R : Nat → Nat → Prop} {S : FS} {a : Act}

theorem Rel.put (h : Rel w0 n R S a w) {d : Option Nat} (hd : ∀ t, d = some t → t < n) {v v' : Value} (hv : V2 R v v') : Rel w0 n R ⟨putF S.fs d v, S.fm⟩ (a.put d v') w := by
  cases d with
  | none => exact h
  | some t =>
    have ht := hd t rfl
    refine ⟨h.defers, h.below, by simpa [Act.put] using h.size, ?_, h.func, h.inj, h.mem, h.dom⟩
    intro u x hx
    simp only [putF] at hx
    simp only [Act.put]
    by_cases hu : t = u
    · subst hu
      rw [upd_same] at hx
      cases hx
      exact ⟨v', by simp [h.size, ht], hv⟩
    · rw [upd_ne _ _ hu] at hx
      obtain ⟨x', h1, h2⟩ := h.slot u x hx
      exact ⟨x', by rw [Array.getElem?_setIfInBounds_ne hu]; exact h1, h2⟩

/-- The same at a world whose blocks are all there. -/
theorem Rel.world (h : Rel w0 n R S a w) {w' : World} (hb : Below w.heap.size w w') : Rel w0 n R S a w' := by
  refine ⟨h.defers, h.below.trans (hb.mono h.below.size), h.size, h.slot, h.func, h.inj, ?_, h.dom⟩
  intro i blk hi
  obtain ⟨b, cs, fz, h1, h2, h3, h4⟩ := h.mem i blk hi
  refine ⟨b, cs, fz, h1, ?_, h3, h4⟩
  rw [hb.block b ?_]; exact h2
  rcases Nat.lt_or_ge b w.heap.size with hlt | hge
  · exact hlt
  · rw [Array.getElem?_eq_none hge] at h2; simp at h2

theorem Rel.alloc (h : Rel w0 n R S a w) {id : Nat} (hid : S.fm id = none) {cells : List Value} {cs : Array Value} {e : TypeId} (hl : LR (V0 R) cells cs.toList) :
    Rel w0 n (fun i b => R i b ∨ (i = id ∧ b = w.heap.size)) ⟨S.fs, upd S.fm id ⟨cells, e, true⟩⟩ a (w.alloc (.cells cs e)) := by
  have hR : ∀ b, ¬ R id b := fun b hb => by have := h.dom id b hb; rw [hid] at this; simp at this
  have hlt : ∀ i b, R i b → b < w.heap.size := by
    intro i b hb
    obtain ⟨blk, hblk⟩ := Option.isSome_iff_exists.1 (h.dom i b hb)
    obtain ⟨cs, fz, h1, _⟩ := h.block hblk hb
    rcases Nat.lt_or_ge b w.heap.size with hlt | hge
    · exact hlt
    · rw [Array.getElem?_eq_none hge] at h1; simp at h1
  have hsz := h.below.size
  refine ⟨h.defers, h.below.alloc hsz _, h.size, ?_, ?_, ?_, ?_, ?_⟩
  · intro t v hv
    obtain ⟨v', h1, h2⟩ := h.slot t v hv
    exact ⟨v', h1, V2_mono (fun _ _ => .inl) h2⟩
  · rintro i b b' (h1 | ⟨rfl, rfl⟩) (h2 | ⟨h3, rfl⟩)
    · exact h.func _ _ _ h1 h2
    · subst h3; exact absurd h1 (hR _)
    · exact absurd h2 (hR _)
    · rfl
  · rintro i j b (h1 | ⟨rfl, rfl⟩) (h2 | ⟨rfl, h3⟩)
    · exact h.inj _ _ _ h1 h2
    · have := hlt _ _ h1; omega
    · have := hlt _ _ h2; omega
    · rfl
  · intro i blk hi
    by_cases e1 : id = i
    · subst e1
      simp only [upd_same, Option.some.injEq] at hi
      subst hi
      refine ⟨w.heap.size, cs, (0, 0), .inr ⟨rfl, rfl⟩, ?_, LR_mono (fun _ _ => V0_mono fun _ _ => .inl) hl, fun _ => ⟨rfl, hsz⟩⟩
      show (w.heap.push _)[w.heap.size]? = _
      simp
    · simp only [upd_ne _ _ e1] at hi
      obtain ⟨b, cs', fz, h1, h2, h3, h4⟩ := h.mem i blk hi
      refine ⟨b, cs', fz, .inl h1, ?_, LR_mono (fun _ _ => V0_mono fun _ _ => .inl) h3, h4⟩
      rw [Below.heap_alloc _ _ _ (hlt _ _ h1)]; exact h2
  · rintro i b (h1 | ⟨rfl, rfl⟩)
    · by_cases e1 : id = i
      · subst e1; simp [upd_same]
      · simp only [upd_ne _ _ e1]; exact h.dom _ _ h1
    · simp [upd_same]

def setBlk (w : World) (b : Nat) (o : Obj) : World := { w with heap := w.heap.setIfInBounds b o }

theorem setBlk_twice (w : World) (b : Nat) (o o' : Obj) : setBlk (setBlk w b o) b o' = setBlk w b o' := by
  simp [setBlk, Array.setIfInBounds_setIfInBounds]

theorem setBlk_same {w : World} {b : Nat} {o : Obj} (h : b < w.heap.size) : (setBlk w b o).heap[b]? = some o := by simp [setBlk, h]

theorem setCell_blk {w : World} {b : Nat} {cs : Array Value} {e : TypeId} {fz : Nat × Nat} (h : w.heap[b]? = some (.cells cs e fz)) (off : Nat) (v : Value) :
    w.setCell ⟨b, off, none⟩ v = setBlk w b (.cells (cs.setIfInBounds off v) e fz) := by
  have hlt : b < w.heap.size := by
    rcases Nat.lt_or_ge b w.heap.size with hlt | hge
    · exact hlt
    · rw [Array.getElem?_eq_none hge] at h; simp at h
  unfold World.setCell setBlk
  congr 1
  apply Array.ext
  · simp
  · intro i h1 h2
    simp only [Array.getElem_modify]
    by_cases hi : b = i
    · subst hi
      rw [Array.getElem?_eq_getElem hlt] at h
      have hh := Option.some.inj h
      simp [hh]
    · rw [if_neg hi, Array.getElem_setIfInBounds_ne (h := hi)]

theorem run_storeCells {e : TypeId} {b off : Nat} : ∀ (vs : List Value) (j : Nat) (w : World) (cs : Array Value), w.heap[b]? = some (.cells cs e (0, 0)) → off + j + vs.length ≤ cs.size →
    (∀ v ∈ vs, (∀ x, v ≠ .agg x) ∧ (∀ x, v ≠ .tuple x)) →
    (storeCells ⟨b, off, none⟩ vs j).run P w = .ok () (setBlk w b (.cells (cs.toList.take (off + j) ++ vs ++ cs.toList.drop (off + j + vs.length)).toArray e (0, 0)))
  | [], j, w, cs, h, hl, hv => by
    have hlt : b < w.heap.size := by
      rcases Nat.lt_or_ge b w.heap.size with hlt | hge
      · exact hlt
      · rw [Array.getElem?_eq_none hge] at h; simp at h
    have : setBlk w b (.cells cs e (0, 0)) = w := by
      unfold setBlk
      have : w.heap.setIfInBounds b (.cells cs e (0, 0)) = w.heap := by
        apply Array.ext
        · simp
        · intro i h1 h2
          by_cases hi : b = i
          · subst hi; rw [Array.getElem?_eq_getElem hlt] at h; simp [Option.some.inj h]
          · rw [Array.getElem_setIfInBounds_ne (h := hi)]
      rw [this]
    simp [storeCells, this]
  | v :: vs, j, w, cs, h, hl, hv => by
    simp only [List.length_cons] at hl
    have hlt : b < w.heap.size := by
      rcases Nat.lt_or_ge b w.heap.size with hlt | hge
      · exact hlt
      · rw [Array.getElem?_eq_none hge] at h; simp at h
    have hlc : off + j < cs.toList.length := by simp; omega
    have hc : w.cell? ⟨b, off + j, none⟩ = some cs.toList[off + j] := by
      rw [cell_at h, ← Array.getElem?_toList, List.getElem?_eq_getElem hlc]
    have hf : w.frozen? ⟨b, off + j, none⟩ = false := by simp [World.frozen?, h]
    have h1 := (hv v (by simp)).1
    have h2 := (hv v (by simp)).2
    have hst : (store (⟨b, off + j, none⟩ : Addr) v).run P w = .ok () (w.setCell ⟨b, off + j, none⟩ v) := by
      unfold store
      cases v <;> first | exact absurd rfl (h1 _) | exact absurd rfl (h2 _) | simp [Sem.run, hc, hf]
    simp only [storeCells, Sem.run_bind, addr_add, hst, Result.andThen_ok]
    rw [setCell_blk h, run_storeCells vs (j + 1) _ (cs.setIfInBounds (off + j) v) (setBlk_same hlt) (by simp; omega) (fun u hu => hv u (by simp [hu])), setBlk_twice]
    congr 4
    simp only [Array.toList_setIfInBounds]
    rw [List.drop_set, if_pos (by omega), show off + (j + 1) = (off + j) + 1 from by omega, List.take_set, List.take_succ_eq_append_getElem hlc,
      List.set_append_right _ _ (by simp only [List.length_take]; omega)]
    simp only [List.length_take, List.append_assoc, List.length_cons]
    rw [show off + j - min (off + j) cs.toList.length = 0 from by omega]
    simp only [List.set_cons_zero, List.cons_append, List.nil_append]
    rw [show off + j + 1 + vs.length = off + j + (vs.length + 1) from by omega]

theorem LR_one {l l' : List Value} (h : LR (V0 R) l l') : ∀ v ∈ l', (∀ x, v ≠ .agg x) ∧ (∀ x, v ≠ .tuple x) := by
  induction l generalizing l' with
  | nil => cases l' with
    | nil => simp
    | cons _ _ => exact h.elim
  | cons a l ih => cases l' with
    | nil => exact h.elim
    | cons b l' =>
      intro v hv
      rcases List.mem_cons.1 hv with rfl | hv
      · exact V0_one h.1
      · exact ih h.2 v hv

theorem Rel.write (h : Rel w0 n R S a w) {i b : Nat} {blk : Blk} (hi : S.fm i = some blk) (hb : R i b) (hown : blk.own = true) {cells : List Value} {cs : Array Value} (hl : LR (V0 R) cells cs.toList) :
    Rel w0 n R ⟨S.fs, upd S.fm i ⟨cells, blk.elem, true⟩⟩ a (setBlk w b (.cells cs blk.elem (0, 0))) := by
  obtain ⟨cs0, fz, h1, h2, h3⟩ := h.block hi hb
  obtain ⟨_, hge⟩ := h3 hown
  have hlt : b < w.heap.size := by
    rcases Nat.lt_or_ge b w.heap.size with hlt | hge
    · exact hlt
    · rw [Array.getElem?_eq_none hge] at h1; simp at h1
  refine ⟨h.defers, h.below.trans ⟨rfl, rfl, rfl, by simp [setBlk], fun k hk => ?_⟩, h.size, h.slot, h.func, h.inj, ?_, ?_⟩
  · simp only [setBlk]; rw [Array.getElem?_setIfInBounds_ne (by omega)]
  · intro j blk' hj
    by_cases e1 : i = j
    · subst e1
      simp only [upd_same, Option.some.injEq] at hj
      subst hj
      exact ⟨b, cs, (0, 0), hb, setBlk_same hlt, hl, fun _ => ⟨rfl, hge⟩⟩
    · simp only [upd_ne _ _ e1] at hj
      obtain ⟨b', cs', fz', k1, k2, k3, k4⟩ := h.mem j blk' hj
      have hne : b ≠ b' := fun e => e1 (h.inj _ _ _ hb (e ▸ k1))
      exact ⟨b', cs', fz', k1, by simp only [setBlk]; rw [Array.getElem?_setIfInBounds_ne hne]; exact k2, k3, k4⟩
  · intro j b' hj
    by_cases e1 : i = j
    · subst e1; simp [upd_same]
    · simp only [upd_ne _ _ e1]; exact h.dom _ _ hj

theorem evs_run (h : Rel w0 n R S a w) {β : Type} : ∀ (xs : List Operand) {k : List Value → Option β} {r : β}, evsK (evF S.fs) xs k none = some r →
    ∃ vs, k vs = some r ∧ LR (V2 R) vs (xs.map a.eval)
  | [], k, r, hr => ⟨[], hr, trivial⟩
  | x :: xs, k, r, hr => by
    simp only [evsK, oK_some] at hr
    obtain ⟨v, hv, hr⟩ := hr
    obtain ⟨vs, h1, h2⟩ := evs_run h xs hr
    exact ⟨v :: vs, h1, h.ev hv, h2⟩

theorem V2_undef : V2 R undef undef := ⟨_, rfl, trivial⟩

theorem store_res {b off : Nat} {blk : Blk} {i : TInf} {v : Value} {r : Res} (hr : storeK b off blk i v some none = some r) : blk.own = true ∧ notTup v = true ∧ v.cells.toList.length = i.siz ∧ off + i.siz ≤ blk.cells.length ∧
    r = ⟨undef, none, some (b, ⟨blk.cells.take off ++ v.cells.toList ++ blk.cells.drop (off + i.siz), blk.elem, true⟩), [b]⟩ := by
  unfold storeK at hr
  simp only [cond_some, Bool.and_eq_true] at hr
  obtain ⟨⟨⟨⟨h1, h2⟩, h3⟩, h4⟩, hr⟩ := hr
  have h3 := nbeq.1 h3
  have h4 := Nat.le_of_ble_eq_true h4
  refine ⟨h1, h2, h3, h4, ?_⟩
  cases hs : Nat.beq i.siz 1 with
  | false => simp only [hs, cond_false] at hr; exact (Option.some.inj hr).symm
  | true =>
    simp only [hs, cond_true, oK_some] at hr
    obtain ⟨c, hc, hr⟩ := hr
    have hs := nbeq.1 hs
    have : v.cells.toList = [c] := by
      rw [hs] at h3
      match hx : v.cells.toList, h3, hc with
      | [x], _, hc => simpa using hc
    rw [← Option.some.inj hr, this, hs]
    rw [List.set_eq_take_append_cons_drop, if_pos (by omega)]
    simp

/-- One operation. -/
theorem op_sound (hT : TabOk P T) (hG : SumsOk P G) (h : Rel w0 n R S a w) {o : Oper} {id : Nat} (hd : ∀ t, o.dst = some t → t < n) {r : Res}
    (hr : opS T G id o.op (evF S.fs) S.fm = some r) {K : Act → World → Prop} {Q : Exit → Act → World → Prop} (hK : ∀ R' a' w', Rel w0 n R' (S.apply o.dst id r) a' w' → K a' w') : o.wp P a w K Q := by
  have quiet : PR P R a w o r → o.wp P a w K Q := by
    rintro ⟨h1, h2, v', h3, h4⟩
    unfold Oper.wp
    rw [h3]
    refine hK R _ _ ?_
    have := h.put hd h4
    simpa [FS.apply, h1, h2, memF] using this
  cases ho : o.op with
  | alloc t =>
    rw [ho] at hr; simp only [opS, opK, oK_some, cond_some, Bool.and_eq_true] at hr
    obtain ⟨i, hi, ⟨⟨ht, hp⟩, hid⟩, hr⟩ := hr
    have hid := Option.isNone_iff_eq_none.1 hid
    cases hr
    unfold Oper.wp
    have : (execOp a.eval o).run P w = .ok (.value (.pointer (some ⟨w.heap.size, 0, none⟩))) (w.alloc (.cells i.zer.cells t)) := by
      simp [execOp, ho, Instr.alloc, run_zero hT hi, newVar, newRow, newObj, Sem.run]
    rw [this]
    refine hK (fun i b => R i b ∨ (i = id ∧ b = w.heap.size)) _ _ ?_
    exact (h.alloc hid (plain_cells hp ht)).put hd ⟨_, .inr ⟨rfl, rfl⟩, rfl⟩
  | box t x =>
    rw [ho] at hr; simp only [opS, opK, oK_some, cond_some, Bool.and_eq_true] at hr
    obtain ⟨v, hv, ⟨ht, hid⟩, hr⟩ := hr
    have hid := Option.isNone_iff_eq_none.1 hid
    cases hr
    unfold Oper.wp
    have : (execOp a.eval o).run P w = .ok (.value (.pointer (some ⟨w.heap.size, 0, none⟩))) (w.alloc (.cells (a.eval x).cells t)) := by
      simp [execOp, ho, Instr.box, newVar, newRow, newObj, Sem.run]
    rw [this]
    refine hK (fun i b => R i b ∨ (i = id ∧ b = w.heap.size)) _ _ ?_
    exact (h.alloc hid (V2_cells (h.ev hv) (notTup_ne ht))).put hd ⟨_, .inr ⟨rfl, rfl⟩, rfl⟩
  | store t x y =>
    rw [ho] at hr; simp only [opS, opK, oK_some, ptrK_some] at hr
    obtain ⟨va, hva, v, hv, b, off, rfl, blk, hb, i, hi, hr⟩ := hr
    obtain ⟨b', hb', hev⟩ := V2_ptr (h.ev hva)
    obtain ⟨hown, ht, hlen, hle, rfl⟩ := store_res hr
    obtain ⟨cs, fz, h1, h2, h3⟩ := h.block hb hb'
    obtain ⟨rfl, hge⟩ := h3 hown
    have hc := V2_cells (h.ev hv) (notTup_ne ht)
    have l1 := LR_len hc
    have l2 := LR_len h2
    have hsz : (a.eval y).cells.size = i.siz := by rw [← Array.length_toList, ← l1, hlen]
    unfold Oper.wp
    have : (execOp a.eval o).run P w = .ok .skip (setBlk w b' (.cells (cs.toList.take off ++ (a.eval y).cells.toList ++ cs.toList.drop (off + i.siz)).toArray blk.elem (0, 0))) := by
      simp only [execOp, ho, hev, Instr.storeAt, Instr.sureAddr, storeVar, Sem.run_bind, Sem.run_pure, Result.andThen_ok, run_size hT hi, hsz, ne_eq, not_true_eq_false, if_false]
      rw [run_storeCells _ 0 w cs h1 (by simp [hsz]; rw [Array.length_toList] at l2; omega) (LR_one hc)]
      simp [hsz]
    rw [this]
    refine hK R _ _ ?_
    exact (h.write hb hb' hown (LR_append (LR_append (LR_take off h2) hc) (LR_drop _ h2))).put hd V2_undef
  | call c =>
    rw [ho] at hr; simp only [opS, opK, callK] at hr
    split at hr
    · rename_i g hc
      obtain ⟨vs, hr, hl⟩ := evs_run h _ hr
      simp only [cond_some, oK_some] at hr
      obtain ⟨hp, F, hF, ⟨q, v⟩, hv, hq, hpv, hr⟩ := hr
      simp only at hq hpv
      subst hq
      cases hr
      have hargs := (LR_plain (fun v v' hv => V2_plain hv) hp).1 hl
      have hinv := hG g F hF vs v hv hp w
      have hex : execOp a.eval o = callFunc g (c.args.map a.eval) := by
        obtain ⟨cal, args, ats⟩ := c
        simp only at hc
        subst hc
        unfold execOp; simp [ho, resolve, Deferred.ofValue, invoke, Act.eval]
      have hargs' : c.args.map a.eval = vs.toArray := by
        apply Array.ext'
        simp [← hargs]
      unfold Oper.wp
      rw [hex, hargs']
      have fin : ∀ v' w', (v' = v ∧ Below w.heap.size w w') → K (a.put o.dst v') w' := by
        rintro v' w' ⟨rfl, hb⟩
        exact hK R _ _ ((h.world hb).put hd ((V2_plain hpv).2 rfl))
      unfold Invokes at hinv
      split at hinv
      · rename_i hrun; rw [hrun]; exact fin _ _ hinv
      · rename_i hrun
        rw [hrun]
        refine Calls.mono hinv fun e w'' he => ?_
        cases e with
        | returned v => exact fin _ _ he
        | panicked c => exact he.elim
        | outgrown => exact he.elim
      · exact hinv.elim
    · rename_i hc
      obtain ⟨vs, hr, hl⟩ := evs_run h _ hr
      simp only [twoK_some] at hr
      obtain ⟨d, s, t, l, rfl, hts, hr⟩ := hr
      unfold copyK at hr
      simp only [sliceK_some, oK_some] at hr
      obtain ⟨b, off, m, c1, rfl, b', off', m', c2, rfl, blk, hb, blk', hb', i, hi, hr⟩ := hr
      obtain ⟨dd, hd1, hd2, _⟩ := und_some hT hi
      obtain ⟨hst, ⟨_, _, _, h3⟩ | ⟨e, hu, h3⟩ | ⟨_, _, h3⟩ | ⟨_, h3⟩ | ⟨_, h3⟩⟩ := descK_some hr <;> first | (simp at h3; done) | skip
      have := hd2 hst; subst this; rw [hu] at hd1
      simp only [oK_some, cond_some, Bool.and_eq_true] at h3
      obtain ⟨j, hj, ⟨⟨⟨hown, hs⟩, k1⟩, k2⟩, h3⟩ := h3
      have hs := nbeq.1 hs
      have k1 := Nat.le_of_ble_eq_true k1
      have k2 := Nat.le_of_ble_eq_true k2
      cases h3
      -- the two arguments
      obtain ⟨x0, x1, hxs⟩ : ∃ x0 x1, c.args.toList = [x0, x1] := by
        have := LR_len hl
        simp at this
        match hx : c.args.toList with
        | [x0, x1] => exact ⟨x0, x1, rfl⟩
        | [] => rw [← Array.length_toList, hx] at this; simp at this
        | [_] => rw [← Array.length_toList, hx] at this; simp at this
        | _ :: _ :: _ :: _ => rw [← Array.length_toList, hx] at this; simp at this
      rw [hxs] at hl
      simp only [List.map_cons, List.map_nil, LR, and_true] at hl
      obtain ⟨g, hg, e0⟩ := V2_slice hl.1
      obtain ⟨g', hg', e1⟩ := V2_slice hl.2
      obtain ⟨cs, fz, h1, h2, h3⟩ := h.block hb hg
      obtain ⟨rfl, hge⟩ := h3 hown
      obtain ⟨cs', fz', h1', h2', _⟩ := h.block hb' hg'
      have l1 := LR_len h2
      have l2 := LR_len h2'
      rw [Array.length_toList] at l1 l2
      have hargs : c.args.map a.eval = #[.slice (some ⟨g, off, none⟩) m c1, .slice (some ⟨g', off', none⟩) m' c2] := by
        apply Array.ext'
        simp [hxs, e0, e1]
      have hat : c.argTypes[0]? = some t := by rw [← Array.getElem?_toList, hts]; rfl
      have hlr : LR (V0 R) ((blk'.cells.drop off').take (min m' m)) ((cs'.toList.drop off').take (min m' m)) := LR_take _ (LR_drop _ h2')
      have hln : ((cs'.toList.drop off').take (min m' m)).length = min m' m := by simp; omega
      unfold Oper.wp
      have : (execOp a.eval o).run P w = .ok (.value (.int .i64 ((min m' m : Nat) : Int))) (setBlk w g (.cells (cs.toList.take off ++ (cs'.toList.drop off').take (min m' m) ++ cs.toList.drop (off + min m' m)).toArray blk.elem (0, 0))) := by
        have hlc : (loadCells ⟨g', off', none⟩ (min m' m * 1)).run P w = .ok ((cs'.toList.drop off').take (min m' m)).toArray w := by
          unfold loadCells
          rw [run_loadCells h1' off' _ 0 #[] (by omega)]
          simp
        have hsc := run_storeCells (P := P) (e := blk.elem) (b := g) (off := off) ((cs'.toList.drop off').take (min m' m)) 0 w cs h1 (by rw [hln]; omega) (LR_one hlr)
        rw [hln] at hsc
        simp only [Nat.add_zero] at hsc
        simp only [execOp, ho, resolve, hc, Sem.run_bind, Sem.run_pure, Result.andThen_ok, invoke, builtin, Builtin.copy_, hargs, hat, run_underlying hd1, Builtin.lenOf, run_size hT hj, hs, Builtin.firstCells,
          List.getElem?_toArray, List.getElem?_cons_zero, List.getElem?_cons_succ, Nat.min_def, goInt]
        simp only [← Nat.min_def]
        rw [hlc]
        simp only [Result.andThen_ok, hsc]
      rw [this]
      refine hK R _ _ ?_
      exact (h.write hb hg hown (LR_append (LR_append (LR_take off h2) hlr) (LR_drop _ h2))).put hd ((V2_plain rfl).2 rfl)
    · rename_i hc
      obtain ⟨vs, hr, hl⟩ := evs_run h _ hr
      simp only [oneLK_some] at hr
      obtain ⟨v, t, l, rfl, hts, hr⟩ := hr
      unfold lenK at hr
      obtain ⟨i, hi, hr⟩ := oK_some.1 hr
      obtain ⟨dd, hd1, hd2, _⟩ := und_some hT hi
      obtain ⟨x0, hxs⟩ : ∃ x0, c.args.toList = [x0] := by
        have := LR_len hl
        simp at this
        match hx : c.args.toList with
        | [x0] => exact ⟨x0, rfl⟩
        | [] => rw [← Array.length_toList, hx] at this; simp at this
        | _ :: _ :: _ => rw [← Array.length_toList, hx] at this; simp at this
      rw [hxs] at hl
      simp only [List.map_cons, List.map_nil, LR, and_true] at hl
      have hargs : c.args.map a.eval = #[a.eval x0] := by
        apply Array.ext'
        simp [hxs]
      have hat : c.argTypes[0]? = some t := by rw [← Array.getElem?_toList, hts]; rfl
      have fin : ∀ m : Nat, r = val (.int .i64 ((m : Nat) : Int)) → (Builtin.len_ c.argTypes 0 #[a.eval x0]).run P w = .ok (goInt m) w → o.wp P a w K Q := by
        rintro m rfl hrun
        unfold Oper.wp
        have : (execOp a.eval o).run P w = .ok (.value (.int .i64 ((m : Nat) : Int))) w := by
          unfold Builtin.len_ at hrun
          simp only [execOp, ho, resolve, hc, Sem.run_bind, Sem.run_pure, Result.andThen_ok, invoke, builtin, hargs]
          unfold Builtin.len_
          rw [hrun]; rfl
        rw [this]
        refine hK R _ _ ?_
        have := h.put hd ((V2_plain (R := R) (v := .int .i64 ((m : Nat) : Int)) rfl).2 rfl)
        simpa [FS.apply, val, memF] using this
      obtain ⟨hst, ⟨n', e, hu, h3⟩ | ⟨e, hu, h3⟩ | ⟨_, _, h3⟩ | ⟨_, h3⟩ | ⟨hu, h3⟩⟩ := descK_some hr <;> first | (simp at h3; done) | skip
      · have := hd2 hst; subst this; rw [hu] at hd1
        refine fin n' (Option.some.inj h3).symm ?_
        simp [Builtin.len_, hat, run_underlying hd1]
      · have := hd2 hst; subst this; rw [hu] at hd1
        obtain ⟨ad, m, c', rfl, h4⟩ := slLenK_some.1 h3
        refine fin m (Option.some.inj h4).symm ?_
        have hx : ∃ ad', a.eval x0 = .slice ad' m c' := by
          cases ad with
          | none => exact ⟨none, (V2_plain (R := R) rfl).1 hl⟩
          | some ad => obtain ⟨b, _, e⟩ := (show V0 R (.slice (some ad) m c') (a.eval x0) from hl); exact ⟨_, e⟩
        obtain ⟨ad', hx⟩ := hx
        simp [Builtin.len_, hat, run_underlying hd1, hx]
      · have := hd2 hst; subst this; rw [hu] at hd1
        obtain ⟨s, rfl, h4⟩ := strK_some.1 h3
        refine fin s.size (Option.some.inj h4).symm ?_
        simp [Builtin.len_, hat, run_underlying hd1, V2_string hl]
    · simp at hr
  | buildSlice t len ps =>
    rw [ho] at hr; simp only [opS, opK, oK_some] at hr
    obtain ⟨i, hi, hr⟩ := hr
    obtain ⟨vs, hr, h1, h2⟩ := parts_run h _ hr
    obtain ⟨dd, hd1, hd2, _⟩ := und_some hT hi
    obtain ⟨hst, ⟨_, _, _, h3⟩ | ⟨e, hu, h3⟩ | ⟨_, _, h3⟩ | ⟨_, h3⟩ | ⟨_, h3⟩⟩ := descK_some hr <;> first | (simp at h3; done) | skip
    have := hd2 hst; subst this; rw [hu] at hd1
    simp only [oK_some, cond_some, Bool.and_eq_true, Bool.not_eq_true'] at h3
    obtain ⟨j, hj, ⟨⟨⟨⟨⟨⟨ht, hp⟩, hsz⟩, hs0⟩, hl0⟩, hle⟩, hid⟩, h3⟩ := h3
    have hid := Option.isNone_iff_eq_none.1 hid
    have hsz := nbeq.1 hsz
    have hle := Nat.le_of_ble_eq_true hle
    have hs0 : j.siz ≠ 0 := fun e => by rw [e] at hs0; simp at hs0
    have hl0 : len ≠ 0 := fun e => by rw [e] at hl0; simp at hl0
    have h1' : vs.map (·.1) = (ps.toList.map fun p => (p.1, a.eval p.2)).map (·.1) := by rw [h1]; simp
    have h2' : LR (V2 R) (vs.map (·.2)) ((ps.toList.map fun p => (p.1, a.eval p.2)).map (·.2)) := by rw [List.map_map]; exact h2
    have hparts : (ps.map fun (i, x) => (i, a.eval x)).toList = ps.toList.map fun p => (p.1, a.eval p.2) := by simp
    have hz : j.zer.cells.size = j.siz := by rw [← Array.length_toList]; exact hsz
    obtain ⟨cs, cs', h4, h5, h6⟩ := fill_run (place' := fun m => some (m * j.siz, j.siz)) (fun _ _ h => h) vs _ h1' h2' _ (repL len j.zer.cells.toList).toArray (by rw [List.toList_toArray]; exact LR_rep (plain_cells hp ht) len) h3
    cases h4
    unfold Oper.wp
    have : (execOp a.eval o).run P w = .ok (.value (.slice (some ⟨w.heap.size, 0, none⟩) len len)) (w.alloc (.cells cs' e)) := by
      have hne : len * j.siz ≠ 0 := Nat.mul_ne_zero hl0 hs0
      have hr0 := repL_range (z := j.zer.cells) (n := len) (by rw [hz]; exact hs0)
      rw [hz] at hr0
      simp only [execOp, ho, Instr.buildSlice, Sem.run_bind, run_underlying hd1, Result.andThen_ok, run_size hT hj, hparts]
      rw [if_neg (by omega)]
      simp only [Sem.run_pure, Result.andThen_ok, if_neg hne, Sem.run_bind, run_zero hT hj, hz, hr0, h5, newRow, newObj]
      simp [Sem.run]
    rw [this]
    refine hK (fun i b => R i b ∨ (i = id ∧ b = w.heap.size)) _ _ ?_
    exact (h.alloc hid h6).put hd ⟨_, .inr ⟨rfl, rfl⟩, rfl⟩
  | _ => exact quiet (sound_quiet hT h hr (by simp [ho]) (by simp [ho]) (by simp [ho]) (by simp [ho]) (by simp [ho]))

end
end Go.W
