/-
  The engine, part 5: the operations without memory of their own, one by one; loads.
-/
import Derived.Test.YtdhbnidobpkkfaaW4
import Derived.Laws.Small
namespace Go.W

theorem addr_add (b off n : Nat) : (⟨b, off, none⟩ : Addr).add n = ⟨b, off + n, none⟩ := by
  unfold Addr.add; split
  · rename_i h; subst h; rfl
  · rfl

theorem cell_at {w : World} {b : Nat} {cs : Array Value} {e : TypeId} {fz : Nat × Nat} (h : w.heap[b]? = some (.cells cs e fz)) (off : Nat) : w.cell? ⟨b, off, none⟩ = cs[off]? := by
  simp [World.cell?, h]

theorem run_loadCells {P : Program} {w : World} {b : Nat} {cs : Array Value} {e : TypeId} {fz : Nat × Nat} (h : w.heap[b]? = some (.cells cs e fz)) (off : Nat) :
    ∀ (n i : Nat) (acc : Array Value), off + i + n ≤ cs.size → (loadCellsFrom ⟨b, off, none⟩ i n acc).run P w = .ok (acc ++ ((cs.toList.drop (off + i)).take n).toArray) w
  | 0, i, acc, _ => by simp [loadCellsFrom]
  | n + 1, i, acc, hn => by
    have hlt : off + i < cs.toList.length := by simp; omega
    have hc : w.cell? ((⟨b, off, none⟩ : Addr).add i) = some cs.toList[off + i] := by
      rw [addr_add, cell_at h, ← Array.getElem?_toList, List.getElem?_eq_getElem hlt]
    simp only [loadCellsFrom, Sem.run_bind, run_load, hc, Result.andThen_ok]
    rw [run_loadCells h off n (i + 1) _ (by omega), List.drop_eq_getElem_cons hlt]
    congr 1
    apply Array.ext'
    simp [Nat.add_assoc]

section
variable {P : Program} {T : Tab} {G : Sums} {w0 w : World} {n : Nat} {R : Nat → Nat → Prop} {S : FS} {a : Act}

theorem Rel.block (h : Rel w0 n R S a w) {i b : Nat} {blk : Blk} (hi : S.fm i = some blk) (hb : R i b) :
    ∃ cs fz, w.heap[b]? = some (.cells cs blk.elem fz) ∧ LR (V0 R) blk.cells cs.toList ∧ (blk.own = true → fz = (0, 0) ∧ w0.heap.size ≤ b) := by
  obtain ⟨b', cs, fz, h1, h2, h3, h4⟩ := h.mem i blk hi
  have := h.func _ _ _ hb h1; subst this
  exact ⟨cs, fz, h2, h3, h4⟩

theorem sound_load (hT : TabOk P T) (h : Rel w0 n R S a w) {o : Oper} {t : Nat} {x : Operand} (ho : o.op = .load t x) {id : Nat} {r : Res} (hr : opS T G id o.op (evF S.fs) S.fm = some r) : PR P R a w o r := by
  rw [ho] at hr
  simp only [opS, opK, oK_some, ptrK_some] at hr
  obtain ⟨v, hv, b, off, rfl, blk, hb, i, hi, hr⟩ := hr
  obtain ⟨b', hb', hev⟩ := V2_ptr (h.ev hv)
  obtain ⟨cs, fz, h1, h2, _⟩ := h.block hb hb'
  unfold partK at hr
  have e1 : (execOp a.eval o).run P w = ((loadVar t ⟨b', off, none⟩).run P w).andThen fun v w' => .ok (.value v) w' := by
    simp only [execOp, ho, hev, Instr.loadAt, Instr.sureAddr, Sem.run_bind, Sem.run_pure, Result.andThen_ok]
  cases hA : isAggT i with
  | true =>
    simp only [hA, cond_true] at hr
    obtain ⟨h3, h4⟩ := cond_some.1 hr
    cases h4
    have hle := Nat.le_of_ble_eq_true h3
    rw [LR_len h2] at hle
    refine ⟨rfl, rfl, .agg ((cs.toList.drop off).take i.siz).toArray, ?_, _, rfl, by simpa using LR_take i.siz (LR_drop off h2)⟩
    rw [e1]
    simp only [loadVar, Sem.run_bind, run_agg hT hi, Result.andThen_ok, hA, if_true, run_size hT hi, loadCells]
    rw [run_loadCells h1 off i.siz 0 #[] (by simpa using hle)]
    simp
  | false =>
    simp only [hA, cond_false] at hr
    obtain ⟨v, h3, h4⟩ := oK_some.1 hr
    cases h4
    obtain ⟨v', h5, h6⟩ := LR_get h2 h3
    refine ⟨rfl, rfl, v', ?_, V2_of_V0 h6⟩
    rw [e1]
    have hc : w.cell? ⟨b', off, none⟩ = some v' := by rw [cell_at h1, ← Array.getElem?_toList, h5]
    simp [loadVar, run_agg hT hi, hA, hc]

theorem sound_indexAddr (hT : TabOk P T) (h : Rel w0 n R S a w) {o : Oper} {t : Nat} {x ix : Operand} (ho : o.op = .indexAddr t x ix) {id : Nat} {r : Res} (hr : opS T G id o.op (evF S.fs) S.fm = some r) : PR P R a w o r := by
  rw [ho] at hr
  simp only [opS, opK, oK_some, intK_some] at hr
  obtain ⟨vx, hx, vi, hvi, kd, m, rfl, i, hi, hr⟩ := hr
  have hm := V2_int (h.ev hvi)
  obtain ⟨d, hd1, hd2, _⟩ := und_some hT hi
  obtain ⟨hst, ⟨len, e, hu, h2⟩ | ⟨e, hu, h2⟩ | ⟨_, _, h2⟩ | ⟨_, h2⟩ | ⟨_, h2⟩⟩ := descK_some hr <;> first | (simp at h2; done) | skip
  all_goals have := hd2 hst; subst this; rw [hu] at hd1
  · simp only [ptrK_some, oK_some, cond_some] at h2
    obtain ⟨b, off, rfl, j, hj, hin, h3⟩ := h2
    cases h3
    obtain ⟨b', hb', hev⟩ := V2_ptr (h.ev hx)
    refine PR.mk (v' := .pointer (some ⟨b', off + m.toNat * j.siz, none⟩)) ?_ ⟨b', hb', rfl⟩
    have hin' : 0 ≤ m ∧ m < (len : Int) := by simpa [inR] using hin
    simp [execOp, ho, hm, hev, Instr.indexAt, asIntOf, Instr.sureAddr, run_underlying hd1, hin', run_size hT hj, addr_add]
  · simp only [sliceK_some, oK_some, cond_some] at h2
    obtain ⟨b, off, len, c, rfl, j, hj, hin, h3⟩ := h2
    cases h3
    obtain ⟨b', hb', hev⟩ := V2_slice (h.ev hx)
    refine PR.mk (v' := .pointer (some ⟨b', off + m.toNat * j.siz, none⟩)) ?_ ⟨b', hb', rfl⟩
    have hin' : 0 ≤ m ∧ m < (len : Int) := by simpa [inR] using hin
    simp [execOp, ho, hm, hev, Instr.indexAt, asIntOf, run_underlying hd1, hin', run_size hT hj, addr_add]

theorem fields_at (hT : TabOk P T) {t : Nat} {i : TInf} (hi : look T t = some i) (hst : i.st = true) {m : Nat} {fl : Nat × Nat} (hf : i.flds[m]? = some fl) :
    ∃ fs f, P.underlying t = some (.struct fs) ∧ fs[m]? = some f ∧ f.offset = fl.1 ∧ f.type = fl.2 := by
  obtain ⟨d, hd1, _, hd2⟩ := und_some hT hi
  obtain ⟨fs, rfl, he⟩ := hd2 hst
  rw [← he, List.getElem?_map] at hf
  obtain ⟨f, h1, h2⟩ := Option.map_eq_some_iff.1 hf
  exact ⟨fs, f, hd1, by rw [← Array.getElem?_toList]; exact h1, by rw [← h2], by rw [← h2]⟩

theorem sound_fieldAddr (hT : TabOk P T) (h : Rel w0 n R S a w) {o : Oper} {t m : Nat} {x : Operand} (ho : o.op = .fieldAddr t x m) {id : Nat} {r : Res} (hr : opS T G id o.op (evF S.fs) S.fm = some r) : PR P R a w o r := by
  rw [ho] at hr
  simp only [opS, opK, oK_some, ptrK_some, cond_some, cond_none] at hr
  obtain ⟨vx, hx, b, off, rfl, i, hi, hst, fl, hf, j, hj, hz, hr⟩ := hr
  cases hr
  obtain ⟨b', hb', hev⟩ := V2_ptr (h.ev hx)
  obtain ⟨fs, f, h1, h2, h3, h4⟩ := fields_at hT hi hst hf
  refine PR.mk (v' := .pointer (some ⟨b', off + fl.1, none⟩)) ?_ ⟨b', hb', rfl⟩
  have hs : (sizeOf f.type).run P w = .ok j.siz w := by rw [h4]; exact run_size hT hj w
  have hz' : j.siz ≠ 0 := fun e => by rw [e] at hz; simp at hz
  simp [execOp, ho, hev, Instr.fieldAt, Instr.sureAddr, run_underlying h1, h2, fieldPlace, hs, hz', h3, addr_add]

theorem sound_field (hT : TabOk P T) (h : Rel w0 n R S a w) {o : Oper} {t m : Nat} {x : Operand} (ho : o.op = .field t x m) {id : Nat} {r : Res} (hr : opS T G id o.op (evF S.fs) S.fm = some r) : PR P R a w o r := by
  rw [ho] at hr
  simp only [opS, opK, oK_some, aggK_some, cond_some] at hr
  obtain ⟨vx, hx, cs, rfl, i, hi, hst, fl, hf, j, hj, hr⟩ := hr
  obtain ⟨cs', hev, hl⟩ := V2_agg (h.ev hx)
  obtain ⟨fs, f, h1, h2, h3, h4⟩ := fields_at hT hi hst hf
  obtain ⟨v, v', h5, h6, h7⟩ := part_run hT hj hl hr w
  cases h5
  refine PR.mk (v' := v') ?_ (V2_of_V1 h7)
  rw [← h3, ← h4] at h6
  simp only [Array.toArray_toList] at h6
  simp [execOp, ho, hev, Instr.field, run_underlying h1, h2, asAgg, h6]

theorem sound_index (hT : TabOk P T) (h : Rel w0 n R S a w) {o : Oper} {t : Nat} {x ix : Operand} (ho : o.op = .index t x ix) {id : Nat} {r : Res} (hr : opS T G id o.op (evF S.fs) S.fm = some r) : PR P R a w o r := by
  rw [ho] at hr
  simp only [opS, opK, oK_some, intK_some] at hr
  obtain ⟨vx, hx, vi, hvi, kd, m, rfl, i, hi, hr⟩ := hr
  have hm := V2_int (h.ev hvi)
  obtain ⟨d, hd1, hd2, _⟩ := und_some hT hi
  obtain ⟨hst, ⟨len, e, hu, h2⟩ | ⟨_, _, h2⟩ | ⟨_, _, h2⟩ | ⟨_, h2⟩ | ⟨hu, h2⟩⟩ := descK_some hr <;> first | (simp at h2; done) | skip
  all_goals have := hd2 hst; subst this; rw [hu] at hd1
  · simp only [aggK_some, oK_some, cond_some] at h2
    obtain ⟨cs, rfl, j, hj, hin, h3⟩ := h2
    obtain ⟨cs', hev, hl⟩ := V2_agg (h.ev hx)
    obtain ⟨v, v', h5, h6, h7⟩ := part_run hT hj hl h3 w
    cases h5
    refine PR.mk (v' := v') ?_ (V2_of_V1 h7)
    have hin' : 0 ≤ m ∧ m < (len : Int) := by simpa [inR] using hin
    simp only [Array.toArray_toList] at h6
    simp [execOp, ho, hm, hev, Instr.index, asIntOf, run_underlying hd1, hin', run_size hT hj, h6]
  · simp only [strK_some, cond_some] at h2
    obtain ⟨s, rfl, hin, h3⟩ := h2
    cases h3
    have hev := V2_string (h.ev hx)
    have hin' : 0 ≤ m ∧ m < (s.size : Int) := by simpa [inR] using hin
    refine PR.mk (v' := .int .u8 ((s.data.toList.getD m.toNat 0).toNat : Int)) ?_ ((V2_plain rfl).2 rfl)
    have hlt : m.toNat < s.size := by omega
    have hs : s[m.toNat]? = some (s.data.toList.getD m.toNat 0) := by
      have h1 : m.toNat < s.data.size := hlt
      rw [getElem?_pos s m.toNat hlt]
      congr 1
      simp only [List.getD_eq_getElem?_getD, Array.getElem?_toList]
      rw [Array.getElem?_eq_getElem h1]
      rfl
    simp [execOp, ho, hm, hev, Instr.index, asIntOf, run_underlying hd1, hin'.1, hs]

theorem sound_extract (h : Rel w0 n R S a w) {o : Oper} {m : Nat} {x : Operand} (ho : o.op = .extract x m) {id : Nat} {r : Res} (hr : opS T G id o.op (evF S.fs) S.fm = some r) : PR P R a w o r := by
  rw [ho] at hr
  simp only [opS, opK, oK_some, tupK_some, cond_some] at hr
  obtain ⟨vx, hx, cs, rfl, v, hv, _, hr⟩ := hr
  cases hr
  obtain ⟨cs', hev, hl⟩ := V2_tuple (h.ev hx)
  obtain ⟨v', h1, h2⟩ := LR_get hl hv
  refine PR.mk (v' := v') ?_ (V2_of_V1 h2)
  rw [Array.getElem?_toList] at h1
  simp [execOp, ho, hev, Instr.extract, h1]

theorem sound_pick (h : Rel w0 n R S a w) {o : Oper} {c x y : Operand} (ho : o.op = .pick c x y) {id : Nat} {r : Res} (hr : opS T G id o.op (evF S.fs) S.fm = some r) : PR P R a w o r := by
  rw [ho] at hr
  simp only [opS, opK, oK_some, boolK_some] at hr
  obtain ⟨vc, hc, b, rfl, hr⟩ := hr
  have hev := V2_bool (h.ev hc)
  cases b with
  | true =>
    obtain ⟨v, hv, hr⟩ := oK_some.1 hr
    cases hr
    exact PR.mk (v' := a.eval x) (by simp [execOp, ho, hev, asBool]) (h.ev hv)
  | false =>
    obtain ⟨v, hv, hr⟩ := oK_some.1 hr
    cases hr
    exact PR.mk (v' := a.eval y) (by simp [execOp, ho, hev, asBool]) (h.ev hv)

theorem eqOpK_some {op : BinOp} {b : Bool} {k : Value → Option Res} {r : Res} (h : eqOpK op b k none = some r) : (op = .eql ∧ k (.bool b) = some r) ∨ (op = .neq ∧ k (.bool (!b)) = some r) := by
  cases op <;> simp [eqOpK] at h <;> simp [h]

theorem binK_some {op : BinOp} {t : Nat} {x y : Value} {k : Value → Option Res} {r : Res} (h : binK T op t x y k none = some r) :
    (∃ kx m ky l, x = .int kx m ∧ y = .int ky l ∧ binI op kx m ky l k none = some r) ∨
    (∃ b c, x = .bool b ∧ y = .bool c ∧ (oK (look T t) (fun i => descK i (fun _ _ => none) (fun _ => none) (fun _ => none) (eqOpK op (b == c) k none) none none) none) = some r) ∨
    (∃ xs ys, x = .agg xs ∧ y = .agg ys ∧ eqA T t xs.toList ys.toList (fun b => eqOpK op b k none) none = some r) := by
  unfold binK at h
  cases x <;> simp only [intK, boolK, aggK] at h <;> first | (simp at h; done) | skip
  case int kx m => cases y <;> simp only at h <;> first | (simp at h; done) | exact .inl ⟨_, _, _, _, rfl, rfl, h⟩
  case bool b => cases y <;> simp only at h <;> first | (simp at h; done) | exact .inr (.inl ⟨_, _, rfl, rfl, h⟩)
  case agg xs => cases y <;> simp only at h <;> first | (simp at h; done) | exact .inr (.inr ⟨_, _, rfl, rfl, h⟩)

theorem sound_binOp (hT : TabOk P T) (h : Rel w0 n R S a w) {o : Oper} {op : BinOp} {t u : Nat} {x y : Operand} (ho : o.op = .binOp op t x y u) {id : Nat} {r : Res} (hr : opS T G id o.op (evF S.fs) S.fm = some r) : PR P R a w o r := by
  rw [ho] at hr
  simp only [opS, opK, oK_some] at hr
  obtain ⟨vx, hx, vy, hy, hr⟩ := hr
  rcases binK_some hr with ⟨kx, m, ky, l, rfl, rfl, h1⟩ | ⟨b, c, rfl, rfl, h1⟩ | ⟨xs, ys, rfl, rfl, h1⟩
  · have e1 := V2_int (h.ev hx)
    have e2 := V2_int (h.ev hy)
    obtain ⟨v, h2, h3, h4⟩ := binI_run (P := P) (R := R) h1 t w
    cases h2
    exact PR.mk (v' := v) (by simp [execOp, ho, e1, e2, eqGuard_int, h3]) h4
  · have e1 := V2_bool (h.ev hx)
    have e2 := V2_bool (h.ev hy)
    obtain ⟨i, hi, h2⟩ := oK_some.1 h1
    obtain ⟨d, hd1, hd2, _⟩ := und_some hT hi
    obtain ⟨hst, ⟨_, _, _, h3⟩ | ⟨_, _, h3⟩ | ⟨_, _, h3⟩ | ⟨hu, h3⟩ | ⟨_, h3⟩⟩ := descK_some h2 <;> first | (simp at h3; done) | skip
    have := hd2 hst; subst this; rw [hu] at hd1
    have he : (Op.equal t (.bool b) (.bool c)).run P w = .ok (b == c) w := run_equal_bool w t b c hd1
    rcases eqOpK_some h3 with ⟨rfl, h4⟩ | ⟨rfl, h4⟩
    · cases h4; exact PR.mk (v' := .bool (b == c)) (by simp [execOp, ho, e1, e2, eqGuard_bool, binOp, he]) ((V2_plain rfl).2 rfl)
    · cases h4; exact PR.mk (v' := .bool (!(b == c))) (by simp [execOp, ho, e1, e2, eqGuard_bool, binOp, he]) ((V2_plain rfl).2 rfl)
  · obtain ⟨xs', e1, l1⟩ := V2_agg (h.ev hx)
    obtain ⟨ys', e2, l2⟩ := V2_agg (h.ev hy)
    obtain ⟨b, h2, h3, h4, kd, h5, h6⟩ := eqA_run hT h1 w
    have := Array.toList_inj.1 (LR_ints l1 h5); subst this
    have := Array.toList_inj.1 (LR_ints l2 h6); subst this
    rcases eqOpK_some h2 with ⟨rfl, h7⟩ | ⟨rfl, h7⟩
    · cases h7; exact PR.mk (v' := .bool b) (by simp [execOp, ho, e1, e2, eqGuard_agg h4, binOp, h3]) ((V2_plain rfl).2 rfl)
    · cases h7; exact PR.mk (v' := .bool (!b)) (by simp [execOp, ho, e1, e2, eqGuard_agg h4, binOp, h3]) ((V2_plain rfl).2 rfl)

theorem sound_unOp (h : Rel w0 n R S a w) {o : Oper} {op : UnOp} {t : Nat} {x : Operand} (ho : o.op = .unOp op t x) {id : Nat} {r : Res} (hr : opS T G id o.op (evF S.fs) S.fm = some r) : PR P R a w o r := by
  rw [ho] at hr
  simp only [opS, opK, oK_some] at hr
  obtain ⟨vx, hx, hr⟩ := hr
  have hev := h.ev hx
  cases vx <;> simp only [unK, intK, boolK] at hr <;> first | (simp at hr; done) | skip
  · have hev := V2_bool hev
    cases op <;> simp only [unB] at hr <;> first | (simp at hr; done) | skip
    cases hr; exact PR.mk (v' := .bool _) (by simp [execOp, ho, hev, Op.unary]) ((V2_plain rfl).2 rfl)
  · have hev := V2_int hev
    cases op <;> simp only [unI] at hr <;> first | (simp at hr; done) | skip
    cases hr; exact PR.mk (v' := .int _ _) (by simp only [execOp, ho, hev, Op.unary, Op.intArith, Sem.run_bind, Sem.run_pure, Result.andThen_ok]) ((V2_plain rfl).2 rfl)

theorem sound_convert (hT : TabOk P T) (h : Rel w0 n R S a w) {o : Oper} {s d : Nat} {x : Operand} (ho : o.op = .convert s d x) {id : Nat} {r : Res} (hr : opS T G id o.op (evF S.fs) S.fm = some r) : PR P R a w o r := by
  rw [ho] at hr
  simp only [opS, opK, oK_some, intK_some] at hr
  obtain ⟨vx, hx, i, hi, j, hj, kx, m, rfl, hr⟩ := hr
  have hev := V2_int (h.ev hx)
  obtain ⟨d1, hd1, _, _⟩ := und_some hT hi
  obtain ⟨d2, hd2, hd3, _⟩ := und_some hT hj
  obtain ⟨hst, ⟨_, _, _, h3⟩ | ⟨_, _, h3⟩ | ⟨kd, hu, h3⟩ | ⟨_, h3⟩ | ⟨_, h3⟩⟩ := descK_some hr <;> first | (simp at h3; done) | skip
  have := hd3 hst; subst this; rw [hu] at hd2
  cases h3
  refine PR.mk (v' := .int kd (kd.wrap m)) ?_ ((V2_plain rfl).2 rfl)
  simp only [execOp, ho, hev, convert, Sem.run_bind, run_underlying hd1, run_underlying hd2, Result.andThen_ok]
  cases d1 <;> simp [Conv.intToInt]

end
end Go.W
