/-
  Several texts in one.
-/
import Derived.Test.YtafeeiodgfgepaaGreatDoorEa
import Derived.Laws.Concat
import Derived.Laws.BytesString
import Derived.Laws.MakeOwn
import Derived.Lib.ConvBytes
/-
  The engine, part 5: the operations without memory of their own, one by one; loads.
-/
namespace Go.W
section
variable {P : Program} {T : Tab} {G : Sums} {GL : Glob} {w0 : Wb GL} {w : World} {n : Nat} {R : Nat → Pl → Prop} {S : FS} {a : Act}
theorem load_run (hT : TabOk P T) {fm : Nat → Option Blk} (h : MRel w0 R fm w) {t b off : Nat} {p : Pl} {b' : Nat} (hp : R b p) (hpa : p.a = some b') {r : Res} (hr : loadK T t fm b off some none = some r) :
    r.mem = [] ∧ ∃ v', (loadVar t ⟨b', p.d + off, none⟩).run P w = .ok v' w ∧ V2 R r.val v' := by
  unfold loadK at hr
  simp only [oK_some] at hr
  obtain ⟨blk, hb, i, hi, hr⟩ := hr
  have acc : accK fm b (fun A => partK i A.cells off (fun v => some (⟨v, [], A.rd⟩ : Res)) none) none = some r → r.mem = [] ∧ ∃ v', (loadVar t ⟨b', p.d + off, none⟩).run P w = .ok v' w ∧ V2 R r.val v' := by
    intro hr
    obtain ⟨A, hA, hr⟩ := accK_some.1 hr
    have hok := acc_ok h hA hp hpa
    unfold partK at hr
    cases hg : isAggT i with
    | true =>
      simp only [hg, cond_true] at hr
      obtain ⟨h3, h4⟩ := cond_some.1 hr
      cases h4
      have hle := Nat.le_of_ble_eq_true h3
      rcases hok with h0 | ⟨cs, e, fz, h1, h2, _⟩
      · rw [h0] at hle ⊢
        have hz : i.siz = 0 := by simp at hle; omega
        refine ⟨rfl, .agg #[], ?_, _, rfl, by simp [hz, LR]⟩
        simp [loadVar, run_agg hT hi, hg, run_size hT hi, loadCells, hz, loadCellsFrom]
      · have hl2 := LP_le h2
        refine ⟨rfl, .agg ((cs.toList.drop (p.d + off)).take i.siz).toArray, ?_, _, rfl, ?_⟩
        · simp only [loadVar, Sem.run_bind, run_agg hT hi, Result.andThen_ok, hg, if_true, run_size hT hi]
          rw [run_loads h1 (by rw [List.length_drop] at hl2 ⊢; omega)]; rfl
        · have := LP_part h2 hle
          rw [List.drop_drop] at this
          simpa using this
    | false =>
      simp only [hg, cond_false] at hr
      obtain ⟨v, h3, h4⟩ := oK_some.1 hr
      cases h4
      rcases hok with h0 | ⟨cs, e, fz, h1, h2, _⟩
      · rw [h0] at h3; simp at h3
      · obtain ⟨v', h5, h6⟩ := LP_get h2 h3
        refine ⟨rfl, v', ?_, V2_of_V0 h6⟩
        have hc : w.cell? ⟨b', p.d + off, none⟩ = some v' := by
          rw [cell_at h1, ← Array.getElem?_toList]
          rw [List.getElem?_drop] at h5; exact h5
        simp [loadVar, run_agg hT hi, hg, hc]
  split at hr
  · exact acc hr
  · exact acc hr
  · cases hg : isAggT i <;> simp only [hg, cond_true, cond_false] at hr
    · obtain ⟨s, c, h1, h2, h3, h4⟩ := cellK_some.1 hr
      cases h4
      have hc := seg_cell h h1 h2 hp hpa h3
      refine ⟨rfl, _, ?_, V2_of_V0 ((V0_plain (nrm1_pl _ _)).2 rfl)⟩
      simp [loadVar, run_agg hT hi, hg, hc]
    · exact acc hr
theorem sound_load (hT : TabOk P T) (h : Rel w0 n R S a w) {o : Oper} {t : Nat} {x : Operand} (ho : o.op = .load t x) {r : Res} {b off : Nat} (hv : evF S.fs x = some (.pointer (some ⟨b, off, none⟩))) (hr : loadK T t S.fm b off some none = some r) : PR P R a w o r := by
  obtain ⟨p, b', hp, hpa, hev⟩ := V2_ptr (h.ev hv)
  obtain ⟨h1, v', h2, h3⟩ := load_run hT h.m hp hpa hr
  refine ⟨h1, v', ?_, h3⟩
  simp only [execOp, ho, hev, Instr.loadAt, Instr.sureAddr, Sem.run_bind, Sem.run_pure, Result.andThen_ok, h2]
theorem tl_ok (h : MRel w0 R S.fm w) {b l cnt sz b2 l2 : Nat} {p q : Pl} (hp : R b p) (ht : tlS S.fm b l cnt sz = some (b2, l2)) (hq : cnt = 0 ∨ (q.a = p.a ∧ q.d = p.d + l * sz ∧ q.c + l ≤ p.c)) :
    ∃ p2, R b2 p2 ∧ (cnt = 0 ∨ (q.a = p2.a ∧ q.d = p2.d + l2 * sz ∧ q.c + l2 ≤ p2.c)) := by
  unfold tlS tlK at ht
  obtain ⟨blk, hb, ht⟩ := oK_some.1 ht
  obtain ⟨cells, elem, own⟩ := blk
  simp only at ht
  split at ht
  · rename_i i l0 cnt0 sz0
    obtain ⟨hc, ht⟩ := cond_some.1 ht
    simp only [Bool.and_eq_true] at hc
    have e1 := nbeq.1 hc.1
    have e2 := Nat.le_of_ble_eq_true hc.2
    simp only [Option.some.injEq, Prod.mk.injEq] at ht
    obtain ⟨rfl, rfl⟩ := ht
    obtain ⟨p2, q2, k1, k2, k3, _⟩ : ∃ p q, R i p ∧ R b q ∧ (cnt0 = 0 ∨ (q.a = p.a ∧ q.d = p.d + l0 * sz0 ∧ q.c + l0 ≤ p.c)) ∧ own = false := h.mem b _ hb
    have := h.func _ _ _ hp k2; subst this
    refine ⟨p2, k1, ?_⟩
    rcases hq with hq | ⟨a1, a2, a5⟩
    · exact .inl hq
    · rcases k3 with k3 | ⟨a3, a4, a6⟩
      · exact .inl (by omega)
      · exact .inr ⟨a1.trans a3, by rw [a2, a4, e1, Nat.add_mul, Nat.add_assoc], by omega⟩
  · simp only [Option.some.injEq, Prod.mk.injEq] at ht
    obtain ⟨rfl, rfl⟩ := ht
    exact ⟨p, hp, hq⟩
theorem sound_indexAddr (hT : TabOk P T) (h : Rel w0 n R S a w) {o : Oper} {t : Nat} {x ix : Operand} (ho : o.op = .indexAddr t x ix) (hng : ¬ ∃ g, x = .global g) {id : Nat} {r : Res} (hr : opS T G id o.op (evF S.fs) S.fm = some r) :
    PR P R a w o r ∨ ∃ b k sz e q b' rd, S.fm id = none ∧ id < 60000 ∧ r = ⟨.pointer (some ⟨id, 0, none⟩), [(id, ⟨.elt b k sz, e, false⟩)], rd⟩ ∧ R b q ∧ q.a = some b' ∧ (execOp a.eval o).run P w = .ok (.value (.pointer (some ⟨b', q.d + k * sz, none⟩))) w := by
  rw [ho] at hr
  simp only [opS, opK] at hr
  rw [(glb_cases x).resolve_left hng] at hr
  simp only [oK_some, intK_some] at hr
  obtain ⟨vx, hx, vi, hvi, kd, m, rfl, i, hi, hr⟩ := hr
  have hm := V2_int (h.ev hvi)
  obtain ⟨d, hd1, hd2, _⟩ := und_some hT hi
  obtain ⟨hst, ⟨len, e, hu, h2⟩ | ⟨e, hu, h2⟩ | ⟨_, _, h2⟩ | ⟨_, h2⟩ | ⟨_, h2⟩⟩ := descK_some hr <;> first | (simp at h2; done) | skip
  all_goals have := hd2 hst; subst this; rw [hu] at hd1
  · simp only [ptrK_some, oK_some, cond_some] at h2
    obtain ⟨b, off, rfl, j, hj, hin, h3⟩ := h2
    cases h3
    obtain ⟨p, b', hp, hpa, hev⟩ := V2_ptr (h.ev hx)
    refine .inl (PR.mk (v' := .pointer (some ⟨b', p.d + (off + m.toNat * j.siz), none⟩)) ?_ ⟨p, b', hp, hpa, rfl⟩)
    have hin' : 0 ≤ m ∧ m < (len : Int) := by simpa [inR] using hin
    simp [execOp, ho, hm, hev, Instr.indexAt, asIntOf, Instr.sureAddr, run_underlying hd1, hin', run_size hT hj, addr_add, Nat.add_assoc]
  · simp only [sliceK_some, oK_some, cond_some] at h2
    obtain ⟨b, off, len, c, rfl, j, hj, hin, h3⟩ := h2
    have hin' : 0 ≤ m ∧ m < (len : Int) := by simpa [inR] using hin
    obtain ⟨p, hp, hsl⟩ := V2_slice (h.ev hx)
    obtain ⟨b', c', hpa, hev⟩ := SlOk_some hsl (by omega)
    have hrun : (execOp a.eval o).run P w = .ok (.value (.pointer (some ⟨b', p.d + (off + m.toNat * j.siz), none⟩))) w := by
      simp [execOp, ho, hm, hev, Instr.indexAt, asIntOf, run_underlying hd1, hin', run_size hT hj, addr_add, Nat.add_assoc]
    cases hlo : loose b with
    | false =>
      simp only [hlo, cond_false] at h3
      cases h3
      exact .inl (PR.mk (v' := .pointer (some ⟨b', p.d + (off + m.toNat * j.siz), none⟩)) hrun ⟨p, b', hp, hpa, rfl⟩)
    | true =>
      rw [hlo, cond_true] at h3
      have view : ∀ rd, (bif (S.fm id).isNone && Nat.blt id 60000 then some (⟨.pointer (some ⟨id, 0, none⟩), [(id, ⟨.elt b m.toNat j.siz, e, false⟩)], rd⟩ : Res) else none) = some r →
          ∃ b k sz e q b' rd, S.fm id = none ∧ id < 60000 ∧ r = ⟨.pointer (some ⟨id, 0, none⟩), [(id, ⟨.elt b k sz, e, false⟩)], rd⟩ ∧ R b q ∧ q.a = some b' ∧ (execOp a.eval o).run P w = .ok (.value (.pointer (some ⟨b', q.d + k * sz, none⟩))) w := by
        intro rd h3
        simp only [cond_some, Bool.and_eq_true, Nat.blt_eq] at h3
        obtain ⟨⟨h4, h5⟩, h6⟩ := h3
        obtain ⟨rfl, _, _⟩ := SlOk_loose hlo hsl
        refine ⟨b, m.toNat, j.siz, e, p, b', rd, Option.isNone_iff_eq_none.1 h4, h5, (Option.some.inj h6).symm, hp, hpa, ?_⟩
        rw [Nat.zero_add] at hrun; exact hrun
      cases hel : elSl T t with
      | false => rw [hel, cond_false] at h3; exact .inr (view _ h3)
      | true =>
        rw [hel, cond_true] at h3
        cases hls : lstB S.fm b with
        | false => rw [hls, cond_false] at h3; exact .inr (view _ h3)
        | true =>
          rw [hls, cond_true] at h3
          cases h3
          exact .inl ⟨rfl, _, hrun, ⟨p, b', hp, hpa, rfl⟩⟩
theorem fields_at (hT : TabOk P T) {t : Nat} {i : TInf} (hi : look T t = some i) (hst : i.st = true) {m : Nat} {fl : Nat × Nat} (hf : i.flds[m]? = some fl) :
    ∃ fs f, P.underlying t = some (.struct fs) ∧ fs[m]? = some f ∧ f.offset = fl.1 ∧ f.type = fl.2 := by
  obtain ⟨d, hd1, _, hd2⟩ := und_some hT hi
  obtain ⟨fs, rfl, he⟩ := hd2 hst
  rw [← he, List.getElem?_map] at hf
  obtain ⟨f, h1, h2⟩ := Option.map_eq_some_iff.1 hf
  exact ⟨fs, f, hd1, by rw [← Array.getElem?_toList]; exact h1, by rw [← h2], by rw [← h2]⟩
theorem sound_fieldAddr (hT : TabOk P T) (h : Rel w0 n R S a w) {o : Oper} {t m : Nat} {x : Operand} (ho : o.op = .fieldAddr t x m) {id : Nat} {r : Res} (hr : opS T G id o.op (evF S.fs) S.fm = some r) : PR P R a w o r := by
  rw [ho] at hr
  simp only [opS, opK, oK_some, ptrK_some, cond_some, cond_none] at hr
  obtain ⟨vx, hx, b, off, rfl, i, hi, hst, fl, hf, j, hj, hz, hr⟩ := hr
  cases hr
  obtain ⟨p, b', hp, hpa, hev⟩ := V2_ptr (h.ev hx)
  obtain ⟨fs, f, h1, h2, h3, h4⟩ := fields_at hT hi hst hf
  refine PR.mk (v' := .pointer (some ⟨b', p.d + (off + fl.1), none⟩)) ?_ ⟨p, b', hp, hpa, rfl⟩
  have hs : (sizeOf f.type).run P w = .ok j.siz w := by rw [h4]; exact run_size hT hj w
  have hz' : j.siz ≠ 0 := fun e => by rw [e] at hz; simp at hz
  simp [execOp, ho, hev, Instr.fieldAt, Instr.sureAddr, run_underlying h1, h2, fieldPlace, hs, hz', h3, addr_add, Nat.add_assoc]
theorem sound_field (hT : TabOk P T) (h : Rel w0 n R S a w) {o : Oper} {t m : Nat} {x : Operand} (ho : o.op = .field t x m) {id : Nat} {r : Res} (hr : opS T G id o.op (evF S.fs) S.fm = some r) : PR P R a w o r := by
  rw [ho] at hr
  simp only [opS, opK, oK_some, aggK_some, cond_some] at hr
  obtain ⟨vx, hx, cs, rfl, i, hi, hst, fl, hf, j, hj, hr⟩ := hr
  obtain ⟨cs', hev, hl⟩ := V2_agg (h.ev hx)
  obtain ⟨fs, f, h1, h2, h3, h4⟩ := fields_at hT hi hst hf
  obtain ⟨v, v', h5, h6, h7⟩ := part_run hT hj hl hr w
  cases h5
  refine PR.mk (v' := v') ?_ (V2_of_V1 h7)
  rw [← h3, ← h4] at h6
  simp only [Array.toArray_toList] at h6
  simp [execOp, ho, hev, Instr.field, run_underlying h1, h2, asAgg, h6]
theorem sound_index (hT : TabOk P T) (h : Rel w0 n R S a w) {o : Oper} {t : Nat} {x ix : Operand} (ho : o.op = .index t x ix) {id : Nat} {r : Res} (hr : opS T G id o.op (evF S.fs) S.fm = some r) : PR P R a w o r := by
  rw [ho] at hr
  simp only [opS, opK, oK_some, intK_some] at hr
  obtain ⟨vx, hx, vi, hvi, kd, m, rfl, i, hi, hr⟩ := hr
  have hm := V2_int (h.ev hvi)
  obtain ⟨d, hd1, hd2, _⟩ := und_some hT hi
  obtain ⟨hst, ⟨len, e, hu, h2⟩ | ⟨_, _, h2⟩ | ⟨_, _, h2⟩ | ⟨_, h2⟩ | ⟨hu, h2⟩⟩ := descK_some hr <;> first | (simp at h2; done) | skip
  all_goals have := hd2 hst; subst this; rw [hu] at hd1
  · simp only [aggK_some, oK_some, cond_some] at h2
    obtain ⟨cs, rfl, j, hj, hin, h3⟩ := h2
    obtain ⟨cs', hev, hl⟩ := V2_agg (h.ev hx)
    obtain ⟨v, v', h5, h6, h7⟩ := part_run hT hj hl h3 w
    cases h5
    refine PR.mk (v' := v') ?_ (V2_of_V1 h7)
    have hin' : 0 ≤ m ∧ m < (len : Int) := by simpa [inR] using hin
    simp only [Array.toArray_toList] at h6
    simp [execOp, ho, hm, hev, Instr.index, asIntOf, run_underlying hd1, hin', run_size hT hj, h6]
  · simp only [strK_some, cond_some] at h2
    obtain ⟨s, rfl, hin, h3⟩ := h2
    cases h3
    have hev := V2_string (h.ev hx)
    have hin' : 0 ≤ m ∧ m < (s.size : Int) := by simpa [inR] using hin
    refine PR.mk (v' := .int .u8 ((s.data.toList.getD m.toNat 0).toNat : Int)) ?_ ((V2_plain rfl).2 rfl)
    have hlt : m.toNat < s.size := by omega
    have hs : s[m.toNat]? = some (s.data.toList.getD m.toNat 0) := by
      have h1 : m.toNat < s.data.size := hlt
      rw [getElem?_pos s m.toNat hlt]
      congr 1
      simp only [List.getD_eq_getElem?_getD, Array.getElem?_toList]
      rw [Array.getElem?_eq_getElem h1]
      rfl
    simp [execOp, ho, hm, hev, Instr.index, asIntOf, run_underlying hd1, hin'.1, hs]
theorem sound_extract (h : Rel w0 n R S a w) {o : Oper} {m : Nat} {x : Operand} (ho : o.op = .extract x m) {id : Nat} {r : Res} (hr : opS T G id o.op (evF S.fs) S.fm = some r) : PR P R a w o r := by
  rw [ho] at hr
  simp only [opS, opK, oK_some, tupK_some, cond_some] at hr
  obtain ⟨vx, hx, cs, rfl, v, hv, _, hr⟩ := hr
  cases hr
  obtain ⟨cs', hev, hl⟩ := V2_tuple (h.ev hx)
  obtain ⟨v', h1, h2⟩ := LR_get hl hv
  refine PR.mk (v' := v') ?_ (V2_of_V1 h2)
  rw [Array.getElem?_toList] at h1
  simp [execOp, ho, hev, Instr.extract, h1]
theorem sound_pick (h : Rel w0 n R S a w) {o : Oper} {c x y : Operand} (ho : o.op = .pick c x y) {id : Nat} {r : Res} (hr : opS T G id o.op (evF S.fs) S.fm = some r) : PR P R a w o r := by
  rw [ho] at hr
  simp only [opS, opK, oK_some, boolK_some] at hr
  obtain ⟨vc, hc, b, rfl, hr⟩ := hr
  have hev := V2_bool (h.ev hc)
  cases b with
  | true =>
    obtain ⟨v, hv, hr⟩ := oK_some.1 hr
    cases hr
    exact PR.mk (v' := a.eval x) (by simp [execOp, ho, hev, asBool]) (h.ev hv)
  | false =>
    obtain ⟨v, hv, hr⟩ := oK_some.1 hr
    cases hr
    exact PR.mk (v' := a.eval y) (by simp [execOp, ho, hev, asBool]) (h.ev hv)
theorem eqOpK_some {op : BinOp} {b : Bool} {k : Value → Option Res} {r : Res} (h : eqOpK op b k none = some r) : (op = .eql ∧ k (.bool b) = some r) ∨ (op = .neq ∧ k (.bool (!b)) = some r) := by
  cases op <;> simp [eqOpK] at h <;> simp [h]
theorem binK_some {op : BinOp} {t : Nat} {x y : Value} {k : Value → Option Res} {r : Res} (h : binK T op t x y k none = some r) :
    (∃ kx m ky l, x = .int kx m ∧ y = .int ky l ∧ binI op kx m ky l k none = some r) ∨
    (∃ b c, x = .bool b ∧ y = .bool c ∧ (oK (look T t) (fun i => descK i (fun _ _ => none) (fun _ => none) (fun _ => none) (eqOpK op (b == c) k none) none none) none) = some r) ∨
    (∃ xs ys, x = .agg xs ∧ y = .agg ys ∧ eqA T t xs.toList ys.toList (fun b => eqOpK op b k none) none = some r) ∨
    (∃ a b, x = .string a ∧ y = .string b ∧ op = .add ∧ a.size + b.size ≤ 9223372036854775807 ∧ k (.string (a ++ b)) = some r) := by
  unfold binK at h
  cases x <;> simp only [intK, boolK, aggK, strK] at h <;> first | (simp at h; done) | skip
  case int kx m => cases y <;> simp only at h <;> first | (simp at h; done) | exact .inl ⟨_, _, _, _, rfl, rfl, h⟩
  case bool b => cases y <;> simp only at h <;> first | (simp at h; done) | exact .inr (.inl ⟨_, _, rfl, rfl, h⟩)
  case agg xs => cases y <;> simp only at h <;> first | (simp at h; done) | exact .inr (.inr (.inl ⟨_, _, rfl, rfl, h⟩))
  case string a =>
    cases y <;> simp only at h <;> first | (simp at h; done) | skip
    rename_i b
    unfold addTx at h
    split at h
    · obtain ⟨h1, h2⟩ := cond_some.1 h
      exact .inr (.inr (.inr ⟨a, b, rfl, rfl, rfl, Nat.le_of_ble_eq_true h1, h2⟩))
    · simp at h
theorem sound_binOp (hT : TabOk P T) (h : Rel w0 n R S a w) {o : Oper} {op : BinOp} {t u : Nat} {x y : Operand} (ho : o.op = .binOp op t x y u) {id : Nat} {r : Res} (hr : opS T G id o.op (evF S.fs) S.fm = some r) : PR P R a w o r := by
  rw [ho] at hr
  simp only [opS, opK, oK_some] at hr
  obtain ⟨vx, hx, vy, hy, hr⟩ := hr
  rcases binK_some hr with ⟨kx, m, ky, l, rfl, rfl, h1⟩ | ⟨b, c, rfl, rfl, h1⟩ | ⟨xs, ys, rfl, rfl, h1⟩ | ⟨b, c, rfl, rfl, rfl, h1, h2⟩
  · have e1 := V2_int (h.ev hx)
    have e2 := V2_int (h.ev hy)
    obtain ⟨v, h2, h3, h4⟩ := binI_run (P := P) (R := R) h1 t w
    cases h2
    exact PR.mk (v' := v) (by simp [execOp, ho, e1, e2, eqGuard_int, h3]) h4
  · have e1 := V2_bool (h.ev hx)
    have e2 := V2_bool (h.ev hy)
    obtain ⟨i, hi, h2⟩ := oK_some.1 h1
    obtain ⟨d, hd1, hd2, _⟩ := und_some hT hi
    obtain ⟨hst, ⟨_, _, _, h3⟩ | ⟨_, _, h3⟩ | ⟨_, _, h3⟩ | ⟨hu, h3⟩ | ⟨_, h3⟩⟩ := descK_some h2 <;> first | (simp at h3; done) | skip
    have := hd2 hst; subst this; rw [hu] at hd1
    have he : (Op.equal t (.bool b) (.bool c)).run P w = .ok (b == c) w := run_equal_bool w t b c hd1
    rcases eqOpK_some h3 with ⟨rfl, h4⟩ | ⟨rfl, h4⟩
    · cases h4; exact PR.mk (v' := .bool (b == c)) (by simp [execOp, ho, e1, e2, eqGuard_bool, binOp, he]) ((V2_plain rfl).2 rfl)
    · cases h4; exact PR.mk (v' := .bool (!(b == c))) (by simp [execOp, ho, e1, e2, eqGuard_bool, binOp, he]) ((V2_plain rfl).2 rfl)
  · obtain ⟨xs', e1, l1⟩ := V2_agg (h.ev hx)
    obtain ⟨ys', e2, l2⟩ := V2_agg (h.ev hy)
    obtain ⟨b, h2, h3, h4, h5, h6⟩ := eqA_run hT h1 w
    have := Array.toList_inj.1 ((LR_plain (r := V0 R) (pl := pl0) (fun v v' hv => V0_plain hv) h5).1 l1); subst this
    have := Array.toList_inj.1 ((LR_plain (r := V0 R) (pl := pl0) (fun v v' hv => V0_plain hv) h6).1 l2); subst this
    rcases eqOpK_some h2 with ⟨rfl, h7⟩ | ⟨rfl, h7⟩
    · cases h7; exact PR.mk (v' := .bool b) (by simp [execOp, ho, e1, e2, eqGuard_agg h4, binOp, h3]) ((V2_plain rfl).2 rfl)
    · cases h7; exact PR.mk (v' := .bool (!b)) (by simp [execOp, ho, e1, e2, eqGuard_agg h4, binOp, h3]) ((V2_plain rfl).2 rfl)
  · have e1 := V2_string (h.ev hx)
    have e2 := V2_string (h.ev hy)
    cases h2
    have e3 : (eqGuard BinOp.add t x y (.string b) (.string c)).run P w = .ok () w := by simp [eqGuard]
    exact PR.mk (v' := .string (b ++ c)) (by simp [execOp, ho, e1, e2, e3, binOp_string_add, run_string_add_sum w b c h1]) ((V2_plain rfl).2 rfl)
theorem nsL_row (g : Nat → List Value) : ∀ (n lo : Nat), rowL [.i .u8] g lo n = (nsL g lo n).map (Value.int .u8)
  | 0, _ => rfl
  | n + 1, lo => by
    show nrmK [.i .u8] (g lo) ++ rowL [.i .u8] g (lo + 1) n = _
    rw [nsL_row g n (lo + 1)]; rfl
theorem nsL_len (g : Nat → List Value) : ∀ (n lo : Nat), (nsL g lo n).length = n
  | 0, _ => rfl
  | n + 1, lo => by simp [nsL, nsL_len g n (lo + 1)]
theorem sound_toArr (hT : TabOk P T) (h : Rel w0 n R S a w) {o : Oper} {t : Nat} {x : Operand} (ho : o.op = .sliceToArrayPointer t x) {id : Nat} {r : Res} (hr : opS T G id o.op (evF S.fs) S.fm = some r) : PR P R a w o r := by
  rw [ho] at hr
  simp only [opS, opK, oK_some] at hr
  obtain ⟨vx, hx, i, hi, hr⟩ := hr
  obtain ⟨d, hd1, hd2, _⟩ := und_some hT hi
  obtain ⟨hst, ⟨m, e, hu, h2⟩ | ⟨_, _, h2⟩ | ⟨_, _, h2⟩ | ⟨_, h2⟩ | ⟨_, h2⟩⟩ := descK_some hr <;> first | (simp at h2; done) | skip
  have := hd2 hst; subst this; rw [hu] at hd1
  simp only [sliceK_some, cond_some, Bool.and_eq_true, Bool.not_eq_true'] at h2
  obtain ⟨b, off, len, c, rfl, ⟨h3, h4⟩, h5⟩ := h2
  cases h5
  have h3 := Nat.le_of_ble_eq_true h3
  have h4 : m ≠ 0 := fun e => by rw [e] at h4; simp at h4
  obtain ⟨p, hp, hsl⟩ := V2_slice (h.ev hx)
  obtain ⟨b', c', hpa, hev⟩ := SlOk_some hsl (by omega)
  refine PR.mk (v' := .pointer (some ⟨b', p.d + off, none⟩)) ?_ ⟨p, b', hp, hpa, rfl⟩
  have h3' : ¬ (len < m) := by omega
  simp [execOp, ho, hev, Instr.arrayAt, run_underlying hd1, h3']
theorem sound_unOp (h : Rel w0 n R S a w) {o : Oper} {op : UnOp} {t : Nat} {x : Operand} (ho : o.op = .unOp op t x) {id : Nat} {r : Res} (hr : opS T G id o.op (evF S.fs) S.fm = some r) : PR P R a w o r := by
  rw [ho] at hr
  simp only [opS, opK, oK_some] at hr
  obtain ⟨vx, hx, hr⟩ := hr
  have hev := h.ev hx
  cases vx <;> simp only [unK, intK, boolK] at hr <;> first | (simp at hr; done) | skip
  · have hev := V2_bool hev
    cases op <;> simp only [unB] at hr <;> first | (simp at hr; done) | skip
    cases hr; exact PR.mk (v' := .bool _) (by simp [execOp, ho, hev, Op.unary]) ((V2_plain rfl).2 rfl)
  · have hev := V2_int hev
    cases op <;> simp only [unI] at hr <;> first | (simp at hr; done) | skip
    · cases hr; exact PR.mk (v' := .int _ _) (by simp only [execOp, ho, hev, Op.unary, Op.intArith, Sem.run_bind, Sem.run_pure, Result.andThen_ok]) ((V2_plain rfl).2 rfl)
    · cases hr; exact PR.mk (v' := .int _ _) (by simp only [execOp, ho, hev, Op.unary, Op.intBits, Sem.run_bind, Sem.run_pure, Result.andThen_ok]) ((V2_plain rfl).2 rfl)
theorem sound_convert (hT : TabOk P T) (h : Rel w0 n R S a w) {o : Oper} {s d : Nat} {x : Operand} (ho : o.op = .convert s d x) {id : Nat} {r : Res} (hr : opS T G id o.op (evF S.fs) S.fm = some r) : PR P R a w o r ∨ (∃ (v' : Value) (w' : World), (execOp a.eval o).run P w = .ok (.value v') w' ∧ V2 R r.val v' ∧ MRel w0 R (memF S.fm r.mem) w') ∨ ∃ sb i j, evF S.fs x = some (.string sb) ∧ look T s = some i ∧ look T d = some j ∧ cvtK T j sb id S.fm some none = some r := by
  rw [ho] at hr
  simp only [opS, opK, oK_some] at hr
  obtain ⟨vx, hx, i, hi, j, hj, hr⟩ := hr
  by_cases hstr : ∃ sb, vx = .string sb
  case pos =>
    obtain ⟨sb, rfl⟩ := hstr
    simp only [intK, strK] at hr
    exact .inr (.inr ⟨sb, i, j, hx, hi, hj, hr⟩)
  by_cases hint : ∃ kd n, vx = .int kd n
  case neg =>
    have e0 : intK vx (fun _ n => descK j (fun _ _ => none) (fun _ => none) (fun kd => some (val (.int kd (kd.wrap n)))) none none none) (strK vx (fun sb => cvtK T j sb id S.fm some none) (bif isStrT j then cvrK T i vx S.fm some none else cvsK T s d j vx S.fm some none)) = bif isStrT j then cvrK T i vx S.fm some none else cvsK T s d j vx S.fm some none := by
      cases vx <;> first | rfl | exact absurd ⟨_, _, rfl⟩ hint | exact absurd ⟨_, rfl⟩ hstr
    rw [e0] at hr
    cases hst : isStrT j with
    | true =>
      rw [hst, cond_true] at hr
      obtain ⟨e, je, q, h1, h2, h3, h4, h5, rfl⟩ := cvr_iff.1 hr
      obtain ⟨d0, hd0, hd0', _⟩ := und_some hT hi
      have := hd0' h1; subst this; rw [h2] at hd0
      obtain ⟨d1, hd1, hd1', _⟩ := und_some hT hj
      have hds : P.underlying d = some .string := by
        unfold isStrT at hst
        split at hst
        · rename_i hu
          have := hd1' (by simpa using hst); subst this; rw [hd1, hu]
        · simp at hst
      obtain ⟨d2, he1, he2, _⟩ := und_some hT h3
      have hu8 : P.underlying e = some (.int .u8) := by
        unfold isU8T at h4
        split at h4
        · rename_i hu
          have := he2 (by simpa using h4); subst this; rw [he1, hu]
        · simp at h4
      have hv := h.ev hx
      obtain ⟨hlen, hfirst⟩ := src_run (P := P) h.m h5 hv
      have hfirst := hfirst q.n (Nat.le_refl _)
      obtain ⟨a0, m, c, hev⟩ : ∃ a0 m c, a.eval x = .slice a0 m c := by
        unfold srcS srcK at h5
        split at h5
        · exact ⟨_, _, _, (V2_plain rfl).1 hv⟩
        · rename_i b off m c
          obtain ⟨p, hp, hsl⟩ := V2_slice hv
          cases hlo : loose b with
          | false => obtain ⟨b', _, h6⟩ := SlOk_tight hlo hsl; exact ⟨_, _, _, h6⟩
          | true =>
            obtain ⟨_, _, ⟨b', _, h6⟩ | ⟨_, _, _, a0, h6⟩⟩ := SlOk_loose hlo hsl
            · exact ⟨_, _, _, h6⟩
            · exact ⟨_, _, _, h6⟩
        · exact absurd ⟨_, rfl⟩ hstr
        · simp at h5
      rw [hev] at hlen hfirst
      have hm : m = q.n := by
        have := hlen w
        simpa [Builtin.lenOf] using this
      subst hm
      left
      refine ⟨rfl, .string (rowS q.n q.g), ?_, (V2_plain rfl).2 rfl⟩
      cases a0 with
      | none =>
        have h0 : rowL [.i .u8] q.g 0 q.n = [] := by
          have := hfirst
          simp [Builtin.firstCells] at this
          first | exact this | exact this.symm
        have h1 : q.n = 0 := by
          have := congrArg List.length h0
          rw [rowL_len] at this
          simpa using this
        have h2 : rowS q.n q.g = ByteArray.empty := by rw [h1]; rfl
        rw [h2]
        simp only [execOp, ho, hev, Sem.run_bind, run_convert_bytes_string w s d e none _ _ hd0 hu8 hds, Conv.bytesToString, Sem.run_pure, Result.andThen_ok]
      | some a0 =>
        have h1 : (loadCells a0 q.n).run P w = .ok ((nsL q.g 0 q.n).map (Value.int .u8)).toArray w := by
          rw [← nsL_row]
          have := hfirst
          simp only [Builtin.firstCells, List.length_cons, List.length_nil, Nat.zero_add, Nat.mul_one] at this
          exact this
        simp only [execOp, ho, hev, Sem.run_bind, run_convert_bytes_string w s d e (some a0) _ _ hd0 hu8 hds, run_bytesToString w a0 q.n c _ h1, Result.andThen_ok, Sem.run_pure, rowS]
    | false =>
    rw [hst, cond_false] at hr
    obtain ⟨b, off, n, c, e, je, blk, l, rfl, h2, h3, h4, rfl, h6, h7, h8, h9, h10, rfl⟩ := cvs_iff.1 hr
    obtain ⟨d1, hd1, hd2, _⟩ := und_some hT hj
    have := hd2 h2; subst this; rw [h3] at hd1
    obtain ⟨d2, he1, he2, _⟩ := und_some hT h4
    have hu8 : P.underlying e = some (.int .u8) := by
      unfold isU8T at h6
      split at h6
      · rename_i hu
        have := he2 (by simpa using h6); subst this; rw [he1, hu]
      · simp at h6
    obtain ⟨p, hp, hsl⟩ := V2_slice (h.ev hx)
    obtain ⟨b', hpa, hev⟩ := SlOk_tight h10 hsl
    obtain ⟨cells, elem, own⟩ := blk
    simp only at h8 h9
    subst h8 h9
    obtain ⟨p', hp', hcont⟩ := memOk_lst h.m h7
    have := h.m.func _ _ _ hp hp'; subst this
    rw [hpa] at hcont
    obtain ⟨cs, fz, k1, k2, k3⟩ := hcont
    obtain ⟨rfl, hge, _⟩ := k3 rfl
    right; left
    refine ⟨_, setBlk w b' (.cells cs elem (cs.size, cs.size + 1)), ?_, h.ev hx, h.m.mark (blk := ⟨.lst l, elem, true⟩) h7 hp hpa rfl k1 hge nofun nofun nofun⟩
    have hshape : w.shape? b' = some (elem, cs.size) := by unfold World.shape?; rw [k1]
    have hfr : w.freeze ⟨b', cs.size, none⟩ 1 = setBlk w b' (.cells cs elem (cs.size, cs.size + 1)) := by
      unfold World.freeze setBlk
      rw [if_neg (by decide)]
      congr 1
      apply Array.ext
      · simp
      · intro q h1 h2
        rw [Array.getElem_modify, Array.getElem_setIfInBounds (by simpa using h1)]
        by_cases hq : b' = q
        · subst hq
          have hk : w.heap[b']? = some (.cells cs elem (0, 0)) := k1
          rw [Array.getElem?_eq_getElem (by simpa using h1)] at hk
          rw [if_pos rfl, if_pos rfl, Option.some.inj hk]; rfl
        · rw [if_neg hq, if_neg hq]
    simp [execOp, ho, hev, convert, run_underlying hd1, run_underlying hu8, markStringish, hshape]
    exact hfr
  obtain ⟨kx, m, rfl⟩ := hint
  simp only [intK] at hr
  left
  have hev := V2_int (h.ev hx)
  obtain ⟨d1, hd1, _, _⟩ := und_some hT hi
  obtain ⟨d2, hd2, hd3, _⟩ := und_some hT hj
  obtain ⟨hst, ⟨_, _, _, h3⟩ | ⟨_, _, h3⟩ | ⟨kd, hu, h3⟩ | ⟨_, h3⟩ | ⟨_, h3⟩⟩ := descK_some hr <;> first | (simp at h3; done) | skip
  have := hd3 hst; subst this; rw [hu] at hd2
  cases h3
  refine PR.mk (v' := .int kd (kd.wrap m)) ?_ ((V2_plain rfl).2 rfl)
  simp only [execOp, ho, hev, convert, Sem.run_bind, run_underlying hd1, run_underlying hd2, Result.andThen_ok]
  cases d1 <;> simp [Conv.intToInt]
end
end Go.W
/-
  The engine, part 6: literals, slices of arrays; what makes and writes memory; calls.
-/
namespace Go.W
section
variable {P : Program} {T : Tab} {G : Sums} {GL : Glob} {w0 : Wb GL} {w : World} {n : Nat} {R : Nat → Pl → Prop} {S : FS} {a : Act}
theorem parts_run (h : Rel w0 n R S a w) {β : Type} : ∀ (ps : List (Nat × Operand)) {k : List (Nat × Value) → Option β} {r : β}, partsK (evF S.fs) ps k none = some r →
    ∃ vs, k vs = some r ∧ vs.map (·.1) = ps.map (·.1) ∧ LR (V2 R) (vs.map (·.2)) (ps.map fun p => a.eval p.2)
  | [], k, r, hr => ⟨[], hr, rfl, trivial⟩
  | p :: ps, k, r, hr => by
    simp only [partsK, oK_some] at hr
    obtain ⟨v, hv, hr⟩ := hr
    obtain ⟨vs, h1, h2, h3⟩ := parts_run h ps hr
    exact ⟨(p.1, v) :: vs, h1, by simp [h2], h.ev hv, h3⟩
theorem foldl_set (cs : List Value) (off : Nat) : ∀ (l : List Value) (j : Nat) (acc : Array Value), acc.toList = cs → off + j + l.length ≤ cs.length →
    ((l.zipIdx j).foldl (fun (A : Array Value) (q : Value × Nat) => A.setIfInBounds (off + q.2) q.1) acc).toList = cs.take (off + j) ++ l ++ cs.drop (off + j + l.length)
  | [], j, acc, h, hl => by simp [h]
  | v :: l, j, acc, h, hl => by
    simp only [List.length_cons] at hl
    simp only [List.zipIdx_cons, List.foldl_cons]
    rw [foldl_set (cs.set (off + j) v) off l (j + 1) _ (by simp [h]) (by simp; omega)]
    have hlt : off + j < cs.length := by omega
    rw [List.take_set, List.drop_set, if_pos (by omega)]
    rw [show off + (j + 1) = (off + j) + 1 from by omega, List.take_succ_eq_append_getElem hlt]
    rw [List.set_append_right _ _ (by simp only [List.length_take]; omega)]
    simp only [List.length_take, List.append_assoc, List.length_cons]
    rw [show off + j - min (off + j) cs.length = 0 from by omega]
    simp only [List.set_cons_zero, List.cons_append, List.nil_append]
    rw [show off + j + 1 + l.length = off + j + (l.length + 1) from by omega]
theorem fill_run {place : Nat → Option (Nat × Nat)} {place' : Nat → Option (Nat × Nat)} (hp : ∀ m q, place m = some q → place' m = some q) :
    ∀ (vs : List (Nat × Value)) (us : List (Nat × Value)), vs.map (·.1) = us.map (·.1) → LR (V2 R) (vs.map (·.2)) (us.map (·.2)) →
      ∀ (cells : List Value) (cells' : Array Value) {k : List Value → Option Res} {r : Res}, LR (V0 R) cells cells'.toList → fillK place vs cells k none = some r →
        ∃ cs cs', k cs = some r ∧ Instr.fill place' cells' us = some cs' ∧ LR (V0 R) cs cs'.toList
  | [], [], _, _, cells, cells', k, r, hl, hk => ⟨cells, cells', hk, rfl, hl⟩
  | v :: vs, u :: us, h1, h2, cells, cells', k, r, hl, hk => by
    simp only [List.map_cons, List.cons.injEq] at h1
    simp only [List.map_cons, LR] at h2
    simp only [fillK, oK_some, cond_some, Bool.and_eq_true] at hk
    obtain ⟨q, hq, ⟨⟨ht, hs⟩, hle⟩, hk⟩ := hk
    have hs := nbeq.1 hs
    have hle := Nat.le_of_ble_eq_true hle
    have hc := V2_cells h2.1 (notTup_ne ht)
    have hlen := LR_len hc
    have hlen' := LR_len hl
    have hpl : place' u.1 = some q := by rw [← h1.1]; exact hp _ _ hq
    have e1 : u.2.cells.size = q.2 := by rw [← Array.length_toList, ← hlen, hs]
    have e2 : cells'.size = cells.length := by rw [← Array.length_toList, ← hlen']
    obtain ⟨cs, cs', h3, h4, h5⟩ := fill_run hp vs us h1.2 h2.2 _ (u.2.cells.zipIdx.foldl (fun cs (c, j) => cs.setIfInBounds (q.1 + j) c) cells') (k := k) (r := r) (by
      rw [← Array.foldl_toList, Array.toList_zipIdx, foldl_set cells'.toList q.1 u.2.cells.toList 0 cells' rfl (by simp [e1, e2]; omega)]
      have hx : q.1 + 0 + u.2.cells.toList.length = q.1 + q.2 := by simp [e1]
      rw [hx]
      exact LR_append (LR_append (by simpa using LR_take q.1 hl) hc) (LR_drop _ hl)) hk
    refine ⟨cs, cs', h3, ?_, h5⟩
    unfold Instr.fill
    simp only [hpl, e1, ne_eq, not_true_eq_false, decide_false, Bool.false_or, decide_eq_true_eq]
    rw [if_neg (by rw [e2]; omega)]
    exact h4
  | [], _ :: _, h1, _, _, _, _, _, _, _ => by simp at h1
  | _ :: _, [], h1, _, _, _, _, _, _, _ => by simp at h1
theorem run_zero (hT : TabOk P T) {t : Nat} {i : TInf} (h : look T t = some i) (w : World) : (zeroValue t).run P w = .ok i.zer w := by
  obtain ⟨inf, h1, _, h3, _⟩ := info_of hT h
  simp [zeroValue, run_typeInfo w h1, h3]
theorem plain_cells {v : Value} (h : pl1 v = true) (ht : notTup v = true) : LR (V0 R) v.cells.toList v.cells.toList :=
  V2_cells ((V2_plain (by unfold pl2; split; · simp [notTup] at ht
                          · exact h)).2 rfl) (notTup_ne ht)
theorem places_run (hT : TabOk P T) {i : TInf} {w : World} : ∀ (fs : List Field), (∀ f ∈ fs, ∃ j, look T f.type = some j) →
    (fs.mapM (fun f => do pure (f.offset, ← sizeOf f.type)) : Sem (List (Nat × Nat))).run P w = .ok (fs.map fun f => (f.offset, P.cellsOf f.type)) w
  | [], _ => rfl
  | f :: fs, h => by
    obtain ⟨j, hj⟩ := h f (by simp)
    have ih := places_run hT (i := i) (w := w) fs fun g hg => h g (by simp [hg])
    simp only [List.mapM_cons, Sem.run_bind, run_size hT hj, Result.andThen_ok, Sem.run_pure, ih, List.map_cons, cellsOf_of hT hj]
theorem sound_build (hT : TabOk P T) (h : Rel w0 n R S a w) {o : Oper} {t : Nat} {ps : Array (Nat × Operand)} (ho : o.op = .build t ps) {id : Nat} {r : Res} (hr : opS T G id o.op (evF S.fs) S.fm = some r) : PR P R a w o r := by
  rw [ho] at hr
  simp only [opS, opK, oK_some] at hr
  obtain ⟨i, hi, hr⟩ := hr
  obtain ⟨vs, hr, h1, h2⟩ := parts_run h _ hr
  simp only [cond_some, Bool.and_eq_true] at hr
  obtain ⟨⟨ht, hp⟩, hr⟩ := hr
  have hz := plain_cells (R := R) hp ht
  have h1' : vs.map (·.1) = (ps.toList.map fun p => (p.1, a.eval p.2)).map (·.1) := by rw [h1]; simp
  have h2' : LR (V2 R) (vs.map (·.2)) ((ps.toList.map fun p => (p.1, a.eval p.2)).map (·.2)) := by rw [List.map_map]; exact h2
  have hparts : (ps.map fun (i, x) => (i, a.eval x)).toList = ps.toList.map fun p => (p.1, a.eval p.2) := by simp
  obtain ⟨d, hd1, hd2, hd3⟩ := und_some hT hi
  cases hst : i.st with
  | true =>
    simp only [hst, cond_true, cond_some] at hr
    obtain ⟨hall, hr⟩ := hr
    obtain ⟨fs, rfl, hfs⟩ := hd3 hst
    have hin : ∀ f ∈ fs.toList, ∃ j, look T f.type = some j := by
      intro f hf
      have := List.all_eq_true.1 hall (f.offset, f.type) (by rw [← hfs]; exact List.mem_map.2 ⟨f, hf, rfl⟩)
      exact Option.isSome_iff_exists.1 this
    obtain ⟨cs, cs', h3, h4, h5⟩ := fill_run (place' := ((fs.map fun f => (f.offset, P.cellsOf f.type))[·]?)) (by
      intro m q hq
      simp only [placeOf, ← hfs, List.getElem?_map, Option.bind_eq_some_iff, Option.map_eq_some_iff] at hq
      obtain ⟨fl, ⟨f, hf, rfl⟩, j, hj, rfl⟩ := hq
      rw [Array.getElem?_toList] at hf
      simp only [Array.getElem?_map, hf, Option.map_some, cellsOf_of hT hj]) vs _ h1' h2' _ i.zer.cells hz hr
    cases h3
    refine PR.mk (v' := .agg cs') ?_ ⟨_, rfl, by simpa using h5⟩
    have hpl : (fs.mapM (fun f => do pure (f.offset, ← sizeOf f.type)) : Sem (Array (Nat × Nat))).run P w = .ok (fs.map fun f => (f.offset, P.cellsOf f.type)) w := by
      rw [Array.mapM_eq_mapM_toList]
      simp only [Sem.run_map, places_run hT (i := i) fs.toList hin, Result.andThen_ok]
      congr 1
      apply Array.ext'
      simp
    simp only [execOp, ho, Instr.build, Sem.run_bind, run_zero hT hi, Result.andThen_ok, run_underlying hd1, hpl, hparts, h4, Sem.run_pure]
  | false =>
    simp only [hst, cond_false] at hr
    obtain ⟨_, ⟨m, e, hu, h3⟩ | ⟨_, _, h3⟩ | ⟨_, _, h3⟩ | ⟨_, h3⟩ | ⟨_, h3⟩⟩ := descK_some hr <;> first | (simp at h3; done) | skip
    have := hd2 hst; subst this; rw [hu] at hd1
    obtain ⟨j, hj, h3⟩ := oK_some.1 h3
    obtain ⟨cs, cs', h4, h5, h6⟩ := fill_run (place' := fun m => some (m * j.siz, j.siz)) (fun _ _ h => h) vs _ h1' h2' _ i.zer.cells hz h3
    cases h4
    refine PR.mk (v' := .agg cs') ?_ ⟨_, rfl, by simpa using h6⟩
    simp only [execOp, ho, Instr.build, Sem.run_bind, run_zero hT hi, Result.andThen_ok, run_underlying hd1, run_size hT hj, hparts, h5, Sem.run_pure]
theorem repL_len (z : List Value) : ∀ n, (repL n z).length = n * z.length
  | 0 => by simp [repL]
  | n + 1 => by simp [repL, repL_len z n, Nat.add_mul, Nat.add_comm]
theorem repL_get (z : List Value) : ∀ (n i : Nat), i < n * z.length → (repL n z)[i]? = z[i % z.length]?
  | 0, i, h => by simp at h
  | n + 1, i, h => by
    rw [Nat.add_mul, Nat.one_mul] at h
    unfold repL
    by_cases hi : i < z.length
    · rw [List.getElem?_append_left hi, Nat.mod_eq_of_lt hi]
    · rw [List.getElem?_append_right (by omega), repL_get z n (i - z.length) (by omega), Nat.mod_eq_sub_mod (a := i) (by omega)]
theorem repL_range {z : Array Value} {n : Nat} (hz : z.size ≠ 0) : (Array.range (n * z.size)).map (z[· % z.size]!) = (repL n z.toList).toArray := by
  apply Array.ext'
  apply List.ext_getElem?
  intro i
  by_cases hi : i < n * z.size
  · rw [repL_get z.toList n i (by rw [Array.length_toList]; exact hi)]
    have hlt : i % z.size < z.size := Nat.mod_lt _ (by omega)
    simp [hi, hlt]
  · rw [List.getElem?_eq_none (by simp; omega), List.getElem?_eq_none (by rw [List.toList_toArray, repL_len, Array.length_toList]; omega)]
theorem LR_rep {z z' : List Value} (h : LR (V0 R) z z') : ∀ n, LR (V0 R) (repL n z) (repL n z')
  | 0 => trivial
  | n + 1 => LR_append h (LR_rep h n)
theorem opt_run (h : Rel w0 n R S a w) {β : Type} {x : Option Operand} {k : Option Value → Option β} {r : β} (hr : optK (evF S.fs) x k none = some r) :
    ∃ v, k v = some r ∧ ((x = none ∧ v = none) ∨ ∃ y u, x = some y ∧ v = some u ∧ V2 R u (a.eval y)) := by
  cases x with
  | none => exact ⟨none, hr, .inl ⟨rfl, rfl⟩⟩
  | some y =>
    simp only [optK, oK_some] at hr
    obtain ⟨v, hv, hr⟩ := hr
    exact ⟨some v, hr, .inr ⟨y, v, rfl, rfl, h.ev hv⟩⟩
theorem zOpt_some {v : Value} (h : zOpt (some v) = true) : ∃ kd, v = .int kd 0 := by
  cases v <;> simp [zOpt] at h
  subst h; exact ⟨_, rfl⟩
theorem sound_slice (hT : TabOk P T) (h : Rel w0 n R S a w) {o : Oper} {t : Nat} {x : Operand} {lo hi mx : Option Operand} (ho : o.op = .slice t x lo hi mx) {id : Nat} {r : Res} (hr : opS T G id o.op (evF S.fs) S.fm = some r) :
    PR P R a w o r ∨ ∃ (b b2 L2 L H c sz : Nat) (e : TypeId) (p q : Pl), S.fm (nid id 0) = none ∧ id < 60000 ∧ r = ⟨.slice (some ⟨nid id 0, 0, none⟩) (H - L) (c - L), [(nid id 0, ⟨.tail b2 L2 (H - L) sz, e, false⟩)], [nid id 0, b]⟩ ∧ R b p ∧ c - L ≤ q.c ∧ (∃ p2, R b2 p2 ∧ (H - L = 0 ∨ (q.a = p2.a ∧ q.d = p2.d + L2 * sz ∧ q.c + L2 ≤ p2.c))) ∧ q.a = p.a ∧
      ((∃ b', q.a = some b' ∧ (execOp a.eval o).run P w = .ok (.value (.slice (some ⟨b', q.d, none⟩) (H - L) q.c)) w) ∨ (q.a = none ∧ H - L = 0 ∧ q.c = 0 ∧ ∃ a0, (execOp a.eval o).run P w = .ok (.value (.slice a0 0 0)) w)) := by
  rw [ho] at hr
  cases mx with
  | some m => simp [opS, opK, noneK] at hr
  | none =>
    simp only [opS, opK, noneK, oK_some] at hr
    obtain ⟨vx, hx, hr⟩ := hr
    obtain ⟨l, hr, hl⟩ := opt_run h hr
    obtain ⟨u, hr, hu⟩ := opt_run h hr
    obtain ⟨i, hi', hr⟩ := oK_some.1 hr
    obtain ⟨d, hd1, hd2, _⟩ := und_some hT hi'
    obtain ⟨hst, ⟨m, e, hue, h3⟩ | ⟨e, hue, h3⟩ | ⟨_, _, h3⟩ | ⟨_, h3⟩ | ⟨_, h3⟩⟩ := descK_some hr <;> first | (simp at h3; done) | skip
    · have := hd2 hst; subst this; rw [hue] at hd1
      simp only [ptrK_some, oK_some] at h3
      obtain ⟨b, off, rfl, j, hj, h3⟩ := h3
      obtain ⟨p, b', hp, hpa, hev⟩ := V2_ptr (h.ev hx)
      -- the upper bound
      obtain ⟨H, hH, h4⟩ : ∃ H, (match hi.map a.eval with
          | some v => Instr.sliceBound v m (.sliceAlen)
          | none => pure m).run P w = .ok H w ∧ lowK H l (fun l => bif loose b then none else some (val (.slice (some ⟨b, bif Nat.beq m l then off else off + l * j.siz, none⟩) (H - l) (m - l)))) none = some r := by
        rcases hu with ⟨rfl, rfl⟩ | ⟨y, v, rfl, rfl, hv⟩
        · exact ⟨m, rfl, h3⟩
        · simp only [highK, intK_some, cond_some, Bool.and_eq_true, decide_eq_true_eq] at h3
          obtain ⟨kd, q, rfl, hq, h3⟩ := h3
          have hev := V2_int hv
          refine ⟨q.toNat, ?_, h3⟩
          simp [Instr.sliceBound, hev, asIntOf, hq]
      obtain ⟨L, hL, h5⟩ : ∃ L, (match lo.map a.eval with
          | some v => Instr.sliceBound v H (.sliceB)
          | none => pure 0).run P w = .ok L w ∧ (bif loose b then none else some (val (.slice (some ⟨b, bif Nat.beq m L then off else off + L * j.siz, none⟩) (H - L) (m - L)))) = some r := by
        rcases hl with ⟨rfl, rfl⟩ | ⟨y, v, rfl, rfl, hv⟩
        · exact ⟨0, rfl, h4⟩
        · unfold lowK at h4
          simp only [intK_some] at h4
          obtain ⟨kd, q, rfl, h4⟩ := h4
          obtain ⟨hq, h4⟩ := cond_some.1 h4
          simp only [Bool.and_eq_true, decide_eq_true_eq] at hq
          have hev := V2_int hv
          refine ⟨q.toNat, ?_, h4⟩
          simp [Instr.sliceBound, hev, asIntOf, hq]
      obtain ⟨hlo, h5⟩ := cond_none.1 h5
      cases h5
      left
      refine PR.mk (v' := .slice (some ⟨b', p.d + (bif Nat.beq m L then off else off + L * j.siz), none⟩) (H - L) (m - L)) ?_ ⟨p, hp, ?_⟩
      · have hbounds : (Instr.sliceBounds false m m (lo.map a.eval) (hi.map a.eval) none).run P w = .ok (L, H, m) w := by
          unfold Instr.sliceBounds
          cases hhi : hi.map a.eval with
          | none =>
            rw [hhi] at hH
            cases hlo : lo.map a.eval with
            | none => rw [hlo] at hL; simp at hH hL; simp [hH, hL]
            | some v => rw [hlo] at hL; simp at hH; subst hH; simp at hL; simp [hL]
          | some v =>
            rw [hhi] at hH
            simp only at hH
            cases hlo : lo.map a.eval with
            | none => rw [hlo] at hL; simp at hL; simp [hH, hL]
            | some v => rw [hlo] at hL; simp at hL; simp [hL, hH]
        simp only [execOp, ho, hev, Instr.sliceAt, Sem.run_bind, run_underlying hd1, Result.andThen_ok, Instr.sureAddr, Sem.run_pure, Option.map_none, hbounds, run_size hT hj]
        congr 3
        by_cases hm : m = L
        · subst hm; simp
        · rw [if_neg hm, nbeq_ne hm]; simp [addr_add, Nat.add_assoc]
      · unfold SlOk
        rw [if_neg (by simp [hlo])]
        exact ⟨b', hpa, rfl⟩
    · have := hd2 hst; subst this; rw [hue] at hd1
      have hs3 := slK_some.1 h3
      clear h3
      rcases hs3 with ⟨n0, c0, rfl, h3⟩ | ⟨b, off, m, c, rfl, h3⟩
      · obtain ⟨j, hj, h3⟩ := oK_some.1 h3
        have hz := (cond_some.1 h3).1
        have hr0 := (cond_some.1 h3).2
        clear h3
        cases hr0
        simp only [Bool.and_eq_true] at hz
        obtain ⟨⟨⟨z1, z2⟩, z3⟩, z4⟩ := hz
        have z1 := nbeq.1 z1; subst z1
        have z2 := nbeq.1 z2; subst z2
        have hev := (V2_plain (R := R) (v := .slice none 0 0) rfl).1 (h.ev hx)
        have hH : (match hi.map a.eval with
            | some v => Instr.sliceBound v 0 (.sliceAcap)
            | none => pure 0).run P w = .ok 0 w := by
          rcases hu with ⟨rfl, rfl⟩ | ⟨y, v, rfl, rfl, hv⟩
          · rfl
          · obtain ⟨kd, rfl⟩ := zOpt_some z4
            have hev2 := V2_int hv
            simp [Instr.sliceBound, hev2, asIntOf]
        have hL : (match lo.map a.eval with
            | some v => Instr.sliceBound v 0 (.sliceB)
            | none => pure 0).run P w = .ok 0 w := by
          rcases hl with ⟨rfl, rfl⟩ | ⟨y, v, rfl, rfl, hv⟩
          · rfl
          · obtain ⟨kd, rfl⟩ := zOpt_some z3
            have hev2 := V2_int hv
            simp [Instr.sliceBound, hev2, asIntOf]
        have hbounds : (Instr.sliceBounds true 0 0 (lo.map a.eval) (hi.map a.eval) none).run P w = .ok (0, 0, 0) w := by
          unfold Instr.sliceBounds
          cases hhi : hi.map a.eval with
          | none =>
            cases hlo2 : lo.map a.eval with
            | none => simp
            | some v => rw [hlo2] at hL; simp at hL; simp [hL]
          | some v =>
            rw [hhi] at hH
            simp only at hH
            cases hlo2 : lo.map a.eval with
            | none => simp [hH]
            | some v => rw [hlo2] at hL; simp at hL; simp [hL, hH]
        have hrun : (execOp a.eval o).run P w = .ok (.value (.slice none 0 0)) w := by
          have hsl : (Instr.slice t (.slice none 0 0) (lo.map a.eval) (hi.map a.eval) none).run P w = .ok (.slice none 0 0) w := by
            unfold Instr.slice
            simp [Sem.run_bind, run_underlying hd1, Result.andThen_ok, hbounds, run_size hT hj]
          simp only [execOp, ho, hev, Instr.sliceAt, Sem.run_bind, run_underlying hd1, Result.andThen_ok, Option.map_none, hsl, Sem.run_pure]
        exact .inl (PR.mk (v' := .slice none 0 0) hrun ((V2_plain rfl).2 rfl))
      have hj3 := oK_some.1 h3
      clear h3
      obtain ⟨j, hj, h3⟩ := hj3
      obtain ⟨p, hp, hsl⟩ := V2_slice (h.ev hx)
      obtain ⟨a', c', hev, hle, htight, hloose⟩ : ∃ a' c', a.eval x = .slice a' m c' ∧ c ≤ c' ∧ (loose b = false → c' = c ∧ ∃ b', p.a = some b' ∧ a' = some ⟨b', p.d + off, none⟩) ∧ (loose b = true → (∃ b', p.a = some b' ∧ a' = some ⟨b', p.d, none⟩ ∧ c' = p.c) ∨ (p.a = none ∧ m = 0 ∧ c' = 0)) := by
        cases hlo : loose b with
        | false =>
          obtain ⟨b', h1, h2⟩ := SlOk_tight hlo hsl
          exact ⟨_, _, h2, Nat.le_refl _, fun _ => ⟨rfl, b', h1, rfl⟩, fun h => by simp at h⟩
        | true =>
          obtain ⟨_, k2, ⟨b', k3, k4⟩ | ⟨k3, k4, k5, k6⟩⟩ := SlOk_loose hlo hsl
          · exact ⟨_, _, k4, k2, fun h => by simp at h, fun _ => .inl ⟨b', k3, rfl, rfl⟩⟩
          · subst k4; obtain ⟨a0, k6⟩ := k6; exact ⟨_, _, k6, by omega, fun h => by simp at h, fun _ => .inr ⟨k3, rfl, rfl⟩⟩
      obtain ⟨H, hH, h4⟩ : ∃ H, (match hi.map a.eval with
          | some v => Instr.sliceBound v c' (.sliceAcap)
          | none => pure m).run P w = .ok H w ∧ lowK H l (fun l => bif Nat.ble H c then
          (bif loose b then (bif Nat.blt id 60000 && (S.fm (nid id 0)).isNone then tlK S.fm b l (H - l) j.siz (fun b2 l2 rd => some ⟨.slice (some ⟨nid id 0, 0, none⟩) (H - l) (c - l), [(nid id 0, ⟨.tail b2 l2 (H - l) j.siz, e, false⟩)], nid id 0 :: rd⟩) none else none)
           else some (val (.slice (some ⟨b, bif Nat.beq c l then off else off + l * j.siz, none⟩) (H - l) (c - l)))) else none) none = some r := by
        rcases hu with ⟨rfl, rfl⟩ | ⟨y, v, rfl, rfl, hv⟩
        · exact ⟨m, rfl, h3⟩
        · unfold highK at h3
          simp only [intK_some] at h3
          obtain ⟨kd, q, rfl, h3⟩ := h3
          obtain ⟨hq, h3⟩ := cond_some.1 h3
          simp only [Bool.and_eq_true, decide_eq_true_eq] at hq
          have hev := V2_int hv
          refine ⟨q.toNat, ?_, h3⟩
          have hq2 : 0 ≤ q ∧ q ≤ (c' : Int) := by omega
          simp [Instr.sliceBound, hev, asIntOf, hq2]
      obtain ⟨L, hL, hLH, h5⟩ : ∃ L, (match lo.map a.eval with
          | some v => Instr.sliceBound v H (.sliceB)
          | none => pure 0).run P w = .ok L w ∧ L ≤ H ∧ (bif Nat.ble H c then
          (bif loose b then (bif Nat.blt id 60000 && (S.fm (nid id 0)).isNone then tlK S.fm b L (H - L) j.siz (fun b2 l2 rd => some ⟨.slice (some ⟨nid id 0, 0, none⟩) (H - L) (c - L), [(nid id 0, ⟨.tail b2 l2 (H - L) j.siz, e, false⟩)], nid id 0 :: rd⟩) none else none)
           else some (val (.slice (some ⟨b, bif Nat.beq c L then off else off + L * j.siz, none⟩) (H - L) (c - L)))) else none) = some r := by
        rcases hl with ⟨rfl, rfl⟩ | ⟨y, v, rfl, rfl, hv⟩
        · exact ⟨0, rfl, Nat.zero_le _, h4⟩
        · unfold lowK at h4
          simp only [intK_some] at h4
          obtain ⟨kd, q, rfl, h4⟩ := h4
          obtain ⟨hq, h4⟩ := cond_some.1 h4
          simp only [Bool.and_eq_true, decide_eq_true_eq] at hq
          have hev := V2_int hv
          refine ⟨q.toNat, ?_, by omega, h4⟩
          simp [Instr.sliceBound, hev, asIntOf, hq]
      obtain ⟨hHc, h5⟩ := cond_some.1 h5
      have hHc := Nat.le_of_ble_eq_true hHc
      have hbounds : (Instr.sliceBounds true m c' (lo.map a.eval) (hi.map a.eval) none).run P w = .ok (L, H, c') w := by
        unfold Instr.sliceBounds
        cases hhi : hi.map a.eval with
        | none =>
          rw [hhi] at hH
          cases hlo2 : lo.map a.eval with
          | none => rw [hlo2] at hL; simp at hH hL; simp [hH, hL]
          | some v => rw [hlo2] at hL; simp at hH; subst hH; simp at hL; simp [hL]
        | some v =>
          rw [hhi] at hH
          simp only at hH
          cases hlo2 : lo.map a.eval with
          | none => rw [hlo2] at hL; simp at hL; simp [hH, hL]
          | some v => rw [hlo2] at hL; simp at hL; simp [hL, hH]
      have hrun : (execOp a.eval o).run P w = .ok (.value (.slice (if c' = L then a' else a'.map (·.add (L * j.siz))) (H - L) (c' - L))) w := by
        have hsl : (Instr.slice t (.slice a' m c') (lo.map a.eval) (hi.map a.eval) none).run P w = .ok (.slice (if c' = L then a' else a'.map (·.add (L * j.siz))) (H - L) (c' - L)) w := by
          unfold Instr.slice
          simp only [Sem.run_bind, run_underlying hd1, Result.andThen_ok, hbounds, run_size hT hj, Sem.run_pure]
        simp only [execOp, ho, hev, Instr.sliceAt, Sem.run_bind, run_underlying hd1, Result.andThen_ok, Option.map_none, hsl, Sem.run_pure]
      cases hlo : loose b with
      | false =>
        rw [hlo, cond_false] at h5
        cases h5
        obtain ⟨rfl, b', hpa, rfl⟩ := htight hlo
        left
        refine PR.mk (v' := .slice (some ⟨b', p.d + (bif Nat.beq c' L then off else off + L * j.siz), none⟩) (H - L) (c' - L)) ?_ ⟨p, hp, ?_⟩
        · rw [hrun]
          congr 3
          by_cases hm : c' = L
          · rw [if_pos hm, nbeq.2 hm]; rfl
          · rw [if_neg hm, nbeq_ne hm]; simp [addr_add, Nat.add_assoc]
        · unfold SlOk
          rw [if_neg (by simp [hlo])]
          exact ⟨b', hpa, rfl⟩
      | true =>
        rw [hlo, cond_true] at h5
        obtain ⟨h6, h5⟩ := cond_some.1 h5
        simp only [Bool.and_eq_true, Nat.blt_eq] at h6
        obtain ⟨b2, l2, htl, h5⟩ := tlK_some.1 h5
        right
        rcases hloose hlo with ⟨b', hpa, rfl, rfl⟩ | ⟨hpa, rfl, rfl⟩
        · refine ⟨b, b2, l2, L, H, c, j.siz, e, p, ⟨p.a, if p.c = L then p.d else p.d + L * j.siz, p.c - L⟩, Option.isNone_iff_eq_none.1 h6.2, h6.1, (Option.some.inj h5).symm, hp, by simp only; omega, tl_ok h.m hp htl ?_, rfl, .inl ⟨b', hpa, ?_⟩⟩
          · by_cases hm : p.c = L
            · left; omega
            · right; exact ⟨rfl, by simp only; rw [if_neg hm], by simp only; omega⟩
          · rw [hrun]
            congr 3
            by_cases hm : p.c = L
            · simp only [if_pos hm]
            · simp only [if_neg hm, Option.map_some, addr_add]
        · refine ⟨b, b2, l2, L, H, c, j.siz, e, p, ⟨none, 0, 0⟩, Option.isNone_iff_eq_none.1 h6.2, h6.1, (Option.some.inj h5).symm, hp, by simp only; omega, tl_ok h.m hp htl (.inl (by omega)), hpa.symm, .inr ⟨rfl, by omega, rfl, (if 0 = L then a' else a'.map (·.add (L * j.siz))), ?_⟩⟩
          rw [hrun, show H - L = 0 from by omega, Nat.zero_sub]
theorem sound_quiet (hT : TabOk P T) (h : Rel w0 n R S a w) {o : Oper} {id : Nat} {r : Res} (hr : opS T G id o.op (evF S.fs) S.fm = some r)
    (h1 : ∀ t, o.op ≠ .alloc t) (h2 : ∀ t x, o.op ≠ .box t x) (h3 : ∀ t x y, o.op ≠ .store t x y) (h4 : ∀ c, o.op ≠ .call c) (h5 : ∀ t l ps, o.op ≠ .buildSlice t l ps) (h6 : ∀ t x i, o.op ≠ .indexAddr t x i) (h7 : ∀ t x a b c, o.op ≠ .slice t x a b c) (h8 : ∀ t l c, o.op ≠ .makeSlice t l c) (h9 : ∀ s d x, o.op ≠ .convert s d x) (h10 : ∀ t x, o.op ≠ .load t x) : PR P R a w o r := by
  cases ho : o.op with
  | alloc t => exact absurd ho (h1 t)
  | box t x => exact absurd ho (h2 t x)
  | store t x y => exact absurd ho (h3 t x y)
  | call c => exact absurd ho (h4 c)
  | buildSlice t l ps => exact absurd ho (h5 t l ps)
  | indexAddr t x ix => exact absurd ho (h6 t x ix)
  | slice t x lo hi mx => exact absurd ho (h7 t x lo hi mx)
  | makeSlice t l c => exact absurd ho (h8 t l c)
  | sliceToArrayPointer t x => exact sound_toArr hT h ho hr
  | move x =>
    rw [ho] at hr; simp only [opS, opK, oK_some] at hr
    obtain ⟨v, hv, hr⟩ := hr; cases hr
    exact PR.mk (v' := a.eval x) (by simp [execOp, ho]) (h.ev hv)
  | assign x =>
    rw [ho] at hr; simp only [opS, opK, oK_some] at hr
    obtain ⟨v, hv, hr⟩ := hr; cases hr
    exact PR.mk (v' := a.eval x) (by simp [execOp, ho]) (h.ev hv)
  | pick c x y => exact sound_pick h ho hr
  | load t x => exact absurd ho (h10 t x)
  | fieldAddr t x m => exact sound_fieldAddr hT h ho hr
  | field t x m => exact sound_field hT h ho hr
  | index t x ix => exact sound_index hT h ho hr
  | extract x m => exact sound_extract h ho hr
  | binOp op t x y u => exact sound_binOp hT h ho hr
  | unOp op t x => exact sound_unOp h ho hr
  | convert s d x => exact absurd ho (h9 s d x)
  | build t ps => exact sound_build hT h ho hr
  | _ => rw [ho] at hr; simp [opS, opK] at hr
end
end Go.W
/-
  The engine, part 7: what makes and writes memory; calls; one operation, whatever it is.
-/
namespace Go.W
open Go.RowKit (Below)
section
variable {P : Program} {T : Tab} {G : Sums} {GL : Glob} {w0 : Wb GL} {w : World} {n : Nat} {R : Nat → Pl → Prop} {S : FS} {a : Act}
theorem Rel.put (h : Rel w0 n R S a w) {d : Option Nat} (hd : ∀ t, d = some t → t < n) {v v' : Value} (hv : V2 R v v') : Rel w0 n R ⟨putF S.fs d v, S.fm⟩ (a.put d v') w := by
  cases d with
  | none => exact h
  | some t =>
    have ht := hd t rfl
    refine ⟨h.defers, by simpa [Act.put] using h.size, ?_, h.m⟩
    intro u x hx
    simp only [putF] at hx
    simp only [Act.put]
    by_cases hu : t = u
    · subst hu
      rw [upd_same] at hx
      cases hx
      exact ⟨v', by simp [h.size, ht], hv⟩
    · rw [upd_ne _ _ hu] at hx
      obtain ⟨x', h1, h2⟩ := h.slot u x hx
      exact ⟨x', by rw [Array.getElem?_setIfInBounds_ne hu]; exact h1, h2⟩
theorem Rel.remem (h : Rel w0 n R S a w) {R' : Nat → Pl → Prop} (hR : ∀ i p, R i p → R' i p) {fm' : Nat → Option Blk} {w' : World} (hm : MRel w0 R' fm' w') : Rel w0 n R' ⟨S.fs, fm'⟩ a w' :=
  ⟨h.defers, h.size, fun t v hv => by obtain ⟨v', h1, h2⟩ := h.slot t v hv; exact ⟨v', h1, V2_mono hR h2⟩, hm⟩
theorem Rel.world (h : Rel w0 n R S a w) {w' : World} (hb : Below w.heap.size w w') : Rel w0 n R S a w' := ⟨h.defers, h.size, h.slot, h.m.world hb⟩
theorem setCell_blk {w : World} {b : Nat} {cs : Array Value} {e : TypeId} {fz : Nat × Nat} (h : w.heap[b]? = some (.cells cs e fz)) (off : Nat) (v : Value) :
    w.setCell ⟨b, off, none⟩ v = setBlk w b (.cells (cs.setIfInBounds off v) e fz) := by
  have hlt : b < w.heap.size := by
    rcases Nat.lt_or_ge b w.heap.size with hlt | hge
    · exact hlt
    · rw [Array.getElem?_eq_none hge] at h; simp at h
  unfold World.setCell setBlk
  congr 1
  apply Array.ext
  · simp
  · intro i h1 h2
    simp only [Array.getElem_modify]
    by_cases hi : b = i
    · subst hi
      rw [Array.getElem?_eq_getElem hlt] at h
      have hh := Option.some.inj h
      simp [hh]
    · rw [if_neg hi, Array.getElem_setIfInBounds_ne (h := hi)]
theorem run_storeCells {e : TypeId} {b off : Nat} : ∀ (vs : List Value) (j : Nat) (w : World) (cs : Array Value), w.heap[b]? = some (.cells cs e (0, 0)) → off + j + vs.length ≤ cs.size →
    (∀ v ∈ vs, (∀ x, v ≠ .agg x) ∧ (∀ x, v ≠ .tuple x)) →
    (storeCells ⟨b, off, none⟩ vs j).run P w = .ok () (setBlk w b (.cells (cs.toList.take (off + j) ++ vs ++ cs.toList.drop (off + j + vs.length)).toArray e (0, 0)))
  | [], j, w, cs, h, hl, hv => by
    have hlt : b < w.heap.size := by
      rcases Nat.lt_or_ge b w.heap.size with hlt | hge
      · exact hlt
      · rw [Array.getElem?_eq_none hge] at h; simp at h
    have : setBlk w b (.cells cs e (0, 0)) = w := by
      unfold setBlk
      have : w.heap.setIfInBounds b (.cells cs e (0, 0)) = w.heap := by
        apply Array.ext
        · simp
        · intro i h1 h2
          by_cases hi : b = i
          · subst hi; rw [Array.getElem?_eq_getElem hlt] at h; simp [Option.some.inj h]
          · rw [Array.getElem_setIfInBounds_ne (h := hi)]
      rw [this]
    simp [storeCells, this]
  | v :: vs, j, w, cs, h, hl, hv => by
    simp only [List.length_cons] at hl
    have hlt : b < w.heap.size := by
      rcases Nat.lt_or_ge b w.heap.size with hlt | hge
      · exact hlt
      · rw [Array.getElem?_eq_none hge] at h; simp at h
    have hlc : off + j < cs.toList.length := by simp; omega
    have hc : w.cell? ⟨b, off + j, none⟩ = some cs.toList[off + j] := by
      rw [cell_at h, ← Array.getElem?_toList, List.getElem?_eq_getElem hlc]
    have hf : w.frozen? ⟨b, off + j, none⟩ = false := by simp [World.frozen?, h]
    have h1 := (hv v (by simp)).1
    have h2 := (hv v (by simp)).2
    have hst : (store (⟨b, off + j, none⟩ : Addr) v).run P w = .ok () (w.setCell ⟨b, off + j, none⟩ v) := by
      unfold store
      cases v <;> first | exact absurd rfl (h1 _) | exact absurd rfl (h2 _) | simp [Sem.run, hc, hf]
    simp only [storeCells, Sem.run_bind, addr_add, hst, Result.andThen_ok]
    rw [setCell_blk h, run_storeCells vs (j + 1) _ (cs.setIfInBounds (off + j) v) (setBlk_same hlt) (by simp; omega) (fun u hu => hv u (by simp [hu])), setBlk_twice]
    congr 4
    simp only [Array.toList_setIfInBounds]
    rw [List.drop_set, if_pos (by omega), show off + (j + 1) = (off + j) + 1 from by omega, List.take_set, List.take_succ_eq_append_getElem hlc,
      List.set_append_right _ _ (by simp only [List.length_take]; omega)]
    simp only [List.length_take, List.append_assoc, List.length_cons]
    rw [show off + j - min (off + j) cs.toList.length = 0 from by omega]
    simp only [List.set_cons_zero, List.cons_append, List.nil_append]
    rw [show off + j + 1 + vs.length = off + j + (vs.length + 1) from by omega]
theorem LR_one {l l' : List Value} (h : LR (V0 R) l l') : ∀ v ∈ l', (∀ x, v ≠ .agg x) ∧ (∀ x, v ≠ .tuple x) := by
  induction l generalizing l' with
  | nil => cases l' with
    | nil => simp
    | cons _ _ => exact h.elim
  | cons a l ih => cases l' with
    | nil => exact h.elim
    | cons b l' =>
      intro v hv
      rcases List.mem_cons.1 hv with rfl | hv
      · exact V0_one h.1
      · exact ih h.2 v hv
theorem evs_run (h : Rel w0 n R S a w) {β : Type} : ∀ (xs : List Operand) {k : List Value → Option β} {r : β}, evsK (evF S.fs) xs k none = some r →
    ∃ vs, k vs = some r ∧ LR (V2 R) vs (xs.map a.eval)
  | [], k, r, hr => ⟨[], hr, trivial⟩
  | x :: xs, k, r, hr => by
    simp only [evsK, oK_some] at hr
    obtain ⟨v, hv, hr⟩ := hr
    obtain ⟨vs, h1, h2⟩ := evs_run h xs hr
    exact ⟨v :: vs, h1, h.ev hv, h2⟩
theorem V2_undef : V2 R undef undef := ⟨_, rfl, trivial⟩
theorem list_drop_set {α : Type} (l v : List α) (d o s : Nat) (h : d + o ≤ l.length) : (l.take (d + o) ++ v ++ l.drop (d + o + s)).drop d = (l.drop d).take o ++ v ++ (l.drop d).drop (o + s) := by
  rw [List.append_assoc, List.drop_append, List.drop_take, List.length_take, show d + o - d = o from by omega, show d - min (d + o) l.length = 0 from by omega, List.drop_zero, List.drop_drop, List.append_assoc, Nat.add_assoc]
theorem size_set {α : Type} (l v : List α) (o s : Nat) (hv : v.length = s) (h : o + s ≤ l.length) : (l.take o ++ v ++ l.drop (o + s)).length = l.length := by
  simp only [List.length_append, List.length_take, List.length_drop]; omega
theorem LR_fits {ks : List CK} {l l' : List Value} (h : LR (V0 R) l l') (hf : fitsK ks l = true) : l' = l := (LR_plain (r := V0 R) (pl := pl0) (fun _ _ hv => V0_plain hv) (fitsK_pl hf)).1 h
theorem write_row {fm : Nat → Option Blk} (h : MRel w0 R fm w) {i : Nat} {ks : List CK} {m : Nat} {f : Nat → List Value} {e : TypeId} (hi : fm i = some ⟨.row ks m f, e, true⟩) {p : Pl} (hp : R i p) {b : Nat} (hb : p.a = some b)
    {cs : Array Value} (hw : w.heap[b]? = some (.cells cs e (0, 0))) {j off siz : Nat} {v v' : List Value} (hj : j < m) (hs : off + siz ≤ ks.length) (hv : v.length = siz) (hvv : LR (V0 R) v v')
    (hf : fitsK ks ((nrmK ks (f j)).take off ++ v ++ (nrmK ks (f j)).drop (off + siz)) = true) (hge : w0.X b ∨ w0.w.heap.size ≤ b) :
    MRel w0 R (upd fm i ⟨.row ks m (updR f j ((nrmK ks (f j)).take off ++ v ++ (nrmK ks (f j)).drop (off + siz))), e, true⟩)
      (setBlk w b (.cells (cs.toList.take (p.d + (j * ks.length + off)) ++ v' ++ cs.toList.drop (p.d + (j * ks.length + off) + siz)).toArray e (0, 0))) := by
  obtain ⟨p', hp', hc⟩ := memOk_row h hi
  have := h.func _ _ _ hp hp'; subst this
  rw [hb] at hc
  obtain ⟨cs', fz, h1, h2, h3⟩ := hc
  rw [hw] at h1
  simp only [Option.some.injEq, Obj.cells.injEq] at h1
  obtain ⟨rfl, _, rfl⟩ := h1
  have h2 : LP R (rowL ks f 0 m) (cs.toList.drop p.d) := h2
  have hl := LP_le h2
  rw [rowL_len, List.length_drop] at hl
  have hjl : j * ks.length + ks.length ≤ m * ks.length := by
    have := Nat.mul_le_mul_right ks.length (show j + 1 ≤ m by omega)
    rwa [Nat.add_mul, Nat.one_mul] at this
  have hv' : v'.length = siz := by rw [← LR_len hvv, hv]
  have hset := LP_set h2 hvv (off := j * ks.length + off) (by rw [rowL_len, hv]; omega)
  rw [hv, rowL_set ks f hj hs hv hf] at hset
  have hlt : ks.length = 0 ∨ p.d + (j * ks.length + off) ≤ cs.toList.length := by omega
  refine h.write hi hp hb rfl hw hge nofun nofun nofun ?_ ?_
  · show LP R (rowL ks _ 0 m) _
    rcases hlt with h0 | hlt
    · have : (rowL ks (updR f j ((nrmK ks (f j)).take off ++ v ++ (nrmK ks (f j)).drop (off + siz))) 0 m) = [] := List.length_eq_zero_iff.1 (by rw [rowL_len, h0, Nat.mul_zero])
      rw [this]; exact LP_nil
    · rw [List.toList_toArray, list_drop_set _ _ _ _ _ hlt]
      exact hset
  · show loose i = true → _
    intro hlo hc0
    have hroom := (h3 rfl).2.2 hlo hc0
    rw [List.size_toArray]
    by_cases h0 : siz = 0
    · subst h0
      have e1 : v' = [] := List.length_eq_zero_iff.1 hv'
      rw [e1, List.append_nil, Nat.add_zero, List.take_append_drop, Array.length_toList]; exact hroom
    · rw [size_set _ _ _ _ hv' (by omega), Array.length_toList]; exact hroom
theorem nid_lt {id k : Nat} (h : id < 60000) (hk : k < 8) : nid id k < 1000000 := by unfold nid; omega
theorem nid_loose {id k : Nat} (h : id < 60000) (hk : k < 8) : loose (nid id k) = true := by
  unfold loose nid
  rw [show Nat.ble 500000 (500000 + (8 * id + k)) = true from by rw [Nat.ble_eq]; omega, show Nat.blt (500000 + (8 * id + k)) 1000000 = true from by rw [Nat.blt_eq]; omega]; rfl
theorem ksOk_parts {j : TInf} (h : ksOk j = true) : j.eqk ≠ [] ∧ j.eqk.length = j.siz ∧ j.byt ≠ 0 ∧ j.zer.cells.size = j.siz := by
  unfold ksOk at h
  simp only [Bool.and_eq_true, Bool.not_eq_true'] at h
  obtain ⟨⟨⟨h1, h2⟩, h3⟩, h4⟩ := h
  refine ⟨fun e => by rw [e] at h1; simp at h1, nbeq.1 h2, fun e => by rw [e] at h3; simp at h3, ?_⟩
  rw [← Array.length_toList]; exact nbeq.1 h4
theorem szOk_le {n byt : Nat} (h : szOk n byt = true) : n * byt ≤ 140737488355328 := Nat.le_of_ble_eq_true h
theorem slice_V2 {id m c : Nat} {q : Pl} {v' : Value} (hid : loose id = true) (hR : R id q) (hc : c ≤ q.c) (hv : match q.a with
    | some b => v' = .slice (some ⟨b, q.d, none⟩) m q.c
    | none => m = 0 ∧ q.c = 0 ∧ Emp v') : V2 R (.slice (some ⟨id, 0, none⟩) m c) v' := by
  refine ⟨q, hR, ?_⟩
  unfold SlOk
  rw [if_pos hid]
  exact ⟨rfl, rfl, hc, hv⟩
theorem run_append_in {t ty e : TypeId} {ats : Array TypeId} {u : TypeId} {i : TypeInfo} (ht : P.underlying t = some (.slice e)) (h0 : ats[0]? = some t) (h1 : ats[1]? = some u) (hu : ∃ d, P.underlying u = some d ∧ ∀ k, d ≠ .int k) (hi : P.info? e = some i)
    {base : Option Addr} {m c q : Nat} {x : Value} {news : Array Value} (hlen : (Builtin.lenOf x).run P w = .ok q w) (hf : (Builtin.firstCells i.size q x).run P w = .ok news w) (hle : m + q ≤ c) :
    (Builtin.append_ ats ty #[.slice base m c, x]).run P w = (match base with
      | some a => ((storeCells (a.add (m * i.size)) news.toList).run P w).andThen fun _ w' => .ok (.slice base (m + q) c) w'
      | none => .ok (.slice none (m + q) c) w) := by
  obtain ⟨d, hd, hne⟩ := hu
  unfold Builtin.append_
  simp only [h0, h1, List.getElem?_toArray, List.getElem?_cons_zero, List.getElem?_cons_succ, Sem.run_bind, run_underlying ht, run_underlying hd, Result.andThen_ok, sizeOf, run_typeInfo w hi, Sem.run_pure, Bool.false_eq_true, if_false, hlen, hle, if_true, hf, Bool.not_false]
  cases base with
  | none => rfl
  | some a => simp only [Sem.run_bind, Sem.run_pure]
theorem run_append_new {t ty e : TypeId} {ats : Array TypeId} {u : TypeId} {i : TypeInfo} {z : Value} (ht : P.underlying t = some (.slice e)) (h0 : ats[0]? = some t) (h1 : ats[1]? = some u) (hu : ∃ d, P.underlying u = some d ∧ ∀ k, d ≠ .int k) (hi : P.info? e = some i) (hz : i.zero = some z)
    {base : Option Addr} {m c q : Nat} {x : Value} {olds news : List Value} (hlen : (Builtin.lenOf x).run P w = .ok q w) (hf : (Builtin.firstCells i.size q x).run P w.drew = .ok news.toArray w.drew) (hfo : (Builtin.firstCells i.size m (.slice base m c)).run P w.drew = .ok olds.toArray w.drew)
    (hg : c < m + q) (hb : i.bytes ≠ 0) (hsz : (m + q) * i.bytes ≤ 140737488355328) :
    (Builtin.append_ ats ty #[.slice base m c, x]).run P w = .ok (.slice (some ⟨w.heap.size, 0, none⟩) (m + q) (grownCap w (m + q) c e))
      (w.drew.alloc (.cells (olds.toArray ++ news.toArray ++ Builtin.zeroCells z.cells (grownCap w (m + q) c e - (m + q))) e)) := by
  obtain ⟨d, hd, hne⟩ := hu
  have hn : ¬ (m + q ≤ c) := by omega
  have hle : m + q ≤ 140737488355328 := Nat.le_trans (Nat.le_mul_of_pos_right _ (by omega)) hsz
  have h48 : ¬ (Builtin.nextslicecap (m + q) c * i.bytes > 2 ^ 48) := by
    have := growslice_fits (bytes := i.bytes) hg hsz
    omega
  have h63 : ¬ (((m + q : Nat) : Int) > IntKind.i64.max ∧ (False ∨ i.bytes = 0)) := by
    rintro ⟨_, h⟩; exact hb (h.resolve_left id)
  unfold Builtin.append_
  simp only [h0, h1, List.getElem?_toArray, List.getElem?_cons_zero, List.getElem?_cons_succ, Sem.run_bind, run_underlying ht, run_underlying hd, Result.andThen_ok, sizeOf, run_typeInfo w hi, Sem.run_pure, Bool.false_eq_true, if_false, hlen, hn, Bool.not_false, if_true]
  simp [hb, h48, Question.forced, typeInfo, zeroValue, hi, hz, hf, hfo, newRow, grownCap, askRoom]
  congr 2
  apply Array.ext'
  simp [List.append_assoc]
theorem grown_le (w : World) (need old : Nat) (e : TypeId) : need ≤ grownCap w need old e := by
  unfold grownCap Question.cut
  exact Nat.le_add_right _ _
end
end Go.W
/-
  The engine: stores, copies, appends, new slices.
-/
namespace Go.W
open Go.RowKit (Below)
section
variable {P : Program} {T : Tab} {G : Sums} {GL : Glob} {w0 : Wb GL} {w : World} {n : Nat} {R : Nat → Pl → Prop} {S : FS} {a : Act}
theorem sound_store (hT : TabOk P T) (h : Rel w0 n R S a w) {o : Oper} {t : Nat} {x y : Operand} (ho : o.op = .store t x y) {id : Nat} {r : Res} (hr : opS T G id o.op (evF S.fs) S.fm = some r) :
    r.val = undef ∧ ∃ w', (execOp a.eval o).run P w = .ok .skip w' ∧ MRel w0 R (memF S.fm r.mem) w' := by
  rw [ho] at hr
  simp only [opS, opK, oK_some, ptrK_some] at hr
  obtain ⟨va, hva, v, hv, b, off, rfl, hr⟩ := hr
  obtain ⟨q, bl, hq, hqa, hev⟩ := V2_ptr (h.ev hva)
  unfold storeK at hr
  simp only [oK_some] at hr
  obtain ⟨blk, hb, i, hi, hr⟩ := hr
  have hv2 := h.ev hv
  -- the run, of a block whose cells are known
  have run : ∀ (cs : Array Value) (e : TypeId), w.heap[bl]? = some (.cells cs e (0, 0)) → (a.eval y).cells.size = i.siz → q.d + off + i.siz ≤ cs.size → (∀ u ∈ (a.eval y).cells.toList, (∀ x, u ≠ .agg x) ∧ (∀ x, u ≠ .tuple x)) →
      (execOp a.eval o).run P w = .ok .skip (setBlk w bl (.cells (cs.toList.take (q.d + off) ++ (a.eval y).cells.toList ++ cs.toList.drop (q.d + off + i.siz)).toArray e (0, 0))) := by
    intro cs e h1 hsz hle hone
    simp only [execOp, ho, hev, Instr.storeAt, Instr.sureAddr, storeVar, Sem.run_bind, Sem.run_pure, Result.andThen_ok, run_size hT hi, hsz, ne_eq, not_true_eq_false, if_false]
    rw [run_storeCells _ 0 w cs h1 (by simp [hsz]; omega) hone]
    simp [hsz]
  obtain ⟨cells, elem, own⟩ := blk
  simp only at hr
  split at hr
  · -- a row of cells
    rename_i ks m f
    cases hag : isAggT i with
    | true =>
      rw [hag, cond_true] at hr
      obtain ⟨hc, hr2⟩ := cond_some.1 hr
      clear hr
      simp only [Bool.and_eq_true, Bool.not_eq_true'] at hc
      obtain ⟨⟨⟨⟨⟨hown, hlo⟩, hoff⟩, hsz0⟩, ht⟩, hlen⟩ := hc
      have hoff := nbeq.1 hoff
      have hsz0 := nbeq.1 hsz0
      have hlen := nbeq.1 hlen
      subst hown hoff
      have hr2 := (Option.some.inj hr2).symm
      subst hr2
      refine ⟨rfl, ?_⟩
      have hcl := V2_cells hv2 (notTup_ne ht)
      have l1 := LR_len hcl
      have hsz : (a.eval y).cells.size = i.siz := by rw [← Array.length_toList, ← l1, hlen]
      obtain ⟨cs, fz, k1, k2, k3, k4⟩ := row_cells h.m hb hq hqa
      obtain ⟨rfl, hge, _⟩ := k4 rfl
      have ecs : cs.toList.length = cs.size := Array.length_toList
      rw [List.length_drop, ecs, ← hsz0] at k3
      by_cases h0 : i.siz = 0
      · have e0 : (a.eval y).cells.toList = [] := List.length_eq_zero_iff.1 (by rw [Array.length_toList, hsz, h0])
        have e1 : v.cells.toList = [] := List.length_eq_zero_iff.1 (by rw [hlen, h0])
        refine ⟨w, ?_, ?_⟩
        · simp only [execOp, ho, hev, Instr.storeAt, Instr.sureAddr, storeVar, Sem.run_bind, Sem.run_pure, Result.andThen_ok, run_size hT hi, hsz, ne_eq, not_true_eq_false, if_false]
          rw [e0]; rfl
        · have hw := h.m.write (c := .lst []) (cs := cs) hb hq hqa rfl k1 hge nofun nofun nofun LP_nil (fun e => by rw [hlo] at e; simp at e)
          have hself : setBlk w bl (.cells cs elem (0, 0)) = w := by
            unfold setBlk
            have : w.heap.setIfInBounds bl (.cells cs elem (0, 0)) = w.heap := by
              apply Array.ext
              · simp
              · intro q h1 h2
                rw [Array.getElem_setIfInBounds (by simpa using h1)]
                by_cases hq2 : bl = q
                · subst hq2
                  rw [Array.getElem?_eq_getElem h2] at k1
                  rw [if_pos rfl, Option.some.inj k1]
                · rw [if_neg hq2]
            rw [this]
          simp only at hw
          rw [hself] at hw
          show MRel w0 R (upd S.fm b _) w
          rw [e1]; exact hw
      · refine ⟨_, run cs elem k1 hsz (by omega) (LR_one hcl), ?_⟩
        refine h.m.write hb hq hqa rfl k1 hge nofun nofun nofun ?_ (fun e => by rw [hlo] at e; simp at e)
        have hd0 : q.d ≤ cs.toList.length := by rw [ecs]; omega
        rw [List.toList_toArray, Nat.add_zero, List.append_assoc, List.drop_append, List.drop_of_length_le (by rw [List.length_take]; omega), List.nil_append, List.length_take, Nat.min_eq_left hd0, Nat.sub_self, List.drop_zero]
        show LR (V0 R) v.cells.toList (List.take v.cells.toList.length _)
        rw [hlen, List.take_left' (by rw [Array.length_toList, hsz])]
        exact hcl
    | false =>
    rw [hag, cond_false] at hr
    obtain ⟨s, c, h1, h2, h3, h4⟩ := cellK_some.1 hr
    obtain ⟨hc, h4⟩ := cond_some.1 h4
    simp only [Bool.and_eq_true] at hc
    obtain ⟨⟨hown, hck⟩, hs1⟩ := hc
    have hs1 := nbeq.1 hs1
    have hs : s = ⟨b, 0, m, ks, m, f, elem, own, [b]⟩ := by
      unfold segS segK at h1
      rw [hb] at h1
      exact (Option.some.inj h1).symm
    subst hs
    simp only at h2 h3 hown
    subst h2 hown
    have h4 := (Option.some.inj h4).symm; subst h4
    refine ⟨rfl, ?_⟩
    have hv3 : a.eval y = v := by
      rcases isCK_inv hck with ⟨_, _, _, rfl⟩ | ⟨_, _, rfl⟩ | ⟨_, _, rfl⟩ <;> exact (V2_plain (R := R) rfl).1 hv2
    have hcells : v.cells.toList = [v] := by
      rcases isCK_inv hck with ⟨_, _, _, rfl⟩ | ⟨_, _, rfl⟩ | ⟨_, _, rfl⟩ <;> rfl
    obtain ⟨cs, fz, k1, k2, k3, k4⟩ := row_cells h.m hb hq hqa
    obtain ⟨rfl, hge, _⟩ := k4 rfl
    have ecs : cs.toList.length = cs.size := Array.length_toList
    rw [List.length_drop, ecs] at k3
    simp only [List.length_cons, List.length_nil, Nat.zero_add, Nat.mul_one] at k3
    have hsz : (a.eval y).cells.size = i.siz := by rw [hv3, ← Array.length_toList, hcells, hs1]; rfl
    have hpl : pl0 v = true := by rcases isCK_inv hck with ⟨_, _, _, rfl⟩ | ⟨_, _, rfl⟩ | ⟨_, _, rfl⟩ <;> rfl
    refine ⟨_, run cs elem k1 hsz (by omega) ?_, ?_⟩
    · rw [hv3, hcells]
      intro u hu
      have : u = v := by simpa using hu
      subst this
      exact V0_one ((V0_plain (R := R) hpl).2 rfl)
    · have := write_row h.m hb hq hqa k1 (j := off) (off := 0) (siz := 1) (v := [v]) (v' := [v]) h3 (by simp) rfl ⟨(V0_plain (R := R) hpl).2 rfl, trivial⟩ (by
        simp only [nrmK, List.take_zero, List.nil_append, Nat.zero_add, List.drop_succ_cons, List.drop_nil, List.append_nil, fitsK, hck, Bool.and_self]) hge
      simp only [nrmK, List.take_zero, List.nil_append, Nat.zero_add, List.drop_succ_cons, List.drop_nil, List.append_nil, List.length_cons, List.length_nil, Nat.mul_one, Nat.add_zero] at this
      rw [hv3, hcells, hs1]
      simp only [memF, Nat.zero_add]
      exact this
  · -- what stands at the number
    rename_i hnr
    obtain ⟨A, hA, hr⟩ := accK_some.1 hr
    obtain ⟨hc, hr⟩ := cond_some.1 hr
    simp only [Bool.and_eq_true] at hc
    obtain ⟨⟨⟨⟨hown, ht⟩, hlen0⟩, hle0⟩, hok⟩ := hc
    have hlen := nbeq.1 hlen0
    have hle := Nat.le_of_ble_eq_true hle0
    clear hlen0 hle0
    cases hr
    refine ⟨rfl, ?_⟩
    have hcl := V2_cells hv2 (notTup_ne ht)
    have l1 := LR_len hcl
    have hsz : (a.eval y).cells.size = i.siz := by rw [← Array.length_toList, ← l1, hlen]
    rw [setL_eq hle] at hok ⊢
    unfold accS accK at hA
    rw [hb] at hA
    simp only [oK] at hA
    split at hA
    · rename_i l
      have hA := (Option.some.inj hA).symm; subst hA
      simp only at hown hle
      subst hown
      obtain ⟨p, hp, hcont⟩ := memOk_lst h.m hb
      have := h.m.func _ _ _ hq hp; subst this
      rw [hqa] at hcont
      obtain ⟨cs, fz, k1, k2, k3⟩ := hcont
      obtain ⟨rfl, hge, hroom⟩ := k3 rfl
      have k2 : LP R l (cs.toList.drop q.d) := k2
      have hl2 := LP_le k2
      rw [List.length_drop] at hl2
      have hpos : i.siz = 0 ∨ q.d + off + i.siz ≤ cs.toList.length := by omega
      rcases hpos with h0 | hpos
      · -- nothing is written
        have e0 : (a.eval y).cells.toList = [] := List.length_eq_zero_iff.1 (by rw [Array.length_toList, hsz, h0])
        have e1 : v.cells.toList = [] := List.length_eq_zero_iff.1 (by rw [hlen, h0])
        refine ⟨w, ?_, ?_⟩
        · simp only [execOp, ho, hev, Instr.storeAt, Instr.sureAddr, storeVar, Sem.run_bind, Sem.run_pure, Result.andThen_ok, run_size hT hi, hsz, ne_eq, not_true_eq_false, if_false]
          rw [e0]; rfl
        · have : upd S.fm b ⟨.lst (l.take off ++ v.cells.toList ++ l.drop (off + i.siz)), elem, true⟩ = S.fm := by
            rw [e1, List.append_nil, h0, Nat.add_zero, List.take_append_drop]
            exact upd_idem _ hb
          show MRel w0 R (upd S.fm b _) w
          rw [this]; exact h.m
      · refine ⟨_, run cs elem k1 hsz (by rw [Array.length_toList] at hpos; exact hpos) (LR_one hcl), ?_⟩
        have hset := LP_set k2 hcl (off := off) (by rw [hlen]; exact hle)
        rw [hlen] at hset
        refine h.m.write hb hq hqa rfl k1 hge nofun nofun nofun ?_ (fun e hc => by
          have h1 : q.d + q.c ≤ cs.size := hroom e hc
          rw [List.size_toArray, List.length_append, List.length_append, List.length_take, List.length_drop, Array.length_toList, Array.length_toList, hsz]
          rw [Array.length_toList] at hpos
          omega)
        rw [List.toList_toArray, list_drop_set _ _ _ _ _ (by omega)]
        exact hset
    · rename_i i0 j sz
      obtain ⟨s, hs, hA⟩ := segK_some.1 hA
      obtain ⟨hc, hA⟩ := cond_some.1 hA
      simp only [Bool.and_eq_true, Nat.blt_eq] at hc
      have hA := (Option.some.inj hA).symm; subst hA
      simp only at hown hle hok
      have hssz := nbeq.1 hc.2
      obtain ⟨p, q', bl', hp, hq', hpa, hqa', hd, _⟩ : ∃ p q b', R i0 p ∧ R b q ∧ p.a = some b' ∧ q.a = some b' ∧ q.d = p.d + j * sz ∧ own = false := h.m.mem b _ hb
      have := h.m.func _ _ _ hq hq'; subst this
      rw [hqa] at hqa'; cases hqa'
      obtain ⟨p0, cs, fz, g1, g2, g3, g4, g5, k1, k4, k5, k6⟩ := seg_cells h.m hs hp hpa (by omega)
      obtain ⟨rfl, hge⟩ := k6 hown
      rw [hown] at g4
      rw [nrmK_len] at hle
      have hdd : q.d = p0.d + (s.start + j) * s.ks.length := by rw [hd, g3, ← hssz, Nat.add_mul, Nat.add_assoc]
      have hjl : (s.start + j) * s.ks.length + s.ks.length ≤ s.n * s.ks.length := by
        have := Nat.mul_le_mul_right s.ks.length (show s.start + j + 1 ≤ s.n by omega)
        rwa [Nat.add_mul, Nat.one_mul] at this
      obtain ⟨cs', fz', r1, r2, r3, _⟩ := row_cells h.m g4 g1 g2
      rw [k1] at r1
      simp only [Option.some.injEq, Obj.cells.injEq] at r1
      obtain ⟨rfl, _, _⟩ := r1
      have ecs : cs.toList.length = cs.size := Array.length_toList
      rw [List.length_drop, ecs] at r3
      by_cases h0 : i.siz = 0
      · have e0 : (a.eval y).cells.toList = [] := List.length_eq_zero_iff.1 (by rw [Array.length_toList, hsz, h0])
        refine ⟨w, ?_, ?_⟩
        · simp only [execOp, ho, hev, Instr.storeAt, Instr.sureAddr, storeVar, Sem.run_bind, Sem.run_pure, Result.andThen_ok, run_size hT hi, hsz, ne_eq, not_true_eq_false, if_false]
          rw [e0]; rfl
        · have := write_row h.m g4 g1 g2 k1 (j := s.start + j) (off := off) (siz := i.siz) (v := v.cells.toList) (v' := (a.eval y).cells.toList) (by omega) hle hlen hcl hok hge
          have e2 : setBlk w bl (.cells (cs.toList.take (p0.d + ((s.start + j) * s.ks.length + off)) ++ (a.eval y).cells.toList ++ cs.toList.drop (p0.d + ((s.start + j) * s.ks.length + off) + i.siz)).toArray s.elem (0, 0)) = w := by
            rw [e0, List.append_nil, h0, Nat.add_zero, List.take_append_drop]
            have hlt := heap_lt k1
            unfold setBlk
            have : w.heap.setIfInBounds bl (.cells cs.toList.toArray s.elem (0, 0)) = w.heap := by
              apply Array.ext
              · simp
              · intro x h1 h2
                by_cases hx : bl = x
                · subst hx; rw [Array.getElem?_eq_getElem hlt] at k1; simp [Option.some.inj k1]
                · rw [Array.getElem_setIfInBounds_ne (h := hx)]
            rw [this]
          rw [e2] at this
          show MRel w0 R (upd S.fm s.base _) w
          rw [hown]; exact this
      · refine ⟨_, run cs s.elem k1 hsz (by omega) (LR_one hcl), ?_⟩
        have := write_row h.m g4 g1 g2 k1 (j := s.start + j) (off := off) (siz := i.siz) (v := v.cells.toList) (v' := (a.eval y).cells.toList) (by omega) hle hlen hcl hok hge
        rw [show p0.d + ((s.start + j) * s.ks.length + off) = q.d + off from by rw [hdd]; omega] at this
        show MRel w0 R (upd S.fm s.base _) _
        rw [hown]; exact this
    · obtain ⟨s, hs, hA⟩ := segK_some.1 hA
      have hA := (Option.some.inj hA).symm; subst hA
      simp at hown
end
end Go.W
/-
  The engine: copies, appends, new slices.
-/
namespace Go.W
open Go.RowKit (Below)
section
variable {P : Program} {T : Tab} {G : Sums} {GL : Glob} {w0 : Wb GL} {w : World} {n : Nat} {R : Nat → Pl → Prop} {S : FS} {a : Act}
theorem two_args {c : Call} {s x : Value} (hl : LR (V2 R) [s, x] (c.args.toList.map a.eval)) : ∃ s' x', c.args.map a.eval = #[s', x'] ∧ V2 R s s' ∧ V2 R x x' := by
  obtain ⟨x0, x1, hxs⟩ : ∃ x0 x1, c.args.toList = [x0, x1] := by
    have := LR_len hl
    simp at this
    match hx : c.args.toList with
    | [x0, x1] => exact ⟨x0, x1, rfl⟩
    | [] => rw [← Array.length_toList, hx] at this; simp at this
    | [_] => rw [← Array.length_toList, hx] at this; simp at this
    | _ :: _ :: _ :: _ => rw [← Array.length_toList, hx] at this; simp at this
  rw [hxs] at hl
  simp only [List.map_cons, List.map_nil, LR, and_true] at hl
  exact ⟨a.eval x0, a.eval x1, by apply Array.ext'; simp [hxs], hl.1, hl.2⟩
theorem row_one (ks : List CK) (g : Nat → List Value) (m lo : Nat) : ∀ v ∈ rowL ks g lo m, (∀ x, v ≠ .agg x) ∧ (∀ x, v ≠ .tuple x) := by
  intro v hv
  have := List.all_eq_true.1 (rowL_pl ks g m lo) v hv
  exact V0_one (R := fun _ _ => True) ((V0_plain this).2 rfl)
theorem LR_row (ks : List CK) (g : Nat → List Value) (m lo : Nat) : LR (V0 R) (rowL ks g lo m) (rowL ks g lo m) := (LR_plain (r := V0 R) (pl := pl0) (fun _ _ hv => V0_plain hv) (rowL_pl ks g m lo)).2 rfl
theorem sound_copy (hT : TabOk P T) (h : Rel w0 n R S a w) {c : Call} {d s : Value} {t : Nat} {l : List Nat} (hts : c.argTypes.toList = t :: l) (hl : LR (V2 R) [d, s] (c.args.toList.map a.eval)) {r : Res} (hr : copyK T t d s S.fm some none = some r) (ty : TypeId) :
    ∃ m w', r.val = .int .i64 ((m : Nat) : Int) ∧ (Builtin.copy_ c.argTypes ty (c.args.map a.eval)).run P w = .ok (.int .i64 ((m : Nat) : Int)) w' ∧ MRel w0 R (memF S.fm r.mem) w' := by
  unfold copyK at hr
  simp only [sliceK_some] at hr
  obtain ⟨b, off, m, c1, rfl, hr⟩ := hr
  obtain ⟨i, e, j, k1, k2, k3, k4, k5, hr⟩ := elemK_some.1 hr
  obtain ⟨dd, hd1, hd2, _⟩ := und_some hT k1
  have := hd2 k2; subst this; rw [k3] at hd1
  obtain ⟨q, hq, hr⟩ := srcK_some.1 hr
  obtain ⟨hke, hkl, _⟩ := ksOk_parts k5
  obtain ⟨d', s', hargs, hvd, hvs⟩ := two_args hl
  obtain ⟨hlen, hfirst⟩ := src_run (P := P) h.m hq hvs
  obtain ⟨p, hp, hsl⟩ := V2_slice hvd
  obtain ⟨a', c', hd'⟩ := SlOk_sl hsl
  have hat : c.argTypes[0]? = some t := by rw [← Array.getElem?_toList, hts]; rfl
  have hf := hfirst (min q.n m) (Nat.min_le_left _ _)
  rw [hkl] at hf
  have hrun : ∀ w', (match a' with
      | some ad => (storeCells ad (rowL j.eqk q.g 0 (min q.n m))).run P w
      | none => .ok () w) = .ok () w' → (Builtin.copy_ c.argTypes ty (c.args.map a.eval)).run P w = .ok (.int .i64 ((min q.n m : Nat) : Int)) w' := by
    intro w' hst
    unfold Builtin.copy_
    simp only [hargs, hat, hd', List.getElem?_toArray, List.getElem?_cons_zero, List.getElem?_cons_succ, Sem.run_bind, run_underlying hd1, Result.andThen_ok, hlen, run_size hT k4, Nat.min_def] at hf ⊢
    rw [hf]
    cases a' with
    | none =>
      simp only [Result.ok.injEq, true_and] at hst
      subst hst
      rfl
    | some ad =>
      simp only [Nat.min_def] at hst
      simp only [Sem.run_bind, Sem.run_pure, Result.andThen_ok, hst]
      rfl
  obtain ⟨blk, hb, hr⟩ := oK_some.1 hr
  obtain ⟨cells, elem, own⟩ := blk
  simp only at hr
  have hml : (rowL j.eqk q.g 0 (min q.n m)).length = min q.n m * j.siz := by rw [rowL_len, hkl]
  split at hr
  · rename_i ls
    obtain ⟨hc, hr⟩ := cond_some.1 hr
    simp only [Bool.and_eq_true] at hc
    obtain ⟨hown, hle⟩ := hc
    cases hr
    have hle := Nat.le_of_ble_eq_true hle
    subst hown
    obtain ⟨p', hp', hcont⟩ := memOk_lst h.m hb
    have := h.m.func _ _ _ hp hp'; subst this
    by_cases h0 : min q.n m = 0
    · -- nothing is copied
      refine ⟨min q.n m, w, rfl, hrun w ?_, ?_⟩
      · rw [h0]; cases a' <;> rfl
      · show MRel w0 R (upd S.fm b _) w
        rw [h0, Nat.zero_mul, Nat.add_zero]
        have : upd S.fm b ⟨.lst (ls.take off ++ rowL j.eqk q.g 0 0 ++ ls.drop off), elem, true⟩ = S.fm := by
          rw [show rowL j.eqk q.g 0 0 = [] from rfl, List.append_nil, List.take_append_drop]
          exact upd_idem _ hb
        rw [this]; exact h.m
    · obtain ⟨bl, c2, hpa, hsl2⟩ := SlOk_some hsl (by omega)
      rw [hd'] at hsl2
      simp only [Value.slice.injEq, true_and] at hsl2
      obtain ⟨rfl, rfl⟩ := hsl2
      rw [hpa] at hcont
      obtain ⟨cs, fz, g1, g2, g3⟩ := hcont
      obtain ⟨rfl, hge, hroom⟩ := g3 rfl
      have g2 : LP R ls (cs.toList.drop p.d) := g2
      have hl2 := LP_le g2
      rw [List.length_drop] at hl2
      have ecs : cs.toList.length = cs.size := Array.length_toList
      have hsp : 0 < min q.n m * j.siz := by
        have : 0 < j.eqk.length := List.length_pos_iff.2 hke
        rw [hkl] at this
        exact Nat.mul_pos (by omega) this
      refine ⟨min q.n m, _, rfl, hrun _ (run_storeCells _ 0 w cs g1 (by rw [hml]; omega) (row_one _ _ _ _)), ?_⟩
      rw [hml]
      have hset := LP_set g2 (LR_row (R := R) j.eqk q.g (min q.n m) 0) (off := off) (by rw [hml]; exact hle)
      rw [hml] at hset
      refine h.m.write hb hp hpa rfl g1 hge nofun nofun nofun ?_ (fun e hc => by
        have h1 : p.d + p.c ≤ cs.size := hroom e hc
        rw [List.size_toArray, List.length_append, List.length_append, List.length_take, List.length_drop, hml]
        omega)
      rw [List.toList_toArray, Nat.add_zero, list_drop_set _ _ _ _ _ (by omega)]
      exact hset
  · obtain ⟨s0, hs, hr⟩ := segK_some.1 hr
    obtain ⟨hc, hr⟩ := cond_some.1 hr
    simp only [Bool.and_eq_true] at hc
    obtain ⟨⟨⟨hown, hoff⟩, hle⟩, hks⟩ := hc
    have hoff := nbeq.1 hoff
    have hle := Nat.le_of_ble_eq_true hle
    have hks := ksEq_eq hks
    cases hr
    subst hoff
    by_cases h0 : min q.n m = 0
    · refine ⟨min q.n m, w, rfl, hrun w ?_, ?_⟩
      · rw [h0]; cases a' <;> rfl
      · obtain ⟨p0, hp0, hbase, _, _⟩ := seg_ok h.m hs hp
        rw [hown] at hbase
        show MRel w0 R (upd S.fm s0.base _) w
        rw [h0]
        -- the same elements
        have e : rowL s0.ks (cpyF s0.f s0.start 0 q.g) 0 s0.n = rowL s0.ks s0.f 0 s0.n := rowL_congr _ _ _ (fun x _ _ => by
          unfold cpyF
          cases hx : (Nat.ble s0.start x && Nat.blt x (s0.start + 0)) with
          | false => rfl
          | true =>
            simp only [Bool.and_eq_true, Nat.ble_eq, Nat.blt_eq] at hx
            omega)
        obtain ⟨p1, hp1, hcont⟩ := memOk_row h.m hbase
        refine ⟨h.m.below, h.m.func, ?_, ?_, ?_, h.m.anc, h.m.there, fun i1 p1 h1 hge1 => by
          obtain ⟨h2, h3⟩ := h.m.fro i1 p1 h1 hge1
          refine ⟨h2, fun j1 q1 hj1 hq1 blk1 hblk1 => ?_⟩
          by_cases e1 : s0.base = j1
          · subst e1; have := h3 _ _ hj1 hq1 _ hbase; simp at this
          · rw [upd_ne _ _ e1] at hblk1; exact h3 _ _ hj1 hq1 _ hblk1⟩
        · intro i0 j0 p2 q2 b2 h5 h6 ha hb2 hne blk0 hblk0 hown0 blk1 hblk1
          by_cases e1 : s0.base = i0
          · subst e1
            simp only [upd_ne _ _ hne] at hblk1
            exact h.m.inj _ _ _ _ _ h5 h6 ha hb2 hne _ hbase rfl blk1 hblk1
          · simp only [upd_ne _ _ e1] at hblk0
            by_cases e2 : s0.base = j0
            · subst e2
              have := (h.m.inj _ _ _ _ _ h5 h6 ha hb2 hne blk0 hblk0 hown0 _ hbase).1
              simp at this
            · simp only [upd_ne _ _ e2] at hblk1
              exact h.m.inj _ _ _ _ _ h5 h6 ha hb2 hne blk0 hblk0 hown0 blk1 hblk1
        · intro j0 blk0 hblk0
          by_cases e1 : s0.base = j0
          · subst e1
            simp only [upd_same, Option.some.injEq] at hblk0
            subst hblk0
            refine ⟨p1, hp1, ?_⟩
            cases hpa : p1.a with
            | none =>
              rw [hpa] at hcont
              have hcont : rowL s0.ks s0.f 0 s0.n = [] := hcont
              show rowL s0.ks _ 0 s0.n = []
              rw [e]; exact hcont
            | some bl =>
              rw [hpa] at hcont
              obtain ⟨cs, fz, g1, g2, g3⟩ := hcont
              refine ⟨cs, fz, g1, ?_, g3⟩
              show LP R (rowL s0.ks _ 0 s0.n) _
              rw [e]; exact g2
          · simp only [upd_ne _ _ e1] at hblk0
            exact h.m.mem _ _ hblk0
        · intro j0 p2 hj hvb
          by_cases e1 : s0.base = j0
          · subst e1; simp [upd_same]
          · simp only [upd_ne _ _ e1]; exact h.m.dom _ _ hj hvb
    · obtain ⟨bl, c2, hpa, hsl2⟩ := SlOk_some hsl (by omega)
      rw [hd'] at hsl2
      simp only [Value.slice.injEq, true_and] at hsl2
      obtain ⟨rfl, rfl⟩ := hsl2
      obtain ⟨p0, cs, fz, g1, g2, g3, g4, g5, g6, g7, g8, g9⟩ := seg_cells h.m hs hp hpa (by omega)
      obtain ⟨rfl, hge⟩ := g9 hown
      rw [hown] at g4
      obtain ⟨cs', fz', r1, r2, r3, r4⟩ := row_cells h.m g4 g1 g2
      rw [g6] at r1
      simp only [Option.some.injEq, Obj.cells.injEq] at r1
      obtain ⟨rfl, _, _⟩ := r1
      have ecs : cs.toList.length = cs.size := Array.length_toList
      rw [List.length_drop] at r3 g8
      have hmm : min q.n m * j.siz ≤ s0.cnt * s0.ks.length := by
        rw [hks, hkl]
        exact Nat.mul_le_mul_right _ (by omega)
      have hsp : 0 < min q.n m * j.siz := by
        have : 0 < j.eqk.length := List.length_pos_iff.2 hke
        rw [hkl] at this
        exact Nat.mul_pos (by omega) this
      refine ⟨min q.n m, _, rfl, hrun _ (run_storeCells _ 0 w cs g6 (by rw [hml]; omega) (row_one _ _ _ _)), ?_⟩
      rw [hml]
      have g10 : LP R (rowL s0.ks s0.f 0 s0.n) (cs.toList.drop p0.d) := LP_plain (rowL_pl _ _ _ _) (by rw [rowL_len]; exact r2)
      have hsn : s0.start * s0.ks.length + min q.n m * j.siz ≤ s0.n * s0.ks.length := by
        have := Nat.mul_le_mul_right s0.ks.length (show s0.start + s0.cnt ≤ s0.n by omega)
        rw [Nat.add_mul] at this
        omega
      have hset := LP_set g10 (LR_row (R := R) j.eqk q.g (min q.n m) 0) (off := s0.start * s0.ks.length) (by rw [hml, rowL_len]; exact hsn)
      rw [hml] at hset
      have hcp := rowL_cpy s0.ks s0.f q.g s0.start (min q.n m) s0.n (by omega)
      rw [hks, hkl] at hcp
      rw [hks, hkl, ← hcp, ← hks] at hset
      refine h.m.write g4 g1 g2 rfl g6 hge nofun nofun nofun ?_ ?_
      · show LP R (rowL s0.ks _ 0 s0.n) _
        rw [List.toList_toArray, Nat.add_zero, g3, list_drop_set _ _ _ _ _ (by omega), hks, hkl, ← hks]
        exact hset
      · show loose s0.base = true → _
        intro hlo hc0
        have := (r4 rfl).2.2 hlo hc0
        rw [List.size_toArray, Nat.add_zero, size_set _ _ _ _ hml (by omega), ecs]; exact this
end
end Go.W
/-
  The engine: appends, new slices.
-/
namespace Go.W
open Go.RowKit (Below)
section
variable {P : Program} {T : Tab} {G : Sums} {GL : Glob} {w0 : Wb GL} {w : World} {n : Nat} {R : Nat → Pl → Prop} {S : FS} {a : Act}
theorem upd_upd {α : Type} (f : Nat → Option α) (t : Nat) (v u : α) : upd (upd f t v) t u = upd f t u := by
  funext s
  by_cases h : t = s
  · subst h; rw [upd_same, upd_same]
  · rw [upd_ne _ _ h, upd_ne _ _ h, upd_ne _ _ h]
theorem srcS_lst {mm : Nat → Option Blk} {b off m c : Nat} {l : List Value} {e : TypeId} {own : Bool} {ks : List CK} (hb : mm b = some ⟨.lst l, e, own⟩) (hle : off + m * ks.length ≤ l.length) (hf : fitsK (repK m ks) ((l.drop off).take (m * ks.length)) = true) :
    srcS mm ks (.slice (some ⟨b, off, none⟩) m c) = some ⟨m, lstF l off ks.length, [b]⟩ := by
  have e1 : Nat.ble (off + m * ks.length) l.length = true := by rw [Nat.ble_eq]; exact hle
  simp only [srcS, srcK, hb, oK, e1, hf, Bool.and_self, cond_true]
theorem srcS_row {mm : Nat → Option Blk} {b m n c : Nat} {f : Nat → List Value} {e : TypeId} {own : Bool} {ks : List CK} (hb : mm b = some ⟨.row ks n f, e, own⟩) (hle : m ≤ n) :
    srcS mm ks (.slice (some ⟨b, 0, none⟩) m c) = some ⟨m, segF ⟨b, 0, n, ks, n, f, e, own, [b]⟩, [b]⟩ := by
  have e1 : Nat.ble m n = true := by rw [Nat.ble_eq]; exact hle
  have e2 : Nat.beq 0 0 = true := rfl
  simp only [srcS, srcK, segK, hb, oK, e1, e2, ksEq_refl, Bool.and_self, cond_true]
theorem zeroCells_size (z : Array Value) (k : Nat) : (Builtin.zeroCells z k).size = k * z.size := by simp [Builtin.zeroCells]
theorem append_newP {fm : Nat → Option Blk} (h : MRel w0 R fm w) {id : Nat} (hid : fm (nid id 0) = none) (hlt : id < 60000) {ks : List CK} {tot C : Nat} {f : Nat → List Value} {e : TypeId} {olds news : List Value} {z : Array Value} (hf : rowL ks f 0 tot = olds ++ news) (hC : tot ≤ C) (hz : z.size = ks.length) :
    ∃ R' : Nat → Pl → Prop, (∃ p, R' (nid id 0) p ∧ p.a = some w.heap.size) ∧ (∀ i p, R i p → R' i p) ∧ V2 R' (.slice (some ⟨nid id 0, 0, none⟩) tot tot) (.slice (some ⟨w.heap.size, 0, none⟩) tot C) ∧
      MRel w0 R' (upd fm (nid id 0) ⟨.row ks tot f, e, true⟩) (w.drew.alloc (.cells (olds.toArray ++ news.toArray ++ Builtin.zeroCells z (C - tot)) e)) := by
  have hm := h.world (w' := w.drew) (Below.refl w.heap.size w).drew
  have hlen : (olds ++ news).length = tot * ks.length := by rw [← hf, rowL_len]
  refine ⟨_, ⟨_, .inr ⟨rfl, rfl⟩, rfl⟩, fun _ _ => .inl, ?_, hm.alloc hid (nid_lt hlt (by omega)) (cap := C) nofun nofun nofun ?_ ?_⟩
  · exact slice_V2 (nid_loose hlt (by omega)) (.inr ⟨rfl, rfl⟩) hC rfl
  · show LP R (rowL ks f 0 tot) _
    refine LP_plain (rowL_pl _ _ _ _) ?_
    rw [hf, List.length_append]
    simp only [Array.toList_append, List.append_assoc]
    rw [← List.append_assoc, List.take_left' (by rw [List.length_append])]
  · show loose (nid id 0) = true → _
    intro _ _
    simp only [Array.size_append, List.size_toArray, zeroCells_size, hz]
    rw [List.length_append] at hlen
    show 0 + C * ks.length ≤ _
    rw [hlen, Nat.zero_add, ← Nat.add_mul, show tot + (C - tot) = C from by omega]
    exact Nat.le_refl _
theorem append_new {fm : Nat → Option Blk} (h : MRel w0 R fm w) {id : Nat} (hid : fm (nid id 0) = none) (hlt : id < 60000) {ks : List CK} {tot C : Nat} {f : Nat → List Value} {e : TypeId} {olds news : List Value} {z : Array Value} (hf : rowL ks f 0 tot = olds ++ news) (hC : tot ≤ C) (hz : z.size = ks.length) :
    ∃ R' : Nat → Pl → Prop, (∀ i p, R i p → R' i p) ∧ V2 R' (.slice (some ⟨nid id 0, 0, none⟩) tot tot) (.slice (some ⟨w.heap.size, 0, none⟩) tot C) ∧
      MRel w0 R' (upd fm (nid id 0) ⟨.row ks tot f, e, true⟩) (w.drew.alloc (.cells (olds.toArray ++ news.toArray ++ Builtin.zeroCells z (C - tot)) e)) := by
  obtain ⟨R', _, h1⟩ := append_newP h hid hlt (e := e) hf hC hz
  exact ⟨R', h1⟩
theorem forget_free {fm : Nat → Option Blk} (h : MRel w0 R fm w) {b bl : Nat} {blk : Blk} {p : Pl} (hb : fm b = some blk) (hown : blk.own = true) (hp : R b p) (hpa : p.a = some bl) (e : TypeId) :
    ∀ j q blk', R j q → q.a = some bl → upd fm b ⟨.lst [], e, false⟩ j = some blk' → weak blk' := by
  intro j q blk' hq hqa hj
  by_cases e1 : b = j
  · subst e1
    rw [upd_same] at hj
    cases hj; exact ⟨rfl, rfl⟩
  · rw [upd_ne _ _ e1] at hj
    exact h.inj _ _ _ _ _ hp hq hpa hqa e1 blk hb hown blk' hj
theorem sound_append (hT : TabOk P T) (h : Rel w0 n R S a w) {c : Call} {s x : Value} {t : Nat} {l : List Nat} (hts : c.argTypes.toList = t :: l) (happ : appT T c.argTypes.toList = true) (hl : LR (V2 R) [s, x] (c.args.toList.map a.eval)) {id : Nat} {r : Res} (hr : appendK T t s x id S.fm some none = some r) (ty : TypeId) :
    ∃ (R' : Nat → Pl → Prop) (v' : Value) (w' : World), (∀ i p, R i p → R' i p) ∧ (Builtin.append_ c.argTypes ty (c.args.map a.eval)).run P w = .ok v' w' ∧ V2 R' r.val v' ∧ MRel w0 R' (memF S.fm r.mem) w' := by
  unfold appendK at hr
  obtain ⟨i, e, j, k1, k2, k3, k4, k5, hr⟩ := elemK_some.1 hr
  obtain ⟨dd, hd1, hd2, _⟩ := und_some hT k1
  have := hd2 k2; subst this; rw [k3] at hd1
  obtain ⟨hke, hkl, hkb, hkz⟩ := ksOk_parts k5
  obtain ⟨inf, hinf, hsz, hzer, hbyt⟩ := info_of hT k4
  obtain ⟨hc, hr⟩ := cond_some.1 hr
  simp only [Bool.and_eq_true, Nat.blt_eq] at hc
  obtain ⟨hlt, hnone⟩ := hc
  have hnone := Option.isNone_iff_eq_none.1 hnone
  obtain ⟨q, hq, hr⟩ := srcK_some.1 hr
  obtain ⟨s', x', hargs, hvs, hvx⟩ := two_args hl
  obtain ⟨hlen, hfirst⟩ := src_run (P := P) h.m hq hvx
  have hmd := h.m.world (w' := w.drew) (Below.refl w.heap.size w).drew
  obtain ⟨_, hfirstd⟩ := src_run (P := P) hmd hq hvx
  -- the two types
  obtain ⟨u, hl2, hu⟩ : ∃ u, l = [u] ∧ ∃ d, P.underlying u = some d ∧ ∀ k, d ≠ .int k := by
    rw [hts] at happ
    unfold appT at happ
    split at happ
    · rename_i u0 u heq
      simp only [List.cons.injEq] at heq
      refine ⟨u, heq.2, ?_⟩
      cases hlk : look T u with
      | none => rw [hlk] at happ; simp [oK] at happ
      | some i2 =>
        rw [hlk] at happ
        obtain ⟨d, e1, e2, e3⟩ := und_some hT hlk
        refine ⟨d, e1, fun k hk => ?_⟩
        simp only [oK, descK] at happ
        cases hst : i2.st with
        | true => obtain ⟨fs, e4, _⟩ := e3 hst; rw [e4] at hk; cases hk
        | false =>
          have e4 := e2 hst
          rw [hst, cond_false] at happ
          rw [← e4, hk] at happ
          simp at happ
    · simp at happ
  subst hl2
  have h0 : c.argTypes[0]? = some t := by rw [← Array.getElem?_toList, hts]; rfl
  have h1 : c.argTypes[1]? = some u := by rw [← Array.getElem?_toList, hts]; rfl
  have hf0 := hfirst q.n (Nat.le_refl _)
  have hfd := hfirstd q.n (Nat.le_refl _)
  rw [hkl, ← hsz] at hf0 hfd
  rw [hargs]
  have hks : inf.size = j.eqk.length := by rw [hsz, hkl]
  -- nil
  have nilCase : ∀ (a0 : Option Addr) (fm : Nat → Option Blk) (f : Nat → List Value), MRel w0 R fm w → fm (nid id 0) = none → rowL j.eqk f 0 q.n = rowL j.eqk q.g 0 q.n → szOk q.n j.byt = true →
      ∃ (R' : Nat → Pl → Prop) (v' : Value) (w' : World), (∀ i p, R i p → R' i p) ∧ (Builtin.append_ c.argTypes ty #[.slice a0 0 0, x']).run P w = .ok v' w' ∧ V2 R' (.slice (some ⟨nid id 0, 0, none⟩) q.n q.n) v' ∧ MRel w0 R' (upd fm (nid id 0) ⟨.row j.eqk q.n f, e, true⟩) w' := by
    intro a0 fm f hm hid hrow hso
    by_cases hq0 : q.n = 0
    · have hrun0 := run_append_in (ty := ty) hd1 h0 h1 hu hinf (base := a0) (m := 0) (c := 0) (hlen w) hf0 (by omega)
      have hrun : (Builtin.append_ c.argTypes ty #[.slice a0 0 0, x']).run P w = .ok (.slice a0 0 0) w := by
        rw [hrun0, hq0]
        cases a0 with
        | none => rfl
        | some ad => simp [rowL, storeCells]
      refine ⟨_, _, _, fun _ _ => .inl, hrun, ?_, hm.view (q := ⟨none, 0, 0⟩) hid (nid_lt hlt (by omega)) (.inr (.inl rfl)) nofun ?_⟩
      · exact slice_V2 (nid_loose hlt (by omega)) (.inr ⟨rfl, rfl⟩) (by rw [hq0]; exact Nat.le_refl _) ⟨hq0, rfl, a0, rfl⟩
      · intro R' _ hR
        refine ⟨⟨none, 0, 0⟩, hR, ?_⟩
        show rowL j.eqk f 0 q.n = []
        rw [hq0]; rfl
    · have hrun := run_append_new (ty := ty) hd1 h0 h1 hu hinf hzer (base := a0) (m := 0) (c := 0) (olds := []) (hlen w) hfd (by cases a0 <;> simp [Builtin.firstCells, loadCells, loadCellsFrom]) (by omega) (by rw [hbyt]; exact hkb) (by rw [hbyt, Nat.zero_add]; exact szOk_le hso)
      rw [Nat.zero_add] at hrun
      obtain ⟨R', h5, h6, h7⟩ := append_new hm hid hlt (e := e) (C := grownCap w q.n 0 e) (olds := []) (news := rowL j.eqk q.g 0 q.n) (z := j.zer.cells) (f := f) (tot := q.n) (by rw [hrow]; rfl) (grown_le _ _ _ _) (by rw [hkz, hkl])
      exact ⟨R', _, _, h5, hrun, h6, h7⟩
  rcases slK_some.1 hr with ⟨m, cc, rfl, hr⟩ | ⟨b, off, m, cc, rfl, hr⟩
  · obtain ⟨hc, hr⟩ := cond_some.1 hr
    simp only [Bool.and_eq_true] at hc
    obtain ⟨⟨e1, e2⟩, hso⟩ := hc
    cases hr
    have e1 := nbeq.1 e1
    have e2 := nbeq.1 e2
    subst e1 e2
    have := (V2_plain (R := R) (v := .slice none 0 0) rfl).1 hvs; subst this
    exact nilCase none S.fm q.g h.m hnone rfl hso
  · obtain ⟨hso, hr⟩ := cond_some.1 hr
    obtain ⟨blk, hb, hr⟩ := oK_some.1 hr
    obtain ⟨cells, elem, own⟩ := blk
    simp only at hr
    have hbn : b ≠ nid id 0 := fun e => by rw [e, hnone] at hb; simp at hb
    obtain ⟨p, hp, hsl⟩ := V2_slice hvs
    split at hr
    · -- a literal's own row
      rename_i ls
      obtain ⟨hc, hr⟩ := cond_some.1 hr
      simp only [Bool.and_eq_true, Bool.not_eq_true'] at hc
      obtain ⟨⟨⟨⟨⟨hlo, hown⟩, hcm⟩, hel⟩, hle⟩, hfit⟩ := hc
      cases hr
      have hcm := nbeq.1 hcm
      have hel : elem = e := nbeq.1 hel
      have hle := Nat.le_of_ble_eq_true hle
      subst hcm hown hel
      obtain ⟨bl, hpa, rfl⟩ := SlOk_tight hlo hsl
      have hsrc : srcS S.fm j.eqk (.slice (some ⟨b, off, none⟩) cc cc) = some ⟨cc, lstF ls off j.eqk.length, [b]⟩ := by
        exact srcS_lst hb (by rw [hkl]; exact hle) (by rw [hkl]; exact hfit)
      obtain ⟨_, holdd⟩ := src_run (P := P) hmd hsrc hvs
      have hdead : upd S.fm b ⟨.lst [], elem, false⟩ (nid id 0) = none := by rw [upd_ne _ _ hbn]; exact hnone
      have hmf := h.m.forget hb nofun nofun
      have hrow := rowL_app j.eqk cc q.n (lstF ls off j.siz) q.g
      show ∃ R' v' w', _ ∧ _ ∧ _ ∧ MRel w0 R' (upd (upd S.fm b ⟨.lst [], elem, false⟩) (nid id 0) _) w'
      by_cases hq0 : q.n = 0
      · have hrun := run_append_in (ty := ty) hd1 h0 h1 hu hinf (base := some ⟨bl, p.d + off, none⟩) (m := cc) (c := cc) (hlen w) hf0 (by omega)
        simp only [hq0, rowL, storeCells, Sem.run_pure, Result.andThen_ok] at hrun
        obtain ⟨p', hp', hcont⟩ := memOk_lst h.m hb
        have := h.m.func _ _ _ hp hp'; subst this
        rw [hpa] at hcont
        obtain ⟨cs, fz, g1, g2, g3⟩ := hcont
        obtain ⟨rfl, hge, _⟩ := g3 rfl
        have g2 : LP R ls (cs.toList.drop p.d) := g2
        have hl2 := LP_le g2
        rw [List.length_drop] at hl2
        have ecs : cs.toList.length = cs.size := Array.length_toList
        refine ⟨_, _, _, fun _ _ => .inl, hrun, ?_, hmf.rename (q := ⟨some bl, p.d + off, cc⟩) hdead (nid_lt hlt (by omega)) (forget_free h.m hb rfl hp hpa elem) (fun hf => by have := h.m.frz_own hf hp hpa hb; simp at this) rfl g1 hge nofun nofun nofun ?_ ?_⟩
        · exact slice_V2 (nid_loose hlt (by omega)) (.inr ⟨rfl, rfl⟩) (by rw [hq0]; exact Nat.le_refl _) (by rw [hq0])
        · show LP R (rowL j.eqk _ 0 (cc + q.n)) _
          rw [hrow, hq0]
          have e5 := rowL_lst (ks := j.eqk) (l := ls) (off := off) (n := cc) (by rw [hkl]; exact hfit) cc (Nat.le_refl _)
          rw [hkl] at e5
          show LP R (rowL j.eqk (lstF ls off j.siz) 0 cc ++ []) _
          rw [List.append_nil, e5]
          have e6 := LP_part g2 (off := off) (n := cc * j.siz) hle
          unfold LP
          rw [← List.drop_drop, List.length_take, List.length_drop, Nat.min_eq_left (by omega)]
          exact e6
        · show loose (nid id 0) = true → _
          intro _ hc0
          have : 0 < j.eqk.length := List.length_pos_iff.2 hke
          have : 0 < cc * j.siz := Nat.mul_pos (by simp only at hc0; omega) (by omega)
          show p.d + off + cc * j.eqk.length ≤ cs.size
          rw [hkl]; omega
      · have hrun := run_append_new (ty := ty) hd1 h0 h1 hu hinf hzer (base := some ⟨bl, p.d + off, none⟩) (m := cc) (c := cc) (hlen w) hfd (by rw [hsz, ← hkl]; exact holdd cc (Nat.le_refl _)) (by omega) (by rw [hbyt]; exact hkb) (by rw [hbyt]; exact szOk_le hso)
        obtain ⟨R', h5, h6, h7⟩ := append_new hmf hdead hlt (e := elem) (C := grownCap w (cc + q.n) cc elem) (z := j.zer.cells) (tot := cc + q.n) (f := appF cc (lstF ls off j.siz) q.g) (by rw [hrow, ← hkl]) (grown_le _ _ _ _) (by rw [hkz, hkl])
        exact ⟨R', _, _, h5, hrun, h6, h7⟩
    · -- a row that was made so
      rename_i ks n0 f
      cases hlo : loose b with
      | false =>
        -- no room behind it
        rw [hlo, cond_false] at hr
        obtain ⟨hc, hr⟩ := cond_some.1 hr
        simp only [Bool.and_eq_true, Nat.blt_eq] at hc
        obtain ⟨⟨⟨hoff, hmn⟩, hgr⟩, hkk⟩ := hc
        cases hr
        have hoff := nbeq.1 hoff
        have hmn := nbeq.1 hmn
        have hkk := ksEq_eq hkk
        subst hmn hkk hoff
        obtain ⟨bl, hpa, rfl⟩ := SlOk_tight hlo hsl
        have hsrc : srcS S.fm j.eqk (.slice (some ⟨b, 0, none⟩) m cc) = some ⟨m, segF ⟨b, 0, m, j.eqk, m, f, elem, own, [b]⟩, [b]⟩ := by
          exact srcS_row hb (Nat.le_refl _)
        obtain ⟨_, holdd⟩ := src_run (P := P) hmd hsrc hvs
        have ho := holdd m (Nat.le_refl _)
        have e7 : rowL j.eqk (segF ⟨b, 0, m, j.eqk, m, f, elem, own, [b]⟩) 0 m = rowL j.eqk f 0 m := by
          have := rowL_seg ⟨b, 0, m, j.eqk, m, f, elem, own, [b]⟩ m 0
          simpa using this
        simp only [e7] at ho
        have hrow := rowL_app j.eqk m q.n f q.g
        have hrun := run_append_new (ty := ty) hd1 h0 h1 hu hinf hzer (base := some ⟨bl, p.d + 0, none⟩) (m := m) (c := cc) (olds := rowL j.eqk f 0 m) (hlen w) hfd (by rw [hks]; exact ho) (by omega) (by rw [hbyt]; exact hkb) (by rw [hbyt]; exact szOk_le hso)
        obtain ⟨R', h5, h6, h7⟩ := append_new h.m hnone hlt (e := e) (C := grownCap w (m + q.n) cc e) (z := j.zer.cells) (tot := m + q.n) (f := appF m f q.g) hrow (grown_le _ _ _ _) (by rw [hkz, hkl])
        exact ⟨R', _, _, h5, hrun, h6, h7⟩
      | true =>
      rw [hlo, cond_true] at hr
      obtain ⟨hc, hr⟩ := cond_some.1 hr
      simp only [Bool.and_eq_true] at hc
      obtain ⟨⟨⟨⟨hown, hoff⟩, hmn⟩, hel⟩, hkk⟩ := hc
      cases hbb : Nat.ble 1500000 b with
      | true =>
        -- there is room behind it
        rw [hbb, cond_true] at hr
        obtain ⟨hc, hr⟩ := cond_some.1 hr
        simp only [Bool.and_eq_true, Nat.blt_eq] at hc
        obtain ⟨⟨hin, hm0⟩, hq0⟩ := hc
        have hin := Nat.le_of_ble_eq_true hin
        cases hr
        have hoff := nbeq.1 hoff
        have hmn := nbeq.1 hmn
        have hel : elem = e := nbeq.1 hel
        have hkk := ksEq_eq hkk
        subst hmn hown hel hkk hoff
        have hrow := rowL_app j.eqk m q.n f q.g
        obtain ⟨_, hcc, ⟨bl, hpa, rfl⟩ | ⟨_, hm1, _, _⟩⟩ := SlOk_loose hlo hsl
        · obtain ⟨cs, fz, g1, g2, g3, g4⟩ := row_cells h.m hb hp hpa
          obtain ⟨rfl, hge, hroom⟩ := g4 rfl
          have hroom := hroom hlo (by omega)
          have ecs : cs.toList.length = cs.size := Array.length_toList
          rw [List.length_drop, ecs] at g3
          have hrun := run_append_in (ty := ty) hd1 h0 h1 hu hinf (base := some ⟨bl, p.d, none⟩) (m := m) (c := p.c) (hlen w) hf0 (by omega)
          have hlenN : (rowL j.eqk q.g 0 q.n).length = q.n * j.eqk.length := rowL_len _ _ _ _
          have hfits : m * j.eqk.length + q.n * j.eqk.length ≤ p.c * j.eqk.length := by rw [← Nat.add_mul]; exact Nat.mul_le_mul_right _ (by omega)
          have hst := run_storeCells (P := P) (e := elem) (b := bl) (off := p.d + m * j.eqk.length) (rowL j.eqk q.g 0 q.n) 0 w cs g1 (by rw [hlenN]; omega) (row_one _ _ _ _)
          simp only [Nat.add_zero, hlenN] at hst
          simp only [addr_add, hks, hst, Result.andThen_ok] at hrun
          have hD : (cs.toList.take (p.d + m * j.eqk.length) ++ rowL j.eqk q.g 0 q.n ++ cs.toList.drop (p.d + m * j.eqk.length + q.n * j.eqk.length)).drop p.d = rowL j.eqk (appF m f q.g) 0 (m + q.n) ++ (cs.toList.drop p.d).drop (m * j.eqk.length + q.n * j.eqk.length) := by
            rw [list_drop_set _ _ _ _ _ (by omega), hrow, g2]
          have hLP : LP R (rowL j.eqk (appF m f q.g) 0 (m + q.n)) ((cs.toList.take (p.d + m * j.eqk.length) ++ rowL j.eqk q.g 0 q.n ++ cs.toList.drop (p.d + m * j.eqk.length + q.n * j.eqk.length)).toArray.toList.drop p.d) := by
            rw [List.toList_toArray, hD]
            exact LP_plain (rowL_pl _ _ _ _) (List.take_left' rfl)
          have hsize : (cs.toList.take (p.d + m * j.eqk.length) ++ rowL j.eqk q.g 0 q.n ++ cs.toList.drop (p.d + m * j.eqk.length + q.n * j.eqk.length)).toArray.size = cs.size := by
            rw [List.size_toArray, size_set _ _ _ _ hlenN (by omega), ecs]
          have hw := h.m.write hb hp hpa rfl g1 hge (c := .row j.eqk (m + q.n) (appF m f q.g)) nofun nofun nofun hLP (by rw [hsize]; exact fun _ hc0 => (show p.d + p.c * j.eqk.length ≤ cs.size from hroom))
          exact ⟨R, _, _, fun _ _ h => h, hrun, slice_V2 hlo hp hcc (by rw [hpa]), hw⟩
        · omega
      | false =>
      rw [hbb, cond_false] at hr
      cases hr
      have hoff := nbeq.1 hoff
      have hmn := nbeq.1 hmn
      have hel : elem = e := nbeq.1 hel
      have hkk := ksEq_eq hkk
      subst hmn hown hel hkk hoff
      have hdead : upd S.fm b ⟨.lst [], elem, false⟩ (nid id 0) = none := by rw [upd_ne _ _ hbn]; exact hnone
      have hmf := h.m.forget hb nofun nofun
      have hrow := rowL_app j.eqk m q.n f q.g
      show ∃ R' v' w', _ ∧ _ ∧ _ ∧ MRel w0 R' (upd (upd S.fm b ⟨.lst [], elem, false⟩) (nid id 0) _) w'
      obtain ⟨_, hcc, ⟨bl, hpa, rfl⟩ | ⟨hpa, hm0, hc0, a0, rfl⟩⟩ := SlOk_loose hlo hsl
      · obtain ⟨cs, fz, g1, g2, g3, g4⟩ := row_cells h.m hb hp hpa
        obtain ⟨rfl, hge, hroom⟩ := g4 rfl
        have hroom := hroom hlo
        have ecs : cs.toList.length = cs.size := Array.length_toList
        rw [List.length_drop, ecs] at g3
        by_cases hin : m + q.n ≤ p.c
        · have hrun := run_append_in (ty := ty) hd1 h0 h1 hu hinf (base := some ⟨bl, p.d, none⟩) (m := m) (c := p.c) (hlen w) hf0 hin
          by_cases hq0 : q.n = 0
          · simp only [hq0, rowL, storeCells, Sem.run_pure, Result.andThen_ok] at hrun
            refine ⟨_, _, _, fun _ _ => .inl, hrun, ?_, hmf.rename (q := p) hdead (nid_lt hlt (by omega)) (forget_free h.m hb rfl hp hpa elem) (fun hf => by have := h.m.frz_own hf hp hpa hb; simp at this) hpa g1 hge nofun nofun nofun ?_ ?_⟩
            · exact slice_V2 (nid_loose hlt (by omega)) (.inr ⟨rfl, rfl⟩) hin (by rw [hpa, hq0])
            · show LP R (rowL j.eqk _ 0 (m + q.n)) _
              rw [hrow, hq0]
              show LP R (rowL j.eqk f 0 m ++ []) _
              rw [List.append_nil]
              exact LP_plain (rowL_pl _ _ _ _) (by rw [rowL_len]; exact g2)
            · show loose (nid id 0) = true → _
              intro _ hc0; exact hroom hc0
          · have hroom := hroom (by omega)
            have hlenN : (rowL j.eqk q.g 0 q.n).length = q.n * j.eqk.length := rowL_len _ _ _ _
            have hfits : m * j.eqk.length + q.n * j.eqk.length ≤ p.c * j.eqk.length := by rw [← Nat.add_mul]; exact Nat.mul_le_mul_right _ hin
            have hst := run_storeCells (P := P) (e := elem) (b := bl) (off := p.d + m * j.eqk.length) (rowL j.eqk q.g 0 q.n) 0 w cs g1 (by rw [hlenN]; omega) (row_one _ _ _ _)
            simp only [Nat.add_zero, hlenN] at hst
            simp only [addr_add, hks, hst, Result.andThen_ok] at hrun
            have hD : (cs.toList.take (p.d + m * j.eqk.length) ++ rowL j.eqk q.g 0 q.n ++ cs.toList.drop (p.d + m * j.eqk.length + q.n * j.eqk.length)).drop p.d = rowL j.eqk (appF m f q.g) 0 (m + q.n) ++ (cs.toList.drop p.d).drop (m * j.eqk.length + q.n * j.eqk.length) := by
              rw [list_drop_set _ _ _ _ _ (by omega), hrow, g2]
            have hLP : LP R (rowL j.eqk (appF m f q.g) 0 (m + q.n)) ((cs.toList.take (p.d + m * j.eqk.length) ++ rowL j.eqk q.g 0 q.n ++ cs.toList.drop (p.d + m * j.eqk.length + q.n * j.eqk.length)).toArray.toList.drop p.d) := by
              rw [List.toList_toArray, hD]
              exact LP_plain (rowL_pl _ _ _ _) (List.take_left' rfl)
            have hsize : (cs.toList.take (p.d + m * j.eqk.length) ++ rowL j.eqk q.g 0 q.n ++ cs.toList.drop (p.d + m * j.eqk.length + q.n * j.eqk.length)).toArray.size = cs.size := by
              rw [List.size_toArray, size_set _ _ _ _ hlenN (by omega), ecs]
            have hw := h.m.write hb hp hpa rfl g1 hge (c := .row j.eqk (m + q.n) (appF m f q.g)) nofun nofun nofun hLP (by rw [hsize]; exact fun _ hc0 => (show p.d + p.c * j.eqk.length ≤ cs.size from hroom))
            have hw2 := hw.forget (i := b) (blk := ⟨.row j.eqk (m + q.n) (appF m f q.g), elem, true⟩) (upd_same _ _ _) nofun nofun
            rw [upd_upd] at hw2
            refine ⟨_, _, _, fun _ _ => .inl, hrun, ?_, hw2.rename (q := p) hdead (nid_lt hlt (by omega)) (forget_free h.m hb rfl hp hpa elem) (fun hf => by have := h.m.frz_own hf hp hpa hb; simp at this) hpa (setBlk_same (heap_lt g1)) hge nofun nofun nofun hLP ?_⟩
            · exact slice_V2 (nid_loose hlt (by omega)) (.inr ⟨rfl, rfl⟩) hin (by rw [hpa])
            · show loose (nid id 0) = true → _
              intro _ _; rw [hsize]; exact hroom
        · have hsrc : srcS S.fm j.eqk (.slice (some ⟨b, 0, none⟩) m cc) = some ⟨m, segF ⟨b, 0, m, j.eqk, m, f, elem, true, [b]⟩, [b]⟩ := by
            exact srcS_row hb (Nat.le_refl _)
          obtain ⟨_, holdd⟩ := src_run (P := P) hmd hsrc hvs
          have ho := holdd m (Nat.le_refl _)
          have e7 : rowL j.eqk (segF ⟨b, 0, m, j.eqk, m, f, elem, true, [b]⟩) 0 m = rowL j.eqk f 0 m := by
            have := rowL_seg ⟨b, 0, m, j.eqk, m, f, elem, true, [b]⟩ m 0
            simpa using this
          simp only [e7] at ho
          have hrun := run_append_new (ty := ty) hd1 h0 h1 hu hinf hzer (base := some ⟨bl, p.d, none⟩) (m := m) (c := p.c) (olds := rowL j.eqk f 0 m) (hlen w) hfd (by rw [hks]; exact ho) (by omega) (by rw [hbyt]; exact hkb) (by rw [hbyt]; exact szOk_le hso)
          obtain ⟨R', h5, h6, h7⟩ := append_new hmf hdead hlt (e := elem) (C := grownCap w (m + q.n) p.c elem) (z := j.zer.cells) (tot := m + q.n) (f := appF m f q.g) hrow (grown_le _ _ _ _) (by rw [hkz, hkl])
          exact ⟨R', _, _, h5, hrun, h6, h7⟩
      · subst hm0
        have := nilCase a0 (upd S.fm b ⟨.lst [], elem, false⟩) (appF 0 f q.g) hmf hdead (by
          have := rowL_app j.eqk 0 q.n f q.g
          rw [Nat.zero_add] at this
          exact this) (by rw [Nat.zero_add] at hso; exact hso)
        simp only [Nat.zero_add]
        exact this
    · simp at hr
end
end Go.W
/-
  The engine: slices of slices that grow.
-/
namespace Go.W
open Go.RowKit (Below)
section
variable {GL : Glob} {w0 : Wb GL} {R : Nat → Pl → Prop} {fm : Nat → Option Blk} {w : World}
theorem MRel.freeze (h : MRel w0 R fm w) {b : Nat} {ks : List CK} {n : Nat} {f : Nat → List Value} {e : TypeId} (hb : fm b = some ⟨.row ks n f, e, true⟩) :
    ∃ R' : Nat → Pl → Prop, (∀ i p, R i p → R' i p) ∧ (∀ i p, R' i p → i < 1000000000 → R i p) ∧ MRel w0 R' (upd fm b ⟨.row ks n f, e, false⟩) w ∧ ∀ p bl, R b p → p.a = some bl → Frz R' bl := by
  obtain ⟨p, hp, hc⟩ := memOk_row h hb
  have noOwn : ∀ bl, p.a = some bl → ∀ j q, R j q → q.a = some bl → ∀ blk, upd fm b ⟨.row ks n f, e, false⟩ j = some blk → blk.own = false := by
    intro bl hpa j q hj hq blk hblk
    by_cases e1 : b = j
    · subst e1; rw [upd_same] at hblk; cases hblk; rfl
    · rw [upd_ne _ _ e1] at hblk
      exact (h.inj b j p q bl hp hj hpa hq e1 _ hb rfl blk hblk).1
  refine ⟨fun i q => R i q ∨ ∃ bl, p.a = some bl ∧ i = 1000000000 + bl ∧ q = ⟨some bl, 0, 0⟩, fun _ _ => .inl, ?_, ⟨h.below, ?_, ?_, ?_, ?_, ?_, ?_, ?_⟩, ?_⟩
  · rintro i q (h1 | ⟨bl, _, rfl, _⟩) hlt
    · exact h1
    · omega
  · rintro i q q' (h1 | ⟨bl, g1, rfl, rfl⟩) (h2 | ⟨bl', g2, g3, rfl⟩)
    · exact h.func _ _ _ h1 h2
    · subst g3
      have := (h.fro _ _ h1 (Nat.le_add_right _ _)).1
      rw [this, Nat.add_sub_cancel_left]
    · have := (h.fro _ _ h2 (Nat.le_add_right _ _)).1
      rw [this, Nat.add_sub_cancel_left]
    · have : bl = bl' := by omega
      rw [this]
  · rintro i j q q' b2 hq hq' ha hb2 hne blk hblk hown blk' hblk'
    by_cases e1 : b = i
    · subst e1; rw [upd_same] at hblk; cases hblk; simp at hown
    · rw [upd_ne _ _ e1] at hblk
      rcases hq with hq | ⟨bl, g1, rfl, rfl⟩
      · rcases hq' with hq' | ⟨bl, g1, rfl, rfl⟩
        · by_cases e2 : b = j
          · subst e2
            have := (h.inj _ _ _ _ _ hq hq' ha hb2 hne blk hblk hown _ hb).1
            simp at this
          · rw [upd_ne _ _ e2] at hblk'
            exact h.inj _ _ _ _ _ hq hq' ha hb2 hne blk hblk hown blk' hblk'
        · cases hb2
          have := noOwn _ g1 i q hq ha blk (by rw [upd_ne _ _ e1]; exact hblk)
          rw [this] at hown; simp at hown
      · -- an own block whose number is a mark: none
        have h5 := h.mem _ _ hblk
        have h6 : ∃ p, R (1000000000 + bl) p := by
          unfold MemOk at h5
          split at h5
          · obtain ⟨_, q, _, _, h6, _⟩ := h5; exact ⟨q, h6⟩
          · obtain ⟨_, q, _, h6, _⟩ := h5; exact ⟨q, h6⟩
          · obtain ⟨p, h6, _⟩ := h5; exact ⟨p, h6⟩
          · obtain ⟨p, h6, _⟩ := h5; exact ⟨p, h6⟩
        obtain ⟨p6, h6⟩ := h6
        have h7 := h.fro _ _ h6 (Nat.le_add_right _ _)
        have := h7.2 _ _ h6 rfl blk hblk
        rw [this] at hown; simp at hown
  · intro i blk hi
    by_cases e1 : b = i
    · subst e1
      rw [upd_same] at hi
      cases hi
      refine ⟨p, .inl hp, ?_⟩
      cases hpa : p.a with
      | none => rw [hpa] at hc; exact hc
      | some bl =>
        rw [hpa] at hc
        obtain ⟨cs, fz, g1, g2, _⟩ := hc
        exact ⟨cs, fz, g1, LP_mono (fun _ _ => .inl) g2, fun ho => by simp at ho⟩
    · rw [upd_ne _ _ e1] at hi
      have hm1 := h.mem i blk hi
      unfold MemOk at hm1 ⊢
      split at hm1
      · obtain ⟨p, q, b, k1, k2, k3⟩ := hm1; exact ⟨p, q, b, .inl k1, .inl k2, k3⟩
      · obtain ⟨p, q, k1, k2, k3⟩ := hm1; exact ⟨p, q, .inl k1, .inl k2, k3⟩
      · exact hm1.mono (fun _ _ => .inl) (fun _ _ => rfl) (fun _ _ _ _ _ => rfl)
      · obtain ⟨p, k1, k2⟩ := hm1
        refine ⟨p, .inl k1, ?_⟩
        cases hpa : p.a with
        | none => rw [hpa] at k2; exact k2
        | some b =>
          rw [hpa] at k2
          obtain ⟨cs', fz, k3, k4, k5⟩ := k2
          exact ⟨cs', fz, k3, LP_mono (fun _ _ => .inl) k4, k5⟩
  · rintro i q (h1 | ⟨bl, g1, rfl, rfl⟩) hvb
    · by_cases e1 : b = i
      · subst e1; simp [upd_same]
      · rw [upd_ne _ _ e1]; exact h.dom _ _ h1 hvb
    · omega
  · rintro i q (h1 | ⟨bl, g1, rfl, rfl⟩) hge hvb
    · exact h.anc _ _ h1 hge hvb
    · omega
  · rintro i q b2 (h1 | ⟨bl, g1, rfl, rfl⟩) hb2
    · exact h.there _ _ _ h1 hb2
    · cases hb2; exact h.there _ _ _ hp g1
  · rintro i q (h1 | ⟨bl, g1, rfl, rfl⟩) hge
    · obtain ⟨h2, h3⟩ := h.fro i q h1 hge
      refine ⟨h2, ?_⟩
      rintro j q2 (h4 | ⟨bl, g1, rfl, rfl⟩) hq2 blk hblk
      · by_cases e1 : b = j
        · subst e1; rw [upd_same] at hblk; cases hblk; rfl
        · rw [upd_ne _ _ e1] at hblk; exact h3 j q2 h4 hq2 blk hblk
      · by_cases e1 : b = 1000000000 + bl
        · rw [← e1, upd_same] at hblk; cases hblk; rfl
        · rw [upd_ne _ _ e1] at hblk
          cases ho : blk.own with
          | false => rfl
          | true =>
            have h5 := h.mem _ _ hblk
            have h6 : ∃ p, R (1000000000 + bl) p := by
              unfold MemOk at h5
              split at h5
              · obtain ⟨_, q, _, _, h6, _⟩ := h5; exact ⟨q, h6⟩
              · obtain ⟨_, q, _, h6, _⟩ := h5; exact ⟨q, h6⟩
              · obtain ⟨p, h6, _⟩ := h5; exact ⟨p, h6⟩
              · obtain ⟨p, h6, _⟩ := h5; exact ⟨p, h6⟩
            obtain ⟨p6, h6⟩ := h6
            have := (h.fro _ _ h6 (Nat.le_add_right _ _)).2 _ _ h6 rfl blk hblk
            rw [this] at ho; simp at ho
    · refine ⟨by rw [Nat.add_sub_cancel_left], ?_⟩
      rintro j q2 (h4 | ⟨bl', g2, rfl, rfl⟩) hq2 blk hblk
      · exact noOwn bl g1 j q2 h4 hq2 blk hblk
      · by_cases e1 : b = 1000000000 + bl'
        · rw [← e1, upd_same] at hblk; cases hblk; rfl
        · rw [upd_ne _ _ e1] at hblk
          cases ho : blk.own with
          | false => rfl
          | true =>
            have h5 := h.mem _ _ hblk
            have h6 : ∃ p, R (1000000000 + bl') p := by
              unfold MemOk at h5
              split at h5
              · obtain ⟨_, q, _, _, h6, _⟩ := h5; exact ⟨q, h6⟩
              · obtain ⟨_, q, _, h6, _⟩ := h5; exact ⟨q, h6⟩
              · obtain ⟨p, h6, _⟩ := h5; exact ⟨p, h6⟩
              · obtain ⟨p, h6, _⟩ := h5; exact ⟨p, h6⟩
            obtain ⟨p6, h6⟩ := h6
            have := (h.fro _ _ h6 (Nat.le_add_right _ _)).2 _ _ h6 rfl blk hblk
            rw [this] at ho; simp at ho
  · intro q bl hq hqa
    have := h.func _ _ _ hq hp; subst this
    exact .inr ⟨bl, hqa, rfl, rfl⟩
theorem MRel.refam {i : Nat} {e : TypeId} (h : MRel w0 R (upd fm i ⟨.lst [], e, true⟩) w) {ks : List CK} {n : Nat} {es : Nat → TypeId} {g : Nat → Nat × (Nat → List Value)} (hf : FamOk w0 R w i e true ks n es g) : MRel w0 R (upd fm i ⟨.fam ks n es g, e, true⟩) w := by
  refine ⟨h.below, h.func, ?_, ?_, ?_, h.anc, h.there, ?_⟩
  · intro i0 j0 p0 q0 b0 h5 h6 ha hb hne blk0 hblk0 hown0 blk1 hblk1
    by_cases e1 : i = i0
    · subst e1
      rw [upd_ne _ _ hne] at hblk1
      exact h.inj _ _ _ _ _ h5 h6 ha hb hne _ (upd_same _ _ _) rfl blk1 (by rw [upd_ne _ _ hne]; exact hblk1)
    · rw [upd_ne _ _ e1] at hblk0
      by_cases e2 : i = j0
      · subst e2
        have := (h.inj _ _ _ _ _ h5 h6 ha hb hne blk0 (by rw [upd_ne _ _ e1]; exact hblk0) hown0 _ (upd_same _ _ _)).1
        simp at this
      · rw [upd_ne _ _ e2] at hblk1
        exact h.inj _ _ _ _ _ h5 h6 ha hb hne blk0 (by rw [upd_ne _ _ e1]; exact hblk0) hown0 blk1 (by rw [upd_ne _ _ e2]; exact hblk1)
  · intro j blk hj
    by_cases e1 : i = j
    · subst e1; rw [upd_same] at hj; cases hj; exact hf
    · rw [upd_ne _ _ e1] at hj
      exact h.mem j blk (by rw [upd_ne _ _ e1]; exact hj)
  · intro j q hj hvb
    by_cases e1 : i = j
    · subst e1; simp [upd_same]
    · have := h.dom j q hj hvb
      rw [upd_ne _ _ e1] at this ⊢; exact this
  · intro i1 p1 h1 hge
    obtain ⟨h2, h3⟩ := h.fro i1 p1 h1 hge
    refine ⟨h2, fun j q hj hq blk hblk => ?_⟩
    by_cases e1 : i = j
    · subst e1
      have := h3 _ _ hj hq _ (upd_same _ _ _)
      simp at this
    · rw [upd_ne _ _ e1] at hblk
      exact h3 _ _ hj hq blk (by rw [upd_ne _ _ e1]; exact hblk)
end
section
variable {P : Program} {T : Tab} {GL : Glob} {w0 : Wb GL} {w : World} {n : Nat} {R : Nat → Pl → Prop} {S : FS} {a : Act}
theorem sound_appF (hT : TabOk P T) (h : Rel w0 n R S a w) {c : Call} {s x : Value} {t : Nat} {l : List Nat} (hts : c.argTypes.toList = t :: l) (happ : appT T c.argTypes.toList = true) (hl : LR (V2 R) [s, x] (c.args.toList.map a.eval)) {id : Nat} {r : Res} (hr : appFK T t s x id S.fm some none = some r) (ty : TypeId) :
    ∃ (R' : Nat → Pl → Prop) (v' : Value) (w' : World), (∀ i p, R i p → R' i p) ∧ (Builtin.append_ c.argTypes ty (c.args.map a.eval)).run P w = .ok v' w' ∧ V2 R' r.val v' ∧ MRel w0 R' (memF S.fm r.mem) w' := by
  obtain ⟨i, e, j, q, o, k1, k2, k3, k4, hq, ho, hsz, hby, hlt, hnone, hz1, hcase⟩ := appF_iff hr
  have hnone := Option.isNone_iff_eq_none.1 hnone
  obtain ⟨dd, hd1, hd2, _⟩ := und_some hT k1
  have := hd2 k2; subst this; rw [k3] at hd1
  obtain ⟨inf, hinf, hisz, hzer, hbyt⟩ := info_of hT k4
  obtain ⟨s', x', hargs, hvs, hvx⟩ := two_args hl
  obtain ⟨u, hl2, hu⟩ : ∃ u, l = [u] ∧ ∃ d, P.underlying u = some d ∧ ∀ k, d ≠ .int k := by
    rw [hts] at happ
    unfold appT at happ
    split at happ
    · rename_i u0 u heq
      simp only [List.cons.injEq] at heq
      refine ⟨u, heq.2, ?_⟩
      cases hlk : look T u with
      | none => rw [hlk] at happ; simp [oK] at happ
      | some i2 =>
        rw [hlk] at happ
        obtain ⟨d, e1, e2, e3⟩ := und_some hT hlk
        refine ⟨d, e1, fun k hk => ?_⟩
        simp only [oK, descK] at happ
        cases hst : i2.st with
        | true => obtain ⟨fs, e4, _⟩ := e3 hst; rw [e4] at hk; cases hk
        | false =>
          have e4 := e2 hst
          rw [hst, cond_false] at happ
          rw [← e4, hk] at happ
          simp at happ
    · simp at happ
  subst hl2
  have h0 : c.argTypes[0]? = some t := by rw [← Array.getElem?_toList, hts]; rfl
  have h1 : c.argTypes[1]? = some u := by rw [← Array.getElem?_toList, hts]; rfl
  rw [hargs]
  -- the slice that is appended
  obtain ⟨off2, c2, l2, e2, own2, rfl, hb2, hget⟩ := oneSl_some hq
  obtain ⟨p2, hp2, hsl2⟩ := V2_slice hvx
  obtain ⟨b2', c2', hpa2, rfl⟩ := SlOk_some hsl2 (by omega)
  obtain ⟨p2', hp2', hcont2⟩ := memOk_lst h.m hb2
  have := h.m.func _ _ _ hp2 hp2'; subst this
  rw [hpa2] at hcont2
  obtain ⟨cs2, fz2, g1, g2, _⟩ := hcont2
  have g2 : LP R l2 (cs2.toList.drop p2.d) := g2
  obtain ⟨v', g3, g4⟩ := LP_get g2 hget
  rw [List.getElem?_drop] at g3
  have hlen2 : p2.d + off2 < cs2.toList.length := by
    rcases Nat.lt_or_ge (p2.d + off2) cs2.toList.length with h | h
    · exact h
    · rw [List.getElem?_eq_none h] at g3; simp at g3
  have hone : (cs2.toList.drop (p2.d + off2)).take 1 = [v'] := by
    rw [List.drop_eq_getElem_cons hlen2]
    rw [List.getElem?_eq_getElem hlen2] at g3
    rw [Option.some.inj g3]; rfl
  have hlen : ∀ w, (Builtin.lenOf (.slice (some ⟨b2', p2.d + off2, none⟩) 1 c2')).run P w = .ok 1 w := fun w => rfl
  have hsize : inf.size = 1 := by rw [hisz]; exact hsz
  have hfirst : ∀ w1 : World, w1.heap[b2']? = some (.cells cs2 e2 fz2) → (Builtin.firstCells inf.size 1 (.slice (some ⟨b2', p2.d + off2, none⟩) 1 c2')).run P w1 = .ok [v'].toArray w1 := by
    intro w1 hw1
    simp only [Builtin.firstCells, hsize, Nat.mul_one]
    rw [run_loads hw1 (by rw [List.length_drop]; omega), hone]
  have hf0 := hfirst w g1
  have hfd := hfirst w.drew g1
  have hfd : (Builtin.firstCells inf.size 1 (.slice (some ⟨b2', p2.d + off2, none⟩) 1 c2')).run P w.drew = .ok ([v'] : List Value).toArray w.drew := hfd
  -- its row
  obtain ⟨c3, hq2, hb3, hlo3, hn3, hc3⟩ := ownRow_some ho
  rw [hq2] at g4
  obtain ⟨p3, hp3, hsl3⟩ : ∃ p, R o.num p ∧ SlOk ⟨o.num, 0, none⟩ o.n c3 p v' := g4
  have hv1 : ∀ cs, v' ≠ .agg cs ∧ ∀ cs, v' ≠ .tuple cs := fun cs => by
    obtain ⟨_, _, rfl⟩ := SlOk_sl hsl3
    exact ⟨nofun, nofun⟩
  obtain ⟨R1, m1, m2, hm1, hfrz⟩ := h.m.freeze hb3
  -- what is known of it from there on
  have hrow : ∀ (R2 : Nat → Pl → Prop) (w2 : World), (∀ i p, R1 i p → R2 i p) → (∀ bl, p3.a = some bl → w2.heap[bl]? = w.heap[bl]?) → RowAt R2 w2 o.elem o.ks o.n o.g v' := by
    intro R2 w2 hR2 hw2
    obtain ⟨_, hcc, ⟨bl, hpa3, rfl⟩ | ⟨hpa3, hn0, _, he5⟩⟩ := SlOk_loose hlo3 hsl3
    · obtain ⟨cs3, fz3, z1, z2, z3, _⟩ := row_cells h.m hb3 hp3 hpa3
      refine .inr ⟨bl, p3.d, p3.c, cs3, fz3, rfl, by omega, hR2 _ _ (hfrz p3 bl hp3 hpa3), by rw [hw2 bl hpa3]; exact z1, ?_⟩
      have := congrArg (List.take (o.n * o.ks.length)) z2
      rw [List.take_take, Nat.min_eq_left (Nat.mul_le_mul_right _ hn3), rowL_take o.ks o.g o.n o.tot 0 hn3] at this
      exact this
    · exact .inl ⟨hn0, he5⟩
  have hnew3 : (o.n = 0 ∧ Emp v') ∨ ∃ bl d m5 c5, v' = .slice (some ⟨bl, d, none⟩) m5 c5 ∧ (w0.X bl ∨ w0.w.heap.size ≤ bl) := by
    obtain ⟨_, _, ⟨bl3, hpa3, hv6⟩ | ⟨_, hn0, _, hv6⟩⟩ := SlOk_loose hlo3 hsl3
    · exact .inr ⟨bl3, _, _, _, hv6, h.m.ownX hp3 hpa3 hb3 rfl⟩
    · exact .inl ⟨hn0, hv6⟩
  have hid3 : o.num ≠ nid id 0 := fun e3 => by rw [e3, hnone] at hb3; simp at hb3
  have hid1 : upd S.fm o.num ⟨.row o.ks o.tot o.g, o.elem, false⟩ (nid id 0) = none := by rw [upd_ne _ _ hid3]; exact hnone
  have h3lt : ∀ bl, p3.a = some bl → bl < w.heap.size := fun bl hb => h.m.lt hp3 hb
  -- a new block
  have newBlk : ∀ (fm : Nat → Option Blk), MRel w0 R1 fm w → fm (nid id 0) = none → ∀ (olds : List Value) (ks : List CK) (tot C : Nat) (es : Nat → TypeId) (g : Nat → Nat × (Nat → List Value)), olds.length + 1 = tot → tot ≤ C → ks = o.ks →
      (∀ jj, jj < olds.length → ∃ v, olds[jj]? = some v ∧ RowAt R1 w (es jj) ks (g jj).1 (g jj).2 v ∧ (((g jj).1 = 0 ∧ Emp v) ∨ ∃ bl d m c, v = .slice (some ⟨bl, d, none⟩) m c ∧ (w0.X bl ∨ w0.w.heap.size ≤ bl))) → es olds.length = o.elem → g olds.length = (o.n, o.g) →
      ∃ R' : Nat → Pl → Prop, (∀ i p, R1 i p → R' i p) ∧ V2 R' (.slice (some ⟨nid id 0, 0, none⟩) tot tot) (.slice (some ⟨w.heap.size, 0, none⟩) tot C) ∧
        MRel w0 R' (upd fm (nid id 0) ⟨.fam ks tot es g, e, true⟩) (w.drew.alloc (.cells (olds.toArray ++ ([v'] : List Value).toArray ++ Builtin.zeroCells j.zer.cells (C - tot)) e)) := by
    intro fm hm hid olds ks tot C es g htot hC hks hold hes hgg
    subst hks
    have hm := hm.world (w' := w.drew) (Below.refl w.heap.size w).drew
    have hal := hm.alloc hid (nid_lt hlt (by omega)) (cap := C) (c := .lst []) (cs := olds.toArray ++ ([v'] : List Value).toArray ++ Builtin.zeroCells j.zer.cells (C - tot)) (e := e) (own := true) nofun nofun nofun LP_nil (fun _ _ => by
      simp only [Array.size_append, List.size_toArray, zeroCells_size, List.length_cons, List.length_nil]
      have hz1 : j.zer.cells.size = 1 := by rw [← Array.length_toList]; exact hz1
      rw [hz1]
      show 0 + C ≤ _
      omega)
    have hheap : ∀ bl, bl < w.heap.size → (w.drew.alloc (.cells (olds.toArray ++ ([v'] : List Value).toArray ++ Builtin.zeroCells j.zer.cells (C - tot)) e)).heap[bl]? = w.heap[bl]? := fun bl hb => Below.heap_alloc _ _ _ hb
    refine ⟨_, fun _ _ => .inl, slice_V2 (nid_loose hlt (by omega)) (.inr ⟨rfl, rfl⟩) hC rfl, hal.refam ⟨⟨some w.heap.size, 0, C⟩, .inr ⟨rfl, rfl⟩, olds.toArray ++ ([v'] : List Value).toArray ++ Builtin.zeroCells j.zer.cells (C - tot), (0, 0), ?_, ?_, fun hx => by simp at hx, fun _ => ⟨rfl, .inr h.m.below.size, ?_, ?_⟩⟩⟩
    · show (w.heap.push _)[w.heap.size]? = _
      simp
    · intro jj hjj
      rw [Nat.zero_add]
      by_cases hj2 : jj < olds.length
      · obtain ⟨v, y1, y2, _⟩ := hold jj hj2
        refine ⟨v, ?_, y2.mono (fun _ _ => .inl) (fun b hb => hheap b (hm.frz_lt hb))⟩
        simp only [Array.toList_append, List.append_assoc]
        rw [List.getElem?_append_left (by simpa using hj2)]
        simpa using y1
      · have : jj = olds.length := by omega
        subst this
        refine ⟨v', ?_, ?_⟩
        · simp only [Array.toList_append, List.append_assoc]
          rw [List.getElem?_append_right (by simp)]
          simp
        · rw [hes, hgg]
          exact hrow _ _ (fun _ _ => .inl) (fun bl hb => hheap bl (h3lt bl hb))
    · intro _
      simp only [Array.size_append, List.size_toArray, zeroCells_size, List.length_cons, List.length_nil]
      have hz1 : j.zer.cells.size = 1 := by rw [← Array.length_toList]; exact hz1
      rw [hz1]
      show 0 + C ≤ _
      omega
    · intro jj hjj v5 hcell
      rw [Nat.zero_add] at hcell
      by_cases hj2 : jj < olds.length
      · obtain ⟨v, y1, _, y3⟩ := hold jj hj2
        simp only [Array.toList_append, List.append_assoc] at hcell
        rw [List.getElem?_append_left (by simpa using hj2)] at hcell
        have hcell : olds[jj]? = some v5 := by simpa using hcell
        rw [y1] at hcell
        rw [← Option.some.inj hcell]; exact y3
      · have : jj = olds.length := by omega
        subst this
        simp only [Array.toList_append, List.append_assoc] at hcell
        rw [List.getElem?_append_right (by simp)] at hcell
        have hcell : v' = v5 := by simpa using hcell
        rw [hgg, ← hcell]; exact hnew3
  rcases hcase with ⟨rfl, hso, rfl⟩ | ⟨b, m, cc, es, g, rfl, hb, hlo, hso, hbo, rfl⟩
  · -- to nil
    have := (V2_plain (R := R) (v := .slice none 0 0) rfl).1 hvs; subst this
    have hrun := run_append_new (ty := ty) hd1 h0 h1 hu hinf hzer (base := none) (m := 0) (c := 0) (olds := []) (hlen w) hfd (by simp [Builtin.firstCells]) (by omega) (by rw [hbyt]; exact hby) (by rw [hbyt, Nat.zero_add]; exact szOk_le hso)
    obtain ⟨R', y1, y2, y3⟩ := newBlk _ hm1 hid1 [] o.ks 1 (grownCap w (0 + 1) 0 e) (fun _ => o.elem) (fun _ => (o.n, o.g)) rfl (by have := grown_le w (0 + 1) 0 e; omega) rfl (fun jj hjj => by simp at hjj) rfl rfl
    exact ⟨R', _, _, fun i p hi => y1 _ _ (m1 _ _ hi), hrun, y2, y3⟩
  · have hbn : b ≠ nid id 0 := fun e3 => by rw [e3, hnone] at hb; simp at hb
    obtain ⟨p, hp, hsl⟩ := V2_slice hvs
    have hb1 : upd S.fm o.num ⟨.row o.ks o.tot o.g, o.elem, false⟩ b = some ⟨.fam o.ks m es g, e, true⟩ := by rw [upd_ne _ _ (Ne.symm hbo)]; exact hb
    have hmf := hm1.forget hb1 nofun nofun
    have hdead : upd (upd S.fm o.num ⟨.row o.ks o.tot o.g, o.elem, false⟩) b ⟨.lst [], e, false⟩ (nid id 0) = none := by rw [upd_ne _ _ hbn]; exact hid1
    have hset : ∀ jj, jj < m → setN m o.elem es jj = es jj ∧ setN m (o.n, o.g) g jj = g jj := fun jj hjj => by unfold setN; rw [nbeq_ne (by omega)]; exact ⟨rfl, rfl⟩
    have hsetm : setN m o.elem es m = o.elem ∧ setN m (o.n, o.g) g m = (o.n, o.g) := by unfold setN; rw [Nat.beq_refl]; exact ⟨rfl, rfl⟩
    show ∃ R' v' w', _ ∧ _ ∧ _ ∧ MRel w0 R' (upd (upd (upd S.fm o.num _) b _) (nid id 0) _) w'
    obtain ⟨_, hcc, ⟨bl, hpa, rfl⟩ | ⟨hpa, hm0, hc0, a0, rfl⟩⟩ := SlOk_loose hlo hsl
    · obtain ⟨p', hp', hcont⟩ : FamOk w0 R w b e true o.ks m es g := h.m.mem b _ hb
      have := h.m.func _ _ _ hp hp'; subst this
      rw [hpa] at hcont
      obtain ⟨cs, fz, y1, y2, _, y4⟩ := hcont
      obtain ⟨rfl, hge, hroom, hnewr⟩ := y4 rfl
      have hcl : m ≤ (cs.toList.drop p.d).length := by
        rw [List.length_drop]
        rcases Nat.eq_zero_or_pos m with h | h
        · omega
        · obtain ⟨v, z1, _⟩ := y2 (m - 1) (by omega)
          rcases Nat.lt_or_ge (p.d + (m - 1)) cs.toList.length with h2 | h2
          · omega
          · rw [List.getElem?_eq_none h2] at z1; simp at z1
      have ecs : cs.toList.length = cs.size := Array.length_toList
      by_cases hin : m + 1 ≤ p.c
      · have hroom := hroom (by omega)
        have hrun := run_append_in (ty := ty) hd1 h0 h1 hu hinf (base := some ⟨bl, p.d, none⟩) (m := m) (c := p.c) (hlen w) hf0 hin
        have hst := run_storeCells (P := P) (e := e) (b := bl) (off := p.d + m) ([v'] : List Value) 0 w cs y1 (by simp only [List.length_cons, List.length_nil]; omega) (by intro u hu2; rw [List.mem_singleton] at hu2; subst hu2; exact ⟨fun cs => (hv1 cs).1, fun cs => (hv1 cs).2 cs⟩)
        simp only [Nat.add_zero, List.length_cons, List.length_nil, Nat.zero_add] at hst
        simp only [addr_add, hsize, Nat.mul_one, hst, Result.andThen_ok] at hrun
        have hlb : p.d + m + 1 ≤ cs.toList.length := by omega
        have hnew : ∀ jj, jj ≠ m → (cs.toList.take (p.d + m) ++ [v'] ++ cs.toList.drop (p.d + m + 1))[p.d + jj]? = cs.toList[p.d + jj]? := by
          intro jj hjj
          have hl1 : (cs.toList.take (p.d + m)).length = p.d + m := by rw [List.length_take]; omega
          rcases Nat.lt_or_ge jj m with h5 | h5
          · rw [List.append_assoc, List.getElem?_append_left (by rw [hl1]; omega), List.getElem?_take_of_lt (by omega)]
          · rw [List.getElem?_append_right (by rw [List.length_append, hl1, List.length_cons, List.length_nil]; omega), List.getElem?_drop, List.length_append, hl1, List.length_cons, List.length_nil]
            congr 1; omega
        have hnewm : (cs.toList.take (p.d + m) ++ [v'] ++ cs.toList.drop (p.d + m + 1))[p.d + m]? = some v' := by
          have hl1 : (cs.toList.take (p.d + m)).length = p.d + m := by rw [List.length_take]; omega
          rw [List.append_assoc, List.getElem?_append_right (by rw [hl1]; exact Nat.le_refl _), hl1, Nat.sub_self]; rfl
        have hns : (cs.toList.take (p.d + m) ++ [v'] ++ cs.toList.drop (p.d + m + 1)).toArray.size = cs.size := by
          rw [List.size_toArray, List.length_append, List.length_append, List.length_take, List.length_drop, List.length_cons, List.length_nil]; omega
        have hw := hm1.write (i := b) (blk := ⟨.fam o.ks m es g, e, true⟩) hb1 (m1 _ _ hp) hpa rfl y1 hge (c := .lst []) (cs := (cs.toList.take (p.d + m) ++ [v'] ++ cs.toList.drop (p.d + m + 1)).toArray) nofun nofun nofun LP_nil (fun _ _ => by rw [hns]; exact hroom)
        have hw2 := hw.forget (i := b) (blk := ⟨.lst [], e, true⟩) (upd_same _ _ _) nofun nofun
        rw [upd_upd] at hw2
        have hw3 := hw2.rename (q := p) hdead (nid_lt hlt (by omega)) (forget_free hm1 hb1 rfl (m1 _ _ hp) hpa e) (fun hf => by have := hm1.frz_own hf (m1 _ _ hp) hpa hb1; simp at this) hpa (setBlk_same (heap_lt y1)) hge (c := .lst []) nofun nofun nofun LP_nil (fun _ _ => by rw [hns]; exact hroom)
        have hoth : ∀ b5, b5 ≠ bl → (setBlk w bl (.cells (cs.toList.take (p.d + m) ++ [v'] ++ cs.toList.drop (p.d + m + 1)).toArray e (0, 0))).heap[b5]? = w.heap[b5]? := fun b5 hb5 => by
          simp only [setBlk]; rw [Array.getElem?_setIfInBounds_ne (Ne.symm hb5)]
        refine ⟨_, _, _, fun i p hi => .inl (m1 _ _ hi), hrun, slice_V2 (nid_loose hlt (by omega)) (.inr ⟨rfl, rfl⟩) hin (by rw [hpa]), hw3.refam ⟨p, .inr ⟨rfl, rfl⟩, ?_⟩⟩
        rw [hpa]
        refine ⟨(cs.toList.take (p.d + m) ++ [v'] ++ cs.toList.drop (p.d + m + 1)).toArray, (0, 0), setBlk_same (heap_lt y1), ?_, fun hx => by simp at hx, fun _ => ⟨rfl, hge, fun _ => by rw [hns]; exact hroom, fun jj hjj v5 hcell => ?_⟩⟩
        rotate_left
        · rw [List.toList_toArray] at hcell
          by_cases hjm : jj = m
          · subst hjm
            rw [hnewm] at hcell
            rw [hsetm.2, ← Option.some.inj hcell]; exact hnew3
          · rw [hnew jj hjm] at hcell
            rw [(hset jj (by omega)).2]
            exact hnewr jj (by omega) v5 hcell
        intro jj hjj
        rw [List.toList_toArray]
        by_cases hjm : jj = m
        · subst hjm
          refine ⟨v', hnewm, ?_⟩
          rw [hsetm.1, hsetm.2]
          refine hrow _ _ (fun _ _ => .inl) (fun b3 hb3' => hoth b3 ?_)
          rintro rfl
          have := (h.m.inj _ _ _ _ _ hp hp3 hpa hb3' hbo _ hb rfl _ hb3).1
          simp at this
        · obtain ⟨v, z1, z2⟩ := y2 jj (by omega)
          refine ⟨v, by rw [hnew jj hjm]; exact z1, ?_⟩
          rw [(hset jj (by omega)).1, (hset jj (by omega)).2]
          refine z2.mono (fun _ _ hi => .inl (m1 _ _ hi)) (fun b5 hb5 => hoth b5 ?_)
          rintro rfl
          have := h.m.frz_own hb5 hp hpa hb
          simp at this
      · have hrun := run_append_new (ty := ty) hd1 h0 h1 hu hinf hzer (base := some ⟨bl, p.d, none⟩) (m := m) (c := p.c) (olds := (cs.toList.drop p.d).take m) (hlen w) hfd (by
          simp only [Builtin.firstCells, hsize, Nat.mul_one]
          exact run_loads (w := w.drew) y1 hcl) (by omega) (by rw [hbyt]; exact hby) (by rw [hbyt]; exact szOk_le hso)
        have hol : ((cs.toList.drop p.d).take m).length = m := by rw [List.length_take]; omega
        obtain ⟨R', z1, z2, z3⟩ := newBlk _ hmf hdead ((cs.toList.drop p.d).take m) o.ks (m + 1) (grownCap w (m + 1) p.c e) (setN m o.elem es) (setN m (o.n, o.g) g) (by rw [hol]) (grown_le _ _ _ _) rfl (fun jj hjj => by
          rw [hol] at hjj
          obtain ⟨v, q1, q2⟩ := y2 jj hjj
          refine ⟨v, by rw [List.getElem?_take_of_lt hjj, List.getElem?_drop]; exact q1, ?_⟩
          rw [(hset jj hjj).1, (hset jj hjj).2]
          exact ⟨q2.mono m1 (fun _ _ => rfl), hnewr jj hjj v q1⟩) (by rw [hol]; exact hsetm.1) (by rw [hol]; exact hsetm.2)
        exact ⟨R', _, _, fun i p hi => z1 _ _ (m1 _ _ hi), hrun, z2, z3⟩
    · subst hm0
      have hrun := run_append_new (ty := ty) hd1 h0 h1 hu hinf hzer (base := a0) (m := 0) (c := 0) (olds := []) (hlen w) hfd (by cases a0 <;> simp [Builtin.firstCells, loadCells, loadCellsFrom]) (by omega) (by rw [hbyt]; exact hby) (by rw [hbyt]; exact szOk_le hso)
      obtain ⟨R', z1, z2, z3⟩ := newBlk _ hmf hdead [] o.ks (0 + 1) (grownCap w (0 + 1) 0 e) (setN 0 o.elem es) (setN 0 (o.n, o.g) g) rfl (grown_le _ _ _ _) rfl (fun jj hjj => by simp at hjj) hsetm.1 hsetm.2
      exact ⟨R', _, _, fun i p hi => z1 _ _ (m1 _ _ hi), hrun, z2, z3⟩
theorem LP_snoc {l cs rest : List Value} {v v' : Value} {d : Nat} (h : LP R l (cs.drop d)) (hv : V0 R v v') (hd : d ≤ cs.length) : LP R (l ++ [v]) ((cs.take (d + l.length) ++ [v'] ++ rest).drop d) := by
  have hl := LP_le h
  rw [List.length_drop] at hl
  have e : (cs.take (d + l.length) ++ [v'] ++ rest).drop d = (cs.drop d).take l.length ++ ([v'] ++ rest) := by
    rw [List.append_assoc, List.drop_append_of_le_length (by rw [List.length_take]; omega), List.drop_take]
    congr 2
    omega
  rw [e]
  unfold LP
  rw [List.take_append, List.length_take, List.length_drop, Nat.min_eq_left (by omega), List.take_of_length_le (by rw [List.length_take, List.length_drop, List.length_append, List.length_cons, List.length_nil]; omega), List.length_append, List.length_cons, List.length_nil, show l.length + (0 + 1) - l.length = 1 from by omega]
  exact LR_append h ⟨hv, trivial⟩
theorem sound_appL (hT : TabOk P T) (h : Rel w0 n R S a w) {c : Call} {s x : Value} {t : Nat} {l : List Nat} (hts : c.argTypes.toList = t :: l) (happ : appT T c.argTypes.toList = true) (hl : LR (V2 R) [s, x] (c.args.toList.map a.eval)) {id : Nat} {r : Res} (hr : appLK T t s x id S.fm some none = some r) (ty : TypeId) :
    ∃ (R' : Nat → Pl → Prop) (v' : Value) (w' : World), (∀ i p, R i p → R' i p) ∧ (Builtin.append_ c.argTypes ty (c.args.map a.eval)).run P w = .ok v' w' ∧ V2 R' r.val v' ∧ MRel w0 R' (memF S.fm r.mem) w' := by
  obtain ⟨i, e, j, q, tb, o3, n3, c3, k1, k2, k3, k4, hq, hq2, hsz, hby, hlt, hnone, hz1, hcase⟩ := appL_iff hr
  have hnone := Option.isNone_iff_eq_none.1 hnone
  obtain ⟨dd, hd1, hd2, _⟩ := und_some hT k1
  have := hd2 k2; subst this; rw [k3] at hd1
  obtain ⟨inf, hinf, hisz, hzer, hbyt⟩ := info_of hT k4
  obtain ⟨s', x', hargs, hvs, hvx⟩ := two_args hl
  obtain ⟨u, hl2, hu⟩ : ∃ u, l = [u] ∧ ∃ d, P.underlying u = some d ∧ ∀ k, d ≠ .int k := by
    rw [hts] at happ
    unfold appT at happ
    split at happ
    · rename_i u0 u heq
      simp only [List.cons.injEq] at heq
      refine ⟨u, heq.2, ?_⟩
      cases hlk : look T u with
      | none => rw [hlk] at happ; simp [oK] at happ
      | some i2 =>
        rw [hlk] at happ
        obtain ⟨d, e1, e2, e3⟩ := und_some hT hlk
        refine ⟨d, e1, fun k hk => ?_⟩
        simp only [oK, descK] at happ
        cases hst : i2.st with
        | true => obtain ⟨fs, e4, _⟩ := e3 hst; rw [e4] at hk; cases hk
        | false =>
          have e4 := e2 hst
          rw [hst, cond_false] at happ
          rw [← e4, hk] at happ
          simp at happ
    · simp at happ
  subst hl2
  have h0 : c.argTypes[0]? = some t := by rw [← Array.getElem?_toList, hts]; rfl
  have h1 : c.argTypes[1]? = some u := by rw [← Array.getElem?_toList, hts]; rfl
  rw [hargs]
  -- the slice that is appended
  obtain ⟨off2, c2, l2, e2, own2, rfl, hb2, hget⟩ := oneSl_some hq
  obtain ⟨p2, hp2, hsl2⟩ := V2_slice hvx
  obtain ⟨b2', c2', hpa2, rfl⟩ := SlOk_some hsl2 (by omega)
  obtain ⟨p2', hp2', hcont2⟩ := memOk_lst h.m hb2
  have := h.m.func _ _ _ hp2 hp2'; subst this
  rw [hpa2] at hcont2
  obtain ⟨cs2, fz2, g1, g2, _⟩ := hcont2
  have g2 : LP R l2 (cs2.toList.drop p2.d) := g2
  obtain ⟨v', g3, g4⟩ := LP_get g2 hget
  rw [List.getElem?_drop] at g3
  have hlen2 : p2.d + off2 < cs2.toList.length := by
    rcases Nat.lt_or_ge (p2.d + off2) cs2.toList.length with h | h
    · exact h
    · rw [List.getElem?_eq_none h] at g3; simp at g3
  have hone : (cs2.toList.drop (p2.d + off2)).take 1 = [v'] := by
    rw [List.drop_eq_getElem_cons hlen2]
    rw [List.getElem?_eq_getElem hlen2] at g3
    rw [Option.some.inj g3]; rfl
  have hlen : ∀ w, (Builtin.lenOf (.slice (some ⟨b2', p2.d + off2, none⟩) 1 c2')).run P w = .ok 1 w := fun w => rfl
  have hsize : inf.size = 1 := by rw [hisz]; exact hsz
  have hfirst : ∀ w1 : World, w1.heap[b2']? = some (.cells cs2 e2 fz2) → (Builtin.firstCells inf.size 1 (.slice (some ⟨b2', p2.d + off2, none⟩) 1 c2')).run P w1 = .ok [v'].toArray w1 := by
    intro w1 hw1
    simp only [Builtin.firstCells, hsize, Nat.mul_one]
    rw [run_loads hw1 (by rw [List.length_drop]; omega), hone]
  have hf0 := hfirst w g1
  have hfd := hfirst w.drew g1
  have hfd : (Builtin.firstCells inf.size 1 (.slice (some ⟨b2', p2.d + off2, none⟩) 1 c2')).run P w.drew = .ok ([v'] : List Value).toArray w.drew := hfd
  have hsl3 : ∃ p, R tb p ∧ SlOk ⟨tb, o3, none⟩ n3 c3 p v' := by rw [hq2] at g4; exact g4
  have hv1 : ∀ cs, v' ≠ .agg cs ∧ ∀ cs, v' ≠ .tuple cs := fun cs => by
    obtain ⟨_, _, hs3⟩ := hsl3
    obtain ⟨_, _, rfl⟩ := SlOk_sl hs3
    exact ⟨nofun, nofun⟩
  -- a new block
  have newBlk : ∀ (fm : Nat → Option Blk), MRel w0 R fm w → fm (nid id 0) = none → ∀ (olds L : List Value) (tot C : Nat), olds.length + 1 = tot → tot ≤ C → LR (V0 R) L olds →
      ∃ R' : Nat → Pl → Prop, (∀ i p, R i p → R' i p) ∧ V2 R' (.slice (some ⟨nid id 0, 0, none⟩) tot tot) (.slice (some ⟨w.heap.size, 0, none⟩) tot C) ∧
        MRel w0 R' (upd fm (nid id 0) ⟨.lst (L ++ [q.2]), e, true⟩) (w.drew.alloc (.cells (olds.toArray ++ ([v'] : List Value).toArray ++ Builtin.zeroCells j.zer.cells (C - tot)) e)) := by
    intro fm hm hid olds L tot C htot hC hLo
    have hm := hm.world (w' := w.drew) (Below.refl w.heap.size w).drew
    have hll := LR_len hLo
    have hal := hm.alloc hid (nid_lt hlt (by omega)) (cap := C) (c := .lst (L ++ [q.2])) (cs := olds.toArray ++ ([v'] : List Value).toArray ++ Builtin.zeroCells j.zer.cells (C - tot)) (e := e) (own := true) nofun nofun nofun (by
      have e2 : (olds.toArray ++ ([v'] : List Value).toArray ++ Builtin.zeroCells j.zer.cells (C - tot)).toList = (olds ++ [v']) ++ (Builtin.zeroCells j.zer.cells (C - tot)).toList := by
        simp only [Array.toList_append]
      rw [e2]
      show LR (V0 R) (L ++ [q.2]) (((olds ++ [v']) ++ (Builtin.zeroCells j.zer.cells (C - tot)).toList).take (L ++ [q.2]).length)
      rw [List.take_append_of_le_length (by rw [List.length_append, List.length_append, hll]; exact Nat.le_refl _), List.take_of_length_le (by rw [List.length_append, List.length_append, hll]; exact Nat.le_refl _)]
      exact LR_append hLo ⟨g4, trivial⟩) (fun _ _ => by
      simp only [Array.size_append, List.size_toArray, zeroCells_size, List.length_cons, List.length_nil]
      have hz1 : j.zer.cells.size = 1 := by rw [← Array.length_toList]; exact hz1
      rw [hz1]
      show 0 + C ≤ _
      omega)
    exact ⟨_, fun _ _ => .inl, slice_V2 (nid_loose hlt (by omega)) (.inr ⟨rfl, rfl⟩) hC rfl, hal⟩
  rcases hcase with ⟨rfl, hso, rfl⟩ | ⟨b, cc, ls, rfl, hb, hlo, hso, rfl⟩
  · -- to nil
    have := (V2_plain (R := R) (v := .slice none 0 0) rfl).1 hvs; subst this
    have hrun := run_append_new (ty := ty) hd1 h0 h1 hu hinf hzer (base := none) (m := 0) (c := 0) (olds := []) (hlen w) hfd (by simp [Builtin.firstCells]) (by omega) (by rw [hbyt]; exact hby) (by rw [hbyt, Nat.zero_add]; exact szOk_le hso)
    obtain ⟨R', y1, y2, y3⟩ := newBlk _ h.m hnone [] [] 1 (grownCap w (0 + 1) 0 e) rfl (by have := grown_le w (0 + 1) 0 e; omega) trivial
    exact ⟨R', _, _, y1, hrun, y2, y3⟩
  · have hbn : b ≠ nid id 0 := fun e3 => by rw [e3, hnone] at hb; simp at hb
    obtain ⟨p, hp, hsl⟩ := V2_slice hvs
    have hmf := h.m.forget hb nofun nofun
    have hdead : upd S.fm b ⟨.lst [], e, false⟩ (nid id 0) = none := by rw [upd_ne _ _ hbn]; exact hnone
    show ∃ R' v' w', _ ∧ _ ∧ _ ∧ MRel w0 R' (upd (upd S.fm b _) (nid id 0) _) w'
    obtain ⟨p', hp', hcont⟩ := memOk_lst h.m hb
    have := h.m.func _ _ _ hp hp'; subst this
    obtain ⟨_, hcc, ⟨bl, hpa, rfl⟩ | ⟨hpa, hm0, hc0, a0, rfl⟩⟩ := SlOk_loose hlo hsl
    · rw [hpa] at hcont
      obtain ⟨cs, fz, y1, y2, y3⟩ := hcont
      obtain ⟨rfl, hge, hroom⟩ := y3 rfl
      have y2 : LP R ls (cs.toList.drop p.d) := y2
      have hcl := LP_le y2
      have ecs : cs.toList.length = cs.size := Array.length_toList
      by_cases hin : ls.length + 1 ≤ p.c
      · have hroom : p.d + p.c ≤ cs.size := hroom hlo (by omega)
        have hrun := run_append_in (ty := ty) hd1 h0 h1 hu hinf (base := some ⟨bl, p.d, none⟩) (m := ls.length) (c := p.c) (hlen w) hf0 hin
        have hst := run_storeCells (P := P) (e := e) (b := bl) (off := p.d + ls.length) ([v'] : List Value) 0 w cs y1 (by simp only [List.length_cons, List.length_nil]; omega) (by intro u hu2; rw [List.mem_singleton] at hu2; subst hu2; exact ⟨fun cs => (hv1 cs).1, fun cs => (hv1 cs).2 cs⟩)
        simp only [Nat.add_zero, List.length_cons, List.length_nil, Nat.zero_add] at hst
        simp only [addr_add, hsize, Nat.mul_one, hst, Result.andThen_ok] at hrun
        have hns : (cs.toList.take (p.d + ls.length) ++ [v'] ++ cs.toList.drop (p.d + ls.length + 1)).toArray.size = cs.size := by
          rw [List.size_toArray, List.length_append, List.length_append, List.length_take, List.length_drop, List.length_cons, List.length_nil]; omega
        have hw := h.m.write (i := b) (blk := ⟨.lst ls, e, true⟩) hb hp hpa rfl y1 hge (c := .lst []) (cs := (cs.toList.take (p.d + ls.length) ++ [v'] ++ cs.toList.drop (p.d + ls.length + 1)).toArray) nofun nofun nofun LP_nil (fun _ _ => by rw [hns]; exact hroom)
        have hw2 := hw.forget (i := b) (blk := ⟨.lst [], e, true⟩) (upd_same _ _ _) nofun nofun
        rw [upd_upd] at hw2
        have hw3 := hw2.rename (q := p) hdead (nid_lt hlt (by omega)) (forget_free h.m hb rfl hp hpa e) (fun hf => by have := h.m.frz_own hf hp hpa hb; simp at this) hpa (setBlk_same (heap_lt y1)) hge (c := .lst (ls ++ [q.2])) nofun nofun nofun (by
          rw [List.toList_toArray]
          exact LP_snoc y2 g4 (by omega)) (fun _ _ => by rw [hns]; exact hroom)
        exact ⟨_, _, _, fun i p hi => .inl hi, hrun, slice_V2 (nid_loose hlt (by omega)) (.inr ⟨rfl, rfl⟩) hin (by rw [hpa]), hw3⟩
      · have hrun := run_append_new (ty := ty) hd1 h0 h1 hu hinf hzer (base := some ⟨bl, p.d, none⟩) (m := ls.length) (c := p.c) (olds := (cs.toList.drop p.d).take ls.length) (hlen w) hfd (by
          simp only [Builtin.firstCells, hsize, Nat.mul_one]
          exact run_loads (w := w.drew) y1 hcl) (by omega) (by rw [hbyt]; exact hby) (by rw [hbyt]; exact szOk_le hso)
        obtain ⟨R', z1, z2, z3⟩ := newBlk _ hmf hdead ((cs.toList.drop p.d).take ls.length) ls (ls.length + 1) (grownCap w (ls.length + 1) p.c e) (by rw [List.length_take]; omega) (grown_le _ _ _ _) y2
        exact ⟨R', _, _, z1, hrun, z2, z3⟩
    · have hls : ls = [] := List.length_eq_zero_iff.1 hm0
      subst hls
      have hrun := run_append_new (ty := ty) hd1 h0 h1 hu hinf hzer (base := a0) (m := 0) (c := 0) (olds := []) (hlen w) hfd (by cases a0 <;> simp [Builtin.firstCells, loadCells, loadCellsFrom]) (by omega) (by rw [hbyt]; exact hby) (by rw [hbyt]; exact szOk_le hso)
      obtain ⟨R', z1, z2, z3⟩ := newBlk _ hmf hdead [] [] (0 + 1) (grownCap w (0 + 1) 0 e) rfl (grown_le _ _ _ _) trivial
      exact ⟨R', _, _, z1, hrun, z2, z3⟩
end
end Go.W
/-
  The engine: new slices; one operation, whatever it is.
-/
namespace Go.W
open Go.RowKit (Below)
section
variable {P : Program} {T : Tab} {G : Sums} {GL : Glob} {w0 : Wb GL} {w : World} {n : Nat} {R : Nat → Pl → Prop} {S : FS} {a : Act}
theorem rowL_const {ks : List CK} {z : List Value} (hf : fitsK ks z = true) : ∀ (m lo : Nat), rowL ks (fun _ => z) lo m = repL m z
  | 0, _ => rfl
  | m + 1, lo => by rw [rowL, repL, nrmK_fits hf, rowL_const hf m (lo + 1)]
theorem sound_make (hT : TabOk P T) (h : Rel w0 n R S a w) {o : Oper} {t : Nat} {x y : Operand} (ho : o.op = .makeSlice t x y) {id : Nat} {r : Res} (hr : opS T G id o.op (evF S.fs) S.fm = some r) :
    ∃ (R' : Nat → Pl → Prop) (v' : Value) (w' : World), (∀ i p, R i p → R' i p) ∧ (execOp a.eval o).run P w = .ok (.value v') w' ∧ V2 R' r.val v' ∧ MRel w0 R' (memF S.fm r.mem) w' := by
  rw [ho] at hr
  simp only [opS, opK, oK_some] at hr
  obtain ⟨vl, hvl, vc, hvc, hr⟩ := hr
  cases hel : elSl T t with
  | true =>
    rw [hel, cond_true] at hr
    obtain ⟨i, e, j, k1, k2, k3, k4, hr⟩ := makeLK_some.1 hr
    obtain ⟨dd, hd1, hd2, _⟩ := und_some hT k1
    have := hd2 k2; subst this; rw [k3] at hd1
    obtain ⟨inf, hinf, hsz, hzer, hbyt⟩ := info_of hT k4
    simp only [intK_some, cond_some, Bool.and_eq_true, decide_eq_true_eq, Nat.blt_eq, Bool.not_eq_true'] at hr
    obtain ⟨kd1, l, rfl, kd2, l2, rfl, ⟨⟨⟨⟨⟨⟨⟨⟨e1, hl0⟩, hso⟩, hby⟩, hlt⟩, hnone⟩, hpl⟩, hz1⟩, hz2⟩, hr⟩ := hr
    have hr := (Option.some.inj hr).symm
    subst hr
    subst e1
    have hnone := Option.isNone_iff_eq_none.1 hnone
    have he1 := V2_int (h.ev hvl)
    have he2 := V2_int (h.ev hvc)
    have hso := szOk_le hso
    have hby : j.byt ≠ 0 := fun e => by rw [e] at hby; simp at hby
    have hln : l.toNat ≤ 140737488355328 := Nat.le_trans (Nat.le_mul_of_pos_right _ (by omega)) hso
    have hkz : j.zer.cells.size = j.siz := by rw [← Array.length_toList]; exact (nbeq.1 hz1).symm
    have hz2 : j.siz ≠ 0 := fun e => by rw [e] at hz2; simp at hz2
    have hz0 : j.zer.cells.size ≠ 0 := by omega
    have hall : ∀ m, (repL m j.zer.cells.toList).all pl0 = true := by
      intro m
      induction m with
      | zero => rfl
      | succ m ih => rw [repL, List.all_append, hpl, ih]; rfl
    have hrun : (execOp a.eval o).run P w = .ok (.value (.slice (some ⟨w.heap.size, 0, none⟩) l.toNat l.toNat)) (w.alloc (.cells (repL l.toNat j.zer.cells.toList).toArray e)) := by
      have hbig : (inf.bytes : Int) * l ≤ 281474976710656 := by
        obtain ⟨m, rfl⟩ : ∃ m : Nat, l = (m : Int) := ⟨l.toNat, by omega⟩
        simp only [Int.toNat_natCast] at hso
        rw [hbyt, Int.mul_comm]
        have : ((m * j.byt : Nat) : Int) ≤ 140737488355328 := Int.ofNat_le.2 hso
        rw [Int.natCast_mul] at this
        omega
      have hmk := run_make (P := P) w t e inf j.zer hd1 hinf hzer kd1 kd2 l l hl0 (Int.le_refl _) hbig (by omega)
      have hcl : madeCells j.zer.cells (l.toNat * inf.size) = (repL l.toNat j.zer.cells.toList).toArray := by
        rw [hsz, ← hkz]
        exact repL_range (z := j.zer.cells) (n := l.toNat) hz0
      rw [hcl] at hmk
      simp only [execOp, ho, he1, he2, hmk, Sem.run_bind, Result.andThen_ok, Sem.run_pure]
    refine ⟨_, _, _, fun _ _ => .inl, hrun, ?_, h.m.alloc hnone (nid_lt hlt (by omega)) (cap := l.toNat) (c := .lst (repL l.toNat j.zer.cells.toList)) nofun nofun nofun ?_ ?_⟩
    · exact slice_V2 (nid_loose hlt (by omega)) (.inr ⟨rfl, rfl⟩) (Nat.le_refl _) rfl
    · show LP R (repL l.toNat j.zer.cells.toList) _
      refine LP_plain (hall _) ?_
      rw [List.toList_toArray, List.take_length]
    · show loose (nid id 0) = true → _
      intro _ _
      have e1 : (repL l.toNat j.zer.cells.toList).length = l.toNat * j.siz := by rw [repL_len, Array.length_toList, hkz]
      have e2 : (repL l.toNat j.zer.cells.toList).toArray.size = l.toNat * j.siz := by rw [List.size_toArray]; exact e1
      show 0 + l.toNat ≤ (repL l.toNat j.zer.cells.toList).toArray.size
      rw [e2, Nat.zero_add]
      exact Nat.le_mul_of_pos_right _ (by omega)
  | false =>
  rw [hel, cond_false] at hr
  unfold makeK at hr
  obtain ⟨i, e, j, k1, k2, k3, k4, k5, hr⟩ := elemK_some.1 hr
  obtain ⟨dd, hd1, hd2, _⟩ := und_some hT k1
  have := hd2 k2; subst this; rw [k3] at hd1
  obtain ⟨hke, hkl, hkb, hkz⟩ := ksOk_parts k5
  obtain ⟨inf, hinf, hsz, hzer, hbyt⟩ := info_of hT k4
  simp only [intK_some, cond_some, Bool.and_eq_true, decide_eq_true_eq, Nat.blt_eq] at hr
  obtain ⟨kd1, l, rfl, kd2, l2, rfl, ⟨⟨⟨⟨⟨⟨⟨e1, hl0⟩, hso⟩, _⟩, hlt⟩, hnone⟩, htup⟩, hfit⟩, hr⟩ := hr
  have hr := (Option.some.inj hr).symm
  subst hr
  subst e1
  have hnone := Option.isNone_iff_eq_none.1 hnone
  have he1 := V2_int (h.ev hvl)
  have he2 := V2_int (h.ev hvc)
  have hso := szOk_le hso
  have hln : l.toNat ≤ 140737488355328 := Nat.le_trans (Nat.le_mul_of_pos_right _ (by omega)) hso
  have hz0 : j.zer.cells.size ≠ 0 := by
    have : 0 < j.eqk.length := List.length_pos_iff.2 hke
    omega
  have hrow := rowL_const hfit l.toNat 0
  have hrun : (execOp a.eval o).run P w = .ok (.value (.slice (some ⟨w.heap.size, 0, none⟩) l.toNat l.toNat)) (w.alloc (.cells (repL l.toNat j.zer.cells.toList).toArray e)) := by
    have hbig : (inf.bytes : Int) * l ≤ 281474976710656 := by
      obtain ⟨m, rfl⟩ : ∃ m : Nat, l = (m : Int) := ⟨l.toNat, by omega⟩
      simp only [Int.toNat_natCast] at hso
      rw [hbyt, Int.mul_comm]
      have : ((m * j.byt : Nat) : Int) ≤ 140737488355328 := Int.ofNat_le.2 hso
      rw [Int.natCast_mul] at this
      omega
    have hmk := run_make (P := P) w t e inf j.zer hd1 hinf hzer kd1 kd2 l l hl0 (Int.le_refl _) hbig (by omega)
    have hcl : madeCells j.zer.cells (l.toNat * inf.size) = (repL l.toNat j.zer.cells.toList).toArray := by
      rw [hsz, ← hkz]
      exact repL_range (z := j.zer.cells) (n := l.toNat) hz0
    rw [hcl] at hmk
    simp only [execOp, ho, he1, he2, hmk, Sem.run_bind, Result.andThen_ok, Sem.run_pure]
  refine ⟨_, _, _, fun _ _ => .inl, hrun, ?_, h.m.alloc hnone (nid_lt hlt (by omega)) (cap := l.toNat) (c := .row j.eqk l.toNat (fun _ => j.zer.cells.toList)) nofun nofun nofun ?_ ?_⟩
  · exact slice_V2 (nid_loose hlt (by omega)) (.inr ⟨rfl, rfl⟩) (Nat.le_refl _) rfl
  · show LP R (rowL j.eqk _ 0 l.toNat) _
    refine LP_plain (rowL_pl _ _ _ _) ?_
    rw [hrow, List.toList_toArray, List.take_length]
  · show loose (nid id 0) = true → _
    intro _ _
    have e1 : (repL l.toNat j.zer.cells.toList).length = l.toNat * j.eqk.length := by rw [repL_len, Array.length_toList, hkz, ← hkl]
    have e2 : (repL l.toNat j.zer.cells.toList).toArray.size = l.toNat * j.eqk.length := by rw [List.size_toArray]; exact e1
    show 0 + l.toNat * j.eqk.length ≤ (repL l.toNat j.zer.cells.toList).toArray.size
    rw [e2]; omega
theorem intsEq_eq : ∀ {l m : List Value}, intsEq l m = true → l = m
  | [], [], _ => rfl
  | x :: l, y :: m, h => by
    cases x <;> cases y <;> simp only [intsEq, Bool.and_eq_true, decide_eq_true_eq] at h <;> first | (simp at h; done) | skip
    rw [h.1.1, h.1.2, intsEq_eq h.2]
  | [], _ :: _, h => by simp [intsEq] at h
  | x :: _, [], h => by cases x <;> simp [intsEq] at h
theorem zCells_ok (T : Tab) (i : TInf) : (zCells T i).list = i.zer.cells.toList ∧ (∀ a k sz, zCells T i ≠ .elt a k sz) ∧ (∀ a l k sz, zCells T i ≠ .tail a l k sz) ∧ (∀ ks n es g, zCells T i ≠ .fam ks n es g) := by
  unfold zCells
  cases Nat.ble i.siz 63 with
  | true => exact ⟨rfl, nofun, nofun, nofun⟩
  | false =>
    rw [cond_false]
    split
    · rename_i n e _
      split
      · rename_i j _
        cases hc : (fitsK j.eqk j.zer.cells.toList && intsEq i.zer.cells.toList (repL n j.zer.cells.toList)) with
        | false => exact ⟨rfl, nofun, nofun, nofun⟩
        | true =>
          rw [cond_true]
          rw [Bool.and_eq_true] at hc
          exact ⟨(rowL_const hc.1 n 0).trans (intsEq_eq hc.2).symm, nofun, nofun, nofun⟩
      · exact ⟨rfl, nofun, nofun, nofun⟩
    · exact ⟨rfl, nofun, nofun, nofun⟩
theorem loose_small {i : Nat} (h : i < 60000) : loose i = false := by
  unfold loose
  rw [show Nat.ble 500000 i = false from by rw [Bool.eq_false_iff, ne_eq, Nat.ble_eq]; omega, show Nat.ble 1500000 i = false from by rw [Bool.eq_false_iff, ne_eq, Nat.ble_eq]; omega]; rfl
theorem roomOk_small {i : Nat} (h : i < 60000) (c : Cells) (p : Pl) (size : Nat) : roomOk i c p size := by
  unfold roomOk
  split
  · intro e; rw [loose_small h] at e; simp at e
  · intro e; rw [loose_small h] at e; simp at e
  · trivial
theorem zeroCells_one (x : Value) (k : Nat) : Builtin.zeroCells #[x] k = Array.replicate k x := by
  apply Array.ext
  · simp [Builtin.zeroCells]
  · intro i h1 h2
    simp [Builtin.zeroCells, Nat.mod_one]
theorem freeze_new {w : World} {cs : Array Value} {e : TypeId} : (w.alloc (.cells cs e)).freeze ⟨w.heap.size, cs.size, none⟩ 1 = setBlk (w.alloc (.cells cs e)) w.heap.size (.cells cs e (cs.size, cs.size + 1)) := by
  unfold World.freeze setBlk
  rw [if_neg (by decide)]
  congr 1
  apply Array.ext
  · simp
  · intro q h1 h2
    rw [Array.getElem_modify, Array.getElem_setIfInBounds (by simpa using h1)]
    by_cases hq : w.heap.size = q
    · subst hq
      have hk : (w.alloc (.cells cs e)).heap[w.heap.size]? = some (.cells cs e) := by
        show (w.heap.push (.cells cs e))[w.heap.size]? = _
        simp
      rw [Array.getElem?_eq_getElem (by simp)] at hk
      rw [if_pos rfl, if_pos rfl, Option.some.inj hk]; rfl
    · rw [if_neg hq, if_neg hq]
theorem sound_cvt (hT : TabOk P T) (h : Rel w0 n R S a w) {o : Oper} {s d : Nat} {x : Operand} (ho : o.op = .convert s d x) {id : Nat} {r : Res} {sb : ByteArray} {i j : TInf} (hx : evF S.fs x = some (.string sb)) (hi : look T s = some i) (hj : look T d = some j) (hr : cvtK T j sb id S.fm some none = some r) :
    ∃ (R' : Nat → Pl → Prop) (v' : Value) (w' : World), (∀ i p, R i p → R' i p) ∧ (execOp a.eval o).run P w = .ok (.value v') w' ∧ V2 R' r.val v' ∧ MRel w0 R' (memF S.fm r.mem) w' := by
  obtain ⟨e, je, h2, h3, h4, h6, h7, h8, rfl⟩ := cvt_iff.1 hr
  rw [Nat.blt_eq] at h7
  have h8 := Option.isNone_iff_eq_none.1 h8
  obtain ⟨d0, hd0, _, _⟩ := und_some hT hi
  obtain ⟨d1, hd1, hd2, _⟩ := und_some hT hj
  have := hd2 h2; subst this; rw [h3] at hd1
  obtain ⟨d2, he1, he2, _⟩ := und_some hT h4
  have hu8 : P.underlying e = some (.int .u8) := by
    unfold isU8T at h6
    split at h6
    · rename_i hu
      have := he2 (by simpa using h6); subst this; rw [he1, hu]
    · simp at h6
  have hev := V2_string (h.ev hx)
  have hrow : rowL [.i .u8] (strF sb) 0 sb.size = sb.data.toList.map fun b => Value.int .u8 (b.toNat : Int) := by
    have hl : sb.data.toList.length ≤ sb.size := by rw [Array.length_toList]; exact Nat.le_refl _
    rw [rowL_str sb sb.size 0 (by omega), List.drop_zero, List.take_of_length_le hl]
  obtain ⟨R', ⟨p, hp, hpa⟩, h5, h9, h10⟩ := append_newP h.m h8 h7 (e := e) (C := grownCap w sb.size 0 e) (ks := [.i .u8]) (olds := []) (news := sb.data.toList.map fun b => Value.int .u8 (b.toNat : Int)) (z := #[.int .u8 0]) (f := strF sb) (tot := sb.size) (by rw [hrow]; rfl) (grown_le _ _ _ _) rfl
  have hcells : (([] : List Value).toArray ++ (sb.data.toList.map fun b => Value.int .u8 (b.toNat : Int)).toArray ++ Builtin.zeroCells #[.int .u8 0] (grownCap w sb.size 0 e - sb.size)) = Lib.bytesCells w e sb := by
    unfold Lib.bytesCells
    congr 1
    · apply Array.ext'; simp
    · exact zeroCells_one _ _
  rw [hcells] at h10
  have hfm : upd S.fm (nid id 0) ⟨.row [.i .u8] sb.size (strF sb), e, true⟩ (nid id 0) = some ⟨.row [.i .u8] sb.size (strF sb), e, true⟩ := upd_same _ _ _
  have hheap : (w.drew.alloc (.cells (Lib.bytesCells w e sb) e)).heap[w.heap.size]? = some (.cells (Lib.bytesCells w e sb) e (0, 0)) := by
    show (w.heap.push (.cells (Lib.bytesCells w e sb) e))[w.heap.size]? = _
    simp
  have hmark := h10.mark (fz' := ((Lib.bytesCells w e sb).size, (Lib.bytesCells w e sb).size + 1)) hfm hp hpa rfl hheap (.inr h.m.below.size) nofun nofun nofun
  refine ⟨R', _, Lib.bytesWorld w e sb, h5, ?_, h9, ?_⟩
  · simp only [execOp, ho, hev, Lib.run_convert_string_bytes w s d e sb hd0 hd1 hu8, Sem.run_bind, Result.andThen_ok, Sem.run_pure]
  · have e1 : upd (upd S.fm (nid id 0) ⟨.row [.i .u8] sb.size (strF sb), e, true⟩) (nid id 0) ⟨.row [.i .u8] sb.size (strF sb), e, false⟩ = upd S.fm (nid id 0) ⟨.row [.i .u8] sb.size (strF sb), e, false⟩ := upd_upd _ _ _ _
    have e2 : Lib.bytesWorld w e sb = setBlk (w.drew.alloc (.cells (Lib.bytesCells w e sb) e)) w.heap.size (.cells (Lib.bytesCells w e sb) e ((Lib.bytesCells w e sb).size, (Lib.bytesCells w e sb).size + 1)) := freeze_new (w := w.drew)
    show MRel w0 R' (upd S.fm (nid id 0) ⟨.row [.i .u8] sb.size (strF sb), e, false⟩) _
    rw [e2, ← e1]; exact hmark
theorem sound_famL (hT : TabOk P T) (h : Rel w0 n R S a w) {o : Oper} {t : Nat} {x : Operand} (ho : o.op = .load t x) {id : Nat} {r : Res} {b off : Nat} (hv : evF S.fs x = some (.pointer (some ⟨b, off, none⟩))) (hr : famLK T t id S.fm b off some none = some r) :
    ∃ (R' : Nat → Pl → Prop) (v' : Value), (∀ i p, R i p → R' i p) ∧ (execOp a.eval o).run P w = .ok (.value v') w ∧ V2 R' r.val v' ∧ MRel w0 R' (memF S.fm r.mem) w := by
  obtain ⟨blk, i, j, sz, ks, m, es, g, ti, j', rd, h1, h2, hF, h5, h6, rfl, rfl, h9, h10, h11, rfl⟩ := famL_iff.1 hr
  have h11 := Option.isNone_iff_eq_none.1 h11
  obtain ⟨q, b', hq, hqa, hev⟩ := V2_ptr (h.ev hv)
  obtain ⟨cells, e, own⟩ := blk
  simp only at h2
  subst h2
  obtain ⟨p, q', b2, k1, k2, k3, k4, k5, _⟩ : ∃ p q b', R i p ∧ R b q ∧ p.a = some b' ∧ q.a = some b' ∧ q.d = p.d + j * 1 ∧ own = false := h.m.mem b _ h1
  have := h.m.func _ _ _ hq k2; subst this
  rw [hqa] at k4; cases k4
  obtain ⟨cs, e2, fz, dd, l3, l4, k5⟩ : ∃ cs e2 fz dd, w.heap[b']? = some (.cells cs e2 fz) ∧ FamAt R w ks m es g cs.toList dd ∧ q.d = dd + j' := by
    rcases hF with ⟨base, h3, h4, rfl, rfl⟩ | ⟨base, i2, l, cnt, base2, h3, h4, z3, z4, z5, rfl, rfl⟩
    · obtain ⟨cells2, e2, own2⟩ := base
      simp only at h4
      subst h4
      obtain ⟨p', l1, l2⟩ : FamOk w0 R w i e2 own2 ks m es g := h.m.mem i _ h3
      have := h.m.func _ _ _ k1 l1; subst this
      rw [k3] at l2
      obtain ⟨cs, fz, l3, l4, _, _⟩ := l2
      exact ⟨cs, e2, fz, p.d, l3, l4, by rw [k5, Nat.mul_one]⟩
    · obtain ⟨cells2, e2, own2⟩ := base
      obtain ⟨cells3, e3, own3⟩ := base2
      simp only at h4 z4
      subst h4 z4
      obtain ⟨p2, p', y1, y2, y3, _⟩ : ∃ p q, R i2 p ∧ R i q ∧ (cnt = 0 ∨ (q.a = p.a ∧ q.d = p.d + l * 1 ∧ q.c + l ≤ p.c)) ∧ own2 = false := h.m.mem i _ h3
      have := h.m.func _ _ _ k1 y2; subst this
      obtain ⟨y4, y5⟩ : p.a = p2.a ∧ p.d = p2.d + l * 1 := by
        rcases y3 with y3 | y3
        · omega
        · exact ⟨y3.1, y3.2.1⟩
      obtain ⟨p3, l1, l2⟩ : FamOk w0 R w i2 e3 own3 ks m es g := h.m.mem i2 _ z3
      have := h.m.func _ _ _ y1 l1; subst this
      rw [← y4, k3] at l2
      obtain ⟨cs, fz, l3, l4, _, _⟩ := l2
      exact ⟨cs, e3, fz, p2.d, l3, l4, by rw [k5, y5]; omega⟩
  obtain ⟨v, l5, l6⟩ := l4 j' h9
  have hrun : (execOp a.eval o).run P w = .ok (.value v) w := by
    have hc : w.cell? ⟨b', q.d, none⟩ = some v := by
      rw [cell_at l3, ← Array.getElem?_toList, k5]; exact l5
    have h2 : (loadVar t ⟨b', q.d + 0, none⟩).run P w = .ok v w := by rw [Nat.add_zero]; simp [loadVar, run_agg hT h5, h6, hc]
    simp only [execOp, ho, hev, Instr.loadAt, Instr.sureAddr, Sem.run_bind, Sem.run_pure, Result.andThen_ok, h2]
  rcases l6 with ⟨l7, a0, rfl⟩ | ⟨bl, d, c, cs2, fz2, rfl, l8, l9, l10, l11⟩
  · refine ⟨fun i p => R i p ∨ (i = nid id 0 ∧ p = ⟨none, 0, 0⟩), .slice a0 0 0, fun _ _ => .inl, hrun, slice_V2 (q := ⟨none, 0, 0⟩) (nid_loose h10 (by omega)) (.inr ⟨rfl, rfl⟩) (by rw [l7]; exact Nat.le_refl _) ⟨l7, rfl, a0, rfl⟩, ?_⟩
    refine h.m.view h11 (nid_lt h10 (by omega)) (.inr (.inl rfl)) nofun (fun R' _ hR => ⟨_, hR, ?_⟩)
    show rowL ks (g j').2 0 (g j').1 = []
    rw [l7]; rfl
  · refine ⟨fun i p => R i p ∨ (i = nid id 0 ∧ p = ⟨some bl, d, c⟩), _, fun _ _ => .inl, hrun, slice_V2 (q := ⟨some bl, d, c⟩) (nid_loose h10 (by omega)) (.inr ⟨rfl, rfl⟩) l8 rfl, ?_⟩
    refine h.m.view h11 (nid_lt h10 (by omega)) (.inr (.inr ⟨rfl, fun b hb => by cases hb; exact .inr l9⟩)) (fun b hb => by cases hb; exact ⟨_, _, _, l10⟩) (fun R' _ hR => ⟨_, hR, cs2, fz2, l10, ?_, fun ho => by simp at ho⟩)
    exact LP_plain (rowL_pl _ _ _ _) (by rw [show (Cells.row ks (g j').1 (g j').2).list = rowL ks (g j').2 0 (g j').1 from rfl, rowL_len]; exact l11)
theorem op_sound [Laid P] {w0 : Wb (lay P)} (hT : TabOk P T) (hG : SumsOk P G) (h : Rel w0 n R S a w) {o : Oper} {id : Nat} (hd : ∀ t, o.dst = some t → t < n) {r : Res}
    (hr : opS T G id o.op (evF S.fs) S.fm = some r) {K : Act → World → Prop} {Q : Exit → Act → World → Prop} (hK : ∀ R' a' w', Rel w0 n R' (S.apply o.dst r) a' w' → K a' w') : o.wp P a w K Q := by
  have quiet : PR P R a w o r → o.wp P a w K Q := by
    rintro ⟨h1, v', h3, h4⟩
    unfold Oper.wp
    rw [h3]
    refine hK R _ _ ?_
    have := h.put hd h4
    unfold FS.apply
    rw [h1]; exact this
  -- a value, and memory
  have made : ∀ (R' : Nat → Pl → Prop) (v' : Value) (w' : World), (∀ i p, R i p → R' i p) → (execOp a.eval o).run P w = .ok (.value v') w' → V2 R' r.val v' → MRel w0 R' (memF S.fm r.mem) w' → o.wp P a w K Q := by
    intro R' v' w' h1 h2 h3 h4
    unfold Oper.wp
    rw [h2]
    exact hK R' _ _ ((h.remem h1 h4).put hd h3)
  cases ho : o.op with
  | alloc t =>
    rw [ho] at hr; simp only [opS, opK, oK_some, cond_some, Bool.and_eq_true, Nat.blt_eq] at hr
    obtain ⟨i, hi, ⟨⟨⟨ht, hp⟩, hid⟩, hsm⟩, hr⟩ := hr
    have hid := Option.isNone_iff_eq_none.1 hid
    cases hr
    refine made (fun i p => R i p ∨ (i = id ∧ p = ⟨some w.heap.size, 0, 0⟩)) (.pointer (some ⟨w.heap.size, 0, none⟩)) (w.alloc (.cells i.zer.cells t)) (fun _ _ => .inl) ?_ ⟨_, _, .inr ⟨rfl, rfl⟩, rfl, rfl⟩ (h.m.alloc hid (by omega) (zCells_ok T i).2.1 (zCells_ok T i).2.2.1 (zCells_ok T i).2.2.2 (by rw [(zCells_ok T i).1]; exact LP_of (plain_cells hp ht)) (roomOk_small hsm _ _ _))
    simp [execOp, ho, Instr.alloc, run_zero hT hi, newVar, newRow, newObj, Sem.run]
  | box t x =>
    rw [ho] at hr; simp only [opS, opK, oK_some, cond_some, Bool.and_eq_true, Nat.blt_eq] at hr
    obtain ⟨v, hv, ⟨⟨ht, hid⟩, hsm⟩, hr⟩ := hr
    have hid := Option.isNone_iff_eq_none.1 hid
    cases hr
    refine made (fun i p => R i p ∨ (i = id ∧ p = ⟨some w.heap.size, 0, 0⟩)) (.pointer (some ⟨w.heap.size, 0, none⟩)) (w.alloc (.cells (a.eval x).cells t)) (fun _ _ => .inl) ?_ ⟨_, _, .inr ⟨rfl, rfl⟩, rfl, rfl⟩ (h.m.alloc hid (by omega) nofun nofun nofun (LP_of (V2_cells (h.ev hv) (notTup_ne ht))) (roomOk_small hsm _ _ _))
    simp [execOp, ho, Instr.box, newVar, newRow, newObj, Sem.run]
  | store t x y =>
    obtain ⟨h1, w', h2, h3⟩ := sound_store hT h ho hr
    unfold Oper.wp
    rw [h2]
    refine hK R _ _ ?_
    have := (h.remem (fun _ _ h => h) h3).put hd (V2_undef (R := R))
    unfold FS.apply
    rw [h1]; exact this
  | load t x =>
    have hr0 := hr
    rw [ho] at hr0
    simp only [opS, opK, oK_some, ptrK_some] at hr0
    obtain ⟨v, hv, b, off, rfl, hr0⟩ := hr0
    cases hfb : famB S.fm b with
    | true =>
      rw [hfb, cond_true] at hr0
      obtain ⟨R', v', h1, h2, h3, h4⟩ := sound_famL hT h ho hv hr0
      exact made R' v' w h1 h2 h3 h4
    | false =>
      rw [hfb, cond_false] at hr0
      exact quiet (sound_load hT h ho hv hr0)
  | indexAddr t x ix =>
    by_cases hng : ∃ g, x = .global g
    · obtain ⟨g, rfl⟩ := hng
      rw [ho] at hr
      simp only [opS, opK, glbK, oK_some] at hr
      obtain ⟨vi, hvi, hr⟩ := hr
      obtain ⟨kd, m, i, len, e, j, ks, N, c, el, rfl, k2, k3, k4, k5, k6, k7, k8, k9, rfl⟩ := gidx_iff.1 hr
      obtain ⟨dd, hd1, hd2, _⟩ := und_some hT k2
      have := hd2 k3; subst this; rw [k4] at hd1
      have hm := V2_int (h.ev hvi)
      have hin' : 0 ≤ m ∧ m < (len : Int) := by simpa [inR] using k7
      obtain ⟨g', e1, hmem⟩ := hG _ _ k6
      have e1 : g = g' := Nat.add_left_cancel e1
      subst e1
      obtain ⟨fz, hcell⟩ := h.m.below.gok _ hmem
      obtain ⟨fz0, hcell0⟩ := h.m.below.glob.1 _ hmem
      have hX := h.m.below.glob.2 _ hmem
      have hk9 : id < 60000 := by rw [Nat.blt_eq] at k9; exact k9
      refine made (fun i p => R i p ∨ (i = id ∧ p = ⟨some g, 0, 0⟩)) (.pointer (some ⟨g, 0 + m.toNat * j.siz, none⟩)) w (fun _ _ => .inl) ?_ ⟨_, _, .inr ⟨rfl, rfl⟩, rfl, rfl⟩ (h.m.view (Option.isNone_iff_eq_none.1 k8) (by omega) (.inr (.inr ⟨rfl, fun b hb => by cases hb; exact .inl ⟨hX, heap_lt hcell0⟩⟩)) (fun b2 hb2 => by cases hb2; exact ⟨_, _, _, hcell⟩) ?_)
      · have hge : a.eval (.global g) = .pointer (some ⟨g, 0, none⟩) := rfl
        simp [execOp, ho, hm, hge, Instr.indexAt, asIntOf, Instr.sureAddr, run_underlying hd1, hin', run_size hT k5, addr_add]
      · intro R' h7 h8
        refine ⟨_, h8, _, fz, hcell, ?_, fun ho => by simp at ho⟩
        refine LP_plain (rowL_pl _ _ _ _) ?_
        show List.take (rowL ks c 0 N).length (List.drop 0 (rowL ks c 0 N).toArray.toList) = rowL ks c 0 N
        rw [List.drop_zero, List.toList_toArray, List.take_length]
    rcases sound_indexAddr hT h ho hng hr with h1 | ⟨b, k, sz, e, q, b', rd, h1, h2, rfl, h4, h5, h6⟩
    · exact quiet h1
    · refine made (fun i p => R i p ∨ (i = id ∧ p = ⟨some b', q.d + k * sz, 0⟩)) _ w (fun _ _ => .inl) h6 ⟨_, _, .inr ⟨rfl, rfl⟩, rfl, rfl⟩ (h.m.view h1 (by omega) (.inl ⟨rfl, rfl⟩) (fun b2 hb2 => by cases hb2; exact h.m.there _ _ _ h4 h5) ?_)
      intro R' h7 h8
      exact ⟨q, _, b', h7 _ _ h4, h8, h5, rfl, rfl, rfl⟩
  | slice t x lo hi mx =>
    rcases sound_slice hT h ho hr with h1 | ⟨b, b2, L2, L, H, c, sz, e, p, q, h1, h2, rfl, h4, h5, ⟨p2, h6a, h6⟩, h7, h8⟩
    · exact quiet h1
    · have hview : MRel w0 (fun i p => R i p ∨ (i = nid id 0 ∧ p = q)) (upd S.fm (nid id 0) ⟨.tail b2 L2 (H - L) sz, e, false⟩) w := by
        refine h.m.view h1 (nid_lt h2 (by omega)) (.inl ⟨rfl, rfl⟩) (fun b2 hb2 => h.m.there _ _ _ h4 (by rw [← h7]; exact hb2)) ?_
        intro R' h9 h10
        exact ⟨p2, q, h9 _ _ h6a, h10, h6, rfl⟩
      rcases h8 with ⟨b', h9, h10⟩ | ⟨h9, h10, h11, a0, h12⟩
      · exact made _ _ w (fun _ _ => .inl) h10 (slice_V2 (nid_loose h2 (by omega)) (.inr ⟨rfl, rfl⟩) h5 (by rw [h9])) hview
      · exact made _ _ w (fun _ _ => .inl) h12 (slice_V2 (nid_loose h2 (by omega)) (.inr ⟨rfl, rfl⟩) h5 (by rw [h9]; exact ⟨h10, h11, a0, rfl⟩)) hview
  | convert s d x =>
    rcases sound_convert hT h ho hr with h1 | ⟨v', w', h2, h3, h4⟩ | ⟨sb, i, j, h1, h2, h3, h4⟩
    · exact quiet h1
    · exact made R v' w' (fun _ _ h => h) h2 h3 h4
    · obtain ⟨R', v', w', k1, k2, k3, k4⟩ := sound_cvt hT h ho h1 h2 h3 h4
      exact made R' v' w' k1 k2 k3 k4
  | makeSlice t l c =>
    obtain ⟨R', v', w', h1, h2, h3, h4⟩ := sound_make hT h ho hr
    exact made R' v' w' h1 h2 h3 h4
  | call c =>
    rw [ho] at hr; simp only [opS, opK, callK] at hr
    split at hr
    · rename_i g hc
      obtain ⟨vs, hr, hl⟩ := evs_run h _ hr
      obtain ⟨ent, hent, hr⟩ := oK_some.1 hr
      have hsum := hG g ent hent
      have hex : execOp a.eval o = callFunc g (c.args.map a.eval) := by
        obtain ⟨cal, args, ats⟩ := c
        simp only at hc
        subst hc
        unfold execOp; simp [ho, resolve, Deferred.ofValue, invoke, Act.eval]
      have fin0 : ∀ (vs' : List Value) (Ψ : Value → World → Prop), c.args.map a.eval = vs'.toArray → Invokes P g vs'.toArray w Ψ → (∀ v' w', Ψ v' w' → K (a.put o.dst v') w') → o.wp P a w K Q := by
        intro vs' Ψ hargs' hinv fin
        unfold Oper.wp
        rw [hex, hargs']
        unfold Invokes at hinv
        split at hinv
        · rename_i hrun; rw [hrun]; exact fin _ _ hinv
        · rename_i hrun
          rw [hrun]
          refine Calls.mono hinv fun e w'' he => ?_
          cases e with
          | returned v => exact fin _ _ he
          | panicked c => exact he.elim
          | outgrown => exact he.elim
        · exact hinv.elim
      cases ent with
      | gl _ _ _ _ => simp [entK] at hr
      | pl F =>
        simp only [entK, cond_some, oK_some] at hr
        obtain ⟨hp, ⟨q, v⟩, hv, hq, hpv, hr⟩ := hr
        simp only at hq hpv
        subst hq
        cases hr
        have hargs := (LR_plain (fun v v' hv => V2_plain hv) hp).1 hl
        have hinv := hsum vs v hv hp w h.m.below.gok
        refine fin0 vs _ (by apply Array.ext'; simp [← hargs]) hinv ?_
        rintro v' w' ⟨rfl, hb⟩
        exact hK R _ _ ((h.world hb).put hd ((V2_plain hpv).2 rfl))
      | me F =>
        simp only [entK, cond_some, Nat.blt_eq] at hr
        obtain ⟨hsm, hr⟩ := hr
        obtain ⟨v, l, hpick, hr⟩ := altM_some.1 hr
        obtain ⟨hok, hr⟩ := cond_some.1 hr
        cases hr
        have hinv := hsum w0 R S.fm w h.m vs _ hl _ (fun b blk hb => by unfold restr at hb; exact (cond_some.1 hb).2) id hsm v l hpick (by
          intro p hp
          have := List.all_eq_true.1 hok p hp
          cases hb : (Nat.ble (nid id 0) p.1 && Nat.blt p.1 (nid id 8)) with
          | true =>
            rw [hb, cond_true] at this
            simp only [Bool.and_eq_true, Nat.ble_eq, Nat.blt_eq] at hb
            exact ⟨fun _ => Option.isNone_iff_eq_none.1 this, fun hx => absurd hb hx⟩
          | false =>
            rw [hb, cond_false] at this
            simp only [Bool.and_eq_true] at this
            refine ⟨fun hx => ?_, fun _ => ?_⟩
            · have : (Nat.ble (nid id 0) p.1 && Nat.blt p.1 (nid id 8)) = true := by simp only [Bool.and_eq_true, Nat.ble_eq, Nat.blt_eq]; exact hx
              rw [hb] at this; simp at this
            · unfold restr
              rw [this.1]; exact this.2)
        refine fin0 (c.args.toList.map a.eval) _ (by apply Array.ext'; simp) hinv ?_
        rintro v' w' ⟨R', hmono, hvv, hm⟩
        exact hK R' _ _ ((h.remem hmono hm).put hd hvv)
    · rename_i hc
      obtain ⟨vs, hr, hl⟩ := evs_run h _ hr
      simp only [twoK_some] at hr
      obtain ⟨d, s, t, l, rfl, hts, hr⟩ := hr
      obtain ⟨m, w', h1, h2, h3⟩ := sound_copy hT h hts hl hr 0
      refine made R (.int .i64 ((m : Nat) : Int)) w' (fun _ _ h => h) ?_ (by rw [h1]; exact (V2_plain rfl).2 rfl) h3
      unfold Builtin.copy_ at h2
      simp only [execOp, ho, resolve, hc, Sem.run_bind, Sem.run_pure, Result.andThen_ok, invoke, builtin]
      unfold Builtin.copy_
      rw [h2]; rfl
    · rename_i hc
      obtain ⟨vs, hr, hl⟩ := evs_run h _ hr
      simp only [twoK_some] at hr
      obtain ⟨d, s, t, l, rfl, hts, hr⟩ := hr
      obtain ⟨happ, hr⟩ := cond_some.1 hr
      obtain ⟨R', v', w', h1, h2, h3, h4⟩ : ∃ (R' : Nat → Pl → Prop) (v' : Value) (w' : World), (∀ i p, R i p → R' i p) ∧ (Builtin.append_ c.argTypes 0 (c.args.map a.eval)).run P w = .ok v' w' ∧ V2 R' r.val v' ∧ MRel w0 R' (memF S.fm r.mem) w' := by
        cases hel : elSl T t with
        | true =>
          rw [hel, cond_true] at hr
          cases hB : tlB S.fm s with
          | true => rw [hB, cond_true] at hr; exact sound_appL hT h hts happ hl hr 0
          | false => rw [hB, cond_false] at hr; exact sound_appF hT h hts happ hl hr 0
        | false => rw [hel, cond_false] at hr; exact sound_append hT h hts happ hl hr 0
      refine made R' v' w' h1 ?_ h3 h4
      unfold Builtin.append_ at h2
      simp only [execOp, ho, resolve, hc, Sem.run_bind, Sem.run_pure, Result.andThen_ok, invoke, builtin]
      unfold Builtin.append_
      rw [h2]; rfl
    · rename_i hc
      obtain ⟨vs, hr, hl⟩ := evs_run h _ hr
      simp only [oneLK_some] at hr
      obtain ⟨v, t, l, rfl, hts, hr⟩ := hr
      unfold lenK at hr
      obtain ⟨i, hi, hr⟩ := oK_some.1 hr
      obtain ⟨dd, hd1, hd2, _⟩ := und_some hT hi
      obtain ⟨x0, hxs⟩ : ∃ x0, c.args.toList = [x0] := by
        have := LR_len hl
        simp at this
        match hx : c.args.toList with
        | [x0] => exact ⟨x0, rfl⟩
        | [] => rw [← Array.length_toList, hx] at this; simp at this
        | _ :: _ :: _ => rw [← Array.length_toList, hx] at this; simp at this
      rw [hxs] at hl
      simp only [List.map_cons, List.map_nil, LR, and_true] at hl
      have hargs : c.args.map a.eval = #[a.eval x0] := by
        apply Array.ext'
        simp [hxs]
      have hat : c.argTypes[0]? = some t := by rw [← Array.getElem?_toList, hts]; rfl
      have fin : ∀ m : Nat, r = val (.int .i64 ((m : Nat) : Int)) → (Builtin.len_ c.argTypes 0 #[a.eval x0]).run P w = .ok (goInt m) w → o.wp P a w K Q := by
        rintro m rfl hrun
        refine made R (.int .i64 ((m : Nat) : Int)) w (fun _ _ h => h) ?_ ((V2_plain rfl).2 rfl) h.m
        unfold Builtin.len_ at hrun
        simp only [execOp, ho, resolve, hc, Sem.run_bind, Sem.run_pure, Result.andThen_ok, invoke, builtin, hargs]
        unfold Builtin.len_
        rw [hrun]; rfl
      obtain ⟨hst, ⟨n', e, hu, h3⟩ | ⟨e, hu, h3⟩ | ⟨_, _, h3⟩ | ⟨_, h3⟩ | ⟨hu, h3⟩⟩ := descK_some hr <;> first | (simp at h3; done) | skip
      · have := hd2 hst; subst this; rw [hu] at hd1
        refine fin n' (Option.some.inj h3).symm ?_
        simp [Builtin.len_, hat, run_underlying hd1]
      · have := hd2 hst; subst this; rw [hu] at hd1
        obtain ⟨ad, m, c', rfl, h4⟩ := slLenK_some.1 h3
        refine fin m (Option.some.inj h4).symm ?_
        have hx : ∃ ad' c2, a.eval x0 = .slice ad' m c2 := by
          cases ad with
          | none => exact ⟨none, _, (V2_plain (R := R) rfl).1 hl⟩
          | some ad => obtain ⟨p, _, e⟩ := (show V0 R (.slice (some ad) m c') (a.eval x0) from hl); exact SlOk_sl e
        obtain ⟨ad', c2, hx⟩ := hx
        simp [Builtin.len_, hat, run_underlying hd1, hx]
      · have := hd2 hst; subst this; rw [hu] at hd1
        obtain ⟨s, rfl, h4⟩ := strK_some.1 h3
        refine fin s.size (Option.some.inj h4).symm ?_
        simp [Builtin.len_, hat, run_underlying hd1, V2_string hl]
    · rename_i hc
      obtain ⟨vs, hr, hl⟩ := evs_run h _ hr
      obtain ⟨kd, x, k2, y, rfl, hr⟩ := two2K_some.1 hr
      cases hr
      have hp := (LR_plain (r := V2 R) (pl := pl2) (fun v v' hv => V2_plain hv) (l := [.int kd x, .int k2 y]) rfl).1 hl
      have hargs : c.args.map a.eval = #[.int kd x, .int k2 y] := by
        apply Array.ext'
        simpa using hp
      refine made R (.int kd (if y > x then y else x)) w (fun _ _ h => h) ?_ ((V2_plain rfl).2 rfl) h.m
      simp only [execOp, ho, resolve, hc, Sem.run_bind, Sem.run_pure, Result.andThen_ok, invoke, builtin, Builtin.max_, hargs, List.foldlM_cons, List.foldlM_nil, Builtin.max2]
    · rename_i hc
      obtain ⟨vs, hr, hl⟩ := evs_run h _ hr
      obtain ⟨kd, x, k2, y, rfl, hr⟩ := two2K_some.1 hr
      cases hr
      have hp := (LR_plain (r := V2 R) (pl := pl2) (fun v v' hv => V2_plain hv) (l := [.int kd x, .int k2 y]) rfl).1 hl
      have hargs : c.args.map a.eval = #[.int kd x, .int k2 y] := by
        apply Array.ext'
        simpa using hp
      refine made R (.int kd (if y < x then y else x)) w (fun _ _ h => h) ?_ ((V2_plain rfl).2 rfl) h.m
      simp only [execOp, ho, resolve, hc, Sem.run_bind, Sem.run_pure, Result.andThen_ok, invoke, builtin, Builtin.min_, hargs, List.foldlM_cons, List.foldlM_nil, Builtin.min2]
    · simp at hr
  | buildSlice t len ps =>
    rw [ho] at hr; simp only [opS, opK, oK_some] at hr
    obtain ⟨i, hi, hr⟩ := hr
    obtain ⟨vs, hr, h1, h2⟩ := parts_run h _ hr
    obtain ⟨dd, hd1, hd2, _⟩ := und_some hT hi
    obtain ⟨hst, ⟨_, _, _, h3⟩ | ⟨e, hu, h3⟩ | ⟨_, _, h3⟩ | ⟨_, h3⟩ | ⟨_, h3⟩⟩ := descK_some hr <;> first | (simp at h3; done) | skip
    have := hd2 hst; subst this; rw [hu] at hd1
    simp only [oK_some, cond_some, Bool.and_eq_true, Bool.not_eq_true', Nat.blt_eq] at h3
    obtain ⟨j, hj, ⟨⟨⟨⟨⟨⟨⟨ht, hp⟩, hsz⟩, hs0⟩, hl0⟩, hle⟩, hid⟩, hsm⟩, h3⟩ := h3
    have hid := Option.isNone_iff_eq_none.1 hid
    have hsz := nbeq.1 hsz
    have hle := Nat.le_of_ble_eq_true hle
    have hs0 : j.siz ≠ 0 := fun e => by rw [e] at hs0; simp at hs0
    have hl0 : len ≠ 0 := fun e => by rw [e] at hl0; simp at hl0
    have h1' : vs.map (·.1) = (ps.toList.map fun p => (p.1, a.eval p.2)).map (·.1) := by rw [h1]; simp
    have h2' : LR (V2 R) (vs.map (·.2)) ((ps.toList.map fun p => (p.1, a.eval p.2)).map (·.2)) := by rw [List.map_map]; exact h2
    have hparts : (ps.map fun (i, x) => (i, a.eval x)).toList = ps.toList.map fun p => (p.1, a.eval p.2) := by simp
    have hz : j.zer.cells.size = j.siz := by rw [← Array.length_toList]; exact hsz
    obtain ⟨cs, cs', h4, h5, h6⟩ := fill_run (place' := fun m => some (m * j.siz, j.siz)) (fun _ _ h => h) vs _ h1' h2' _ (repL len j.zer.cells.toList).toArray (by rw [List.toList_toArray]; exact LR_rep (plain_cells hp ht) len) h3
    cases h4
    have : (execOp a.eval o).run P w = .ok (.value (.slice (some ⟨w.heap.size, 0, none⟩) len len)) (w.alloc (.cells cs' e)) := by
      have hne : len * j.siz ≠ 0 := Nat.mul_ne_zero hl0 hs0
      have hr0 := repL_range (z := j.zer.cells) (n := len) (by rw [hz]; exact hs0)
      rw [hz] at hr0
      simp only [execOp, ho, Instr.buildSlice, Sem.run_bind, run_underlying hd1, Result.andThen_ok, run_size hT hj, hparts]
      rw [if_neg (by omega)]
      simp only [Sem.run_pure, Result.andThen_ok, if_neg hne, Sem.run_bind, run_zero hT hj, hz, hr0, h5, newRow, newObj]
      simp [Sem.run]
    have hlo : loose id = false := by
      unfold loose
      rw [show Nat.ble 500000 id = false from by rw [Bool.eq_false_iff, ne_eq, Nat.ble_eq]; omega, show Nat.ble 1500000 id = false from by rw [Bool.eq_false_iff, ne_eq, Nat.ble_eq]; omega]; rfl
    refine made (fun i p => R i p ∨ (i = id ∧ p = ⟨some w.heap.size, 0, 0⟩)) _ _ (fun _ _ => .inl) this ⟨_, .inr ⟨rfl, rfl⟩, ?_⟩ (h.m.alloc hid (by omega) nofun nofun nofun (LP_of h6) (roomOk_small (by assumption) _ _ _))
    unfold SlOk
    rw [if_neg (by simp [hlo])]
    exact ⟨_, rfl, by simp⟩
  | _ => exact quiet (sound_quiet hT h hr (by simp [ho]) (by simp [ho]) (by simp [ho]) (by simp [ho]) (by simp [ho]) (by simp [ho]) (by simp [ho]) (by simp [ho]) (by simp [ho]) (by simp [ho]))
end
end Go.W
