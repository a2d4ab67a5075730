/-
  The engine, part 4: the run of each operation that makes and writes no memory is what the evaluator says.
-/
import Derived.Test.YtdhbnidobpkkfaaW3
namespace Go.W

def TOk (P : Program) (t : Nat) (i : TInf) : Prop :=
  (∃ inf, P.info? t = some inf ∧ inf.size = i.siz ∧ inf.zero = some i.zer) ∧
  (i.st = false → P.underlying t = some i.und) ∧
  (i.st = true → ∃ fs, P.underlying t = some (.struct fs) ∧ fs.toList.map (fun f => (f.offset, f.type)) = i.flds) ∧
  (i.eqf = true → P.eqGuardType P.depth t = false)

def TabOk (P : Program) (T : Tab) : Prop := ∀ t i, look T t = some i → TOk P t i

/-- A call of function g, whatever its make: what it comes to. -/
def Invokes (P : Program) (g : FuncId) (args : Array Value) (w : World) (K : Value → World → Prop) : Prop :=
  match (callFunc g args).run P w with
  | .ok (.value v) w' => K v w'
  | .ok (.enter f args') w' => Calls P f args' w' fun
      | .returned v, w'' => K v w''
      | _, _ => False
  | _ => False

def SumsOk (P : Program) (G : Sums) : Prop :=
  ∀ g F, look G g = some F → ∀ args v, F args = some (true, v) → args.all pl2 = true → ∀ w, Invokes P g args.toArray w fun v' w' => v' = v ∧ RowKit.Below w.heap.size w w'

def evF (fs : Nat → Option Value) : Operand → Option Value
  | .tmp t => fs t
  | .const v => bif pl2 v then some v else none
  | _ => none

section
variable {P : Program} {T : Tab} {w0 w : World} {n : Nat} {R : Nat → Nat → Prop} {S : FS} {a : Act}

theorem Rel.ev {x : Operand} {v : Value} (h : Rel w0 n R S a w) (hx : evF S.fs x = some v) : V2 R v (a.eval x) := by
  cases x with
  | tmp t =>
    obtain ⟨v', h1, h2⟩ := h.slot t v hx
    have : a.eval (.tmp t) = v' := by simp [Act.eval, h1]
    rw [this]; exact h2
  | const u =>
    simp only [evF] at hx
    obtain ⟨hp, hx⟩ := cond_some.1 hx
    cases hx
    exact (V2_plain hp).2 rfl
  | global g => simp [evF] at hx
  | func f => simp [evF] at hx

theorem V2_int {kd : IntKind} {m : Int} {v' : Value} (h : V2 R (.int kd m) v') : v' = .int kd m := (V2_plain rfl).1 h
theorem V2_bool {b : Bool} {v' : Value} (h : V2 R (.bool b) v') : v' = .bool b := (V2_plain rfl).1 h
theorem V2_string {s : ByteArray} {v' : Value} (h : V2 R (.string s) v') : v' = .string s := (V2_plain rfl).1 h
theorem V2_ptr {b off : Nat} {v' : Value} (h : V2 R (.pointer (some ⟨b, off, none⟩)) v') : ∃ b', R b b' ∧ v' = .pointer (some ⟨b', off, none⟩) := h
theorem V2_slice {b off m c : Nat} {v' : Value} (h : V2 R (.slice (some ⟨b, off, none⟩) m c) v') : ∃ b', R b b' ∧ v' = .slice (some ⟨b', off, none⟩) m c := h
theorem V2_agg {cs : Array Value} {v' : Value} (h : V2 R (.agg cs) v') : ∃ cs', v' = .agg cs' ∧ LR (V0 R) cs.toList cs'.toList := h
theorem V2_tuple {cs : Array Value} {v' : Value} (h : V2 R (.tuple cs) v') : ∃ cs', v' = .tuple cs' ∧ LR (V1 R) cs.toList cs'.toList := h
theorem V2_of_V1 {v v' : Value} (h : V1 R v v') : V2 R v v' := by
  unfold V2; split
  · simp [V1, V0] at h
  · exact h
theorem V1_of_V0 {v v' : Value} (h : V0 R v v') : V1 R v v' := by
  unfold V1; split
  · simp [V0] at h
  · exact h
theorem V2_of_V0 {v v' : Value} (h : V0 R v v') : V2 R v v' := V2_of_V1 (V1_of_V0 h)

/-- Of a row of integers of one kind. -/
theorem LR_ints {kd : IntKind} {l l' : List Value} (h : LR (V0 R) l l') (hi : l.all (isIntK kd) = true) : l' = l := by
  refine (LR_plain (r := V0 R) (pl := pl0) (fun v v' hv => V0_plain hv) ?_).1 h
  rw [List.all_eq_true] at hi ⊢
  intro v hv
  have := hi v hv
  unfold isIntK at this; split at this
  · rfl
  · simp at this

theorem info_of (hT : TabOk P T) {t : Nat} {i : TInf} (h : look T t = some i) : ∃ inf, P.info? t = some inf ∧ inf.size = i.siz ∧ inf.zero = some i.zer := (hT t i h).1

theorem cellsOf_of (hT : TabOk P T) {t : Nat} {i : TInf} (h : look T t = some i) : P.cellsOf t = i.siz := by
  obtain ⟨inf, h1, h2, _⟩ := info_of hT h
  simp [Program.cellsOf, h1, h2]

theorem run_size (hT : TabOk P T) {t : Nat} {i : TInf} (h : look T t = some i) (w : World) : (sizeOf t).run P w = .ok i.siz w := by
  obtain ⟨inf, h1, h2, _⟩ := info_of hT h
  rw [run_sizeOf w h1, cellsOf_of hT h]

theorem und_some (hT : TabOk P T) {t : Nat} {i : TInf} (h : look T t = some i) : ∃ d, P.underlying t = some d ∧ (i.st = false → d = i.und) ∧ (i.st = true → ∃ fs, d = .struct fs ∧ fs.toList.map (fun f => (f.offset, f.type)) = i.flds) := by
  obtain ⟨_, h1, h2, _⟩ := hT t i h
  cases hs : i.st with
  | false => exact ⟨_, h1 hs, fun _ => rfl, nofun⟩
  | true => obtain ⟨fs, e1, e2⟩ := h2 hs; exact ⟨_, e1, nofun, fun _ => ⟨fs, rfl, e2⟩⟩

theorem run_agg (hT : TabOk P T) {t : Nat} {i : TInf} (h : look T t = some i) (w : World) : (isAgg t).run P w = .ok (isAggT i) w := by
  obtain ⟨d, hd, h1, h2⟩ := und_some hT h
  cases hs : i.st with
  | false =>
    have := h1 hs; subst this
    simp only [isAgg, Sem.run_bind, run_underlying hd, Result.andThen_ok, isAggT, hs, Bool.false_or]
    cases i.und <;> rfl
  | true =>
    obtain ⟨fs, rfl, _⟩ := h2 hs
    simp only [isAgg, Sem.run_bind, run_underlying hd, Result.andThen_ok, isAggT, hs, Bool.true_or]
    rfl

theorem descK_some {β : Type} {i : TInf} {arr : Nat → Nat → Option β} {slc : Nat → Option β} {int : IntKind → Option β} {bool str : Option β} {r : β}
    (h : descK i arr slc int bool str none = some r) : i.st = false ∧ ((∃ m e, i.und = .array m e ∧ arr m e = some r) ∨ (∃ e, i.und = .slice e ∧ slc e = some r) ∨ (∃ kd, i.und = .int kd ∧ int kd = some r) ∨
      (i.und = .bool ∧ bool = some r) ∨ (i.und = .string ∧ str = some r)) := by
  unfold descK at h
  obtain ⟨h1, h2⟩ := cond_none.1 h
  refine ⟨h1, ?_⟩
  split at h2
  · exact .inl ⟨_, _, by assumption, h2⟩
  · exact .inr (.inl ⟨_, by assumption, h2⟩)
  · exact .inr (.inr (.inl ⟨_, by assumption, h2⟩))
  · exact .inr (.inr (.inr (.inl ⟨by assumption, h2⟩)))
  · exact .inr (.inr (.inr (.inr ⟨by assumption, h2⟩)))
  · simp at h2

/-- A part of a row. -/
theorem part_run (hT : TabOk P T) {t : Nat} {i : TInf} (ht : look T t = some i) {cs cs' : List Value} (hl : LR (V0 R) cs cs') {off : Nat} {k : Value → Option Res} {r : Res} (h : partK i cs off k none = some r) (w : World) :
    ∃ v v', k v = some r ∧ (part t cs'.toArray off).run P w = .ok v' w ∧ V1 R v v' := by
  unfold partK at h
  simp only [part, Sem.run_bind, run_agg hT ht, Result.andThen_ok]
  cases hA : isAggT i with
  | true =>
    simp only [hA, cond_true] at h
    obtain ⟨h1, h2⟩ := cond_some.1 h
    refine ⟨_, _, h2, by simp only [if_true, Sem.run_bind, run_size hT ht, Result.andThen_ok]; rfl, ?_⟩
    refine ⟨_, rfl, ?_⟩
    simp only [List.extract_toArray, List.extract_eq_take_drop]
    have := LR_take i.siz (LR_drop off hl)
    simpa using this
  | false =>
    simp only [hA, cond_false] at h
    obtain ⟨v, h1, h2⟩ := oK_some.1 h
    obtain ⟨v', h3, h4⟩ := LR_get hl h1
    refine ⟨v, v', h2, ?_, V1_of_V0 h4⟩
    simp [h3]

def PR (P : Program) (R : Nat → Nat → Prop) (a : Act) (w : World) (o : Oper) (r : Res) : Prop :=
  r.new = none ∧ r.wr = none ∧ ∃ v', (execOp a.eval o).run P w = .ok (.value v') w ∧ V2 R r.val v'

theorem PR.mk {o : Oper} {v v' : Value} (hr : (execOp a.eval o).run P w = .ok (.value v') w) (hv : V2 R v v') : PR P R a w o (val v) := ⟨rfl, rfl, v', hr, hv⟩

theorem isIntK_some {kd : IntKind} {v : Value} (h : isIntK kd v = true) : ∃ x, v = .int kd x := by
  unfold isIntK at h; split at h
  · simp only [decide_eq_true_eq] at h; subst h; exact ⟨_, rfl⟩
  · simp at h

theorem binI_run {op : BinOp} {kx ky : IntKind} {x y : Int} {k : Value → Option Res} {r : Res} (h : binI op kx x ky y k none = some r) (t : Nat) (w : World) :
    ∃ v, k v = some r ∧ (binOp op t (.int kx x) (.int ky y)).run P w = .ok v w ∧ V2 R v v := by
  cases op <;> simp only [binI] at h <;> simp only [cond_some, cond_none, decide_eq_true_eq, decide_eq_false_iff_not] at h
  case shl => exact ⟨_, h.2, by simp [binOp, Op.shift, h.1], (V2_plain rfl).2 rfl⟩
  case shr => exact ⟨_, h.2, by simp [binOp, Op.shift, h.1], (V2_plain rfl).2 rfl⟩
  case quo => obtain ⟨rfl, h2, h3⟩ := h; exact ⟨_, h3, by simp [binOp, Op.intDiv, h2], (V2_plain rfl).2 rfl⟩
  case rem => obtain ⟨rfl, h2, h3⟩ := h; exact ⟨_, h3, by simp [binOp, Op.intDiv, h2], (V2_plain rfl).2 rfl⟩
  all_goals (obtain ⟨rfl, h2⟩ := h; exact ⟨_, h2, by simp [binOp, Op.intArith, Op.intBits, Op.intCmp], (V2_plain rfl).2 rfl⟩)

theorem eqL_items (hT : TabOk P T) {e : Nat} {j : TInf} (he : look T e = some j) (hs : j.siz = 1) (hst : j.st = false) {kd : IntKind} (hu : j.und = .int kd) (d : Nat) (w : World) :
    ∀ (m lo : Nat) (xs ys : Array Value), xs.size = lo + m → ys.size = lo + m → xs.toList.all (isIntK kd) = true → ys.toList.all (isIntK kd) = true →
      (Op.eqItems (d + 1) e (P.cellsOf e) xs ys (List.range' lo m)).run P w = .ok (eqL (xs.toList.drop lo) (ys.toList.drop lo)) w := by
  obtain ⟨du, hd1, hd2, _⟩ := und_some hT he
  have hd3 := hd2 hst; subst hd3
  intro m
  induction m with
  | zero =>
    intro lo xs ys hx hy _ _
    rw [List.drop_eq_nil_of_le (by simp; omega)]
    simp [Op.eqItems, eqL]
  | succ m ih =>
    intro lo xs ys hx hy ax ay
    have lx : lo < xs.toList.length := by simp; omega
    have ly : lo < ys.toList.length := by simp; omega
    have ex := List.all_eq_true.1 ax _ (List.getElem_mem lx)
    have ey := List.all_eq_true.1 ay _ (List.getElem_mem ly)
    rw [List.drop_eq_getElem_cons lx, List.drop_eq_getElem_cons ly]
    generalize hgx : xs.toList[lo] = vx at ex
    generalize hgy : ys.toList[lo] = vy at ey
    obtain ⟨x, rfl⟩ := isIntK_some ex
    obtain ⟨y, rfl⟩ := isIntK_some ey
    have px : xs[lo]? = some (.int kd x) := by rw [← Array.getElem?_toList, List.getElem?_eq_getElem lx, hgx]
    have py : ys[lo]? = some (.int kd y) := by rw [← Array.getElem?_toList, List.getElem?_eq_getElem ly, hgy]
    have hag : isAggT j = false := by simp [isAggT, hst, hu]
    have hpx : (part e xs (lo * P.cellsOf e)).run P w = .ok (.int kd x) w := by
      simp [part, run_agg hT he, hag, cellsOf_of hT he, hs, px]
    have hpy : (part e ys (lo * P.cellsOf e)).run P w = .ok (.int kd y) w := by
      simp [part, run_agg hT he, hag, cellsOf_of hT he, hs, py]
    rw [hu] at hd1
    have heq : (Op.equalIn (d + 1) e (.int kd x) (.int kd y)).run P w = .ok (x == y) w := by
      simp [Op.equalIn, run_underlying hd1]
    rw [List.range'_succ]
    simp only [Op.eqItems, Sem.run_bind, hpx, hpy, Result.andThen_ok, heq]
    cases hxy : (x == y) with
    | false => simp [eqL, hxy]
    | true =>
      simp only [Bool.not_true, Bool.false_eq_true, if_false, eqL, hxy, Bool.true_and]
      exact ih (lo + 1) xs ys (by omega) (by omega) ax ay

theorem eqA_run (hT : TabOk P T) {t : Nat} {xs ys : Array Value} {k : Bool → Option Res} {r : Res} (h : eqA T t xs.toList ys.toList k none = some r) (w : World) :
    ∃ b, k b = some r ∧ (Op.equal t (.agg xs) (.agg ys)).run P w = .ok b w ∧ P.eqGuardType P.depth t = false ∧ ∃ kd, xs.toList.all (isIntK kd) = true ∧ ys.toList.all (isIntK kd) = true := by
  unfold eqA at h
  simp only [oK_some, cond_some] at h
  obtain ⟨i, hi, heq, h⟩ := h
  obtain ⟨hst, h | ⟨e, _, h⟩ | ⟨kd, _, h⟩ | ⟨_, h⟩ | ⟨_, h⟩⟩ := descK_some h <;> first | (simp at h; done) | skip
  obtain ⟨m, e, hu, h⟩ := h
  simp only [oK_some, cond_some] at h
  obtain ⟨j, hj, hs, h⟩ := h
  obtain ⟨hst', ⟨_, _, _, h⟩ | ⟨_, _, h⟩ | ⟨kd, hu', h⟩ | ⟨_, h⟩ | ⟨_, h⟩⟩ := descK_some h <;> first | (simp at h; done) | skip
  simp only [cond_some, Bool.and_eq_true] at h
  obtain ⟨⟨⟨⟨l1, l2⟩, a1⟩, a2⟩, h⟩ := h
  have l1 := nbeq.1 l1
  have l2 := nbeq.1 l2
  obtain ⟨d, hd1, hd2, _⟩ := und_some hT hi
  have := hd2 hst; subst this
  rw [hu] at hd1
  obtain ⟨inf, hinf, _⟩ := info_of hT hj
  refine ⟨_, h, ?_, (hT t i hi).2.2.2 heq, kd, a1, a2⟩
  unfold Op.equal
  rw [show Op.maxDepth = 9998 + 1 + 1 from rfl, run_equalIn_array w (9998 + 1) xs ys hd1 hinf, List.range_eq_range']
  have := eqL_items hT hj (nbeq.1 hs) hst' hu' 9998 w m 0 xs ys (by simpa using l1) (by simpa using l2) a1 a2
  simpa using this

theorem eqGuard_agg {op : BinOp} {t : Nat} {x y : Operand} {xs ys : Array Value} (hg : P.eqGuardType P.depth t = false) (w : World) : (eqGuard op t x y (.agg xs) (.agg ys)).run P w = .ok () w := by
  unfold eqGuard
  cases op <;> simp [hg]

theorem eqGuard_int {op : BinOp} {t : Nat} {x y : Operand} {k1 k2 : IntKind} {m1 m2 : Int} (w : World) : (eqGuard op t x y (.int k1 m1) (.int k2 m2)).run P w = .ok () w := by
  unfold eqGuard
  cases op <;> simp

theorem eqGuard_bool {op : BinOp} {t : Nat} {x y : Operand} {b1 b2 : Bool} (w : World) : (eqGuard op t x y (.bool b1) (.bool b2)).run P w = .ok () w := by
  unfold eqGuard
  cases op <;> simp

end
end Go.W
