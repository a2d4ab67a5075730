/-
  Several texts in one.
-/
import Derived.Calls
import Derived.Orders
import Derived.Below
import Derived.ChangeKeysEq
import Derived.Laws.Small
import Derived.LoopN
import Derived.Scope
/-
  The engine, part 1: an evaluator for a fragment of the program text, on states that name blocks by numbers of their own, and the relation of such a state to a frame and a world.
-/
namespace Go.W

def look {α : Type} : List (Nat × α) → Nat → Option α
  | [], _ => none
  | p :: r, t => bif Nat.beq p.1 t then some p.2 else look r t

def upd {α : Type} (f : Nat → Option α) (t : Nat) (v : α) : Nat → Option α := fun u => bif Nat.beq t u then some v else f u

theorem look_cons {α : Type} (t : Nat) (v : α) (l : List (Nat × α)) : look ((t, v) :: l) = upd (look l) t v := rfl

theorem nbeq {a b : Nat} : Nat.beq a b = true ↔ a = b := ⟨Nat.eq_of_beq_eq_true, fun h => h ▸ Nat.beq_refl a⟩

theorem nbeq_ne {a b : Nat} (h : a ≠ b) : Nat.beq a b = false := by
  cases hb : Nat.beq a b with
  | false => rfl
  | true => exact absurd (nbeq.1 hb) h

theorem upd_same {α : Type} (f : Nat → Option α) (t : Nat) (v : α) : upd f t v t = some v := by simp [upd]

theorem upd_ne {α : Type} (f : Nat → Option α) {t u : Nat} (v : α) (h : t ≠ u) : upd f t v u = f u := by simp [upd, nbeq_ne h]

theorem upd_comm {α : Type} (f : Nat → Option α) {t u : Nat} (v x : α) (h : t ≠ u) : upd (upd f t v) u x = upd (upd f u x) t v := by
  funext s
  by_cases h1 : u = s
  · subst h1; rw [upd_same, upd_ne _ _ h, upd_same]
  · rw [upd_ne _ _ h1]
    by_cases h2 : t = s
    · subst h2; rw [upd_same, upd_same]
    · rw [upd_ne _ _ h2, upd_ne _ _ h2, upd_ne _ _ h1]

theorem upd_idem {α : Type} (f : Nat → Option α) {t : Nat} {v : α} (h : f t = some v) : upd f t v = f := by
  funext s
  by_cases h1 : t = s
  · subst h1; rw [upd_same, h]
  · rw [upd_ne _ _ h1]

/-- A block: its cells, the type of its elements, whether it is the call's own. -/
structure Blk where
  cells : List Value
  elem : TypeId
  own : Bool

structure FS where
  fs : Nat → Option Value
  fm : Nat → Option Blk

/-- What an operation comes to: its value, a block that it makes, a block as it writes it, the blocks that it reads. -/
structure Res where
  val : Value
  new : Option Blk
  wr : Option (Nat × Blk)
  rd : List Nat

def putF {α : Type} (f : Nat → Option α) (d : Option Nat) (v : α) : Nat → Option α :=
  match d with
  | some t => upd f t v
  | none => f

def memF (fm : Nat → Option Blk) (id : Nat) (new : Option Blk) (wr : Option (Nat × Blk)) : Nat → Option Blk :=
  let g := match new with
    | some b => upd fm id b
    | none => fm
  match wr with
    | some p => upd g p.1 p.2
    | none => g

def FS.apply (S : FS) (dst : Option Nat) (id : Nat) (r : Res) : FS := ⟨putF S.fs dst r.val, memF S.fm id r.new r.wr⟩

/-! ## Values, the evaluator's and the world's -/

/-- Rows that an append or a call made (from 500000 on), and arguments' (from 1500000 on): of slices of these the capacity is known from below alone. -/
def loose (i : Nat) : Bool := (Nat.ble 500000 i && Nat.blt i 1000000) || Nat.ble 1500000 i
def capOk (i c c' : Nat) : Prop := if loose i = true then c ≤ c' else c' = c

theorem capOk_refl (i c : Nat) : capOk i c c := by unfold capOk; split; exact Nat.le_refl _; rfl

def V0 (R : Nat → Nat → Prop) (v v' : Value) : Prop :=
  match v with
  | .pointer (some a) => ∃ b, R a.block b ∧ v' = .pointer (some { a with block := b })
  | .slice (some a) n c => ∃ b c', R a.block b ∧ capOk a.block c c' ∧ v' = .slice (some { a with block := b }) n c'
  | .agg _ => False
  | .tuple _ => False
  | v => v' = v

def LR (r : Value → Value → Prop) : List Value → List Value → Prop
  | [], [] => True
  | a :: as, b :: bs => r a b ∧ LR r as bs
  | _, _ => False

def V1 (R : Nat → Nat → Prop) (v v' : Value) : Prop :=
  match v with
  | .agg cs => ∃ cs', v' = .agg cs' ∧ LR (V0 R) cs.toList cs'.toList
  | v => V0 R v v'

def V2 (R : Nat → Nat → Prop) (v v' : Value) : Prop :=
  match v with
  | .tuple vs => ∃ vs', v' = .tuple vs' ∧ LR (V1 R) vs.toList vs'.toList
  | v => V1 R v v'

def pl0 : Value → Bool
  | .pointer (some _) => false
  | .slice (some _) _ _ => false
  | .agg _ => false
  | .tuple _ => false
  | _ => true

def pl1 : Value → Bool
  | .agg cs => cs.toList.all pl0
  | v => pl0 v

def pl2 : Value → Bool
  | .tuple vs => vs.toList.all pl1
  | v => pl1 v

theorem V0_plain {R : Nat → Nat → Prop} {v v' : Value} (h : pl0 v = true) : V0 R v v' ↔ v' = v := by
  unfold pl0 at h
  split at h <;> first | (simp at h; done) | skip
  unfold V0
  split <;> simp_all

theorem LR_len {r : Value → Value → Prop} : ∀ {l l' : List Value}, LR r l l' → l.length = l'.length
  | [], [], _ => rfl
  | _ :: _, _ :: _, h => by simp [LR_len h.2]
  | [], _ :: _, h => h.elim
  | _ :: _, [], h => h.elim

theorem LR_plain {r : Value → Value → Prop} {pl : Value → Bool} (hr : ∀ v v', pl v = true → (r v v' ↔ v' = v)) :
    ∀ {l l' : List Value}, l.all pl = true → (LR r l l' ↔ l' = l)
  | [], [], _ => by simp [LR]
  | a :: as, b :: bs, h => by
    simp only [List.all_cons, Bool.and_eq_true] at h
    simp [LR, hr a b h.1, LR_plain hr h.2]
  | [], _ :: _, _ => by simp [LR]
  | _ :: _, [], _ => by simp [LR]

theorem V1_plain {R : Nat → Nat → Prop} {v v' : Value} (h : pl1 v = true) : V1 R v v' ↔ v' = v := by
  unfold pl1 at h
  split at h
  · rename_i cs
    simp only [V1]
    constructor
    · rintro ⟨cs', rfl, hl⟩
      rw [LR_plain (fun v v' hv => V0_plain hv) h] at hl
      congr 1
      exact Array.toList_inj.1 hl
    · rintro rfl
      exact ⟨cs, rfl, (LR_plain (fun v v' hv => V0_plain hv) h).2 rfl⟩
  · rename_i hv
    have : V1 R v v' = V0 R v v' := by
      unfold V1; split
      · exact absurd rfl (hv _)
      · rfl
    rw [this]; exact V0_plain h

theorem V2_plain {R : Nat → Nat → Prop} {v v' : Value} (h : pl2 v = true) : V2 R v v' ↔ v' = v := by
  unfold pl2 at h
  split at h
  · rename_i cs
    simp only [V2]
    constructor
    · rintro ⟨cs', rfl, hl⟩
      rw [LR_plain (fun v v' hv => V1_plain hv) h] at hl
      congr 1
      exact Array.toList_inj.1 hl
    · rintro rfl
      exact ⟨cs, rfl, (LR_plain (fun v v' hv => V1_plain hv) h).2 rfl⟩
  · rename_i hv
    have : V2 R v v' = V1 R v v' := by
      unfold V2; split
      · exact absurd rfl (hv _)
      · rfl
    rw [this]; exact V1_plain h

theorem V0_mono {R R' : Nat → Nat → Prop} (h : ∀ i b, R i b → R' i b) {v v' : Value} (hv : V0 R v v') : V0 R' v v' := by
  unfold V0 at *
  split at hv
  · obtain ⟨b, hb, rfl⟩ := hv; exact ⟨b, h _ _ hb, rfl⟩
  · obtain ⟨b, c', hb, hc, rfl⟩ := hv; exact ⟨b, c', h _ _ hb, hc, rfl⟩
  · exact hv
  · exact hv
  · exact hv

theorem LR_mono {r r' : Value → Value → Prop} (h : ∀ v v', r v v' → r' v v') : ∀ {l l' : List Value}, LR r l l' → LR r' l l'
  | [], [], _ => trivial
  | _ :: _, _ :: _, hl => ⟨h _ _ hl.1, LR_mono h hl.2⟩
  | [], _ :: _, hl => hl.elim
  | _ :: _, [], hl => hl.elim

theorem V1_mono {R R' : Nat → Nat → Prop} (h : ∀ i b, R i b → R' i b) {v v' : Value} (hv : V1 R v v') : V1 R' v v' := by
  unfold V1 at *
  split at hv
  · obtain ⟨cs', rfl, hl⟩ := hv; exact ⟨cs', rfl, LR_mono (fun _ _ => V0_mono h) hl⟩
  · exact V0_mono h hv

theorem V2_mono {R R' : Nat → Nat → Prop} (h : ∀ i b, R i b → R' i b) {v v' : Value} (hv : V2 R v v') : V2 R' v v' := by
  unfold V2 at *
  split at hv
  · obtain ⟨cs', rfl, hl⟩ := hv; exact ⟨cs', rfl, LR_mono (fun _ _ => V1_mono h) hl⟩
  · exact V1_mono h hv

theorem LR_get {r : Value → Value → Prop} : ∀ {l l' : List Value} {i : Nat} {v : Value}, LR r l l' → l[i]? = some v → ∃ v', l'[i]? = some v' ∧ r v v'
  | [], [], _, _, _, h => by simp at h
  | a :: as, b :: bs, 0, v, hl, h => by simp at h; subst h; exact ⟨b, by simp, hl.1⟩
  | a :: as, b :: bs, i + 1, v, hl, h => by simp at h; simpa using LR_get hl.2 h
  | [], _ :: _, _, _, hl, _ => hl.elim
  | _ :: _, [], _, _, hl, _ => hl.elim

theorem LR_drop {r : Value → Value → Prop} : ∀ {l l' : List Value} (i : Nat), LR r l l' → LR r (l.drop i) (l'.drop i)
  | _, _, 0, h => by simpa using h
  | [], [], _ + 1, _ => by simp [LR]
  | _ :: _, _ :: _, i + 1, h => by simpa using LR_drop i h.2
  | [], _ :: _, _ + 1, h => h.elim
  | _ :: _, [], _ + 1, h => h.elim

theorem LR_take {r : Value → Value → Prop} : ∀ {l l' : List Value} (i : Nat), LR r l l' → LR r (l.take i) (l'.take i)
  | _, _, 0, _ => by simp [LR]
  | [], [], _ + 1, _ => by simp [LR]
  | _ :: _, _ :: _, i + 1, h => by simpa [LR] using ⟨h.1, LR_take i h.2⟩
  | [], _ :: _, _ + 1, h => h.elim
  | _ :: _, [], _ + 1, h => h.elim

theorem LR_append {r : Value → Value → Prop} : ∀ {l l' m m' : List Value}, LR r l l' → LR r m m' → LR r (l ++ m) (l' ++ m')
  | [], [], _, _, _, h => by simpa using h
  | _ :: _, _ :: _, _, _, h, h' => by simpa [LR] using ⟨h.1, LR_append h.2 h'⟩
  | [], _ :: _, _, _, h, _ => h.elim
  | _ :: _, [], _, _, h, _ => h.elim

theorem LR_set {r : Value → Value → Prop} {v v' : Value} (hv : r v v') : ∀ {l l' : List Value} (i : Nat), LR r l l' → LR r (l.set i v) (l'.set i v')
  | [], [], _, _ => by simp [LR]
  | _ :: _, _ :: _, 0, h => by simpa [LR] using ⟨hv, h.2⟩
  | _ :: _, _ :: _, i + 1, h => by simpa [LR] using ⟨h.1, LR_set hv i h.2⟩
  | [], _ :: _, _, h => h.elim
  | _ :: _, [], _, h => h.elim

/-- The cells of a value that is no tuple. -/
theorem V2_cells {R : Nat → Nat → Prop} {v v' : Value} (h : V2 R v v') (ht : ∀ vs, v ≠ .tuple vs) : LR (V0 R) v.cells.toList v'.cells.toList := by
  unfold V2 at h
  split at h
  · exact absurd rfl (ht _)
  · unfold V1 at h
    split at h
    · obtain ⟨cs', rfl, hl⟩ := h; exact hl
    · rename_i hne
      have e1 : v.cells = #[v] := by unfold Value.cells; split <;> first | exact absurd rfl (hne _) | rfl
      have e2 : v'.cells = #[v'] := by
        unfold Value.cells
        split
        · rename_i cs
          unfold V0 at h
          split at h
          · simp at h
          · simp at h
          · exact h.elim
          · exact h.elim
          · exact absurd h.symm (hne _)
        · rfl
      rw [e1, e2]; exact ⟨h, trivial⟩

def notTup : Value → Bool
  | .tuple _ => false
  | _ => true

theorem notTup_ne {v : Value} (h : notTup v = true) : ∀ vs, v ≠ .tuple vs := by
  rintro vs rfl; simp [notTup] at h

/-- A cell's value is none of two kinds that are no cell's. -/
theorem V0_one {R : Nat → Nat → Prop} {v v' : Value} (h : V0 R v v') : (∀ cs, v' ≠ .agg cs) ∧ (∀ cs, v' ≠ .tuple cs) := by
  unfold V0 at h
  split at h
  · obtain ⟨b, _, rfl⟩ := h; constructor <;> intro cs hc <;> simp at hc
  · obtain ⟨b, c', _, _, rfl⟩ := h; constructor <;> intro cs hc <;> simp at hc
  · exact h.elim
  · exact h.elim
  · subst h; constructor <;> intro cs hc <;> simp_all

/-! ## The cells that are known, of a row that may have more -/

def LP (R : Nat → Nat → Prop) (cells : List Value) (cs : Array Value) : Prop := LR (V0 R) cells (cs.toList.take cells.length)

section
variable {R : Nat → Nat → Prop} {cells : List Value} {cs : Array Value}
theorem LP_le (h : LP R cells cs) : cells.length ≤ cs.size := by
  have := LR_len h
  have e : cs.toList.length = cs.size := Array.length_toList
  rw [List.length_take] at this
  omega
theorem LP_of (h : LR (V0 R) cells cs.toList) : LP R cells cs := by
  unfold LP
  rw [LR_len h, List.take_length]; exact h
theorem LP_get (h : LP R cells cs) {i : Nat} {v : Value} (hv : cells[i]? = some v) : ∃ v', cs.toList[i]? = some v' ∧ V0 R v v' := by
  obtain ⟨v', h1, h2⟩ := LR_get h hv
  rw [List.getElem?_take] at h1
  split at h1
  · exact ⟨v', h1, h2⟩
  · simp at h1
theorem LP_part (h : LP R cells cs) {off n : Nat} (hle : off + n ≤ cells.length) : LR (V0 R) ((cells.drop off).take n) ((cs.toList.drop off).take n) := by
  have := LR_take n (LR_drop off h)
  rw [List.drop_take, List.take_take, Nat.min_eq_left (by omega)] at this
  exact this
theorem LP_set (h : LP R cells cs) {off : Nat} {vs vs' : List Value} (hv : LR (V0 R) vs vs') (hle : off + vs.length ≤ cells.length) :
    LP R (cells.take off ++ vs ++ cells.drop (off + vs.length)) (cs.toList.take off ++ vs' ++ cs.toList.drop (off + vs.length)).toArray := by
  have hl := LR_len hv
  have hc := LP_le h
  have e0 : cs.toList.length = cs.size := Array.length_toList
  have a1 := LR_take off h
  rw [List.take_take, Nat.min_eq_left (by omega)] at a1
  have a2 := LR_drop (off + vs.length) h
  rw [List.drop_take] at a2
  unfold LP
  have e : (cells.take off ++ vs ++ cells.drop (off + vs.length)).length = cells.length := by
    simp only [List.length_append, List.length_take, List.length_drop]; omega
  have e2 : (cs.toList.take off ++ vs' ++ cs.toList.drop (off + vs.length)).take cells.length = cs.toList.take off ++ vs' ++ (cs.toList.drop (off + vs.length)).take (cells.length - (off + vs.length)) := by
    rw [List.take_append, List.take_of_length_le (by simp only [List.length_append, List.length_take]; omega)]
    congr 2
    simp only [List.length_append, List.length_take]; omega
  rw [e, List.toList_toArray, e2]
  exact LR_append (LR_append a1 hv) a2
end

/-! ## The relation -/

/-- Where a call began: the world, the blocks of that world that it may write, and which blocks its arguments' numbers (from 1000000 on) stand for. -/
structure Wb where
  w : World
  X : Nat → Prop
  A : Nat → Nat → Prop

/-- All that was there is as it was, but for what may be written. -/
structure BelowX (w0 : Wb) (w : World) : Prop where
  os : w.os = w0.w.os
  tape : w.tape = w0.w.tape
  output : w.output = w0.w.output
  size : w0.w.heap.size ≤ w.heap.size
  block : ∀ k, k < w0.w.heap.size → ¬ w0.X k → w.heap[k]? = w0.w.heap[k]?

theorem BelowX.refl (w : World) (X : Nat → Prop) (A : Nat → Nat → Prop) : BelowX ⟨w, X, A⟩ w := ⟨rfl, rfl, rfl, Nat.le_refl _, fun _ _ _ => rfl⟩

theorem BelowX.trans {w0 : Wb} {w w' : World} (h : BelowX w0 w) (k : RowKit.Below w.heap.size w w') : BelowX w0 w' :=
  ⟨k.os.trans h.os, k.tape.trans h.tape, k.output.trans h.output, Nat.le_trans h.size k.size, fun i hi hx => (k.block i (Nat.lt_of_lt_of_le hi h.size)).trans (h.block i hi hx)⟩

theorem BelowX.below {w0 : Wb} {w : World} (h : BelowX w0 w) (hX : ∀ k, ¬ w0.X k) : RowKit.Below w0.w.heap.size w0.w w :=
  ⟨h.os, h.tape, h.output, h.size, fun k hk => h.block k hk (hX k)⟩

structure Rel (w0 : Wb) (n : Nat) (R : Nat → Nat → Prop) (S : FS) (a : Act) (w : World) : Prop where
  defers : a.defers = []
  below : BelowX w0 w
  size : a.tmps.size = n
  slot : ∀ t v, S.fs t = some v → ∃ v', a.tmps[t]? = some v' ∧ V2 R v v'
  func : ∀ i b b', R i b → R i b' → b = b'
  inj : ∀ i j b, R i b → R j b → i ≠ j → ∀ blk, S.fm i = some blk → blk.own = false
  mem : ∀ i blk, S.fm i = some blk → ∃ b cs fz, R i b ∧ w.heap[b]? = some (.cells cs blk.elem fz) ∧ LP R blk.cells cs ∧ (blk.own = true → fz = (0, 0) ∧ (w0.X b ∨ w0.w.heap.size ≤ b))
  dom : ∀ i b, R i b → (S.fm i).isSome = true
  anc : ∀ i b, R i b → 1000000 ≤ i → w0.A i b

/-- The memory alone. -/
structure MRel (w0 : Wb) (R : Nat → Nat → Prop) (fm : Nat → Option Blk) (w : World) : Prop where
  below : BelowX w0 w
  func : ∀ i b b', R i b → R i b' → b = b'
  inj : ∀ i j b, R i b → R j b → i ≠ j → ∀ blk, fm i = some blk → blk.own = false
  mem : ∀ i blk, fm i = some blk → ∃ b cs fz, R i b ∧ w.heap[b]? = some (.cells cs blk.elem fz) ∧ LP R blk.cells cs ∧ (blk.own = true → fz = (0, 0) ∧ (w0.X b ∨ w0.w.heap.size ≤ b))
  dom : ∀ i b, R i b → (fm i).isSome = true
  anc : ∀ i b, R i b → 1000000 ≤ i → w0.A i b

theorem Rel.toM {w0 : Wb} {n : Nat} {R : Nat → Nat → Prop} {S : FS} {a : Act} {w : World} (h : Rel w0 n R S a w) : MRel w0 R S.fm w := ⟨h.below, h.func, h.inj, h.mem, h.dom, h.anc⟩

theorem MRel.toR {w0 : Wb} {n : Nat} {R : Nat → Nat → Prop} {S : FS} {a : Act} {w : World} (h : MRel w0 R S.fm w) (h1 : a.defers = []) (h2 : a.tmps.size = n) (h3 : ∀ t v, S.fs t = some v → ∃ v', a.tmps[t]? = some v' ∧ V2 R v v') : Rel w0 n R S a w :=
  ⟨h1, h.below, h2, h3, h.func, h.inj, h.mem, h.dom, h.anc⟩

end Go.W

/-
  The engine, part 2: the evaluator of one operation, in the style in which what follows is handed on, so that a test whose outcome is open leaves two ways.
-/
namespace Go.W

/-- What is known of a type: its shape (where it is no struct), its number of cells, its zero; of a struct: the places and types of its fields; the kinds of its cells, where '==' holds these against one another and asks nothing more. -/
inductive CK where
  | i (k : IntKind)
  | b
  | s

structure TInf where
  und : TypeDesc
  siz : Nat
  zer : Value
  st : Bool
  flds : List (Nat × Nat)
  eqk : List CK

abbrev Tab := List (Nat × TInf)
/-- What a function comes to: of its arguments, whether it may be called so, and the answer; or of arguments that stand for memory, too: of the blocks that they reach and of the number of a new block: the answer, the new block, a block as it is written. -/
inductive Ent where
  | pl (F : List Value → Option (Bool × Value))
  | me (F : List Value → (Nat → Option Blk) → Nat → Option (Bool × Value × Option Blk × Option (Nat × Blk)))
instance : Coe (List Value → Option (Bool × Value)) Ent := ⟨Ent.pl⟩
instance : Coe (List Value → (Nat → Option Blk) → Nat → Option (Bool × Value × Option Blk × Option (Nat × Blk))) Ent := ⟨Ent.me⟩
abbrev Sums := List (Nat × Ent)

def nmem (d : Nat) : List Nat → Bool
  | [] => false
  | x :: l => Nat.beq x d || nmem d l

theorem nmem_iff {d : Nat} {l : List Nat} : nmem d l = true ↔ d ∈ l := by
  induction l with
  | nil => simp [nmem]
  | cons x l ih =>
    simp only [nmem, Bool.or_eq_true, ih, nbeq, List.mem_cons]
    exact ⟨fun h => h.elim (fun e => .inl e.symm) .inr, fun h => h.elim (fun e => .inl e.symm) .inr⟩

/-! ## What arguments reach -/

def idsV0 : Value → List Nat
  | .pointer (some a) => [a.block]
  | .slice (some a) _ _ => [a.block]
  | _ => []
def idsV : Value → List Nat
  | .agg cs => cs.toList.flatMap idsV0
  | v => idsV0 v
def bare : Value → Bool
  | .int _ _ => true
  | .bool _ => true
  | .string _ => true
  | _ => false
def plainT (T : Tab) (t : Nat) : Bool :=
  match look T t with
  | some i => i.zer.cells.toList.all bare
  | none => false
def nextI (T : Tab) (mm : Nat → Option Blk) (l : List Nat) : List Nat :=
  l.flatMap fun b => match mm b with
    | some blk => bif plainT T blk.elem then [] else blk.cells.flatMap idsV0
    | none => []
def reach (T : Tab) (mm : Nat → Option Blk) (l : List Nat) : List Nat := l ++ (nextI T mm l ++ nextI T mm (nextI T mm l))
def restr (mm : Nat → Option Blk) (l : List Nat) (b : Nat) : Option Blk := bif nmem b l then mm b else none

theorem nextI_congr {T : Tab} {mm mm' : Nat → Option Blk} {l : List Nat} (h : ∀ b ∈ l, mm' b = mm b) : nextI T mm' l = nextI T mm l := by
  unfold nextI
  induction l with
  | nil => rfl
  | cons b l ih =>
    simp only [List.flatMap_cons, h b (by simp)]
    rw [ih fun c hc => h c (by simp [hc])]

theorem reach_congr {T : Tab} {mm mm' : Nat → Option Blk} {l : List Nat} (h : ∀ b ∈ reach T mm l, mm' b = mm b) : reach T mm' l = reach T mm l := by
  unfold reach at h ⊢
  have h1 : nextI T mm' l = nextI T mm l := nextI_congr fun b hb => h b (by simp [hb])
  rw [h1, nextI_congr (l := nextI T mm l) fun b hb => h b (by simp [hb])]

theorem restr_congr {mm mm' : Nat → Option Blk} {l : List Nat} (h : ∀ b ∈ l, mm' b = mm b) : restr mm' l = restr mm l := by
  funext b
  unfold restr
  cases hb : nmem b l with
  | false => rfl
  | true => exact h b (nmem_iff.1 hb)

section
variable {R : Type}

def oK {α : Type} (o : Option α) (k : α → R) (f : R) : R :=
  match o with
  | some a => k a
  | none => f

def boolK (v : Value) (k : Bool → R) (f : R) : R :=
  match v with
  | .bool b => k b
  | _ => f

def intK (v : Value) (k : IntKind → Int → R) (f : R) : R :=
  match v with
  | .int kd n => k kd n
  | _ => f

def ptrK (v : Value) (k : Nat → Nat → R) (f : R) : R :=
  match v with
  | .pointer (some ⟨b, off, none⟩) => k b off
  | _ => f

def sliceK (v : Value) (k : Nat → Nat → Nat → Nat → R) (f : R) : R :=
  match v with
  | .slice (some ⟨b, off, none⟩) n c => k b off n c
  | _ => f

def aggK (v : Value) (k : List Value → R) (f : R) : R :=
  match v with
  | .agg cs => k cs.toList
  | _ => f

def tupK (v : Value) (k : List Value → R) (f : R) : R :=
  match v with
  | .tuple cs => k cs.toList
  | _ => f

def strK (v : Value) (k : ByteArray → R) (f : R) : R :=
  match v with
  | .string s => k s
  | _ => f

def descK (i : TInf) (arr : Nat → Nat → R) (slc : Nat → R) (int : IntKind → R) (bool str : R) (f : R) : R :=
  bif i.st then f else
  match i.und with
  | .array n e => arr n e
  | .slice e => slc e
  | .int kd => int kd
  | .bool => bool
  | .string => str
  | _ => f

def inR (i : Int) (len : Nat) : Bool := decide (0 ≤ i) && decide (i < (len : Int))

def isAggT (i : TInf) : Bool :=
  i.st || (match i.und with
    | .struct _ => true
    | .array _ _ => true
    | _ => false)

/-- A part of a row of cells, as a value of a type. -/
def partK (i : TInf) (cells : List Value) (off : Nat) (k : Value → R) (f : R) : R :=
  bif isAggT i then (bif Nat.ble (off + i.siz) cells.length then k (.agg ((cells.drop off).take i.siz).toArray) else f)
  else oK cells[off]? k f

def binI (op : BinOp) (kx : IntKind) (a : Int) (ky : IntKind) (b : Int) (k : Value → R) (f : R) : R :=
  match op with
  | .shl => bif decide (b < 0) then f else k (.int kx (kx.wrap (a * 2 ^ (min b.toNat kx.bits))))
  | .shr => bif decide (b < 0) then f else k (.int kx (a.fdiv (2 ^ (min b.toNat kx.bits))))
  | .add => bif decide (kx = ky) then k (.int kx (kx.wrap (a + b))) else f
  | .sub => bif decide (kx = ky) then k (.int kx (kx.wrap (a - b))) else f
  | .mul => bif decide (kx = ky) then k (.int kx (kx.wrap (a * b))) else f
  | .quo => bif decide (kx = ky) then (bif decide (b = 0) then f else k (.int kx (kx.wrap (a.tdiv b)))) else f
  | .rem => bif decide (kx = ky) then (bif decide (b = 0) then f else k (.int kx (a.tmod b))) else f
  | .and => bif decide (kx = ky) then k (.int kx (kx.wrap (BitVec.ofInt kx.bits a &&& BitVec.ofInt kx.bits b).toNat)) else f
  | .or => bif decide (kx = ky) then k (.int kx (kx.wrap (BitVec.ofInt kx.bits a ||| BitVec.ofInt kx.bits b).toNat)) else f
  | .xor => bif decide (kx = ky) then k (.int kx (kx.wrap (BitVec.ofInt kx.bits a ^^^ BitVec.ofInt kx.bits b).toNat)) else f
  | .andNot => bif decide (kx = ky) then k (.int kx (kx.wrap (BitVec.ofInt kx.bits a &&& ~~~ (BitVec.ofInt kx.bits b)).toNat)) else f
  | .eql => bif decide (kx = ky) then k (.bool (a == b)) else f
  | .neq => bif decide (kx = ky) then k (.bool (a != b)) else f
  | .lss => bif decide (kx = ky) then k (.bool (decide (a < b))) else f
  | .leq => bif decide (kx = ky) then k (.bool (decide (a ≤ b))) else f
  | .gtr => bif decide (kx = ky) then k (.bool (decide (a > b))) else f
  | .geq => bif decide (kx = ky) then k (.bool (decide (a ≥ b))) else f

def isIntK (kd : IntKind) : Value → Bool
  | .int k _ => decide (k = kd)
  | _ => false

def eqL : List Value → List Value → Bool
  | .int _ a :: xs, .int _ b :: ys => (a == b) && eqL xs ys
  | .bool a :: xs, .bool b :: ys => (a == b) && eqL xs ys
  | .string a :: xs, .string b :: ys => (a == b) && eqL xs ys
  | _, _ => true

def isCK : CK → Value → Bool
  | .i kd, .int k _ => decide (k = kd)
  | .b, .bool _ => true
  | .s, .string _ => true
  | _, _ => false

def fitsK : List CK → List Value → Bool
  | [], [] => true
  | k :: ks, v :: vs => isCK k v && fitsK ks vs
  | _, _ => false

/-- '==' on arrays and structs of plain cells. -/
def eqA (T : Tab) (t : Nat) (xs ys : List Value) (k : Bool → R) (f : R) : R :=
  oK (look T t) (fun i => bif i.eqk.isEmpty then f else bif isAggT i && fitsK i.eqk xs && fitsK i.eqk ys then k (eqL xs ys) else f) f

def eqOpK (op : BinOp) (b : Bool) (k : Value → R) (f : R) : R :=
  match op with
  | .eql => k (.bool b)
  | .neq => k (.bool (!b))
  | _ => f

def binK (T : Tab) (op : BinOp) (t : Nat) (x y : Value) (k : Value → R) (f : R) : R :=
  intK x (fun kx a => intK y (fun ky b => binI op kx a ky b k f) f)
    (boolK x (fun a => boolK y (fun b => oK (look T t) (fun i => descK i (fun _ _ => f) (fun _ => f) (fun _ => f) (eqOpK op (a == b) k f) f f) f) f)
      (aggK x (fun xs => aggK y (fun ys => eqA T t xs ys (fun b => eqOpK op b k f) f) f) f))

def unI (op : UnOp) (kd : IntKind) (n : Int) (k : Value → R) (f : R) : R :=
  match op with
  | .neg => k (.int kd (kd.wrap (0 - n)))
  | _ => f

def unB (op : UnOp) (b : Bool) (k : Value → R) (f : R) : R :=
  match op with
  | .not => k (.bool (!b))
  | _ => f

def unK (op : UnOp) (x : Value) (k : Value → R) (f : R) : R :=
  intK x (fun kd n => unI op kd n k f) (boolK x (fun b => unB op b k f) f)

/-- The parts of a literal, laid one by one. -/
def fillK (place : Nat → Option (Nat × Nat)) : List (Nat × Value) → List Value → (List Value → R) → R → R
  | [], cells, k, _ => k cells
  | p :: rest, cells, k, f =>
    oK (place p.1) (fun q => bif notTup p.2 && Nat.beq p.2.cells.toList.length q.2 && Nat.ble (q.1 + q.2) cells.length
      then fillK place rest (cells.take q.1 ++ p.2.cells.toList ++ cells.drop (q.1 + q.2)) k f else f) f

def evsK (ev : Operand → Option Value) : List Operand → (List Value → R) → R → R
  | [], k, _ => k []
  | x :: r, k, f => oK (ev x) (fun v => evsK ev r (fun vs => k (v :: vs)) f) f

def partsK (ev : Operand → Option Value) : List (Nat × Operand) → (List (Nat × Value) → R) → R → R
  | [], k, _ => k []
  | x :: r, k, f => oK (ev x.2) (fun v => partsK ev r (fun vs => k ((x.1, v) :: vs)) f) f

def val (v : Value) : Res := ⟨v, none, none, []⟩

def optK (ev : Operand → Option Value) (o : Option Operand) (k : Option Value → R) (f : R) : R :=
  match o with
  | none => k none
  | some x => oK (ev x) (fun v => k (some v)) f

def noneK (o : Option Operand) (x f : R) : R :=
  match o with
  | none => x
  | some _ => f

/-- The lower bound of a slice expression, and the upper one. -/
def lowK (h : Nat) (lo : Option Value) (k : Nat → R) (f : R) : R :=
  match lo with
  | none => k 0
  | some l => intK l (fun _ i => bif decide (0 ≤ i) && decide (i ≤ (h : Int)) then k i.toNat else f) f

def highK (len cap : Nat) (hi : Option Value) (k : Nat → R) (f : R) : R :=
  match hi with
  | none => k len
  | some h => intK h (fun _ j => bif decide (0 ≤ j) && decide (j ≤ (cap : Int)) then k j.toNat else f) f

def placeOf (T : Tab) (i : TInf) (m : Nat) : Option (Nat × Nat) := (i.flds[m]?).bind fun fl => (look T fl.2).map fun j => (fl.1, j.siz)

def copyK (T : Tab) (t : Nat) (d s : Value) (mm : Nat → Option Blk) (k : Res → R) (f : R) : R :=
  sliceK d (fun b off n _ => sliceK s (fun b' off' n' _ => oK (mm b) (fun blk => oK (mm b') (fun blk' => oK (look T t) (fun i => descK i (fun _ _ => f)
    (fun e => oK (look T e) (fun j => bif blk.own && Nat.beq j.siz 1 && Nat.ble (off + min n' n) blk.cells.length && Nat.ble (off' + min n' n) blk'.cells.length then
              k ⟨.int .i64 ((min n' n : Nat) : Int), none, some (b, ⟨blk.cells.take off ++ (blk'.cells.drop off').take (min n' n) ++ blk.cells.drop (off + min n' n), blk.elem, true⟩), [b, b']⟩ else f) f)
    (fun _ => f) f f f) f) f) f) f) f

def twoK (vs : List Value) (ts : List Nat) (k : Value → Value → Nat → R) (f : R) : R :=
  match vs, ts with
  | [d, s], t :: _ => k d s t
  | _, _ => f

def oneLK (vs : List Value) (ts : List Nat) (k : Value → Nat → R) (f : R) : R :=
  match vs, ts with
  | [v], t :: _ => k v t
  | _, _ => f

def two2K (vs : List Value) (k : IntKind → Int → Int → R) (f : R) : R :=
  match vs with
  | [.int kd x, .int _ y] => k kd x y
  | _ => f

def slLenK (v : Value) (k : Nat → R) (f : R) : R :=
  match v with
  | .slice _ n _ => k n
  | _ => f

def lenK (T : Tab) (v : Value) (t : Nat) (k : Res → R) (f : R) : R :=
  oK (look T t) (fun i => descK i (fun n _ => k (val (.int .i64 ((n : Nat) : Int)))) (fun _ => slLenK v (fun n => k (val (.int .i64 ((n : Nat) : Int)))) f) (fun _ => f) f (strK v (fun s => k (val (.int .i64 ((s.size : Nat) : Int)))) f) f) f

/-- So many times the same cells. -/
def repL : Nat → List Value → List Value
  | 0, _ => []
  | n + 1, z => z ++ repL n z

def newWr (id : Nat) (new : Option Blk) (wr : Option (Nat × Blk)) : Option (Nat × Blk) :=
  match new with
  | some b => some (id, b)
  | none => wr

def entK (T : Tab) (e : Ent) (id : Nat) (vs : List Value) (mm : Nat → Option Blk) (k : Res → R) (f : R) : R :=
  match e with
  | .pl F => bif vs.all pl2 then oK (F vs) (fun q => bif q.1 then (bif pl2 q.2 then k (val q.2) else f) else f) f else f
  | .me F => oK (F vs (restr mm (reach T mm (vs.flatMap idsV))) (id + 500000)) (fun q => bif q.1 && (mm (id + 500000)).isNone && Nat.blt id 500000 && (q.2.2.1.isNone || q.2.2.2.isNone) then
      k ⟨q.2.1, none, newWr (id + 500000) q.2.2.1 q.2.2.2, (id + 500000) :: reach T mm (vs.flatMap idsV)⟩ else f) f

def callK (T : Tab) (G : Sums) (c : Call) (id : Nat) (ev : Operand → Option Value) (mm : Nat → Option Blk) (k : Res → R) (f : R) : R :=
  match c.callee with
  | .value (.func g) => evsK ev c.args.toList (fun vs => oK (look G g) (fun e => entK T e id vs mm k f) f) f
  | .builtin .copy => evsK ev c.args.toList (fun vs => twoK vs c.argTypes.toList (fun d s t => copyK T t d s mm k f) f) f
  | .builtin .len => evsK ev c.args.toList (fun vs => oneLK vs c.argTypes.toList (fun v t => lenK T v t k f) f) f
  | .builtin .max => evsK ev c.args.toList (fun vs => two2K vs (fun kd x y => k (val (.int kd (if y > x then y else x)))) f) f
  | .builtin .min => evsK ev c.args.toList (fun vs => two2K vs (fun kd x y => k (val (.int kd (if y < x then y else x)))) f) f
  | _ => f

def storeK (b off : Nat) (blk : Blk) (i : TInf) (v : Value) (k : Res → R) (f : R) : R :=
  bif blk.own && notTup v && Nat.beq v.cells.toList.length i.siz && Nat.ble (off + i.siz) blk.cells.length then
    (bif Nat.beq i.siz 1 then oK v.cells.toList.head? (fun c => k ⟨undef, none, some (b, ⟨blk.cells.set off c, blk.elem, true⟩), [b]⟩) f
     else k ⟨undef, none, some (b, ⟨blk.cells.take off ++ v.cells.toList ++ blk.cells.drop (off + i.siz), blk.elem, true⟩), [b]⟩) else f

def opK (T : Tab) (G : Sums) (id : Nat) (op : Op) (ev : Operand → Option Value) (mm : Nat → Option Blk) (k : Res → R) (f : R) : R :=
  match op with
  | .move x => oK (ev x) (fun v => k (val v)) f
  | .assign x => oK (ev x) (fun v => k (val v)) f
  | .pick c x y => oK (ev c) (fun vc => boolK vc (fun b => bif b then oK (ev x) (fun v => k (val v)) f else oK (ev y) (fun v => k (val v)) f) f) f
  | .alloc t => oK (look T t) (fun i => bif notTup i.zer && pl1 i.zer && (mm id).isNone && Nat.blt id 1000000 then k ⟨.pointer (some ⟨id, 0, none⟩), some ⟨i.zer.cells.toList, t, true⟩, none, [id]⟩ else f) f
  | .box t x => oK (ev x) (fun v => bif notTup v && (mm id).isNone && Nat.blt id 1000000 then k ⟨.pointer (some ⟨id, 0, none⟩), some ⟨v.cells.toList, t, true⟩, none, [id]⟩ else f) f
  | .load t x => oK (ev x) (fun a => ptrK a (fun b off => oK (mm b) (fun blk => oK (look T t) (fun i =>
      partK i blk.cells off (fun v => k ⟨v, none, none, [b]⟩) f) f) f) f) f
  | .store t x y => oK (ev x) (fun a => oK (ev y) (fun v => ptrK a (fun b off => oK (mm b) (fun blk => oK (look T t) (fun i => storeK b off blk i v k f) f) f) f) f) f
  | .indexAddr t x ix => oK (ev x) (fun vx => oK (ev ix) (fun vi => intK vi (fun _ n => oK (look T t) (fun i => descK i
      (fun len e => ptrK vx (fun b off => oK (look T e) (fun j => bif inR n len then k (val (.pointer (some ⟨b, off + n.toNat * j.siz, none⟩))) else f) f) f)
      (fun e => sliceK vx (fun b off len _ => oK (look T e) (fun j => bif inR n len then k (val (.pointer (some ⟨b, off + n.toNat * j.siz, none⟩))) else f) f) f)
      (fun _ => f) f f f) f) f) f) f
  | .fieldAddr t x n => oK (ev x) (fun vx => ptrK vx (fun b off => oK (look T t) (fun i => bif i.st then oK i.flds[n]? (fun fl => oK (look T fl.2) (fun j =>
      bif Nat.beq j.siz 0 then f else k (val (.pointer (some ⟨b, off + fl.1, none⟩)))) f) f else f) f) f) f
  | .field t x n => oK (ev x) (fun vx => aggK vx (fun cs => oK (look T t) (fun i => bif i.st then oK i.flds[n]? (fun fl => oK (look T fl.2) (fun j => partK j cs fl.1 (fun v => k (val v)) f) f) f else f) f) f) f
  | .index t x ix => oK (ev x) (fun vx => oK (ev ix) (fun vi => intK vi (fun _ n => oK (look T t) (fun i => descK i
      (fun len e => aggK vx (fun cs => oK (look T e) (fun j => bif inR n len then partK j cs (n.toNat * j.siz) (fun v => k (val v)) f else f) f) f)
      (fun _ => f) (fun _ => f) f (strK vx (fun s => bif inR n s.size then k (val (.int .u8 ((s.data.toList.getD n.toNat 0).toNat : Int))) else f) f) f) f) f) f) f
  | .extract x n => oK (ev x) (fun vx => tupK vx (fun vs => oK vs[n]? (fun v => bif notTup v then k (val v) else f) f) f) f
  | .binOp op t x y _ => oK (ev x) (fun vx => oK (ev y) (fun vy => binK T op t vx vy (fun v => k (val v)) f) f) f
  | .unOp op _ x => oK (ev x) (fun vx => unK op vx (fun v => k (val v)) f) f
  | .convert s d x => oK (ev x) (fun vx => oK (look T s) (fun _ => oK (look T d) (fun j => intK vx (fun _ n => descK j (fun _ _ => f) (fun _ => f) (fun kd => k (val (.int kd (kd.wrap n)))) f f f) f) f) f) f
  | .build t parts => oK (look T t) (fun i => partsK ev parts.toList (fun ps => bif notTup i.zer && pl1 i.zer then
      (bif i.st then bif i.flds.all (fun fl => (look T fl.2).isSome) then fillK (placeOf T i) ps i.zer.cells.toList (fun cs => k (val (.agg cs.toArray))) f else f
       else descK i (fun _ e => oK (look T e) (fun j => fillK (fun m => some (m * j.siz, j.siz)) ps i.zer.cells.toList (fun cs => k (val (.agg cs.toArray))) f) f) (fun _ => f) (fun _ => f) f f f) else f) f) f
  | .buildSlice t len parts => oK (look T t) (fun i => partsK ev parts.toList (fun ps => descK i (fun _ _ => f)
      (fun e => oK (look T e) (fun j => bif notTup j.zer && pl1 j.zer && Nat.beq j.zer.cells.toList.length j.siz && !(Nat.beq j.siz 0) && !(Nat.beq len 0) && Nat.ble (len * j.siz) 65536 && (mm id).isNone && Nat.blt id 1000000 then
        fillK (fun m => some (m * j.siz, j.siz)) ps (repL len j.zer.cells.toList) (fun cs => k ⟨.slice (some ⟨id, 0, none⟩) len len, some ⟨cs, e, true⟩, none, [id]⟩) f else f) f)
      (fun _ => f) f f f) f) f
  | .slice t x lo hi mx => noneK mx (oK (ev x) (fun vx => optK ev lo (fun l => optK ev hi (fun h => oK (look T t) (fun i => descK i
      (fun n e => ptrK vx (fun b off => oK (look T e) (fun j => highK n n h (fun h => lowK h l (fun l =>
          k (val (.slice (some ⟨b, bif Nat.beq n l then off else off + l * j.siz, none⟩) (h - l) (n - l)))) f) f) f) f)
      (fun e => sliceK vx (fun b off n c => oK (look T e) (fun j => highK n c h (fun h => lowK h l (fun l =>
          bif Nat.ble h c && !(loose b && Nat.beq c l) then k (val (.slice (some ⟨b, bif Nat.beq c l then off else off + l * j.siz, none⟩) (h - l) (c - l))) else f) f) f) f) f)
      (fun _ => f) f f f) f) f) f) f) f
  | .call c => callK T G c id ev mm k f
  | _ => f

/-! ## What is handed on may be turned at any time -/

variable {R' : Type} (h : R → R')

theorem oK_nat {α : Type} (o : Option α) (k : α → R) (f : R) : h (oK o k f) = oK o (fun a => h (k a)) (h f) := by cases o <;> rfl
theorem boolK_nat (v : Value) (k : Bool → R) (f : R) : h (boolK v k f) = boolK v (fun a => h (k a)) (h f) := by cases v <;> rfl
theorem intK_nat (v : Value) (k : IntKind → Int → R) (f : R) : h (intK v k f) = intK v (fun a b => h (k a b)) (h f) := by cases v <;> rfl
theorem ptrK_nat (v : Value) (k : Nat → Nat → R) (f : R) : h (ptrK v k f) = ptrK v (fun a b => h (k a b)) (h f) := by unfold ptrK; split <;> simp_all
theorem sliceK_nat (v : Value) (k : Nat → Nat → Nat → Nat → R) (f : R) : h (sliceK v k f) = sliceK v (fun a b c d => h (k a b c d)) (h f) := by unfold sliceK; split <;> simp_all
theorem aggK_nat (v : Value) (k : List Value → R) (f : R) : h (aggK v k f) = aggK v (fun a => h (k a)) (h f) := by cases v <;> rfl
theorem tupK_nat (v : Value) (k : List Value → R) (f : R) : h (tupK v k f) = tupK v (fun a => h (k a)) (h f) := by cases v <;> rfl
theorem strK_nat (v : Value) (k : ByteArray → R) (f : R) : h (strK v k f) = strK v (fun a => h (k a)) (h f) := by cases v <;> rfl
theorem cond_nat (b : Bool) (x y : R) : h (bif b then x else y) = bif b then h x else h y := by cases b <;> rfl
theorem descK_nat (i : TInf) (arr : Nat → Nat → R) (slc : Nat → R) (int : IntKind → R) (bool str : R) (f : R) :
    h (descK i arr slc int bool str f) = descK i (fun a b => h (arr a b)) (fun a => h (slc a)) (fun a => h (int a)) (h bool) (h str) (h f) := by
  unfold descK; cases i.st
  · simp only [cond_false]; split <;> rfl
  · rfl
theorem partK_nat (i : TInf) (cells : List Value) (off : Nat) (k : Value → R) (f : R) : h (partK i cells off k f) = partK i cells off (fun v => h (k v)) (h f) := by
  simp only [partK, cond_nat h, oK_nat h]
theorem binI_nat (op : BinOp) (kx : IntKind) (a : Int) (ky : IntKind) (b : Int) (k : Value → R) (f : R) : h (binI op kx a ky b k f) = binI op kx a ky b (fun v => h (k v)) (h f) := by
  cases op <;> simp only [binI, cond_nat h]
theorem eqA_nat (T : Tab) (t : Nat) (xs ys : List Value) (k : Bool → R) (f : R) : h (eqA T t xs ys k f) = eqA T t xs ys (fun b => h (k b)) (h f) := by
  simp only [eqA, oK_nat h, cond_nat h]
theorem eqOpK_nat (op : BinOp) (b : Bool) (k : Value → R) (f : R) : h (eqOpK op b k f) = eqOpK op b (fun v => h (k v)) (h f) := by cases op <;> rfl
theorem binK_nat (T : Tab) (op : BinOp) (t : Nat) (x y : Value) (k : Value → R) (f : R) : h (binK T op t x y k f) = binK T op t x y (fun v => h (k v)) (h f) := by
  simp only [binK, intK_nat h, boolK_nat h, aggK_nat h, oK_nat h, descK_nat h, binI_nat h, eqA_nat h, eqOpK_nat h]
theorem unI_nat (op : UnOp) (kd : IntKind) (n : Int) (k : Value → R) (f : R) : h (unI op kd n k f) = unI op kd n (fun v => h (k v)) (h f) := by cases op <;> rfl
theorem unB_nat (op : UnOp) (b : Bool) (k : Value → R) (f : R) : h (unB op b k f) = unB op b (fun v => h (k v)) (h f) := by cases op <;> rfl
theorem unK_nat (op : UnOp) (x : Value) (k : Value → R) (f : R) : h (unK op x k f) = unK op x (fun v => h (k v)) (h f) := by
  simp only [unK, intK_nat h, boolK_nat h, unI_nat h, unB_nat h]
theorem fillK_nat (place : Nat → Option (Nat × Nat)) : ∀ (ps : List (Nat × Value)) (cells : List Value) (k : List Value → R) (f : R),
    h (fillK place ps cells k f) = fillK place ps cells (fun v => h (k v)) (h f)
  | [], _, _, _ => rfl
  | p :: rest, cells, k, f => by simp only [fillK, oK_nat h, cond_nat h, fillK_nat place rest]
theorem evsK_nat (ev : Operand → Option Value) : ∀ (xs : List Operand) (k : List Value → R) (f : R), h (evsK ev xs k f) = evsK ev xs (fun v => h (k v)) (h f)
  | [], _, _ => rfl
  | x :: r, k, f => by simp only [evsK, oK_nat h, evsK_nat ev r]
theorem partsK_nat (ev : Operand → Option Value) : ∀ (xs : List (Nat × Operand)) (k : List (Nat × Value) → R) (f : R), h (partsK ev xs k f) = partsK ev xs (fun v => h (k v)) (h f)
  | [], _, _ => rfl
  | x :: r, k, f => by simp only [partsK, oK_nat h, partsK_nat ev r]
theorem optK_nat (ev : Operand → Option Value) (o : Option Operand) (k : Option Value → R) (f : R) : h (optK ev o k f) = optK ev o (fun v => h (k v)) (h f) := by
  cases o <;> simp only [optK, oK_nat h]
theorem noneK_nat (o : Option Operand) (x f : R) : h (noneK o x f) = noneK o (h x) (h f) := by cases o <;> rfl
theorem lowK_nat (n : Nat) (lo : Option Value) (k : Nat → R) (f : R) : h (lowK n lo k f) = lowK n lo (fun v => h (k v)) (h f) := by
  cases lo <;> simp only [lowK, intK_nat h, cond_nat h]
theorem highK_nat (n m : Nat) (lo : Option Value) (k : Nat → R) (f : R) : h (highK n m lo k f) = highK n m lo (fun v => h (k v)) (h f) := by
  cases lo <;> simp only [highK, intK_nat h, cond_nat h]
theorem copyK_nat (T : Tab) (t : Nat) (d s : Value) (mm : Nat → Option Blk) (k : Res → R) (f : R) : h (copyK T t d s mm k f) = copyK T t d s mm (fun v => h (k v)) (h f) := by
  simp only [copyK, sliceK_nat h, oK_nat h, descK_nat h, cond_nat h]
theorem twoK_nat (vs : List Value) (ts : List Nat) (k : Value → Value → Nat → R) (f : R) : h (twoK vs ts k f) = twoK vs ts (fun a b c => h (k a b c)) (h f) := by
  unfold twoK; split <;> rfl
theorem oneLK_nat (vs : List Value) (ts : List Nat) (k : Value → Nat → R) (f : R) : h (oneLK vs ts k f) = oneLK vs ts (fun a b => h (k a b)) (h f) := by
  unfold oneLK; split <;> rfl
theorem two2K_nat (vs : List Value) (k : IntKind → Int → Int → R) (f : R) : h (two2K vs k f) = two2K vs (fun a b c => h (k a b c)) (h f) := by
  unfold two2K; split <;> rfl
theorem slLenK_nat (v : Value) (k : Nat → R) (f : R) : h (slLenK v k f) = slLenK v (fun a => h (k a)) (h f) := by cases v <;> rfl
theorem lenK_nat (T : Tab) (v : Value) (t : Nat) (k : Res → R) (f : R) : h (lenK T v t k f) = lenK T v t (fun a => h (k a)) (h f) := by
  simp only [lenK, oK_nat h, descK_nat h, slLenK_nat h, strK_nat h]
theorem entK_nat (T : Tab) (e : Ent) (id : Nat) (vs : List Value) (mm : Nat → Option Blk) (k : Res → R) (f : R) : h (entK T e id vs mm k f) = entK T e id vs mm (fun v => h (k v)) (h f) := by
  cases e <;> simp only [entK, cond_nat h, oK_nat h]
theorem callK_nat (T : Tab) (G : Sums) (c : Call) (id : Nat) (ev : Operand → Option Value) (mm : Nat → Option Blk) (k : Res → R) (f : R) : h (callK T G c id ev mm k f) = callK T G c id ev mm (fun v => h (k v)) (h f) := by
  unfold callK; split <;> simp only [evsK_nat h, oK_nat h, twoK_nat h, copyK_nat h, oneLK_nat h, lenK_nat h, entK_nat h, two2K_nat h]
theorem storeK_nat (b off : Nat) (blk : Blk) (i : TInf) (v : Value) (k : Res → R) (f : R) : h (storeK b off blk i v k f) = storeK b off blk i v (fun v => h (k v)) (h f) := by
  simp only [storeK, cond_nat h, oK_nat h]

theorem opK_nat (T : Tab) (G : Sums) (id : Nat) (op : Op) (ev : Operand → Option Value) (mm : Nat → Option Blk) (k : Res → R) (f : R) :
    h (opK T G id op ev mm k f) = opK T G id op ev mm (fun r => h (k r)) (h f) := by
  unfold opK
  split <;> simp only [oK_nat h, boolK_nat h, intK_nat h, ptrK_nat h, sliceK_nat h, aggK_nat h, tupK_nat h, strK_nat h, cond_nat h, descK_nat h, partK_nat h, binK_nat h, unK_nat h, fillK_nat h,
    partsK_nat h, optK_nat h, noneK_nat h, lowK_nat h, highK_nat h, callK_nat h, storeK_nat h]

end

/-- What the operation comes to, bare. -/
def opS (T : Tab) (G : Sums) (id : Nat) (op : Op) (ev : Operand → Option Value) (mm : Nat → Option Blk) : Option Res := opK T G id op ev mm some none

theorem opK_eq {R : Type} (T : Tab) (G : Sums) (id : Nat) (op : Op) (ev : Operand → Option Value) (mm : Nat → Option Blk) (k : Res → R) (f : R) :
    opK T G id op ev mm k f = oK (opS T G id op ev mm) k f :=
  (opK_nat (fun o : Option Res => oK o k f) T G id op ev mm some none).symm

end Go.W

/-
  The engine, part 3: what an operation comes to hangs on its operands and on the blocks that it reads alone; and the run of each operation is what the evaluator says.
-/
namespace Go.W

section inv
variable {α β : Type}
theorem oK_some {o : Option α} {k : α → Option β} {r : β} : oK o k none = some r ↔ ∃ a, o = some a ∧ k a = some r := by cases o <;> simp [oK]
theorem cond_some {b : Bool} {x : Option β} {r : β} : (bif b then x else none) = some r ↔ b = true ∧ x = some r := by cases b <;> simp
theorem cond_none {b : Bool} {x : Option β} {r : β} : (bif b then none else x) = some r ↔ b = false ∧ x = some r := by cases b <;> simp
theorem boolK_some {v : Value} {k : Bool → Option β} {r : β} : boolK v k none = some r ↔ ∃ b, v = .bool b ∧ k b = some r := by cases v <;> simp [boolK]
theorem intK_some {v : Value} {k : IntKind → Int → Option β} {r : β} : intK v k none = some r ↔ ∃ kd n, v = .int kd n ∧ k kd n = some r := by
  cases v <;> simp [intK]
  constructor
  · intro h; exact ⟨_, _, ⟨rfl, rfl⟩, h⟩
  · rintro ⟨_, _, ⟨rfl, rfl⟩, h⟩; exact h
theorem ptrK_some {v : Value} {k : Nat → Nat → Option β} {r : β} : ptrK v k none = some r ↔ ∃ b off, v = .pointer (some ⟨b, off, none⟩) ∧ k b off = some r := by
  unfold ptrK; split
  · constructor
    · intro h; exact ⟨_, _, rfl, h⟩
    · rintro ⟨_, _, h, h'⟩; cases h; exact h'
  · rename_i h; constructor
    · intro h'; simp at h'
    · rintro ⟨b, off, rfl, _⟩; exact absurd rfl (h b off)
theorem sliceK_some {v : Value} {k : Nat → Nat → Nat → Nat → Option β} {r : β} :
    sliceK v k none = some r ↔ ∃ b off n c, v = .slice (some ⟨b, off, none⟩) n c ∧ k b off n c = some r := by
  unfold sliceK; split
  · constructor
    · intro h; exact ⟨_, _, _, _, rfl, h⟩
    · rintro ⟨_, _, _, _, h, h'⟩; cases h; exact h'
  · rename_i h; constructor
    · intro h'; simp at h'
    · rintro ⟨b, off, n, c, rfl, _⟩; exact absurd rfl (h b off n c)
theorem aggK_some {v : Value} {k : List Value → Option β} {r : β} : aggK v k none = some r ↔ ∃ cs, v = .agg cs ∧ k cs.toList = some r := by cases v <;> simp [aggK]
theorem tupK_some {v : Value} {k : List Value → Option β} {r : β} : tupK v k none = some r ↔ ∃ cs, v = .tuple cs ∧ k cs.toList = some r := by cases v <;> simp [tupK]
theorem strK_some {v : Value} {k : ByteArray → Option β} {r : β} : strK v k none = some r ↔ ∃ s, v = .string s ∧ k s = some r := by cases v <;> simp [strK]
theorem slLenK_some {v : Value} {k : Nat → Option β} {r : β} : slLenK v k none = some r ↔ ∃ a n c, v = .slice a n c ∧ k n = some r := by
  unfold slLenK; split
  · constructor
    · intro h; exact ⟨_, _, _, rfl, h⟩
    · rintro ⟨_, _, _, h, h'⟩; cases h; exact h'
  · rename_i h; constructor
    · intro h'; simp at h'
    · rintro ⟨a, n, c, rfl, _⟩; exact absurd rfl (h a n c)
theorem oneLK_some {vs : List Value} {ts : List Nat} {k : Value → Nat → Option β} {r : β} : oneLK vs ts k none = some r ↔ ∃ v t l, vs = [v] ∧ ts = t :: l ∧ k v t = some r := by
  unfold oneLK; split
  · rename_i v t l; constructor
    · intro h; exact ⟨v, t, l, rfl, rfl, h⟩
    · rintro ⟨v', t', l', h1, h2, h3⟩
      simp at h1 h2; obtain rfl := h1; obtain ⟨rfl, rfl⟩ := h2; exact h3
  · rename_i h; constructor
    · intro h'; simp at h'
    · rintro ⟨v, t, l, rfl, rfl, _⟩; exact absurd rfl (h v t l rfl)
theorem two2K_some {vs : List Value} {k : IntKind → Int → Int → Option β} {r : β} : two2K vs k none = some r ↔ ∃ kd x k2 y, vs = [.int kd x, .int k2 y] ∧ k kd x y = some r := by
  unfold two2K; split
  · rename_i kd x k2 y; constructor
    · intro h; exact ⟨kd, x, k2, y, rfl, h⟩
    · rintro ⟨kd', x', k2', y', h1, h3⟩
      simp at h1; obtain ⟨⟨rfl, rfl⟩, rfl, rfl⟩ := h1; exact h3
  · rename_i h; constructor
    · intro h'; simp at h'
    · rintro ⟨kd, x, k2, y, rfl, _⟩; exact absurd rfl (h kd x k2 y)
theorem twoK_some {vs : List Value} {ts : List Nat} {k : Value → Value → Nat → Option β} {r : β} :
    twoK vs ts k none = some r ↔ ∃ d s t l, vs = [d, s] ∧ ts = t :: l ∧ k d s t = some r := by
  unfold twoK; split
  · rename_i d s t l; constructor
    · intro h; exact ⟨d, s, t, l, rfl, rfl, h⟩
    · rintro ⟨d', s', t', l', h1, h2, h3⟩
      simp at h1 h2; obtain ⟨rfl, rfl⟩ := h1; obtain ⟨rfl, rfl⟩ := h2; exact h3
  · rename_i h; constructor
    · intro h'; simp at h'
    · rintro ⟨d, s, t, l, rfl, rfl, _⟩; exact absurd rfl (h d s t l rfl)
end inv

/-! ## What it hangs on -/

theorem evsK_congr {R : Type} {ev ev' : Operand → Option Value} : ∀ (xs : List Operand) (k : List Value → R) (f : R), (∀ x ∈ xs, ev' x = ev x) → evsK ev' xs k f = evsK ev xs k f
  | [], _, _, _ => rfl
  | x :: r, k, f, h => by
    simp only [evsK, h x (by simp)]
    congr 1; funext v
    exact evsK_congr r _ _ fun y hy => h y (by simp [hy])

theorem partsK_congr {R : Type} {ev ev' : Operand → Option Value} : ∀ (xs : List (Nat × Operand)) (k : List (Nat × Value) → R) (f : R), (∀ x ∈ xs, ev' x.2 = ev x.2) → partsK ev' xs k f = partsK ev xs k f
  | [], _, _, _ => rfl
  | x :: r, k, f, h => by
    simp only [partsK, h x (by simp)]
    congr 1; funext v
    exact partsK_congr r _ _ fun y hy => h y (by simp [hy])

theorem optK_congr {R : Type} {ev ev' : Operand → Option Value} (o : Option Operand) (k : Option Value → R) (f : R) (h : ∀ x, o = some x → ev' x = ev x) : optK ev' o k f = optK ev o k f := by
  cases o with
  | none => rfl
  | some x => simp only [optK, h x rfl]

/-- The operands alone. -/
theorem opS_ev {T : Tab} {G : Sums} {id : Nat} {op : Op} {ev ev' : Operand → Option Value} {mm : Nat → Option Blk} (h : ∀ x ∈ op.operands.toList, ev' x = ev x) :
    opS T G id op ev' mm = opS T G id op ev mm := by
  unfold opS
  cases op <;> simp only [opK] <;> simp only [Op.operands, Array.toList_append, List.mem_append, List.mem_cons, List.not_mem_nil, or_false, forall_eq_or_imp, forall_eq] at h
  case build t parts =>
    congr 1; funext i
    exact partsK_congr _ _ _ fun x hx => h _ (by simp; exact ⟨x.1, by simpa using hx⟩)
  case buildSlice t len parts =>
    congr 1; funext i
    exact partsK_congr _ _ _ fun x hx => h _ (by simp; exact ⟨x.1, by simpa using hx⟩)
  case slice t x lo hi mx =>
    cases mx with
    | some m => rfl
    | none =>
      simp only [noneK, h x (by simp)]
      congr 1; funext vx
      rw [optK_congr lo _ _ (fun y hy => h y (by simp [hy]))]
      congr 1; funext l
      rw [optK_congr hi _ _ (fun y hy => h y (by simp [hy]))]
  case call c =>
    unfold callK
    split
    · exact evsK_congr _ _ _ fun x hx => h x (by simp [Call.operands]; exact .inr (by simpa using hx))
    · exact evsK_congr _ _ _ fun x hx => h x (by simp [Call.operands]; exact .inr (by simpa using hx))
    · exact evsK_congr _ _ _ fun x hx => h x (by simp [Call.operands]; exact .inr (by simpa using hx))
    · exact evsK_congr _ _ _ fun x hx => h x (by simp [Call.operands]; exact .inr (by simpa using hx))
    · exact evsK_congr _ _ _ fun x hx => h x (by simp [Call.operands]; exact .inr (by simpa using hx))
    · rfl
  all_goals first | rfl | simp only [h]

theorem oK_congr {α R : Type} {o o' : Option α} {k k' : α → R} {f : R} (h : o' = o) (hk : ∀ a, o = some a → k' a = k a) : oK o' k' f = oK o k f := by
  subst h; cases o' with
  | none => rfl
  | some a => exact hk a rfl

/-- The blocks that are read alone. -/
theorem opS_mm {T : Tab} {G : Sums} {id : Nat} {op : Op} {ev : Operand → Option Value} {mm mm' : Nat → Option Blk} {r : Res} (h : opS T G id op ev mm = some r) (hm : ∀ b ∈ r.rd, mm' b = mm b) :
    opS T G id op ev mm' = some r := by
  unfold opS at *
  cases op <;> simp only [opK] at h ⊢ <;> first | exact h | skip
  case load t x =>
    simp only [oK_some, ptrK_some] at h ⊢
    obtain ⟨a, ha, b, off, hp, blk, hb, i, hi, hr⟩ := h
    refine ⟨a, ha, b, off, hp, blk, ?_, i, hi, hr⟩
    rw [← hb]; apply hm
    unfold partK at hr
    have : r.rd = [b] := by
      cases hA : isAggT i <;> simp only [hA, cond_true, cond_false] at hr
      · obtain ⟨v, _, hv⟩ := oK_some.1 hr; cases hv; rfl
      · obtain ⟨_, hv⟩ := cond_some.1 hr; cases hv; rfl
    simp [this]
  case alloc t =>
    simp only [oK_some, cond_some] at h ⊢
    obtain ⟨i, hi, hc, hr⟩ := h
    have : r.rd = [id] := by cases hr; rfl
    exact ⟨i, hi, by rw [hm id (by simp [this])]; exact hc, hr⟩
  case buildSlice t len parts =>
    have key : ∀ (xs : List (Nat × Operand)) (F F' : List (Nat × Value) → Option Res), (∀ vs, F vs = some r → F' vs = some r) → partsK ev xs F none = some r → partsK ev xs F' none = some r := by
      intro xs
      induction xs with
      | nil => intro F F' hF hh; exact hF _ hh
      | cons x xs ih =>
        intro F F' hF hh
        simp only [partsK, oK_some] at hh ⊢
        obtain ⟨v, hv, hh⟩ := hh
        exact ⟨v, hv, ih _ _ (fun vs hvs => hF _ hvs) hh⟩
    obtain ⟨i, hi, h⟩ := oK_some.1 h
    refine oK_some.2 ⟨i, hi, key _ _ _ (fun vs hvs => ?_) h⟩
    unfold descK at hvs ⊢
    cases hst : i.st <;> simp only [hst, cond_true, cond_false] at hvs ⊢
    · split at hvs <;> first | (simp at hvs; done) | skip
      obtain ⟨j, hj, h5⟩ := oK_some.1 hvs
      obtain ⟨h6, h7⟩ := cond_some.1 h5
      have hrd : r.rd = [id] := by
        have fl : ∀ (place : Nat → Option (Nat × Nat)) (ps : List (Nat × Value)) (cells : List Value) (k : List Value → Option Res), fillK place ps cells k none = some r → ∃ cs, k cs = some r := by
          intro place ps
          induction ps with
          | nil => intro cells k hk; exact ⟨cells, hk⟩
          | cons p ps ih =>
            intro cells k hk
            simp only [fillK, oK_some, cond_some] at hk
            obtain ⟨q, _, _, hk⟩ := hk
            exact ih _ _ hk
        obtain ⟨cs, hcs⟩ := fl _ _ _ _ h7
        cases hcs; rfl
      exact oK_some.2 ⟨j, hj, cond_some.2 ⟨by rw [hm id (by simp [hrd])]; exact h6, h7⟩⟩
    · simp at hvs
  case box t x =>
    simp only [oK_some, cond_some] at h ⊢
    obtain ⟨v, hv, hc, hr⟩ := h
    have : r.rd = [id] := by cases hr; rfl
    exact ⟨v, hv, by rw [hm id (by simp [this])]; exact hc, hr⟩
  case store t x y =>
    simp only [oK_some, ptrK_some] at h ⊢
    obtain ⟨a, ha, v, hv, b, off, hp, blk, hb, i, hi, hr⟩ := h
    refine ⟨a, ha, v, hv, b, off, hp, blk, ?_, i, hi, hr⟩
    rw [← hb]; apply hm
    unfold storeK at hr
    obtain ⟨_, hr⟩ := cond_some.1 hr
    have : r.rd = [b] := by
      cases hA : Nat.beq i.siz 1 <;> simp only [hA, cond_true, cond_false] at hr
      · cases hr; rfl
      · obtain ⟨v, _, hv⟩ := oK_some.1 hr; cases hv; rfl
    simp [this]
  case call c =>
    have key : ∀ (xs : List Operand) (F F' : List Value → Option Res), (∀ vs, F vs = some r → F' vs = some r) → evsK ev xs F none = some r → evsK ev xs F' none = some r := by
      intro xs
      induction xs with
      | nil => intro F F' hF hh; exact hF _ hh
      | cons x xs ih =>
        intro F F' hF hh
        simp only [evsK, oK_some] at hh ⊢
        obtain ⟨v, hv, hh⟩ := hh
        exact ⟨v, hv, ih _ _ (fun vs hvs => hF _ hvs) hh⟩
    unfold callK at h ⊢
    split at h
    · refine key _ _ _ (fun vs hvs => ?_) h
      obtain ⟨e, he, hvs⟩ := oK_some.1 hvs
      refine oK_some.2 ⟨e, he, ?_⟩
      cases e with
      | pl F => exact hvs
      | me F =>
        simp only [entK] at hvs ⊢
        obtain ⟨q, hq, h5⟩ := oK_some.1 hvs
        obtain ⟨h6, h7⟩ := cond_some.1 h5
        have hrd : r.rd = (id + 500000) :: reach T mm (vs.flatMap idsV) := by cases h7; rfl
        have hre : reach T mm' (vs.flatMap idsV) = reach T mm (vs.flatMap idsV) := reach_congr fun b hb => hm b (by rw [hrd]; exact List.mem_cons_of_mem _ hb)
        have hrs : restr mm' (reach T mm (vs.flatMap idsV)) = restr mm (reach T mm (vs.flatMap idsV)) := restr_congr fun b hb => hm b (by rw [hrd]; exact List.mem_cons_of_mem _ hb)
        rw [hre, hrs]
        exact oK_some.2 ⟨q, hq, cond_some.2 ⟨by rw [hm (id + 500000) (by rw [hrd]; exact List.mem_cons_self)]; exact h6, h7⟩⟩
    · rw [← evsK_nat (fun x : Option Res => x)] at h ⊢
      refine key _ _ _ (fun vs hvs => ?_) h
      simp only [twoK_some] at hvs ⊢
      obtain ⟨d, s, t, l, h1, h2, h3⟩ := hvs
      refine ⟨d, s, t, l, h1, h2, ?_⟩
      unfold copyK at h3 ⊢
      simp only [sliceK_some, oK_some] at h3 ⊢
      obtain ⟨b, off, n, c1, hd, b', off', n', c2, hs, blk, hb, blk', hb', i, hi, h4⟩ := h3
      have hrd : r.rd = [b, b'] := by
        unfold descK at h4
        cases hst : i.st <;> simp only [hst, cond_true, cond_false] at h4
        · split at h4 <;> first | (simp at h4; done) | skip
          obtain ⟨j, _, h5⟩ := oK_some.1 h4
          obtain ⟨_, h6⟩ := cond_some.1 h5
          cases h6; rfl
        · simp at h4
      exact ⟨b, off, n, c1, hd, b', off', n', c2, hs, blk, by rw [← hb]; exact hm b (by simp [hrd]), blk', by rw [← hb']; exact hm b' (by simp [hrd]), i, hi, h4⟩
    · exact h
    · exact h
    · exact h
    · exact h

end Go.W

/-
  The engine, part 4: the run of each operation that makes and writes no memory is what the evaluator says.
-/
namespace Go.W

/-- The kinds of a type's cells, where '==' holds these against one another. -/
def repK : Nat → List CK → List CK
  | 0, _ => []
  | n + 1, l => l ++ repK n l
def fldK (K : TypeId → Option (List CK)) (size : TypeId → Nat) : List Field → Nat → Option (List CK)
  | [], _ => some []
  | f :: r, off => bif (f.name == "_") || !(Nat.beq f.offset off) then none else oK (K f.type) (fun l => bif Nat.beq l.length (size f.type) then oK (fldK K size r (off + l.length)) (fun m => some (l ++ m)) none else none) none
def kindsT (P : Program) : Nat → TypeId → Option (List CK)
  | 0, _ => none
  | d + 1, t =>
    match P.underlying t with
    | some (.int k) => some [.i k]
    | some .bool => some [.b]
    | some .string => some [.s]
    | some (.array n e) => oK (kindsT P d e) (fun l => bif Nat.beq l.length (P.cellsOf e) && (P.info? e).isSome then some (repK n l) else none) none
    | some (.struct fs) => bif P.stoodInHeld t then none else fldK (kindsT P d) P.cellsOf fs.toList 0
    | _ => none

def TOk (P : Program) (t : Nat) (i : TInf) : Prop :=
  (∃ inf, P.info? t = some inf ∧ inf.size = i.siz ∧ inf.zero = some i.zer) ∧
  (i.st = false → P.underlying t = some i.und) ∧
  (i.st = true → ∃ fs, P.underlying t = some (.struct fs) ∧ fs.toList.map (fun f => (f.offset, f.type)) = i.flds) ∧
  (i.eqk ≠ [] → P.eqGuardType P.depth t = false ∧ kindsT P 20 t = some i.eqk)

def TabOk (P : Program) (T : Tab) : Prop := ∀ t i, look T t = some i → TOk P t i

/-- A call of function g, whatever its make: what it comes to. -/
def Invokes (P : Program) (g : FuncId) (args : Array Value) (w : World) (K : Value → World → Prop) : Prop :=
  match (callFunc g args).run P w with
  | .ok (.value v) w' => K v w'
  | .ok (.enter f args') w' => Calls P f args' w' fun
      | .returned v, w'' => K v w''
      | _, _ => False
  | _ => False

/-- What is told of one function whose arguments and answer are plain. -/
def Sum (P : Program) (g : FuncId) (F : List Value → Option (Bool × Value)) : Prop :=
  ∀ args v, F args = some (true, v) → args.all pl2 = true → ∀ w, Invokes P g args.toArray w fun v' w' => v' = v ∧ RowKit.Below w.heap.size w w'

/-- What is told of one function whose arguments, or answer, stand for memory. -/
def MSum (P : Program) (g : FuncId) (F : List Value → (Nat → Option Blk) → Nat → Option (Bool × Value × Option Blk × Option (Nat × Blk))) : Prop :=
  ∀ (w0 : Wb) (R : Nat → Nat → Prop) (fm : Nat → Option Blk) (w : World), MRel w0 R fm w → ∀ vs args', LR (V2 R) vs args' → ∀ mm : Nat → Option Blk, (∀ b blk, mm b = some blk → fm b = some blk) →
    ∀ id, fm id = none → 500000 ≤ id → id < 1000000 → ∀ v new wr, F vs mm id = some (true, v, new, wr) → new = none ∨ wr = none → Invokes P g args'.toArray w fun v' w' => ∃ R' : Nat → Nat → Prop, (∀ i b, R i b → R' i b) ∧ V2 R' v v' ∧ MRel w0 R' (memF fm id new wr) w'

def EntOk (P : Program) (g : FuncId) : Ent → Prop
  | .pl F => Sum P g F
  | .me F => MSum P g F

def SumsOk (P : Program) (G : Sums) : Prop := ∀ g e, look G g = some e → EntOk P g e

def evF (fs : Nat → Option Value) : Operand → Option Value
  | .tmp t => fs t
  | .const v => bif pl2 v then some v else none
  | _ => none

section
variable {P : Program} {T : Tab} {w0 : Wb} {w : World} {n : Nat} {R : Nat → Nat → Prop} {S : FS} {a : Act}

theorem Rel.ev {x : Operand} {v : Value} (h : Rel w0 n R S a w) (hx : evF S.fs x = some v) : V2 R v (a.eval x) := by
  cases x with
  | tmp t =>
    obtain ⟨v', h1, h2⟩ := h.slot t v hx
    have : a.eval (.tmp t) = v' := by simp [Act.eval, h1]
    rw [this]; exact h2
  | const u =>
    simp only [evF] at hx
    obtain ⟨hp, hx⟩ := cond_some.1 hx
    cases hx
    exact (V2_plain hp).2 rfl
  | global g => simp [evF] at hx
  | func f => simp [evF] at hx

theorem V2_int {kd : IntKind} {m : Int} {v' : Value} (h : V2 R (.int kd m) v') : v' = .int kd m := (V2_plain rfl).1 h
theorem V2_bool {b : Bool} {v' : Value} (h : V2 R (.bool b) v') : v' = .bool b := (V2_plain rfl).1 h
theorem V2_string {s : ByteArray} {v' : Value} (h : V2 R (.string s) v') : v' = .string s := (V2_plain rfl).1 h
theorem V2_ptr {b off : Nat} {v' : Value} (h : V2 R (.pointer (some ⟨b, off, none⟩)) v') : ∃ b', R b b' ∧ v' = .pointer (some ⟨b', off, none⟩) := h
theorem V2_slice {b off m c : Nat} {v' : Value} (h : V2 R (.slice (some ⟨b, off, none⟩) m c) v') : ∃ b' c', R b b' ∧ capOk b c c' ∧ v' = .slice (some ⟨b', off, none⟩) m c' := h
theorem V2_agg {cs : Array Value} {v' : Value} (h : V2 R (.agg cs) v') : ∃ cs', v' = .agg cs' ∧ LR (V0 R) cs.toList cs'.toList := h
theorem V2_tuple {cs : Array Value} {v' : Value} (h : V2 R (.tuple cs) v') : ∃ cs', v' = .tuple cs' ∧ LR (V1 R) cs.toList cs'.toList := h
theorem V2_of_V1 {v v' : Value} (h : V1 R v v') : V2 R v v' := by
  unfold V2; split
  · simp [V1, V0] at h
  · exact h
theorem V1_of_V0 {v v' : Value} (h : V0 R v v') : V1 R v v' := by
  unfold V1; split
  · simp [V0] at h
  · exact h
theorem V2_of_V0 {v v' : Value} (h : V0 R v v') : V2 R v v' := V2_of_V1 (V1_of_V0 h)

/-- Of a row of integers of one kind. -/
theorem LR_ints {kd : IntKind} {l l' : List Value} (h : LR (V0 R) l l') (hi : l.all (isIntK kd) = true) : l' = l := by
  refine (LR_plain (r := V0 R) (pl := pl0) (fun v v' hv => V0_plain hv) ?_).1 h
  rw [List.all_eq_true] at hi ⊢
  intro v hv
  have := hi v hv
  unfold isIntK at this; split at this
  · rfl
  · simp at this

theorem info_of (hT : TabOk P T) {t : Nat} {i : TInf} (h : look T t = some i) : ∃ inf, P.info? t = some inf ∧ inf.size = i.siz ∧ inf.zero = some i.zer := (hT t i h).1

theorem cellsOf_of (hT : TabOk P T) {t : Nat} {i : TInf} (h : look T t = some i) : P.cellsOf t = i.siz := by
  obtain ⟨inf, h1, h2, _⟩ := info_of hT h
  simp [Program.cellsOf, h1, h2]

theorem run_size (hT : TabOk P T) {t : Nat} {i : TInf} (h : look T t = some i) (w : World) : (sizeOf t).run P w = .ok i.siz w := by
  obtain ⟨inf, h1, h2, _⟩ := info_of hT h
  rw [run_sizeOf w h1, cellsOf_of hT h]

theorem und_some (hT : TabOk P T) {t : Nat} {i : TInf} (h : look T t = some i) : ∃ d, P.underlying t = some d ∧ (i.st = false → d = i.und) ∧ (i.st = true → ∃ fs, d = .struct fs ∧ fs.toList.map (fun f => (f.offset, f.type)) = i.flds) := by
  obtain ⟨_, h1, h2, _⟩ := hT t i h
  cases hs : i.st with
  | false => exact ⟨_, h1 hs, fun _ => rfl, nofun⟩
  | true => obtain ⟨fs, e1, e2⟩ := h2 hs; exact ⟨_, e1, nofun, fun _ => ⟨fs, rfl, e2⟩⟩

theorem run_agg (hT : TabOk P T) {t : Nat} {i : TInf} (h : look T t = some i) (w : World) : (isAgg t).run P w = .ok (isAggT i) w := by
  obtain ⟨d, hd, h1, h2⟩ := und_some hT h
  cases hs : i.st with
  | false =>
    have := h1 hs; subst this
    simp only [isAgg, Sem.run_bind, run_underlying hd, Result.andThen_ok, isAggT, hs, Bool.false_or]
    cases i.und <;> rfl
  | true =>
    obtain ⟨fs, rfl, _⟩ := h2 hs
    simp only [isAgg, Sem.run_bind, run_underlying hd, Result.andThen_ok, isAggT, hs, Bool.true_or]
    rfl

theorem descK_some {β : Type} {i : TInf} {arr : Nat → Nat → Option β} {slc : Nat → Option β} {int : IntKind → Option β} {bool str : Option β} {r : β}
    (h : descK i arr slc int bool str none = some r) : i.st = false ∧ ((∃ m e, i.und = .array m e ∧ arr m e = some r) ∨ (∃ e, i.und = .slice e ∧ slc e = some r) ∨ (∃ kd, i.und = .int kd ∧ int kd = some r) ∨
      (i.und = .bool ∧ bool = some r) ∨ (i.und = .string ∧ str = some r)) := by
  unfold descK at h
  obtain ⟨h1, h2⟩ := cond_none.1 h
  refine ⟨h1, ?_⟩
  split at h2
  · exact .inl ⟨_, _, by assumption, h2⟩
  · exact .inr (.inl ⟨_, by assumption, h2⟩)
  · exact .inr (.inr (.inl ⟨_, by assumption, h2⟩))
  · exact .inr (.inr (.inr (.inl ⟨by assumption, h2⟩)))
  · exact .inr (.inr (.inr (.inr ⟨by assumption, h2⟩)))
  · simp at h2

/-- A part of a row. -/
theorem part_run (hT : TabOk P T) {t : Nat} {i : TInf} (ht : look T t = some i) {cs cs' : List Value} (hl : LR (V0 R) cs cs') {off : Nat} {k : Value → Option Res} {r : Res} (h : partK i cs off k none = some r) (w : World) :
    ∃ v v', k v = some r ∧ (part t cs'.toArray off).run P w = .ok v' w ∧ V1 R v v' := by
  unfold partK at h
  simp only [part, Sem.run_bind, run_agg hT ht, Result.andThen_ok]
  cases hA : isAggT i with
  | true =>
    simp only [hA, cond_true] at h
    obtain ⟨h1, h2⟩ := cond_some.1 h
    refine ⟨_, _, h2, by simp only [if_true, Sem.run_bind, run_size hT ht, Result.andThen_ok]; rfl, ?_⟩
    refine ⟨_, rfl, ?_⟩
    simp only [List.extract_toArray, List.extract_eq_take_drop]
    have := LR_take i.siz (LR_drop off hl)
    simpa using this
  | false =>
    simp only [hA, cond_false] at h
    obtain ⟨v, h1, h2⟩ := oK_some.1 h
    obtain ⟨v', h3, h4⟩ := LR_get hl h1
    refine ⟨v, v', h2, ?_, V1_of_V0 h4⟩
    simp [h3]

def PR (P : Program) (R : Nat → Nat → Prop) (a : Act) (w : World) (o : Oper) (r : Res) : Prop :=
  r.new = none ∧ r.wr = none ∧ ∃ v', (execOp a.eval o).run P w = .ok (.value v') w ∧ V2 R r.val v'

theorem PR.mk {o : Oper} {v v' : Value} (hr : (execOp a.eval o).run P w = .ok (.value v') w) (hv : V2 R v v') : PR P R a w o (val v) := ⟨rfl, rfl, v', hr, hv⟩

theorem isIntK_some {kd : IntKind} {v : Value} (h : isIntK kd v = true) : ∃ x, v = .int kd x := by
  unfold isIntK at h; split at h
  · simp only [decide_eq_true_eq] at h; subst h; exact ⟨_, rfl⟩
  · simp at h

theorem binI_run {op : BinOp} {kx ky : IntKind} {x y : Int} {k : Value → Option Res} {r : Res} (h : binI op kx x ky y k none = some r) (t : Nat) (w : World) :
    ∃ v, k v = some r ∧ (binOp op t (.int kx x) (.int ky y)).run P w = .ok v w ∧ V2 R v v := by
  cases op <;> simp only [binI] at h <;> simp only [cond_some, cond_none, decide_eq_true_eq, decide_eq_false_iff_not] at h
  case shl => exact ⟨_, h.2, by simp [binOp, Op.shift, h.1], (V2_plain rfl).2 rfl⟩
  case shr => exact ⟨_, h.2, by simp [binOp, Op.shift, h.1], (V2_plain rfl).2 rfl⟩
  case quo => obtain ⟨rfl, h2, h3⟩ := h; exact ⟨_, h3, by simp [binOp, Op.intDiv, h2], (V2_plain rfl).2 rfl⟩
  case rem => obtain ⟨rfl, h2, h3⟩ := h; exact ⟨_, h3, by simp [binOp, Op.intDiv, h2], (V2_plain rfl).2 rfl⟩
  all_goals (obtain ⟨rfl, h2⟩ := h; exact ⟨_, h2, by simp [binOp, Op.intArith, Op.intBits, Op.intCmp], (V2_plain rfl).2 rfl⟩)

theorem isCK_inv {k : CK} {v : Value} (h : isCK k v = true) : (∃ kd x, k = .i kd ∧ v = .int kd x) ∨ (∃ x, k = .b ∧ v = .bool x) ∨ (∃ x, k = .s ∧ v = .string x) := by
  unfold isCK at h
  split at h
  · simp only [decide_eq_true_eq] at h; subst h; exact .inl ⟨_, _, rfl, rfl⟩
  · exact .inr (.inl ⟨_, rfl, rfl⟩)
  · exact .inr (.inr ⟨_, rfl, rfl⟩)
  · simp at h

theorem fitsK_len : ∀ {ks : List CK} {vs : List Value}, fitsK ks vs = true → vs.length = ks.length
  | [], [], _ => rfl
  | k :: ks, v :: vs, h => by
    simp only [fitsK, Bool.and_eq_true] at h
    simp [fitsK_len h.2]
  | [], _ :: _, h => by simp [fitsK] at h
  | _ :: _, [], h => by simp [fitsK] at h

theorem fitsK_pl : ∀ {ks : List CK} {vs : List Value}, fitsK ks vs = true → vs.all pl0 = true
  | [], [], _ => rfl
  | k :: ks, v :: vs, h => by
    simp only [fitsK, Bool.and_eq_true] at h
    rw [List.all_cons, fitsK_pl h.2, Bool.and_true]
    rcases isCK_inv h.1 with ⟨_, _, _, rfl⟩ | ⟨_, _, rfl⟩ | ⟨_, _, rfl⟩ <;> rfl
  | [], _ :: _, h => by simp [fitsK] at h
  | _ :: _, [], h => by simp [fitsK] at h

theorem fitsK_app : ∀ {ks ls : List CK} {vs : List Value}, fitsK (ks ++ ls) vs = true → fitsK ks (vs.take ks.length) = true ∧ fitsK ls (vs.drop ks.length) = true
  | [], _, _, h => ⟨by simp [fitsK], by simpa using h⟩
  | k :: ks, ls, v :: vs, h => by
    simp only [List.cons_append, fitsK, Bool.and_eq_true] at h
    obtain ⟨h1, h2⟩ := fitsK_app h.2
    simp only [List.length_cons, List.take_succ_cons, List.drop_succ_cons, fitsK, Bool.and_eq_true]
    exact ⟨⟨h.1, h1⟩, h2⟩
  | _ :: _, _, [], h => by simp [fitsK] at h

theorem eqL_app : ∀ {ks : List CK} {xs ys : List Value} (xs' ys' : List Value), fitsK ks xs = true → fitsK ks ys = true → eqL (xs ++ xs') (ys ++ ys') = (eqL xs ys && eqL xs' ys')
  | [], [], [], _, _, _, _ => by simp [eqL]
  | k :: ks, x :: xs, y :: ys, xs', ys', h1, h2 => by
    simp only [fitsK, Bool.and_eq_true] at h1 h2
    have ih := eqL_app xs' ys' h1.2 h2.2
    rcases isCK_inv h1.1 with ⟨_, _, rfl, rfl⟩ | ⟨_, rfl, rfl⟩ | ⟨_, rfl, rfl⟩ <;> rcases isCK_inv h2.1 with ⟨_, _, e, rfl⟩ | ⟨_, e, rfl⟩ | ⟨_, e, rfl⟩ <;> first | (cases e; done) | skip
    all_goals (simp only [List.cons_append, eqL, ih, Bool.and_assoc])
  | [], _ :: _, _, _, _, h, _ => by simp [fitsK] at h
  | [], [], _ :: _, _, _, _, h => by simp [fitsK] at h
  | _ :: _, [], _, _, _, h, _ => by simp [fitsK] at h
  | _ :: _, _ :: _, [], _, _, _, h => by simp [fitsK] at h

def aggD (P : Program) (t : TypeId) : Bool :=
  match P.underlying t with
  | some (.struct _) => true
  | some (.array _ _) => true
  | _ => false
def isAggV : Value → Bool
  | .agg _ => true
  | _ => false

theorem kindsT_agg {d : Nat} {t : TypeId} {ks : List CK} (hk : kindsT P d t = some ks) (h : aggD P t = false) : ∃ k, ks = [k] := by
  cases d with
  | zero => simp [kindsT] at hk
  | succ d =>
    unfold kindsT at hk
    unfold aggD at h
    split at hk
    · cases hk; exact ⟨_, rfl⟩
    · cases hk; exact ⟨_, rfl⟩
    · cases hk; exact ⟨_, rfl⟩
    · rename_i hu; rw [hu] at h; simp at h
    · rename_i hu; rw [hu] at h; simp at h
    · simp at hk

theorem part_kinds {d : Nat} {e : TypeId} {l : List CK} (hk : kindsT P d e = some l) (hl : l.length = P.cellsOf e) {xs : Array Value} {off : Nat} (hf : fitsK l ((xs.toList.drop off).take l.length) = true) (w : World) :
    ∃ v, (part e xs off).run P w = .ok v w ∧ isAggV v = aggD P e ∧ v.cells.toList = (xs.toList.drop off).take l.length := by
  obtain ⟨kd, hu⟩ : ∃ kd, P.underlying e = some kd := by
    cases d with
    | zero => simp [kindsT] at hk
    | succ d =>
      cases hu : P.underlying e with
      | none => simp [kindsT, hu] at hk
      | some kd => exact ⟨kd, rfl⟩
  obtain ⟨i, hi⟩ := info_of_underlying hu
  have hag : (isAgg e).run P w = .ok (aggD P e) w := by
    unfold aggD
    rw [hu]
    simp only [isAgg, Sem.run_bind, run_underlying hu, Result.andThen_ok]
    cases kd <;> rfl
  cases ha : aggD P e with
  | true =>
    refine ⟨.agg (xs.extract off (off + P.cellsOf e)), ?_, rfl, ?_⟩
    · simp only [part, Sem.run_bind, hag, ha, Result.andThen_ok, if_true, run_sizeOf w hi]; rfl
    · show (xs.extract off (off + P.cellsOf e)).toList = _
      rw [hl, Array.toList_extract]
      simp [List.extract]
  | false =>
    obtain ⟨k, rfl⟩ := kindsT_agg hk ha
    simp only [List.length_cons, List.length_nil, Nat.zero_add] at hf ⊢
    match hx : (xs.toList.drop off).take 1, hf with
    | [v], hf =>
      have hv : xs[off]? = some v := by
        have : ((xs.toList.drop off).take 1)[0]? = some v := by rw [hx]; rfl
        simpa using this
      refine ⟨v, ?_, ?_, ?_⟩
      · simp [part, hag, ha, hv]
      · simp only [fitsK, Bool.and_true] at hf
        rcases isCK_inv hf with ⟨_, _, _, rfl⟩ | ⟨_, _, rfl⟩ | ⟨_, _, rfl⟩ <;> rfl
      · simp only [fitsK, Bool.and_true] at hf
        rcases isCK_inv hf with ⟨_, _, _, rfl⟩ | ⟨_, _, rfl⟩ | ⟨_, _, rfl⟩ <;> rfl
    | [], hf => simp [fitsK] at hf
    | _ :: _ :: _, hf => simp [fitsK] at hf

def EqC (P : Program) (D d : Nat) (t : TypeId) : Prop := ∀ ks, kindsT P d t = some ks → ∀ (w : World) (x y : Value), isAggV x = aggD P t → isAggV y = aggD P t → fitsK ks x.cells.toList = true → fitsK ks y.cells.toList = true →
  (Op.equalIn (D + d) t x y).run P w = .ok (eqL x.cells.toList y.cells.toList) w

theorem items_kinds {D d : Nat} {e : TypeId} (IH : EqC P D d e) {l : List CK} (hk : kindsT P d e = some l) (hl : l.length = P.cellsOf e) (w : World) (xs ys : Array Value) : ∀ (m lo : Nat),
    fitsK (repK m l) (xs.toList.drop (lo * l.length)) = true → fitsK (repK m l) (ys.toList.drop (lo * l.length)) = true →
      (Op.eqItems (D + d) e (P.cellsOf e) xs ys (List.range' lo m)).run P w = .ok (eqL (xs.toList.drop (lo * l.length)) (ys.toList.drop (lo * l.length))) w
  | 0, lo, hx, hy => by
    have e1 : xs.toList.drop (lo * l.length) = [] := List.length_eq_zero_iff.1 (fitsK_len hx)
    rw [e1]
    simp [Op.eqItems, eqL]
  | m + 1, lo, hx, hy => by
    obtain ⟨x1, x2⟩ := fitsK_app hx
    obtain ⟨y1, y2⟩ := fitsK_app hy
    obtain ⟨a, pa, fa, ca⟩ := part_kinds hk hl x1 w
    obtain ⟨b, pb, fb, cb⟩ := part_kinds hk hl y1 w
    have heq := IH l hk w a b fa fb (by rw [ca]; exact x1) (by rw [cb]; exact y1)
    rw [ca, cb] at heq
    rw [List.drop_drop, show lo * l.length + l.length = (lo + 1) * l.length from by rw [Nat.add_mul, Nat.one_mul]] at x2 y2
    have hr := items_kinds IH hk hl w xs ys m (lo + 1) x2 y2
    have ex : xs.toList.drop (lo * l.length) = (xs.toList.drop (lo * l.length)).take l.length ++ xs.toList.drop ((lo + 1) * l.length) := by
      rw [show (lo + 1) * l.length = lo * l.length + l.length from by rw [Nat.add_mul, Nat.one_mul], ← List.drop_drop, List.take_append_drop]
    have ey : ys.toList.drop (lo * l.length) = (ys.toList.drop (lo * l.length)).take l.length ++ ys.toList.drop ((lo + 1) * l.length) := by
      rw [show (lo + 1) * l.length = lo * l.length + l.length from by rw [Nat.add_mul, Nat.one_mul], ← List.drop_drop, List.take_append_drop]
    have hL : eqL (xs.toList.drop (lo * l.length)) (ys.toList.drop (lo * l.length)) = (eqL ((xs.toList.drop (lo * l.length)).take l.length) ((ys.toList.drop (lo * l.length)).take l.length) && eqL (xs.toList.drop ((lo + 1) * l.length)) (ys.toList.drop ((lo + 1) * l.length))) := by
      rw [← eqL_app _ _ x1 y1, ← ex, ← ey]
    rw [List.range'_succ, hL]
    rw [hl] at pa pb
    simp only [Op.eqItems, Sem.run_bind, pa, pb, Result.andThen_ok, heq]
    rw [← hl]
    cases eqL ((xs.toList.drop (lo * l.length)).take l.length) ((ys.toList.drop (lo * l.length)).take l.length) with
    | false => simp
    | true =>
      simp only [Bool.not_true, Bool.false_eq_true, if_false, Bool.true_and]
      rw [hl] at hr ⊢; exact hr

theorem fields_kinds {D d : Nat} (IH : ∀ t, EqC P D d t) (w : World) (xs ys : Array Value) : ∀ (fs : List Field) (off : Nat) (ks : List CK), fldK (kindsT P d) P.cellsOf fs off = some ks →
    fitsK ks (xs.toList.drop off) = true → fitsK ks (ys.toList.drop off) = true → (Op.eqFields (D + d) xs ys fs).run P w = .ok (eqL (xs.toList.drop off) (ys.toList.drop off)) w
  | [], off, ks, hk, hx, hy => by
    simp only [fldK, Option.some.injEq] at hk
    subst hk
    have e1 : xs.toList.drop off = [] := List.length_eq_zero_iff.1 (fitsK_len hx)
    rw [e1]
    simp [Op.eqFields, eqL]
  | f :: fs, off, ks, hk, hx, hy => by
    simp only [fldK, cond_none, oK_some, cond_some, Bool.or_eq_false_iff, Bool.not_eq_false'] at hk
    obtain ⟨⟨hn, ho⟩, l, hl, hlen, m, hm, hk⟩ := hk
    have hk := (Option.some.inj hk).symm; subst hk
    have ho := nbeq.1 ho
    have hlen := nbeq.1 hlen
    have hn : f.name ≠ "_" := by simpa using hn
    obtain ⟨x1, x2⟩ := fitsK_app hx
    obtain ⟨y1, y2⟩ := fitsK_app hy
    obtain ⟨a, pa, fa, ca⟩ := part_kinds hl hlen x1 w
    obtain ⟨b, pb, fb, cb⟩ := part_kinds hl hlen y1 w
    have heq := IH f.type l hl w a b fa fb (by rw [ca]; exact x1) (by rw [cb]; exact y1)
    rw [ca, cb] at heq
    rw [List.drop_drop] at x2 y2
    have hr := fields_kinds IH w xs ys fs (off + l.length) m hm x2 y2
    have hL : eqL (xs.toList.drop off) (ys.toList.drop off) = (eqL ((xs.toList.drop off).take l.length) ((ys.toList.drop off).take l.length) && eqL (xs.toList.drop (off + l.length)) (ys.toList.drop (off + l.length))) := by
      rw [← eqL_app _ _ x1 y1, ← List.drop_drop, ← List.drop_drop, List.take_append_drop, List.take_append_drop]
    rw [hL]
    simp only [Op.eqFields, ne_eq, hn, not_false_eq_true, if_true, Sem.run_bind, ho, pa, pb, Result.andThen_ok, heq]
    cases eqL ((xs.toList.drop off).take l.length) ((ys.toList.drop off).take l.length) with
    | false => simp
    | true =>
      simp only [Bool.not_true, Bool.false_eq_true, if_false, Bool.true_and]
      exact hr

theorem equal_kinds (D : Nat) : ∀ (d : Nat) (t : TypeId), EqC P D d t
  | 0, t => by intro ks hk; simp [kindsT] at hk
  | d + 1, t => by
    intro ks hk w x y ax ay fx fy
    unfold kindsT at hk
    unfold aggD at ax ay
    have hone : ∀ {v : Value}, isAggV v = false → v.cells.toList = [v] := by
      intro v hv; cases v <;> first | rfl | simp [isAggV] at hv
    split at hk
    · rename_i k hu
      rw [hu] at ax ay
      cases hk
      rw [hone ax] at fx ⊢; rw [hone ay] at fy ⊢
      simp only [fitsK, Bool.and_true] at fx fy
      rcases isCK_inv fx with ⟨_, _, e, rfl⟩ | ⟨_, e, _⟩ | ⟨_, e, _⟩ <;> first | (cases e; done) | skip
      rcases isCK_inv fy with ⟨_, _, e', rfl⟩ | ⟨_, e', _⟩ | ⟨_, e', _⟩ <;> first | (cases e'; done) | skip
      cases e; cases e'
      rw [show D + (d + 1) = D + d + 1 from rfl, run_equalIn_int w (D + d) t _ k _ _ hu]; simp [eqL]
    · rename_i hu
      rw [hu] at ax ay
      cases hk
      rw [hone ax] at fx ⊢; rw [hone ay] at fy ⊢
      simp only [fitsK, Bool.and_true] at fx fy
      rcases isCK_inv fx with ⟨_, _, e, _⟩ | ⟨_, e, rfl⟩ | ⟨_, e, _⟩ <;> first | (cases e; done) | skip
      rcases isCK_inv fy with ⟨_, _, e', _⟩ | ⟨_, e', rfl⟩ | ⟨_, e', _⟩ <;> first | (cases e'; done) | skip
      rw [show D + (d + 1) = D + d + 1 from rfl, run_equalIn_bool' w (D + d) t _ _ hu]; simp [eqL]
    · rename_i hu
      rw [hu] at ax ay
      cases hk
      rw [hone ax] at fx ⊢; rw [hone ay] at fy ⊢
      simp only [fitsK, Bool.and_true] at fx fy
      rcases isCK_inv fx with ⟨_, _, e, _⟩ | ⟨_, e, _⟩ | ⟨_, e, rfl⟩ <;> first | (cases e; done) | skip
      rcases isCK_inv fy with ⟨_, _, e', _⟩ | ⟨_, e', _⟩ | ⟨_, e', rfl⟩ <;> first | (cases e'; done) | skip
      rw [show D + (d + 1) = D + d + 1 from rfl, run_equalIn_string w (D + d) t _ _ hu, ← beq_toListBytes]; simp [eqL]
    · rename_i n e hu
      rw [hu] at ax ay
      simp only [oK_some, cond_some, Bool.and_eq_true] at hk
      obtain ⟨l, hl, ⟨hlen, hinf⟩, hk⟩ := hk
      have hk := (Option.some.inj hk).symm; subst hk
      have hlen := nbeq.1 hlen
      obtain ⟨i, hi⟩ := Option.isSome_iff_exists.1 hinf
      cases x <;> simp only [isAggV, Bool.false_eq_true] at ax
      cases y <;> simp only [isAggV, Bool.false_eq_true] at ay
      rename_i xs ys
      rw [show D + (d + 1) = D + d + 1 from rfl, run_equalIn_array w (D + d) xs ys hu hi, List.range_eq_range']
      have := items_kinds (equal_kinds D d e) hl hlen w xs ys n 0 (by simpa [Value.cells] using fx) (by simpa [Value.cells] using fy)
      simpa [Value.cells] using this
    · rename_i fs hu
      rw [hu] at ax ay
      obtain ⟨hs, hk⟩ := cond_none.1 hk
      cases x <;> simp only [isAggV, Bool.false_eq_true] at ax
      cases y <;> simp only [isAggV, Bool.false_eq_true] at ay
      rename_i xs ys
      have hfs : P.fieldsOf t = fs := by simp [Program.fieldsOf, hu]
      rw [show D + (d + 1) = D + d + 1 from rfl, run_equalIn_struct w (D + d) t xs ys (by rw [hfs]; exact hu) hs, hfs]
      have := fields_kinds (D := D) (equal_kinds D d) w xs ys fs.toList 0 ks hk (by simpa [Value.cells] using fx) (by simpa [Value.cells] using fy)
      simpa [Value.cells] using this
    · simp at hk

theorem eqA_run (hT : TabOk P T) {t : Nat} {xs ys : Array Value} {k : Bool → Option Res} {r : Res} (h : eqA T t xs.toList ys.toList k none = some r) (w : World) :
    ∃ b, k b = some r ∧ (Op.equal t (.agg xs) (.agg ys)).run P w = .ok b w ∧ P.eqGuardType P.depth t = false ∧ xs.toList.all pl0 = true ∧ ys.toList.all pl0 = true := by
  unfold eqA at h
  simp only [oK_some, cond_some, cond_none, Bool.and_eq_true] at h
  obtain ⟨i, hi, hne, ⟨⟨hag, fx⟩, fy⟩, h⟩ := h
  obtain ⟨hg, hk⟩ := (hT t i hi).2.2.2 (by intro e; rw [e] at hne; simp at hne)
  have ha : aggD P t = true := by
    obtain ⟨d, hd1, hd2, hd3⟩ := und_some hT hi
    unfold aggD
    rw [hd1]
    cases hs : i.st with
    | false =>
      have := hd2 hs; subst this
      simp only [isAggT, hs, Bool.false_or] at hag
      cases hu : i.und <;> rw [hu] at hag <;> first | rfl | simp at hag
    | true => obtain ⟨fs, rfl, _⟩ := hd3 hs; rfl
  refine ⟨_, h, ?_, hg, fitsK_pl fx, fitsK_pl fy⟩
  exact equal_kinds (P := P) 9980 20 t _ hk w (.agg xs) (.agg ys) ha.symm ha.symm fx fy

theorem eqGuard_agg {op : BinOp} {t : Nat} {x y : Operand} {xs ys : Array Value} (hg : P.eqGuardType P.depth t = false) (w : World) : (eqGuard op t x y (.agg xs) (.agg ys)).run P w = .ok () w := by
  unfold eqGuard
  cases op <;> simp [hg]

theorem eqGuard_int {op : BinOp} {t : Nat} {x y : Operand} {k1 k2 : IntKind} {m1 m2 : Int} (w : World) : (eqGuard op t x y (.int k1 m1) (.int k2 m2)).run P w = .ok () w := by
  unfold eqGuard
  cases op <;> simp

theorem eqGuard_bool {op : BinOp} {t : Nat} {x y : Operand} {b1 b2 : Bool} (w : World) : (eqGuard op t x y (.bool b1) (.bool b2)).run P w = .ok () w := by
  unfold eqGuard
  cases op <;> simp

end
end Go.W

/-
  The engine, part 5: the operations without memory of their own, one by one; loads.
-/
namespace Go.W

theorem addr_add (b off n : Nat) : (⟨b, off, none⟩ : Addr).add n = ⟨b, off + n, none⟩ := by
  unfold Addr.add; split
  · rename_i h; subst h; rfl
  · rfl

theorem cell_at {w : World} {b : Nat} {cs : Array Value} {e : TypeId} {fz : Nat × Nat} (h : w.heap[b]? = some (.cells cs e fz)) (off : Nat) : w.cell? ⟨b, off, none⟩ = cs[off]? := by
  simp [World.cell?, h]

theorem run_loadCells {P : Program} {w : World} {b : Nat} {cs : Array Value} {e : TypeId} {fz : Nat × Nat} (h : w.heap[b]? = some (.cells cs e fz)) (off : Nat) :
    ∀ (n i : Nat) (acc : Array Value), off + i + n ≤ cs.size → (loadCellsFrom ⟨b, off, none⟩ i n acc).run P w = .ok (acc ++ ((cs.toList.drop (off + i)).take n).toArray) w
  | 0, i, acc, _ => by simp [loadCellsFrom]
  | n + 1, i, acc, hn => by
    have hlt : off + i < cs.toList.length := by simp; omega
    have hc : w.cell? ((⟨b, off, none⟩ : Addr).add i) = some cs.toList[off + i] := by
      rw [addr_add, cell_at h, ← Array.getElem?_toList, List.getElem?_eq_getElem hlt]
    simp only [loadCellsFrom, Sem.run_bind, run_load, hc, Result.andThen_ok]
    rw [run_loadCells h off n (i + 1) _ (by omega), List.drop_eq_getElem_cons hlt]
    congr 1
    apply Array.ext'
    simp [Nat.add_assoc]

section
variable {P : Program} {T : Tab} {G : Sums} {w0 : Wb} {w : World} {n : Nat} {R : Nat → Nat → Prop} {S : FS} {a : Act}

theorem Rel.block (h : Rel w0 n R S a w) {i b : Nat} {blk : Blk} (hi : S.fm i = some blk) (hb : R i b) :
    ∃ cs fz, w.heap[b]? = some (.cells cs blk.elem fz) ∧ LP R blk.cells cs ∧ (blk.own = true → fz = (0, 0) ∧ (w0.X b ∨ w0.w.heap.size ≤ b)) := by
  obtain ⟨b', cs, fz, h1, h2, h3, h4⟩ := h.mem i blk hi
  have := h.func _ _ _ hb h1; subst this
  exact ⟨cs, fz, h2, h3, h4⟩

theorem sound_load (hT : TabOk P T) (h : Rel w0 n R S a w) {o : Oper} {t : Nat} {x : Operand} (ho : o.op = .load t x) {id : Nat} {r : Res} (hr : opS T G id o.op (evF S.fs) S.fm = some r) : PR P R a w o r := by
  rw [ho] at hr
  simp only [opS, opK, oK_some, ptrK_some] at hr
  obtain ⟨v, hv, b, off, rfl, blk, hb, i, hi, hr⟩ := hr
  obtain ⟨b', hb', hev⟩ := V2_ptr (h.ev hv)
  obtain ⟨cs, fz, h1, h2, _⟩ := h.block hb hb'
  unfold partK at hr
  have e1 : (execOp a.eval o).run P w = ((loadVar t ⟨b', off, none⟩).run P w).andThen fun v w' => .ok (.value v) w' := by
    simp only [execOp, ho, hev, Instr.loadAt, Instr.sureAddr, Sem.run_bind, Sem.run_pure, Result.andThen_ok]
  cases hA : isAggT i with
  | true =>
    simp only [hA, cond_true] at hr
    obtain ⟨h3, h4⟩ := cond_some.1 hr
    cases h4
    have hle := Nat.le_of_ble_eq_true h3
    have hcs := LP_le h2
    refine ⟨rfl, rfl, .agg ((cs.toList.drop off).take i.siz).toArray, ?_, _, rfl, by simpa using LP_part h2 hle⟩
    rw [e1]
    simp only [loadVar, Sem.run_bind, run_agg hT hi, Result.andThen_ok, hA, if_true, run_size hT hi, loadCells]
    rw [run_loadCells h1 off i.siz 0 #[] (by omega)]
    simp
  | false =>
    simp only [hA, cond_false] at hr
    obtain ⟨v, h3, h4⟩ := oK_some.1 hr
    cases h4
    obtain ⟨v', h5, h6⟩ := LP_get h2 h3
    refine ⟨rfl, rfl, v', ?_, V2_of_V0 h6⟩
    rw [e1]
    have hc : w.cell? ⟨b', off, none⟩ = some v' := by rw [cell_at h1, ← Array.getElem?_toList, h5]
    simp [loadVar, run_agg hT hi, hA, hc]

theorem sound_indexAddr (hT : TabOk P T) (h : Rel w0 n R S a w) {o : Oper} {t : Nat} {x ix : Operand} (ho : o.op = .indexAddr t x ix) {id : Nat} {r : Res} (hr : opS T G id o.op (evF S.fs) S.fm = some r) : PR P R a w o r := by
  rw [ho] at hr
  simp only [opS, opK, oK_some, intK_some] at hr
  obtain ⟨vx, hx, vi, hvi, kd, m, rfl, i, hi, hr⟩ := hr
  have hm := V2_int (h.ev hvi)
  obtain ⟨d, hd1, hd2, _⟩ := und_some hT hi
  obtain ⟨hst, ⟨len, e, hu, h2⟩ | ⟨e, hu, h2⟩ | ⟨_, _, h2⟩ | ⟨_, h2⟩ | ⟨_, h2⟩⟩ := descK_some hr <;> first | (simp at h2; done) | skip
  all_goals have := hd2 hst; subst this; rw [hu] at hd1
  · simp only [ptrK_some, oK_some, cond_some] at h2
    obtain ⟨b, off, rfl, j, hj, hin, h3⟩ := h2
    cases h3
    obtain ⟨b', hb', hev⟩ := V2_ptr (h.ev hx)
    refine PR.mk (v' := .pointer (some ⟨b', off + m.toNat * j.siz, none⟩)) ?_ ⟨b', hb', rfl⟩
    have hin' : 0 ≤ m ∧ m < (len : Int) := by simpa [inR] using hin
    simp [execOp, ho, hm, hev, Instr.indexAt, asIntOf, Instr.sureAddr, run_underlying hd1, hin', run_size hT hj, addr_add]
  · simp only [sliceK_some, oK_some, cond_some] at h2
    obtain ⟨b, off, len, c, rfl, j, hj, hin, h3⟩ := h2
    cases h3
    obtain ⟨b', c', hb', _, hev⟩ := V2_slice (h.ev hx)
    refine PR.mk (v' := .pointer (some ⟨b', off + m.toNat * j.siz, none⟩)) ?_ ⟨b', hb', rfl⟩
    have hin' : 0 ≤ m ∧ m < (len : Int) := by simpa [inR] using hin
    simp [execOp, ho, hm, hev, Instr.indexAt, asIntOf, run_underlying hd1, hin', run_size hT hj, addr_add]

theorem fields_at (hT : TabOk P T) {t : Nat} {i : TInf} (hi : look T t = some i) (hst : i.st = true) {m : Nat} {fl : Nat × Nat} (hf : i.flds[m]? = some fl) :
    ∃ fs f, P.underlying t = some (.struct fs) ∧ fs[m]? = some f ∧ f.offset = fl.1 ∧ f.type = fl.2 := by
  obtain ⟨d, hd1, _, hd2⟩ := und_some hT hi
  obtain ⟨fs, rfl, he⟩ := hd2 hst
  rw [← he, List.getElem?_map] at hf
  obtain ⟨f, h1, h2⟩ := Option.map_eq_some_iff.1 hf
  exact ⟨fs, f, hd1, by rw [← Array.getElem?_toList]; exact h1, by rw [← h2], by rw [← h2]⟩

theorem sound_fieldAddr (hT : TabOk P T) (h : Rel w0 n R S a w) {o : Oper} {t m : Nat} {x : Operand} (ho : o.op = .fieldAddr t x m) {id : Nat} {r : Res} (hr : opS T G id o.op (evF S.fs) S.fm = some r) : PR P R a w o r := by
  rw [ho] at hr
  simp only [opS, opK, oK_some, ptrK_some, cond_some, cond_none] at hr
  obtain ⟨vx, hx, b, off, rfl, i, hi, hst, fl, hf, j, hj, hz, hr⟩ := hr
  cases hr
  obtain ⟨b', hb', hev⟩ := V2_ptr (h.ev hx)
  obtain ⟨fs, f, h1, h2, h3, h4⟩ := fields_at hT hi hst hf
  refine PR.mk (v' := .pointer (some ⟨b', off + fl.1, none⟩)) ?_ ⟨b', hb', rfl⟩
  have hs : (sizeOf f.type).run P w = .ok j.siz w := by rw [h4]; exact run_size hT hj w
  have hz' : j.siz ≠ 0 := fun e => by rw [e] at hz; simp at hz
  simp [execOp, ho, hev, Instr.fieldAt, Instr.sureAddr, run_underlying h1, h2, fieldPlace, hs, hz', h3, addr_add]

theorem sound_field (hT : TabOk P T) (h : Rel w0 n R S a w) {o : Oper} {t m : Nat} {x : Operand} (ho : o.op = .field t x m) {id : Nat} {r : Res} (hr : opS T G id o.op (evF S.fs) S.fm = some r) : PR P R a w o r := by
  rw [ho] at hr
  simp only [opS, opK, oK_some, aggK_some, cond_some] at hr
  obtain ⟨vx, hx, cs, rfl, i, hi, hst, fl, hf, j, hj, hr⟩ := hr
  obtain ⟨cs', hev, hl⟩ := V2_agg (h.ev hx)
  obtain ⟨fs, f, h1, h2, h3, h4⟩ := fields_at hT hi hst hf
  obtain ⟨v, v', h5, h6, h7⟩ := part_run hT hj hl hr w
  cases h5
  refine PR.mk (v' := v') ?_ (V2_of_V1 h7)
  rw [← h3, ← h4] at h6
  simp only [Array.toArray_toList] at h6
  simp [execOp, ho, hev, Instr.field, run_underlying h1, h2, asAgg, h6]

theorem sound_index (hT : TabOk P T) (h : Rel w0 n R S a w) {o : Oper} {t : Nat} {x ix : Operand} (ho : o.op = .index t x ix) {id : Nat} {r : Res} (hr : opS T G id o.op (evF S.fs) S.fm = some r) : PR P R a w o r := by
  rw [ho] at hr
  simp only [opS, opK, oK_some, intK_some] at hr
  obtain ⟨vx, hx, vi, hvi, kd, m, rfl, i, hi, hr⟩ := hr
  have hm := V2_int (h.ev hvi)
  obtain ⟨d, hd1, hd2, _⟩ := und_some hT hi
  obtain ⟨hst, ⟨len, e, hu, h2⟩ | ⟨_, _, h2⟩ | ⟨_, _, h2⟩ | ⟨_, h2⟩ | ⟨hu, h2⟩⟩ := descK_some hr <;> first | (simp at h2; done) | skip
  all_goals have := hd2 hst; subst this; rw [hu] at hd1
  · simp only [aggK_some, oK_some, cond_some] at h2
    obtain ⟨cs, rfl, j, hj, hin, h3⟩ := h2
    obtain ⟨cs', hev, hl⟩ := V2_agg (h.ev hx)
    obtain ⟨v, v', h5, h6, h7⟩ := part_run hT hj hl h3 w
    cases h5
    refine PR.mk (v' := v') ?_ (V2_of_V1 h7)
    have hin' : 0 ≤ m ∧ m < (len : Int) := by simpa [inR] using hin
    simp only [Array.toArray_toList] at h6
    simp [execOp, ho, hm, hev, Instr.index, asIntOf, run_underlying hd1, hin', run_size hT hj, h6]
  · simp only [strK_some, cond_some] at h2
    obtain ⟨s, rfl, hin, h3⟩ := h2
    cases h3
    have hev := V2_string (h.ev hx)
    have hin' : 0 ≤ m ∧ m < (s.size : Int) := by simpa [inR] using hin
    refine PR.mk (v' := .int .u8 ((s.data.toList.getD m.toNat 0).toNat : Int)) ?_ ((V2_plain rfl).2 rfl)
    have hlt : m.toNat < s.size := by omega
    have hs : s[m.toNat]? = some (s.data.toList.getD m.toNat 0) := by
      have h1 : m.toNat < s.data.size := hlt
      rw [getElem?_pos s m.toNat hlt]
      congr 1
      simp only [List.getD_eq_getElem?_getD, Array.getElem?_toList]
      rw [Array.getElem?_eq_getElem h1]
      rfl
    simp [execOp, ho, hm, hev, Instr.index, asIntOf, run_underlying hd1, hin'.1, hs]

theorem sound_extract (h : Rel w0 n R S a w) {o : Oper} {m : Nat} {x : Operand} (ho : o.op = .extract x m) {id : Nat} {r : Res} (hr : opS T G id o.op (evF S.fs) S.fm = some r) : PR P R a w o r := by
  rw [ho] at hr
  simp only [opS, opK, oK_some, tupK_some, cond_some] at hr
  obtain ⟨vx, hx, cs, rfl, v, hv, _, hr⟩ := hr
  cases hr
  obtain ⟨cs', hev, hl⟩ := V2_tuple (h.ev hx)
  obtain ⟨v', h1, h2⟩ := LR_get hl hv
  refine PR.mk (v' := v') ?_ (V2_of_V1 h2)
  rw [Array.getElem?_toList] at h1
  simp [execOp, ho, hev, Instr.extract, h1]

theorem sound_pick (h : Rel w0 n R S a w) {o : Oper} {c x y : Operand} (ho : o.op = .pick c x y) {id : Nat} {r : Res} (hr : opS T G id o.op (evF S.fs) S.fm = some r) : PR P R a w o r := by
  rw [ho] at hr
  simp only [opS, opK, oK_some, boolK_some] at hr
  obtain ⟨vc, hc, b, rfl, hr⟩ := hr
  have hev := V2_bool (h.ev hc)
  cases b with
  | true =>
    obtain ⟨v, hv, hr⟩ := oK_some.1 hr
    cases hr
    exact PR.mk (v' := a.eval x) (by simp [execOp, ho, hev, asBool]) (h.ev hv)
  | false =>
    obtain ⟨v, hv, hr⟩ := oK_some.1 hr
    cases hr
    exact PR.mk (v' := a.eval y) (by simp [execOp, ho, hev, asBool]) (h.ev hv)

theorem eqOpK_some {op : BinOp} {b : Bool} {k : Value → Option Res} {r : Res} (h : eqOpK op b k none = some r) : (op = .eql ∧ k (.bool b) = some r) ∨ (op = .neq ∧ k (.bool (!b)) = some r) := by
  cases op <;> simp [eqOpK] at h <;> simp [h]

theorem binK_some {op : BinOp} {t : Nat} {x y : Value} {k : Value → Option Res} {r : Res} (h : binK T op t x y k none = some r) :
    (∃ kx m ky l, x = .int kx m ∧ y = .int ky l ∧ binI op kx m ky l k none = some r) ∨
    (∃ b c, x = .bool b ∧ y = .bool c ∧ (oK (look T t) (fun i => descK i (fun _ _ => none) (fun _ => none) (fun _ => none) (eqOpK op (b == c) k none) none none) none) = some r) ∨
    (∃ xs ys, x = .agg xs ∧ y = .agg ys ∧ eqA T t xs.toList ys.toList (fun b => eqOpK op b k none) none = some r) := by
  unfold binK at h
  cases x <;> simp only [intK, boolK, aggK] at h <;> first | (simp at h; done) | skip
  case int kx m => cases y <;> simp only at h <;> first | (simp at h; done) | exact .inl ⟨_, _, _, _, rfl, rfl, h⟩
  case bool b => cases y <;> simp only at h <;> first | (simp at h; done) | exact .inr (.inl ⟨_, _, rfl, rfl, h⟩)
  case agg xs => cases y <;> simp only at h <;> first | (simp at h; done) | exact .inr (.inr ⟨_, _, rfl, rfl, h⟩)

theorem sound_binOp (hT : TabOk P T) (h : Rel w0 n R S a w) {o : Oper} {op : BinOp} {t u : Nat} {x y : Operand} (ho : o.op = .binOp op t x y u) {id : Nat} {r : Res} (hr : opS T G id o.op (evF S.fs) S.fm = some r) : PR P R a w o r := by
  rw [ho] at hr
  simp only [opS, opK, oK_some] at hr
  obtain ⟨vx, hx, vy, hy, hr⟩ := hr
  rcases binK_some hr with ⟨kx, m, ky, l, rfl, rfl, h1⟩ | ⟨b, c, rfl, rfl, h1⟩ | ⟨xs, ys, rfl, rfl, h1⟩
  · have e1 := V2_int (h.ev hx)
    have e2 := V2_int (h.ev hy)
    obtain ⟨v, h2, h3, h4⟩ := binI_run (P := P) (R := R) h1 t w
    cases h2
    exact PR.mk (v' := v) (by simp [execOp, ho, e1, e2, eqGuard_int, h3]) h4
  · have e1 := V2_bool (h.ev hx)
    have e2 := V2_bool (h.ev hy)
    obtain ⟨i, hi, h2⟩ := oK_some.1 h1
    obtain ⟨d, hd1, hd2, _⟩ := und_some hT hi
    obtain ⟨hst, ⟨_, _, _, h3⟩ | ⟨_, _, h3⟩ | ⟨_, _, h3⟩ | ⟨hu, h3⟩ | ⟨_, h3⟩⟩ := descK_some h2 <;> first | (simp at h3; done) | skip
    have := hd2 hst; subst this; rw [hu] at hd1
    have he : (Op.equal t (.bool b) (.bool c)).run P w = .ok (b == c) w := run_equal_bool w t b c hd1
    rcases eqOpK_some h3 with ⟨rfl, h4⟩ | ⟨rfl, h4⟩
    · cases h4; exact PR.mk (v' := .bool (b == c)) (by simp [execOp, ho, e1, e2, eqGuard_bool, binOp, he]) ((V2_plain rfl).2 rfl)
    · cases h4; exact PR.mk (v' := .bool (!(b == c))) (by simp [execOp, ho, e1, e2, eqGuard_bool, binOp, he]) ((V2_plain rfl).2 rfl)
  · obtain ⟨xs', e1, l1⟩ := V2_agg (h.ev hx)
    obtain ⟨ys', e2, l2⟩ := V2_agg (h.ev hy)
    obtain ⟨b, h2, h3, h4, h5, h6⟩ := eqA_run hT h1 w
    have := Array.toList_inj.1 ((LR_plain (r := V0 R) (pl := pl0) (fun v v' hv => V0_plain hv) h5).1 l1); subst this
    have := Array.toList_inj.1 ((LR_plain (r := V0 R) (pl := pl0) (fun v v' hv => V0_plain hv) h6).1 l2); subst this
    rcases eqOpK_some h2 with ⟨rfl, h7⟩ | ⟨rfl, h7⟩
    · cases h7; exact PR.mk (v' := .bool b) (by simp [execOp, ho, e1, e2, eqGuard_agg h4, binOp, h3]) ((V2_plain rfl).2 rfl)
    · cases h7; exact PR.mk (v' := .bool (!b)) (by simp [execOp, ho, e1, e2, eqGuard_agg h4, binOp, h3]) ((V2_plain rfl).2 rfl)

theorem sound_unOp (h : Rel w0 n R S a w) {o : Oper} {op : UnOp} {t : Nat} {x : Operand} (ho : o.op = .unOp op t x) {id : Nat} {r : Res} (hr : opS T G id o.op (evF S.fs) S.fm = some r) : PR P R a w o r := by
  rw [ho] at hr
  simp only [opS, opK, oK_some] at hr
  obtain ⟨vx, hx, hr⟩ := hr
  have hev := h.ev hx
  cases vx <;> simp only [unK, intK, boolK] at hr <;> first | (simp at hr; done) | skip
  · have hev := V2_bool hev
    cases op <;> simp only [unB] at hr <;> first | (simp at hr; done) | skip
    cases hr; exact PR.mk (v' := .bool _) (by simp [execOp, ho, hev, Op.unary]) ((V2_plain rfl).2 rfl)
  · have hev := V2_int hev
    cases op <;> simp only [unI] at hr <;> first | (simp at hr; done) | skip
    cases hr; exact PR.mk (v' := .int _ _) (by simp only [execOp, ho, hev, Op.unary, Op.intArith, Sem.run_bind, Sem.run_pure, Result.andThen_ok]) ((V2_plain rfl).2 rfl)

theorem sound_convert (hT : TabOk P T) (h : Rel w0 n R S a w) {o : Oper} {s d : Nat} {x : Operand} (ho : o.op = .convert s d x) {id : Nat} {r : Res} (hr : opS T G id o.op (evF S.fs) S.fm = some r) : PR P R a w o r := by
  rw [ho] at hr
  simp only [opS, opK, oK_some, intK_some] at hr
  obtain ⟨vx, hx, i, hi, j, hj, kx, m, rfl, hr⟩ := hr
  have hev := V2_int (h.ev hx)
  obtain ⟨d1, hd1, _, _⟩ := und_some hT hi
  obtain ⟨d2, hd2, hd3, _⟩ := und_some hT hj
  obtain ⟨hst, ⟨_, _, _, h3⟩ | ⟨_, _, h3⟩ | ⟨kd, hu, h3⟩ | ⟨_, h3⟩ | ⟨_, h3⟩⟩ := descK_some hr <;> first | (simp at h3; done) | skip
  have := hd3 hst; subst this; rw [hu] at hd2
  cases h3
  refine PR.mk (v' := .int kd (kd.wrap m)) ?_ ((V2_plain rfl).2 rfl)
  simp only [execOp, ho, hev, convert, Sem.run_bind, run_underlying hd1, run_underlying hd2, Result.andThen_ok]
  cases d1 <;> simp [Conv.intToInt]

end
end Go.W

/-
  The engine, part 6: literals, slices of arrays; what makes and writes memory; calls.
-/
namespace Go.W

section
variable {P : Program} {T : Tab} {G : Sums} {w0 : Wb} {w : World} {n : Nat} {R : Nat → Nat → Prop} {S : FS} {a : Act}

theorem parts_run (h : Rel w0 n R S a w) {β : Type} : ∀ (ps : List (Nat × Operand)) {k : List (Nat × Value) → Option β} {r : β}, partsK (evF S.fs) ps k none = some r →
    ∃ vs, k vs = some r ∧ vs.map (·.1) = ps.map (·.1) ∧ LR (V2 R) (vs.map (·.2)) (ps.map fun p => a.eval p.2)
  | [], k, r, hr => ⟨[], hr, rfl, trivial⟩
  | p :: ps, k, r, hr => by
    simp only [partsK, oK_some] at hr
    obtain ⟨v, hv, hr⟩ := hr
    obtain ⟨vs, h1, h2, h3⟩ := parts_run h ps hr
    exact ⟨(p.1, v) :: vs, h1, by simp [h2], h.ev hv, h3⟩

theorem foldl_set (cs : List Value) (off : Nat) : ∀ (l : List Value) (j : Nat) (acc : Array Value), acc.toList = cs → off + j + l.length ≤ cs.length →
    ((l.zipIdx j).foldl (fun (A : Array Value) (q : Value × Nat) => A.setIfInBounds (off + q.2) q.1) acc).toList = cs.take (off + j) ++ l ++ cs.drop (off + j + l.length)
  | [], j, acc, h, hl => by simp [h]
  | v :: l, j, acc, h, hl => by
    simp only [List.length_cons] at hl
    simp only [List.zipIdx_cons, List.foldl_cons]
    rw [foldl_set (cs.set (off + j) v) off l (j + 1) _ (by simp [h]) (by simp; omega)]
    have hlt : off + j < cs.length := by omega
    rw [List.take_set, List.drop_set, if_pos (by omega)]
    rw [show off + (j + 1) = (off + j) + 1 from by omega, List.take_succ_eq_append_getElem hlt]
    rw [List.set_append_right _ _ (by simp only [List.length_take]; omega)]
    simp only [List.length_take, List.append_assoc, List.length_cons]
    rw [show off + j - min (off + j) cs.length = 0 from by omega]
    simp only [List.set_cons_zero, List.cons_append, List.nil_append]
    rw [show off + j + 1 + l.length = off + j + (l.length + 1) from by omega]

theorem fill_run {place : Nat → Option (Nat × Nat)} {place' : Nat → Option (Nat × Nat)} (hp : ∀ m q, place m = some q → place' m = some q) :
    ∀ (vs : List (Nat × Value)) (us : List (Nat × Value)), vs.map (·.1) = us.map (·.1) → LR (V2 R) (vs.map (·.2)) (us.map (·.2)) →
      ∀ (cells : List Value) (cells' : Array Value) {k : List Value → Option Res} {r : Res}, LR (V0 R) cells cells'.toList → fillK place vs cells k none = some r →
        ∃ cs cs', k cs = some r ∧ Instr.fill place' cells' us = some cs' ∧ LR (V0 R) cs cs'.toList
  | [], [], _, _, cells, cells', k, r, hl, hk => ⟨cells, cells', hk, rfl, hl⟩
  | v :: vs, u :: us, h1, h2, cells, cells', k, r, hl, hk => by
    simp only [List.map_cons, List.cons.injEq] at h1
    simp only [List.map_cons, LR] at h2
    simp only [fillK, oK_some, cond_some, Bool.and_eq_true] at hk
    obtain ⟨q, hq, ⟨⟨ht, hs⟩, hle⟩, hk⟩ := hk
    have hs := nbeq.1 hs
    have hle := Nat.le_of_ble_eq_true hle
    have hc := V2_cells h2.1 (notTup_ne ht)
    have hlen := LR_len hc
    have hlen' := LR_len hl
    have hpl : place' u.1 = some q := by rw [← h1.1]; exact hp _ _ hq
    have e1 : u.2.cells.size = q.2 := by rw [← Array.length_toList, ← hlen, hs]
    have e2 : cells'.size = cells.length := by rw [← Array.length_toList, ← hlen']
    obtain ⟨cs, cs', h3, h4, h5⟩ := fill_run hp vs us h1.2 h2.2 _ (u.2.cells.zipIdx.foldl (fun cs (c, j) => cs.setIfInBounds (q.1 + j) c) cells') (k := k) (r := r) (by
      rw [← Array.foldl_toList, Array.toList_zipIdx, foldl_set cells'.toList q.1 u.2.cells.toList 0 cells' rfl (by simp [e1, e2]; omega)]
      have hx : q.1 + 0 + u.2.cells.toList.length = q.1 + q.2 := by simp [e1]
      rw [hx]
      exact LR_append (LR_append (by simpa using LR_take q.1 hl) hc) (LR_drop _ hl)) hk
    refine ⟨cs, cs', h3, ?_, h5⟩
    unfold Instr.fill
    simp only [hpl, e1, ne_eq, not_true_eq_false, decide_false, Bool.false_or, decide_eq_true_eq]
    rw [if_neg (by rw [e2]; omega)]
    exact h4
  | [], _ :: _, h1, _, _, _, _, _, _, _ => by simp at h1
  | _ :: _, [], h1, _, _, _, _, _, _, _ => by simp at h1

theorem run_zero (hT : TabOk P T) {t : Nat} {i : TInf} (h : look T t = some i) (w : World) : (zeroValue t).run P w = .ok i.zer w := by
  obtain ⟨inf, h1, _, h3⟩ := info_of hT h
  simp [zeroValue, run_typeInfo w h1, h3]

theorem plain_cells {v : Value} (h : pl1 v = true) (ht : notTup v = true) : LR (V0 R) v.cells.toList v.cells.toList :=
  V2_cells ((V2_plain (by unfold pl2; split; · simp [notTup] at ht
                          · exact h)).2 rfl) (notTup_ne ht)

theorem places_run (hT : TabOk P T) {i : TInf} {w : World} : ∀ (fs : List Field), (∀ f ∈ fs, ∃ j, look T f.type = some j) →
    (fs.mapM (fun f => do pure (f.offset, ← sizeOf f.type)) : Sem (List (Nat × Nat))).run P w = .ok (fs.map fun f => (f.offset, P.cellsOf f.type)) w
  | [], _ => rfl
  | f :: fs, h => by
    obtain ⟨j, hj⟩ := h f (by simp)
    have ih := places_run hT (i := i) (w := w) fs fun g hg => h g (by simp [hg])
    simp only [List.mapM_cons, Sem.run_bind, run_size hT hj, Result.andThen_ok, Sem.run_pure, ih, List.map_cons, cellsOf_of hT hj]

theorem sound_build (hT : TabOk P T) (h : Rel w0 n R S a w) {o : Oper} {t : Nat} {ps : Array (Nat × Operand)} (ho : o.op = .build t ps) {id : Nat} {r : Res} (hr : opS T G id o.op (evF S.fs) S.fm = some r) : PR P R a w o r := by
  rw [ho] at hr
  simp only [opS, opK, oK_some] at hr
  obtain ⟨i, hi, hr⟩ := hr
  obtain ⟨vs, hr, h1, h2⟩ := parts_run h _ hr
  simp only [cond_some, Bool.and_eq_true] at hr
  obtain ⟨⟨ht, hp⟩, hr⟩ := hr
  have hz := plain_cells (R := R) hp ht
  have h1' : vs.map (·.1) = (ps.toList.map fun p => (p.1, a.eval p.2)).map (·.1) := by rw [h1]; simp
  have h2' : LR (V2 R) (vs.map (·.2)) ((ps.toList.map fun p => (p.1, a.eval p.2)).map (·.2)) := by rw [List.map_map]; exact h2
  have hparts : (ps.map fun (i, x) => (i, a.eval x)).toList = ps.toList.map fun p => (p.1, a.eval p.2) := by simp
  obtain ⟨d, hd1, hd2, hd3⟩ := und_some hT hi
  cases hst : i.st with
  | true =>
    simp only [hst, cond_true, cond_some] at hr
    obtain ⟨hall, hr⟩ := hr
    obtain ⟨fs, rfl, hfs⟩ := hd3 hst
    have hin : ∀ f ∈ fs.toList, ∃ j, look T f.type = some j := by
      intro f hf
      have := List.all_eq_true.1 hall (f.offset, f.type) (by rw [← hfs]; exact List.mem_map.2 ⟨f, hf, rfl⟩)
      exact Option.isSome_iff_exists.1 this
    obtain ⟨cs, cs', h3, h4, h5⟩ := fill_run (place' := ((fs.map fun f => (f.offset, P.cellsOf f.type))[·]?)) (by
      intro m q hq
      simp only [placeOf, ← hfs, List.getElem?_map, Option.bind_eq_some_iff, Option.map_eq_some_iff] at hq
      obtain ⟨fl, ⟨f, hf, rfl⟩, j, hj, rfl⟩ := hq
      rw [Array.getElem?_toList] at hf
      simp only [Array.getElem?_map, hf, Option.map_some, cellsOf_of hT hj]) vs _ h1' h2' _ i.zer.cells hz hr
    cases h3
    refine PR.mk (v' := .agg cs') ?_ ⟨_, rfl, by simpa using h5⟩
    have hpl : (fs.mapM (fun f => do pure (f.offset, ← sizeOf f.type)) : Sem (Array (Nat × Nat))).run P w = .ok (fs.map fun f => (f.offset, P.cellsOf f.type)) w := by
      rw [Array.mapM_eq_mapM_toList]
      simp only [Sem.run_map, places_run hT (i := i) fs.toList hin, Result.andThen_ok]
      congr 1
      apply Array.ext'
      simp
    simp only [execOp, ho, Instr.build, Sem.run_bind, run_zero hT hi, Result.andThen_ok, run_underlying hd1, hpl, hparts, h4, Sem.run_pure]
  | false =>
    simp only [hst, cond_false] at hr
    obtain ⟨_, ⟨m, e, hu, h3⟩ | ⟨_, _, h3⟩ | ⟨_, _, h3⟩ | ⟨_, h3⟩ | ⟨_, h3⟩⟩ := descK_some hr <;> first | (simp at h3; done) | skip
    have := hd2 hst; subst this; rw [hu] at hd1
    obtain ⟨j, hj, h3⟩ := oK_some.1 h3
    obtain ⟨cs, cs', h4, h5, h6⟩ := fill_run (place' := fun m => some (m * j.siz, j.siz)) (fun _ _ h => h) vs _ h1' h2' _ i.zer.cells hz h3
    cases h4
    refine PR.mk (v' := .agg cs') ?_ ⟨_, rfl, by simpa using h6⟩
    simp only [execOp, ho, Instr.build, Sem.run_bind, run_zero hT hi, Result.andThen_ok, run_underlying hd1, run_size hT hj, hparts, h5, Sem.run_pure]

theorem repL_len (z : List Value) : ∀ n, (repL n z).length = n * z.length
  | 0 => by simp [repL]
  | n + 1 => by simp [repL, repL_len z n, Nat.add_mul, Nat.add_comm]

theorem repL_get (z : List Value) : ∀ (n i : Nat), i < n * z.length → (repL n z)[i]? = z[i % z.length]?
  | 0, i, h => by simp at h
  | n + 1, i, h => by
    rw [Nat.add_mul, Nat.one_mul] at h
    unfold repL
    by_cases hi : i < z.length
    · rw [List.getElem?_append_left hi, Nat.mod_eq_of_lt hi]
    · rw [List.getElem?_append_right (by omega), repL_get z n (i - z.length) (by omega), Nat.mod_eq_sub_mod (a := i) (by omega)]

theorem repL_range {z : Array Value} {n : Nat} (hz : z.size ≠ 0) : (Array.range (n * z.size)).map (z[· % z.size]!) = (repL n z.toList).toArray := by
  apply Array.ext'
  apply List.ext_getElem?
  intro i
  by_cases hi : i < n * z.size
  · rw [repL_get z.toList n i (by rw [Array.length_toList]; exact hi)]
    have hlt : i % z.size < z.size := Nat.mod_lt _ (by omega)
    simp [hi, hlt]
  · rw [List.getElem?_eq_none (by simp; omega), List.getElem?_eq_none (by rw [List.toList_toArray, repL_len, Array.length_toList]; omega)]

theorem LR_rep {z z' : List Value} (h : LR (V0 R) z z') : ∀ n, LR (V0 R) (repL n z) (repL n z')
  | 0 => trivial
  | n + 1 => LR_append h (LR_rep h n)

theorem opt_run (h : Rel w0 n R S a w) {β : Type} {x : Option Operand} {k : Option Value → Option β} {r : β} (hr : optK (evF S.fs) x k none = some r) :
    ∃ v, k v = some r ∧ ((x = none ∧ v = none) ∨ ∃ y u, x = some y ∧ v = some u ∧ V2 R u (a.eval y)) := by
  cases x with
  | none => exact ⟨none, hr, .inl ⟨rfl, rfl⟩⟩
  | some y =>
    simp only [optK, oK_some] at hr
    obtain ⟨v, hv, hr⟩ := hr
    exact ⟨some v, hr, .inr ⟨y, v, rfl, rfl, h.ev hv⟩⟩

theorem sound_slice (hT : TabOk P T) (h : Rel w0 n R S a w) {o : Oper} {t : Nat} {x : Operand} {lo hi mx : Option Operand} (ho : o.op = .slice t x lo hi mx) {id : Nat} {r : Res} (hr : opS T G id o.op (evF S.fs) S.fm = some r) : PR P R a w o r := by
  rw [ho] at hr
  cases mx with
  | some m => simp [opS, opK, noneK] at hr
  | none =>
    simp only [opS, opK, noneK, oK_some] at hr
    obtain ⟨vx, hx, hr⟩ := hr
    obtain ⟨l, hr, hl⟩ := opt_run h hr
    obtain ⟨u, hr, hu⟩ := opt_run h hr
    obtain ⟨i, hi', hr⟩ := oK_some.1 hr
    obtain ⟨d, hd1, hd2, _⟩ := und_some hT hi'
    obtain ⟨hst, ⟨m, e, hue, h3⟩ | ⟨e, hue, h3⟩ | ⟨_, _, h3⟩ | ⟨_, h3⟩ | ⟨_, h3⟩⟩ := descK_some hr <;> first | (simp at h3; done) | skip
    · have := hd2 hst; subst this; rw [hue] at hd1
      simp only [ptrK_some, oK_some] at h3
      obtain ⟨b, off, rfl, j, hj, h3⟩ := h3
      obtain ⟨b', hb', hev⟩ := V2_ptr (h.ev hx)
      -- the upper bound
      obtain ⟨H, hH, h4⟩ : ∃ H, (match hi.map a.eval with
          | some v => Instr.sliceBound v m (.sliceAlen)
          | none => pure m).run P w = .ok H w ∧ lowK H l (fun l => some (val (.slice (some ⟨b, bif Nat.beq m l then off else off + l * j.siz, none⟩) (H - l) (m - l)))) none = some r := by
        rcases hu with ⟨rfl, rfl⟩ | ⟨y, v, rfl, rfl, hv⟩
        · exact ⟨m, rfl, h3⟩
        · simp only [highK, intK_some, cond_some, Bool.and_eq_true, decide_eq_true_eq] at h3
          obtain ⟨kd, q, rfl, hq, h3⟩ := h3
          have hev := V2_int hv
          refine ⟨q.toNat, ?_, h3⟩
          simp [Instr.sliceBound, hev, asIntOf, hq]
      obtain ⟨L, hL, h5⟩ : ∃ L, (match lo.map a.eval with
          | some v => Instr.sliceBound v H (.sliceB)
          | none => pure 0).run P w = .ok L w ∧ some (val (.slice (some ⟨b, bif Nat.beq m L then off else off + L * j.siz, none⟩) (H - L) (m - L))) = some r := by
        rcases hl with ⟨rfl, rfl⟩ | ⟨y, v, rfl, rfl, hv⟩
        · exact ⟨0, rfl, h4⟩
        · simp only [lowK, intK_some, cond_some, Bool.and_eq_true, decide_eq_true_eq] at h4
          obtain ⟨kd, q, rfl, hq, h4⟩ := h4
          have hev := V2_int hv
          refine ⟨q.toNat, ?_, h4⟩
          simp [Instr.sliceBound, hev, asIntOf, hq]
      cases h5
      refine PR.mk (v' := .slice (some ⟨b', bif Nat.beq m L then off else off + L * j.siz, none⟩) (H - L) (m - L)) ?_ ⟨b', _, hb', capOk_refl _ _, rfl⟩
      have hbounds : (Instr.sliceBounds false m m (lo.map a.eval) (hi.map a.eval) none).run P w = .ok (L, H, m) w := by
        unfold Instr.sliceBounds
        cases hhi : hi.map a.eval with
        | none =>
          rw [hhi] at hH
          cases hlo : lo.map a.eval with
          | none => rw [hlo] at hL; simp at hH hL; simp [hH, hL]
          | some v => rw [hlo] at hL; simp at hH; subst hH; simp at hL; simp [hL]
        | some v =>
          rw [hhi] at hH
          simp only at hH
          cases hlo : lo.map a.eval with
          | none => rw [hlo] at hL; simp at hL; simp [hH, hL]
          | some v => rw [hlo] at hL; simp at hL; simp [hL, hH]
      simp only [execOp, ho, hev, Instr.sliceAt, Sem.run_bind, run_underlying hd1, Result.andThen_ok, Instr.sureAddr, Sem.run_pure, Option.map_none, hbounds, run_size hT hj]
      congr 3
      by_cases hm : m = L
      · subst hm; simp
      · rw [if_neg hm, nbeq_ne hm]; simp [addr_add]
    · have := hd2 hst; subst this; rw [hue] at hd1
      simp only [sliceK_some, oK_some] at h3
      obtain ⟨b, off, m, c, rfl, j, hj, h3⟩ := h3
      obtain ⟨b', c', hb', hcc, hev⟩ := V2_slice (h.ev hx)
      have hle : c ≤ c' := by
        unfold capOk at hcc
        split at hcc
        · exact hcc
        · omega
      obtain ⟨H, hH, h4⟩ : ∃ H, (match hi.map a.eval with
          | some v => Instr.sliceBound v c' (.sliceAcap)
          | none => pure m).run P w = .ok H w ∧ lowK H l (fun l => bif Nat.ble H c && !(loose b && Nat.beq c l) then some (val (.slice (some ⟨b, bif Nat.beq c l then off else off + l * j.siz, none⟩) (H - l) (c - l))) else none) none = some r := by
        rcases hu with ⟨rfl, rfl⟩ | ⟨y, v, rfl, rfl, hv⟩
        · exact ⟨m, rfl, h3⟩
        · simp only [highK, intK_some, cond_some, Bool.and_eq_true, decide_eq_true_eq] at h3
          obtain ⟨kd, q, rfl, hq, h3⟩ := h3
          have hev := V2_int hv
          refine ⟨q.toNat, ?_, by simpa only [cond_some, Bool.and_eq_true] using h3⟩
          have hq2 : 0 ≤ q ∧ q ≤ (c' : Int) := by omega
          simp [Instr.sliceBound, hev, asIntOf, hq2]
      obtain ⟨L, hL, hLH, h5⟩ : ∃ L, (match lo.map a.eval with
          | some v => Instr.sliceBound v H (.sliceB)
          | none => pure 0).run P w = .ok L w ∧ L ≤ H ∧ (bif Nat.ble H c && !(loose b && Nat.beq c L) then some (val (.slice (some ⟨b, bif Nat.beq c L then off else off + L * j.siz, none⟩) (H - L) (c - L))) else none) = some r := by
        rcases hl with ⟨rfl, rfl⟩ | ⟨y, v, rfl, rfl, hv⟩
        · exact ⟨0, rfl, Nat.zero_le _, h4⟩
        · simp only [lowK, intK_some, cond_some (x := bif _ then _ else _), Bool.and_eq_true, decide_eq_true_eq] at h4
          obtain ⟨kd, q, rfl, h4⟩ := h4
          obtain ⟨hq, h4⟩ := h4
          have hev := V2_int hv
          refine ⟨q.toNat, ?_, by omega, h4⟩
          simp [Instr.sliceBound, hev, asIntOf, hq]
      obtain ⟨hcond, h5⟩ := cond_some.1 h5
      simp only [Bool.and_eq_true, Bool.not_eq_true'] at hcond
      obtain ⟨hHc, hlo⟩ := hcond
      have hHc := Nat.le_of_ble_eq_true hHc
      cases h5
      have hcl : (if c' = L then (⟨b', off, none⟩ : Addr) else (⟨b', off, none⟩ : Addr).add (L * j.siz)) = ⟨b', bif Nat.beq c L then off else off + L * j.siz, none⟩ := by
        by_cases hm : c = L
        · subst hm
          rw [Nat.beq_refl, Bool.and_true] at hlo
          unfold capOk at hcc
          rw [if_neg (by rw [hlo]; exact Bool.false_ne_true)] at hcc
          rw [if_pos hcc, Nat.beq_refl]; rfl
        · rw [nbeq_ne hm, cond_false, if_neg (by omega), addr_add]
      have hcap : capOk b (c - L) (c' - L) := by
        unfold capOk at hcc ⊢
        split at hcc
        · rename_i hl2; rw [if_pos hl2]; omega
        · rename_i hl2; rw [if_neg hl2, hcc]
      refine PR.mk (v' := .slice (some ⟨b', bif Nat.beq c L then off else off + L * j.siz, none⟩) (H - L) (c' - L)) ?_ ⟨b', _, hb', hcap, rfl⟩
      have hbounds : (Instr.sliceBounds true m c' (lo.map a.eval) (hi.map a.eval) none).run P w = .ok (L, H, c') w := by
        unfold Instr.sliceBounds
        cases hhi : hi.map a.eval with
        | none =>
          rw [hhi] at hH
          cases hlo2 : lo.map a.eval with
          | none => rw [hlo2] at hL; simp at hH hL; simp [hH, hL]
          | some v => rw [hlo2] at hL; simp at hH; subst hH; simp at hL; simp [hL]
        | some v =>
          rw [hhi] at hH
          simp only at hH
          cases hlo2 : lo.map a.eval with
          | none => rw [hlo2] at hL; simp at hL; simp [hH, hL]
          | some v => rw [hlo2] at hL; simp at hL; simp [hL, hH]
      have hsl : (Instr.slice t (.slice (some ⟨b', off, none⟩) m c') (lo.map a.eval) (hi.map a.eval) none).run P w = .ok (.slice (some ⟨b', bif Nat.beq c L then off else off + L * j.siz, none⟩) (H - L) (c' - L)) w := by
        unfold Instr.slice
        simp only [Sem.run_bind, run_underlying hd1, Result.andThen_ok, hbounds, run_size hT hj, Sem.run_pure, Option.map_some, ← hcl]
        by_cases hm : c' = L
        · rw [if_pos hm, if_pos hm]
        · rw [if_neg hm, if_neg hm]
      simp only [execOp, ho, hev, Instr.sliceAt, Sem.run_bind, run_underlying hd1, Result.andThen_ok, Option.map_none, hsl, Sem.run_pure]

/-- All operations that neither make nor write memory. -/
theorem sound_quiet (hT : TabOk P T) (h : Rel w0 n R S a w) {o : Oper} {id : Nat} {r : Res} (hr : opS T G id o.op (evF S.fs) S.fm = some r)
    (h1 : ∀ t, o.op ≠ .alloc t) (h2 : ∀ t x, o.op ≠ .box t x) (h3 : ∀ t x y, o.op ≠ .store t x y) (h4 : ∀ c, o.op ≠ .call c) (h5 : ∀ t l ps, o.op ≠ .buildSlice t l ps) : PR P R a w o r := by
  cases ho : o.op with
  | alloc t => exact absurd ho (h1 t)
  | box t x => exact absurd ho (h2 t x)
  | store t x y => exact absurd ho (h3 t x y)
  | call c => exact absurd ho (h4 c)
  | buildSlice t l ps => exact absurd ho (h5 t l ps)
  | move x =>
    rw [ho] at hr; simp only [opS, opK, oK_some] at hr
    obtain ⟨v, hv, hr⟩ := hr; cases hr
    exact PR.mk (v' := a.eval x) (by simp [execOp, ho]) (h.ev hv)
  | assign x =>
    rw [ho] at hr; simp only [opS, opK, oK_some] at hr
    obtain ⟨v, hv, hr⟩ := hr; cases hr
    exact PR.mk (v' := a.eval x) (by simp [execOp, ho]) (h.ev hv)
  | pick c x y => exact sound_pick h ho hr
  | load t x => exact sound_load hT h ho hr
  | indexAddr t x ix => exact sound_indexAddr hT h ho hr
  | fieldAddr t x m => exact sound_fieldAddr hT h ho hr
  | field t x m => exact sound_field hT h ho hr
  | index t x ix => exact sound_index hT h ho hr
  | extract x m => exact sound_extract h ho hr
  | binOp op t x y u => exact sound_binOp hT h ho hr
  | unOp op t x => exact sound_unOp h ho hr
  | convert s d x => exact sound_convert hT h ho hr
  | build t ps => exact sound_build hT h ho hr
  | slice t x lo hi mx => exact sound_slice hT h ho hr
  | _ => rw [ho] at hr; simp [opS, opK] at hr

end
end Go.W

/-
  The engine, part 7: what makes and writes memory; calls; one operation, whatever it is.
-/
namespace Go.W
open Go.RowKit (Below)

section
variable {P : Program} {T : Tab} {G : Sums} {w0 : Wb} {w : World} {n : Nat} {R : Nat → Nat → Prop} {S : FS} {a : Act}

theorem Rel.put (h : Rel w0 n R S a w) {d : Option Nat} (hd : ∀ t, d = some t → t < n) {v v' : Value} (hv : V2 R v v') : Rel w0 n R ⟨putF S.fs d v, S.fm⟩ (a.put d v') w := by
  cases d with
  | none => exact h
  | some t =>
    have ht := hd t rfl
    refine ⟨h.defers, h.below, by simpa [Act.put] using h.size, ?_, h.func, h.inj, h.mem, h.dom, h.anc⟩
    intro u x hx
    simp only [putF] at hx
    simp only [Act.put]
    by_cases hu : t = u
    · subst hu
      rw [upd_same] at hx
      cases hx
      exact ⟨v', by simp [h.size, ht], hv⟩
    · rw [upd_ne _ _ hu] at hx
      obtain ⟨x', h1, h2⟩ := h.slot u x hx
      exact ⟨x', by rw [Array.getElem?_setIfInBounds_ne hu]; exact h1, h2⟩

/-- The same at a world whose blocks are all there. -/
theorem Rel.world (h : Rel w0 n R S a w) {w' : World} (hb : Below w.heap.size w w') : Rel w0 n R S a w' := by
  refine ⟨h.defers, h.below.trans hb, h.size, h.slot, h.func, h.inj, ?_, h.dom, h.anc⟩
  intro i blk hi
  obtain ⟨b, cs, fz, h1, h2, h3, h4⟩ := h.mem i blk hi
  refine ⟨b, cs, fz, h1, ?_, h3, h4⟩
  rw [hb.block b ?_]; exact h2
  rcases Nat.lt_or_ge b w.heap.size with hlt | hge
  · exact hlt
  · rw [Array.getElem?_eq_none hge] at h2; simp at h2

theorem Rel.alloc (h : Rel w0 n R S a w) {id : Nat} (hid : S.fm id = none) (hsm : id < 1000000) {cells : List Value} {cs : Array Value} {e : TypeId} (hl : LR (V0 R) cells cs.toList) :
    Rel w0 n (fun i b => R i b ∨ (i = id ∧ b = w.heap.size)) ⟨S.fs, upd S.fm id ⟨cells, e, true⟩⟩ a (w.alloc (.cells cs e)) := by
  have hR : ∀ b, ¬ R id b := fun b hb => by have := h.dom id b hb; rw [hid] at this; simp at this
  have hlt : ∀ i b, R i b → b < w.heap.size := by
    intro i b hb
    obtain ⟨blk, hblk⟩ := Option.isSome_iff_exists.1 (h.dom i b hb)
    obtain ⟨cs, fz, h1, _⟩ := h.block hblk hb
    rcases Nat.lt_or_ge b w.heap.size with hlt | hge
    · exact hlt
    · rw [Array.getElem?_eq_none hge] at h1; simp at h1
  have hsz := h.below.size
  refine ⟨h.defers, h.below.trans ⟨rfl, rfl, rfl, by simp, fun k hk => Below.heap_alloc _ _ _ hk⟩, h.size, ?_, ?_, ?_, ?_, ?_, ?_⟩
  · intro t v hv
    obtain ⟨v', h1, h2⟩ := h.slot t v hv
    exact ⟨v', h1, V2_mono (fun _ _ => .inl) h2⟩
  · rintro i b b' (h1 | ⟨rfl, rfl⟩) (h2 | ⟨h3, rfl⟩)
    · exact h.func _ _ _ h1 h2
    · subst h3; exact absurd h1 (hR _)
    · exact absurd h2 (hR _)
    · rfl
  · rintro i j b (h1 | ⟨rfl, rfl⟩) (h2 | ⟨rfl, h3⟩) hne blk hblk
    · by_cases e1 : id = i
      · subst e1; exact absurd h1 (hR _)
      · simp only [upd_ne _ _ e1] at hblk
        exact h.inj _ _ _ h1 h2 hne blk hblk
    · have := hlt _ _ h1; omega
    · have := hlt _ _ h2; omega
    · exact absurd rfl hne
  · intro i blk hi
    by_cases e1 : id = i
    · subst e1
      simp only [upd_same, Option.some.injEq] at hi
      subst hi
      refine ⟨w.heap.size, cs, (0, 0), .inr ⟨rfl, rfl⟩, ?_, LP_of (LR_mono (fun _ _ => V0_mono fun _ _ => .inl) hl), fun _ => ⟨rfl, .inr hsz⟩⟩
      show (w.heap.push _)[w.heap.size]? = _
      simp
    · simp only [upd_ne _ _ e1] at hi
      obtain ⟨b, cs', fz, h1, h2, h3, h4⟩ := h.mem i blk hi
      refine ⟨b, cs', fz, .inl h1, ?_, LR_mono (fun _ _ => V0_mono fun _ _ => .inl) h3, h4⟩
      rw [Below.heap_alloc _ _ _ (hlt _ _ h1)]; exact h2
  · rintro i b (h1 | ⟨rfl, rfl⟩)
    · by_cases e1 : id = i
      · subst e1; simp [upd_same]
      · simp only [upd_ne _ _ e1]; exact h.dom _ _ h1
    · simp [upd_same]
  · rintro i b (h1 | ⟨rfl, rfl⟩) hge
    · exact h.anc _ _ h1 hge
    · omega

def setBlk (w : World) (b : Nat) (o : Obj) : World := { w with heap := w.heap.setIfInBounds b o }

theorem setBlk_twice (w : World) (b : Nat) (o o' : Obj) : setBlk (setBlk w b o) b o' = setBlk w b o' := by
  simp [setBlk, Array.setIfInBounds_setIfInBounds]

theorem setBlk_same {w : World} {b : Nat} {o : Obj} (h : b < w.heap.size) : (setBlk w b o).heap[b]? = some o := by simp [setBlk, h]

theorem setCell_blk {w : World} {b : Nat} {cs : Array Value} {e : TypeId} {fz : Nat × Nat} (h : w.heap[b]? = some (.cells cs e fz)) (off : Nat) (v : Value) :
    w.setCell ⟨b, off, none⟩ v = setBlk w b (.cells (cs.setIfInBounds off v) e fz) := by
  have hlt : b < w.heap.size := by
    rcases Nat.lt_or_ge b w.heap.size with hlt | hge
    · exact hlt
    · rw [Array.getElem?_eq_none hge] at h; simp at h
  unfold World.setCell setBlk
  congr 1
  apply Array.ext
  · simp
  · intro i h1 h2
    simp only [Array.getElem_modify]
    by_cases hi : b = i
    · subst hi
      rw [Array.getElem?_eq_getElem hlt] at h
      have hh := Option.some.inj h
      simp [hh]
    · rw [if_neg hi, Array.getElem_setIfInBounds_ne (h := hi)]

theorem run_storeCells {e : TypeId} {b off : Nat} : ∀ (vs : List Value) (j : Nat) (w : World) (cs : Array Value), w.heap[b]? = some (.cells cs e (0, 0)) → off + j + vs.length ≤ cs.size →
    (∀ v ∈ vs, (∀ x, v ≠ .agg x) ∧ (∀ x, v ≠ .tuple x)) →
    (storeCells ⟨b, off, none⟩ vs j).run P w = .ok () (setBlk w b (.cells (cs.toList.take (off + j) ++ vs ++ cs.toList.drop (off + j + vs.length)).toArray e (0, 0)))
  | [], j, w, cs, h, hl, hv => by
    have hlt : b < w.heap.size := by
      rcases Nat.lt_or_ge b w.heap.size with hlt | hge
      · exact hlt
      · rw [Array.getElem?_eq_none hge] at h; simp at h
    have : setBlk w b (.cells cs e (0, 0)) = w := by
      unfold setBlk
      have : w.heap.setIfInBounds b (.cells cs e (0, 0)) = w.heap := by
        apply Array.ext
        · simp
        · intro i h1 h2
          by_cases hi : b = i
          · subst hi; rw [Array.getElem?_eq_getElem hlt] at h; simp [Option.some.inj h]
          · rw [Array.getElem_setIfInBounds_ne (h := hi)]
      rw [this]
    simp [storeCells, this]
  | v :: vs, j, w, cs, h, hl, hv => by
    simp only [List.length_cons] at hl
    have hlt : b < w.heap.size := by
      rcases Nat.lt_or_ge b w.heap.size with hlt | hge
      · exact hlt
      · rw [Array.getElem?_eq_none hge] at h; simp at h
    have hlc : off + j < cs.toList.length := by simp; omega
    have hc : w.cell? ⟨b, off + j, none⟩ = some cs.toList[off + j] := by
      rw [cell_at h, ← Array.getElem?_toList, List.getElem?_eq_getElem hlc]
    have hf : w.frozen? ⟨b, off + j, none⟩ = false := by simp [World.frozen?, h]
    have h1 := (hv v (by simp)).1
    have h2 := (hv v (by simp)).2
    have hst : (store (⟨b, off + j, none⟩ : Addr) v).run P w = .ok () (w.setCell ⟨b, off + j, none⟩ v) := by
      unfold store
      cases v <;> first | exact absurd rfl (h1 _) | exact absurd rfl (h2 _) | simp [Sem.run, hc, hf]
    simp only [storeCells, Sem.run_bind, addr_add, hst, Result.andThen_ok]
    rw [setCell_blk h, run_storeCells vs (j + 1) _ (cs.setIfInBounds (off + j) v) (setBlk_same hlt) (by simp; omega) (fun u hu => hv u (by simp [hu])), setBlk_twice]
    congr 4
    simp only [Array.toList_setIfInBounds]
    rw [List.drop_set, if_pos (by omega), show off + (j + 1) = (off + j) + 1 from by omega, List.take_set, List.take_succ_eq_append_getElem hlc,
      List.set_append_right _ _ (by simp only [List.length_take]; omega)]
    simp only [List.length_take, List.append_assoc, List.length_cons]
    rw [show off + j - min (off + j) cs.toList.length = 0 from by omega]
    simp only [List.set_cons_zero, List.cons_append, List.nil_append]
    rw [show off + j + 1 + vs.length = off + j + (vs.length + 1) from by omega]

theorem LR_one {l l' : List Value} (h : LR (V0 R) l l') : ∀ v ∈ l', (∀ x, v ≠ .agg x) ∧ (∀ x, v ≠ .tuple x) := by
  induction l generalizing l' with
  | nil => cases l' with
    | nil => simp
    | cons _ _ => exact h.elim
  | cons a l ih => cases l' with
    | nil => exact h.elim
    | cons b l' =>
      intro v hv
      rcases List.mem_cons.1 hv with rfl | hv
      · exact V0_one h.1
      · exact ih h.2 v hv

theorem Rel.write (h : Rel w0 n R S a w) {i b : Nat} {blk : Blk} (hi : S.fm i = some blk) (hb : R i b) (hown : blk.own = true) {cells : List Value} {cs : Array Value} (hl : LP R cells cs) :
    Rel w0 n R ⟨S.fs, upd S.fm i ⟨cells, blk.elem, true⟩⟩ a (setBlk w b (.cells cs blk.elem (0, 0))) := by
  obtain ⟨cs0, fz, h1, h2, h3⟩ := h.block hi hb
  obtain ⟨_, hge⟩ := h3 hown
  have hlt : b < w.heap.size := by
    rcases Nat.lt_or_ge b w.heap.size with hlt | hge
    · exact hlt
    · rw [Array.getElem?_eq_none hge] at h1; simp at h1
  refine ⟨h.defers, ⟨h.below.os, h.below.tape, h.below.output, by simpa [setBlk] using h.below.size, fun k hk hx => ?_⟩, h.size, h.slot, h.func, ?_, ?_, ?_, h.anc⟩
  · have hkb : b ≠ k := by
      rintro rfl
      rcases hge with h5 | h5
      · exact hx h5
      · omega
    simp only [setBlk]; rw [Array.getElem?_setIfInBounds_ne hkb]; exact h.below.block k hk hx
  · intro i0 j0 b0 h5 h6 hne blk0 hblk0
    by_cases e1 : i = i0
    · subst e1
      have := h.inj _ _ _ h5 h6 hne blk hi
      rw [hown] at this; simp at this
    · simp only [upd_ne _ _ e1] at hblk0
      exact h.inj _ _ _ h5 h6 hne blk0 hblk0
  · intro j blk' hj
    by_cases e1 : i = j
    · subst e1
      simp only [upd_same, Option.some.injEq] at hj
      subst hj
      exact ⟨b, cs, (0, 0), hb, setBlk_same hlt, hl, fun _ => ⟨rfl, hge⟩⟩
    · simp only [upd_ne _ _ e1] at hj
      obtain ⟨b', cs', fz', k1, k2, k3, k4⟩ := h.mem j blk' hj
      have hne : b ≠ b' := fun e => by
        subst e
        have := h.inj _ _ _ hb k1 e1 blk hi
        rw [hown] at this; simp at this
      exact ⟨b', cs', fz', k1, by simp only [setBlk]; rw [Array.getElem?_setIfInBounds_ne hne]; exact k2, k3, k4⟩
  · intro j b' hj
    by_cases e1 : i = j
    · subst e1; simp [upd_same]
    · simp only [upd_ne _ _ e1]; exact h.dom _ _ hj

theorem evs_run (h : Rel w0 n R S a w) {β : Type} : ∀ (xs : List Operand) {k : List Value → Option β} {r : β}, evsK (evF S.fs) xs k none = some r →
    ∃ vs, k vs = some r ∧ LR (V2 R) vs (xs.map a.eval)
  | [], k, r, hr => ⟨[], hr, trivial⟩
  | x :: xs, k, r, hr => by
    simp only [evsK, oK_some] at hr
    obtain ⟨v, hv, hr⟩ := hr
    obtain ⟨vs, h1, h2⟩ := evs_run h xs hr
    exact ⟨v :: vs, h1, h.ev hv, h2⟩

theorem V2_undef : V2 R undef undef := ⟨_, rfl, trivial⟩

theorem store_res {b off : Nat} {blk : Blk} {i : TInf} {v : Value} {r : Res} (hr : storeK b off blk i v some none = some r) : blk.own = true ∧ notTup v = true ∧ v.cells.toList.length = i.siz ∧ off + i.siz ≤ blk.cells.length ∧
    r = ⟨undef, none, some (b, ⟨blk.cells.take off ++ v.cells.toList ++ blk.cells.drop (off + i.siz), blk.elem, true⟩), [b]⟩ := by
  unfold storeK at hr
  simp only [cond_some, Bool.and_eq_true] at hr
  obtain ⟨⟨⟨⟨h1, h2⟩, h3⟩, h4⟩, hr⟩ := hr
  have h3 := nbeq.1 h3
  have h4 := Nat.le_of_ble_eq_true h4
  refine ⟨h1, h2, h3, h4, ?_⟩
  cases hs : Nat.beq i.siz 1 with
  | false => simp only [hs, cond_false] at hr; exact (Option.some.inj hr).symm
  | true =>
    simp only [hs, cond_true, oK_some] at hr
    obtain ⟨c, hc, hr⟩ := hr
    have hs := nbeq.1 hs
    have : v.cells.toList = [c] := by
      rw [hs] at h3
      match hx : v.cells.toList, h3, hc with
      | [x], _, hc => simpa using hc
    rw [← Option.some.inj hr, this, hs]
    rw [List.set_eq_take_append_cons_drop, if_pos (by omega)]
    simp

/-- One operation. -/
theorem op_sound (hT : TabOk P T) (hG : SumsOk P G) (h : Rel w0 n R S a w) {o : Oper} {id : Nat} (hd : ∀ t, o.dst = some t → t < n) {r : Res}
    (hr : opS T G id o.op (evF S.fs) S.fm = some r) {K : Act → World → Prop} {Q : Exit → Act → World → Prop} (hK : ∀ R' a' w', Rel w0 n R' (S.apply o.dst id r) a' w' → K a' w') : o.wp P a w K Q := by
  have quiet : PR P R a w o r → o.wp P a w K Q := by
    rintro ⟨h1, h2, v', h3, h4⟩
    unfold Oper.wp
    rw [h3]
    refine hK R _ _ ?_
    have := h.put hd h4
    simpa [FS.apply, h1, h2, memF] using this
  cases ho : o.op with
  | alloc t =>
    rw [ho] at hr; simp only [opS, opK, oK_some, cond_some, Bool.and_eq_true] at hr
    obtain ⟨i, hi, ⟨⟨⟨ht, hp⟩, hid⟩, hsm⟩, hr⟩ := hr
    have hsm := Eq.mp Nat.blt_eq hsm
    have hid := Option.isNone_iff_eq_none.1 hid
    cases hr
    unfold Oper.wp
    have : (execOp a.eval o).run P w = .ok (.value (.pointer (some ⟨w.heap.size, 0, none⟩))) (w.alloc (.cells i.zer.cells t)) := by
      simp [execOp, ho, Instr.alloc, run_zero hT hi, newVar, newRow, newObj, Sem.run]
    rw [this]
    refine hK (fun i b => R i b ∨ (i = id ∧ b = w.heap.size)) _ _ ?_
    exact (h.alloc hid hsm (plain_cells hp ht)).put hd ⟨_, .inr ⟨rfl, rfl⟩, rfl⟩
  | box t x =>
    rw [ho] at hr; simp only [opS, opK, oK_some, cond_some, Bool.and_eq_true] at hr
    obtain ⟨v, hv, ⟨⟨ht, hid⟩, hsm⟩, hr⟩ := hr
    have hsm := Eq.mp Nat.blt_eq hsm
    have hid := Option.isNone_iff_eq_none.1 hid
    cases hr
    unfold Oper.wp
    have : (execOp a.eval o).run P w = .ok (.value (.pointer (some ⟨w.heap.size, 0, none⟩))) (w.alloc (.cells (a.eval x).cells t)) := by
      simp [execOp, ho, Instr.box, newVar, newRow, newObj, Sem.run]
    rw [this]
    refine hK (fun i b => R i b ∨ (i = id ∧ b = w.heap.size)) _ _ ?_
    exact (h.alloc hid hsm (V2_cells (h.ev hv) (notTup_ne ht))).put hd ⟨_, .inr ⟨rfl, rfl⟩, rfl⟩
  | store t x y =>
    rw [ho] at hr; simp only [opS, opK, oK_some, ptrK_some] at hr
    obtain ⟨va, hva, v, hv, b, off, rfl, blk, hb, i, hi, hr⟩ := hr
    obtain ⟨b', hb', hev⟩ := V2_ptr (h.ev hva)
    obtain ⟨hown, ht, hlen, hle, rfl⟩ := store_res hr
    obtain ⟨cs, fz, h1, h2, h3⟩ := h.block hb hb'
    obtain ⟨rfl, hge⟩ := h3 hown
    have hc := V2_cells (h.ev hv) (notTup_ne ht)
    have l1 := LR_len hc
    have l2 := LP_le h2
    have hsz : (a.eval y).cells.size = i.siz := by rw [← Array.length_toList, ← l1, hlen]
    unfold Oper.wp
    have : (execOp a.eval o).run P w = .ok .skip (setBlk w b' (.cells (cs.toList.take off ++ (a.eval y).cells.toList ++ cs.toList.drop (off + i.siz)).toArray blk.elem (0, 0))) := by
      simp only [execOp, ho, hev, Instr.storeAt, Instr.sureAddr, storeVar, Sem.run_bind, Sem.run_pure, Result.andThen_ok, run_size hT hi, hsz, ne_eq, not_true_eq_false, if_false]
      rw [run_storeCells _ 0 w cs h1 (by simp [hsz]; omega) (LR_one hc)]
      simp [hsz]
    rw [this]
    refine hK R _ _ ?_
    have hst := LP_set h2 hc (off := off) (by rw [hlen]; exact hle)
    rw [hlen] at hst
    exact (h.write hb hb' hown hst).put hd V2_undef
  | call c =>
    rw [ho] at hr; simp only [opS, opK, callK] at hr
    split at hr
    · rename_i g hc
      obtain ⟨vs, hr, hl⟩ := evs_run h _ hr
      obtain ⟨ent, hent, hr⟩ := oK_some.1 hr
      have hsum := hG g ent hent
      have hex : execOp a.eval o = callFunc g (c.args.map a.eval) := by
        obtain ⟨cal, args, ats⟩ := c
        simp only at hc
        subst hc
        unfold execOp; simp [ho, resolve, Deferred.ofValue, invoke, Act.eval]
      have fin0 : ∀ (vs' : List Value) (Ψ : Value → World → Prop), c.args.map a.eval = vs'.toArray → Invokes P g vs'.toArray w Ψ → (∀ v' w', Ψ v' w' → K (a.put o.dst v') w') → o.wp P a w K Q := by
        intro vs' Ψ hargs' hinv fin
        unfold Oper.wp
        rw [hex, hargs']
        unfold Invokes at hinv
        split at hinv
        · rename_i hrun; rw [hrun]; exact fin _ _ hinv
        · rename_i hrun
          rw [hrun]
          refine Calls.mono hinv fun e w'' he => ?_
          cases e with
          | returned v => exact fin _ _ he
          | panicked c => exact he.elim
          | outgrown => exact he.elim
        · exact hinv.elim
      cases ent with
      | pl F =>
        simp only [entK, cond_some, oK_some] at hr
        obtain ⟨hp, ⟨q, v⟩, hv, hq, hpv, hr⟩ := hr
        simp only at hq hpv
        subst hq
        cases hr
        have hargs := (LR_plain (fun v v' hv => V2_plain hv) hp).1 hl
        have hinv := hsum vs v hv hp w
        refine fin0 vs _ (by apply Array.ext'; simp [← hargs]) hinv ?_
        rintro v' w' ⟨rfl, hb⟩
        exact hK R _ _ ((h.world hb).put hd ((V2_plain hpv).2 rfl))
      | me F =>
        simp only [entK, cond_some, oK_some, Bool.and_eq_true] at hr
        obtain ⟨⟨q, v, new, wr⟩, hv, ⟨⟨⟨hq, hid⟩, hsm⟩, hnw⟩, hr⟩ := hr
        have hid := Option.isNone_iff_eq_none.1 hid
        have hsm := Eq.mp Nat.blt_eq hsm
        have hnw2 : new = none ∨ wr = none := by
          rcases Bool.or_eq_true_iff.1 hnw with e | e
          · exact .inl (Option.isNone_iff_eq_none.1 e)
          · exact .inr (Option.isNone_iff_eq_none.1 e)
        simp only at hq
        subst hq
        cases hr
        have hinv := hsum w0 R S.fm w h.toM vs _ hl _ (fun b blk hb => by unfold restr at hb; exact (cond_some.1 hb).2) (id + 500000) hid (by omega) (by omega) v new wr hv hnw2
        refine fin0 (c.args.toList.map a.eval) _ (by apply Array.ext'; simp) hinv ?_
        rintro v' w' ⟨R', hmono, hvv, hm⟩
        have hme : memF S.fm (id + 500000) new wr = memF S.fm id none (newWr (id + 500000) new wr) := by
          rcases hnw2 with rfl | rfl
          · rfl
          · cases new <;> rfl
        rw [hme] at hm
        have hr1 : Rel w0 n R' ⟨S.fs, memF S.fm id none (newWr (id + 500000) new wr)⟩ a w' := hm.toR (S := ⟨S.fs, memF S.fm id none (newWr (id + 500000) new wr)⟩) h.defers h.size fun t u hu => by
          obtain ⟨u', h1, h2⟩ := h.slot t u hu
          exact ⟨u', h1, V2_mono hmono h2⟩
        exact hK R' _ _ (hr1.put hd hvv)
    · rename_i hc
      obtain ⟨vs, hr, hl⟩ := evs_run h _ hr
      simp only [twoK_some] at hr
      obtain ⟨d, s, t, l, rfl, hts, hr⟩ := hr
      unfold copyK at hr
      simp only [sliceK_some, oK_some] at hr
      obtain ⟨b, off, m, c1, rfl, b', off', m', c2, rfl, blk, hb, blk', hb', i, hi, hr⟩ := hr
      obtain ⟨dd, hd1, hd2, _⟩ := und_some hT hi
      obtain ⟨hst, ⟨_, _, _, h3⟩ | ⟨e, hu, h3⟩ | ⟨_, _, h3⟩ | ⟨_, h3⟩ | ⟨_, h3⟩⟩ := descK_some hr <;> first | (simp at h3; done) | skip
      have := hd2 hst; subst this; rw [hu] at hd1
      simp only [oK_some, cond_some, Bool.and_eq_true] at h3
      obtain ⟨j, hj, ⟨⟨⟨hown, hs⟩, k1⟩, k2⟩, h3⟩ := h3
      have hs := nbeq.1 hs
      have k1 := Nat.le_of_ble_eq_true k1
      have k2 := Nat.le_of_ble_eq_true k2
      cases h3
      -- the two arguments
      obtain ⟨x0, x1, hxs⟩ : ∃ x0 x1, c.args.toList = [x0, x1] := by
        have := LR_len hl
        simp at this
        match hx : c.args.toList with
        | [x0, x1] => exact ⟨x0, x1, rfl⟩
        | [] => rw [← Array.length_toList, hx] at this; simp at this
        | [_] => rw [← Array.length_toList, hx] at this; simp at this
        | _ :: _ :: _ :: _ => rw [← Array.length_toList, hx] at this; simp at this
      rw [hxs] at hl
      simp only [List.map_cons, List.map_nil, LR, and_true] at hl
      obtain ⟨g, d1, hg, _, e0⟩ := V2_slice hl.1
      obtain ⟨g', d2, hg', _, e1⟩ := V2_slice hl.2
      obtain ⟨cs, fz, h1, h2, h3⟩ := h.block hb hg
      obtain ⟨rfl, hge⟩ := h3 hown
      obtain ⟨cs', fz', h1', h2', _⟩ := h.block hb' hg'
      have l1 := LP_le h2
      have l2 := LP_le h2'
      have hargs : c.args.map a.eval = #[.slice (some ⟨g, off, none⟩) m d1, .slice (some ⟨g', off', none⟩) m' d2] := by
        apply Array.ext'
        simp [hxs, e0, e1]
      have hat : c.argTypes[0]? = some t := by rw [← Array.getElem?_toList, hts]; rfl
      have hlr : LR (V0 R) ((blk'.cells.drop off').take (min m' m)) ((cs'.toList.drop off').take (min m' m)) := LP_part h2' k2
      have hln : ((cs'.toList.drop off').take (min m' m)).length = min m' m := by simp; omega
      unfold Oper.wp
      have : (execOp a.eval o).run P w = .ok (.value (.int .i64 ((min m' m : Nat) : Int))) (setBlk w g (.cells (cs.toList.take off ++ (cs'.toList.drop off').take (min m' m) ++ cs.toList.drop (off + min m' m)).toArray blk.elem (0, 0))) := by
        have hlc : (loadCells ⟨g', off', none⟩ (min m' m * 1)).run P w = .ok ((cs'.toList.drop off').take (min m' m)).toArray w := by
          unfold loadCells
          rw [run_loadCells h1' off' _ 0 #[] (by omega)]
          simp
        have hsc := run_storeCells (P := P) (e := blk.elem) (b := g) (off := off) ((cs'.toList.drop off').take (min m' m)) 0 w cs h1 (by rw [hln]; omega) (LR_one hlr)
        rw [hln] at hsc
        simp only [Nat.add_zero] at hsc
        simp only [execOp, ho, resolve, hc, Sem.run_bind, Sem.run_pure, Result.andThen_ok, invoke, builtin, Builtin.copy_, hargs, hat, run_underlying hd1, Builtin.lenOf, run_size hT hj, hs, Builtin.firstCells,
          List.getElem?_toArray, List.getElem?_cons_zero, List.getElem?_cons_succ, Nat.min_def, goInt]
        simp only [← Nat.min_def]
        rw [hlc]
        simp only [Result.andThen_ok, hsc]
      rw [this]
      refine hK R _ _ ?_
      have hln2 : ((blk'.cells.drop off').take (min m' m)).length = min m' m := by simp; omega
      have hst := LP_set h2 hlr (off := off) (by rw [hln2]; exact k1)
      rw [hln2] at hst
      exact (h.write hb hg hown hst).put hd ((V2_plain rfl).2 rfl)
    · rename_i hc
      obtain ⟨vs, hr, hl⟩ := evs_run h _ hr
      simp only [oneLK_some] at hr
      obtain ⟨v, t, l, rfl, hts, hr⟩ := hr
      unfold lenK at hr
      obtain ⟨i, hi, hr⟩ := oK_some.1 hr
      obtain ⟨dd, hd1, hd2, _⟩ := und_some hT hi
      obtain ⟨x0, hxs⟩ : ∃ x0, c.args.toList = [x0] := by
        have := LR_len hl
        simp at this
        match hx : c.args.toList with
        | [x0] => exact ⟨x0, rfl⟩
        | [] => rw [← Array.length_toList, hx] at this; simp at this
        | _ :: _ :: _ => rw [← Array.length_toList, hx] at this; simp at this
      rw [hxs] at hl
      simp only [List.map_cons, List.map_nil, LR, and_true] at hl
      have hargs : c.args.map a.eval = #[a.eval x0] := by
        apply Array.ext'
        simp [hxs]
      have hat : c.argTypes[0]? = some t := by rw [← Array.getElem?_toList, hts]; rfl
      have fin : ∀ m : Nat, r = val (.int .i64 ((m : Nat) : Int)) → (Builtin.len_ c.argTypes 0 #[a.eval x0]).run P w = .ok (goInt m) w → o.wp P a w K Q := by
        rintro m rfl hrun
        unfold Oper.wp
        have : (execOp a.eval o).run P w = .ok (.value (.int .i64 ((m : Nat) : Int))) w := by
          unfold Builtin.len_ at hrun
          simp only [execOp, ho, resolve, hc, Sem.run_bind, Sem.run_pure, Result.andThen_ok, invoke, builtin, hargs]
          unfold Builtin.len_
          rw [hrun]; rfl
        rw [this]
        refine hK R _ _ ?_
        have := h.put hd ((V2_plain (R := R) (v := .int .i64 ((m : Nat) : Int)) rfl).2 rfl)
        simpa [FS.apply, val, memF] using this
      obtain ⟨hst, ⟨n', e, hu, h3⟩ | ⟨e, hu, h3⟩ | ⟨_, _, h3⟩ | ⟨_, h3⟩ | ⟨hu, h3⟩⟩ := descK_some hr <;> first | (simp at h3; done) | skip
      · have := hd2 hst; subst this; rw [hu] at hd1
        refine fin n' (Option.some.inj h3).symm ?_
        simp [Builtin.len_, hat, run_underlying hd1]
      · have := hd2 hst; subst this; rw [hu] at hd1
        obtain ⟨ad, m, c', rfl, h4⟩ := slLenK_some.1 h3
        refine fin m (Option.some.inj h4).symm ?_
        have hx : ∃ ad' c2, a.eval x0 = .slice ad' m c2 := by
          cases ad with
          | none => exact ⟨none, _, (V2_plain (R := R) rfl).1 hl⟩
          | some ad => obtain ⟨b, c2, _, _, e⟩ := (show V0 R (.slice (some ad) m c') (a.eval x0) from hl); exact ⟨_, _, e⟩
        obtain ⟨ad', c2, hx⟩ := hx
        simp [Builtin.len_, hat, run_underlying hd1, hx]
      · have := hd2 hst; subst this; rw [hu] at hd1
        obtain ⟨s, rfl, h4⟩ := strK_some.1 h3
        refine fin s.size (Option.some.inj h4).symm ?_
        simp [Builtin.len_, hat, run_underlying hd1, V2_string hl]
    · rename_i hc
      obtain ⟨vs, hr, hl⟩ := evs_run h _ hr
      obtain ⟨kd, x, k2, y, rfl, hr⟩ := two2K_some.1 hr
      cases hr
      have hp := (LR_plain (r := V2 R) (pl := pl2) (fun v v' hv => V2_plain hv) (l := [.int kd x, .int k2 y]) rfl).1 hl
      have hargs : c.args.map a.eval = #[.int kd x, .int k2 y] := by
        apply Array.ext'
        simpa using hp
      unfold Oper.wp
      have : (execOp a.eval o).run P w = .ok (.value (.int kd (if y > x then y else x))) w := by
        simp only [execOp, ho, resolve, hc, Sem.run_bind, Sem.run_pure, Result.andThen_ok, invoke, builtin, Builtin.max_, hargs, List.foldlM_cons, List.foldlM_nil, Builtin.max2]
      rw [this]
      refine hK R _ _ ?_
      have := h.put hd ((V2_plain (R := R) (v := .int kd (if y > x then y else x)) rfl).2 rfl)
      simpa [FS.apply, val, memF] using this
    · rename_i hc
      obtain ⟨vs, hr, hl⟩ := evs_run h _ hr
      obtain ⟨kd, x, k2, y, rfl, hr⟩ := two2K_some.1 hr
      cases hr
      have hp := (LR_plain (r := V2 R) (pl := pl2) (fun v v' hv => V2_plain hv) (l := [.int kd x, .int k2 y]) rfl).1 hl
      have hargs : c.args.map a.eval = #[.int kd x, .int k2 y] := by
        apply Array.ext'
        simpa using hp
      unfold Oper.wp
      have : (execOp a.eval o).run P w = .ok (.value (.int kd (if y < x then y else x))) w := by
        simp only [execOp, ho, resolve, hc, Sem.run_bind, Sem.run_pure, Result.andThen_ok, invoke, builtin, Builtin.min_, hargs, List.foldlM_cons, List.foldlM_nil, Builtin.min2]
      rw [this]
      refine hK R _ _ ?_
      have := h.put hd ((V2_plain (R := R) (v := .int kd (if y < x then y else x)) rfl).2 rfl)
      simpa [FS.apply, val, memF] using this
    · simp at hr
  | buildSlice t len ps =>
    rw [ho] at hr; simp only [opS, opK, oK_some] at hr
    obtain ⟨i, hi, hr⟩ := hr
    obtain ⟨vs, hr, h1, h2⟩ := parts_run h _ hr
    obtain ⟨dd, hd1, hd2, _⟩ := und_some hT hi
    obtain ⟨hst, ⟨_, _, _, h3⟩ | ⟨e, hu, h3⟩ | ⟨_, _, h3⟩ | ⟨_, h3⟩ | ⟨_, h3⟩⟩ := descK_some hr <;> first | (simp at h3; done) | skip
    have := hd2 hst; subst this; rw [hu] at hd1
    simp only [oK_some, cond_some, Bool.and_eq_true, Bool.not_eq_true'] at h3
    obtain ⟨j, hj, ⟨⟨⟨⟨⟨⟨⟨ht, hp⟩, hsz⟩, hs0⟩, hl0⟩, hle⟩, hid⟩, hsm⟩, h3⟩ := h3
    have hsm := Eq.mp Nat.blt_eq hsm
    have hid := Option.isNone_iff_eq_none.1 hid
    have hsz := nbeq.1 hsz
    have hle := Nat.le_of_ble_eq_true hle
    have hs0 : j.siz ≠ 0 := fun e => by rw [e] at hs0; simp at hs0
    have hl0 : len ≠ 0 := fun e => by rw [e] at hl0; simp at hl0
    have h1' : vs.map (·.1) = (ps.toList.map fun p => (p.1, a.eval p.2)).map (·.1) := by rw [h1]; simp
    have h2' : LR (V2 R) (vs.map (·.2)) ((ps.toList.map fun p => (p.1, a.eval p.2)).map (·.2)) := by rw [List.map_map]; exact h2
    have hparts : (ps.map fun (i, x) => (i, a.eval x)).toList = ps.toList.map fun p => (p.1, a.eval p.2) := by simp
    have hz : j.zer.cells.size = j.siz := by rw [← Array.length_toList]; exact hsz
    obtain ⟨cs, cs', h4, h5, h6⟩ := fill_run (place' := fun m => some (m * j.siz, j.siz)) (fun _ _ h => h) vs _ h1' h2' _ (repL len j.zer.cells.toList).toArray (by rw [List.toList_toArray]; exact LR_rep (plain_cells hp ht) len) h3
    cases h4
    unfold Oper.wp
    have : (execOp a.eval o).run P w = .ok (.value (.slice (some ⟨w.heap.size, 0, none⟩) len len)) (w.alloc (.cells cs' e)) := by
      have hne : len * j.siz ≠ 0 := Nat.mul_ne_zero hl0 hs0
      have hr0 := repL_range (z := j.zer.cells) (n := len) (by rw [hz]; exact hs0)
      rw [hz] at hr0
      simp only [execOp, ho, Instr.buildSlice, Sem.run_bind, run_underlying hd1, Result.andThen_ok, run_size hT hj, hparts]
      rw [if_neg (by omega)]
      simp only [Sem.run_pure, Result.andThen_ok, if_neg hne, Sem.run_bind, run_zero hT hj, hz, hr0, h5, newRow, newObj]
      simp [Sem.run]
    rw [this]
    refine hK (fun i b => R i b ∨ (i = id ∧ b = w.heap.size)) _ _ ?_
    exact (h.alloc hid hsm h6).put hd ⟨_, _, .inr ⟨rfl, rfl⟩, capOk_refl _ _, rfl⟩
  | _ => exact quiet (sound_quiet hT h hr (by simp [ho]) (by simp [ho]) (by simp [ho]) (by simp [ho]) (by simp [ho]))

end
end Go.W

/-
  The engine, part 8: regions: in the order of the text; and in whatever order, where what may clash is ordered.
-/
namespace Go.W
open Go.RowKit (Below)

structure Rec where
  o : Oper
  id : Nat
  r : Res

def opTmps : List Operand → List Nat
  | [] => []
  | .tmp t :: r => t :: opTmps r
  | _ :: r => opTmps r

theorem opTmps_mem {t : Nat} {l : List Operand} (h : .tmp t ∈ l) : t ∈ opTmps l := by
  induction l with
  | nil => simp at h
  | cons x l ih =>
    rcases List.mem_cons.1 h with rfl | h'
    · simp [opTmps]
    · cases x <;> simp [opTmps, ih h']

def gslot (ops : Array Oper) (o : Oper) : Option Nat := o.guard.bind fun g => (ops[g.1]?).bind (·.dst)

def looks (ops : Array Oper) (o : Oper) : List Nat := opTmps o.op.operands.toList ++ (gslot ops o).toList

def wrs (c : Rec) : List Nat := (match c.r.new with | some _ => [c.id] | none => []) ++ (match c.r.wr with | some p => [p.1] | none => [])

def dstIn (d : Option Nat) (l : List Nat) : Bool :=
  match d with
  | some t => nmem t l
  | none => false

def meets (l m : List Nat) : Bool :=
  match l with
  | [] => false
  | x :: l => nmem x m || meets l m

theorem meets_false {l m : List Nat} (h : meets l m = false) : ∀ x ∈ l, x ∉ m := by
  induction l with
  | nil => simp
  | cons y l ih =>
    simp only [meets, Bool.or_eq_false_iff] at h
    intro x hx
    rcases List.mem_cons.1 hx with rfl | hx
    · intro hm; rw [nmem_iff.2 hm] at h; simp at h
    · exact ih h.2 x hx

/-- The two may not change places. -/
def clash (ops : Array Oper) (x y : Rec) : Bool :=
  dstIn x.o.dst (looks ops y.o) || dstIn x.o.dst y.o.dst.toList || dstIn y.o.dst (looks ops x.o) ||
  meets (wrs x) y.r.rd || meets (wrs x) (wrs y) || meets (wrs y) x.r.rd

/-- What a slot holds whose operation was passed over. -/
def isTup (v : Value) : Bool :=
  match v with
  | .tuple _ => true
  | _ => false

section
variable (T : Tab) (G : Sums) (ops : Array Oper)

def stepF (id : Nat) (o : Oper) (S : FS) : Option Res :=
  match o.guard with
  | none => opS T G id o.op (evF S.fs) S.fm
  | some g => oK (gslot ops o) (fun t => oK (S.fs t) (fun v => bif isTup v then some (val undef) else boolK v (fun b => bif b == g.2 then opS T G id o.op (evF S.fs) S.fm else some (val undef)) none) none) none

def RunL : List Rec → FS → FS → Prop
  | [], S, S' => S = S'
  | c :: I, S, S' => stepF T G ops c.id c.o S = some c.r ∧ RunL I (S.apply c.o.dst c.id c.r) S'

variable {T G ops}

theorem stepF_congr {id : Nat} {o : Oper} {S S' : FS} {r : Res} (h : stepF T G ops id o S = some r) (hs : ∀ t ∈ looks ops o, S'.fs t = S.fs t) (hm : ∀ b ∈ r.rd, S'.fm b = S.fm b) :
    stepF T G ops id o S' = some r := by
  have hev : ∀ x ∈ o.op.operands.toList, evF S'.fs x = evF S.fs x := by
    intro x hx
    cases x with
    | tmp t => exact hs t (List.mem_append_left _ (opTmps_mem hx))
    | _ => rfl
  have hop : ∀ r, opS T G id o.op (evF S.fs) S.fm = some r → (∀ b ∈ r.rd, S'.fm b = S.fm b) → opS T G id o.op (evF S'.fs) S'.fm = some r := by
    intro r hr hm
    rw [opS_ev hev]
    exact opS_mm hr hm
  unfold stepF at *
  split at h
  · rename_i hg; simp only [hg] at *; exact hop r h hm
  · rename_i g hg
    simp only [hg] at *
    simp only [oK_some] at h ⊢
    obtain ⟨t, ht, v, hv, h⟩ := h
    refine ⟨t, ht, v, by rw [← hv]; exact hs t (List.mem_append_right _ (by simp [ht])), ?_⟩
    cases hu : isTup v with
    | true => simp only [hu, cond_true] at h ⊢; exact h
    | false =>
      simp only [hu, cond_false, boolK_some] at h ⊢
      obtain ⟨b, hb, h⟩ := h
      refine ⟨b, hb, ?_⟩
      cases hbg : (b == g.2) with
      | true => simp only [hbg, cond_true] at h ⊢; exact hop r h hm
      | false => simp only [hbg, cond_false] at h ⊢; exact h

theorem putF_ne {f : Nat → Option Value} {d : Option Nat} {v : Value} {t : Nat} (h : ∀ u, d = some u → u ≠ t) : putF f d v t = f t := by
  cases d with
  | none => rfl
  | some u => exact upd_ne _ _ (h u rfl)

theorem memF_ne {fm : Nat → Option Blk} {c : Rec} {b : Nat} (h : b ∉ wrs c) : memF fm c.id c.r.new c.r.wr b = fm b := by
  obtain ⟨o, id, v, new, wr, rd⟩ := c
  simp only [wrs, List.mem_append, not_or] at h
  cases new <;> cases wr <;> simp only [memF] at * <;> simp at h
  · exact upd_ne _ _ (Ne.symm h)
  · exact upd_ne _ _ (Ne.symm h)
  · rw [upd_ne _ _ (Ne.symm h.2), upd_ne _ _ (Ne.symm h.1)]

theorem putF_comm {f : Nat → Option Value} {d e : Option Nat} {v u : Value} (h : ∀ t, d = some t → e ≠ some t) : putF (putF f d v) e u = putF (putF f e u) d v := by
  cases d with
  | none => rfl
  | some t =>
    cases e with
    | none => rfl
    | some s => exact upd_comm _ _ _ (fun hts => h t rfl (by rw [hts]))

theorem upd_comm' {α : Type} (f : Nat → Option α) {t u : Nat} (v x : α) (h : u ≠ t) : upd (upd f t v) u x = upd (upd f u x) t v := upd_comm f v x (Ne.symm h)

theorem memF_eq (fm : Nat → Option Blk) (c : Rec) (b : Nat) : b ∈ wrs c → ∀ fm', memF fm c.id c.r.new c.r.wr b = memF fm' c.id c.r.new c.r.wr b := by
  intro hb fm'
  obtain ⟨o, id, v, new, wr, rd⟩ := c
  simp only [wrs, List.mem_append] at hb
  cases new with
  | none => cases wr with
    | none => simp at hb
    | some p => simp at hb; subst hb; simp [memF, upd_same]
  | some nb => cases wr with
    | none => simp at hb; subst hb; simp [memF, upd_same]
    | some p =>
      simp at hb
      simp only [memF]
      by_cases hp : p.1 = b
      · subst hp; simp [upd_same]
      · rcases hb with rfl | hb
        · rw [upd_ne _ _ hp, upd_ne _ _ hp, upd_same, upd_same]
        · exact absurd hb.symm hp

theorem memF_comm {fm : Nat → Option Blk} {x y : Rec} (h : meets (wrs x) (wrs y) = false) :
    memF (memF fm x.id x.r.new x.r.wr) y.id y.r.new y.r.wr = memF (memF fm y.id y.r.new y.r.wr) x.id x.r.new x.r.wr := by
  funext b
  have hm := meets_false h
  by_cases hx : b ∈ wrs x
  · have hy := hm b hx
    rw [memF_ne hy]
    exact memF_eq _ _ _ hx _
  · rw [memF_ne hx]
    by_cases hy : b ∈ wrs y
    · exact memF_eq _ _ _ hy _
    · rw [memF_ne hy, memF_ne hy, memF_ne hx]

theorem dstIn_false {d : Option Nat} {l : List Nat} (h : dstIn d l = false) : ∀ u, d = some u → u ∉ l := by
  rintro u rfl hm
  simp only [dstIn] at h
  rw [nmem_iff.2 hm] at h
  simp at h

/-- Two that do not clash change places. -/
theorem RunL_swap {x y : Rec} {I : List Rec} {S S' : FS} (hc : clash ops x y = false) (h : RunL T G ops (x :: y :: I) S S') : RunL T G ops (y :: x :: I) S S' := by
  simp only [clash, Bool.or_eq_false_iff] at hc
  obtain ⟨⟨⟨⟨⟨c1, c2⟩, c3⟩, c4⟩, c5⟩, c6⟩ := hc
  obtain ⟨h1, h2, h3⟩ := h
  have d1 := dstIn_false c1
  have d3 := dstIn_false c3
  have m4 := meets_false c4
  have m6 := meets_false c6
  refine ⟨stepF_congr h2 (fun t ht => ?_) (fun b hb => ?_), stepF_congr h1 (fun t ht => ?_) (fun b hb => ?_), ?_⟩
  · exact (putF_ne (fun u hu e => d1 u hu (e ▸ ht))).symm
  · exact (memF_ne (fun hw => m4 b hw hb)).symm
  · exact putF_ne (fun u hu e => d3 u hu (e ▸ ht))
  · exact memF_ne (fun hw => m6 b hw hb)
  · have : (S.apply y.o.dst y.id y.r).apply x.o.dst x.id x.r = (S.apply x.o.dst x.id x.r).apply y.o.dst y.id y.r := by
      simp only [FS.apply]
      congr 1
      · refine putF_comm fun t ht e => ?_
        have := dstIn_false c2 t e
        rw [ht] at this
        simp at this
      · exact (memF_comm c5).symm
    rw [this]; exact h3

theorem RunL_front {x : Rec} : ∀ (pre : List Rec) {post : List Rec} {S S' : FS}, (∀ p ∈ pre, clash ops p x = false) → RunL T G ops (pre ++ x :: post) S S' → RunL T G ops (x :: (pre ++ post)) S S'
  | [], _, _, _, _, h => h
  | p :: pre, post, S, S', hc, h => by
    have h' : RunL T G ops (p :: x :: (pre ++ post)) S S' := ⟨h.1, RunL_front pre (fun q hq => hc q (by simp [hq])) h.2⟩
    exact RunL_swap (hc p (by simp)) h'

end

section
variable {P : Program} {T : Tab} {G : Sums} {w0 : Wb} {w : World} {n : Nat} {R : Nat → Nat → Prop} {S : FS} {a : Act} {ops : Array Oper} {Q : Exit → Act → World → Prop}

/-- One operation of a region, with its guard. -/
theorem step_sound (hT : TabOk P T) (hG : SumsOk P G) (h : Rel w0 n R S a w) {i : Nat} {o : Oper} (hi : ops[i]? = some o) {id : Nat} (hd : ∀ t, o.dst = some t → t < n) {r : Res}
    (hr : stepF T G ops id o S = some r) {K : Act → World → Prop} (hK : ∀ R' a' w', Rel w0 n R' (S.apply o.dst id r) a' w' → K a' w') : wpOp P ops Q i K a w := by
  unfold wpOp
  simp only [hi]
  unfold stepF at hr
  split at hr
  · rename_i hg
    have : Region.wanted o (yielded ops a.tmps) = true := by simp [Region.wanted, hg]
    rw [if_pos this]
    exact .inl (op_sound hT hG h hd hr hK)
  · rename_i g hg
    simp only [oK_some] at hr
    obtain ⟨t, ht, v, hv, hr⟩ := hr
    obtain ⟨v', h1, h2⟩ := h.slot t _ hv
    cases hu : isTup v with
    | true =>
      simp only [hu, cond_true] at hr
      cases hr
      have hw : Region.wanted o (yielded ops a.tmps) = false := by
        obtain ⟨j, want⟩ := g
        simp only [gslot, hg, Option.bind_some] at ht
        unfold isTup at hu
        split at hu
        · obtain ⟨cs', rfl, _⟩ := V2_tuple h2
          simp [Region.wanted, hg, yielded, ht, h1]
        · simp at hu
      rw [hw]
      exact hK R _ _ (h.put hd V2_undef)
    | false =>
    simp only [hu, cond_false, boolK_some] at hr
    obtain ⟨b, rfl, hr⟩ := hr
    have := V2_bool h2; subst this
    have hy : yielded ops a.tmps g.1 = some b := by
      simp only [gslot, hg, Option.bind_some] at ht
      simp [yielded, ht, h1]
    have hw : Region.wanted o (yielded ops a.tmps) = (b == g.2) := by
      obtain ⟨j, want⟩ := g
      simp only [Region.wanted, hg] at *
      rw [hy]
      cases b <;> cases want <;> rfl
    rw [hw]
    cases hbg : (b == g.2) with
    | true =>
      simp only [hbg, cond_true] at hr
      exact .inl (op_sound hT hG h hd hr hK)
    | false =>
      simp only [hbg, cond_false] at hr
      cases hr
      exact hK R _ _ (h.put hd V2_undef)

/-- In the order of the text. -/
theorem text_sound (hT : TabOk P T) (hG : SumsOk P G) : ∀ (I : List (Nat × Rec)) {R : Nat → Nat → Prop} {S S' : FS} {a : Act} {w : World}, RunL T G ops (I.map (·.2)) S S' → Rel w0 n R S a w →
    (∀ c ∈ I, ops[c.1]? = some c.2.o ∧ ∀ t, c.2.o.dst = some t → t < n) → (∀ R a w, Rel w0 n R S' a w → Q .normal a w) → wpOps P ops Q (I.map (·.1)) a w
  | [], R, S, S', a, w, hrun, h, _, hQ => by
    have : S = S' := hrun
    subst this; exact hQ R a w h
  | c :: I, R, S, S', a, w, hrun, h, hI, hQ => by
    simp only [List.map_cons]
    rw [wpOps_cons]
    obtain ⟨h1, h2⟩ := hI c (by simp)
    exact step_sound hT hG h h1 h2 hrun.1 fun R' a' w' h' => text_sound hT hG I hrun.2 h' (fun d hd => hI d (by simp [hd])) hQ

end
end Go.W

/-
  The engine, part 9: a region in whatever order its edges allow.
-/
namespace Go.W
open Go.RowKit (Below)

def upE (acc : List Nat) : List Edge → Nat → Nat
  | [], s => s
  | e :: r, s => upE acc r (bif Region.binds .any e && Nat.blt e.on acc.length then s ||| 2 ^ e.on ||| acc.getD e.on 0 else s)

def ancL : List Oper → List Nat → List Nat
  | [], acc => acc
  | o :: r, acc => ancL r (acc ++ [upE acc o.after.toList 0])

theorem upE_bit {acc : List Nat} {i : Nat} : ∀ (es : List Edge) (s : Nat), (upE acc es s).testBit i = true →
    s.testBit i = true ∨ ∃ e ∈ es, Region.binds .any e = true ∧ e.on < acc.length ∧ (e.on = i ∨ (acc.getD e.on 0).testBit i = true)
  | [], s, h => .inl h
  | e :: r, s, h => by
    rcases upE_bit r _ h with h1 | ⟨e', h1, h2⟩
    · cases hb : (Region.binds .any e && Nat.blt e.on acc.length) with
      | false => rw [hb] at h1; exact .inl h1
      | true =>
        rw [hb] at h1
        simp only [Bool.and_eq_true] at hb
        simp only [cond_true, Nat.testBit_or, Bool.or_eq_true, Nat.testBit_two_pow, decide_eq_true_eq] at h1
        rcases h1 with (h1 | h1) | h1
        · exact .inl h1
        · exact .inr ⟨e, by simp, hb.1, (Nat.blt_eq ▸ hb.2), .inl h1⟩
        · exact .inr ⟨e, by simp, hb.1, (Nat.blt_eq ▸ hb.2), .inr h1⟩
    · exact .inr ⟨e', by simp [h1], h2⟩

theorem ancL_prefix : ∀ (l : List Oper) (acc : List Nat), ∃ t, ancL l acc = acc ++ t
  | [], acc => ⟨[], by simp [ancL]⟩
  | o :: r, acc => by
    obtain ⟨t, ht⟩ := ancL_prefix r (acc ++ [upE acc o.after.toList 0])
    exact ⟨_, by simp only [ancL, ht, List.append_assoc]; rfl⟩

theorem ancL_at : ∀ (l : List Oper) (acc : List Nat) (k : Nat) (o : Oper), l[k]? = some o →
    (ancL l acc).getD (acc.length + k) 0 = upE ((ancL l acc).take (acc.length + k)) o.after.toList 0 ∧ acc.length + k ≤ (ancL l acc).length
  | [], _, _, _, h => by simp at h
  | x :: r, acc, 0, o, h => by
    simp only [List.getElem?_cons_zero, Option.some.injEq] at h
    subst h
    obtain ⟨t, ht⟩ := ancL_prefix r (acc ++ [upE acc x.after.toList 0])
    simp only [ancL, ht, Nat.add_zero, List.append_assoc]
    constructor
    · rw [List.take_left, List.getD_eq_getElem?_getD, List.getElem?_append_right (Nat.le_refl _)]
      simp
    · simp
  | x :: r, acc, k + 1, o, h => by
    simp only [List.getElem?_cons_succ] at h
    have := ancL_at r (acc ++ [upE acc x.after.toList 0]) k o h
    simp only [List.length_append, List.length_cons, List.length_nil, Nat.zero_add] at this
    simp only [ancL]
    rw [show acc.length + (k + 1) = acc.length + 1 + k from by omega]
    exact this

theorem anc_step {ops : Array Oper} {j i : Nat} {o : Oper} (ho : ops[j]? = some o) (h : ((ancL ops.toList []).getD j 0).testBit i = true) :
    ∃ e ∈ o.after.toList, Region.binds .any e = true ∧ e.on < j ∧ (e.on = i ∨ ((ancL ops.toList []).getD e.on 0).testBit i = true) := by
  have h0 := ancL_at ops.toList [] j o (by rw [Array.getElem?_toList]; exact ho)
  simp only [List.length_nil, Nat.zero_add] at h0
  rw [h0.1] at h
  rcases upE_bit _ _ h with h1 | ⟨e, h1, h2, h3, h4⟩
  · simp at h1
  · simp only [List.length_take] at h3
    refine ⟨e, h1, h2, by omega, ?_⟩
    rcases h4 with h4 | h4
    · exact .inl h4
    · refine .inr ?_
      rw [List.getD_eq_getElem?_getD] at h4 ⊢
      rwa [List.getElem?_take_of_lt (by omega)] at h4

def closedL (ops : Array Oper) (listed : Array Bool) : Prop :=
  ∀ (j : Nat) (o : Oper), ops[j]? = some o → listed[j]? = some true → ∀ e ∈ o.after.toList, Region.binds .any e = true → listed.getD e.on false = true

theorem anc_listed {ops : Array Oper} {listed : Array Bool} (hc : closedL ops listed) : ∀ (j : Nat) (o : Oper), ops[j]? = some o → (∀ e ∈ o.after.toList, Region.binds .any e = true → listed.getD e.on false = true) →
    ∀ i, ((ancL ops.toList []).getD j 0).testBit i = true → listed.getD i false = true := by
  intro j
  induction j using Nat.strongRecOn with
  | _ j ih =>
    intro o ho hready i hi
    obtain ⟨e, he, hb, hlt, h⟩ := anc_step ho hi
    have hl := hready e he hb
    rcases h with rfl | h
    · exact hl
    · have hjs : j < ops.size := by
        rcases Nat.lt_or_ge j ops.size with h | h
        · exact h
        · rw [Array.getElem?_eq_none h] at ho; simp at ho
      have hoe : ops[e.on]? = some ops[e.on] := Array.getElem?_eq_getElem (by omega)
      refine ih e.on hlt _ hoe (hc _ _ hoe ?_) i h
      rw [Array.getD_eq_getD_getElem?] at hl
      cases hx : listed[e.on]? with
      | none => rw [hx] at hl; simp at hl
      | some b => rw [hx] at hl; simp at hl; rw [hl]

def okWith (ops : Array Oper) (Aj : Nat) (y : Rec) : List Rec → Nat → Bool
  | [], _ => true
  | x :: r, i => (Aj.testBit i || !clash ops x y) && okWith ops Aj y r (i + 1)

def okAll (ops : Array Oper) (A : List Nat) : List Rec → List Rec → Bool
  | _, [] => true
  | done, y :: r => okWith ops (A.getD done.length 0) y done 0 && okAll ops A (done ++ [y]) r

theorem okWith_at {ops : Array Oper} {Aj : Nat} {y : Rec} : ∀ (l : List Rec) (i : Nat), okWith ops Aj y l i = true → ∀ k x, l[k]? = some x → Aj.testBit (i + k) = true ∨ clash ops x y = false
  | [], _, _, _, _, h => by simp at h
  | z :: l, i, h, 0, x, hx => by
    simp only [okWith, Bool.and_eq_true, Bool.or_eq_true, Bool.not_eq_true'] at h
    simp at hx; subst hx
    exact h.1
  | z :: l, i, h, k + 1, x, hx => by
    simp only [okWith, Bool.and_eq_true] at h
    have := okWith_at l (i + 1) h.2 k x (by simpa using hx)
    rwa [show i + (k + 1) = i + 1 + k from by omega]

theorem okAll_at {ops : Array Oper} {A : List Nat} : ∀ (todo done : List Rec), okAll ops A done todo = true → ∀ k y, todo[k]? = some y → ∀ i x, (done ++ todo)[i]? = some x → i < done.length + k →
    (A.getD (done.length + k) 0).testBit i = true ∨ clash ops x y = false
  | [], _, _, _, _, h, _, _, _, _ => by simp at h
  | z :: todo, done, h, 0, y, hy, i, x, hx, hlt => by
    simp only [okAll, Bool.and_eq_true] at h
    simp at hy; subst hy
    have := okWith_at done 0 h.1 i x (by rwa [List.getElem?_append_left (by omega)] at hx)
    simpa using this
  | z :: todo, done, h, k + 1, y, hy, i, x, hx, hlt => by
    simp only [okAll, Bool.and_eq_true] at h
    have := okAll_at todo (done ++ [z]) h.2 k y (by simpa using hy) i x (by simpa using hx) (by simp; omega)
    simpa [Nat.add_assoc, Nat.add_comm 1 k] using this

def edgesDown : List Oper → Nat → Bool
  | [], _ => true
  | o :: r, j => o.after.toList.all (fun e => !Region.binds .any e || Nat.blt e.on j) && edgesDown r (j + 1)

theorem edgesDown_at : ∀ (l : List Oper) (j : Nat), edgesDown l j = true → ∀ k o, l[k]? = some o → ∀ e ∈ o.after.toList, Region.binds .any e = true → e.on < j + k
  | [], _, _, _, _, h => by simp at h
  | z :: l, j, h, 0, o, ho => by
    simp only [edgesDown, Bool.and_eq_true] at h
    simp at ho; subst ho
    intro e he hb
    have := List.all_eq_true.1 h.1 e he
    simp only [hb, Bool.not_true, Bool.false_or] at this
    rw [Nat.blt_eq] at this; simpa using this
  | z :: l, j, h, k + 1, o, ho => by
    simp only [edgesDown, Bool.and_eq_true] at h
    intro e he hb
    have := edgesDown_at l (j + 1) h.2 k o (by simpa using ho) e he hb
    omega

def drawOk (ops : Array Oper) (recs : List Rec) : Bool := edgesDown ops.toList 0 && okAll ops (ancL ops.toList []) [] recs

section
variable {P : Program} {T : Tab} {G : Sums} {w0 : Wb} {n : Nat} {ops : Array Oper} {Q : Exit → Act → World → Prop}

theorem any_sound (hT : TabOk P T) (hG : SumsOk P G) {recs : List Rec} (hok : drawOk ops recs = true) : ∀ (fuel : Nat) (I : List (Nat × Rec)) (listed : Array Bool) {R : Nat → Nat → Prop} {S S' : FS} {a : Act} {w : World},
    I.length ≤ fuel → I.Pairwise (fun x y => x.1 < y.1) →
    (∀ c ∈ I, ops[c.1]? = some c.2.o ∧ recs[c.1]? = some c.2 ∧ ∀ t, c.2.o.dst = some t → t < n) →
    (∀ j, (∃ c ∈ I, c.1 = j) ↔ (j < ops.size ∧ listed.getD j true = false)) → (∀ j, j < ops.size → j < listed.size) → closedL ops listed →
    RunL T G ops (I.map (·.2)) S S' → Rel w0 n R S a w → (∀ R a w, Rel w0 n R S' a w → Q .normal a w) → wpAny P .any ops Q fuel listed a w := by
  have hdown := edgesDown_at ops.toList 0 (by simp only [drawOk, Bool.and_eq_true] at hok; exact hok.1)
  have hpairs := okAll_at recs [] (by simp only [drawOk, Bool.and_eq_true] at hok; exact hok.2)
  simp only [Nat.zero_add, List.length_nil, List.nil_append] at hdown hpairs
  -- the least of those that wait is ready
  have hmin : ∀ (c : Nat × Rec) (I : List (Nat × Rec)) (listed : Array Bool), (c :: I).Pairwise (fun x y => x.1 < y.1) → (∀ d ∈ c :: I, ops[d.1]? = some d.2.o ∧ recs[d.1]? = some d.2 ∧ ∀ t, d.2.o.dst = some t → t < n) →
      (∀ j, (∃ d ∈ c :: I, d.1 = j) ↔ (j < ops.size ∧ listed.getD j true = false)) → c.1 ∈ Region.ready .any ops listed := by
    intro c I listed hs hI hl
    obtain ⟨h1, _, _⟩ := hI c (by simp)
    obtain ⟨h2, h3⟩ := (hl c.1).1 ⟨c, by simp, rfl⟩
    unfold Region.ready
    rw [List.mem_filter]
    refine ⟨List.mem_range.2 h2, ?_⟩
    simp only [h3, Bool.not_false, Bool.true_and, h1, Option.map_some, Option.getD_some]
    rw [Array.all_eq_true_iff_forall_mem]
    intro e he
    cases hb : Region.binds .any e with
    | false => rfl
    | true =>
      simp only [Bool.not_true, Bool.false_or]
      have hlt := hdown c.1 c.2.o (by rw [Array.getElem?_toList]; exact h1) e (by simpa using he) hb
      cases hx : listed.getD e.on false with
      | true => rfl
      | false =>
        exfalso
        have hx' : listed.getD e.on true = false ∨ listed[e.on]? = none := by
          rw [Array.getD_eq_getD_getElem?] at hx ⊢
          cases hy : listed[e.on]? with
          | none => exact .inr rfl
          | some b => rw [hy] at hx; simp at hx; left; simp [hx]
        rcases hx' with hx' | hx'
        · obtain ⟨d, hd, hde⟩ := (hl e.on).2 ⟨by omega, hx'⟩
          rcases List.mem_cons.1 hd with rfl | hd
          · omega
          · have := List.rel_of_pairwise_cons hs hd
            omega
        · have := Array.getElem?_eq_none_iff.1 hx'
          rw [Array.getD_eq_getD_getElem?, Array.getElem?_eq_none (by omega)] at h3
          simp at h3
  intro fuel
  induction fuel with
  | zero =>
    intro I listed R S S' a w hf hs hI hl hsz hc hrun h hQ
    have : I = [] := List.length_eq_zero_iff.1 (Nat.le_zero.1 hf)
    subst this
    have hr : Region.ready .any ops listed = [] := by
      unfold Region.ready
      rw [List.filter_eq_nil_iff]
      intro j hj
      have hj := List.mem_range.1 hj
      cases hx : listed.getD j true with
      | true => simp
      | false => exact absurd ((hl j).2 ⟨hj, hx⟩) (by simp)
    have : S = S' := hrun
    subst this
    exact ⟨hr, hQ R a w h⟩
  | succ fuel ih =>
    intro I listed R S S' a w hf hs hI hl hsz hc hrun h hQ
    constructor
    · intro hr
      cases I with
      | nil => have : S = S' := hrun; subst this; exact hQ R a w h
      | cons c I => have := hmin c I listed hs hI hl; rw [hr] at this; simp at this
    · intro i hi
      unfold Region.ready at hi
      rw [List.mem_filter] at hi
      obtain ⟨hi1, hi2⟩ := hi
      have hi1 := List.mem_range.1 hi1
      simp only [Bool.and_eq_true, Bool.not_eq_true'] at hi2
      obtain ⟨hi2, hi3⟩ := hi2
      obtain ⟨c, hc1, rfl⟩ := (hl i).2 ⟨hi1, hi2⟩
      obtain ⟨pre, post, rfl⟩ := List.append_of_mem hc1
      obtain ⟨k1, k2, k3⟩ := hI c hc1
      have hready : ∀ e ∈ c.2.o.after.toList, Region.binds .any e = true → listed.getD e.on false = true := by
        intro e he hb
        simp only [k1, Option.map_some, Option.getD_some, Array.all_eq_true_iff_forall_mem] at hi3
        have := hi3 e (by simpa using he)
        simpa [hb] using this
      have hpw := List.pairwise_append.1 hs
      -- none of those ahead clashes with it
      have hfront : RunL T G ops (c.2 :: (pre.map (·.2) ++ post.map (·.2))) S S' := by
        refine RunL_front _ (fun p hp => ?_) (by simpa using hrun)
        obtain ⟨d, hd, rfl⟩ := List.mem_map.1 hp
        obtain ⟨j1, j2, _⟩ := hI d (by simp [hd])
        have hlt : d.1 < c.1 := hpw.2.2 d hd c (by simp)
        rcases hpairs c.1 c.2 k2 d.1 d.2 j2 hlt with hb | hb
        · have hlisted := anc_listed hc c.1 c.2.o k1 hready d.1 hb
          have hd2 := ((hl d.1).1 ⟨d, by simp [hd], rfl⟩).2
          rw [Array.getD_eq_getD_getElem?] at hlisted hd2
          cases hx : listed[d.1]? with
          | none => rw [hx] at hlisted; simp at hlisted
          | some b => rw [hx] at hlisted hd2; simp at hlisted hd2; rw [hlisted] at hd2; simp at hd2
        · exact hb
      refine step_sound hT hG h k1 k3 hfront.1 fun R' a' w' h' => ?_
      refine ih (pre ++ post) (listed.setIfInBounds c.1 true) (by simp at hf ⊢; omega) ?_ (fun d hd => hI d (by
          rcases List.mem_append.1 hd with hd | hd <;> simp [hd])) ?_ (by simpa using hsz) ?_ (by simpa using hfront.2) h' hQ
      · refine List.pairwise_append.2 ⟨hpw.1, (List.pairwise_cons.1 hpw.2.1).2, fun x hx y hy => hpw.2.2 x hx y (by simp [hy])⟩
      · intro j
        have hcs : c.1 < listed.size := hsz _ hi1
        by_cases hj : c.1 = j
        · subst hj
          constructor
          · rintro ⟨d, hd, he⟩
            rcases List.mem_append.1 hd with hd | hd
            · have := hpw.2.2 d hd c (by simp); omega
            · have := (List.pairwise_cons.1 hpw.2.1).1 d hd; omega
          · rintro ⟨_, hx⟩
            rw [Array.getD_eq_getD_getElem?, Array.getElem?_setIfInBounds_self_of_lt hcs] at hx
            simp at hx
        · rw [Array.getD_eq_getD_getElem?, Array.getElem?_setIfInBounds_ne hj, ← Array.getD_eq_getD_getElem?, ← hl j]
          constructor
          · rintro ⟨d, hd, he⟩
            refine ⟨d, ?_, he⟩
            rcases List.mem_append.1 hd with hd | hd <;> simp [hd]
          · rintro ⟨d, hd, he⟩
            refine ⟨d, ?_, he⟩
            rcases List.mem_append.1 hd with hd | hd
            · simp [hd]
            · rcases List.mem_cons.1 hd with rfl | hd
              · exact absurd he hj
              · simp [hd]
      · intro j o ho hj e he hb
        by_cases hje : e.on = c.1
        · rw [hje, Array.getD_eq_getD_getElem?, Array.getElem?_setIfInBounds_self_of_lt (hsz _ hi1)]; rfl
        · rw [Array.getD_eq_getD_getElem?, Array.getElem?_setIfInBounds_ne (Ne.symm hje), ← Array.getD_eq_getD_getElem?]
          by_cases hjc : c.1 = j
          · subst hjc
            rw [k1] at ho
            cases ho
            exact hready e he hb
          · rw [Array.getElem?_setIfInBounds_ne hjc] at hj
            exact hc j o ho hj e he hb

end
end Go.W

/-
  The engine, part 10: the evaluator of a body, and that the body does what it says.
-/
namespace Go.W
open Go.RowKit (Below)

structure St where
  slots : List (Nat × Value)
  mem : List (Nat × Blk)
  next : Nat

def St.f (s : St) : FS := ⟨look s.slots, look s.mem⟩

def memL (mem : List (Nat × Blk)) (id : Nat) (new : Option Blk) (wr : Option (Nat × Blk)) : List (Nat × Blk) :=
  match wr with
  | some p => p :: (match new with
    | some b => (id, b) :: mem
    | none => mem)
  | none => (match new with
    | some b => (id, b) :: mem
    | none => mem)

theorem look_memL (mem : List (Nat × Blk)) (id : Nat) (new : Option Blk) (wr : Option (Nat × Blk)) : look (memL mem id new wr) = memF (look mem) id new wr := by
  cases new <;> cases wr <;> rfl

def slotL (slots : List (Nat × Value)) (d : Option Nat) (v : Value) : List (Nat × Value) :=
  match d with
  | some t => (t, v) :: slots
  | none => slots

def St.app (s : St) (dst : Option Nat) (id : Nat) (r : Res) : St := ⟨slotL s.slots dst r.val, memL s.mem id r.new r.wr, s.next⟩

theorem St.app_f (s : St) (dst : Option Nat) (id : Nat) (r : Res) : (s.app dst id r).f = s.f.apply dst id r := by
  unfold St.app St.f FS.apply
  congr 1
  · cases dst <;> rfl
  · exact look_memL _ _ _ _

def St.ref (s : St) (t : Nat) (b : Bool) : St := ⟨(t, .bool b) :: s.slots, s.mem, s.next⟩

theorem St.ref_f {s : St} {t : Nat} {b : Bool} (h : look s.slots t = some (.bool b)) : (s.ref t b).f = s.f := by
  unfold St.ref St.f
  simp only [look_cons, upd_idem _ h]

structure Cfg where
  T : Tab
  G : Sums
  n : Nat
  L : List (List Nat × (St → List (Bool × Exit × St)))

section
variable {R : Type}

/-- A test of what stands in a slot: what comes of it is known from there on. -/
def tstK (s : St) (t : Nat) (yes no : St → R) (f : R) : R :=
  oK (look s.slots t) (fun v => boolK v (fun b => bif b then yes (s.ref t true) else no (s.ref t false)) f) f

def grdK (ops : Array Oper) (o : Oper) (s : St) (yes no : St → R) (f : R) : R :=
  match o.guard with
  | none => yes s
  | some g => oK (gslot ops o) (fun t => oK (look s.slots t) (fun v => bif isTup v then no s else bif g.2 then tstK s t yes no f else tstK s t no yes f) f) f

def dstLt (n : Nat) (d : Option Nat) : Bool :=
  match d with
  | some t => Nat.blt t n
  | none => true

def rgK (C : Cfg) (ops : Array Oper) (base : Nat) : List Oper → Nat → St → List Rec → (St → List Rec → R) → R → R
  | [], _, s, acc, k, _ => k s acc
  | o :: rest, i, s, acc, k, f =>
    bif dstLt C.n o.dst then
      grdK ops o s
        (fun s => opK C.T C.G (base + i) o.op (evF (look s.slots)) (look s.mem) (fun r => rgK C ops base rest (i + 1) (s.app o.dst (base + i) r) (acc ++ [⟨o, base + i, r⟩]) k f) f)
        (fun s => rgK C ops base rest (i + 1) (s.app o.dst (base + i) (val undef)) (acc ++ [⟨o, base + i, val undef⟩]) k f) f
    else f

def St.bump (s : St) (m : Nat) : St := ⟨s.slots, s.mem, m⟩

def regK (C : Cfg) (ops : Array Oper) (draw : Bool) (s : St) (k : St → R) (f : R) : R :=
  rgK C ops s.next ops.toList 0 s [] (fun s' acc => bif !draw || drawOk ops acc then k (s'.bump (s.next + ops.toList.length)) else f) f

def nlEq : List Nat → List Nat → Bool
  | [], [] => true
  | a :: l, b :: m => Nat.beq a b && nlEq l m
  | _, _ => false

theorem nlEq_iff : ∀ {l m : List Nat}, nlEq l m = true → l = m
  | [], [], _ => rfl
  | a :: l, b :: m, h => by
    simp only [nlEq, Bool.and_eq_true] at h
    rw [nbeq.1 h.1, nlEq_iff h.2]
  | [], _ :: _, h => by simp [nlEq] at h
  | _ :: _, [], h => by simp [nlEq] at h

def lookP {α : Type} : List (List Nat × α) → List Nat → Option α
  | [], _ => none
  | p :: r, t => bif nlEq p.1 t then some p.2 else lookP r t

def altK : List (Bool × Exit × St) → (Exit → St → R) → R → R
  | [], _, f => f
  | p :: r, k, f => bif p.1 then k p.2.1 p.2.2 else altK r k f

def thenK (e : Exit) (s : St) (nxt : St → R) (k : Exit → St → R) : R :=
  match e with
  | .normal => nxt s
  | e => k e s

def blockK (id : Nat) (e : Exit) (s : St) (k : Exit → St → R) : R :=
  match e with
  | .exit j => bif Nat.beq j id then k .normal s else k (.exit j) s
  | e => k e s

def scopeK (e : Exit) (s : St) (k : Exit → St → R) (f : R) : R :=
  match e with
  | .goto _ => f
  | e => k e s

def condK (s : St) (c : Operand) (yes no : St → R) (f : R) : R :=
  match c with
  | .tmp t => tstK s t yes no f
  | .const (.bool b) => bif b then yes s else no s
  | _ => f

def evK (C : Cfg) : Nat → List Nat → Code → St → (Exit → St → R) → R → R
  | 0, _, _, _, _, f => f
  | m + 1, p, c, s, k, f =>
    match c with
    | .skip => k .normal s
    | .label _ => k .normal s
    | .region _ ops draw => regK C ops draw s (fun s' => k .normal s') f
    | .seq x y => evK C m (p ++ [0]) x s (fun e s' => thenK e s' (fun s' => evK C m (p ++ [1]) y s' k f) k) f
    | .cond c x y => condK s c (fun s => evK C m (p ++ [0]) x s k f) (fun s => evK C m (p ++ [1]) y s k f) f
    | .block id x => evK C m (p ++ [0]) x s (fun e s' => blockK id e s' k) f
    | .loop x => oK (lookP C.L p) (fun F => altK (F s) k f) (evK C m (p ++ [0]) x s (fun e s' => thenK e s' (fun s' => evK C m p (.loop x) s' k f) k) f)
    | .exit id => k (.exit id) s
    | .scope x => evK C m (p ++ [0]) x s (fun e s' => scopeK e s' k f) f
    | .ret => k .ret s
    | _ => f

variable {R' : Type} (h : R → R')

theorem tstK_nat (s : St) (t : Nat) (yes no : St → R) (f : R) : h (tstK s t yes no f) = tstK s t (fun s => h (yes s)) (fun s => h (no s)) (h f) := by
  simp only [tstK, oK_nat h, boolK_nat h, cond_nat h]

theorem grdK_nat (ops : Array Oper) (o : Oper) (s : St) (yes no : St → R) (f : R) : h (grdK ops o s yes no f) = grdK ops o s (fun s => h (yes s)) (fun s => h (no s)) (h f) := by
  unfold grdK; split <;> simp only [oK_nat h, cond_nat h, tstK_nat h]

theorem rgK_nat (C : Cfg) (ops : Array Oper) (base : Nat) : ∀ (l : List Oper) (i : Nat) (s : St) (acc : List Rec) (k : St → List Rec → R) (f : R),
    h (rgK C ops base l i s acc k f) = rgK C ops base l i s acc (fun s a => h (k s a)) (h f)
  | [], _, _, _, _, _ => rfl
  | o :: rest, i, s, acc, k, f => by
    simp only [rgK, cond_nat h, grdK_nat h, opK_nat h, rgK_nat C ops base rest]

theorem regK_nat (C : Cfg) (ops : Array Oper) (draw : Bool) (s : St) (k : St → R) (f : R) : h (regK C ops draw s k f) = regK C ops draw s (fun s => h (k s)) (h f) := by
  simp only [regK, rgK_nat h, cond_nat h]

theorem altK_nat : ∀ (l : List (Bool × Exit × St)) (k : Exit → St → R) (f : R), h (altK l k f) = altK l (fun e s => h (k e s)) (h f)
  | [], _, _ => rfl
  | p :: r, k, f => by simp only [altK, cond_nat h, altK_nat r]

theorem thenK_nat (e : Exit) (s : St) (nxt : St → R) (k : Exit → St → R) : h (thenK e s nxt k) = thenK e s (fun s => h (nxt s)) (fun e s => h (k e s)) := by
  cases e <;> rfl

theorem blockK_nat (id : Nat) (e : Exit) (s : St) (k : Exit → St → R) : h (blockK id e s k) = blockK id e s (fun e s => h (k e s)) := by
  cases e <;> simp only [blockK, cond_nat h]

theorem scopeK_nat (e : Exit) (s : St) (k : Exit → St → R) (f : R) : h (scopeK e s k f) = scopeK e s (fun e s => h (k e s)) (h f) := by
  cases e <;> rfl

theorem condK_nat (s : St) (c : Operand) (yes no : St → R) (f : R) : h (condK s c yes no f) = condK s c (fun s => h (yes s)) (fun s => h (no s)) (h f) := by
  unfold condK; split <;> simp only [tstK_nat h, cond_nat h]

theorem evK_nat (C : Cfg) : ∀ (m : Nat) (p : List Nat) (c : Code) (s : St) (k : Exit → St → R) (f : R), h (evK C m p c s k f) = evK C m p c s (fun e s => h (k e s)) (h f)
  | 0, _, _, _, _, _ => rfl
  | m + 1, p, c, s, k, f => by
    cases c <;> simp only [evK] <;> first | rfl | simp only [regK_nat h, evK_nat C m, thenK_nat h, condK_nat h, blockK_nat h, scopeK_nat h, oK_nat h, altK_nat h]

end

def evS (C : Cfg) (m : Nat) (p : List Nat) (c : Code) (s : St) : Option (Exit × St) := evK C m p c s (fun e s => some (e, s)) none

theorem evK_eq {R : Type} (C : Cfg) (m : Nat) (p : List Nat) (c : Code) (s : St) (k : Exit → St → R) (f : R) : evK C m p c s k f = oK (evS C m p c s) (fun q => k q.1 q.2) f :=
  (evK_nat (fun o : Option (Exit × St) => oK o (fun q => k q.1 q.2) f) C m p c s (fun e s => some (e, s)) none).symm

def codeAt : List Nat → Code → Option Code
  | [], c => some c
  | i :: p, c =>
    match c with
    | .seq a b => codeAt p (bif Nat.beq i 0 then a else b)
    | .cond _ a b => codeAt p (bif Nat.beq i 0 then a else b)
    | .block _ b => codeAt p b
    | .loop b => codeAt p b
    | .scope b => codeAt p b
    | _ => none

theorem codeAt_app (i : Nat) : ∀ (p : List Nat) (c : Code), codeAt (p ++ [i]) c = (codeAt p c).bind (codeAt [i])
  | [], c => by cases c <;> simp [codeAt]
  | j :: p, c => by cases c <;> simp [codeAt, codeAt_app i p]

def loopAt (p : List Nat) (c : Code) : Code :=
  match codeAt p c with
  | some (.loop b) => b
  | _ => .skip

def pickL : List (Bool × Exit × St) → Option (Exit × St)
  | [] => none
  | p :: r => bif p.1 then some p.2 else pickL r

theorem altK_eq {R : Type} (l : List (Bool × Exit × St)) (k : Exit → St → R) (f : R) : altK l k f = oK (pickL l) (fun q => k q.1 q.2) f := by
  induction l with
  | nil => rfl
  | cons p r ih => simp only [altK, pickL, ih]; cases p.1 <;> rfl

/-- What a loop comes to, if it is told. -/
def LoopOk (P : Program) (n : Nat) (body : Code) (F : St → List (Bool × Exit × St)) : Prop :=
  ∀ w0 R s a w, Rel w0 n R s.f a w → ∀ e s', pickL (F s) = some (e, s') → (Code.loop body).wp P (fun e' a' w' => e' = e ∧ ∃ R', Rel w0 n R' s'.f a' w') a w

structure CfgOk (P : Program) (C : Cfg) (code : Code) : Prop where
  mixed : P.follows .mixedOrders = true
  T : TabOk P C.T
  G : SumsOk P C.G
  L : ∀ p F, lookP C.L p = some F → LoopOk P C.n (loopAt p code) F

section
variable {P : Program} {C : Cfg} {code : Code} {w0 : Wb}

theorem tst_some {β : Type} {s : St} {t : Nat} {yes no : St → Option β} {r : β} (h : tstK s t yes no none = some r) :
    (look s.slots t = some (.bool true) ∧ yes (s.ref t true) = some r) ∨ (look s.slots t = some (.bool false) ∧ no (s.ref t false) = some r) := by
  simp only [tstK, oK_some, boolK_some] at h
  obtain ⟨v, hv, b, rfl, h⟩ := h
  cases b
  · exact .inr ⟨hv, h⟩
  · exact .inl ⟨hv, h⟩

/-- A region's run, in the order of the text, with what each operation came to. -/
theorem rg_run {ops : Array Oper} {base : Nat} : ∀ (l : List Oper) (i : Nat) (s : St) (acc : List Rec) {s' : St} {acc' : List Rec},
    rgK C ops base l i s acc (fun s a => some (s, a)) none = some (s', acc') →
      ∃ recs, acc' = acc ++ recs ∧ recs.map (·.o) = l ∧ (∀ c ∈ recs, ∀ t, c.o.dst = some t → t < C.n) ∧ RunL C.T C.G ops recs s.f s'.f
  | [], _, s, acc, s', acc', h => by
    simp only [rgK, Option.some.injEq, Prod.mk.injEq] at h
    obtain ⟨rfl, rfl⟩ := h
    exact ⟨[], by simp, rfl, by simp, rfl⟩
  | o :: rest, i, s, acc, s', acc', h => by
    simp only [rgK, cond_some] at h
    obtain ⟨hd, h⟩ := h
    have hdst : ∀ t, o.dst = some t → t < C.n := by
      intro t ht
      simp only [dstLt, ht, Nat.blt_eq] at hd
      exact hd
    -- what is common to the ways
    have go : ∀ (s0 : St) (r : Res), s0.f = s.f → stepF C.T C.G ops (base + i) o s.f = some r →
        rgK C ops base rest (i + 1) (s0.app o.dst (base + i) r) (acc ++ [⟨o, base + i, r⟩]) (fun s a => some (s, a)) none = some (s', acc') →
        ∃ recs, acc' = acc ++ recs ∧ recs.map (·.o) = o :: rest ∧ (∀ c ∈ recs, ∀ t, c.o.dst = some t → t < C.n) ∧ RunL C.T C.G ops recs s.f s'.f := by
      intro s0 r hs hstep hrest
      obtain ⟨recs, h1, h2, h3, h4⟩ := rg_run rest (i + 1) _ _ hrest
      refine ⟨⟨o, base + i, r⟩ :: recs, by rw [h1]; simp, by simp [h2], ?_, hstep, ?_⟩
      · intro c hc
        rcases List.mem_cons.1 hc with rfl | hc
        · exact hdst
        · exact h3 c hc
      · rw [St.app_f, hs] at h4; exact h4
    have goOp : ∀ (s0 : St), s0.f = s.f → (∀ r, opS C.T C.G (base + i) o.op (evF s.f.fs) s.f.fm = some r → stepF C.T C.G ops (base + i) o s.f = some r) →
        opK C.T C.G (base + i) o.op (evF (look s0.slots)) (look s0.mem) (fun r => rgK C ops base rest (i + 1) (s0.app o.dst (base + i) r) (acc ++ [⟨o, base + i, r⟩]) (fun s a => some (s, a)) none) none = some (s', acc') →
        ∃ recs, acc' = acc ++ recs ∧ recs.map (·.o) = o :: rest ∧ (∀ c ∈ recs, ∀ t, c.o.dst = some t → t < C.n) ∧ RunL C.T C.G ops recs s.f s'.f := by
      intro s0 hs hst hop
      rw [opK_eq, oK_some] at hop
      obtain ⟨r, hr, hop⟩ := hop
      have e1 : look s0.slots = s.f.fs := congrArg FS.fs hs
      have e2 : look s0.mem = s.f.fm := congrArg FS.fm hs
      rw [e1, e2] at hr
      exact go s0 r hs (hst r hr) hop
    unfold grdK at h
    split at h
    · rename_i hg
      exact goOp s rfl (fun r hr => by simp only [stepF, hg]; exact hr) h
    · rename_i g hg
      simp only [oK_some] at h
      obtain ⟨t, ht, v0, hv0, h⟩ := h
      cases hu : isTup v0 with
      | true =>
        simp only [hu, cond_true] at h
        refine go s _ rfl ?_ h
        simp only [stepF, hg, ht, oK]
        have : s.f.fs t = some v0 := hv0
        simp only [this, hu, cond_true]
      | false =>
      simp only [hu, cond_false] at h
      have hstep : ∀ (b : Bool) (r : Res), look s.slots t = some (.bool b) → (bif b == g.2 then opS C.T C.G (base + i) o.op (evF s.f.fs) s.f.fm else some (val undef)) = some r → stepF C.T C.G ops (base + i) o s.f = some r := by
        intro b r hb hr
        simp only [stepF, hg, ht, oK]
        have : s.f.fs t = some (.bool b) := hb
        simp only [this, boolK, isTup, cond_false]
        exact hr
      cases hg2 : g.2 with
      | true =>
        simp only [hg2, cond_true] at h
        rcases tst_some h with ⟨hb, h⟩ | ⟨hb, h⟩
        · exact goOp _ (St.ref_f hb) (fun r hr => hstep true r hb (by simp [hg2, hr])) h
        · exact go _ _ (St.ref_f hb) (hstep false _ hb (by simp [hg2])) h
      | false =>
        simp only [hg2, cond_false] at h
        rcases tst_some h with ⟨hb, h⟩ | ⟨hb, h⟩
        · exact go _ _ (St.ref_f hb) (hstep true _ hb (by simp [hg2])) h
        · exact goOp _ (St.ref_f hb) (fun r hr => hstep false r hb (by simp [hg2, hr])) h

theorem zip_fst {α : Type} : ∀ (recs : List α) (i : Nat), (recs.zipIdx i).map (·.2) = List.range' i recs.length
  | [], _ => rfl
  | c :: r, i => by simp [List.range'_succ, zip_fst r (i + 1)]

def pairUp (recs : List Rec) : List (Nat × Rec) := recs.zipIdx.map fun q => (q.2, q.1)

theorem pairUp_fst (recs : List Rec) : (pairUp recs).map (·.1) = List.range recs.length := by
  unfold pairUp
  rw [List.map_map, List.range_eq_range', ← zip_fst recs 0]
  rfl

theorem pairUp_snd (recs : List Rec) : (pairUp recs).map (·.2) = recs := by
  unfold pairUp
  rw [List.map_map]
  have : ((fun x : Nat × Rec => x.2) ∘ fun q : Rec × Nat => (q.2, q.1)) = Prod.fst := rfl
  rw [this, List.zipIdx_map_fst]

theorem pairUp_mem {recs : List Rec} {c : Nat × Rec} (h : c ∈ pairUp recs) : recs[c.1]? = some c.2 := by
  unfold pairUp at h
  obtain ⟨q, hq, rfl⟩ := List.mem_map.1 h
  exact List.mem_zipIdx_iff_getElem?.1 hq

theorem pairUp_of {recs : List Rec} {j : Nat} (h : j < recs.length) : ∃ c ∈ pairUp recs, c.1 = j := by
  have : j ∈ (pairUp recs).map (·.1) := by rw [pairUp_fst]; exact List.mem_range.2 h
  obtain ⟨c, hc, rfl⟩ := List.mem_map.1 this
  exact ⟨c, hc, rfl⟩

theorem reg_sound (hC : CfgOk P C code) {ops : Array Oper} {draw : Bool} {rid : Nat} {s s' : St} (h : regK C ops draw s some none = some s') {R : Nat → Nat → Prop} {a : Act} {w : World} (hrel : Rel w0 C.n R s.f a w) :
    (Code.region rid ops draw).wp P (fun e a' w' => e = .normal ∧ ∃ R', Rel w0 C.n R' s'.f a' w') a w := by
  unfold regK at h
  have hnat := rgK_nat (fun o : Option (St × List Rec) => oK o (fun q => bif !draw || drawOk ops q.2 then some (q.1.bump (s.next + ops.toList.length)) else none) none) C ops s.next ops.toList 0 s [] (fun s a => some (s, a)) none
  simp only [oK] at hnat
  rw [← hnat] at h
  cases hrun : rgK C ops s.next ops.toList 0 s [] (fun s a => some (s, a)) none with
  | none => rw [hrun] at h; simp at h
  | some q =>
    obtain ⟨s1, acc⟩ := q
    rw [hrun] at h
    simp only [cond_some] at h
    obtain ⟨hok, h⟩ := h
    have h := Option.some.inj h
    have hf : s'.f = s1.f := by rw [← h]; rfl
    obtain ⟨recs, h1, h2, h3, h4⟩ := rg_run _ _ _ _ hrun
    simp only [List.nil_append] at h1
    subst h1
    have hlen : acc.length = ops.size := by rw [← Array.length_toList, ← h2, List.length_map]
    have hI : ∀ c ∈ pairUp acc, ops[c.1]? = some c.2.o ∧ ∀ t, c.2.o.dst = some t → t < C.n := by
      intro c hc
      have hc' := pairUp_mem hc
      refine ⟨?_, h3 c.2 (List.mem_of_getElem? hc')⟩
      rw [← Array.getElem?_toList, ← h2, List.getElem?_map, hc']
      rfl
    have hQ : ∀ R a w, Rel w0 C.n R s1.f a w → (fun e a' w' => e = Exit.normal ∧ ∃ R', Rel w0 C.n R' s'.f a' w') Exit.normal a w := by
      intro R a w hr; exact ⟨rfl, R, by rw [hf]; exact hr⟩
    cases draw with
    | false =>
      refine wp_region ?_
      have := text_sound (Q := fun e a' w' => e = Exit.normal ∧ ∃ R', Rel w0 C.n R' s'.f a' w') hC.T hC.G (pairUp acc) (by rw [pairUp_snd]; exact h4) hrel hI hQ
      rw [pairUp_fst, hlen] at this
      exact this
    | true =>
      simp only [Bool.not_true, Bool.false_or] at hok
      refine wp_region_any hC.mixed ?_
      have hrel' : Rel w0 C.n R s.f a { w with drawn := w.drawn + 1 } := hrel.world ⟨rfl, rfl, rfl, Nat.le_refl _, fun _ _ => rfl⟩
      refine any_sound hC.T hC.G hok ops.size (pairUp acc) _ (by rw [← List.length_map (f := (·.1)), pairUp_fst, List.length_range, hlen]; exact Nat.le_refl _) ?_ (fun c hc => ⟨(hI c hc).1, pairUp_mem hc, (hI c hc).2⟩) ?_ (by simp) ?_ (by rw [pairUp_snd]; exact h4) hrel' hQ
      · have : ((pairUp acc).map (·.1)).Pairwise (· < ·) := by rw [pairUp_fst]; exact List.pairwise_lt_range
        exact List.pairwise_map.1 this
      · intro j
        constructor
        · rintro ⟨c, hc, rfl⟩
          have h5 := (hI c hc).1
          have hlt : c.1 < ops.size := by
            rcases Nat.lt_or_ge c.1 ops.size with h | h
            · exact h
            · rw [Array.getElem?_eq_none h] at h5; simp at h5
          exact ⟨hlt, by simp [Array.getD_eq_getD_getElem?, hlt]⟩
        · rintro ⟨hlt, _⟩
          exact pairUp_of (by omega)
      · intro j o ho hj
        rw [Array.getElem?_replicate] at hj
        split at hj <;> simp at hj

theorem cond_run {β : Type} {s : St} {c : Operand} {yes no : St → Option β} {r : β} (h : condK s c yes no none = some r) {n : Nat} {R : Nat → Nat → Prop} {a : Act} {w : World} (hrel : Rel w0 n R s.f a w) :
    ∃ (b : Bool) (s0 : St), a.eval c = .bool b ∧ s0.f = s.f ∧ (if b then yes s0 else no s0) = some r := by
  unfold condK at h
  split at h
  · rename_i t
    rcases tst_some h with ⟨hb, h⟩ | ⟨hb, h⟩
    · exact ⟨true, _, V2_bool (hrel.ev (x := .tmp t) hb), St.ref_f hb, h⟩
    · exact ⟨false, _, V2_bool (hrel.ev (x := .tmp t) hb), St.ref_f hb, h⟩
  · rename_i b
    cases b
    · exact ⟨false, s, rfl, rfl, h⟩
    · exact ⟨true, s, rfl, rfl, h⟩
  · simp at h

/-- THE BODY DOES WHAT THE EVALUATOR SAYS. -/
theorem ev_sound2 (hC : CfgOk P C code) : ∀ (m : Nat) (p : List Nat) (c : Code) (s : St) (e : Exit) (s' : St), codeAt p code = some c → evS C m p c s = some (e, s') →
    (∀ {R : Nat → Nat → Prop} {a : Act} {w : World}, Rel w0 C.n R s.f a w → c.wp P (fun e' a' w' => e' = e ∧ ∃ R', Rel w0 C.n R' s'.f a' w') a w) ∧
    (∀ x, c = .loop x → lookP C.L p = none → ∃ r, ∀ {R : Nat → Nat → Prop} {a : Act} {w : World}, Rel w0 C.n R s.f a w → Code.rounds P x (fun e' a' w' => e' = e ∧ ∃ R', Rel w0 C.n R' s'.f a' w') r a w) := by
  intro m
  induction m with
  | zero => intro p c s e s' _ h; simp [evS, evK] at h
  | succ m ih =>
    intro p c s e s' hp h
    unfold evS at h
    cases c with
    | skip => simp only [evK, Option.some.injEq, Prod.mk.injEq] at h; obtain ⟨rfl, rfl⟩ := h; exact ⟨fun hrel => wp_skip ⟨rfl, _, hrel⟩, nofun⟩
    | label l => simp only [evK, Option.some.injEq, Prod.mk.injEq] at h; obtain ⟨rfl, rfl⟩ := h; exact ⟨fun hrel => wp_label ⟨rfl, _, hrel⟩, nofun⟩
    | exit id => simp only [evK, Option.some.injEq, Prod.mk.injEq] at h; obtain ⟨rfl, rfl⟩ := h; exact ⟨fun hrel => wp_exit ⟨rfl, _, hrel⟩, nofun⟩
    | ret => simp only [evK, Option.some.injEq, Prod.mk.injEq] at h; obtain ⟨rfl, rfl⟩ := h; exact ⟨fun hrel => wp_ret ⟨rfl, _, hrel⟩, nofun⟩
    | region rid ops draw =>
      simp only [evK] at h
      have hnat := regK_nat (fun o : Option St => oK o (fun s' => some (Exit.normal, s')) none) C ops draw s some none
      simp only [oK] at hnat
      rw [← hnat] at h
      cases hr : regK C ops draw s some none with
      | none => rw [hr] at h; simp at h
      | some s1 =>
        rw [hr] at h
        simp only [Option.some.injEq, Prod.mk.injEq] at h
        obtain ⟨rfl, rfl⟩ := h
        exact ⟨fun hrel => reg_sound hC hr hrel, nofun⟩
    | seq x y =>
      refine ⟨fun {R a w} hrel => ?_, nofun⟩
      simp only [evK] at h
      rw [evK_eq, oK_some] at h
      obtain ⟨⟨e1, s1⟩, h1, h2⟩ := h
      have hx : codeAt (p ++ [0]) code = some x := by rw [codeAt_app, hp]; rfl
      have hy : codeAt (p ++ [1]) code = some y := by rw [codeAt_app, hp]; rfl
      refine wp_seq (wp_mono ((ih _ _ _ _ _ hx h1).1 hrel) ?_)
      rintro e' a' w' ⟨rfl, R', hrel'⟩
      cases e' with
      | normal => simp only [thenK] at h2; exact (ih _ _ _ _ _ hy h2).1 hrel'
      | _ => simp only [thenK, Option.some.injEq, Prod.mk.injEq] at h2; obtain ⟨rfl, rfl⟩ := h2; exact ⟨rfl, R', hrel'⟩
    | cond cc x y =>
      refine ⟨fun {R a w} hrel => ?_, nofun⟩
      simp only [evK] at h
      obtain ⟨b, s0, hb, hs0, h1⟩ := cond_run h hrel
      have hx : codeAt (p ++ [0]) code = some x := by rw [codeAt_app, hp]; rfl
      have hy : codeAt (p ++ [1]) code = some y := by rw [codeAt_app, hp]; rfl
      refine wp_cond hb ?_
      cases b with
      | true => exact (ih _ _ _ _ _ hx h1).1 (by rw [hs0]; exact hrel)
      | false => exact (ih _ _ _ _ _ hy h1).1 (by rw [hs0]; exact hrel)
    | block id x =>
      refine ⟨fun {R a w} hrel => ?_, nofun⟩
      simp only [evK] at h
      rw [evK_eq, oK_some] at h
      obtain ⟨⟨e1, s1⟩, h1, h2⟩ := h
      have hx : codeAt (p ++ [0]) code = some x := by rw [codeAt_app, hp]; rfl
      refine wp_block (wp_mono ((ih _ _ _ _ _ hx h1).1 hrel) ?_)
      rintro e' a' w' ⟨rfl, R', hrel'⟩
      cases e' with
      | exit j =>
        simp only [blockK] at h2
        simp only [Exit.inBlock]
        by_cases hj : j = id
        · subst hj
          simp only [Nat.beq_refl, cond_true, Option.some.injEq, Prod.mk.injEq] at h2
          obtain ⟨rfl, rfl⟩ := h2
          rw [if_pos rfl]
          exact ⟨rfl, R', hrel'⟩
        · rw [nbeq_ne hj] at h2
          simp only [cond_false, Option.some.injEq, Prod.mk.injEq] at h2
          obtain ⟨rfl, rfl⟩ := h2
          rw [if_neg hj]
          exact ⟨rfl, R', hrel'⟩
      | _ => simp only [blockK, Option.some.injEq, Prod.mk.injEq] at h2; obtain ⟨rfl, rfl⟩ := h2; exact ⟨rfl, R', hrel'⟩
    | scope x =>
      refine ⟨fun {R a w} hrel => ?_, nofun⟩
      simp only [evK] at h
      rw [evK_eq, oK_some] at h
      obtain ⟨⟨e1, s1⟩, h1, h2⟩ := h
      have hx : codeAt (p ++ [0]) code = some x := by rw [codeAt_app, hp]; rfl
      refine wp_scope_straight (wp_mono ((ih _ _ _ _ _ hx h1).1 hrel) ?_)
      rintro e' a' w' ⟨rfl, R', hrel'⟩
      cases e' with
      | goto l => simp [scopeK] at h2
      | _ => simp only [scopeK, Option.some.injEq, Prod.mk.injEq] at h2; obtain ⟨rfl, rfl⟩ := h2; exact ⟨rfl, R', hrel'⟩
    | loop x =>
      simp only [evK] at h
      have hx : codeAt (p ++ [0]) code = some x := by rw [codeAt_app, hp]; rfl
      cases hL : lookP C.L p with
      | some F =>
        rw [hL] at h
        simp only [oK, altK_eq] at h
        have hbody : loopAt p code = x := by simp [loopAt, hp]
        have h0 := hC.L p F hL
        rw [hbody] at h0
        cases hpk : pickL (F s) with
        | none => rw [hpk] at h; simp at h
        | some q =>
          rw [hpk] at h
          have h : q = (e, s') := Option.some.inj h
          subst h
          exact ⟨fun {R a w} hrel => h0 w0 R s a w hrel e s' hpk, nofun⟩
      | none =>
        rw [hL] at h
        simp only [oK] at h
        have hr : ∃ r, ∀ {R : Nat → Nat → Prop} {a : Act} {w : World}, Rel w0 C.n R s.f a w → Code.rounds P x (fun e' a' w' => e' = e ∧ ∃ R', Rel w0 C.n R' s'.f a' w') r a w := by
          rw [evK_eq, oK_some] at h
          obtain ⟨⟨e1, s1⟩, h1, h2⟩ := h
          obtain ⟨hb, _⟩ := ih _ _ _ _ _ hx h1
          cases e1 with
          | normal =>
            simp only [thenK] at h2
            obtain ⟨r, hr⟩ := (ih p (.loop x) s1 e s' hp h2).2 x rfl hL
            refine ⟨r + 1, fun {R a w} hrel => ?_⟩
            rw [rounds_succ]
            refine wp_mono (hb hrel) ?_
            rintro e' a' w' ⟨rfl, R', hrel'⟩
            exact hr hrel'
          | _ =>
            simp only [thenK, Option.some.injEq, Prod.mk.injEq] at h2
            obtain ⟨rfl, rfl⟩ := h2
            refine ⟨1, fun {R a w} hrel => wp_mono (hb hrel) ?_⟩
            rintro e' a' w' ⟨rfl, hrel'⟩
            exact ⟨rfl, hrel'⟩
        obtain ⟨r, hr⟩ := hr
        exact ⟨fun {R a w} hrel => wp_loop_rounds r (hr hrel), fun x' hx' _ => by cases hx'; exact ⟨r, hr⟩⟩
    | _ => simp [evK] at h

theorem ev_sound (hC : CfgOk P C code) {m : Nat} {p : List Nat} {c : Code} {s : St} {e : Exit} {s' : St} (hp : codeAt p code = some c) (h : evS C m p c s = some (e, s')) {R : Nat → Nat → Prop} {a : Act} {w : World} (hrel : Rel w0 C.n R s.f a w) :
    c.wp P (fun e' a' w' => e' = e ∧ ∃ R', Rel w0 C.n R' s'.f a' w') a w := (ev_sound2 hC m p c s e s' hp h).1 hrel

end
end Go.W

/-
  The engine, part 11: a whole function: what it answers; and how what functions answer is told to those that call them.
-/
namespace Go.W
open Go.RowKit (Below)

section
variable {R : Type}

def resK (T : Tab) (s : St) : List ResultVar → (List Value → R) → R → R
  | [], k, _ => k []
  | .tmp t :: r, k, f => oK (look s.slots t) (fun v => resK T s r (fun vs => k (v :: vs)) f) f
  | .cell a t :: r, k, f => oK (look s.slots a) (fun v => ptrK v (fun b off => oK (look s.mem b) (fun blk => oK (look T t) (fun i =>
      partK i blk.cells off (fun v => resK T s r (fun vs => k (v :: vs)) f) f) f) f) f) f

def oneK (vs : List Value) (k : Value → R) : R :=
  match vs with
  | [v] => k v
  | vs => k (.tuple vs.toArray)

def endK (T : Tab) (fn : Func) (e : Exit) (s : St) (k : Value → R) (f : R) : R :=
  match e with
  | .normal => resK T s fn.results.toList (fun vs => oneK vs k) f
  | .ret => resK T s fn.results.toList (fun vs => oneK vs k) f
  | _ => f

def argSlots : Nat → List Value → List (Nat × Value)
  | _, [] => []
  | i, v :: r => (i, v) :: argSlots (i + 1) r

def fnK (C : Cfg) (fuel : Nat) (fn : Func) (c : Code) (args : List Value) (k : Value → R) (f : R) : R :=
  evK C fuel [] c ⟨argSlots 0 args, [], 0⟩ (fun e s => endK C.T fn e s k f) f

variable {R' : Type} (h : R → R')

theorem resK_nat (T : Tab) (s : St) : ∀ (l : List ResultVar) (k : List Value → R) (f : R), h (resK T s l k f) = resK T s l (fun vs => h (k vs)) (h f)
  | [], _, _ => rfl
  | .tmp t :: r, k, f => by simp only [resK, oK_nat h, resK_nat T s r]
  | .cell a t :: r, k, f => by simp only [resK, oK_nat h, ptrK_nat h, partK_nat h, resK_nat T s r]

theorem oneK_nat (vs : List Value) (k : Value → R) : h (oneK vs k) = oneK vs (fun v => h (k v)) := by
  unfold oneK; split <;> rfl

end

def fnS (C : Cfg) (fuel : Nat) (fn : Func) (c : Code) (args : List Value) : Option Value := fnK C fuel fn c args some none

def resOne (tmps : Array Value) (x : ResultVar) : Sem Value :=
  match x with
  | .tmp t => pure (tmps.getD t undef)
  | .cell b t => do loadVar t (← asAddr (tmps.getD b undef))

theorem results_eq (fn : Func) (tmps : Array Value) : results fn tmps = (do
    let vs ← fn.results.mapM (resOne tmps)
    pure (if h : vs.size = 1 then vs[0] else .tuple vs)) := by
  unfold results
  congr 1

section
variable {P : Program} {C : Cfg} {c : Code} {w0 : Wb} {w : World} {R : Nat → Nat → Prop} {a : Act}

theorem res_run (hC : CfgOk P C c) {s : St} (hrel : Rel w0 C.n R s.f a w) : ∀ (l : List ResultVar) {β : Type} {k : List Value → Option β} {r : β}, resK C.T s l k none = some r →
    ∃ vs vs', k vs = some r ∧ LR (V2 R) vs vs' ∧
      (l.mapM (resOne a.tmps)).run P w = .ok vs' w
  | [], β, k, r, h => ⟨[], [], h, trivial, rfl⟩
  | .tmp t :: l, β, k, r, h => by
    simp only [resK, oK_some] at h
    obtain ⟨v, hv, h⟩ := h
    obtain ⟨vs, vs', h1, h2, h3⟩ := res_run hC hrel l h
    have hev := hrel.ev (x := .tmp t) hv
    refine ⟨v :: vs, a.tmps.getD t undef :: vs', h1, ⟨hev, h2⟩, ?_⟩
    simp only [List.mapM_cons, resOne, Sem.run_bind, Sem.run_pure, Result.andThen_ok] at h3 ⊢
    simp only [h3, Result.andThen_ok]
  | .cell b t :: l, β, k, r, h => by
    simp only [resK, oK_some, ptrK_some] at h
    obtain ⟨v, hv, b1, off, rfl, blk, hb, i, hi, h⟩ := h
    obtain ⟨b2, hb2, hev⟩ := V2_ptr (hrel.ev (x := .tmp b) hv)
    have hev : a.tmps.getD b undef = .pointer (some ⟨b2, off, none⟩) := hev
    obtain ⟨cs, fz, h1, h2, _⟩ := hrel.block hb hb2
    -- as a load
    unfold partK at h
    have key : ∃ u u', resK C.T s l (fun vs => k (u :: vs)) none = some r ∧ V1 R u u' ∧ (loadVar t ⟨b2, off, none⟩).run P w = .ok u' w := by
      cases hA : isAggT i with
      | true =>
        simp only [hA, cond_true] at h
        obtain ⟨h3, h4⟩ := cond_some.1 h
        have hle := Nat.le_of_ble_eq_true h3
        have hcs := LP_le h2
        refine ⟨_, .agg ((cs.toList.drop off).take i.siz).toArray, h4, ⟨_, rfl, by simpa using LP_part h2 hle⟩, ?_⟩
        simp only [loadVar, Sem.run_bind, run_agg hC.T hi, Result.andThen_ok, hA, if_true, run_size hC.T hi, loadCells]
        rw [run_loadCells h1 off i.siz 0 #[] (by omega)]
        simp
      | false =>
        simp only [hA, cond_false] at h
        obtain ⟨u, h3, h4⟩ := oK_some.1 h
        obtain ⟨u', h5, h6⟩ := LP_get h2 h3
        refine ⟨u, u', h4, V1_of_V0 h6, ?_⟩
        have hc : w.cell? ⟨b2, off, none⟩ = some u' := by rw [cell_at h1, ← Array.getElem?_toList, h5]
        simp [loadVar, run_agg hC.T hi, hA, hc]
    obtain ⟨u, u', h3, h4, h5⟩ := key
    obtain ⟨vs, vs', h6, h7, h8⟩ := res_run hC hrel l h3
    refine ⟨u :: vs, u' :: vs', h6, ⟨V2_of_V1 h4, h7⟩, ?_⟩
    have hadr : (asAddr (a.tmps.getD b undef)).run P w = .ok ⟨b2, off, none⟩ w := by rw [hev]; rfl
    rw [List.mapM_cons]
    have h9 : (resOne a.tmps (.cell b t)).run P w = .ok u' w := by simp only [resOne, Sem.run_bind, hadr, Result.andThen_ok, h5]
    simp only [Sem.run_bind, h9, Sem.run_pure, Result.andThen_ok, h8]

theorem oneK_some {vs : List Value} {v : Value} (h : oneK vs some = some v) : (vs = [v]) ∨ (vs.length ≠ 1 ∧ v = .tuple vs.toArray) := by
  unfold oneK at h
  split at h
  · left; simp at h; rw [h]
  · rename_i hne
    right
    simp at h
    refine ⟨fun hl => ?_, h.symm⟩
    match vs, hl with
    | [x], _ => exact hne x rfl

theorem pl_of_one {vs : List Value} (h : vs.all pl2 = true) {vs' : List Value} (hl : LR (V2 R) vs vs') : vs' = vs := (LR_plain (fun _ _ hv => V2_plain hv) h).1 hl

theorem argSlots_look : ∀ (args : List Value) (i t : Nat) (v : Value), look (argSlots i args) t = some v → ∃ j, t = i + j ∧ args[j]? = some v
  | [], _, _, _, h => by simp [argSlots, look] at h
  | x :: r, i, t, v, h => by
    simp only [argSlots, look_cons] at h
    by_cases ht : i = t
    · subst ht
      rw [upd_same] at h
      cases h
      exact ⟨0, rfl, rfl⟩
    · rw [upd_ne _ _ ht] at h
      obtain ⟨j, h1, h2⟩ := argSlots_look r (i + 1) t v h
      exact ⟨j + 1, by omega, by simpa using h2⟩

/-- A FUNCTION ANSWERS WHAT THE EVALUATOR SAYS, AND LEAVES ALL MEMORY AS IT WAS. -/
theorem fn_sound (hC : CfgOk P C c) {g : FuncId} {fn : Func} (hf : P.funcs[g]? = some fn) (hb : fn.body = some c) (hn : C.n = fn.ntmps) {args : List Value} (hlen : args.length ≤ fn.ntmps) (hp : args.all pl2 = true)
    {fuel : Nat} {v : Value} (h : fnS C fuel fn c args = some v) (hv : pl2 v = true) (w : World) : Calls P g args.toArray w fun e w' => e = .returned v ∧ Below w.heap.size w w' := by
  unfold fnS fnK at h
  rw [evK_eq, oK_some] at h
  obtain ⟨⟨e, s'⟩, h1, h2⟩ := h
  refine calls_of_wp hf hb ?_
  have hrel : Rel ⟨w, fun _ => False, fun _ _ => False⟩ C.n (fun _ _ => False) (St.f ⟨argSlots 0 args, [], 0⟩) { tmps := args.toArray ++ Array.replicate (fn.ntmps - args.toArray.size) undef, defers := [] } w := by
    refine ⟨rfl, BelowX.refl _ _ _, by simp; omega, ?_, nofun, nofun, ?_, nofun, nofun⟩
    · intro t u hu
      obtain ⟨j, rfl, hj⟩ := argSlots_look args 0 t u hu
      have hu2 := List.all_eq_true.1 hp u (List.mem_of_getElem? hj)
      have hlt : j < args.length := by
        rcases Nat.lt_or_ge j args.length with h | h
        · exact h
        · rw [List.getElem?_eq_none h] at hj; simp at hj
      refine ⟨u, ?_, (V2_plain hu2).2 rfl⟩
      rw [Nat.zero_add, Array.getElem?_append_left (by simpa using hlt)]
      simpa using hj
    · intro i blk hi; simp [St.f, look] at hi
  refine wp_mono (ev_sound hC (p := []) rfl h1 hrel) ?_
  rintro e' a' w' ⟨rfl, R', hr'⟩
  have fin : endK C.T fn e' s' some none = some v → (e' = .normal ∨ e' = .ret) → a'.defers = [] ∧ ∃ v', (results fn a'.tmps).run P w' = .ok v' w' ∧ (v' = v ∧ Below w.heap.size w w') := by
    intro h3 h4
    refine ⟨hr'.defers, ?_⟩
    have h3 : resK C.T s' fn.results.toList (fun vs => oneK vs some) none = some v := by
      rcases h4 with rfl | rfl <;> exact h3
    obtain ⟨vs, vs', h5, h6, h7⟩ := res_run hC hr' _ h3
    have hrun : (results fn a'.tmps).run P w' = .ok (if h : vs'.toArray.size = 1 then vs'.toArray[0] else .tuple vs'.toArray) w' := by
      rw [results_eq, Array.mapM_eq_mapM_toList]
      simp only [Sem.run_bind, Sem.run_map, h7, Result.andThen_ok, Sem.run_pure]
    refine ⟨_, hrun, ?_, hr'.below.below fun _ h => h⟩
    rcases oneK_some h5 with rfl | ⟨hl, rfl⟩
    · match vs', h6 with
      | [u], h6 =>
        have := (V2_plain hv).1 h6.1
        subst this
        simp
    · have hl' : vs'.length ≠ 1 := by rw [← LR_len h6]; exact hl
      rw [dif_neg (by simpa using hl')]
      have hall : vs.all pl1 = true := by simpa [pl2] using hv
      have : vs' = vs := by
        refine (LR_plain (r := V2 R') (pl := pl1) (fun u u' hu => ?_) hall).1 h6
        refine V2_plain ?_
        unfold pl2; split
        · simp [pl1, pl0] at hu
        · exact hu
      rw [this]
  cases e' with
  | normal => obtain ⟨k1, v', k2, rfl, k3⟩ := fin h2 (.inl rfl); exact ⟨k1, v', k2, rfl, k3⟩
  | ret => obtain ⟨k1, v', k2, rfl, k3⟩ := fin h2 (.inr rfl); exact ⟨k1, v', k2, rfl, k3⟩
  | _ => simp [endK] at h2

theorem sums_nil : SumsOk P [] := by intro g e h; simp [look] at h

theorem sums_cons {G : Sums} {g : FuncId} {F : List Value → Option (Bool × Value)} (h : Sum P g F) (hG : SumsOk P G) : SumsOk P ((g, .pl F) :: G) := by
  intro g' F' hF
  rw [look_cons] at hF
  by_cases hg : g = g'
  · subst hg; rw [upd_same] at hF; cases hF; exact h
  · rw [upd_ne _ _ hg] at hF; exact hG g' F' hF

theorem sums_consM {G : Sums} {g : FuncId} {F : List Value → (Nat → Option Blk) → Nat → Option (Bool × Value × Option Blk × Option (Nat × Blk))} (h : MSum P g F) (hG : SumsOk P G) : SumsOk P ((g, .me F) :: G) := by
  intro g' F' hF
  rw [look_cons] at hF
  by_cases hg : g = g'
  · subst hg; rw [upd_same] at hF; cases hF; exact h
  · rw [upd_ne _ _ hg] at hF; exact hG g' F' hF

/-- Out of the evaluator. -/
theorem sum_of (hC : CfgOk P C c) {g : FuncId} {fn : Func} (hf : P.funcs[g]? = some fn) (hname : (fn.name == "runtime.NumGoroutine") = false) (hb : fn.body = some c) (hn : C.n = fn.ntmps) {F : List Value → Option (Bool × Value)} {fuel : Nat}
    (h : ∀ args v, F args = some (true, v) → args.all pl2 = true → args.length ≤ fn.ntmps ∧ fnS C fuel fn c args = some v ∧ pl2 v = true) : Sum P g F := by
  intro args v hF hp w
  obtain ⟨h1, h2, h3⟩ := h args v hF hp
  have hne : fn.name ≠ "runtime.NumGoroutine" := by simpa using hname
  have hrun : (callFunc g args.toArray).run P w = .ok (.enter g args.toArray) w := by simp [callFunc, hf, hne, hb]
  unfold Invokes
  rw [hrun]
  refine Calls.mono (fn_sound hC hf hb hn h1 hp h2 h3 w) ?_
  rintro e w' ⟨rfl, hb⟩
  exact ⟨rfl, hb⟩

/-- The same, of one list of arguments. -/
theorem sum_at (hC : CfgOk P C c) {g : FuncId} {fn : Func} (hf : P.funcs[g]? = some fn) (hname : (fn.name == "runtime.NumGoroutine") = false) (hb : fn.body = some c) (hn : C.n = fn.ntmps) {args : List Value} {v : Value} {fuel : Nat}
    (h1 : args.length ≤ fn.ntmps) (h2 : fnS C fuel fn c args = some v) (h3 : pl2 v = true) : args.all pl2 = true → ∀ w, Invokes P g args.toArray w fun v' w' => v' = v ∧ Below w.heap.size w w' := by
  intro hp w
  have hne : fn.name ≠ "runtime.NumGoroutine" := by simpa using hname
  have hrun : (callFunc g args.toArray).run P w = .ok (.enter g args.toArray) w := by simp [callFunc, hf, hne, hb]
  unfold Invokes
  rw [hrun]
  refine Calls.mono (fn_sound hC hf hb hn h1 hp h2 h3 w) ?_
  rintro e w' ⟨rfl, hb⟩
  exact ⟨rfl, hb⟩

theorem tab_nil : TabOk P [] := by intro t i h; simp [look] at h

theorem tab_cons {T : Tab} {t : Nat} {i : TInf} (h : TOk P t i) (hT : TabOk P T) : TabOk P ((t, i) :: T) := by
  intro t' i' hi
  rw [look_cons] at hi
  by_cases ht : t = t'
  · subst ht; rw [upd_same] at hi; cases hi; exact h
  · rw [upd_ne _ _ ht] at hi; exact hT t' i' hi

/-- A type that is no struct. -/
theorem tok_plain {t : Nat} {d : TypeDesc} {siz : Nat} {zer : Value} (h1 : P.underlying t = some d) (h2 : (P.info? t).map (fun i => (i.size, i.zero)) = some (siz, some zer)) : TOk P t ⟨d, siz, zer, false, [], []⟩ := by
  obtain ⟨i, h3, h4⟩ := Option.map_eq_some_iff.1 h2
  simp only [Prod.mk.injEq] at h4
  exact ⟨⟨i, h3, h4.1, h4.2⟩, fun _ => h1, nofun, fun h => absurd rfl h⟩

theorem tok_eq {t : Nat} {d : TypeDesc} {siz : Nat} {zer : Value} {ks : List CK} (h1 : P.underlying t = some d) (h2 : (P.info? t).map (fun i => (i.size, i.zero)) = some (siz, some zer)) (h3 : P.eqGuardType P.depth t = false) (h6 : kindsT P 20 t = some ks) : TOk P t ⟨d, siz, zer, false, [], ks⟩ := by
  obtain ⟨i, h4, h5⟩ := Option.map_eq_some_iff.1 h2
  simp only [Prod.mk.injEq] at h5
  exact ⟨⟨i, h4, h5.1, h5.2⟩, fun _ => h1, nofun, fun _ => ⟨h3, h6⟩⟩

def structFlds (d : Option TypeDesc) : Option (List (Nat × Nat)) :=
  match d with
  | some (.struct fs) => some (fs.toList.map fun f => (f.offset, f.type))
  | _ => none

/-- A struct. -/
theorem tok_struct {t : Nat} {siz : Nat} {zer : Value} {flds : List (Nat × Nat)} (h1 : structFlds (P.underlying t) = some flds) (h2 : (P.info? t).map (fun i => (i.size, i.zero)) = some (siz, some zer)) : TOk P t ⟨.bool, siz, zer, true, flds, []⟩ := by
  obtain ⟨i, h3, h4⟩ := Option.map_eq_some_iff.1 h2
  simp only [Prod.mk.injEq] at h4
  refine ⟨⟨i, h3, h4.1, h4.2⟩, nofun, fun _ => ?_, fun h => absurd rfl h⟩
  unfold structFlds at h1
  split at h1
  · rename_i fs hd
    exact ⟨fs, hd, Option.some.inj h1⟩
  · simp at h1
/-- A struct that may be held against another one. -/
theorem tok_structE {t : Nat} {siz : Nat} {zer : Value} {flds : List (Nat × Nat)} {ks : List CK} (h1 : structFlds (P.underlying t) = some flds) (h2 : (P.info? t).map (fun i => (i.size, i.zero)) = some (siz, some zer))
    (h5 : P.eqGuardType P.depth t = false) (h6 : kindsT P 20 t = some ks) : TOk P t ⟨.bool, siz, zer, true, flds, ks⟩ := by
  obtain ⟨i, h3, h4⟩ := Option.map_eq_some_iff.1 h2
  simp only [Prod.mk.injEq] at h4
  refine ⟨⟨i, h3, h4.1, h4.2⟩, nofun, fun _ => ?_, fun _ => ⟨h5, h6⟩⟩
  unfold structFlds at h1
  split at h1
  · rename_i fs hd
    exact ⟨fs, hd, Option.some.inj h1⟩
  · simp at h1

end
end Go.W

/-
  The engine, part 12: a state cut down to what is named; loops, round by round.
-/
namespace Go.W
open Go.RowKit (Below)

def ids0 (is : List Nat) : Value → Bool
  | .pointer (some a) => nmem a.block is
  | .slice (some a) _ _ => nmem a.block is
  | _ => true

def ids1 (is : List Nat) : Value → Bool
  | .agg cs => cs.toList.all (ids0 is)
  | v => ids0 is v

def ids2 (is : List Nat) : Value → Bool
  | .tuple vs => vs.toList.all (ids1 is)
  | v => ids1 is v

def getSlots (s : St) (is : List Nat) : List Nat → Option (List (Nat × Value))
  | [] => some []
  | t :: r => oK (look s.slots t) (fun v => bif ids2 is v then oK (getSlots s is r) (fun l => some ((t, v) :: l)) none else none) none

def getMem (s : St) (is : List Nat) : List Nat → Option (List (Nat × Blk))
  | [] => some []
  | i :: r => oK (look s.mem i) (fun b => bif b.cells.all (ids0 is) then oK (getMem s is r) (fun l => some ((i, b) :: l)) none else none) none

/-- Cut down: these slots, these blocks, and nothing else is known. -/
def restS (ts is : List Nat) (nx : Nat) (s : St) : Option St :=
  oK (getSlots s is ts) (fun sl => oK (getMem s is is) (fun me => some ⟨sl, me, nx⟩) none) none

section
variable {w0 : Wb} {w : World} {n : Nat} {R : Nat → Nat → Prop} {a : Act}

theorem V0_ids {is : List Nat} {v v' : Value} (h : V0 R v v') (hi : ids0 is v = true) : V0 (fun i b => R i b ∧ i ∈ is) v v' := by
  unfold V0 at h
  split at h
  · obtain ⟨b, hb, rfl⟩ := h; exact ⟨b, ⟨hb, nmem_iff.1 hi⟩, rfl⟩
  · obtain ⟨b, c', hb, hc, rfl⟩ := h; exact ⟨b, c', ⟨hb, nmem_iff.1 hi⟩, hc, rfl⟩
  · exact h.elim
  · exact h.elim
  · subst h; unfold V0; split <;> simp_all

theorem LR_ids {r r' : Value → Value → Prop} {q : Value → Bool} (hr : ∀ v v', r v v' → q v = true → r' v v') : ∀ {l l' : List Value}, LR r l l' → l.all q = true → LR r' l l'
  | [], [], _, _ => trivial
  | _ :: _, _ :: _, h, hi => by
    simp only [List.all_cons, Bool.and_eq_true] at hi
    exact ⟨hr _ _ h.1 hi.1, LR_ids hr h.2 hi.2⟩
  | [], _ :: _, h, _ => h.elim
  | _ :: _, [], h, _ => h.elim

theorem V1_ids {is : List Nat} {v v' : Value} (h : V1 R v v') (hi : ids1 is v = true) : V1 (fun i b => R i b ∧ i ∈ is) v v' := by
  unfold V1 at h ⊢
  split at h
  · obtain ⟨cs', rfl, hl⟩ := h
    exact ⟨cs', rfl, LR_ids (q := ids0 is) (fun _ _ h1 h2 => V0_ids h1 h2) hl hi⟩
  · rename_i hne
    refine V0_ids h ?_
    unfold ids1 at hi
    split at hi
    · exact absurd rfl (hne _)
    · exact hi

theorem V2_ids {is : List Nat} {v v' : Value} (h : V2 R v v') (hi : ids2 is v = true) : V2 (fun i b => R i b ∧ i ∈ is) v v' := by
  unfold V2 at h ⊢
  split at h
  · obtain ⟨cs', rfl, hl⟩ := h
    exact ⟨cs', rfl, LR_ids (q := ids1 is) (fun _ _ h1 h2 => V1_ids h1 h2) hl hi⟩
  · rename_i hne
    refine V1_ids h ?_
    unfold ids2 at hi
    split at hi
    · exact absurd rfl (hne _)
    · exact hi

theorem getSlots_look {s : St} {is : List Nat} : ∀ {ts : List Nat} {l : List (Nat × Value)}, getSlots s is ts = some l → ∀ t v, look l t = some v → look s.slots t = some v ∧ ids2 is v = true
  | [], l, h, t, v, hv => by simp only [getSlots, Option.some.injEq] at h; subst h; simp [look] at hv
  | u :: r, l, h, t, v, hv => by
    simp only [getSlots, oK_some, cond_some] at h
    obtain ⟨x, hx, hi, l', hl', h⟩ := h
    cases h
    rw [look_cons] at hv
    by_cases hu : u = t
    · subst hu; rw [upd_same] at hv; cases hv; exact ⟨hx, hi⟩
    · rw [upd_ne _ _ hu] at hv; exact getSlots_look hl' t v hv

theorem getMem_look {s : St} {is : List Nat} : ∀ {js : List Nat} {l : List (Nat × Blk)}, getMem s is js = some l → (∀ i b, look l i = some b → look s.mem i = some b ∧ b.cells.all (ids0 is) = true) ∧ (∀ i, i ∈ js → (look l i).isSome = true)
  | [], l, h => by simp only [getMem, Option.some.injEq] at h; subst h; exact ⟨fun i b hb => by simp [look] at hb, fun i hi => by simp at hi⟩
  | u :: r, l, h => by
    simp only [getMem, oK_some, cond_some] at h
    obtain ⟨x, hx, hi, l', hl', h⟩ := h
    cases h
    obtain ⟨ih1, ih2⟩ := getMem_look hl'
    constructor
    · intro i b hb
      rw [look_cons] at hb
      by_cases hu : u = i
      · subst hu; rw [upd_same] at hb; cases hb; exact ⟨hx, hi⟩
      · rw [upd_ne _ _ hu] at hb; exact ih1 i b hb
    · intro i hi'
      rw [look_cons]
      by_cases hu : u = i
      · subst hu; rw [upd_same]; rfl
      · rw [upd_ne _ _ hu]
        rcases List.mem_cons.1 hi' with rfl | hi'
        · exact absurd rfl hu
        · exact ih2 i hi'

theorem Rel.rest {ts is : List Nat} {nx : Nat} {s s' : St} (hr : restS ts is nx s = some s') (h : Rel w0 n R s.f a w) : ∃ R', Rel w0 n R' s'.f a w := by
  simp only [restS, oK_some] at hr
  obtain ⟨sl, h1, me, h2, h3⟩ := hr
  cases h3
  obtain ⟨hm1, hm2⟩ := getMem_look h2
  refine ⟨fun i b => R i b ∧ i ∈ is, h.defers, h.below, h.size, ?_, fun i b b' hb hb' => h.func i b b' hb.1 hb'.1, fun i j b hi hj hne blk hblk => h.inj i j b hi.1 hj.1 hne blk (hm1 i blk hblk).1, ?_, fun i b hb => hm2 i hb.2, fun i b hb => h.anc i b hb.1⟩
  · intro t v hv
    obtain ⟨h3, h4⟩ := getSlots_look h1 t v hv
    obtain ⟨v', h5, h6⟩ := h.slot t v h3
    exact ⟨v', h5, V2_ids h6 h4⟩
  · intro i blk hi
    obtain ⟨h3, h4⟩ := hm1 i blk hi
    obtain ⟨b, cs, fz, h5, h6, h7, h8⟩ := h.mem i blk h3
    have hin : i ∈ is := by
      have key : ∀ (js : List Nat) (l : List (Nat × Blk)), getMem s is js = some l → ∀ i b, look l i = some b → i ∈ js := by
        intro js
        induction js with
        | nil => intro l hl i b hb; simp only [getMem, Option.some.injEq] at hl; subst hl; simp [look] at hb
        | cons u r ih =>
          intro l hl i b hb
          simp only [getMem, oK_some, cond_some] at hl
          obtain ⟨x, hx, _, l', hl', hl⟩ := hl
          cases hl
          rw [look_cons] at hb
          by_cases hu : u = i
          · simp [hu]
          · rw [upd_ne _ _ hu] at hb; exact List.mem_cons_of_mem _ (ih l' hl' i b hb)
      exact key is me h2 i blk hi
    exact ⟨b, cs, fz, ⟨h5, hin⟩, h6, LR_ids (q := ids0 is) (fun _ _ h1 h2 => V0_ids h1 h2) h7 h4, h8⟩

end

section
variable {P : Program} {C : Cfg} {code body : Code}

/-- What a round comes to, cut down: by the way that it ends. -/
def cutK (nt ni : List Nat) (nx : Nat) (et ei : List Nat) (ex : Nat) (e : Exit) (s : St) : Option (Exit × St) :=
  match e with
  | .normal => oK (restS nt ni nx s) (fun s => some (.normal, s)) none
  | e => oK (restS et ei ex s) (fun s => some (e, s)) none

/-- One round, evaluated and cut down. -/
def roundS (C : Cfg) (m : Nat) (p : List Nat) (body : Code) (nt ni : List Nat) (nx : Nat) (et ei : List Nat) (ex : Nat) (s : St) : Option (Exit × St) :=
  evK C m p body s (fun e s' => cutK nt ni nx et ei ex e s') none

theorem round_sound (hC : CfgOk P C code) {p : List Nat} (hp : codeAt p code = some body) {m : Nat} {nt ni et ei : List Nat} {nx ex : Nat} {s s' : St} {e : Exit} (h : roundS C m p body nt ni nx et ei ex s = some (e, s'))
    {w0 : Wb} {R : Nat → Nat → Prop} {a : Act} {w : World} (hrel : Rel w0 C.n R s.f a w) : body.wp P (fun e' a' w' => e' = e ∧ ∃ R', Rel w0 C.n R' s'.f a' w') a w := by
  unfold roundS at h
  rw [evK_eq, oK_some] at h
  obtain ⟨⟨e1, s1⟩, h1, h2⟩ := h
  refine wp_mono (ev_sound hC hp h1 hrel) ?_
  rintro e' a' w' ⟨rfl, R', hr'⟩
  cases e' <;> simp only [cutK, oK_some] at h2 <;>
    (obtain ⟨s2, h3, h4⟩ := h2; cases h4; exact ⟨rfl, Rel.rest h3 hr'⟩)

/-- A loop of rounds from state to state. -/
theorem loop_rounds (hC : CfgOk P C code) {p : List Nat} (hp : codeAt p code = some (.loop body)) {m : Nat} {nt ni et ei : List Nat} {nx ex : Nat} (st : Nat → St) (N : Nat) {e : Exit} {sf : St} (he : e ≠ .normal)
    (step : ∀ k, k < N → roundS C m (p ++ [0]) body nt ni nx et ei ex (st k) = some (.normal, st (k + 1)))
    (last : roundS C m (p ++ [0]) body nt ni nx et ei ex (st N) = some (e, sf))
    {w0 : Wb} {R : Nat → Nat → Prop} {a : Act} {w : World} (hrel : Rel w0 C.n R (st 0).f a w) : (Code.loop body).wp P (fun e' a' w' => e' = e ∧ ∃ R', Rel w0 C.n R' sf.f a' w') a w := by
  have hx : codeAt (p ++ [0]) code = some body := by rw [codeAt_app, hp]; rfl
  have key : ∀ j, j ≤ N → ∀ (R : Nat → Nat → Prop) (a : Act) (w : World), Rel w0 C.n R (st (N - j)).f a w → Code.rounds P body (fun e' a' w' => e' = e ∧ ∃ R', Rel w0 C.n R' sf.f a' w') (j + 1) a w := by
    intro j
    induction j with
    | zero =>
      intro _ R a w hr
      rw [rounds_succ]
      refine wp_mono (round_sound hC hx last hr) ?_
      rintro e' a' w' ⟨rfl, hr'⟩
      cases e' with
      | normal => exact absurd rfl he
      | _ => exact ⟨rfl, hr'⟩
    | succ j ih =>
      intro hj R a w hr
      rw [rounds_succ]
      refine wp_mono (round_sound hC hx (step (N - (j + 1)) (by omega)) hr) ?_
      rintro e' a' w' ⟨rfl, R', hr'⟩
      refine ih (by omega) R' a' w' ?_
      rw [show N - j = N - (j + 1) + 1 from by omega]
      exact hr'
  exact wp_loop_rounds (N + 1) (key N (Nat.le_refl N) R a w (by rw [Nat.sub_self]; exact hrel))

end
end Go.W

/-
  The engine, part 13: loops that are told at one state.
-/
namespace Go.W
open Go.RowKit (Below)

def veq0 : Value → Value → Bool
  | .int k x, .int k' y => decide (k = k') && decide (x = y)
  | .bool a, .bool b => decide (a = b)
  | .pointer a, .pointer b => decide (a = b)
  | .slice a n c, .slice b m d => decide (a = b) && Nat.beq n m && Nat.beq c d
  | .string s, .string t => decide (s = t)
  | _, _ => false

def leq (q : Value → Value → Bool) : List Value → List Value → Bool
  | [], [] => true
  | a :: l, b :: m => q a b && leq q l m
  | _, _ => false

def veq1 : Value → Value → Bool
  | .agg xs, .agg ys => leq veq0 xs.toList ys.toList
  | v, u => veq0 v u

def slotsEq : List (Nat × Value) → List (Nat × Value) → Bool
  | [], [] => true
  | a :: l, b :: m => Nat.beq a.1 b.1 && veq1 a.2 b.2 && slotsEq l m
  | _, _ => false

def memEq : List (Nat × Blk) → List (Nat × Blk) → Bool
  | [], [] => true
  | a :: l, b :: m => Nat.beq a.1 b.1 && leq veq0 a.2.cells b.2.cells && Nat.beq a.2.elem b.2.elem && decide (a.2.own = b.2.own) && memEq l m
  | _, _ => false

def stEq (s t : St) : Bool := slotsEq s.slots t.slots && memEq s.mem t.mem && Nat.beq s.next t.next

theorem veq0_eq {a b : Value} (h : veq0 a b = true) : a = b := by
  unfold veq0 at h
  split at h <;> simp_all

theorem leq_eq {q : Value → Value → Bool} (hq : ∀ a b, q a b = true → a = b) : ∀ {l m : List Value}, leq q l m = true → l = m
  | [], [], _ => rfl
  | a :: l, b :: m, h => by
    simp only [leq, Bool.and_eq_true] at h
    rw [hq a b h.1, leq_eq hq h.2]
  | [], _ :: _, h => by simp [leq] at h
  | _ :: _, [], h => by simp [leq] at h

theorem veq1_eq {a b : Value} (h : veq1 a b = true) : a = b := by
  unfold veq1 at h
  split at h
  · rename_i xs ys
    congr 1
    exact Array.toList_inj.1 (leq_eq (fun _ _ => veq0_eq) h)
  · exact veq0_eq h

theorem slotsEq_eq : ∀ {l m : List (Nat × Value)}, slotsEq l m = true → l = m
  | [], [], _ => rfl
  | (a, x) :: l, (b, y) :: m, h => by
    simp only [slotsEq, Bool.and_eq_true] at h
    rw [nbeq.1 h.1.1, veq1_eq h.1.2, slotsEq_eq h.2]
  | [], _ :: _, h => by simp [slotsEq] at h
  | _ :: _, [], h => by simp [slotsEq] at h

theorem memEq_eq : ∀ {l m : List (Nat × Blk)}, memEq l m = true → l = m
  | [], [], _ => rfl
  | (a, ⟨c, e, o⟩) :: l, (b, ⟨c', e', o'⟩) :: m, h => by
    simp only [memEq, Bool.and_eq_true, decide_eq_true_eq] at h
    obtain ⟨⟨⟨⟨h1, h2⟩, h3⟩, h4⟩, h5⟩ := h
    rw [nbeq.1 h1, leq_eq (fun _ _ => veq0_eq) h2, nbeq.1 h3, h4, memEq_eq h5]
  | [], _ :: _, h => by simp [memEq] at h
  | _ :: _, [], h => by simp [memEq] at h

theorem stEq_eq {s t : St} (h : stEq s t = true) : s = t := by
  obtain ⟨a, b, c⟩ := s
  obtain ⟨a', b', c'⟩ := t
  simp only [stEq, Bool.and_eq_true] at h
  rw [slotsEq_eq h.1.1, memEq_eq h.1.2, nbeq.1 h.2]

/-- Plain enough to be held against itself. -/
def vok0 : Value → Bool
  | .int _ _ => true
  | .bool _ => true
  | .pointer _ => true
  | .slice _ _ _ => true
  | .string _ => true
  | _ => false

def vok1 : Value → Bool
  | .agg xs => xs.toList.all vok0
  | v => vok0 v

def stOk (s : St) : Bool := s.slots.all (fun p => vok1 p.2) && s.mem.all (fun p => p.2.cells.all vok0)

theorem veq0_refl {a : Value} (h : vok0 a = true) : veq0 a a = true := by
  unfold vok0 at h
  split at h <;> simp_all [veq0]

theorem leq_refl {q : Value → Value → Bool} {p : Value → Bool} (hq : ∀ a, p a = true → q a a = true) : ∀ {l : List Value}, l.all p = true → leq q l l = true
  | [], _ => rfl
  | a :: l, h => by
    simp only [List.all_cons, Bool.and_eq_true] at h
    simp only [leq, hq a h.1, leq_refl hq h.2, Bool.and_self]

theorem veq1_refl {a : Value} (h : vok1 a = true) : veq1 a a = true := by
  unfold vok1 at h
  split at h
  · exact leq_refl (fun _ => veq0_refl) h
  · rename_i hne
    unfold veq1
    split
    · exact absurd rfl (hne _)
    · exact veq0_refl h

theorem slotsEq_refl : ∀ {l : List (Nat × Value)}, l.all (fun p => vok1 p.2) = true → slotsEq l l = true
  | [], _ => rfl
  | (a, x) :: l, h => by
    simp only [List.all_cons, Bool.and_eq_true] at h
    simp only [slotsEq, Nat.beq_refl, veq1_refl h.1, slotsEq_refl h.2, Bool.and_self]

theorem memEq_refl : ∀ {l : List (Nat × Blk)}, l.all (fun p => p.2.cells.all vok0) = true → memEq l l = true
  | [], _ => rfl
  | (a, ⟨c, e, o⟩) :: l, h => by
    simp only [List.all_cons, Bool.and_eq_true] at h
    simp only [memEq, Nat.beq_refl, leq_refl (fun _ => veq0_refl) h.1, memEq_refl h.2, Bool.and_self, decide_true]

theorem stEq_refl {s : St} (h : stOk s = true) : stEq s s = true := by
  simp only [stOk, Bool.and_eq_true] at h
  simp only [stEq, slotsEq_refl h.1, memEq_refl h.2, Nat.beq_refl, Bool.and_self]

/-- A loop that is told at one state alone: cut down so, it must be that one; then this is what it comes to. -/
def atSt (ts is : List Nat) (nx : Nat) (s0 : St) (e : Exit) (sf : St) (s : St) : List (Bool × Exit × St) :=
  oK (restS ts is nx s) (fun s1 => [(stEq s1 s0, e, sf)]) []

theorem atSt_ok {P : Program} {n : Nat} {body : Code} {ts is : List Nat} {nx : Nat} {s0 : St} {e : Exit} {sf : St}
    (h : ∀ (w0 : Wb) (R : Nat → Nat → Prop) (a : Act) (w : World), Rel w0 n R s0.f a w → (Code.loop body).wp P (fun e' a' w' => e' = e ∧ ∃ R', Rel w0 n R' sf.f a' w') a w) : LoopOk P n body (atSt ts is nx s0 e sf) := by
  intro w0 R s a w hrel e' s' hp
  unfold atSt at hp
  cases hr : restS ts is nx s with
  | none => rw [hr] at hp; simp [oK, pickL] at hp
  | some s1 =>
    rw [hr] at hp
    simp only [oK, pickL, cond_some] at hp
    obtain ⟨h1, h2⟩ := hp
    have := stEq_eq h1; subst this
    cases h2
    obtain ⟨R', hr'⟩ := Rel.rest hr hrel
    exact h w0 R' a w hr'

theorem oneL {P : Program} {n : Nat} {c : Code} {p : List Nat} {F : St → List (Bool × Exit × St)} (h : LoopOk P n (loopAt p c) F) : ∀ q F', lookP [(p, F)] q = some F' → LoopOk P n (loopAt q c) F' := by
  intro q F' hq
  simp only [lookP] at hq
  cases he : nlEq p q with
  | false => rw [he] at hq; simp at hq
  | true => rw [he] at hq; simp at hq; subst hq; rw [← nlEq_iff he]; exact h

theorem consL {P : Program} {n : Nat} {c : Code} {p : List Nat} {F : St → List (Bool × Exit × St)} {L : List (List Nat × (St → List (Bool × Exit × St)))} (h : LoopOk P n (loopAt p c) F)
    (hL : ∀ q F', lookP L q = some F' → LoopOk P n (loopAt q c) F') : ∀ q F', lookP ((p, F) :: L) q = some F' → LoopOk P n (loopAt q c) F' := by
  intro q F' hq
  simp only [lookP] at hq
  cases he : nlEq p q with
  | false => rw [he] at hq; exact hL q F' hq
  | true => rw [he] at hq; simp at hq; subst hq; rw [← nlEq_iff he]; exact h

def ptr (b : Nat) : Value := .pointer (some ⟨b, 0, none⟩)

end Go.W
