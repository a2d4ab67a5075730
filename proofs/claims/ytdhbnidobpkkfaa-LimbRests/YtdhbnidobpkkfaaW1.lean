/-
  The engine, part 1: an evaluator for a fragment of the program text, on states that name blocks by numbers of their own, and the relation of such a state to a frame and a world.
-/
import Derived.Calls
import Derived.Orders
import Derived.Below
import Derived.ChangeKeysEq
namespace Go.W

def look {α : Type} : List (Nat × α) → Nat → Option α
  | [], _ => none
  | p :: r, t => bif Nat.beq p.1 t then some p.2 else look r t

def upd {α : Type} (f : Nat → Option α) (t : Nat) (v : α) : Nat → Option α := fun u => bif Nat.beq t u then some v else f u

theorem look_cons {α : Type} (t : Nat) (v : α) (l : List (Nat × α)) : look ((t, v) :: l) = upd (look l) t v := rfl

theorem nbeq {a b : Nat} : Nat.beq a b = true ↔ a = b := ⟨Nat.eq_of_beq_eq_true, fun h => h ▸ Nat.beq_refl a⟩

theorem nbeq_ne {a b : Nat} (h : a ≠ b) : Nat.beq a b = false := by
  cases hb : Nat.beq a b with
  | false => rfl
  | true => exact absurd (nbeq.1 hb) h

theorem upd_same {α : Type} (f : Nat → Option α) (t : Nat) (v : α) : upd f t v t = some v := by simp [upd]

theorem upd_ne {α : Type} (f : Nat → Option α) {t u : Nat} (v : α) (h : t ≠ u) : upd f t v u = f u := by simp [upd, nbeq_ne h]

theorem upd_comm {α : Type} (f : Nat → Option α) {t u : Nat} (v x : α) (h : t ≠ u) : upd (upd f t v) u x = upd (upd f u x) t v := by
  funext s
  by_cases h1 : u = s
  · subst h1; rw [upd_same, upd_ne _ _ h, upd_same]
  · rw [upd_ne _ _ h1]
    by_cases h2 : t = s
    · subst h2; rw [upd_same, upd_same]
    · rw [upd_ne _ _ h2, upd_ne _ _ h2, upd_ne _ _ h1]

theorem upd_idem {α : Type} (f : Nat → Option α) {t : Nat} {v : α} (h : f t = some v) : upd f t v = f := by
  funext s
  by_cases h1 : t = s
  · subst h1; rw [upd_same, h]
  · rw [upd_ne _ _ h1]

/-- A block: its cells, the type of its elements, whether it is the call's own. -/
structure Blk where
  cells : List Value
  elem : TypeId
  own : Bool

structure FS where
  fs : Nat → Option Value
  fm : Nat → Option Blk

/-- What an operation comes to: its value, a block that it makes, a block as it writes it, the blocks that it reads. -/
structure Res where
  val : Value
  new : Option Blk
  wr : Option (Nat × Blk)
  rd : List Nat

def putF {α : Type} (f : Nat → Option α) (d : Option Nat) (v : α) : Nat → Option α :=
  match d with
  | some t => upd f t v
  | none => f

def memF (fm : Nat → Option Blk) (id : Nat) (new : Option Blk) (wr : Option (Nat × Blk)) : Nat → Option Blk :=
  let g := match new with
    | some b => upd fm id b
    | none => fm
  match wr with
    | some p => upd g p.1 p.2
    | none => g

def FS.apply (S : FS) (dst : Option Nat) (id : Nat) (r : Res) : FS := ⟨putF S.fs dst r.val, memF S.fm id r.new r.wr⟩

/-! ## Values, the evaluator's and the world's -/

def V0 (R : Nat → Nat → Prop) (v v' : Value) : Prop :=
  match v with
  | .pointer (some a) => ∃ b, R a.block b ∧ v' = .pointer (some { a with block := b })
  | .slice (some a) n c => ∃ b, R a.block b ∧ v' = .slice (some { a with block := b }) n c
  | .agg _ => False
  | .tuple _ => False
  | v => v' = v

def LR (r : Value → Value → Prop) : List Value → List Value → Prop
  | [], [] => True
  | a :: as, b :: bs => r a b ∧ LR r as bs
  | _, _ => False

def V1 (R : Nat → Nat → Prop) (v v' : Value) : Prop :=
  match v with
  | .agg cs => ∃ cs', v' = .agg cs' ∧ LR (V0 R) cs.toList cs'.toList
  | v => V0 R v v'

def V2 (R : Nat → Nat → Prop) (v v' : Value) : Prop :=
  match v with
  | .tuple vs => ∃ vs', v' = .tuple vs' ∧ LR (V1 R) vs.toList vs'.toList
  | v => V1 R v v'

def pl0 : Value → Bool
  | .pointer (some _) => false
  | .slice (some _) _ _ => false
  | .agg _ => false
  | .tuple _ => false
  | _ => true

def pl1 : Value → Bool
  | .agg cs => cs.toList.all pl0
  | v => pl0 v

def pl2 : Value → Bool
  | .tuple vs => vs.toList.all pl1
  | v => pl1 v

theorem V0_plain {R : Nat → Nat → Prop} {v v' : Value} (h : pl0 v = true) : V0 R v v' ↔ v' = v := by
  unfold pl0 at h
  split at h <;> first | (simp at h; done) | skip
  unfold V0
  split <;> simp_all

theorem LR_len {r : Value → Value → Prop} : ∀ {l l' : List Value}, LR r l l' → l.length = l'.length
  | [], [], _ => rfl
  | _ :: _, _ :: _, h => by simp [LR_len h.2]
  | [], _ :: _, h => h.elim
  | _ :: _, [], h => h.elim

theorem LR_plain {r : Value → Value → Prop} {pl : Value → Bool} (hr : ∀ v v', pl v = true → (r v v' ↔ v' = v)) :
    ∀ {l l' : List Value}, l.all pl = true → (LR r l l' ↔ l' = l)
  | [], [], _ => by simp [LR]
  | a :: as, b :: bs, h => by
    simp only [List.all_cons, Bool.and_eq_true] at h
    simp [LR, hr a b h.1, LR_plain hr h.2]
  | [], _ :: _, _ => by simp [LR]
  | _ :: _, [], _ => by simp [LR]

theorem V1_plain {R : Nat → Nat → Prop} {v v' : Value} (h : pl1 v = true) : V1 R v v' ↔ v' = v := by
  unfold pl1 at h
  split at h
  · rename_i cs
    simp only [V1]
    constructor
    · rintro ⟨cs', rfl, hl⟩
      rw [LR_plain (fun v v' hv => V0_plain hv) h] at hl
      congr 1
      exact Array.toList_inj.1 hl
    · rintro rfl
      exact ⟨cs, rfl, (LR_plain (fun v v' hv => V0_plain hv) h).2 rfl⟩
  · rename_i hv
    have : V1 R v v' = V0 R v v' := by
      unfold V1; split
      · exact absurd rfl (hv _)
      · rfl
    rw [this]; exact V0_plain h

theorem V2_plain {R : Nat → Nat → Prop} {v v' : Value} (h : pl2 v = true) : V2 R v v' ↔ v' = v := by
  unfold pl2 at h
  split at h
  · rename_i cs
    simp only [V2]
    constructor
    · rintro ⟨cs', rfl, hl⟩
      rw [LR_plain (fun v v' hv => V1_plain hv) h] at hl
      congr 1
      exact Array.toList_inj.1 hl
    · rintro rfl
      exact ⟨cs, rfl, (LR_plain (fun v v' hv => V1_plain hv) h).2 rfl⟩
  · rename_i hv
    have : V2 R v v' = V1 R v v' := by
      unfold V2; split
      · exact absurd rfl (hv _)
      · rfl
    rw [this]; exact V1_plain h

theorem V0_mono {R R' : Nat → Nat → Prop} (h : ∀ i b, R i b → R' i b) {v v' : Value} (hv : V0 R v v') : V0 R' v v' := by
  unfold V0 at *
  split at hv
  · obtain ⟨b, hb, rfl⟩ := hv; exact ⟨b, h _ _ hb, rfl⟩
  · obtain ⟨b, hb, rfl⟩ := hv; exact ⟨b, h _ _ hb, rfl⟩
  · exact hv
  · exact hv
  · exact hv

theorem LR_mono {r r' : Value → Value → Prop} (h : ∀ v v', r v v' → r' v v') : ∀ {l l' : List Value}, LR r l l' → LR r' l l'
  | [], [], _ => trivial
  | _ :: _, _ :: _, hl => ⟨h _ _ hl.1, LR_mono h hl.2⟩
  | [], _ :: _, hl => hl.elim
  | _ :: _, [], hl => hl.elim

theorem V1_mono {R R' : Nat → Nat → Prop} (h : ∀ i b, R i b → R' i b) {v v' : Value} (hv : V1 R v v') : V1 R' v v' := by
  unfold V1 at *
  split at hv
  · obtain ⟨cs', rfl, hl⟩ := hv; exact ⟨cs', rfl, LR_mono (fun _ _ => V0_mono h) hl⟩
  · exact V0_mono h hv

theorem V2_mono {R R' : Nat → Nat → Prop} (h : ∀ i b, R i b → R' i b) {v v' : Value} (hv : V2 R v v') : V2 R' v v' := by
  unfold V2 at *
  split at hv
  · obtain ⟨cs', rfl, hl⟩ := hv; exact ⟨cs', rfl, LR_mono (fun _ _ => V1_mono h) hl⟩
  · exact V1_mono h hv

theorem LR_get {r : Value → Value → Prop} : ∀ {l l' : List Value} {i : Nat} {v : Value}, LR r l l' → l[i]? = some v → ∃ v', l'[i]? = some v' ∧ r v v'
  | [], [], _, _, _, h => by simp at h
  | a :: as, b :: bs, 0, v, hl, h => by simp at h; subst h; exact ⟨b, by simp, hl.1⟩
  | a :: as, b :: bs, i + 1, v, hl, h => by simp at h; simpa using LR_get hl.2 h
  | [], _ :: _, _, _, hl, _ => hl.elim
  | _ :: _, [], _, _, hl, _ => hl.elim

theorem LR_drop {r : Value → Value → Prop} : ∀ {l l' : List Value} (i : Nat), LR r l l' → LR r (l.drop i) (l'.drop i)
  | _, _, 0, h => by simpa using h
  | [], [], _ + 1, _ => by simp [LR]
  | _ :: _, _ :: _, i + 1, h => by simpa using LR_drop i h.2
  | [], _ :: _, _ + 1, h => h.elim
  | _ :: _, [], _ + 1, h => h.elim

theorem LR_take {r : Value → Value → Prop} : ∀ {l l' : List Value} (i : Nat), LR r l l' → LR r (l.take i) (l'.take i)
  | _, _, 0, _ => by simp [LR]
  | [], [], _ + 1, _ => by simp [LR]
  | _ :: _, _ :: _, i + 1, h => by simpa [LR] using ⟨h.1, LR_take i h.2⟩
  | [], _ :: _, _ + 1, h => h.elim
  | _ :: _, [], _ + 1, h => h.elim

theorem LR_append {r : Value → Value → Prop} : ∀ {l l' m m' : List Value}, LR r l l' → LR r m m' → LR r (l ++ m) (l' ++ m')
  | [], [], _, _, _, h => by simpa using h
  | _ :: _, _ :: _, _, _, h, h' => by simpa [LR] using ⟨h.1, LR_append h.2 h'⟩
  | [], _ :: _, _, _, h, _ => h.elim
  | _ :: _, [], _, _, h, _ => h.elim

theorem LR_set {r : Value → Value → Prop} {v v' : Value} (hv : r v v') : ∀ {l l' : List Value} (i : Nat), LR r l l' → LR r (l.set i v) (l'.set i v')
  | [], [], _, _ => by simp [LR]
  | _ :: _, _ :: _, 0, h => by simpa [LR] using ⟨hv, h.2⟩
  | _ :: _, _ :: _, i + 1, h => by simpa [LR] using ⟨h.1, LR_set hv i h.2⟩
  | [], _ :: _, _, h => h.elim
  | _ :: _, [], _, h => h.elim

/-- The cells of a value that is no tuple. -/
theorem V2_cells {R : Nat → Nat → Prop} {v v' : Value} (h : V2 R v v') (ht : ∀ vs, v ≠ .tuple vs) : LR (V0 R) v.cells.toList v'.cells.toList := by
  unfold V2 at h
  split at h
  · exact absurd rfl (ht _)
  · unfold V1 at h
    split at h
    · obtain ⟨cs', rfl, hl⟩ := h; exact hl
    · rename_i hne
      have e1 : v.cells = #[v] := by unfold Value.cells; split <;> first | exact absurd rfl (hne _) | rfl
      have e2 : v'.cells = #[v'] := by
        unfold Value.cells
        split
        · rename_i cs
          unfold V0 at h
          split at h
          · simp at h
          · simp at h
          · exact h.elim
          · exact h.elim
          · exact absurd h.symm (hne _)
        · rfl
      rw [e1, e2]; exact ⟨h, trivial⟩

def notTup : Value → Bool
  | .tuple _ => false
  | _ => true

theorem notTup_ne {v : Value} (h : notTup v = true) : ∀ vs, v ≠ .tuple vs := by
  rintro vs rfl; simp [notTup] at h

/-- A cell's value is none of two kinds that are no cell's. -/
theorem V0_one {R : Nat → Nat → Prop} {v v' : Value} (h : V0 R v v') : (∀ cs, v' ≠ .agg cs) ∧ (∀ cs, v' ≠ .tuple cs) := by
  unfold V0 at h
  split at h
  · obtain ⟨b, _, rfl⟩ := h; constructor <;> intro cs hc <;> simp at hc
  · obtain ⟨b, _, rfl⟩ := h; constructor <;> intro cs hc <;> simp at hc
  · exact h.elim
  · exact h.elim
  · subst h; constructor <;> intro cs hc <;> simp_all

/-! ## The relation -/

structure Rel (w0 : World) (n : Nat) (R : Nat → Nat → Prop) (S : FS) (a : Act) (w : World) : Prop where
  defers : a.defers = []
  below : RowKit.Below w0.heap.size w0 w
  size : a.tmps.size = n
  slot : ∀ t v, S.fs t = some v → ∃ v', a.tmps[t]? = some v' ∧ V2 R v v'
  func : ∀ i b b', R i b → R i b' → b = b'
  inj : ∀ i j b, R i b → R j b → i = j
  mem : ∀ i blk, S.fm i = some blk → ∃ b cs fz, R i b ∧ w.heap[b]? = some (.cells cs blk.elem fz) ∧ LR (V0 R) blk.cells cs.toList ∧ (blk.own = true → fz = (0, 0) ∧ w0.heap.size ≤ b)
  dom : ∀ i b, R i b → (S.fm i).isSome = true

end Go.W
