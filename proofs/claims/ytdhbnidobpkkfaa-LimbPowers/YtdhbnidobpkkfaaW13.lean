/-
  The engine, part 13: loops that are told at one state.
-/
import Derived.Test.YtdhbnidobpkkfaaW12
namespace Go.W
open Go.RowKit (Below)

def veq0 : Value → Value → Bool
  | .int k x, .int k' y => decide (k = k') && decide (x = y)
  | .bool a, .bool b => decide (a = b)
  | .pointer a, .pointer b => decide (a = b)
  | .slice a n c, .slice b m d => decide (a = b) && Nat.beq n m && Nat.beq c d
  | .string s, .string t => decide (s = t)
  | _, _ => false

def leq (q : Value → Value → Bool) : List Value → List Value → Bool
  | [], [] => true
  | a :: l, b :: m => q a b && leq q l m
  | _, _ => false

def veq1 : Value → Value → Bool
  | .agg xs, .agg ys => leq veq0 xs.toList ys.toList
  | v, u => veq0 v u

def slotsEq : List (Nat × Value) → List (Nat × Value) → Bool
  | [], [] => true
  | a :: l, b :: m => Nat.beq a.1 b.1 && veq1 a.2 b.2 && slotsEq l m
  | _, _ => false

def memEq : List (Nat × Blk) → List (Nat × Blk) → Bool
  | [], [] => true
  | a :: l, b :: m => Nat.beq a.1 b.1 && leq veq0 a.2.cells b.2.cells && Nat.beq a.2.elem b.2.elem && decide (a.2.own = b.2.own) && memEq l m
  | _, _ => false

def stEq (s t : St) : Bool := slotsEq s.slots t.slots && memEq s.mem t.mem && Nat.beq s.next t.next

theorem veq0_eq {a b : Value} (h : veq0 a b = true) : a = b := by
  unfold veq0 at h
  split at h <;> simp_all

theorem leq_eq {q : Value → Value → Bool} (hq : ∀ a b, q a b = true → a = b) : ∀ {l m : List Value}, leq q l m = true → l = m
  | [], [], _ => rfl
  | a :: l, b :: m, h => by
    simp only [leq, Bool.and_eq_true] at h
    rw [hq a b h.1, leq_eq hq h.2]
  | [], _ :: _, h => by simp [leq] at h
  | _ :: _, [], h => by simp [leq] at h

theorem veq1_eq {a b : Value} (h : veq1 a b = true) : a = b := by
  unfold veq1 at h
  split at h
  · rename_i xs ys
    congr 1
    exact Array.toList_inj.1 (leq_eq (fun _ _ => veq0_eq) h)
  · exact veq0_eq h

theorem slotsEq_eq : ∀ {l m : List (Nat × Value)}, slotsEq l m = true → l = m
  | [], [], _ => rfl
  | (a, x) :: l, (b, y) :: m, h => by
    simp only [slotsEq, Bool.and_eq_true] at h
    rw [nbeq.1 h.1.1, veq1_eq h.1.2, slotsEq_eq h.2]
  | [], _ :: _, h => by simp [slotsEq] at h
  | _ :: _, [], h => by simp [slotsEq] at h

theorem memEq_eq : ∀ {l m : List (Nat × Blk)}, memEq l m = true → l = m
  | [], [], _ => rfl
  | (a, ⟨c, e, o⟩) :: l, (b, ⟨c', e', o'⟩) :: m, h => by
    simp only [memEq, Bool.and_eq_true, decide_eq_true_eq] at h
    obtain ⟨⟨⟨⟨h1, h2⟩, h3⟩, h4⟩, h5⟩ := h
    rw [nbeq.1 h1, leq_eq (fun _ _ => veq0_eq) h2, nbeq.1 h3, h4, memEq_eq h5]
  | [], _ :: _, h => by simp [memEq] at h
  | _ :: _, [], h => by simp [memEq] at h

theorem stEq_eq {s t : St} (h : stEq s t = true) : s = t := by
  obtain ⟨a, b, c⟩ := s
  obtain ⟨a', b', c'⟩ := t
  simp only [stEq, Bool.and_eq_true] at h
  rw [slotsEq_eq h.1.1, memEq_eq h.1.2, nbeq.1 h.2]

/-- Plain enough to be held against itself. -/
def vok0 : Value → Bool
  | .int _ _ => true
  | .bool _ => true
  | .pointer _ => true
  | .slice _ _ _ => true
  | .string _ => true
  | _ => false

def vok1 : Value → Bool
  | .agg xs => xs.toList.all vok0
  | v => vok0 v

def stOk (s : St) : Bool := s.slots.all (fun p => vok1 p.2) && s.mem.all (fun p => p.2.cells.all vok0)

theorem veq0_refl {a : Value} (h : vok0 a = true) : veq0 a a = true := by
  unfold vok0 at h
  split at h <;> simp_all [veq0]

theorem leq_refl {q : Value → Value → Bool} {p : Value → Bool} (hq : ∀ a, p a = true → q a a = true) : ∀ {l : List Value}, l.all p = true → leq q l l = true
  | [], _ => rfl
  | a :: l, h => by
    simp only [List.all_cons, Bool.and_eq_true] at h
    simp only [leq, hq a h.1, leq_refl hq h.2, Bool.and_self]

theorem veq1_refl {a : Value} (h : vok1 a = true) : veq1 a a = true := by
  unfold vok1 at h
  split at h
  · exact leq_refl (fun _ => veq0_refl) h
  · rename_i hne
    unfold veq1
    split
    · exact absurd rfl (hne _)
    · exact veq0_refl h

theorem slotsEq_refl : ∀ {l : List (Nat × Value)}, l.all (fun p => vok1 p.2) = true → slotsEq l l = true
  | [], _ => rfl
  | (a, x) :: l, h => by
    simp only [List.all_cons, Bool.and_eq_true] at h
    simp only [slotsEq, Nat.beq_refl, veq1_refl h.1, slotsEq_refl h.2, Bool.and_self]

theorem memEq_refl : ∀ {l : List (Nat × Blk)}, l.all (fun p => p.2.cells.all vok0) = true → memEq l l = true
  | [], _ => rfl
  | (a, ⟨c, e, o⟩) :: l, h => by
    simp only [List.all_cons, Bool.and_eq_true] at h
    simp only [memEq, Nat.beq_refl, leq_refl (fun _ => veq0_refl) h.1, memEq_refl h.2, Bool.and_self, decide_true]

theorem stEq_refl {s : St} (h : stOk s = true) : stEq s s = true := by
  simp only [stOk, Bool.and_eq_true] at h
  simp only [stEq, slotsEq_refl h.1, memEq_refl h.2, Nat.beq_refl, Bool.and_self]

/-- A loop that is told at one state alone: cut down so, it must be that one; then this is what it comes to. -/
def atSt (ts is : List Nat) (nx : Nat) (s0 : St) (e : Exit) (sf : St) (s : St) : List (Bool × Exit × St) :=
  oK (restS ts is nx s) (fun s1 => [(stEq s1 s0, e, sf)]) []

theorem atSt_ok {P : Program} {n : Nat} {body : Code} {ts is : List Nat} {nx : Nat} {s0 : St} {e : Exit} {sf : St}
    (h : ∀ (w0 : World) (R : Nat → Nat → Prop) (a : Act) (w : World), Rel w0 n R s0.f a w → (Code.loop body).wp P (fun e' a' w' => e' = e ∧ ∃ R', Rel w0 n R' sf.f a' w') a w) : LoopOk P n body (atSt ts is nx s0 e sf) := by
  intro w0 R s a w hrel e' s' hp
  unfold atSt at hp
  cases hr : restS ts is nx s with
  | none => rw [hr] at hp; simp [oK, pickL] at hp
  | some s1 =>
    rw [hr] at hp
    simp only [oK, pickL, cond_some] at hp
    obtain ⟨h1, h2⟩ := hp
    have := stEq_eq h1; subst this
    cases h2
    obtain ⟨R', hr'⟩ := Rel.rest hr hrel
    exact h w0 R' a w hr'

theorem oneL {P : Program} {n : Nat} {c : Code} {p : List Nat} {F : St → List (Bool × Exit × St)} (h : LoopOk P n (loopAt p c) F) : ∀ q F', lookP [(p, F)] q = some F' → LoopOk P n (loopAt q c) F' := by
  intro q F' hq
  simp only [lookP] at hq
  cases he : nlEq p q with
  | false => rw [he] at hq; simp at hq
  | true => rw [he] at hq; simp at hq; subst hq; rw [← nlEq_iff he]; exact h

theorem consL {P : Program} {n : Nat} {c : Code} {p : List Nat} {F : St → List (Bool × Exit × St)} {L : List (List Nat × (St → List (Bool × Exit × St)))} (h : LoopOk P n (loopAt p c) F)
    (hL : ∀ q F', lookP L q = some F' → LoopOk P n (loopAt q c) F') : ∀ q F', lookP ((p, F) :: L) q = some F' → LoopOk P n (loopAt q c) F' := by
  intro q F' hq
  simp only [lookP] at hq
  cases he : nlEq p q with
  | false => rw [he] at hq; exact hL q F' hq
  | true => rw [he] at hq; simp at hq; subst hq; rw [← nlEq_iff he]; exact h

def ptr (b : Nat) : Value := .pointer (some ⟨b, 0, none⟩)

end Go.W
