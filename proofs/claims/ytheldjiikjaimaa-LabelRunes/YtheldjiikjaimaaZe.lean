/-
  Several texts in one: M87 M88 M89 W15 W25 M29 M31 W17 M35 M36 M37 M38 W21 W23 W24 M51 M81 M82 M90 W32 M91 Xb M92 Xc M93 Xd.
-/
import Derived.Test.YtheldjiikjaimaaZd
import Derived.ChangeArms
import Derived.Deep.Slices
import Derived.Shelf.Pu.Clone
namespace Go.W
open Go
def byt (s : ByteArray) (j : Nat) : Nat := (s.data.toList.getD j 0).toNat
theorem byt_lt (s : ByteArray) (j : Nat) : byt s j < 256 := (s.data.toList.getD j 0).toNat_lt
theorem get_byt (s : ByteArray) (j : Nat) : (s.get! j).toNat = byt s j := by
  cases s with | mk d =>
  show (d[j]!).toNat = (d.toList.getD j 0).toNat
  congr 1
  rw [List.getD_eq_getElem?_getD, Array.getElem?_toList]
  simp [getElem!_def]
  cases d[j]? <;> rfl
theorem byt_app (a b : ByteArray) (j : Nat) : byt (a ++ b) j = if j < a.size then byt a j else byt b (j - a.size) := by
  unfold byt
  rw [ByteArray.data_append, Array.toList_append, List.getD_eq_getElem?_getD, List.getD_eq_getElem?_getD, List.getD_eq_getElem?_getD]
  have e : a.data.toList.length = a.size := Array.length_toList
  by_cases h : j < a.size
  · rw [if_pos h, List.getElem?_append_left (by omega)]
  · rw [if_neg h, List.getElem?_append_right (by omega), e]
theorem txt_ext {a b : ByteArray} (h : a.size = b.size) (h2 : ∀ j, j < a.size → byt a j = byt b j) : a = b := by
  apply ByteArray.ext
  apply Array.toList_inj.1
  have e1 : a.data.toList.length = a.size := Array.length_toList
  have e2 : b.data.toList.length = b.size := Array.length_toList
  apply List.ext_getElem (by omega)
  intro j h3 h4
  have := h2 j (by omega)
  unfold byt at this
  rw [List.getD_eq_getElem?_getD, List.getD_eq_getElem?_getD, List.getElem?_eq_getElem h3, List.getElem?_eq_getElem h4] at this
  exact UInt8.toNat_inj.1 this
theorem txt_eq (a b : ByteArray) : (a == b) = decide (a = b) := by
  rw [Bool.eq_iff_iff, decide_eq_true_eq]
  cases a with | mk x => cases b with | mk y =>
  show (x == y) = true ↔ _
  simp
def decB (b : Nat → Nat) (n i : Nat) : Nat × Nat :=
  let cont (k : Nat) : Bool := decide (i + k < n) && b (i + k) / 64 == 2
  if b i < 128 then (b i, 1)
  else if b i / 32 == 6 && cont 1 then
    if (b i % 32) * 64 + b (i + 1) % 64 ≥ 128 then ((b i % 32) * 64 + b (i + 1) % 64, 2) else (65533, 1)
  else if b i / 16 == 14 && cont 1 && cont 2 then
    if (b i % 16) * 4096 + (b (i + 1) % 64) * 64 + b (i + 2) % 64 ≥ 2048 && Utf8.valid (((b i % 16) * 4096 + (b (i + 1) % 64) * 64 + b (i + 2) % 64 : Nat) : Int) then ((b i % 16) * 4096 + (b (i + 1) % 64) * 64 + b (i + 2) % 64, 3) else (65533, 1)
  else if b i / 8 == 30 && cont 1 && cont 2 && cont 3 then
    if (b i % 8) * 262144 + (b (i + 1) % 64) * 4096 + (b (i + 2) % 64) * 64 + b (i + 3) % 64 ≥ 65536 && Utf8.valid (((b i % 8) * 262144 + (b (i + 1) % 64) * 4096 + (b (i + 2) % 64) * 64 + b (i + 3) % 64 : Nat) : Int) then ((b i % 8) * 262144 + (b (i + 1) % 64) * 4096 + (b (i + 2) % 64) * 64 + b (i + 3) % 64, 4) else (65533, 1)
  else (65533, 1)
theorem dec_decB (s : ByteArray) (i : Nat) : Utf8.decode s i = decB (byt s) s.size i := by
  unfold Utf8.decode decB
  simp only [get_byt, Nat.add_zero]
  rfl
def runeAt (b : Nat → Nat) (i r w : Nat) : Prop :=
  (w = 1 ∧ b i < 128 ∧ r = b i) ∨
  (w = 2 ∧ b i / 32 = 6 ∧ b (i + 1) / 64 = 2 ∧ r = (b i % 32) * 64 + b (i + 1) % 64 ∧ 128 ≤ r) ∨
  (w = 3 ∧ b i / 16 = 14 ∧ b (i + 1) / 64 = 2 ∧ b (i + 2) / 64 = 2 ∧ r = (b i % 16) * 4096 + (b (i + 1) % 64) * 64 + b (i + 2) % 64 ∧ 2048 ≤ r ∧ Utf8.valid (r : Int) = true) ∨
  (w = 4 ∧ b i / 8 = 30 ∧ b (i + 1) / 64 = 2 ∧ b (i + 2) / 64 = 2 ∧ b (i + 3) / 64 = 2 ∧ r = (b i % 8) * 262144 + (b (i + 1) % 64) * 4096 + (b (i + 2) % 64) * 64 + b (i + 3) % 64 ∧ 65536 ≤ r ∧ Utf8.valid (r : Int) = true)
theorem cont_iff {b : Nat → Nat} {n j : Nat} : (decide (j < n) && b j / 64 == 2) = true ↔ j < n ∧ b j / 64 = 2 := by
  rw [Bool.and_eq_true, decide_eq_true_eq, beq_iff_eq]
theorem decB_rune {b : Nat → Nat} {n i r w : Nat} (h : runeAt b i r w) (hn : i + w ≤ n) : decB b n i = (r, w) := by
  unfold decB
  rcases h with ⟨rfl, h1, rfl⟩ | ⟨rfl, h1, h2, rfl, h3⟩ | ⟨rfl, h1, h2, h3, rfl, h4, h5⟩ | ⟨rfl, h1, h2, h3, h4, rfl, h5, h6⟩
  · rw [if_pos h1]
  · rw [if_neg (by omega), if_pos (by rw [Bool.and_eq_true, cont_iff, beq_iff_eq]; omega), if_pos h3]
  · rw [if_neg (by omega), if_neg (by rw [Bool.and_eq_true, beq_iff_eq]; omega), if_pos (by rw [Bool.and_eq_true, Bool.and_eq_true, cont_iff, cont_iff, beq_iff_eq]; omega), if_pos (by rw [Bool.and_eq_true, decide_eq_true_eq]; exact ⟨h4, h5⟩)]
  · rw [if_neg (by omega), if_neg (by rw [Bool.and_eq_true, beq_iff_eq]; omega), if_neg (by rw [Bool.and_eq_true, Bool.and_eq_true, beq_iff_eq]; omega), if_pos (by rw [Bool.and_eq_true, Bool.and_eq_true, Bool.and_eq_true, cont_iff, cont_iff, cont_iff, beq_iff_eq]; omega), if_pos (by rw [Bool.and_eq_true, decide_eq_true_eq]; exact ⟨h5, h6⟩)]
theorem decB_cases {b : Nat → Nat} {n i : Nat} (hi : i < n) : (decB b n i = (65533, 1) ∧ ∀ r w, i + w ≤ n → ¬ runeAt b i r w) ∨ ∃ r w, decB b n i = (r, w) ∧ runeAt b i r w ∧ i + w ≤ n := by
  by_cases h : ∃ r w, runeAt b i r w ∧ i + w ≤ n
  · obtain ⟨r, w, h1, h2⟩ := h
    exact .inr ⟨r, w, decB_rune h1 h2, h1, h2⟩
  · refine .inl ⟨?_, fun r w h1 h2 => h ⟨r, w, h2, h1⟩⟩
    unfold decB
    by_cases h0 : b i < 128
    · exact absurd ⟨b i, 1, .inl ⟨rfl, h0, rfl⟩, by omega⟩ h
    rw [if_neg h0]
    by_cases h1 : b i / 32 = 6 ∧ i + 1 < n ∧ b (i + 1) / 64 = 2
    · rw [if_pos (by rw [Bool.and_eq_true, cont_iff, beq_iff_eq]; exact h1)]
      by_cases h2 : (b i % 32) * 64 + b (i + 1) % 64 ≥ 128
      · exact absurd ⟨_, 2, .inr (.inl ⟨rfl, h1.1, h1.2.2, rfl, h2⟩), by omega⟩ h
      · rw [if_neg h2]
    rw [if_neg (by rw [Bool.and_eq_true, cont_iff, beq_iff_eq]; exact h1)]
    by_cases h2 : (b i / 16 = 14 ∧ i + 1 < n ∧ b (i + 1) / 64 = 2) ∧ i + 2 < n ∧ b (i + 2) / 64 = 2
    · rw [if_pos (by rw [Bool.and_eq_true, Bool.and_eq_true, cont_iff, cont_iff, beq_iff_eq]; exact h2)]
      by_cases h3 : (b i % 16) * 4096 + (b (i + 1) % 64) * 64 + b (i + 2) % 64 ≥ 2048 ∧ Utf8.valid (((b i % 16) * 4096 + (b (i + 1) % 64) * 64 + b (i + 2) % 64 : Nat) : Int) = true
      · exact absurd ⟨_, 3, .inr (.inr (.inl ⟨rfl, h2.1.1, h2.1.2.2, h2.2.2, rfl, h3.1, h3.2⟩)), by omega⟩ h
      · rw [if_neg (by rw [Bool.and_eq_true, decide_eq_true_eq]; exact h3)]
    rw [if_neg (by rw [Bool.and_eq_true, Bool.and_eq_true, cont_iff, cont_iff, beq_iff_eq]; exact h2)]
    by_cases h3 : ((b i / 8 = 30 ∧ i + 1 < n ∧ b (i + 1) / 64 = 2) ∧ i + 2 < n ∧ b (i + 2) / 64 = 2) ∧ i + 3 < n ∧ b (i + 3) / 64 = 2
    · rw [if_pos (by rw [Bool.and_eq_true, Bool.and_eq_true, Bool.and_eq_true, cont_iff, cont_iff, cont_iff, beq_iff_eq]; exact h3)]
      by_cases h4 : (b i % 8) * 262144 + (b (i + 1) % 64) * 4096 + (b (i + 2) % 64) * 64 + b (i + 3) % 64 ≥ 65536 ∧ Utf8.valid (((b i % 8) * 262144 + (b (i + 1) % 64) * 4096 + (b (i + 2) % 64) * 64 + b (i + 3) % 64 : Nat) : Int) = true
      · exact absurd ⟨_, 4, .inr (.inr (.inr ⟨rfl, h3.1.1.1, h3.1.1.2.2, h3.1.2.2, h3.2.2, rfl, h4.1, h4.2⟩)), by omega⟩ h
      · rw [if_neg (by rw [Bool.and_eq_true, decide_eq_true_eq]; exact h4)]
    rw [if_neg (by rw [Bool.and_eq_true, Bool.and_eq_true, Bool.and_eq_true, cont_iff, cont_iff, cont_iff, beq_iff_eq]; exact h3)]
theorem runeAt_congr {b b' : Nat → Nat} {i i' r w : Nat} (h : runeAt b i r w) (hb : ∀ k, k < w → b' (i' + k) = b (i + k)) : runeAt b' i' r w := by
  rcases h with ⟨rfl, h1, rfl⟩ | ⟨rfl, h1, h2, rfl, h3⟩ | ⟨rfl, h1, h2, h3, rfl, h4, h5⟩ | ⟨rfl, h1, h2, h3, h4, rfl, h5, h6⟩
  · have e0 : b' i' = b i := hb 0 (by omega)
    exact .inl ⟨rfl, by rw [e0]; exact h1, e0.symm⟩
  · have e0 : b' i' = b i := hb 0 (by omega)
    have e1 := hb 1 (by omega)
    exact .inr (.inl ⟨rfl, by rw [e0]; exact h1, by rw [e1]; exact h2, by rw [e0, e1], h3⟩)
  · have e0 : b' i' = b i := hb 0 (by omega)
    have e1 := hb 1 (by omega)
    have e2 := hb 2 (by omega)
    exact .inr (.inr (.inl ⟨rfl, by rw [e0]; exact h1, by rw [e1]; exact h2, by rw [e2]; exact h3, by rw [e0, e1, e2], h4, h5⟩))
  · have e0 : b' i' = b i := hb 0 (by omega)
    have e1 := hb 1 (by omega)
    have e2 := hb 2 (by omega)
    have e3 := hb 3 (by omega)
    exact .inr (.inr (.inr ⟨rfl, by rw [e0]; exact h1, by rw [e1]; exact h2, by rw [e2]; exact h3, by rw [e3]; exact h4, by rw [e0, e1, e2, e3], h5, h6⟩))
theorem runeAt_w {b : Nat → Nat} {i r w : Nat} (h : runeAt b i r w) : 1 ≤ w ∧ w ≤ 4 := by
  rcases h with ⟨rfl, _⟩ | ⟨rfl, _⟩ | ⟨rfl, _⟩ | ⟨rfl, _⟩ <;> omega
theorem decB_w {b : Nat → Nat} {n i : Nat} (hi : i < n) : 1 ≤ (decB b n i).2 ∧ i + (decB b n i).2 ≤ n := by
  rcases decB_cases (b := b) hi with ⟨h, _⟩ | ⟨r, w, h, h1, h2⟩
  · rw [h]; exact ⟨Nat.le_refl _, hi⟩
  · rw [h]; exact ⟨(runeAt_w h1).1, h2⟩
theorem decB_shift {b b' : Nat → Nat} {n n' i i' : Nat} (hi : i < n) (hn : n' - i' = n - i) (hi' : i' < n') (hb : ∀ k, i + k < n → b' (i' + k) = b (i + k)) : decB b' n' i' = decB b n i := by
  rcases decB_cases (b := b) hi with ⟨h, hno⟩ | ⟨r, w, h, h1, h2⟩
  · rcases decB_cases (b := b') hi' with ⟨h', _⟩ | ⟨r, w, h', h1, h2⟩
    · rw [h, h']
    · exact absurd (runeAt_congr h1 fun k hk => (hb k (by omega)).symm) (hno r w (by omega))
  · rw [h]; exact decB_rune (runeAt_congr h1 fun k hk => hb k (by omega)) (by omega)
theorem decB_ext {b b' : Nat → Nat} {n n' i : Nat} (hn : n ≤ n') (hi : i < n) (hv : decB b n i ≠ (65533, 1)) (hb : ∀ k, k < n → b' k = b k) : decB b' n' i = decB b n i := by
  rcases decB_cases (b := b) hi with ⟨h, _⟩ | ⟨r, w, h, h1, h2⟩
  · exact absurd h hv
  · rw [h]; exact decB_rune (runeAt_congr h1 fun k hk => hb _ (by omega)) (by omega)
def dC (s : ByteArray) (p : Nat) : Nat := (decB (byt s) s.size p).1
def dW (s : ByteArray) (p : Nat) : Nat := (decB (byt s) s.size p).2
theorem dcC_dC (s : ByteArray) (p : Nat) : dcC s p = (dC s p : Int) := by unfold dcC dC; rw [dec_decB]
theorem dcW_dW (s : ByteArray) (p : Nat) : dcW s p = dW s p := by unfold dcW dW; rw [dec_decB]
theorem dW_le {s : ByteArray} {p : Nat} (h : p < s.size) : 1 ≤ dW s p ∧ p + dW s p ≤ s.size := decB_w h
def stp (s : ByteArray) (p : Nat) : Nat := if p < s.size then p + dW s p else p
def psF (s : ByteArray) (p : Nat) : Nat → Nat
  | 0 => p
  | k + 1 => stp s (psF s p k)
def ps (s : ByteArray) (k : Nat) : Nat := psF s 0 k
def rc (s : ByteArray) (k : Nat) : Nat := dC s (ps s k)
theorem psF_add (s : ByteArray) (p j : Nat) : ∀ k, psF s p (j + k) = psF s (psF s p j) k
  | 0 => rfl
  | k + 1 => by show stp s (psF s p (j + k)) = stp s _; rw [psF_add s p j k]
theorem ps_zero (s : ByteArray) : ps s 0 = 0 := rfl
theorem ps_succ (s : ByteArray) (k : Nat) : ps s (k + 1) = stp s (ps s k) := rfl
theorem stp_le {s : ByteArray} {p : Nat} (h : p ≤ s.size) : stp s p ≤ s.size ∧ p ≤ stp s p := by
  unfold stp
  split
  · rename_i h1; have := dW_le h1; omega
  · omega
theorem ps_le (s : ByteArray) : ∀ k, ps s k ≤ s.size
  | 0 => Nat.zero_le _
  | k + 1 => (stp_le (ps_le s k)).1
theorem ps_lt {s : ByteArray} {k : Nat} (h : ps s k < s.size) : ps s k < ps s (k + 1) ∧ ps s (k + 1) = ps s k + dW s (ps s k) := by
  have e : ps s (k + 1) = ps s k + dW s (ps s k) := by rw [ps_succ]; unfold stp; rw [if_pos h]
  have := dW_le h
  omega
def isK (s : ByteArray) (n : Nat) : Prop := (∀ k, k < n → ps s k < s.size) ∧ ps s n = s.size
theorem isK_fun {s : ByteArray} {n m : Nat} (h : isK s n) (h2 : isK s m) : n = m := by
  rcases Nat.lt_trichotomy n m with h3 | h3 | h3
  · have := h2.1 n h3; have := h.2; omega
  · exact h3
  · have := h.1 m h3; have := h2.2; omega
theorem ps_grow (s : ByteArray) : ∀ k, k ≤ ps s k ∨ ps s k = s.size
  | 0 => .inl (Nat.le_refl _)
  | k + 1 => by
    by_cases h : ps s k < s.size
    · have := ps_lt h
      rcases ps_grow s k with h1 | h1 <;> omega
    · right
      rw [ps_succ]; unfold stp; rw [if_neg h]
      have := ps_le s k; omega
theorem isK_ex (s : ByteArray) : ∃ n, isK s n ∧ n ≤ s.size := by
  have key : ∀ n, (∀ k, k < n → ps s k < s.size) ∨ ∃ m, m < n ∧ isK s m := by
    intro n
    induction n with
    | zero => exact .inl fun k h => absurd h (Nat.not_lt_zero _)
    | succ n ih =>
      rcases ih with h | ⟨m, h1, h2⟩
      · by_cases e : ps s n < s.size
        · left
          intro k hk
          by_cases e2 : k = n
          · rw [e2]; exact e
          · exact h k (by omega)
        · right
          exact ⟨n, by omega, h, by have := ps_le s n; omega⟩
      · exact .inr ⟨m, by omega, h2⟩
  rcases key (s.size + 1) with h | ⟨m, h1, h2⟩
  · exfalso
    have h1 := h s.size (by omega)
    rcases ps_grow s s.size with h2 | h2 <;> omega
  · exact ⟨m, h2, by omega⟩
noncomputable def rN (s : ByteArray) : Nat := hide (Classical.choose (isK_ex s))
theorem rN_is (s : ByteArray) : isK s (rN s) := by unfold rN; rw [hide_eq]; exact (Classical.choose_spec (isK_ex s)).1
theorem rN_le (s : ByteArray) : rN s ≤ s.size := by unfold rN; rw [hide_eq]; exact (Classical.choose_spec (isK_ex s)).2
theorem rN_of {s : ByteArray} {n : Nat} (h : isK s n) : rN s = n := isK_fun (rN_is s) h
end Go.W

namespace Go.W
open Go
theorem size_app (a b : ByteArray) : (a ++ b).size = a.size + b.size := ByteArray.size_append
theorem dec_behind (c r : ByteArray) {p : Nat} (hp : p < r.size) : decB (byt (c ++ r)) (c ++ r).size (c.size + p) = decB (byt r) r.size p := by
  rw [size_app]
  exact decB_shift hp (by omega) (by omega) fun k hk => by rw [byt_app, if_neg (by omega), show c.size + p + k - c.size = p + k from by omega]
theorem stp_behind (c r : ByteArray) (p : Nat) : stp (c ++ r) (c.size + p) = c.size + stp r p := by
  unfold stp
  rw [size_app]
  by_cases h : p < r.size
  · rw [if_pos (by omega), if_pos h]
    show c.size + p + (decB _ _ _).2 = _
    rw [dec_behind c r h]
    show _ = c.size + (p + (decB _ _ _).2)
    omega
  · rw [if_neg (by omega), if_neg h]
theorem psF_behind (c r : ByteArray) (p : Nat) : ∀ j, psF (c ++ r) (c.size + p) j = c.size + psF r p j
  | 0 => rfl
  | j + 1 => by
    show stp _ (psF _ _ j) = c.size + stp r (psF r p j)
    rw [psF_behind c r p j, stp_behind]
theorem ps_behind {c r : ByteArray} {m : Nat} (h : ps (c ++ r) m = c.size) (j : Nat) : ps (c ++ r) (m + j) = c.size + ps r j := by
  show psF _ 0 (m + j) = _
  rw [psF_add, show psF (c ++ r) 0 m = c.size + 0 from h, psF_behind]; rfl
theorem rc_behind {c r : ByteArray} {m : Nat} (h : ps (c ++ r) m = c.size) {j : Nat} (hj : j < rN r) : rc (c ++ r) (m + j) = rc r j := by
  unfold rc
  rw [ps_behind h]
  show (decB _ _ _).1 = (decB _ _ _).1
  rw [dec_behind c r ((rN_is r).1 j hj)]
theorem rN_behind {c r : ByteArray} {m : Nat} (h : ps (c ++ r) m = c.size) (h2 : ∀ k, k < m → ps (c ++ r) k < c.size) : rN (c ++ r) = m + rN r := by
  apply rN_of
  refine ⟨fun k hk => ?_, ?_⟩
  · rw [size_app]
    by_cases e : k < m
    · have := h2 k e; omega
    · obtain ⟨j, rfl⟩ : ∃ j, k = m + j := ⟨k - m, by omega⟩
      rw [ps_behind h]
      have := (rN_is r).1 j (by omega)
      omega
  · rw [ps_behind h, size_app, (rN_is r).2]
def right (s : ByteArray) : Prop := ∀ k, k < rN s → decB (byt s) s.size (ps s k) ≠ (65533, 1)
theorem dec_ahead {a b : ByteArray} {p : Nat} (hp : p < a.size) (hv : decB (byt a) a.size p ≠ (65533, 1)) : decB (byt (a ++ b)) (a ++ b).size p = decB (byt a) a.size p :=
  decB_ext (by rw [size_app]; omega) hp hv fun k hk => by rw [byt_app, if_pos hk]
theorem ps_ahead {a b : ByteArray} (h : right a) : ∀ k, k ≤ rN a → ps (a ++ b) k = ps a k
  | 0, _ => rfl
  | k + 1, hk => by
    have h1 := (rN_is a).1 k (by omega)
    rw [ps_succ, ps_succ, ps_ahead h k (by omega)]
    unfold stp
    rw [if_pos (by rw [size_app]; omega), if_pos h1]
    show _ + (decB _ _ _).2 = _ + (decB _ _ _).2
    rw [dec_ahead h1 (h k (by omega))]
theorem rc_ahead {a b : ByteArray} (h : right a) {k : Nat} (hk : k < rN a) : rc (a ++ b) k = rc a k := by
  unfold rc
  rw [ps_ahead h k (by omega)]
  show (decB _ _ _).1 = (decB _ _ _).1
  rw [dec_ahead ((rN_is a).1 k hk) (h k hk)]
theorem ps_join {a b : ByteArray} (h : right a) : ps (a ++ b) (rN a) = a.size := by rw [ps_ahead h _ (Nat.le_refl _), (rN_is a).2]
theorem rN_join {a b : ByteArray} (h : right a) : rN (a ++ b) = rN a + rN b :=
  rN_behind (ps_join h) fun k hk => by rw [ps_ahead h k (by omega)]; exact (rN_is a).1 k hk
theorem rc_join {a b : ByteArray} (h : right a) {j : Nat} (hj : j < rN b) : rc (a ++ b) (rN a + j) = rc b j := rc_behind (ps_join h) hj
theorem right_join {a b : ByteArray} (h : right a) (h2 : right b) : right (a ++ b) := by
  intro k hk
  rw [rN_join h] at hk
  by_cases e : k < rN a
  · rw [ps_ahead h k (by omega), dec_ahead ((rN_is a).1 k e) (h k e)]; exact h k e
  · obtain ⟨j, rfl⟩ : ∃ j, k = rN a + j := ⟨k - rN a, by omega⟩
    rw [ps_behind (ps_join h), dec_behind a b ((rN_is b).1 j (by omega))]
    exact h2 j (by omega)
def okC (r : Nat) : Prop := 32 ≤ r ∧ (r < 127 ∨ 160 ≤ r) ∧ r ≠ 65533
def lbl (s : ByteArray) : Prop := 1 ≤ rN s ∧ rN s ≤ 24 ∧ (∀ k, k < rN s → okC (rc s k)) ∧ rc s 0 ≠ 32 ∧ rc s (rN s - 1) ≠ 32
noncomputable def lblB (s : ByteArray) : Bool := hide (@decide (lbl s) (Classical.propDecidable _))
theorem lblB_iff {s : ByteArray} : lblB s = true ↔ lbl s := by
  unfold lblB; rw [hide_eq]
  exact ⟨fun h => @of_decide_eq_true _ (Classical.propDecidable _) h, fun h => @decide_eq_true _ (Classical.propDecidable _) h⟩
end Go.W

namespace Go.W
open Go
def fdN (x : Nat) : Nat := if 65 ≤ x ∧ x ≤ 90 then x + 32 else x
def fdU (x : UInt8) : UInt8 := UInt8.ofNat (fdN x.toNat)
theorem fdN_lt {x : Nat} (h : x < 256) : fdN x < 256 := by unfold fdN; split <;> omega
theorem fdU_nat (x : UInt8) : (fdU x).toNat = fdN x.toNat := by
  unfold fdU
  rw [UInt8.toNat_ofNat']
  exact Nat.mod_eq_of_lt (fdN_lt x.toNat_lt)
noncomputable def foT (s : ByteArray) : ByteArray := hide ⟨(s.data.toList.map fdU).toArray⟩
theorem foT_size (s : ByteArray) : (foT s).size = s.size := by
  unfold foT; rw [hide_eq]
  show (List.toArray _).size = s.data.size
  simp
theorem byt_fo (s : ByteArray) (j : Nat) : byt (foT s) j = fdN (byt s j) := by
  unfold foT; rw [hide_eq]
  unfold byt
  show ((List.map fdU s.data.toList).toArray.toList.getD j 0).toNat = _
  rw [List.toList_toArray, List.getD_eq_getElem?_getD, List.getD_eq_getElem?_getD, List.getElem?_map]
  cases h : s.data.toList[j]? with
  | none => rfl
  | some x => exact fdU_nat x
theorem one_rune {s : ByteArray} {r : Nat} (h : runeAt (byt s) 0 r s.size) : rN s = 1 ∧ right s ∧ rc s 0 = r ∧ 1 ≤ s.size := by
  have hw := runeAt_w h
  have hd : decB (byt s) s.size 0 = (r, s.size) := decB_rune h (by omega)
  have hp : ps s 1 = s.size := by
    rw [ps_succ, ps_zero]
    unfold stp
    rw [if_pos (by omega)]
    show 0 + (decB _ _ _).2 = _
    rw [hd, Nat.zero_add]
  have hN : rN s = 1 := rN_of ⟨fun k hk => by rw [show k = 0 from by omega, ps_zero]; omega, hp⟩
  refine ⟨hN, fun k hk => ?_, ?_, hw.1⟩
  · rw [hN] at hk
    rw [show k = 0 from by omega, ps_zero, hd]
    rintro e
    simp only [Prod.mk.injEq] at e
    obtain ⟨rfl, e⟩ := e
    rw [e] at h
    rcases h with ⟨_, h1, h2⟩ | ⟨h1, _⟩ | ⟨h1, _⟩ | ⟨h1, _⟩ <;> omega
  · unfold rc
    rw [ps_zero]
    show (decB _ _ _).1 = r
    rw [hd]
theorem u8n (n : Nat) : (UInt8.ofNat n).toNat = n % 256 := UInt8.toNat_ofNat'
def vld (r : Int) : Prop := 0 ≤ r ∧ r ≤ 1114111 ∧ ¬ (55296 ≤ r ∧ r < 57344)
theorem valid_vld {r : Int} : Utf8.valid r = true ↔ vld r := by
  unfold Utf8.valid vld
  rw [Bool.or_eq_true, Bool.and_eq_true, Bool.and_eq_true, decide_eq_true_eq, decide_eq_true_eq, decide_eq_true_eq, decide_eq_true_eq]
  omega
theorem enc_rune {r : Int} (h : vld r) : runeAt (byt (Utf8.encode r)) 0 r.toNat (Utf8.encode r).size := by
  have hv := valid_vld.2 h
  obtain ⟨h1, h2, h3⟩ := h
  obtain ⟨c, rfl⟩ := Int.eq_ofNat_of_zero_le h1
  unfold Utf8.encode
  simp only [hv, if_true, Int.toNat_natCast]
  by_cases c1 : c < 128
  · rw [if_pos c1]
    refine .inl ⟨rfl, ?_, ?_⟩
    · show (UInt8.ofNat c).toNat < 128; rw [u8n]; omega
    · show c = (UInt8.ofNat c).toNat; rw [u8n]; omega
  rw [if_neg c1]
  by_cases c2 : c < 2048
  · rw [if_pos c2]
    have e0 : byt ⟨#[UInt8.ofNat (192 + c / 64), UInt8.ofNat (128 + c % 64)]⟩ 0 = 192 + c / 64 := by show (UInt8.ofNat _).toNat = _; rw [u8n]; omega
    have e1 : byt ⟨#[UInt8.ofNat (192 + c / 64), UInt8.ofNat (128 + c % 64)]⟩ (0 + 1) = 128 + c % 64 := by show (UInt8.ofNat _).toNat = _; rw [u8n]; omega
    exact .inr (.inl ⟨rfl, by rw [e0]; omega, by rw [e1]; omega, by rw [e0, e1]; omega, by omega⟩)
  rw [if_neg c2]
  by_cases c3 : c < 65536
  · rw [if_pos c3]
    have e0 : byt ⟨#[UInt8.ofNat (224 + c / 4096), UInt8.ofNat (128 + c / 64 % 64), UInt8.ofNat (128 + c % 64)]⟩ 0 = 224 + c / 4096 := by show (UInt8.ofNat _).toNat = _; rw [u8n]; omega
    have e1 : byt ⟨#[UInt8.ofNat (224 + c / 4096), UInt8.ofNat (128 + c / 64 % 64), UInt8.ofNat (128 + c % 64)]⟩ (0 + 1) = 128 + c / 64 % 64 := by show (UInt8.ofNat _).toNat = _; rw [u8n]; omega
    have e2 : byt ⟨#[UInt8.ofNat (224 + c / 4096), UInt8.ofNat (128 + c / 64 % 64), UInt8.ofNat (128 + c % 64)]⟩ (0 + 2) = 128 + c % 64 := by show (UInt8.ofNat _).toNat = _; rw [u8n]; omega
    exact .inr (.inr (.inl ⟨rfl, by rw [e0]; omega, by rw [e1]; omega, by rw [e2]; omega, by rw [e0, e1, e2]; omega, by omega, hv⟩))
  rw [if_neg c3]
  have e0 : byt ⟨#[UInt8.ofNat (240 + c / 262144), UInt8.ofNat (128 + c / 4096 % 64), UInt8.ofNat (128 + c / 64 % 64), UInt8.ofNat (128 + c % 64)]⟩ 0 = 240 + c / 262144 := by show (UInt8.ofNat _).toNat = _; rw [u8n]; omega
  have e1 : byt ⟨#[UInt8.ofNat (240 + c / 262144), UInt8.ofNat (128 + c / 4096 % 64), UInt8.ofNat (128 + c / 64 % 64), UInt8.ofNat (128 + c % 64)]⟩ (0 + 1) = 128 + c / 4096 % 64 := by show (UInt8.ofNat _).toNat = _; rw [u8n]; omega
  have e2 : byt ⟨#[UInt8.ofNat (240 + c / 262144), UInt8.ofNat (128 + c / 4096 % 64), UInt8.ofNat (128 + c / 64 % 64), UInt8.ofNat (128 + c % 64)]⟩ (0 + 2) = 128 + c / 64 % 64 := by show (UInt8.ofNat _).toNat = _; rw [u8n]; omega
  have e3 : byt ⟨#[UInt8.ofNat (240 + c / 262144), UInt8.ofNat (128 + c / 4096 % 64), UInt8.ofNat (128 + c / 64 % 64), UInt8.ofNat (128 + c % 64)]⟩ (0 + 3) = 128 + c % 64 := by show (UInt8.ofNat _).toNat = _; rw [u8n]; omega
  exact .inr (.inr (.inr ⟨rfl, by rw [e0]; omega, by rw [e1]; omega, by rw [e2]; omega, by rw [e3]; omega, by rw [e0, e1, e2, e3]; omega, by omega, hv⟩))
def encs (l : Nat → Int) : Nat → ByteArray
  | 0 => ⟨#[]⟩
  | k + 1 => encs l k ++ Utf8.encode (l k)
theorem rN_nil : rN ⟨#[]⟩ = 0 := rN_of ⟨fun _ h => absurd h (Nat.not_lt_zero _), rfl⟩
theorem encs_all {l : Nat → Int} : ∀ {n : Nat}, (∀ k, k < n → vld (l k)) → rN (encs l n) = n ∧ right (encs l n) ∧ (∀ k, k < n → rc (encs l n) k = (l k).toNat) ∧ (encs l n).size ≤ 4 * n
  | 0, _ => ⟨rN_nil, fun k hk => by rw [show rN (encs l 0) = 0 from rN_nil] at hk; exact absurd hk (Nat.not_lt_zero _), fun _ h => absurd h (Nat.not_lt_zero _), Nat.zero_le _⟩
  | n + 1, h => by
    obtain ⟨h1, h2, h3, h4⟩ := encs_all (n := n) fun k hk => h k (by omega)
    have he := enc_rune (h n (by omega))
    obtain ⟨k1, k2, k3, _⟩ := one_rune he
    have hw := runeAt_w he
    refine ⟨?_, right_join h2 k2, fun k hk => ?_, ?_⟩
    · show rN (encs l n ++ _) = _; rw [rN_join h2, h1, k1]
    · show rc (encs l n ++ _) k = _
      by_cases e : k < n
      · rw [rc_ahead h2 (by omega)]; exact h3 k e
      · rw [show k = rN (encs l n) + 0 from by omega, rc_join h2 (by omega), k3, h1, Nat.add_zero]
    · show (encs l n ++ _).size ≤ _; rw [size_app]; omega
theorem lbl_encs {l : Nat → Int} {n : Nat} (h : ∀ k, k < n → vld (l k)) : lbl (encs l n) ↔ 1 ≤ n ∧ n ≤ 24 ∧ (∀ k, k < n → okC (l k).toNat) ∧ (l 0).toNat ≠ 32 ∧ (l (n - 1)).toNat ≠ 32 := by
  obtain ⟨h1, h2, h3, _⟩ := encs_all h
  unfold lbl
  rw [h1]
  constructor
  · rintro ⟨k1, k2, k3, k4, k5⟩
    rw [h3 _ (by omega)] at k4 k5
    exact ⟨k1, k2, fun k hk => by rw [← h3 k hk]; exact k3 k hk, k4, k5⟩
  · rintro ⟨k1, k2, k3, k4, k5⟩
    rw [h3 _ (by omega), h3 _ (by omega)]
    exact ⟨k1, k2, fun k hk => by rw [h3 k hk]; exact k3 k hk, k4, k5⟩
end Go.W

namespace Go.W
open Go.RowKit (Below)
inductive Arg where
  | pl (v : Value)
  | sl (ks : List CK) (n : Nat) (g : Nat → List Value)
def argId (k : Nat) : Nat := 1500000 + k
def cArgs : List Arg → Nat → List Value
  | [], _ => []
  | .pl v :: r, k => v :: cArgs r (k + 1)
  | .sl _ n _ :: r, k => .slice (some ⟨argId k, 0, none⟩) n n :: cArgs r (k + 1)
def cMem (es : Nat → TypeId) : List Arg → Nat → List (Nat × Blk)
  | [], _ => []
  | .pl _ :: r, k => cMem es r (k + 1)
  | .sl ks n g :: r, k => (argId k, ⟨.row ks n g, es k, false⟩) :: cMem es r (k + 1)
section
variable {R : Type}
variable {R' : Type} (h : R → R')
end
section
variable {P : Program} {GL : Glob} {w0 : Wb GL} {R : Nat → Pl → Prop} {fm : Nat → Option Blk} {w : World}
theorem argId_loose (k : Nat) : loose (argId k) = true := by
  unfold loose argId
  rw [show Nat.ble 1500000 (1500000 + k) = true from by rw [Nat.ble_eq]; omega, Bool.or_true]
theorem cMem_congr {es es' : Nat → TypeId} : ∀ (A : List Arg) (k : Nat), (∀ j, k ≤ j → es j = es' j) → cMem es A k = cMem es' A k
  | [], _, _ => rfl
  | .pl _ :: r, k, h => cMem_congr r (k + 1) (fun j hj => h j (by omega))
  | .sl ks n g :: r, k, h => by simp only [cMem, h k (Nat.le_refl _), cMem_congr r (k + 1) (fun j hj => h j (by omega))]
def plAt (k : Nat) (p : Pl) (pl : Nat → Option Pl) (j : Nat) : Option Pl := if j = k then some p else pl j
theorem plAt_same (k : Nat) (p : Pl) (pl : Nat → Option Pl) : plAt k p pl k = some p := if_pos rfl
theorem plAt_ne {k j : Nat} (p : Pl) (pl : Nat → Option Pl) (h : j ≠ k) : plAt k p pl j = pl j := if_neg h
def PlOk (w : World) (i : Nat) (blk : Blk) (p : Pl) : Prop := blk.own = false ∧ (∃ ks n g, blk.cells = .row ks n g) ∧ (match p.a with
  | none => blk.cells.list = []
  | some b => ∃ cs fz, w.heap[b]? = some (.cells cs blk.elem fz) ∧ LP (fun _ _ => False) blk.cells.list (cs.toList.drop p.d)) ∧ i = i
theorem cMem_lt {es : Nat → TypeId} : ∀ (A : List Arg) (k j : Nat), (look (cMem es A k) (argId j)).isSome = true → j < k + A.length
  | [], k, j, h => by simp [cMem, look] at h
  | .pl _ :: r, k, j, h => by
    have := cMem_lt r (k + 1) j h
    simp only [List.length_cons]; omega
  | .sl ks n g :: r, k, j, h => by
    rw [cMem, look_cons] at h
    by_cases e : argId k = argId j
    · unfold argId at e; simp only [List.length_cons]; omega
    · rw [upd_ne _ _ e] at h
      have := cMem_lt r (k + 1) j h
      simp only [List.length_cons]; omega
theorem callee_rel (hg : GOk GL w) {es : Nat → TypeId} {pl : Nat → Option Pl} {A : List Arg} (h2 : ∀ i blk, look (cMem es A 0) i = some blk → ∃ j p, i = argId j ∧ pl j = some p ∧ PlOk w i blk p)
    (h3 : ∀ j p, pl j = some p → (look (cMem es A 0) (argId j)).isSome = true ∧ ∀ b, p.a = some b → ∃ cs e fz, w.heap[b]? = some (.cells cs e fz)) (hA : A.length ≤ 900000000) :
    MRel (⟨w, fun _ => False, fun i p => ∃ j, i = argId j ∧ pl j = some p⟩ : Wb GL) (fun i p => ∃ j, i = argId j ∧ pl j = some p) (look (cMem es A 0)) w := by
  refine ⟨BelowX.refl _ _ _ hg (fun _ _ h => h), ?_, ?_, ?_, ?_, fun _ _ h _ _ => h, ?_, ?_⟩
  · rintro i p p' ⟨j, rfl, hj⟩ ⟨j', e, hj'⟩
    have : j = j' := by unfold argId at e; omega
    subst this
    rw [hj] at hj'; exact Option.some.inj hj'
  · rintro i j p q b _ _ _ _ _ blk hblk hown _ _
    obtain ⟨_, _, _, _, k⟩ := h2 _ _ hblk
    rw [k.1] at hown; simp at hown
  · intro i blk hi
    obtain ⟨j, p, rfl, k2, k3, ⟨ks, n, g, k4⟩, k5, _⟩ := h2 _ _ hi
    have hc : ContOk (⟨w, fun _ => False, fun i p => ∃ j, i = argId j ∧ pl j = some p⟩ : Wb GL) (fun i p => ∃ j, i = argId j ∧ pl j = some p) w (argId j) blk := by
      refine ⟨p, ⟨j, rfl, k2⟩, ?_⟩
      cases hpa : p.a with
      | none => rw [hpa] at k5; exact k5
      | some b =>
        rw [hpa] at k5
        obtain ⟨cs, fz, m1, m2⟩ := k5
        exact ⟨cs, fz, m1, LP_mono (fun _ _ h => h.elim) m2, fun ho => by rw [k3] at ho; simp at ho⟩
    unfold MemOk
    rw [k4]; exact hc
  · rintro i p ⟨j, rfl, hj⟩ _; exact (h3 j p hj).1
  · rintro i p b ⟨j, rfl, hj⟩ hb; exact .inl ((h3 j p hj).2 b hb)
  · rintro i p ⟨j, rfl, hj⟩ hge
    have := cMem_lt A 0 j (h3 j p hj).1
    unfold argId at hge; omega
end
section
variable {GL : Glob} {w0 : Wb GL} {R : Nat → Pl → Prop} {fm : Nat → Option Blk} {w : World}
end
section
variable {P : Program} [Laid P] {C : Cfg} {c : Code}
theorem fn_mem (hC : CfgOk P C c) {g : FuncId} {fn : Func} (hf : P.funcs[g]? = some fn) (hb : fn.body = some c) (hn : C.n = fn.ntmps) {w0 : Wb (lay P)} {R : Nat → Pl → Prop} {w : World} {args args' : List Value} {mem0 : List (Nat × Blk)} {next : Nat}
    (hm : MRel w0 R (look mem0) w) (hargs : LR (V2 R) args args') (hlen : args.length ≤ fn.ntmps) {fuel : Nat} {e : Exit} {s' : St} (h1 : evS C fuel [] c ⟨argSlots 0 args, mem0, next⟩ = some (e, s')) {v : Value} (h2 : endK C.T fn e s' some none = some v) :
    Calls P g args'.toArray w fun ex w' => ∃ R' v', ex = .returned v' ∧ ((∀ vs, v ≠ .tuple vs) → V2 R' v v') ∧ (∀ vs, v = .tuple vs → ∃ vs', v' = .tuple vs' ∧ LR (V2 R') vs.toList vs'.toList) ∧ MRel w0 R' (look s'.mem) w' := by
  refine calls_of_wp hf hb ?_
  have hla := LR_len hargs
  have hrel : Rel w0 C.n R (St.f ⟨argSlots 0 args, mem0, next⟩) { tmps := args'.toArray ++ Array.replicate (fn.ntmps - args'.toArray.size) undef, defers := [] } w := by
    refine MRel.toR hm rfl (by simp; omega) ?_
    intro t u hu
    obtain ⟨j, rfl, hj⟩ := argSlots_look args 0 t u hu
    obtain ⟨u', h3, h4⟩ := LR_get hargs hj
    refine ⟨u', ?_, h4⟩
    have hlt : j < args'.length := by
      rcases Nat.lt_or_ge j args'.length with h | h
      · exact h
      · rw [List.getElem?_eq_none h] at h3; simp at h3
    rw [Nat.zero_add, Array.getElem?_append_left (by simpa using hlt)]
    simpa using h3
  refine wp_mono (ev_sound hC (p := []) rfl h1 hrel) ?_
  rintro e' a' w' ⟨rfl, R', hr'⟩
  have fin : endK C.T fn e' s' some none = some v → (e' = .normal ∨ e' = .ret) → a'.defers = [] ∧ ∃ v', (results fn a'.tmps).run P w' = .ok v' w' ∧ ((∀ vs, v ≠ .tuple vs) → V2 R' v v') ∧ (∀ vs, v = .tuple vs → ∃ vs', v' = .tuple vs' ∧ LR (V2 R') vs.toList vs'.toList) := by
    intro h3 h4
    refine ⟨hr'.defers, ?_⟩
    have h3 : resK C.T s' fn.results.toList (fun vs => oneK vs some) none = some v := by
      rcases h4 with rfl | rfl <;> exact h3
    obtain ⟨vs, vs', h5, h6, h7⟩ := res_run hC hr' _ h3
    have hrun : (results fn a'.tmps).run P w' = .ok (if h : vs'.toArray.size = 1 then vs'.toArray[0] else .tuple vs'.toArray) w' := by
      rw [results_eq, Array.mapM_eq_mapM_toList]
      simp only [Sem.run_bind, Sem.run_map, h7, Result.andThen_ok, Sem.run_pure]
    refine ⟨_, hrun, ?_⟩
    rcases oneK_some h5 with rfl | ⟨hl, rfl⟩
    · match vs', h6 with
      | [u], h6 =>
        refine ⟨fun _ => by simpa using h6.1, fun ws hw => ?_⟩
        subst hw
        have h6 := h6.1
        obtain ⟨ws', e1, e2⟩ := V2_tuple h6
        exact ⟨ws', by simpa using e1, LR_mono (fun _ _ => V2_of_V1) e2⟩
    · have hl' : vs'.length ≠ 1 := by rw [← LR_len h6]; exact hl
      rw [dif_neg (by simpa using hl')]
      exact ⟨fun hne => absurd rfl (hne _), fun ws hw => by cases hw; exact ⟨vs'.toArray, rfl, h6⟩⟩
  cases e' with
  | normal => obtain ⟨k1, v', k2, k3, k4⟩ := fin h2 (.inl rfl); exact ⟨k1, v', k2, R', v', rfl, k3, k4, hr'.m⟩
  | ret => obtain ⟨k1, v', k2, k3, k4⟩ := fin h2 (.inr rfl); exact ⟨k1, v', k2, R', v', rfl, k3, k4, hr'.m⟩
  | _ => simp [endK] at h2
theorem cArgs_len : ∀ (A : List Arg) (k : Nat), (cArgs A k).length = A.length
  | [], _ => rfl
  | .pl _ :: r, k => by simp [cArgs, cArgs_len r]
  | .sl _ _ _ :: r, k => by simp [cArgs, cArgs_len r]
section
variable {T : Tab} {GL : Glob} {w0 : Wb GL} {R R' : Nat → Pl → Prop} {fm : Nat → Option Blk} {w w' : World} {wc : Wb GL} {mC : Nat → Option Blk}
end
end
end Go.W

namespace Go.W
theorem loopE {P : Program} [Laid P] {code : Code} {n : Nat} (C : Nat → Cfg) (N : Nat) (hC : ∀ k, k ≤ N → CfgOk P (C k) code) (hn : ∀ k, (C k).n = n) {p : List Nat} (hp : codeAt p code = some (.loop (loopAt p code))) {m : Nat} {ts : List Nat} {is : Ren} {tx : Nat} {nt et : List Nat} {ni ei : Ren} {nx ex : Nat} (st : Nat → St) {e : Exit} {s0 sf : St} (h0 : s0 = st 0) (he : e ≠ .normal)
    (step : ∀ k, k < N → ∃ s, roundS (C k) m (p ++ [0]) (loopAt p code) nt ni nx et ei ex (st k) = some (.normal, s) ∧ stEq s (st (k + 1)) = true)
    (last : ∃ s, roundS (C N) m (p ++ [0]) (loopAt p code) nt ni nx et ei ex (st N) = some (e, s) ∧ stEq s sf = true) :
    LoopOk P n (loopAt p code) (atSt ts is tx s0 e sf) := by
  refine atSt_ok fun w0 R a w hrel => ?_
  rw [h0] at hrel
  have hx : codeAt (p ++ [0]) code = some (loopAt p code) := by rw [codeAt_app, hp]; rfl
  have key : ∀ j, j ≤ N → ∀ (R : Nat → Pl → Prop) (a : Act) (w : World), Rel w0 n R (st (N - j)).f a w → Code.rounds P (loopAt p code) (fun e' a' w' => e' = e ∧ ∃ R', Rel w0 n R' sf.f a' w') (j + 1) a w := by
    intro j
    induction j with
    | zero =>
      intro _ R a w hr
      rw [rounds_succ]
      obtain ⟨s, h1, h2⟩ := last
      have hs := round_sound (hC N (Nat.le_refl _)) hx h1 (w0 := w0) (R := R) (a := a) (w := w) (by rw [hn]; exact hr)
      rw [hn] at hs
      refine wp_mono hs ?_
      rintro e' a' w' ⟨rfl, R', hr'⟩
      cases e' with
      | normal => exact absurd rfl he
      | _ => exact ⟨rfl, R', hr'.eqv h2⟩
    | succ j ih =>
      intro hj R a w hr
      rw [rounds_succ]
      obtain ⟨s, h1, h2⟩ := step (N - (j + 1)) (by omega)
      have hs := round_sound (hC (N - (j + 1)) (by omega)) hx h1 (w0 := w0) (R := R) (a := a) (w := w) (by rw [hn]; exact hr)
      rw [hn] at hs
      refine wp_mono hs ?_
      rintro e' a' w' ⟨rfl, R', hr'⟩
      refine ih (by omega) R' a' w' ?_
      rw [show N - j = N - (j + 1) + 1 from by omega]
      exact hr'.eqv h2
  exact wp_loop_rounds (N + 1) (key N (Nat.le_refl N) R a w (by rw [Nat.sub_self]; exact hrel))
theorem mNil : memEq [] [] = true := rfl
theorem mRow {a : Nat} {ks : List CK} {n : Nat} {f g : Nat → List Value} {e : TypeId} {o : Bool} {l m : List (Nat × Blk)} (h : ∀ j, j < n → nrmK ks (f j) = nrmK ks (g j)) (h2 : memEq l m = true) : memEq ((a, ⟨.row ks n f, e, o⟩) :: l) ((a, ⟨.row ks n g, e, o⟩) :: m) = true := memEq_cons (cellsEq_rr h) h2
end Go.W

namespace Go.W
section
variable {P0 : Nat} [NeZero P0]
theorem d1 (x y : Fin P0) : (x * x + (x * x + x * x)) * (x * x + (x * x + x * x)) - (x * ((y + y) * (y + y)) + x * ((y + y) * (y + y))) = twX x y := by unfold twX; grind
theorem d2 (x y : Fin P0) : (x * x + (x * x + x * x)) * (x * ((y + y) * (y + y)) - twX x y) - (y + y) * (y + y) * (y + y) * y = twY x y := by unfold twY; generalize twX x y = w; grind
theorem d3 (y z : Fin P0) : (y + y) * z = twZ y z := by unfold twZ; grind
end
section
variable {P0 : Nat} [NeZero P0]
theorem p1 (x2 z x : Fin P0) : x2 * (z * z) - x = plU x2 z - plU x 1 := by unfold plU; grind
theorem p2 (y2 z y : Fin P0) : y2 * (z * (z * z)) - y = plS y2 z - plS y 1 := by unfold plS; grind
theorem p3 (x h r : Fin P0) : r * r - h * (h * h) - (x * (h * h) + x * (h * h)) = plX (plU x 1) h r := by unfold plX plU; grind
end
end Go.W

namespace Go.W
def kB : List CK := [.i .u8]
def bI (f : Nat → List Value) (j : Nat) : Int := toI ((f j).headD (.bool false))
theorem nrm_kB (f : Nat → List Value) (j : Nat) : nrmK kB (f j) = [.int .u8 (bI f j)] := rfl
def aSl (k n : Nat) : Value := .slice (some ⟨1500000 + k, 0, none⟩) n n
end Go.W

namespace Go.W
open Go.RowKit (Below)
section
variable {P : Program} {w : World}
def SrcW (w : World) (ks : List CK) (n : Nat) (g : Nat → List Value) (v' : Value) : Prop := ∃ (p : Pl) (e : TypeId), n ≤ p.c ∧ (match p.a with
      | some b => v' = .slice (some ⟨b, p.d, none⟩) n p.c ∧ ∃ cs fz, w.heap[b]? = some (.cells cs e fz) ∧ LP (fun _ _ => False) (rowL ks g 0 n) (cs.toList.drop p.d)
      | none => n = 0 ∧ p.c = 0 ∧ p.d = 0 ∧ Emp v')
def ArgW (w : World) : List Arg → List Value → Prop
  | [], [] => True
  | .pl u :: A, v :: vs => v = u ∧ pl2 u = true ∧ ArgW w A vs
  | .sl ks n g :: A, v :: vs => SrcW w ks n g v ∧ ArgW w A vs
  | _, _ => False
theorem top_mem : ∀ (A : List Arg) (args' : List Value) (k : Nat), ArgW w A args' →
    ∃ (es : Nat → TypeId) (pl : Nat → Option Pl), (∀ i, i < k → pl i = none) ∧
      (∀ i blk, look (cMem es A k) i = some blk → ∃ j p, i = argId j ∧ pl j = some p ∧ PlOk w i blk p) ∧
      (∀ j p, pl j = some p → (look (cMem es A k) (argId j)).isSome = true ∧ ∀ b, p.a = some b → ∃ cs e fz, w.heap[b]? = some (.cells cs e fz)) ∧
      LR (V2 fun i p => ∃ j, i = argId j ∧ pl j = some p) (cArgs A k) args'
  | [], [], k, _ => ⟨fun _ => 0, fun _ => none, fun _ _ => rfl, fun i blk hi => by simp [cMem, look] at hi, fun j p hp => by simp at hp, trivial⟩
  | .pl u :: A, v' :: args', k, hA => by
    obtain ⟨rfl, hp, hA⟩ := hA
    obtain ⟨es, pl, h1, h2, h3, h4⟩ := top_mem A args' (k + 1) hA
    exact ⟨es, pl, fun i hi => h1 i (by omega), h2, h3, (V2_plain hp).2 rfl, h4⟩
  | .sl ks n g :: A, v' :: args', k, hA => by
    obtain ⟨⟨p, e, hc, hm⟩, hA⟩ := hA
    obtain ⟨es, pl, h1, h2, h3, h4⟩ := top_mem A args' (k + 1) hA
    have hcm : cMem (fun j => if j = k then e else es j) A (k + 1) = cMem es A (k + 1) := cMem_congr A (k + 1) (fun j hj => by rw [if_neg (by omega)])
    have hlk : ∀ i, look (cMem (fun j => if j = k then e else es j) (.sl ks n g :: A) k) i = upd (look (cMem es A (k + 1))) (argId k) ⟨.row ks n g, e, false⟩ i := by
      intro i
      rw [cMem, hcm, look_cons, if_pos rfl]
    refine ⟨fun j => if j = k then e else es j, plAt k p pl, ?_, ?_, ?_, ?_, ?_⟩
    · intro i hi
      rw [plAt_ne _ _ (by omega)]; exact h1 i (by omega)
    · intro i blk hi
      rw [hlk] at hi
      by_cases e1 : argId k = i
      · subst e1
        rw [upd_same] at hi
        cases hi
        refine ⟨k, p, rfl, plAt_same _ _ _, rfl, ⟨ks, n, g, rfl⟩, ?_, rfl⟩
        cases hpa : p.a with
        | none =>
          rw [hpa] at hm
          show rowL ks g 0 n = []
          rw [hm.1]; rfl
        | some b =>
          rw [hpa] at hm
          obtain ⟨_, cs, fz, k1, k2⟩ := hm
          refine ⟨cs, fz, k1, ?_⟩
          show LP _ (rowL ks g 0 n) _
          have := (LR_plain (r := V0 fun _ _ => False) (pl := pl0) (fun _ _ hv => V0_plain hv) (rowL_pl ks g n 0)).1 k2
          exact LP_plain (rowL_pl _ _ _ _) this
      · rw [upd_ne _ _ e1] at hi
        obtain ⟨j, p', rfl, k2, k3⟩ := h2 i blk hi
        have hjk : j ≠ k := fun e2 => e1 (by rw [e2])
        exact ⟨j, p', rfl, by rw [plAt_ne _ _ hjk]; exact k2, k3⟩
    · intro j p' hp'
      rw [hlk]
      by_cases e1 : j = k
      · subst e1
        rw [upd_same]
        rw [plAt_same] at hp'
        cases hp'
        refine ⟨rfl, fun b hb => ?_⟩
        rw [hb] at hm
        obtain ⟨_, cs, fz, k1, _⟩ := hm
        exact ⟨cs, e, fz, k1⟩
      · rw [plAt_ne _ _ e1] at hp'
        rw [upd_ne _ _ (by unfold argId; omega)]
        exact h3 j p' hp'
    · refine slice_V2 (q := p) (argId_loose k) ⟨k, rfl, plAt_same _ _ _⟩ hc ?_
      cases hpa : p.a with
      | none => rw [hpa] at hm; exact ⟨hm.1, hm.2.1, hm.2.2.2⟩
      | some b => rw [hpa] at hm; exact hm.1
    · refine LR_mono (fun u u' hu => V2_mono ?_ hu) h4
      rintro i q ⟨j, rfl, hj⟩
      have hjk : j ≠ k := fun e2 => by
        have := h1 k (by omega)
        rw [e2, this] at hj; simp at hj
      exact ⟨j, rfl, by rw [plAt_ne _ _ hjk]; exact hj⟩
  | [], _ :: _, _, hA => hA.elim
  | .pl _ :: _, [], _, hA => hA.elim
  | .sl _ _ _ :: _, [], _, hA => hA.elim
def fnA (C : Cfg) (fuel : Nat) (fn : Func) (c : Code) (args : List Value) (mem : List (Nat × Blk)) (next : Nat) : Option Value := evK C fuel [] c ⟨argSlots 0 args, mem, next⟩ (fun e s => endK C.T fn e s some none) none
theorem law_sound [Laid P] {c : Code} {g : FuncId} {fn : Func} (hf : P.funcs[g]? = some fn) (hb : fn.body = some c) {A : List Arg} {args' : List Value} (hT : ArgW w A args') (hg : GOk (lay P) w) (hlen : A.length ≤ fn.ntmps) {v : Value} (hv : pl2 v = true) (hnt : ∀ vs, v ≠ .tuple vs) {fuel next : Nat}
    (hev0 : ∀ es, ∃ C, CfgOk P C c ∧ C.n = fn.ntmps ∧ fnA C fuel fn c (cArgs A 0) (cMem es A 0) next = some v) (hbt : fn.ntmps ≤ 900000000 := by decide +kernel) : Calls P g args'.toArray w fun e w' => e = .returned v ∧ Below w.heap.size w w' := by
  obtain ⟨es, pl, h1, h2, h3, h4⟩ := top_mem A args' 0 hT
  have hmC := callee_rel hg h2 h3 (Nat.le_trans hlen hbt)
  obtain ⟨C, hC, hn, hev⟩ := hev0 es
  unfold fnA at hev
  rw [evK_eq, oK_some] at hev
  obtain ⟨⟨e, s'⟩, he1, he2⟩ := hev
  refine Calls.mono (fn_mem hC hf hb hn hmC h4 (by rw [cArgs_len]; exact hlen) he1 he2) ?_
  rintro ex w' ⟨R', v', rfl, hvv, hvt, hm'⟩
  have := (V2_plain hv).1 (hvv hnt)
  subst this
  exact ⟨rfl, hm'.below.below fun _ h => h⟩
end
section
variable {P : Program} {H : Type} {enc : TypeId × Value → H} {W : World} {base b0 : Nat} {sp : Nat → Bool} {held : Bool} {r : Reach} {t e : TypeId} {v : Value} {d : DataW H} {p : List MemPlace}
open Go.ChangeShapes Go.WideShapes
end
end Go.W

namespace Go.W
def rotN (X n : Nat) : Nat := (X * 2 ^ (32 - n) % 4294967296) ||| (X / 2 ^ n)
end Go.W

namespace Go.W
def ad (a b : Nat) : Nat := (a + b) % 4294967296
def ntN (a : Nat) : Nat := 4294967295 ^^^ a
def kL : List Nat := [1116352408, 1899447441, 3049323471, 3921009573, 961987163, 1508970993, 2453635748, 2870763221, 3624381080, 310598401, 607225278, 1426881987, 1925078388, 2162078206, 2614888103, 3248222580, 3835390401, 4022224774, 264347078, 604807628, 770255983, 1249150122, 1555081692, 1996064986, 2554220882, 2821834349, 2952996808, 3210313671, 3336571891, 3584528711, 113926993, 338241895, 666307205, 773529912, 1294757372, 1396182291, 1695183700, 1986661051, 2177026350, 2456956037, 2730485921, 2820302411, 3259730800, 3345764771, 3516065817, 3600352804, 4094571909, 275423344, 430227734, 506948616, 659060556, 883997877, 958139571, 1322822218, 1537002063, 1747873779, 1955562222, 2024104815, 2227730452, 2361852424, 2428436474, 2756734187, 3204031479, 3329325298]
def kN (t : Nat) : Nat := kL.getD t 0
def s0N (x : Nat) : Nat := rotN x 7 ^^^ rotN x 18 ^^^ (x / 2 ^ 3)
def s1N (x : Nat) : Nat := rotN x 17 ^^^ rotN x 19 ^^^ (x / 2 ^ 10)
def S0N (x : Nat) : Nat := rotN x 2 ^^^ rotN x 13 ^^^ rotN x 22
def S1N (x : Nat) : Nat := rotN x 6 ^^^ rotN x 11 ^^^ rotN x 25
def chN (e f g : Nat) : Nat := (e &&& f) ^^^ (ntN e &&& g)
def maN (a b c : Nat) : Nat := (a &&& b) ^^^ (a &&& c) ^^^ (b &&& c)
def wdN (a b c d : Nat) : Nat := ((a * 2 ^ 24 % 4294967296) ||| (b * 2 ^ 16 % 4294967296) ||| (c * 2 ^ 8 % 4294967296)) ||| d
def nxN (w16 w15 w7 w2 : Nat) : Nat := ad (ad (ad (s1N w2) w7) (s0N w15)) w16
def wNew (B : Nat → Nat) (t : Nat) (l : List Nat) : Nat := bif Nat.blt t 16 then wdN (B (4 * t)) (B (4 * t + 1)) (B (4 * t + 2)) (B (4 * t + 3)) else nxN (l.getD 15 0) (l.getD 14 0) (l.getD 6 0) (l.getD 1 0)
def wL (B : Nat → Nat) : Nat → List Nat
  | 0 => []
  | t + 1 => wNew B t (wL B t) :: wL B t
def wT (B : Nat → Nat) (t : Nat) : Nat := wNew B t (wL B t)
structure S8 where
  a : Nat
  b : Nat
  c : Nat
  d : Nat
  e : Nat
  f : Nat
  g : Nat
  h : Nat
def S8.ok (s : S8) : Prop := s.a < 4294967296 ∧ s.b < 4294967296 ∧ s.c < 4294967296 ∧ s.d < 4294967296 ∧ s.e < 4294967296 ∧ s.f < 4294967296 ∧ s.g < 4294967296 ∧ s.h < 4294967296
def t1N (s : S8) (k w : Nat) : Nat := ad (ad (ad (ad s.h (S1N s.e)) (chN s.e s.f s.g)) k) w
def t2N (s : S8) : Nat := ad (S0N s.a) (maN s.a s.b s.c)
def rnd (k w : Nat) (s : S8) : S8 := ⟨ad (t1N s k w) (t2N s), s.a, s.b, s.c, ad s.d (t1N s k w), s.e, s.f, s.g⟩
def rnds (W : Nat → Nat) (s : S8) : Nat → S8
  | 0 => s
  | t + 1 => rnd (kN t) (W t) (rnds W s t)
def adS (s v : S8) : S8 := ⟨ad s.a v.a, ad s.b v.b, ad s.c v.c, ad s.d v.d, ad s.e v.e, ad s.f v.f, ad s.g v.g, ad s.h v.h⟩
theorem mix_ex (s : S8) (B : Nat → Nat) : ∃ x, x = adS s (rnds (wT B) s 64) := ⟨_, rfl⟩
noncomputable def mixN (s : S8) (B : Nat → Nat) : S8 := Classical.choose (mix_ex s B)
noncomputable def hs (s : S8) (B : Nat → Nat) : Nat → S8
  | 0 => s
  | k + 1 => mixN (hs s B k) (fun j => B (64 * k + j))
def S8.at (s : S8) : Nat → Nat
  | 0 => s.a
  | 1 => s.b
  | 2 => s.c
  | 3 => s.d
  | 4 => s.e
  | 5 => s.f
  | 6 => s.g
  | _ => s.h
def h0 : S8 := ⟨1779033703, 3144134277, 1013904242, 2773480762, 1359893119, 2600822924, 528734635, 1541459225⟩
end Go.W

namespace Go.W
def z8 : Value := .int .u8 0
end Go.W

namespace Go.W
def S8.beq (s t : S8) : Bool := Nat.beq s.a t.a && Nat.beq s.b t.b && Nat.beq s.c t.c && Nat.beq s.d t.d && Nat.beq s.e t.e && Nat.beq s.f t.f && Nat.beq s.g t.g && Nat.beq s.h t.h
def sgF (n : Nat) (f : Nat → List Value) : Nat → List Value := segF ⟨0, 0, n, kB, n, f, 0, false, []⟩
theorem bI_sg (n : Nat) (f : Nat → List Value) (j : Nat) : bI (sgF n f) j = bI f j := by show bI f (0 + j) = bI f j; rw [Nat.zero_add]
end Go.W

namespace Go.W
open Go.RowKit (Below)
section
variable {P : Program} [Laid P]
end
def RowW (w : World) (e : TypeId) (ks : List CK) (m : Nat) (f : Nat → List Value) (v : Value) : Prop :=
  (m = 0 ∧ Emp v) ∨ ∃ b d c cs fz, v = .slice (some ⟨b, d, none⟩) m c ∧ m ≤ c ∧ w.heap[b]? = some (.cells cs e fz) ∧ (cs.toList.drop d).take (m * ks.length) = rowL ks f 0 m
section
variable {GL : Glob} {w0 : Wb GL} {R : Nat → Pl → Prop} {fm : Nat → Option Blk} {w : World}
end
inductive ArgF where
  | pl (v : Value)
  | sl (ks : List CK) (n : Nat) (g : Nat → List Value)
  | fm (ks : List CK) (n : Nat) (g : Nat → Nat × (Nat → List Value))
def RcF (w : World) (pl : Nat → Option Pl) (N : Nat) (i : Nat) (p : Pl) : Prop :=
  (∃ j, j < N ∧ i = argId j ∧ pl j = some p) ∨ (∃ b, (∃ cs e fz, w.heap[b]? = some (.cells cs e fz)) ∧ i = 1000000000 + b ∧ p = ⟨some b, 0, 0⟩)
theorem RowW.at {w : World} {e : TypeId} {ks : List CK} {m : Nat} {f : Nat → List Value} {v : Value} (h : RowW w e ks m f v) (pl : Nat → Option Pl) (N : Nat) : RowAt (RcF w pl N) w e ks m f v := by
  rcases h with h | ⟨b, d, c, cs, fz, h1, h2, h3, h4⟩
  · exact .inl h
  · exact .inr ⟨b, d, c, cs, fz, h1, h2, .inr ⟨b, ⟨cs, e, fz, h3⟩, rfl, rfl⟩, h3, h4⟩
section
variable {GL : Glob} {w0 : Wb GL} {R : Nat → Pl → Prop} {fm : Nat → Option Blk} {w : World}
end
section
variable {P : Program} [Laid P]
end
end Go.W

namespace Go.W
open Go.RowKit (Below)
section
variable {P : Program} {w : World}
end
section
variable {P : Program} {H : Type} {enc : TypeId × Value → H} {W : World} {base b0 : Nat} {held : Bool} {r : Reach} {t e b8 : TypeId} {v : Value} {d : DataW H} {p : List MemPlace}
open Go.ChangeShapes Go.WideShapes
theorem cell_place {a : Addr} {i : Nat} {x : Value} (h : W.cell? (a.add i) = some x) : ∃ cs e fz, W.heap[a.block]? = some (.cells cs e fz) ∧ cs.toList[a.off + i]? = some x := by
  unfold World.cell? at h
  rw [block_add] at h
  split at h
  · rename_i cs e fz hb
    split at h
    · cases h
    · have eo : (a.add i).off = a.off + i := by unfold Addr.add; split <;> simp_all
      rw [eo] at h
      exact ⟨cs, e, fz, hb, by rw [Array.getElem?_toList]; exact h⟩
  · cases h
theorem cell_spot {a : Addr} {x : Value} (h : W.cell? (a.add 0) = some x) : a.spot = none := by
  unfold World.cell? at h
  split at h
  · split at h
    · cases h
    · rename_i hs
      cases hsp : a.spot with
      | none => rfl
      | some s => exfalso; apply hs; unfold Addr.add; simp [hsp]
  · cases h
end
end Go.W

namespace Go.W
theorem take_rowK {ks : List CK} {k : Nat} {f : Nat → List Value} : ∀ (n lo : Nat) (l : List Value), (∀ i, i < n → (l.drop (i * k)).take k = nrmK ks (f (lo + i))) → l.take (n * k) = rowL ks f lo n
  | 0, _, l, _ => by rw [Nat.zero_mul]; rfl
  | n + 1, lo, l, h => by
    have h0 := h 0 (by omega)
    rw [Nat.zero_mul, List.drop_zero, Nat.add_zero] at h0
    have ih := take_rowK n (lo + 1) (l.drop k) (fun i hi => by
      have := h (i + 1) (by omega)
      rw [List.drop_drop, show k + i * k = (i + 1) * k by rw [Nat.add_mul, Nat.one_mul, Nat.add_comm], this, Nat.add_assoc, Nat.add_comm 1 i])
    rw [show (n + 1) * k = k + n * k by rw [Nat.add_mul, Nat.one_mul, Nat.add_comm], List.take_add, h0, ih]
    rfl
section
variable {P : Program} {H : Type} {enc : TypeId × Value → H} {W : World} {base b0 : Nat} {held : Bool} {r : Reach} {t e : TypeId} {v : Value} {d : DataW H} {p : List MemPlace}
open Go.ChangeShapes Go.WideShapes
theorem open_els {k : Nat} (hk : 0 < k) {ks : List CK} (hks : ks.length = k) {α : Type} (z0 : α) (F : α → List Value) (B : α → Prop) (hz0 : B z0) (hF : ∀ z, B z → nrmK ks (F z) = F z)
    (ht : P.underlying t = some (.slice e)) (hce : P.cellsOf e = k) (hel : ∀ fuel cs x, DataW.trod enc P W b0 (fun _ => true) held fuel e cs = some x → ∃ z, B z ∧ cs = F z)
    (hv : Value.okWide P W r base t v) (h : DataW.Trod enc P W b0 (fun _ => true) held t v d p) :
    ∃ (n : Nat) (Z : Nat → α), SrcW W ks n (fun i => F (Z i)) v ∧ ∀ i, B (Z i) := by
  obtain ⟨a0, len, cap, rfl⟩ := okWide_slice ht hv
  obtain ⟨fuel, hf⟩ := h
  rcases Go.Deep.open_slice ht hf with ⟨h1, _⟩ | ⟨a, len', cap', m, nf, D, Pl', h1, _, hl, _, hm, _, hx⟩
  · have h1 : Value.slice a0 len cap = .slice none 0 0 := by simpa [Value.cells] using h1
    cases h1
    exact ⟨0, fun _ => z0, ⟨⟨none, 0, 0⟩, 0, Nat.le_refl _, rfl, rfl, rfl, none, rfl⟩, fun _ => hz0⟩
  · have h1 : Value.slice a0 len cap = .slice (some a) len' cap' := by simpa [Value.cells] using h1
    cases h1
    simp only [if_true] at hm
    subst hm
    by_cases h0 : m = 0
    · have hl0 : len = 0 := by omega
      subst h0 hl0
      exact ⟨0, fun _ => z0, ⟨⟨none, 0, 0⟩, 0, Nat.le_refl _, rfl, rfl, rfl, some a, rfl⟩, fun _ => hz0⟩
    · rw [hce] at hx
      have cell : ∀ i, i < m → ∃ cs', cs'.length = k ∧ (∀ j, j < k → W.cell? (a.add (i * k + j)) = cs'[j]?) ∧ ∃ z, B z ∧ cs' = F z := by
        intro i hi
        obtain ⟨cs', h2, h3⟩ := hx i hi
        obtain ⟨_, h4, h5⟩ := World.cells?_some h2
        refine ⟨cs', h4, fun j hj => ?_, hel _ _ _ h3⟩
        have := h5 j hj
        rw [Go.Deep.add_add] at this
        exact this
      obtain ⟨c0, hc0, hc1, _⟩ := cell 0 (by omega)
      have hcell0 : W.cell? (a.add 0) = some (c0[0]'(by omega)) := by
        have := hc1 0 hk
        rw [Nat.zero_mul, Nat.add_zero, List.getElem?_eq_getElem (by omega)] at this
        exact this
      have hs := cell_spot hcell0
      obtain ⟨cs, et, fz, hb, _⟩ := cell_place hcell0
      have el : ∀ i, ∃ z, B z ∧ (i < len → ((cs.toList.drop a.off).drop (i * k)).take k = F z) := by
        intro i
        by_cases hi : i < len
        · obtain ⟨cs', g1, g2, z, g3, g4⟩ := cell i (by omega)
          refine ⟨z, g3, fun _ => ?_⟩
          rw [← g4]
          apply List.ext_getElem?
          intro j
          by_cases hj : j < k
          · have g5 := g2 j hj
            rw [List.getElem?_eq_getElem (show j < cs'.length by omega)] at g5
            obtain ⟨cs2, e2, fz2, k1, k2⟩ := cell_place g5
            rw [hb] at k1
            cases k1
            rw [List.getElem?_take_of_lt hj, List.getElem?_drop, List.getElem?_drop, List.getElem?_eq_getElem (show j < cs'.length by omega), ← k2]
          · rw [List.getElem?_eq_none (show cs'.length ≤ j by omega), List.getElem?_eq_none (by simp only [List.length_take]; omega)]
        · exact ⟨z0, hz0, fun h => absurd h hi⟩
      refine ⟨len, fun i => Classical.choose (el i), ⟨⟨some a.block, a.off, m⟩, et, hl, ?_, cs, fz, hb, ?_⟩, fun i => (Classical.choose_spec (el i)).1⟩
      · obtain ⟨bl, off, spot⟩ := a
        simp only at hs; subst hs; rfl
      · refine LP_plain (rowL_pl _ _ _ _) ?_
        rw [rowL_len, hks]
        refine take_rowK len 0 _ fun i hi => ?_
        rw [(Classical.choose_spec (el i)).2 hi, Nat.zero_add, hF _ (Classical.choose_spec (el i)).1]
end
end Go.W

namespace Go.W
theorem bE {a b : Nat} (h : a ≤ b) : Nat.ble a b = true := by rw [Nat.ble_eq]; exact h
end Go.W

namespace Go.W
def pkOk (n s : Int) : Prop := 1 ≤ s ∧ s ≤ 7 ∧ 0 ≤ n ∧ n < 2 ^ (8 * s.toNat)
instance (n s : Int) : Decidable (pkOk n s) := by unfold pkOk; infer_instance
end Go.W

namespace Go.W
def kb3 (k : Nat) : Bool := true && Nat.ble k k && true
theorem kb3_true (k : Nat) : kb3 k = true := by unfold kb3; rw [bE (Nat.le_refl _)]; rfl
end Go.W

namespace Go.W
open Go
instance (r : Int) : Decidable (vld r) := by unfold vld; infer_instance
end Go.W

namespace Go.W
section
variable {P : Program} [Laid P]
theorem sum_per {g : FuncId} {fn : Func} {c : Code} (hf : P.funcs[g]? = some fn) (hname : (fn.name == "runtime.NumGoroutine") = false) (hb : fn.body = some c) {fuel : Nat} {F : List Value → Option (Bool × Value)}
    (h : ∀ args v, F args = some (true, v) → args.all pl2 = true → ∃ C, CfgOk P C c ∧ C.n = fn.ntmps ∧ args.length ≤ fn.ntmps ∧ fnS C fuel fn c args = some v ∧ pl2 v = true) : Sum P g F := by
  intro args v hF hpl w hg
  obtain ⟨C, hC, hn, hl, hev, hv⟩ := h args v hF hpl
  exact sum_at hC hf hname hb hn hl hev hv hpl w hg
end
end Go.W

namespace Go.W
open Go
noncomputable def lRnF : List Value → Option (Bool × Value)
  | [.string s] => some (Nat.ble s.size 1000000, i64 ((rN s : Nat) : Int))
  | _ => none
noncomputable def lFoF : List Value → Option (Bool × Value)
  | [.string s] => some (Nat.ble s.size 1000000, .string (foT s))
  | _ => none
noncomputable def lSaF : List Value → Option (Bool × Value)
  | [.string a, .string b] => some (Nat.ble a.size 1000000 && Nat.ble b.size 1000000, .bool (foT a == foT b))
  | _ => none
noncomputable def lbE (s : ByteArray) : Int := hide (if lblB s then 0 else 8)
noncomputable def lChF : List Value → Option (Bool × Value)
  | [.string s] => some (Nat.ble s.size 1000000, i64 (lbE s))
  | _ => none
theorem lbE_yes {s : ByteArray} (h : lbl s) : lbE s = 0 := by unfold lbE; rw [hide_eq, lblB_iff.2 h]; rfl
theorem lbE_no {s : ByteArray} (h : ¬ lbl s) : lbE s = 8 := by
  unfold lbE; rw [hide_eq, show lblB s = false from by rw [Bool.eq_false_iff, ne_eq, lblB_iff]; exact h]; rfl
instance (r : Nat) : Decidable (okC r) := by unfold okC; infer_instance
def goodTo (s : ByteArray) (k : Nat) : Prop := okC (rc s k) ∧ k < 24
instance (s : ByteArray) (k : Nat) : Decidable (goodTo s k) := by unfold goodTo; infer_instance
theorem first_or (p : Nat → Prop) : ∀ n, (∀ k, k < n → p k) ∨ ∃ k, k < n ∧ ¬ p k ∧ ∀ j, j < k → p j
  | 0 => .inl fun k h => absurd h (Nat.not_lt_zero _)
  | n + 1 => by
    rcases first_or p n with h | ⟨k, h1, h2⟩
    · by_cases e : p n
      · left
        intro k hk
        by_cases e2 : k = n
        · rw [e2]; exact e
        · exact h k (by omega)
      · exact .inr ⟨n, by omega, e, h⟩
    · exact .inr ⟨k, by omega, h2⟩
def goodL (s : ByteArray) (k : Nat) : Prop := goodTo s k ∧ (k = 0 → rc s k ≠ 32)
instance (s : ByteArray) (k : Nat) : Decidable (goodL s k) := by unfold goodL; infer_instance
theorem lbl_end {s : ByteArray} (h : ∀ k, k < rN s → goodL s k) : lbl s ↔ 1 ≤ rN s ∧ rc s (rN s - 1) ≠ 32 := by
  constructor
  · exact fun hl => ⟨hl.1, hl.2.2.2.2⟩
  · rintro ⟨h1, h2⟩
    have := (h (rN s - 1) (by omega)).1.2
    exact ⟨h1, by omega, fun k hk => (h k hk).1.1, (h 0 (by omega)).2 rfl, h2⟩
theorem not_lblL {s : ByteArray} {k : Nat} (hk : k < rN s) (h : ¬ goodL s k) : ¬ lbl s := fun hl => h ⟨⟨hl.2.2.1 k hk, by have := hl.2.1; omega⟩, fun e => by rw [e]; exact hl.2.2.2.1⟩
noncomputable def msB (r : Int) : Bool := hide (decide (32 ≤ r ∧ (r < 127 ∨ 159 < r) ∧ r ≠ 65533))
noncomputable def lMsF : List Value → Option (Bool × Value)
  | [.int .i32 r] => some (true, .bool (msB r))
  | _ => none
noncomputable def msT (r : Int) : Option Value :=
  bif decide (r ≥ 32) then (bif decide (r < 127) then some (.bool (r != 65533)) else (bif decide (r > 159) then some (.bool (r != 65533)) else some (.bool false))) else some (.bool false)
theorem msT_eq (r : Int) : msT r = some (.bool (msB r)) := by
  unfold msT msB
  rw [hide_eq]
  have e : ∀ b : Bool, (b = decide (32 ≤ r ∧ (r < 127 ∨ 159 < r) ∧ r ≠ 65533)) → some (Value.bool b) = some (.bool (decide (32 ≤ r ∧ (r < 127 ∨ 159 < r) ∧ r ≠ 65533))) := fun b h => by rw [h]
  by_cases h1 : r ≥ 32
  · rw [decide_eq_true h1, cond_true]
    by_cases h2 : r < 127
    · rw [decide_eq_true h2, cond_true]
      apply e
      rw [Bool.eq_iff_iff, bne_iff_ne, decide_eq_true_iff]; omega
    · rw [decide_eq_false h2, cond_false]
      by_cases h3 : r > 159
      · rw [decide_eq_true h3, cond_true]
        apply e
        rw [Bool.eq_iff_iff, bne_iff_ne, decide_eq_true_iff]; omega
      · rw [decide_eq_false h3, cond_false]
        apply e
        rw [eq_comm, decide_eq_false_iff_not]; omega
  · rw [decide_eq_false h1, cond_false]
    apply e
    rw [eq_comm, decide_eq_false_iff_not]; omega
theorem msB_ok (r : Nat) : msB (r : Int) = decide (okC r) := by
  unfold msB; rw [hide_eq]
  apply decide_eq_decide.2
  unfold okC; omega
theorem rwS_list (n : Nat) (g : Nat → List Value) : (rowS n g).data.toList = (nsL g 0 n).map (fun n => UInt8.ofNat n.toNat) := by
  have key : ∀ (l : List Int) (r : ByteArray), (l.foldl (fun r n => r.push (UInt8.ofNat n.toNat)) r).data.toList = r.data.toList ++ l.map (fun n => UInt8.ofNat n.toNat) := by
    intro l
    induction l with
    | nil => intro r; simp
    | cons x l ih =>
      intro r
      rw [List.foldl_cons, ih]
      show (r.data.push _).toList ++ _ = _
      rw [Array.toList_push, List.map_cons, List.append_assoc]; rfl
  unfold rowS
  rw [key]; rfl
theorem rwS_size (n : Nat) (g : Nat → List Value) : (rowS n g).size = n := by
  show (rowS n g).data.size = n
  rw [← Array.length_toList, rwS_list, List.length_map, nsL_len]
theorem nsL_at (g : Nat → List Value) : ∀ (n lo j : Nat), j < n → (nsL g lo n)[j]? = some (bI g (lo + j))
  | 0, _, _, h => absurd h (Nat.not_lt_zero _)
  | n + 1, lo, 0, _ => rfl
  | n + 1, lo, j + 1, h => by
    have := nsL_at g n (lo + 1) j (by omega)
    rw [show lo + (j + 1) = lo + 1 + j from by omega, ← this]; rfl
theorem rwS_byt {n : Nat} {g : Nat → List Value} {j : Nat} (h : j < n) : byt (rowS n g) j = (bI g j).toNat % 256 := by
  unfold byt
  rw [rwS_list, List.getD_eq_getElem?_getD, List.getElem?_map, nsL_at g n 0 j h, Nat.zero_add]
  show (UInt8.ofNat _).toNat = _
  exact UInt8.toNat_ofNat'
noncomputable def loK (s : ByteArray) (k : Nat) : Nat → List Value := fun j => [.int .u8 (hide (if j < k then ((fdN (byt s j) : Nat) : Int) else ((byt s j : Nat) : Int)))]
theorem bI_loK (s : ByteArray) (k j : Nat) : bI (loK s k) j = if j < k then ((fdN (byt s j) : Nat) : Int) else ((byt s j : Nat) : Int) := by show hide _ = _; rw [hide_eq]
theorem bI_strF (s : ByteArray) (j : Nat) : bI (strF s) j = ((byt s j : Nat) : Int) := rfl
theorem loK_zero (s : ByteArray) (j : Nat) : nrmK kB (strF s j) = nrmK kB (loK s 0 j) := by rw [nrm_kB, nrm_kB, bI_strF, bI_loK, if_neg (Nat.not_lt_zero _)]
theorem bI_up1 (f : Nat → List Value) (k : Nat) (x : Int) (j : Nat) : bI (updR f k [.int .u8 x]) j = if j = k then x else bI f j := by
  unfold bI updR
  by_cases h : j = k
  · subst h; rw [Nat.beq_refl, cond_true, if_pos rfl]; rfl
  · rw [nbeq_ne h, cond_false, if_neg h]
theorem loK_up (s : ByteArray) {k : Nat} (h : 65 ≤ byt s k ∧ byt s k ≤ 90) (j : Nat) : nrmK kB (updR (loK s k) (0 + k) [.int .u8 (IntKind.u8.wrap (IntKind.u8.wrap (bI (loK s k) (0 + k) - 65) + 97))] j) = nrmK kB (loK s (k + 1) j) := by
  rw [nrm_kB, nrm_kB, Nat.zero_add, bI_loK s k k, if_neg (Nat.lt_irrefl _), wrap_u8, wrap_u8, bI_loK, bI_up1, bI_loK]
  by_cases e : j = k
  · subst e
    rw [if_pos (Nat.lt_succ_self _), if_pos rfl]; unfold fdN; rw [if_pos h, show (((byt s j : Nat) : Int) - 65) % 256 + 97 = ((byt s j + 32 : Nat) : Int) from by omega, show ((byt s j + 32 : Nat) : Int) % 256 = ((byt s j + 32 : Nat) : Int) from by omega]
  · rw [if_neg e]
    by_cases h1 : j < k
    · rw [if_pos h1, if_pos (by omega)]
    · rw [if_neg h1, if_neg (by omega)]
theorem loK_no (s : ByteArray) {k : Nat} (h : ¬ (65 ≤ byt s k ∧ byt s k ≤ 90)) (j : Nat) : nrmK kB (loK s k j) = nrmK kB (loK s (k + 1) j) := by
  rw [nrm_kB, nrm_kB, bI_loK, bI_loK]
  by_cases e : j = k
  · subst e
    rw [if_neg (Nat.lt_irrefl _), if_pos (Nat.lt_succ_self _)]; unfold fdN; rw [if_neg h]
  · by_cases h1 : j < k
    · rw [if_pos h1, if_pos (by omega)]
    · rw [if_neg h1, if_neg (by omega)]
theorem foR_text {s : ByteArray} {g : Nat → List Value} (hg : ∀ j, j < s.size → bI g j = ((fdN (byt s j) : Nat) : Int)) : rowS s.size g = foT s :=
  txt_ext (by rw [rwS_size, foT_size]) fun j hj => by
    rw [rwS_size] at hj
    rw [rwS_byt hj, byt_fo, hg j hj, Int.toNat_natCast, Nat.mod_eq_of_lt (fdN_lt (byt_lt s j))]
end Go.W

namespace Go.Proofs.Ytheldjiikjaimaa
set_option maxRecDepth 100000
open Go.W
def lmsC : Cfg := ⟨tab, [], 17, []⟩
theorem lmsOk : CfgOk Try.prog lmsC (bodyOf Try.f19) := ⟨mixed, tabOk, sums_nil, noL⟩
theorem lms_ev (n : Int) : fnS lmsC 60 Try.f19 (bodyOf Try.f19) [.int .i32 n] = msT n := by kernel_rfl
theorem lms_sum : Sum Try.prog 19 lMsF := by
  refine sum_of lmsOk Try.func19 (by kernel_rfl) (by kernel_rfl) rfl (fuel := 60) fun args v h hpl => ?_
  unfold lMsF at h
  split at h
  · rename_i n
    simp only [Option.some.injEq, Prod.mk.injEq] at h
    obtain ⟨_, rfl⟩ := h
    exact ⟨by show 1 ≤ Try.f19.ntmps; decide +kernel, (lms_ev n).trans (msT_eq n), rfl⟩
  · simp at h
noncomputable def lckS : Sums := [(19, lMsF)]
theorem lckS_ok : SumsOk Try.prog lckS := sums_cons lms_sum sums_nil
noncomputable def lckC0 : Cfg := ⟨tab, lckS, 36, []⟩
theorem lckOk0 : CfgOk Try.prog lckC0 (bodyOf Try.f9) := ⟨mixed, tabOk, lckS_ok, noL⟩
theorem lck_at : codeAt [1, 1, 1, 0, 1, 0] (bodyOf Try.f9) = some (.loop (loopAt [1, 1, 1, 0, 1, 0] (bodyOf Try.f9))) := by kernel_rfl
def lckNt : List Nat := [3, 4, 8]
def lckSt (s : ByteArray) (n l : Int) (p : Nat) : St := ⟨[(3, i64 n), (4, .int .i32 l), (8, .pointer (some ⟨4, 0, none⟩))], [(4, ⟨.itr s p, 0, true⟩)], 5⟩
def lckE (n l : Int) : St := ⟨[(3, i64 n), (4, .int .i32 l)], [], 5⟩
def lckX : St := ⟨[(2, i64 8)], [], 5⟩
noncomputable def lckQ {α : Type} (s : ByteArray) (p : Nat) (n : Int) (no yes : α) : α :=
  bif n == 24 then no else bif !(msB (dcC s p)) then no else bif n == 0 then (bif dcC s p == 32 then no else yes) else yes
theorem lck_rA (s : ByteArray) (n l : Int) (p : Nat) : roundS lckC0 60 [1, 1, 1, 0, 1, 0, 0] (loopAt [1, 1, 1, 0, 1, 0] (bodyOf Try.f9)) lckNt [(4, 4)] 5 [3, 4] [] 5 (lckSt s n l p) =
    bif Nat.blt p s.size then lckQ s p n (some (.ret, lckE n l)) (some (.normal, lckSt s (IntKind.i64.wrap (n + 1)) (dcC s p) (p + dcW s p))) else some (.exit 0, lckE n l) := by kernel_rfl
theorem lck_rB (s : ByteArray) (n l : Int) (p : Nat) : roundS lckC0 60 [1, 1, 1, 0, 1, 0, 0] (loopAt [1, 1, 1, 0, 1, 0] (bodyOf Try.f9)) lckNt [(4, 4)] 5 [2] [] 5 (lckSt s n l p) =
    bif Nat.blt p s.size then lckQ s p n (some (.ret, lckX)) (some (.normal, lckSt s (IntKind.i64.wrap (n + 1)) (dcC s p) (p + dcW s p))) else none := by kernel_rfl
theorem lckQ_eq {α : Type} {s : ByteArray} {k : Nat} (h24 : k ≤ 24) (no yes : α) : lckQ s (ps s k) (k : Int) no yes = if goodL s k then yes else no := by
  unfold lckQ
  rw [dcC_dC, msB_ok, show ((k : Int) == 24) = decide (k = 24) from by rw [Bool.eq_iff_iff, beq_iff_eq, decide_eq_true_iff]; omega, show ((k : Int) == 0) = decide (k = 0) from by rw [Bool.eq_iff_iff, beq_iff_eq, decide_eq_true_iff]; omega,
    show (((dC s (ps s k) : Nat) : Int) == 32) = decide (rc s k = 32) from by rw [Bool.eq_iff_iff, beq_iff_eq, decide_eq_true_iff]; unfold rc; omega]
  by_cases h1 : k = 24
  · rw [decide_eq_true h1, cond_true, if_neg fun h => by have := h.1.2; omega]
  rw [decide_eq_false h1, cond_false]
  by_cases h2 : okC (rc s k)
  · rw [show decide (okC (dC s (ps s k))) = true from decide_eq_true h2, Bool.not_true, cond_false]
    by_cases h3 : k = 0
    · rw [decide_eq_true h3, cond_true]
      by_cases h4 : rc s k = 32
      · rw [decide_eq_true h4, cond_true, if_neg fun h => h.2 h3 h4]
      · rw [decide_eq_false h4, cond_false, if_pos ⟨⟨h2, by omega⟩, fun _ => h4⟩]
    · rw [decide_eq_false h3, cond_false, if_pos ⟨⟨h2, by omega⟩, fun h => absurd h h3⟩]
  · rw [show decide (okC (dC s (ps s k))) = false from decide_eq_false h2, Bool.not_false, cond_true, if_neg fun h => h2 h.1.1]
def lckL (s : ByteArray) : Nat → Int
  | 0 => 0
  | k + 1 => dcC s (ps s k)
theorem lck_next {s : ByteArray} {k : Nat} (hk : k < rN s) (hs : s.size ≤ 1000000) : lckSt s (IntKind.i64.wrap ((k : Int) + 1)) (dcC s (ps s k)) (ps s k + dcW s (ps s k)) = lckSt s ((k + 1 : Nat) : Int) (lckL s (k + 1)) (ps s (k + 1)) := by
  have hN := rN_le s
  have h1 := (rN_is s).1 k hk
  have h2 := ps_lt h1
  rw [wrap_i64 (by omega), dcW_dW, ← h2.2]; rfl
theorem lck_loopA {s : ByteArray} (hs : s.size ≤ 1000000) (hg : ∀ k, k < rN s → goodL s k) : LoopOk Try.prog 36 (loopAt [1, 1, 1, 0, 1, 0] (bodyOf Try.f9)) (atSt lckNt [(4, 4)] 5 (lckSt s 0 0 0) (.exit 0) (lckE ((rN s : Nat) : Int) (lckL s (rN s)))) := by
  have hN := rN_le s
  refine loopE (fun _ => lckC0) (rN s) (fun _ _ => lckOk0) (fun _ => rfl) lck_at (m := 60) (nt := lckNt) (ni := [(4, 4)]) (et := [3, 4]) (ei := []) (nx := 5) (ex := 5) (fun k => lckSt s (k : Int) (lckL s k) (ps s k)) rfl (by intro h; cases h) ?_ ?_
  · intro k hk
    have h1 := (rN_is s).1 k hk
    refine ⟨_, ?_, stEq_refl rfl⟩
    refine (lck_rA s _ _ _).trans ?_
    rw [show Nat.blt (ps s k) s.size = true from by rw [Nat.blt_eq]; exact h1, cond_true, lckQ_eq (by have := (hg k hk).1.2; omega), if_pos (hg k hk), lck_next hk hs]
  · refine ⟨_, ?_, stEq_refl rfl⟩
    refine (lck_rA s _ _ _).trans ?_
    rw [(rN_is s).2, show Nat.blt s.size s.size = false from by rw [Bool.eq_false_iff, ne_eq, Nat.blt_eq]; omega, cond_false]
theorem lck_loopB {s : ByteArray} (hs : s.size ≤ 1000000) {m : Nat} (hm : m < rN s) (hb : ¬ goodL s m) (hg : ∀ k, k < m → goodL s k) : LoopOk Try.prog 36 (loopAt [1, 1, 1, 0, 1, 0] (bodyOf Try.f9)) (atSt lckNt [(4, 4)] 5 (lckSt s 0 0 0) .ret lckX) := by
  have hN := rN_le s
  have hm24 : m ≤ 24 := by
    rcases Nat.lt_or_ge 24 m with h | h
    · have := (hg 24 h).1.2; omega
    · exact h
  refine loopE (fun _ => lckC0) m (fun _ _ => lckOk0) (fun _ => rfl) lck_at (m := 60) (nt := lckNt) (ni := [(4, 4)]) (et := [2]) (ei := []) (nx := 5) (ex := 5) (fun k => lckSt s (k : Int) (lckL s k) (ps s k)) rfl (by intro h; cases h) ?_ ?_
  · intro k hk
    have h1 := (rN_is s).1 k (by omega)
    refine ⟨_, ?_, stEq_refl rfl⟩
    refine (lck_rB s _ _ _).trans ?_
    rw [show Nat.blt (ps s k) s.size = true from by rw [Nat.blt_eq]; exact h1, cond_true, lckQ_eq (by have := (hg k hk).1.2; omega), if_pos (hg k hk), lck_next (by omega) hs]
  · have h1 := (rN_is s).1 m hm
    refine ⟨lckX, ?_, stEq_refl rfl⟩
    refine (lck_rB s _ _ _).trans ?_
    rw [show Nat.blt (ps s m) s.size = true from by rw [Nat.blt_eq]; exact h1, cond_true, lckQ_eq hm24, if_neg hb]
noncomputable def lckCA (s : ByteArray) (n l : Int) : Cfg := ⟨tab, lckS, 36, [([1, 1, 1, 0, 1, 0], atSt lckNt [(4, 4)] 5 (lckSt s 0 0 0) (.exit 0) (lckE n l))]⟩
noncomputable def lckCB (s : ByteArray) : Cfg := ⟨tab, lckS, 36, [([1, 1, 1, 0, 1, 0], atSt lckNt [(4, 4)] 5 (lckSt s 0 0 0) .ret lckX)]⟩
theorem lck_evA (s : ByteArray) (n l : Int) : fnS (lckCA s n l) 60 Try.f9 (bodyOf Try.f9) [.string s] = req (stEq (lckSt s 0 0 0) (lckSt s 0 0 0)) (bif n == 0 then some (i64 8) else bif l == 32 then some (i64 8) else some (i64 0)) := by kernel_rfl
theorem lck_evB (s : ByteArray) : fnS (lckCB s) 60 Try.f9 (bodyOf Try.f9) [.string s] = req (stEq (lckSt s 0 0 0) (lckSt s 0 0 0)) (some (i64 8)) := by kernel_rfl
theorem lck_sum : Sum Try.prog 9 lChF := by
  refine sum_per (c := bodyOf Try.f9) Try.func9 (by kernel_rfl) (by kernel_rfl) (fuel := 60) fun args v h hpl => ?_
  unfold lChF at h
  split at h
  · rename_i s
    simp only [Option.some.injEq, Prod.mk.injEq] at h
    obtain ⟨h1, rfl⟩ := h
    have h1 := Nat.le_of_ble_eq_true h1
    rcases first_or (goodL s) (rN s) with hg | ⟨m, hm, hb, hg⟩
    · refine ⟨lckCA s _ _, ⟨mixed, tabOk, lckS_ok, oneL (lck_loopA h1 hg)⟩, rfl, by show 1 ≤ Try.f9.ntmps; decide +kernel, (lck_evA s _ _).trans ?_, rfl⟩
      rw [req_true (stEq_refl rfl)]
      cases e : rN s with
      | zero => rw [lbE_no fun hl => by have := hl.1; omega]; rfl
      | succ k =>
        rw [show (((k + 1 : Nat) : Int) == 0) = false from beq_eq_false_iff_ne.2 (by omega), cond_false]
        show (bif dcC s (ps s k) == 32 then _ else _) = _
        rw [dcC_dC]
        have he := lbl_end hg
        rw [e] at he
        by_cases h3 : rc s k = 32
        · rw [lbE_no fun hl => (he.1 hl).2 h3, show (((dC s (ps s k) : Nat) : Int) == 32) = true from beq_iff_eq.2 (by unfold rc at h3; omega)]; rfl
        · rw [lbE_yes (he.2 ⟨by omega, h3⟩), show (((dC s (ps s k) : Nat) : Int) == 32) = false from beq_eq_false_iff_ne.2 (by unfold rc at h3; omega)]; rfl
    · refine ⟨lckCB s, ⟨mixed, tabOk, lckS_ok, oneL (lck_loopB h1 hm hb hg)⟩, rfl, by show 1 ≤ Try.f9.ntmps; decide +kernel, (lck_evB s).trans ?_, rfl⟩
      rw [req_true (stEq_refl rfl), lbE_no (not_lblL hm hb)]
  · simp at h
def lruC0 : Cfg := ⟨tab, [], 11, []⟩
theorem lruOk0 : CfgOk Try.prog lruC0 (bodyOf Try.f11) := ⟨mixed, tabOk, sums_nil, noL⟩
theorem lru_at : codeAt [1, 1, 0, 1, 0] (bodyOf Try.f11) = some (.loop (loopAt [1, 1, 0, 1, 0] (bodyOf Try.f11))) := by kernel_rfl
def lruNt : List Nat := [3, 5]
def lruSt (s : ByteArray) (n : Int) (p : Nat) : St := ⟨[(3, i64 n), (5, .pointer (some ⟨3, 0, none⟩))], [(3, ⟨.itr s p, 0, true⟩)], 4⟩
def lruE (n : Int) : St := ⟨[(3, i64 n)], [], 4⟩
theorem lru_r (s : ByteArray) (n : Int) (p : Nat) : roundS lruC0 60 [1, 1, 0, 1, 0, 0] (loopAt [1, 1, 0, 1, 0] (bodyOf Try.f11)) lruNt [(3, 3)] 4 [3] [] 4 (lruSt s n p) =
    bif Nat.blt p s.size then some (.normal, lruSt s (IntKind.i64.wrap (n + 1)) (p + dcW s p)) else some (.exit 0, lruE n) := by kernel_rfl
theorem lru_loop {s : ByteArray} (hs : s.size ≤ 1000000) : LoopOk Try.prog 11 (loopAt [1, 1, 0, 1, 0] (bodyOf Try.f11)) (atSt lruNt [(3, 3)] 4 (lruSt s 0 0) (.exit 0) (lruE ((rN s : Nat) : Int))) := by
  have hN := rN_le s
  refine loopE (fun _ => lruC0) (rN s) (fun _ _ => lruOk0) (fun _ => rfl) lru_at (m := 60) (nt := lruNt) (ni := [(3, 3)]) (et := [3]) (ei := []) (nx := 4) (ex := 4) (fun k => lruSt s (k : Int) (ps s k)) rfl (by intro h; cases h) ?_ ?_
  · intro k hk
    have h1 := (rN_is s).1 k hk
    have h2 := ps_lt h1
    refine ⟨_, ?_, stEq_refl rfl⟩
    refine (lru_r s _ _).trans ?_
    rw [show Nat.blt (ps s k) s.size = true from by rw [Nat.blt_eq]; exact h1, cond_true, dcW_dW, wrap_i64 (by omega), h2.2]; rfl
  · refine ⟨_, ?_, stEq_refl rfl⟩
    refine (lru_r s _ _).trans ?_
    rw [(rN_is s).2, show Nat.blt s.size s.size = false from by rw [Bool.eq_false_iff, ne_eq, Nat.blt_eq]; omega, cond_false]
noncomputable def lruC (s : ByteArray) (n : Int) : Cfg := ⟨tab, [], 11, [([1, 1, 0, 1, 0], atSt lruNt [(3, 3)] 4 (lruSt s 0 0) (.exit 0) (lruE n))]⟩
theorem lru_ev (s : ByteArray) (n : Int) : fnS (lruC s n) 60 Try.f11 (bodyOf Try.f11) [.string s] = req (stEq (lruSt s 0 0) (lruSt s 0 0)) (some (i64 n)) := by kernel_rfl
theorem lru_sum : Sum Try.prog 11 lRnF := by
  refine sum_per (c := bodyOf Try.f11) Try.func11 (by kernel_rfl) (by kernel_rfl) (fuel := 60) fun args v h hpl => ?_
  unfold lRnF at h
  split at h
  · rename_i s
    simp only [Option.some.injEq, Prod.mk.injEq] at h
    obtain ⟨h1, rfl⟩ := h
    have h1 := Nat.le_of_ble_eq_true h1
    refine ⟨lruC s _, ⟨mixed, tabOk, sums_nil, oneL (lru_loop h1)⟩, rfl, by show 1 ≤ Try.f11.ntmps; decide +kernel, (lru_ev s _).trans ?_, rfl⟩
    rw [req_true (stEq_refl rfl)]
  · simp at h
def lflC0 : Cfg := ⟨tab, [], 30, []⟩
theorem lflOk0 : CfgOk Try.prog lflC0 (bodyOf Try.f13) := ⟨mixed, tabOk, sums_nil, noL⟩
theorem lfl_at : codeAt [1, 1, 0, 1, 0] (bodyOf Try.f13) = some (.loop (loopAt [1, 1, 0, 1, 0] (bodyOf Try.f13))) := by kernel_rfl
def lflB : Nat := nid 2 0
def lflNt : List Nat := [3, 8, 9, 10]
def lflSt (n : Nat) (F : Nat → List Value) (t : Nat) : St := ⟨[(3, .slice (some ⟨lflB, 0, none⟩) n n), (8, .slice (some ⟨lflB, 0, none⟩) n n), (9, i64 ((n : Nat) : Int)), (10, i64 ((t : Nat) : Int))], [(lflB, ⟨.row kB n F, 5, true⟩)], 7⟩
def lflE (n : Nat) (F : Nat → List Value) : St := ⟨[(3, .slice (some ⟨lflB, 0, none⟩) n n)], [(lflB, ⟨.row kB n F, 5, true⟩)], 7⟩
noncomputable def lflT {α : Type} (n : Nat) (F : Nat → List Value) (t : Nat) (up no out : Option α) : Option α :=
  bif decide (((t : Nat) : Int) < ((n : Nat) : Int)) then req (inR ((t : Nat) : Int) n) (req (Nat.blt t n && true) (bif decide (65 ≤ bI F (0 + t)) then (bif decide (bI F (0 + t) ≤ 90) then req (inR ((t : Nat) : Int) n) (req (Nat.blt t n && true) up) else no) else no)) else out
theorem lfl_r (n : Nat) (F : Nat → List Value) (t : Nat) : roundS lflC0 60 [1, 1, 0, 1, 0, 0] (loopAt [1, 1, 0, 1, 0] (bodyOf Try.f13)) lflNt [(lflB, lflB)] 7 [3] [(lflB, lflB)] 7 (lflSt n F t) =
    lflT n F t (some (.normal, ⟨[(3, .slice (some ⟨lflB, 0, none⟩) n n), (8, .slice (some ⟨lflB, 0, none⟩) n n), (9, i64 ((n : Nat) : Int)), (10, i64 (IntKind.i64.wrap (((t : Nat) : Int) + 1)))], [(lflB, ⟨.row kB n (updR F (0 + t) [.int .u8 (IntKind.u8.wrap (IntKind.u8.wrap (bI F (0 + t) - 65) + 97))]), 5, true⟩)], 7⟩))
      (some (.normal, ⟨[(3, .slice (some ⟨lflB, 0, none⟩) n n), (8, .slice (some ⟨lflB, 0, none⟩) n n), (9, i64 ((n : Nat) : Int)), (10, i64 (IntKind.i64.wrap (((t : Nat) : Int) + 1)))], [(lflB, ⟨.row kB n F, 5, true⟩)], 7⟩)) (some (.exit 0, lflE n F)) := by kernel_rfl
theorem lfl_loop {s : ByteArray} (hs : s.size ≤ 1000000) : LoopOk Try.prog 30 (loopAt [1, 1, 0, 1, 0] (bodyOf Try.f13)) (atSt lflNt [(lflB, lflB)] 7 (lflSt s.size (loK s 0) 0) (.exit 0) (lflE s.size (loK s s.size))) := by
  refine loopE (fun _ => lflC0) s.size (fun _ _ => lflOk0) (fun _ => rfl) lfl_at (m := 60) (nt := lflNt) (ni := [(lflB, lflB)]) (et := [3]) (ei := [(lflB, lflB)]) (nx := 7) (ex := 7) (fun k => lflSt s.size (loK s k) k) rfl (by intro h; cases h) ?_ ?_
  · intro k hk
    have hb := byt_lt s k
    have hin : inR ((k : Nat) : Int) s.size = true := by unfold inR; rw [decide_eq_true (by omega), decide_eq_true (by omega)]; rfl
    have hbl : Nat.blt k s.size = true := by rw [Nat.blt_eq]; exact hk
    have hx : bI (loK s k) (0 + k) = ((byt s k : Nat) : Int) := by rw [Nat.zero_add, bI_loK, if_neg (Nat.lt_irrefl _)]
    have hsl : ∀ F : Nat → List Value, (⟨[(3, .slice (some ⟨lflB, 0, none⟩) s.size s.size), (8, .slice (some ⟨lflB, 0, none⟩) s.size s.size), (9, i64 ((s.size : Nat) : Int)), (10, i64 (IntKind.i64.wrap (((k : Nat) : Int) + 1)))], [(lflB, ⟨.row kB s.size F, 5, true⟩)], 7⟩ : St) = lflSt s.size F (k + 1) := fun F => by
      rw [wrap_i64 (by omega)]; rfl
    by_cases hu : 65 ≤ byt s k ∧ byt s k ≤ 90
    · refine ⟨_, (lfl_r s.size (loK s k) k).trans ?_, stEq_mk (sl := [(3, .slice (some ⟨lflB, 0, none⟩) s.size s.size), (8, .slice (some ⟨lflB, 0, none⟩) s.size s.size), (9, i64 ((s.size : Nat) : Int)), (10, i64 (((k + 1 : Nat) : Nat) : Int))]) rfl (mRow (fun j _ => loK_up s hu j) mNil)⟩
      unfold lflT
      rw [hsl, decide_eq_true (by omega), cond_true, hin, req_true rfl, hbl, req_true (b := true && true) rfl, decide_eq_true (by rw [hx]; omega), decide_eq_true (by rw [hx]; omega), cond_true, cond_true, req_true rfl, req_true (b := true && true) rfl]; rfl
    · refine ⟨_, (lfl_r s.size (loK s k) k).trans ?_, stEq_mk (sl := [(3, .slice (some ⟨lflB, 0, none⟩) s.size s.size), (8, .slice (some ⟨lflB, 0, none⟩) s.size s.size), (9, i64 ((s.size : Nat) : Int)), (10, i64 (((k + 1 : Nat) : Nat) : Int))]) rfl (mRow (fun j _ => loK_no s hu j) mNil)⟩
      unfold lflT
      rw [hsl (loK s k), decide_eq_true (by omega), cond_true, hin, req_true rfl, hbl, req_true (b := true && true) rfl]
      by_cases h1 : 65 ≤ byt s k
      · rw [decide_eq_true (by rw [hx]; omega), decide_eq_false (by rw [hx]; omega)]; rfl
      · rw [decide_eq_false (by rw [hx]; omega)]; rfl
  · refine ⟨lflE s.size (loK s s.size), (lfl_r s.size (loK s s.size) s.size).trans ?_, stEq_refl rfl⟩
    unfold lflT
    rw [decide_eq_false (by omega), cond_false]
noncomputable def lflC (s : ByteArray) (F0 F : Nat → List Value) : Cfg := ⟨tab, [], 30, [([1, 1, 0, 1, 0], atSt lflNt [(lflB, lflB)] 7 (lflSt s.size F0 0) (.exit 0) (lflE s.size F))]⟩
theorem lfl_ev (s : ByteArray) (F0 F : Nat → List Value) : fnS (lflC s F0 F) 60 Try.f13 (bodyOf Try.f13) [.string s] = req (stEq (lflSt s.size (strF s) 0) (lflSt s.size F0 0)) (req (kb3 s.size) (some (.string (rowS s.size (sgF s.size F))))) := by kernel_rfl
theorem lfl_sum : Sum Try.prog 13 lFoF := by
  refine sum_per (c := bodyOf Try.f13) Try.func13 (by kernel_rfl) (by kernel_rfl) (fuel := 60) fun args v h hpl => ?_
  unfold lFoF at h
  split at h
  · rename_i s
    simp only [Option.some.injEq, Prod.mk.injEq] at h
    obtain ⟨h1, rfl⟩ := h
    have h1 := Nat.le_of_ble_eq_true h1
    refine ⟨lflC s _ _, ⟨mixed, tabOk, sums_nil, oneL (lfl_loop h1)⟩, rfl, by show 1 ≤ Try.f13.ntmps; decide +kernel, (lfl_ev s _ _).trans ?_, rfl⟩
    have h0 : stEq (lflSt s.size (strF s) 0) (lflSt s.size (loK s 0) 0) = true :=
      stEq_mk (sl := [(3, .slice (some ⟨lflB, 0, none⟩) s.size s.size), (8, .slice (some ⟨lflB, 0, none⟩) s.size s.size), (9, i64 ((s.size : Nat) : Int)), (10, i64 (((0 : Nat) : Nat) : Int))]) rfl (mRow (fun j _ => loK_zero s j) mNil)
    rw [req_true h0, kb3_true, req_true rfl,
      foR_text (fun j hj => by rw [bI_sg, bI_loK, if_pos hj])]
  · simp at h
noncomputable def lsmS : Sums := [(13, lFoF)]
theorem lsmS_ok : SumsOk Try.prog lsmS := sums_cons lfl_sum sums_nil
noncomputable def lsmC : Cfg := ⟨tab, lsmS, 10, []⟩
theorem lsmOk : CfgOk Try.prog lsmC (bodyOf Try.f15) := ⟨mixed, tabOk, lsmS_ok, noL⟩
theorem lsm_ev (a b : ByteArray) : fnS lsmC 60 Try.f15 (bodyOf Try.f15) [.string a, .string b] = req (Nat.ble a.size 1000000) (req (Nat.ble b.size 1000000) (some (.bool (foT a == foT b)))) := by kernel_rfl
theorem lsm_sum : Sum Try.prog 15 lSaF := by
  refine sum_of lsmOk Try.func15 (by kernel_rfl) (by kernel_rfl) rfl (fuel := 60) fun args v h hpl => ?_
  unfold lSaF at h
  split at h
  · rename_i a b
    simp only [Option.some.injEq, Prod.mk.injEq, Bool.and_eq_true] at h
    obtain ⟨⟨h1, h2⟩, rfl⟩ := h
    exact ⟨by show 2 ≤ Try.f15.ntmps; decide +kernel, (lsm_ev a b).trans (by rw [h1, h2]; rfl), rfl⟩
  · simp at h
end Go.Proofs.Ytheldjiikjaimaa

namespace Go.W
open Go
def tf (b : Bool) : Option Value := some (.bool b)
def qS {α : Type} (s : ByteArray) (x : Option α) : Option α := req (Nat.ble s.size 1000000) x
theorem qS_eq {α : Type} {s : ByteArray} (h : s.size ≤ 1000000) (x : Option α) : qS s x = x := by unfold qS; rw [Nat.ble_eq_true_of_le h, req_true rfl]
theorem txs (a : ByteArray) : (a == a) = true := by rw [txt_eq]; exact decide_eq_true rfl
theorem rN_lit {s : ByteArray} (n : Nat) (h : (∀ k, k < n → ps s k < s.size) ∧ ps s n = s.size) : rN s = n := rN_of h
theorem lbl_lit {s : ByteArray} (n : Nat) (h : (∀ k, k < n → ps s k < s.size) ∧ ps s n = s.size) (h1 : 1 ≤ n ∧ n ≤ 24 ∧ (∀ k, k < n → okC (rc s k)) ∧ rc s 0 ≠ 32 ∧ rc s (n - 1) ≠ 32) : lbl s := by
  unfold lbl; rw [rN_lit n h]; exact h1
def tA : ByteArray := ⟨#[65, 100, 97, 32, 76, 46]⟩
def tB : ByteArray := ⟨#[32, 120]⟩
def tC : ByteArray := ⟨#[65, 100, 97]⟩
def tD : ByteArray := ⟨#[97, 68, 65]⟩
def tE : ByteArray := ⟨#[195, 164, 98]⟩
theorem tA_lbl : lbl tA := lbl_lit 6 (by decide +kernel) (by decide +kernel)
theorem tB_no : ¬ lbl tB := fun h => h.2.2.2.1 (by decide +kernel)
theorem tE_rN : rN tE = 2 := rN_lit 2 (by decide +kernel)
theorem tCD : foT tC = foT tD := txt_ext (by rw [foT_size, foT_size]; rfl) fun j hj => by
  rw [foT_size] at hj
  have hj : j < 3 := hj
  rw [byt_fo, byt_fo]
  match j, hj with
  | 0, _ => decide +kernel
  | 1, _ => decide +kernel
  | 2, _ => decide +kernel
noncomputable def wk11T : Option Value := bif lbE tA == 0 then bif lbE tB == 8 then bif foT tC == foT tD then some (.bool (((rN tE : Nat) : Int) == 2)) else tf false else tf false else tf false
theorem wk11T_eq : wk11T = some (.bool true) := by
  unfold wk11T
  rw [lbE_yes tA_lbl, lbE_no tB_no, tCD, txs, tE_rN]; rfl
def Wk11F : List Value → Option (Bool × Value)
  | [] => some (true, .bool true)
  | _ => none
def big63 : Nat := 9223372036854775807
end Go.W

namespace Go.Proofs.Ytheldjiikjaimaa
set_option maxRecDepth 100000
open Go.W
open Go.RowKit (Below)
noncomputable def wk11S : Sums := [(9, lChF), (15, lSaF), (11, lRnF)]
theorem wk11S_ok : SumsOk Try.prog wk11S := sums_cons lck_sum (sums_cons lsm_sum (sums_cons lru_sum sums_nil))
noncomputable def wk11C : Cfg := ⟨tab, wk11S, 14, []⟩
theorem wk11Ok : CfgOk Try.prog wk11C (bodyOf Try.f18) := ⟨mixed, tabOk, wk11S_ok, noL⟩
theorem wk11_ev : fnS wk11C 60 Try.f18 (bodyOf Try.f18) [] = wk11T := by kernel_rfl
theorem wk11_sum : Sum Try.prog 18 Wk11F := by
  refine sum_of wk11Ok Try.func18 (by kernel_rfl) (by kernel_rfl) rfl (fuel := 60) fun args v h hpl => ?_
  unfold Wk11F at h
  split at h
  · simp only [Option.some.injEq, Prod.mk.injEq] at h
    obtain ⟨_, rfl⟩ := h
    exact ⟨Nat.zero_le _, wk11_ev.trans wk11T_eq, rfl⟩
  · simp at h
end Go.Proofs.Ytheldjiikjaimaa

namespace Go.W
open Go
def kR1 : List CK := [.i .i32]
def r1L (z : Int) : List Value := [.int .i32 z]
section
variable {P : Program} {H : Type} {enc : TypeId × Value → H} {W : World} {base b0 : Nat} {held : Bool} {r : Reach} {t e : TypeId} {v : Value} {d : DataW H} {p : List MemPlace}
theorem open_i32s (ht : P.underlying t = some (.slice e)) (he : P.underlying e = some (.int .i32)) (hce : P.cellsOf e = 1)
    (hv : Value.okWide P W r base t v) (h : DataW.Trod enc P W b0 (fun _ => true) held t v d p) :
    ∃ (n : Nat) (Z : Nat → Int), SrcW W kR1 n (fun i => r1L (Z i)) v ∧ ∀ i, (Lit.int .i32 (Z i)).wf = true :=
  open_els (k := 1) (by omega) rfl 0 r1L (fun z => (Lit.int .i32 z).wf = true) (by decide) (fun _ _ => rfl) ht hce (fun fuel cs x hf => by
    obtain ⟨z, h1, _, h2⟩ := DataW.trod_int he hf
    exact ⟨z, h2, h1⟩) hv h
end
def okZ (n : Nat) (z : Int) (k : Nat) : Bool := decide (okC z.toNat ∧ ¬ (z = 32 ∧ (k = 0 ∨ k + 1 = n)))
def myB (n : Nat) (l : Nat → Int) : Nat → Bool
  | 0 => decide (1 ≤ n ∧ n ≤ 24)
  | k + 1 => bif okZ n (l k) k then myB n l k else false
theorem myB_iff {n : Nat} {l : Nat → Int} : ∀ k, myB n l k = true ↔ (1 ≤ n ∧ n ≤ 24) ∧ ∀ j, j < k → okZ n (l j) j = true
  | 0 => by
    show decide _ = true ↔ _
    rw [decide_eq_true_eq]
    exact ⟨fun h => ⟨h, fun j hj => absurd hj (Nat.not_lt_zero _)⟩, fun h => h.1⟩
  | k + 1 => by
    show (bif okZ n (l k) k then myB n l k else false) = true ↔ _
    cases h : okZ n (l k) k with
    | true =>
      rw [cond_true, myB_iff k]
      refine ⟨fun h2 => ⟨h2.1, fun j hj => ?_⟩, fun h2 => ⟨h2.1, fun j hj => h2.2 j (by omega)⟩⟩
      by_cases e : j = k
      · rw [e]; exact h
      · exact h2.2 j (by omega)
    | false =>
      rw [cond_false]
      exact ⟨fun h2 => by simp at h2, fun h2 => by have := h2.2 k (by omega); rw [h] at this; simp at this⟩
theorem my_lbl {n : Nat} {l : Nat → Int} (h : ∀ k, k < n → vld (l k)) : myB n l n = lblB (encs l n) := by
  rw [Bool.eq_iff_iff, myB_iff, lblB_iff, lbl_encs h]
  unfold okZ
  constructor
  · rintro ⟨h1, h2⟩
    have h2 : ∀ j, j < n → okC (l j).toNat ∧ ¬ (l j = 32 ∧ (j = 0 ∨ j + 1 = n)) := fun j hj => of_decide_eq_true (h2 j hj)
    refine ⟨h1.1, h1.2, fun k hk => (h2 k hk).1, fun e => (h2 0 (by omega)).2 ⟨?_, .inl rfl⟩, fun e => (h2 (n - 1) (by omega)).2 ⟨?_, .inr (by omega)⟩⟩
    · have := (h 0 (by omega)).1; omega
    · have := (h (n - 1) (by omega)).1; omega
  · rintro ⟨h1, h2, h3, h4, h5⟩
    refine ⟨⟨h1, h2⟩, fun j hj => decide_eq_true ⟨h3 j hj, ?_⟩⟩
    rintro ⟨e, h6 | h6⟩
    · subst h6; rw [e] at h4; exact h4 rfl
    · have : j = n - 1 := by omega
      subst this
      rw [e] at h5; exact h5 rfl
theorem vld_or (l : Nat → Int) : ∀ n, (∀ k, k < n → vld (l k)) ∨ ∃ k, k < n ∧ ¬ vld (l k) ∧ ∀ j, j < k → vld (l j)
  | 0 => .inl fun k h => absurd h (Nat.not_lt_zero _)
  | n + 1 => by
    rcases vld_or l n with h | ⟨k, h1, h2⟩
    · by_cases e : vld (l n)
      · left
        intro k hk
        by_cases e2 : k = n
        · rw [e2]; exact e
        · exact h k (by omega)
      · exact .inr ⟨n, by omega, e, h⟩
    · exact .inr ⟨k, by omega, h2⟩
def lrC {α : Type} (n : Nat) (z i : Int) (no yes : Option α) : Option α := bif z == 65533 then no else bif z == 32 then (bif i == 0 then no else bif i == IntKind.i64.wrap (((n : Nat) : Int) - 1) then no else yes) else yes
def lrD {α : Type} (n : Nat) (z i : Int) (no yes : Option α) : Option α := bif decide (z < 32) then no else bif decide (z ≥ 127) then (bif decide (z < 160) then no else lrC n z i no yes) else lrC n z i no yes
def lrB {α : Type} (s : ByteArray) (n : Nat) (z i : Int) (no yes : Option α) : Option α := req (Nat.ble (s.size + (Utf8.encode z).size) big63) (lrD n z i no yes)
def lrT {α : Type} (s : ByteArray) (n : Nat) (z i : Int) (ret no yes out : Option α) : Option α :=
  bif decide (i < ((n : Nat) : Int)) then req (inR i n) (req (Nat.blt i.toNat n && true) (bif decide (z < 0) then ret else bif decide (z > 1114111) then ret else bif decide (z ≥ 55296) then (bif decide (z < 57344) then ret else lrB s n z i no yes) else lrB s n z i no yes)) else out
theorem okZ_no {n : Nat} {z : Int} {k : Nat} (h : ¬ ((32 ≤ z.toNat ∧ (z.toNat < 127 ∨ 160 ≤ z.toNat) ∧ z.toNat ≠ 65533) ∧ ¬ (z = 32 ∧ (k = 0 ∨ k + 1 = n)))) : okZ n z k = false := decide_eq_false h
theorem okZ_yes {n : Nat} {z : Int} {k : Nat} (h : (32 ≤ z.toNat ∧ (z.toNat < 127 ∨ 160 ≤ z.toNat) ∧ z.toNat ≠ 65533) ∧ ¬ (z = 32 ∧ (k = 0 ∨ k + 1 = n))) : okZ n z k = true := decide_eq_true h
theorem lrD_eq {α : Type} {n : Nat} {z : Int} {k : Nat} (hn : k < n) (h40 : n ≤ 40) (hz : 0 ≤ z) (no yes : Option α) : lrD n z (k : Int) no yes = bif okZ n z k then yes else no := by
  unfold lrD lrC
  rw [wrap_i64 (by omega)]
  by_cases h1 : z < 32
  · rw [decide_eq_true h1, okZ_no (by omega)]; rfl
  rw [decide_eq_false h1, cond_false]
  have hC : ∀ (h2 : z < 127 ∨ 160 ≤ z), (bif z == 65533 then no else bif z == 32 then (bif (k : Int) == 0 then no else bif (k : Int) == ((n : Nat) : Int) - 1 then no else yes) else yes) = bif okZ n z k then yes else no := by
    intro h2
    by_cases h3 : z = 65533
    · subst h3; rw [okZ_no (by omega)]; rfl
    rw [show (z == 65533) = false from beq_eq_false_iff_ne.2 h3, cond_false]
    by_cases h4 : z = 32
    · subst h4
      rw [beq_self_eq_true, cond_true]
      by_cases h5 : k = 0
      · subst h5; rw [okZ_no (fun h => h.2 ⟨rfl, .inl rfl⟩)]; rfl
      rw [show ((k : Int) == 0) = false from beq_eq_false_iff_ne.2 (by omega), cond_false]
      by_cases h6 : k + 1 = n
      · rw [show ((k : Int) == ((n : Nat) : Int) - 1) = true from beq_iff_eq.2 (by omega), okZ_no (fun h => h.2 ⟨rfl, .inr h6⟩)]; rfl
      · rw [show ((k : Int) == ((n : Nat) : Int) - 1) = false from beq_eq_false_iff_ne.2 (by omega), okZ_yes ⟨by omega, by omega⟩]; rfl
    · rw [show (z == 32) = false from beq_eq_false_iff_ne.2 h4, cond_false, okZ_yes ⟨by omega, by omega⟩]; rfl
  by_cases h2 : z < 127
  · rw [decide_eq_false (by omega), cond_false]; exact hC (.inl h2)
  rw [decide_eq_true (by omega), cond_true]
  by_cases h3 : z < 160
  · rw [decide_eq_true h3, okZ_no (by omega)]; rfl
  · rw [decide_eq_false h3, cond_false]; exact hC (.inr (by omega))
theorem vld_no {z : Int} (h : ¬ (0 ≤ z ∧ z ≤ 1114111 ∧ ¬ (55296 ≤ z ∧ z < 57344))) : ¬ vld z := h
theorem vld_yes {z : Int} (h : 0 ≤ z ∧ z ≤ 1114111 ∧ ¬ (55296 ≤ z ∧ z < 57344)) : vld z := h
theorem lrT_eq {α : Type} {s : ByteArray} {n : Nat} {z : Int} {k : Nat} (hn : k < n) (h40 : n ≤ 40) (hs : s.size ≤ 1000) (ret no yes out : Option α) : lrT s n z (k : Int) ret no yes out = if vld z then (bif okZ n z k then yes else no) else ret := by
  have hin : inR (k : Int) n = true := by unfold inR; rw [decide_eq_true (by omega), decide_eq_true (by omega)]; rfl
  unfold lrT
  rw [decide_eq_true (by omega), cond_true, hin, req_true rfl, Int.toNat_natCast, show Nat.blt k n = true from by rw [Nat.blt_eq]; exact hn, req_true (b := true && true) rfl]
  by_cases h1 : z < 0
  · rw [decide_eq_true h1, if_neg (vld_no (by omega))]; rfl
  rw [decide_eq_false h1, cond_false]
  by_cases h2 : z > 1114111
  · rw [decide_eq_true h2, if_neg (vld_no (by omega))]; rfl
  rw [decide_eq_false h2, cond_false]
  have hB : vld z → lrB s n z (k : Int) no yes = bif okZ n z k then yes else no := by
    intro hv
    have := runeAt_w (enc_rune hv)
    unfold lrB
    rw [Nat.ble_eq_true_of_le (show s.size + (Utf8.encode z).size ≤ big63 by unfold big63; omega), req_true rfl, lrD_eq hn h40 hv.1]
  by_cases h3 : z ≥ 55296
  · rw [decide_eq_true h3, cond_true]
    by_cases h4 : z < 57344
    · rw [decide_eq_true h4, if_neg (vld_no (by omega))]; rfl
    · have hv := vld_yes (z := z) (by omega)
      rw [decide_eq_false h4, cond_false, if_pos hv]; exact hB hv
  · have hv := vld_yes (z := z) (by omega)
    rw [decide_eq_false h3, cond_false, if_pos hv]; exact hB hv
theorem lrT_out {α : Type} (s : ByteArray) (n : Nat) (z : Int) (ret no yes out : Option α) : lrT s n z ((n : Nat) : Int) ret no yes out = out := by
  unfold lrT
  rw [decide_eq_false (by omega), cond_false]
noncomputable def lrE (s : ByteArray) (y : Bool) (n : Nat) : Option Value := qS s (bif ((rN s : Nat) : Int) == ((n : Nat) : Int) then qS s (bif (lbE s == 0) == y then tf true else tf false) else tf false)
theorem lrE_eq {n : Nat} {l : Nat → Int} (h40 : n ≤ 40) (h : ∀ k, k < n → vld (l k)) : lrE (encs l n) (myB n l n) n = some (.bool true) := by
  obtain ⟨h1, _, _, h4⟩ := encs_all h
  have hl : (lbE (encs l n) == 0) = lblB (encs l n) := by
    by_cases hl : lbl (encs l n)
    · rw [lbE_yes hl, lblB_iff.2 hl]; rfl
    · rw [lbE_no hl, show lblB (encs l n) = false from by rw [Bool.eq_false_iff, ne_eq, lblB_iff]; exact hl]; rfl
  unfold lrE
  rw [qS_eq (by omega), h1, beq_self_eq_true, cond_true, qS_eq (by omega), hl, my_lbl h, beq_self_eq_true]; rfl
end Go.W

namespace Go.Proofs.Ytheldjiikjaimaa
set_option maxRecDepth 100000
open Go.W
open Go.RowKit (Below)
noncomputable def lrS : Sums := [(9, lChF), (11, lRnF), (18, Wk11F)]
theorem lrS_ok : SumsOk Try.prog lrS := sums_cons lck_sum (sums_cons lru_sum (sums_cons wk11_sum sums_nil))
noncomputable def lrC0 : Cfg := ⟨tab, lrS, 90, []⟩
theorem lrOk0 : CfgOk Try.prog lrC0 (bodyOf Try.f4) := ⟨mixed, tabOk, lrS_ok, noL⟩
theorem lr_at : codeAt [1, 1, 1, 1, 0, 1, 0] (bodyOf Try.f4) = some (.loop (loopAt [1, 1, 1, 1, 0, 1, 0] (bodyOf Try.f4))) := by kernel_rfl
def lrNt : List Nat := [0, 3, 4, 5]
def lrNi : Ren := [(1500000, 1500000)]
def lrSt (n : Nat) (f : Nat → List Value) (e0 : Nat) (s : ByteArray) (y : Bool) (i : Int) : St := ⟨[(0, aSl 0 n), (3, .string s), (4, .bool y), (5, i64 i)], [(1500000, ⟨.row kR1 n f, e0, false⟩)], 11⟩
def lrF : St := ⟨[(2, .bool true)], [], 11⟩
theorem lr_rA (n : Nat) (f : Nat → List Value) (e0 : Nat) (s : ByteArray) (y : Bool) (i : Int) : roundS lrC0 60 [1, 1, 1, 1, 0, 1, 0, 0] (loopAt [1, 1, 1, 1, 0, 1, 0] (bodyOf Try.f4)) lrNt lrNi 11 lrNt lrNi 11 (lrSt n f e0 s y i) =
    lrT s n (bI f (0 + i.toNat)) i (some (.ret, lrSt n f e0 s y i)) (some (.normal, lrSt n f e0 (s ++ Utf8.encode (bI f (0 + i.toNat))) false (IntKind.i64.wrap (i + 1)))) (some (.normal, lrSt n f e0 (s ++ Utf8.encode (bI f (0 + i.toNat))) y (IntKind.i64.wrap (i + 1)))) (some (.exit 0, lrSt n f e0 s y i)) := by kernel_rfl
theorem lr_rB (n : Nat) (f : Nat → List Value) (e0 : Nat) (s : ByteArray) (y : Bool) (i : Int) : roundS lrC0 60 [1, 1, 1, 1, 0, 1, 0, 0] (loopAt [1, 1, 1, 1, 0, 1, 0] (bodyOf Try.f4)) lrNt lrNi 11 [2] [] 11 (lrSt n f e0 s y i) =
    lrT s n (bI f (0 + i.toNat)) i (some (.ret, lrF)) (some (.normal, lrSt n f e0 (s ++ Utf8.encode (bI f (0 + i.toNat))) false (IntKind.i64.wrap (i + 1)))) (some (.normal, lrSt n f e0 (s ++ Utf8.encode (bI f (0 + i.toNat))) y (IntKind.i64.wrap (i + 1)))) none := by kernel_rfl
theorem lr_step {n : Nat} {f : Nat → List Value} {e0 k : Nat} (h40 : n ≤ 40) (hk : k < n) (hv : ∀ j, j ≤ k → vld (bI f j)) (ret out : Option (Exit × St)) :
    lrT (encs (bI f) k) n (bI f (0 + (k : Int).toNat)) (k : Int) ret (some (.normal, lrSt n f e0 (encs (bI f) k ++ Utf8.encode (bI f (0 + (k : Int).toNat))) false (IntKind.i64.wrap ((k : Int) + 1)))) (some (.normal, lrSt n f e0 (encs (bI f) k ++ Utf8.encode (bI f (0 + (k : Int).toNat))) (myB n (bI f) k) (IntKind.i64.wrap ((k : Int) + 1)))) out =
      some (.normal, lrSt n f e0 (encs (bI f) (k + 1)) (myB n (bI f) (k + 1)) ((k + 1 : Nat) : Int)) := by
  have hsz := (encs_all (l := bI f) (n := k) fun j hj => hv j (by omega)).2.2.2
  rw [Int.toNat_natCast, Nat.zero_add, lrT_eq hk h40 (by omega), if_pos (hv k (Nat.le_refl _)), wrap_i64 (by omega)]
  show _ = some (Exit.normal, lrSt n f e0 (encs (bI f) k ++ Utf8.encode (bI f k)) (bif okZ n (bI f k) k then myB n (bI f) k else false) ((k + 1 : Nat) : Int))
  cases okZ n (bI f k) k <;> rfl
theorem lr_loopA {n : Nat} {f : Nat → List Value} {e0 : Nat} (h40 : n ≤ 40) (hv : ∀ k, k < n → vld (bI f k)) : LoopOk Try.prog 90 (loopAt [1, 1, 1, 1, 0, 1, 0] (bodyOf Try.f4)) (atSt lrNt lrNi 11 (lrSt n f e0 ⟨#[]⟩ (myB n (bI f) 0) 0) (.exit 0) (lrSt n f e0 (encs (bI f) n) (myB n (bI f) n) (n : Int))) := by
  refine loopE (fun _ => lrC0) n (fun _ _ => lrOk0) (fun _ => rfl) lr_at (m := 60) (nt := lrNt) (ni := lrNi) (et := lrNt) (ei := lrNi) (nx := 11) (ex := 11) (fun k => lrSt n f e0 (encs (bI f) k) (myB n (bI f) k) (k : Int)) rfl (by intro h; cases h) ?_ ?_
  · intro k hk
    refine ⟨_, ?_, stEq_refl rfl⟩
    exact (lr_rA n f e0 _ _ _).trans (lr_step h40 hk (fun j hj => hv j (by omega)) _ _)
  · refine ⟨_, ?_, stEq_refl rfl⟩
    exact (lr_rA n f e0 _ _ _).trans (lrT_out _ _ _ _ _ _ _)
theorem lr_loopB {n : Nat} {f : Nat → List Value} {e0 m : Nat} (h40 : n ≤ 40) (hm : m < n) (hb : ¬ vld (bI f m)) (hv : ∀ k, k < m → vld (bI f k)) : LoopOk Try.prog 90 (loopAt [1, 1, 1, 1, 0, 1, 0] (bodyOf Try.f4)) (atSt lrNt lrNi 11 (lrSt n f e0 ⟨#[]⟩ (myB n (bI f) 0) 0) .ret lrF) := by
  refine loopE (fun _ => lrC0) m (fun _ _ => lrOk0) (fun _ => rfl) lr_at (m := 60) (nt := lrNt) (ni := lrNi) (et := [2]) (ei := []) (nx := 11) (ex := 11) (fun k => lrSt n f e0 (encs (bI f) k) (myB n (bI f) k) (k : Int)) rfl (by intro h; cases h) ?_ ?_
  · intro k hk
    refine ⟨_, ?_, stEq_refl rfl⟩
    exact (lr_rB n f e0 _ _ _).trans (lr_step h40 (by omega) (fun j hj => hv j (by omega)) _ _)
  · refine ⟨lrF, ?_, stEq_refl rfl⟩
    refine (lr_rB n f e0 _ _ _).trans ?_
    have hsz := (encs_all (l := bI f) (n := m) hv).2.2.2
    rw [Int.toNat_natCast, Nat.zero_add, lrT_eq hm h40 (by omega), if_neg hb]
noncomputable def lrCA (n : Nat) (f : Nat → List Value) (e0 : Nat) (y0 : Bool) (s : ByteArray) (y : Bool) (i : Int) : Cfg := ⟨tab, lrS, 90, [([1, 1, 1, 1, 0, 1, 0], atSt lrNt lrNi 11 (lrSt n f e0 ⟨#[]⟩ y0 0) (.exit 0) (lrSt n f e0 s y i))]⟩
noncomputable def lrCB (n : Nat) (f : Nat → List Value) (e0 : Nat) (y0 : Bool) : Cfg := ⟨tab, lrS, 90, [([1, 1, 1, 1, 0, 1, 0], atSt lrNt lrNi 11 (lrSt n f e0 ⟨#[]⟩ y0 0) .ret lrF)]⟩
noncomputable def lrA {α : Type} (n : Nat) (f : Nat → List Value) (e0 : Nat) (y0 : Bool) (x : Option α) : Option α :=
  bif decide ((n : Int) ≥ 1) then req (stEq (lrSt n f e0 ⟨#[]⟩ (decide ((n : Int) ≤ 24)) 0) (lrSt n f e0 ⟨#[]⟩ y0 0)) x else req (stEq (lrSt n f e0 ⟨#[]⟩ false 0) (lrSt n f e0 ⟨#[]⟩ y0 0)) x
theorem lrA_eq {α : Type} {n : Nat} {f : Nat → List Value} {e0 : Nat} {l : Nat → Int} (x : Option α) : lrA n f e0 (myB n l 0) x = x := by
  unfold lrA
  show (bif _ then req (stEq _ (lrSt n f e0 ⟨#[]⟩ (decide (1 ≤ n ∧ n ≤ 24)) 0)) x else _) = _
  by_cases h1 : 1 ≤ n
  · rw [decide_eq_true (by omega), cond_true]
    by_cases h2 : n ≤ 24
    · rw [decide_eq_true (show (n : Int) ≤ 24 by omega), decide_eq_true (show 1 ≤ n ∧ n ≤ 24 from ⟨h1, h2⟩), req_true (stEq_refl rfl)]
    · rw [decide_eq_false (show ¬ (n : Int) ≤ 24 by omega), decide_eq_false (show ¬ (1 ≤ n ∧ n ≤ 24) by omega), req_true (stEq_refl rfl)]
  · rw [decide_eq_false (show ¬ (n : Int) ≥ 1 by omega), cond_false]
    show req (stEq _ (lrSt n f e0 ⟨#[]⟩ (decide (1 ≤ n ∧ n ≤ 24)) 0)) x = x
    rw [decide_eq_false (show ¬ (1 ≤ n ∧ n ≤ 24) by omega), req_true (stEq_refl rfl)]
theorem lr_evA (n : Nat) (f : Nat → List Value) (y0 : Bool) (s : ByteArray) (y : Bool) (i : Int) (es : Nat → Nat) : fnA (lrCA n f (es 0) y0 s y i) 60 Try.f4 (bodyOf Try.f4) (cArgs [.sl kR1 n f] 0) (cMem es [.sl kR1 n f] 0) 0 =
    bif decide ((n : Int) > 40) then tf true else lrA n f (es 0) y0 (lrE s y n) := by kernel_rfl
theorem lr_evB (n : Nat) (f : Nat → List Value) (y0 : Bool) (es : Nat → Nat) : fnA (lrCB n f (es 0) y0) 60 Try.f4 (bodyOf Try.f4) (cArgs [.sl kR1 n f] 0) (cMem es [.sl kR1 n f] 0) 0 =
    bif decide ((n : Int) > 40) then tf true else lrA n f (es 0) y0 (tf true) := by kernel_rfl
theorem lr_evN (n : Nat) (f : Nat → List Value) (es : Nat → Nat) : fnA ⟨tab, lrS, 90, [([1, 1, 1, 1, 0, 1, 0], fun _ => [])]⟩ 60 Try.f4 (bodyOf Try.f4) (cArgs [.sl kR1 n f] 0) (cMem es [.sl kR1 n f] 0) 0 =
    bif decide ((n : Int) > 40) then tf true else (bif decide ((n : Int) ≥ 1) then none else none) := by kernel_rfl
theorem lr_calls {n : Nat} {f : Nat → List Value} {v : Value} {W : World} (hv : SrcW W kR1 n f v) :
    Calls Try.prog 4 #[v] W fun e W' => e = .returned (.bool true) ∧ Below W.heap.size W W' := by
  refine law_sound (c := bodyOf Try.f4) (fuel := 60) (next := 0) (A := [.sl kR1 n f]) (args' := [v]) Try.func4 (by kernel_rfl) ⟨hv, trivial⟩ (GOk_nil _)
    (by show 1 ≤ Try.f4.ntmps; decide +kernel) rfl nofun (fun es => ?_)
  by_cases h40 : n ≤ 40
  · rcases vld_or (bI f) n with hv | ⟨m, hm, hb, hv⟩
    · refine ⟨lrCA n f (es 0) (myB n (bI f) 0) _ _ _, ⟨mixed, tabOk, lrS_ok, oneL (lr_loopA h40 hv)⟩, rfl, (lr_evA n f _ _ _ _ es).trans ?_⟩
      rw [decide_eq_false (by omega), cond_false, lrA_eq, lrE_eq h40 hv]
    · refine ⟨lrCB n f (es 0) (myB n (bI f) 0), ⟨mixed, tabOk, lrS_ok, oneL (lr_loopB h40 hm hb hv)⟩, rfl, (lr_evB n f _ es).trans ?_⟩
      rw [decide_eq_false (by omega), cond_false, lrA_eq]; rfl
  · refine ⟨_, ⟨mixed, tabOk, lrS_ok, noneL2⟩, rfl, (lr_evN n f es).trans ?_⟩
    rw [decide_eq_true (by omega)]; rfl
end Go.Proofs.Ytheldjiikjaimaa
