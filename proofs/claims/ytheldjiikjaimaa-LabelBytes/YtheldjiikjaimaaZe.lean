/-
  Several texts in one: M87 M88 M89 W15 W25 M29 M31 M35 M36 M37 M38 W21 M51 M81 M82 M90 W32 M91 Xe Xb M92 Xc.
-/
import Derived.Test.YtheldjiikjaimaaZd
import Derived.ChangeArms
import Derived.Deep.Slices
import Derived.Shelf.Pu.Clone
namespace Go.W
open Go
def byt (s : ByteArray) (j : Nat) : Nat := (s.data.toList.getD j 0).toNat
theorem byt_lt (s : ByteArray) (j : Nat) : byt s j < 256 := (s.data.toList.getD j 0).toNat_lt
theorem get_byt (s : ByteArray) (j : Nat) : (s.get! j).toNat = byt s j := by
  cases s with | mk d =>
  show (d[j]!).toNat = (d.toList.getD j 0).toNat
  congr 1
  rw [List.getD_eq_getElem?_getD, Array.getElem?_toList]
  simp [getElem!_def]
  cases d[j]? <;> rfl
theorem byt_app (a b : ByteArray) (j : Nat) : byt (a ++ b) j = if j < a.size then byt a j else byt b (j - a.size) := by
  unfold byt
  rw [ByteArray.data_append, Array.toList_append, List.getD_eq_getElem?_getD, List.getD_eq_getElem?_getD, List.getD_eq_getElem?_getD]
  have e : a.data.toList.length = a.size := Array.length_toList
  by_cases h : j < a.size
  · rw [if_pos h, List.getElem?_append_left (by omega)]
  · rw [if_neg h, List.getElem?_append_right (by omega), e]
theorem byt_cut (s : ByteArray) (a b j : Nat) (h : j < b - a) : byt (s.extract a b) j = byt s (a + j) := by
  unfold byt
  rw [ByteArray.data_extract, Array.toList_extract, List.extract_eq_take_drop, List.getD_eq_getElem?_getD, List.getD_eq_getElem?_getD, List.getElem?_take, if_pos h, List.getElem?_drop]
theorem txt_ext {a b : ByteArray} (h : a.size = b.size) (h2 : ∀ j, j < a.size → byt a j = byt b j) : a = b := by
  apply ByteArray.ext
  apply Array.toList_inj.1
  have e1 : a.data.toList.length = a.size := Array.length_toList
  have e2 : b.data.toList.length = b.size := Array.length_toList
  apply List.ext_getElem (by omega)
  intro j h3 h4
  have := h2 j (by omega)
  unfold byt at this
  rw [List.getD_eq_getElem?_getD, List.getD_eq_getElem?_getD, List.getElem?_eq_getElem h3, List.getElem?_eq_getElem h4] at this
  exact UInt8.toNat_inj.1 this
theorem txt_eq (a b : ByteArray) : (a == b) = decide (a = b) := by
  rw [Bool.eq_iff_iff, decide_eq_true_eq]
  cases a with | mk x => cases b with | mk y =>
  show (x == y) = true ↔ _
  simp
theorem size_cut {s : ByteArray} {a b : Nat} (h : b ≤ s.size) : (s.extract a b).size = b - a := by rw [ByteArray.size_extract, Nat.min_eq_left h]
theorem cut_all (s : ByteArray) : s.extract 0 s.size = s := by
  apply txt_ext (by rw [size_cut (Nat.le_refl _), Nat.sub_zero])
  intro j hj
  rw [size_cut (Nat.le_refl _)] at hj
  rw [byt_cut _ _ _ _ (by omega), Nat.zero_add]
def decB (b : Nat → Nat) (n i : Nat) : Nat × Nat :=
  let cont (k : Nat) : Bool := decide (i + k < n) && b (i + k) / 64 == 2
  if b i < 128 then (b i, 1)
  else if b i / 32 == 6 && cont 1 then
    if (b i % 32) * 64 + b (i + 1) % 64 ≥ 128 then ((b i % 32) * 64 + b (i + 1) % 64, 2) else (65533, 1)
  else if b i / 16 == 14 && cont 1 && cont 2 then
    if (b i % 16) * 4096 + (b (i + 1) % 64) * 64 + b (i + 2) % 64 ≥ 2048 && Utf8.valid (((b i % 16) * 4096 + (b (i + 1) % 64) * 64 + b (i + 2) % 64 : Nat) : Int) then ((b i % 16) * 4096 + (b (i + 1) % 64) * 64 + b (i + 2) % 64, 3) else (65533, 1)
  else if b i / 8 == 30 && cont 1 && cont 2 && cont 3 then
    if (b i % 8) * 262144 + (b (i + 1) % 64) * 4096 + (b (i + 2) % 64) * 64 + b (i + 3) % 64 ≥ 65536 && Utf8.valid (((b i % 8) * 262144 + (b (i + 1) % 64) * 4096 + (b (i + 2) % 64) * 64 + b (i + 3) % 64 : Nat) : Int) then ((b i % 8) * 262144 + (b (i + 1) % 64) * 4096 + (b (i + 2) % 64) * 64 + b (i + 3) % 64, 4) else (65533, 1)
  else (65533, 1)
theorem dec_decB (s : ByteArray) (i : Nat) : Utf8.decode s i = decB (byt s) s.size i := by
  unfold Utf8.decode decB
  simp only [get_byt, Nat.add_zero]
  rfl
def runeAt (b : Nat → Nat) (i r w : Nat) : Prop :=
  (w = 1 ∧ b i < 128 ∧ r = b i) ∨
  (w = 2 ∧ b i / 32 = 6 ∧ b (i + 1) / 64 = 2 ∧ r = (b i % 32) * 64 + b (i + 1) % 64 ∧ 128 ≤ r) ∨
  (w = 3 ∧ b i / 16 = 14 ∧ b (i + 1) / 64 = 2 ∧ b (i + 2) / 64 = 2 ∧ r = (b i % 16) * 4096 + (b (i + 1) % 64) * 64 + b (i + 2) % 64 ∧ 2048 ≤ r ∧ Utf8.valid (r : Int) = true) ∨
  (w = 4 ∧ b i / 8 = 30 ∧ b (i + 1) / 64 = 2 ∧ b (i + 2) / 64 = 2 ∧ b (i + 3) / 64 = 2 ∧ r = (b i % 8) * 262144 + (b (i + 1) % 64) * 4096 + (b (i + 2) % 64) * 64 + b (i + 3) % 64 ∧ 65536 ≤ r ∧ Utf8.valid (r : Int) = true)
theorem cont_iff {b : Nat → Nat} {n j : Nat} : (decide (j < n) && b j / 64 == 2) = true ↔ j < n ∧ b j / 64 = 2 := by
  rw [Bool.and_eq_true, decide_eq_true_eq, beq_iff_eq]
theorem decB_rune {b : Nat → Nat} {n i r w : Nat} (h : runeAt b i r w) (hn : i + w ≤ n) : decB b n i = (r, w) := by
  unfold decB
  rcases h with ⟨rfl, h1, rfl⟩ | ⟨rfl, h1, h2, rfl, h3⟩ | ⟨rfl, h1, h2, h3, rfl, h4, h5⟩ | ⟨rfl, h1, h2, h3, h4, rfl, h5, h6⟩
  · rw [if_pos h1]
  · rw [if_neg (by omega), if_pos (by rw [Bool.and_eq_true, cont_iff, beq_iff_eq]; omega), if_pos h3]
  · rw [if_neg (by omega), if_neg (by rw [Bool.and_eq_true, beq_iff_eq]; omega), if_pos (by rw [Bool.and_eq_true, Bool.and_eq_true, cont_iff, cont_iff, beq_iff_eq]; omega), if_pos (by rw [Bool.and_eq_true, decide_eq_true_eq]; exact ⟨h4, h5⟩)]
  · rw [if_neg (by omega), if_neg (by rw [Bool.and_eq_true, beq_iff_eq]; omega), if_neg (by rw [Bool.and_eq_true, Bool.and_eq_true, beq_iff_eq]; omega), if_pos (by rw [Bool.and_eq_true, Bool.and_eq_true, Bool.and_eq_true, cont_iff, cont_iff, cont_iff, beq_iff_eq]; omega), if_pos (by rw [Bool.and_eq_true, decide_eq_true_eq]; exact ⟨h5, h6⟩)]
theorem decB_cases {b : Nat → Nat} {n i : Nat} (hi : i < n) : (decB b n i = (65533, 1) ∧ ∀ r w, i + w ≤ n → ¬ runeAt b i r w) ∨ ∃ r w, decB b n i = (r, w) ∧ runeAt b i r w ∧ i + w ≤ n := by
  by_cases h : ∃ r w, runeAt b i r w ∧ i + w ≤ n
  · obtain ⟨r, w, h1, h2⟩ := h
    exact .inr ⟨r, w, decB_rune h1 h2, h1, h2⟩
  · refine .inl ⟨?_, fun r w h1 h2 => h ⟨r, w, h2, h1⟩⟩
    unfold decB
    by_cases h0 : b i < 128
    · exact absurd ⟨b i, 1, .inl ⟨rfl, h0, rfl⟩, by omega⟩ h
    rw [if_neg h0]
    by_cases h1 : b i / 32 = 6 ∧ i + 1 < n ∧ b (i + 1) / 64 = 2
    · rw [if_pos (by rw [Bool.and_eq_true, cont_iff, beq_iff_eq]; exact h1)]
      by_cases h2 : (b i % 32) * 64 + b (i + 1) % 64 ≥ 128
      · exact absurd ⟨_, 2, .inr (.inl ⟨rfl, h1.1, h1.2.2, rfl, h2⟩), by omega⟩ h
      · rw [if_neg h2]
    rw [if_neg (by rw [Bool.and_eq_true, cont_iff, beq_iff_eq]; exact h1)]
    by_cases h2 : (b i / 16 = 14 ∧ i + 1 < n ∧ b (i + 1) / 64 = 2) ∧ i + 2 < n ∧ b (i + 2) / 64 = 2
    · rw [if_pos (by rw [Bool.and_eq_true, Bool.and_eq_true, cont_iff, cont_iff, beq_iff_eq]; exact h2)]
      by_cases h3 : (b i % 16) * 4096 + (b (i + 1) % 64) * 64 + b (i + 2) % 64 ≥ 2048 ∧ Utf8.valid (((b i % 16) * 4096 + (b (i + 1) % 64) * 64 + b (i + 2) % 64 : Nat) : Int) = true
      · exact absurd ⟨_, 3, .inr (.inr (.inl ⟨rfl, h2.1.1, h2.1.2.2, h2.2.2, rfl, h3.1, h3.2⟩)), by omega⟩ h
      · rw [if_neg (by rw [Bool.and_eq_true, decide_eq_true_eq]; exact h3)]
    rw [if_neg (by rw [Bool.and_eq_true, Bool.and_eq_true, cont_iff, cont_iff, beq_iff_eq]; exact h2)]
    by_cases h3 : ((b i / 8 = 30 ∧ i + 1 < n ∧ b (i + 1) / 64 = 2) ∧ i + 2 < n ∧ b (i + 2) / 64 = 2) ∧ i + 3 < n ∧ b (i + 3) / 64 = 2
    · rw [if_pos (by rw [Bool.and_eq_true, Bool.and_eq_true, Bool.and_eq_true, cont_iff, cont_iff, cont_iff, beq_iff_eq]; exact h3)]
      by_cases h4 : (b i % 8) * 262144 + (b (i + 1) % 64) * 4096 + (b (i + 2) % 64) * 64 + b (i + 3) % 64 ≥ 65536 ∧ Utf8.valid (((b i % 8) * 262144 + (b (i + 1) % 64) * 4096 + (b (i + 2) % 64) * 64 + b (i + 3) % 64 : Nat) : Int) = true
      · exact absurd ⟨_, 4, .inr (.inr (.inr ⟨rfl, h3.1.1.1, h3.1.1.2.2, h3.1.2.2, h3.2.2, rfl, h4.1, h4.2⟩)), by omega⟩ h
      · rw [if_neg (by rw [Bool.and_eq_true, decide_eq_true_eq]; exact h4)]
    rw [if_neg (by rw [Bool.and_eq_true, Bool.and_eq_true, Bool.and_eq_true, cont_iff, cont_iff, cont_iff, beq_iff_eq]; exact h3)]
theorem runeAt_congr {b b' : Nat → Nat} {i i' r w : Nat} (h : runeAt b i r w) (hb : ∀ k, k < w → b' (i' + k) = b (i + k)) : runeAt b' i' r w := by
  rcases h with ⟨rfl, h1, rfl⟩ | ⟨rfl, h1, h2, rfl, h3⟩ | ⟨rfl, h1, h2, h3, rfl, h4, h5⟩ | ⟨rfl, h1, h2, h3, h4, rfl, h5, h6⟩
  · have e0 : b' i' = b i := hb 0 (by omega)
    exact .inl ⟨rfl, by rw [e0]; exact h1, e0.symm⟩
  · have e0 : b' i' = b i := hb 0 (by omega)
    have e1 := hb 1 (by omega)
    exact .inr (.inl ⟨rfl, by rw [e0]; exact h1, by rw [e1]; exact h2, by rw [e0, e1], h3⟩)
  · have e0 : b' i' = b i := hb 0 (by omega)
    have e1 := hb 1 (by omega)
    have e2 := hb 2 (by omega)
    exact .inr (.inr (.inl ⟨rfl, by rw [e0]; exact h1, by rw [e1]; exact h2, by rw [e2]; exact h3, by rw [e0, e1, e2], h4, h5⟩))
  · have e0 : b' i' = b i := hb 0 (by omega)
    have e1 := hb 1 (by omega)
    have e2 := hb 2 (by omega)
    have e3 := hb 3 (by omega)
    exact .inr (.inr (.inr ⟨rfl, by rw [e0]; exact h1, by rw [e1]; exact h2, by rw [e2]; exact h3, by rw [e3]; exact h4, by rw [e0, e1, e2, e3], h5, h6⟩))
theorem runeAt_w {b : Nat → Nat} {i r w : Nat} (h : runeAt b i r w) : 1 ≤ w ∧ w ≤ 4 := by
  rcases h with ⟨rfl, _⟩ | ⟨rfl, _⟩ | ⟨rfl, _⟩ | ⟨rfl, _⟩ <;> omega
theorem decB_w {b : Nat → Nat} {n i : Nat} (hi : i < n) : 1 ≤ (decB b n i).2 ∧ i + (decB b n i).2 ≤ n := by
  rcases decB_cases (b := b) hi with ⟨h, _⟩ | ⟨r, w, h, h1, h2⟩
  · rw [h]; exact ⟨Nat.le_refl _, hi⟩
  · rw [h]; exact ⟨(runeAt_w h1).1, h2⟩
theorem decB_shift {b b' : Nat → Nat} {n n' i i' : Nat} (hi : i < n) (hn : n' - i' = n - i) (hi' : i' < n') (hb : ∀ k, i + k < n → b' (i' + k) = b (i + k)) : decB b' n' i' = decB b n i := by
  rcases decB_cases (b := b) hi with ⟨h, hno⟩ | ⟨r, w, h, h1, h2⟩
  · rcases decB_cases (b := b') hi' with ⟨h', _⟩ | ⟨r, w, h', h1, h2⟩
    · rw [h, h']
    · exact absurd (runeAt_congr h1 fun k hk => (hb k (by omega)).symm) (hno r w (by omega))
  · rw [h]; exact decB_rune (runeAt_congr h1 fun k hk => hb k (by omega)) (by omega)
theorem decB_pre {b b' : Nat → Nat} {n n' i : Nat} (hn : n' ≤ n) (hi : i + (decB b n i).2 ≤ n') (hi2 : i < n') (hb : ∀ k, k < n' → b' k = b k) : decB b' n' i = decB b n i := by
  rcases decB_cases (b := b) (show i < n by omega) with ⟨h, hno⟩ | ⟨r, w, h, h1, h2⟩
  · rcases decB_cases (b := b') hi2 with ⟨h', _⟩ | ⟨r, w, h', h1, h2⟩
    · rw [h, h']
    · exact absurd (runeAt_congr h1 fun k hk => (hb _ (by omega)).symm) (hno r w (by omega))
  · rw [h] at hi ⊢
    exact decB_rune (runeAt_congr h1 fun k hk => hb _ (by simp only at hi; omega)) hi
theorem decB_ext {b b' : Nat → Nat} {n n' i : Nat} (hn : n ≤ n') (hi : i < n) (hv : decB b n i ≠ (65533, 1)) (hb : ∀ k, k < n → b' k = b k) : decB b' n' i = decB b n i := by
  rcases decB_cases (b := b) hi with ⟨h, _⟩ | ⟨r, w, h, h1, h2⟩
  · exact absurd h hv
  · rw [h]; exact decB_rune (runeAt_congr h1 fun k hk => hb _ (by omega)) (by omega)
def dC (s : ByteArray) (p : Nat) : Nat := (decB (byt s) s.size p).1
def dW (s : ByteArray) (p : Nat) : Nat := (decB (byt s) s.size p).2
theorem dcC_dC (s : ByteArray) (p : Nat) : dcC s p = (dC s p : Int) := by unfold dcC dC; rw [dec_decB]
theorem dcW_dW (s : ByteArray) (p : Nat) : dcW s p = dW s p := by unfold dcW dW; rw [dec_decB]
theorem dW_le {s : ByteArray} {p : Nat} (h : p < s.size) : 1 ≤ dW s p ∧ p + dW s p ≤ s.size := decB_w h
def stp (s : ByteArray) (p : Nat) : Nat := if p < s.size then p + dW s p else p
def psF (s : ByteArray) (p : Nat) : Nat → Nat
  | 0 => p
  | k + 1 => stp s (psF s p k)
def ps (s : ByteArray) (k : Nat) : Nat := psF s 0 k
def rc (s : ByteArray) (k : Nat) : Nat := dC s (ps s k)
theorem psF_add (s : ByteArray) (p j : Nat) : ∀ k, psF s p (j + k) = psF s (psF s p j) k
  | 0 => rfl
  | k + 1 => by show stp s (psF s p (j + k)) = stp s _; rw [psF_add s p j k]
theorem ps_zero (s : ByteArray) : ps s 0 = 0 := rfl
theorem ps_succ (s : ByteArray) (k : Nat) : ps s (k + 1) = stp s (ps s k) := rfl
theorem stp_le {s : ByteArray} {p : Nat} (h : p ≤ s.size) : stp s p ≤ s.size ∧ p ≤ stp s p := by
  unfold stp
  split
  · rename_i h1; have := dW_le h1; omega
  · omega
theorem ps_le (s : ByteArray) : ∀ k, ps s k ≤ s.size
  | 0 => Nat.zero_le _
  | k + 1 => (stp_le (ps_le s k)).1
theorem ps_mono1 (s : ByteArray) (k : Nat) : ps s k ≤ ps s (k + 1) := (stp_le (ps_le s k)).2
theorem ps_mono (s : ByteArray) {j k : Nat} (h : j ≤ k) : ps s j ≤ ps s k := by
  induction k with
  | zero => rw [Nat.le_zero.1 h]; exact Nat.le_refl _
  | succ k ih =>
    by_cases e : j = k + 1
    · rw [e]; exact Nat.le_refl _
    · exact Nat.le_trans (ih (by omega)) (ps_mono1 s k)
theorem ps_lt {s : ByteArray} {k : Nat} (h : ps s k < s.size) : ps s k < ps s (k + 1) ∧ ps s (k + 1) = ps s k + dW s (ps s k) := by
  have e : ps s (k + 1) = ps s k + dW s (ps s k) := by rw [ps_succ]; unfold stp; rw [if_pos h]
  have := dW_le h
  omega
def isK (s : ByteArray) (n : Nat) : Prop := (∀ k, k < n → ps s k < s.size) ∧ ps s n = s.size
theorem isK_fun {s : ByteArray} {n m : Nat} (h : isK s n) (h2 : isK s m) : n = m := by
  rcases Nat.lt_trichotomy n m with h3 | h3 | h3
  · have := h2.1 n h3; have := h.2; omega
  · exact h3
  · have := h.1 m h3; have := h2.2; omega
theorem ps_grow (s : ByteArray) : ∀ k, k ≤ ps s k ∨ ps s k = s.size
  | 0 => .inl (Nat.le_refl _)
  | k + 1 => by
    by_cases h : ps s k < s.size
    · have := ps_lt h
      rcases ps_grow s k with h1 | h1 <;> omega
    · right
      rw [ps_succ]; unfold stp; rw [if_neg h]
      have := ps_le s k; omega
theorem isK_ex (s : ByteArray) : ∃ n, isK s n ∧ n ≤ s.size := by
  have key : ∀ n, (∀ k, k < n → ps s k < s.size) ∨ ∃ m, m < n ∧ isK s m := by
    intro n
    induction n with
    | zero => exact .inl fun k h => absurd h (Nat.not_lt_zero _)
    | succ n ih =>
      rcases ih with h | ⟨m, h1, h2⟩
      · by_cases e : ps s n < s.size
        · left
          intro k hk
          by_cases e2 : k = n
          · rw [e2]; exact e
          · exact h k (by omega)
        · right
          exact ⟨n, by omega, h, by have := ps_le s n; omega⟩
      · exact .inr ⟨m, by omega, h2⟩
  rcases key (s.size + 1) with h | ⟨m, h1, h2⟩
  · exfalso
    have h1 := h s.size (by omega)
    rcases ps_grow s s.size with h2 | h2 <;> omega
  · exact ⟨m, h2, by omega⟩
noncomputable def rN (s : ByteArray) : Nat := hide (Classical.choose (isK_ex s))
theorem rN_is (s : ByteArray) : isK s (rN s) := by unfold rN; rw [hide_eq]; exact (Classical.choose_spec (isK_ex s)).1
theorem rN_le (s : ByteArray) : rN s ≤ s.size := by unfold rN; rw [hide_eq]; exact (Classical.choose_spec (isK_ex s)).2
theorem rN_of {s : ByteArray} {n : Nat} (h : isK s n) : rN s = n := isK_fun (rN_is s) h
theorem ps_rN {s : ByteArray} {k : Nat} (h : rN s ≤ k) : ps s k = s.size := by
  have h1 := ps_mono s h
  have := (rN_is s).2
  have := ps_le s k
  omega
theorem lt_rN {s : ByteArray} {k : Nat} : ps s k < s.size ↔ k < rN s := by
  constructor
  · intro h
    rcases Nat.lt_or_ge k (rN s) with h1 | h1
    · exact h1
    · rw [ps_rN h1] at h; omega
  · exact (rN_is s).1 k
end Go.W

namespace Go.W
open Go
theorem size_pre (s : ByteArray) (k : Nat) : (s.extract 0 (ps s k)).size = ps s k := by rw [size_cut (ps_le s k), Nat.sub_zero]
theorem dec_pre {s : ByteArray} {q p : Nat} (hq : q ≤ s.size) (hp : p < q) (hw : p + dW s p ≤ q) : decB (byt (s.extract 0 q)) (s.extract 0 q).size p = decB (byt s) s.size p := by
  rw [size_cut hq, Nat.sub_zero]
  exact decB_pre hq hw hp fun k hk => by rw [byt_cut _ _ _ _ (by omega), Nat.zero_add]
theorem ps_pre (s : ByteArray) (k : Nat) : ∀ j, j ≤ k → ps (s.extract 0 (ps s k)) j = ps s j
  | 0, _ => rfl
  | j + 1, h => by
    rw [ps_succ, ps_succ, ps_pre s k j (by omega)]
    unfold stp
    rw [size_pre]
    by_cases h1 : ps s j < s.size
    · have h2 := ps_lt h1
      have h3 := ps_mono s h
      rw [if_pos (by omega), if_pos h1]
      show ps s j + (decB _ _ _).2 = _
      rw [dec_pre (ps_le s k) (by omega) (by omega)]; rfl
    · have h2 := ps_mono s h
      have h3 := ps_mono1 s j
      have h4 := ps_le s k
      rw [if_neg (by omega), if_neg h1]
theorem rN_pre (s : ByteArray) (k : Nat) : rN (s.extract 0 (ps s k)) = min k (rN s) := by
  apply rN_of
  refine ⟨fun j hj => ?_, ?_⟩
  · rw [size_pre, ps_pre s k j (by omega)]
    have h1 := (rN_is s).1 j (by omega)
    have h2 := ps_lt h1
    have h3 := ps_mono s (show j + 1 ≤ k by omega)
    omega
  · rw [size_pre, ps_pre s k _ (Nat.min_le_left _ _)]
    rcases Nat.le_total k (rN s) with h | h
    · rw [Nat.min_eq_left h]
    · rw [Nat.min_eq_right h, ps_rN (Nat.le_refl _), ps_rN h]
noncomputable def cutT (s : ByteArray) (n : Int) : ByteArray := hide (s.extract 0 (ps s n.toNat))
theorem cutT_eq (s : ByteArray) (n : Int) : cutT s n = s.extract 0 (ps s n.toNat) := hide_eq _
theorem cutT_all (s : ByteArray) {n : Int} (h : (rN s : Int) ≤ n) : cutT s n = s := by rw [cutT_eq, ps_rN (by omega)]; exact cut_all s
theorem cutT_size (s : ByteArray) (n : Int) : (cutT s n).size = ps s n.toNat := by rw [cutT_eq, size_pre]
theorem size_app (a b : ByteArray) : (a ++ b).size = a.size + b.size := ByteArray.size_append
theorem dec_behind (c r : ByteArray) {p : Nat} (hp : p < r.size) : decB (byt (c ++ r)) (c ++ r).size (c.size + p) = decB (byt r) r.size p := by
  rw [size_app]
  exact decB_shift hp (by omega) (by omega) fun k hk => by rw [byt_app, if_neg (by omega), show c.size + p + k - c.size = p + k from by omega]
theorem stp_behind (c r : ByteArray) (p : Nat) : stp (c ++ r) (c.size + p) = c.size + stp r p := by
  unfold stp
  rw [size_app]
  by_cases h : p < r.size
  · rw [if_pos (by omega), if_pos h]
    show c.size + p + (decB _ _ _).2 = _
    rw [dec_behind c r h]
    show _ = c.size + (p + (decB _ _ _).2)
    omega
  · rw [if_neg (by omega), if_neg h]
theorem psF_behind (c r : ByteArray) (p : Nat) : ∀ j, psF (c ++ r) (c.size + p) j = c.size + psF r p j
  | 0 => rfl
  | j + 1 => by
    show stp _ (psF _ _ j) = c.size + stp r (psF r p j)
    rw [psF_behind c r p j, stp_behind]
theorem ps_behind {c r : ByteArray} {m : Nat} (h : ps (c ++ r) m = c.size) (j : Nat) : ps (c ++ r) (m + j) = c.size + ps r j := by
  show psF _ 0 (m + j) = _
  rw [psF_add, show psF (c ++ r) 0 m = c.size + 0 from h, psF_behind]; rfl
theorem rc_behind {c r : ByteArray} {m : Nat} (h : ps (c ++ r) m = c.size) {j : Nat} (hj : j < rN r) : rc (c ++ r) (m + j) = rc r j := by
  unfold rc
  rw [ps_behind h]
  show (decB _ _ _).1 = (decB _ _ _).1
  rw [dec_behind c r ((rN_is r).1 j hj)]
theorem rN_behind {c r : ByteArray} {m : Nat} (h : ps (c ++ r) m = c.size) (h2 : ∀ k, k < m → ps (c ++ r) k < c.size) : rN (c ++ r) = m + rN r := by
  apply rN_of
  refine ⟨fun k hk => ?_, ?_⟩
  · rw [size_app]
    by_cases e : k < m
    · have := h2 k e; omega
    · obtain ⟨j, rfl⟩ : ∃ j, k = m + j := ⟨k - m, by omega⟩
      rw [ps_behind h]
      have := (rN_is r).1 j (by omega)
      omega
  · rw [ps_behind h, size_app, (rN_is r).2]
def right (s : ByteArray) : Prop := ∀ k, k < rN s → decB (byt s) s.size (ps s k) ≠ (65533, 1)
theorem dec_ahead {a b : ByteArray} {p : Nat} (hp : p < a.size) (hv : decB (byt a) a.size p ≠ (65533, 1)) : decB (byt (a ++ b)) (a ++ b).size p = decB (byt a) a.size p :=
  decB_ext (by rw [size_app]; omega) hp hv fun k hk => by rw [byt_app, if_pos hk]
theorem ps_ahead {a b : ByteArray} (h : right a) : ∀ k, k ≤ rN a → ps (a ++ b) k = ps a k
  | 0, _ => rfl
  | k + 1, hk => by
    have h1 := (rN_is a).1 k (by omega)
    rw [ps_succ, ps_succ, ps_ahead h k (by omega)]
    unfold stp
    rw [if_pos (by rw [size_app]; omega), if_pos h1]
    show _ + (decB _ _ _).2 = _ + (decB _ _ _).2
    rw [dec_ahead h1 (h k (by omega))]
theorem rc_ahead {a b : ByteArray} (h : right a) {k : Nat} (hk : k < rN a) : rc (a ++ b) k = rc a k := by
  unfold rc
  rw [ps_ahead h k (by omega)]
  show (decB _ _ _).1 = (decB _ _ _).1
  rw [dec_ahead ((rN_is a).1 k hk) (h k hk)]
theorem ps_join {a b : ByteArray} (h : right a) : ps (a ++ b) (rN a) = a.size := by rw [ps_ahead h _ (Nat.le_refl _), (rN_is a).2]
theorem rN_join {a b : ByteArray} (h : right a) : rN (a ++ b) = rN a + rN b :=
  rN_behind (ps_join h) fun k hk => by rw [ps_ahead h k (by omega)]; exact (rN_is a).1 k hk
theorem rc_join {a b : ByteArray} (h : right a) {j : Nat} (hj : j < rN b) : rc (a ++ b) (rN a + j) = rc b j := rc_behind (ps_join h) hj
theorem right_pre {s : ByteArray} (h : right s) (k : Nat) : right (s.extract 0 (ps s k)) := by
  intro j hj
  rw [rN_pre] at hj
  rw [ps_pre s k j (by omega)]
  have h1 := (rN_is s).1 j (by omega)
  have h2 := ps_lt h1
  have h3 := ps_mono s (show j + 1 ≤ k by omega)
  rw [dec_pre (ps_le s k) (by omega) (by omega)]
  exact h j (by omega)
def okC (r : Nat) : Prop := 32 ≤ r ∧ (r < 127 ∨ 160 ≤ r) ∧ r ≠ 65533
def lbl (s : ByteArray) : Prop := 1 ≤ rN s ∧ rN s ≤ 24 ∧ (∀ k, k < rN s → okC (rc s k)) ∧ rc s 0 ≠ 32 ∧ rc s (rN s - 1) ≠ 32
theorem lbl_right {s : ByteArray} (h : ∀ k, k < rN s → okC (rc s k)) : right s := by
  intro k hk e
  have h1 := (h k hk).2.2
  unfold rc dC at h1
  rw [e] at h1
  exact h1 rfl
noncomputable def lblB (s : ByteArray) : Bool := hide (@decide (lbl s) (Classical.propDecidable _))
theorem lblB_iff {s : ByteArray} : lblB s = true ↔ lbl s := by
  unfold lblB; rw [hide_eq]
  exact ⟨fun h => @of_decide_eq_true _ (Classical.propDecidable _) h, fun h => @decide_eq_true _ (Classical.propDecidable _) h⟩
end Go.W

namespace Go.W
open Go
def fdN (x : Nat) : Nat := if 65 ≤ x ∧ x ≤ 90 then x + 32 else x
def fdU (x : UInt8) : UInt8 := UInt8.ofNat (fdN x.toNat)
theorem fdN_lt {x : Nat} (h : x < 256) : fdN x < 256 := by unfold fdN; split <;> omega
theorem fdU_nat (x : UInt8) : (fdU x).toNat = fdN x.toNat := by
  unfold fdU
  rw [UInt8.toNat_ofNat']
  exact Nat.mod_eq_of_lt (fdN_lt x.toNat_lt)
noncomputable def foT (s : ByteArray) : ByteArray := hide ⟨(s.data.toList.map fdU).toArray⟩
theorem foT_size (s : ByteArray) : (foT s).size = s.size := by
  unfold foT; rw [hide_eq]
  show (List.toArray _).size = s.data.size
  simp
theorem byt_fo (s : ByteArray) (j : Nat) : byt (foT s) j = fdN (byt s j) := by
  unfold foT; rw [hide_eq]
  unfold byt
  show ((List.map fdU s.data.toList).toArray.toList.getD j 0).toNat = _
  rw [List.toList_toArray, List.getD_eq_getElem?_getD, List.getD_eq_getElem?_getD, List.getElem?_map]
  cases h : s.data.toList[j]? with
  | none => rfl
  | some x => exact fdU_nat x
theorem one_rune {s : ByteArray} {r : Nat} (h : runeAt (byt s) 0 r s.size) : rN s = 1 ∧ right s ∧ rc s 0 = r ∧ 1 ≤ s.size := by
  have hw := runeAt_w h
  have hd : decB (byt s) s.size 0 = (r, s.size) := decB_rune h (by omega)
  have hp : ps s 1 = s.size := by
    rw [ps_succ, ps_zero]
    unfold stp
    rw [if_pos (by omega)]
    show 0 + (decB _ _ _).2 = _
    rw [hd, Nat.zero_add]
  have hN : rN s = 1 := rN_of ⟨fun k hk => by rw [show k = 0 from by omega, ps_zero]; omega, hp⟩
  refine ⟨hN, fun k hk => ?_, ?_, hw.1⟩
  · rw [hN] at hk
    rw [show k = 0 from by omega, ps_zero, hd]
    rintro e
    simp only [Prod.mk.injEq] at e
    obtain ⟨rfl, e⟩ := e
    rw [e] at h
    rcases h with ⟨_, h1, h2⟩ | ⟨h1, _⟩ | ⟨h1, _⟩ | ⟨h1, _⟩ <;> omega
  · unfold rc
    rw [ps_zero]
    show (decB _ _ _).1 = r
    rw [hd]
def vld (r : Int) : Prop := 0 ≤ r ∧ r ≤ 1114111 ∧ ¬ (55296 ≤ r ∧ r < 57344)
theorem valid_vld {r : Int} : Utf8.valid r = true ↔ vld r := by
  unfold Utf8.valid vld
  rw [Bool.or_eq_true, Bool.and_eq_true, Bool.and_eq_true, decide_eq_true_eq, decide_eq_true_eq, decide_eq_true_eq, decide_eq_true_eq]
  omega
theorem ps_none {t : ByteArray} {m : Nat} (hm : m ≤ t.size) (h : ∀ j, j < m → ∀ r w, j + w ≤ t.size → ¬ runeAt (byt t) j r w) : ∀ j, j ≤ m → ps t j = j
  | 0, _ => rfl
  | j + 1, hj => by
    rw [ps_succ, ps_none hm h j (by omega)]
    unfold stp
    rw [if_pos (by omega)]
    show j + (decB _ _ _).2 = _
    rcases decB_cases (b := byt t) (show j < t.size by omega) with ⟨h1, _⟩ | ⟨r, w, _, h1, h2⟩
    · rw [h1]
    · exact absurd h1 (h j (by omega) r w h2)
theorem rc_none {t : ByteArray} {m : Nat} (hm : m ≤ t.size) (h : ∀ j, j < m → ∀ r w, j + w ≤ t.size → ¬ runeAt (byt t) j r w) {j : Nat} (hj : j < m) : rc t j = 65533 := by
  unfold rc
  rw [ps_none hm h j (by omega)]
  show (decB _ _ _).1 = _
  rcases decB_cases (b := byt t) (show j < t.size by omega) with ⟨h1, _⟩ | ⟨r, w, _, h1, h2⟩
  · rw [h1]
  · exact absurd h1 (h j (by omega) r w h2)
theorem spoilt {s bad : ByteArray} {k : Nat} (hs : lbl s) (hk : k ≤ rN s) {q : Nat} (hq : 1 ≤ q)
    (hb : rN (bad ++ s.extract (ps s k) s.size) = q + rN (s.extract (ps s k) s.size)) (hc : ¬ okC (rc (bad ++ s.extract (ps s k) s.size) 0)) :
    ¬ lbl (s.extract 0 (ps s k) ++ bad ++ s.extract (ps s k) s.size) ∧ rN s < rN (s.extract 0 (ps s k) ++ bad ++ s.extract (ps s k) s.size) := by
  have hr : right (s.extract 0 (ps s k)) := right_pre (lbl_right hs.2.2.1) k
  have hN : rN (s.extract 0 (ps s k)) = k := by rw [rN_pre, Nat.min_eq_left hk]
  rw [ByteArray.append_assoc]
  have e : s.extract 0 (ps s k) ++ s.extract (ps s k) s.size = s := by
    apply txt_ext
    · rw [size_app, size_pre, size_cut (Nat.le_refl _)]; have := ps_le s k; omega
    · intro j hj
      rw [size_app, size_pre, size_cut (Nat.le_refl _)] at hj
      rw [byt_app, size_pre]
      split
      · rw [byt_cut _ _ _ _ (by omega), Nat.zero_add]
      · rw [byt_cut _ _ _ _ (by omega)]; congr 1; omega
  have hs2 : rN s = k + rN (s.extract (ps s k) s.size) := by
    have := rN_join (b := s.extract (ps s k) s.size) hr
    rw [e, hN] at this; exact this
  have ht : rN (s.extract 0 (ps s k) ++ (bad ++ s.extract (ps s k) s.size)) = k + (q + rN (s.extract (ps s k) s.size)) := by rw [rN_join hr, hN, hb]
  refine ⟨fun hl => hc ?_, by omega⟩
  have h1 := hl.2.2.1 k (by omega)
  have h2 := rc_join (b := bad ++ s.extract (ps s k) s.size) hr (j := 0) (by omega)
  rw [hN, Nat.add_zero] at h2
  rw [h2] at h1
  exact h1
end Go.W

namespace Go.W
open Go.RowKit (Below)
inductive Arg where
  | pl (v : Value)
  | sl (ks : List CK) (n : Nat) (g : Nat → List Value)
def argId (k : Nat) : Nat := 1500000 + k
section
variable {R : Type}
variable {R' : Type} (h : R → R')
end
section
variable {P : Program} {GL : Glob} {w0 : Wb GL} {R : Nat → Pl → Prop} {fm : Nat → Option Blk} {w : World}
end
section
variable {GL : Glob} {w0 : Wb GL} {R : Nat → Pl → Prop} {fm : Nat → Option Blk} {w : World}
end
section
variable {P : Program} [Laid P] {C : Cfg} {c : Code}
section
variable {T : Tab} {GL : Glob} {w0 : Wb GL} {R R' : Nat → Pl → Prop} {fm : Nat → Option Blk} {w w' : World} {wc : Wb GL} {mC : Nat → Option Blk}
end
end
end Go.W

namespace Go.W
theorem loopE {P : Program} [Laid P] {code : Code} {n : Nat} (C : Nat → Cfg) (N : Nat) (hC : ∀ k, k ≤ N → CfgOk P (C k) code) (hn : ∀ k, (C k).n = n) {p : List Nat} (hp : codeAt p code = some (.loop (loopAt p code))) {m : Nat} {ts : List Nat} {is : Ren} {tx : Nat} {nt et : List Nat} {ni ei : Ren} {nx ex : Nat} (st : Nat → St) {e : Exit} {s0 sf : St} (h0 : s0 = st 0) (he : e ≠ .normal)
    (step : ∀ k, k < N → ∃ s, roundS (C k) m (p ++ [0]) (loopAt p code) nt ni nx et ei ex (st k) = some (.normal, s) ∧ stEq s (st (k + 1)) = true)
    (last : ∃ s, roundS (C N) m (p ++ [0]) (loopAt p code) nt ni nx et ei ex (st N) = some (e, s) ∧ stEq s sf = true) :
    LoopOk P n (loopAt p code) (atSt ts is tx s0 e sf) := by
  refine atSt_ok fun w0 R a w hrel => ?_
  rw [h0] at hrel
  have hx : codeAt (p ++ [0]) code = some (loopAt p code) := by rw [codeAt_app, hp]; rfl
  have key : ∀ j, j ≤ N → ∀ (R : Nat → Pl → Prop) (a : Act) (w : World), Rel w0 n R (st (N - j)).f a w → Code.rounds P (loopAt p code) (fun e' a' w' => e' = e ∧ ∃ R', Rel w0 n R' sf.f a' w') (j + 1) a w := by
    intro j
    induction j with
    | zero =>
      intro _ R a w hr
      rw [rounds_succ]
      obtain ⟨s, h1, h2⟩ := last
      have hs := round_sound (hC N (Nat.le_refl _)) hx h1 (w0 := w0) (R := R) (a := a) (w := w) (by rw [hn]; exact hr)
      rw [hn] at hs
      refine wp_mono hs ?_
      rintro e' a' w' ⟨rfl, R', hr'⟩
      cases e' with
      | normal => exact absurd rfl he
      | _ => exact ⟨rfl, R', hr'.eqv h2⟩
    | succ j ih =>
      intro hj R a w hr
      rw [rounds_succ]
      obtain ⟨s, h1, h2⟩ := step (N - (j + 1)) (by omega)
      have hs := round_sound (hC (N - (j + 1)) (by omega)) hx h1 (w0 := w0) (R := R) (a := a) (w := w) (by rw [hn]; exact hr)
      rw [hn] at hs
      refine wp_mono hs ?_
      rintro e' a' w' ⟨rfl, R', hr'⟩
      refine ih (by omega) R' a' w' ?_
      rw [show N - j = N - (j + 1) + 1 from by omega]
      exact hr'.eqv h2
  exact wp_loop_rounds (N + 1) (key N (Nat.le_refl N) R a w (by rw [Nat.sub_self]; exact hrel))
theorem mNil : memEq [] [] = true := rfl
theorem mRow {a : Nat} {ks : List CK} {n : Nat} {f g : Nat → List Value} {e : TypeId} {o : Bool} {l m : List (Nat × Blk)} (h : ∀ j, j < n → nrmK ks (f j) = nrmK ks (g j)) (h2 : memEq l m = true) : memEq ((a, ⟨.row ks n f, e, o⟩) :: l) ((a, ⟨.row ks n g, e, o⟩) :: m) = true := memEq_cons (cellsEq_rr h) h2
end Go.W

namespace Go.W
section
variable {P0 : Nat} [NeZero P0]
theorem d1 (x y : Fin P0) : (x * x + (x * x + x * x)) * (x * x + (x * x + x * x)) - (x * ((y + y) * (y + y)) + x * ((y + y) * (y + y))) = twX x y := by unfold twX; grind
theorem d2 (x y : Fin P0) : (x * x + (x * x + x * x)) * (x * ((y + y) * (y + y)) - twX x y) - (y + y) * (y + y) * (y + y) * y = twY x y := by unfold twY; generalize twX x y = w; grind
theorem d3 (y z : Fin P0) : (y + y) * z = twZ y z := by unfold twZ; grind
end
section
variable {P0 : Nat} [NeZero P0]
theorem p1 (x2 z x : Fin P0) : x2 * (z * z) - x = plU x2 z - plU x 1 := by unfold plU; grind
theorem p2 (y2 z y : Fin P0) : y2 * (z * (z * z)) - y = plS y2 z - plS y 1 := by unfold plS; grind
theorem p3 (x h r : Fin P0) : r * r - h * (h * h) - (x * (h * h) + x * (h * h)) = plX (plU x 1) h r := by unfold plX plU; grind
end
end Go.W

namespace Go.W
def kB : List CK := [.i .u8]
def bI (f : Nat → List Value) (j : Nat) : Int := toI ((f j).headD (.bool false))
theorem nrm_kB (f : Nat → List Value) (j : Nat) : nrmK kB (f j) = [.int .u8 (bI f j)] := rfl
end Go.W

namespace Go.W
def rotN (X n : Nat) : Nat := (X * 2 ^ (32 - n) % 4294967296) ||| (X / 2 ^ n)
end Go.W

namespace Go.W
def ad (a b : Nat) : Nat := (a + b) % 4294967296
def ntN (a : Nat) : Nat := 4294967295 ^^^ a
def kL : List Nat := [1116352408, 1899447441, 3049323471, 3921009573, 961987163, 1508970993, 2453635748, 2870763221, 3624381080, 310598401, 607225278, 1426881987, 1925078388, 2162078206, 2614888103, 3248222580, 3835390401, 4022224774, 264347078, 604807628, 770255983, 1249150122, 1555081692, 1996064986, 2554220882, 2821834349, 2952996808, 3210313671, 3336571891, 3584528711, 113926993, 338241895, 666307205, 773529912, 1294757372, 1396182291, 1695183700, 1986661051, 2177026350, 2456956037, 2730485921, 2820302411, 3259730800, 3345764771, 3516065817, 3600352804, 4094571909, 275423344, 430227734, 506948616, 659060556, 883997877, 958139571, 1322822218, 1537002063, 1747873779, 1955562222, 2024104815, 2227730452, 2361852424, 2428436474, 2756734187, 3204031479, 3329325298]
def kN (t : Nat) : Nat := kL.getD t 0
def s0N (x : Nat) : Nat := rotN x 7 ^^^ rotN x 18 ^^^ (x / 2 ^ 3)
def s1N (x : Nat) : Nat := rotN x 17 ^^^ rotN x 19 ^^^ (x / 2 ^ 10)
def S0N (x : Nat) : Nat := rotN x 2 ^^^ rotN x 13 ^^^ rotN x 22
def S1N (x : Nat) : Nat := rotN x 6 ^^^ rotN x 11 ^^^ rotN x 25
def chN (e f g : Nat) : Nat := (e &&& f) ^^^ (ntN e &&& g)
def maN (a b c : Nat) : Nat := (a &&& b) ^^^ (a &&& c) ^^^ (b &&& c)
def wdN (a b c d : Nat) : Nat := ((a * 2 ^ 24 % 4294967296) ||| (b * 2 ^ 16 % 4294967296) ||| (c * 2 ^ 8 % 4294967296)) ||| d
def nxN (w16 w15 w7 w2 : Nat) : Nat := ad (ad (ad (s1N w2) w7) (s0N w15)) w16
def wNew (B : Nat → Nat) (t : Nat) (l : List Nat) : Nat := bif Nat.blt t 16 then wdN (B (4 * t)) (B (4 * t + 1)) (B (4 * t + 2)) (B (4 * t + 3)) else nxN (l.getD 15 0) (l.getD 14 0) (l.getD 6 0) (l.getD 1 0)
def wL (B : Nat → Nat) : Nat → List Nat
  | 0 => []
  | t + 1 => wNew B t (wL B t) :: wL B t
def wT (B : Nat → Nat) (t : Nat) : Nat := wNew B t (wL B t)
structure S8 where
  a : Nat
  b : Nat
  c : Nat
  d : Nat
  e : Nat
  f : Nat
  g : Nat
  h : Nat
def S8.ok (s : S8) : Prop := s.a < 4294967296 ∧ s.b < 4294967296 ∧ s.c < 4294967296 ∧ s.d < 4294967296 ∧ s.e < 4294967296 ∧ s.f < 4294967296 ∧ s.g < 4294967296 ∧ s.h < 4294967296
def t1N (s : S8) (k w : Nat) : Nat := ad (ad (ad (ad s.h (S1N s.e)) (chN s.e s.f s.g)) k) w
def t2N (s : S8) : Nat := ad (S0N s.a) (maN s.a s.b s.c)
def rnd (k w : Nat) (s : S8) : S8 := ⟨ad (t1N s k w) (t2N s), s.a, s.b, s.c, ad s.d (t1N s k w), s.e, s.f, s.g⟩
def rnds (W : Nat → Nat) (s : S8) : Nat → S8
  | 0 => s
  | t + 1 => rnd (kN t) (W t) (rnds W s t)
def adS (s v : S8) : S8 := ⟨ad s.a v.a, ad s.b v.b, ad s.c v.c, ad s.d v.d, ad s.e v.e, ad s.f v.f, ad s.g v.g, ad s.h v.h⟩
theorem mix_ex (s : S8) (B : Nat → Nat) : ∃ x, x = adS s (rnds (wT B) s 64) := ⟨_, rfl⟩
noncomputable def mixN (s : S8) (B : Nat → Nat) : S8 := Classical.choose (mix_ex s B)
noncomputable def hs (s : S8) (B : Nat → Nat) : Nat → S8
  | 0 => s
  | k + 1 => mixN (hs s B k) (fun j => B (64 * k + j))
def S8.at (s : S8) : Nat → Nat
  | 0 => s.a
  | 1 => s.b
  | 2 => s.c
  | 3 => s.d
  | 4 => s.e
  | 5 => s.f
  | 6 => s.g
  | _ => s.h
def h0 : S8 := ⟨1779033703, 3144134277, 1013904242, 2773480762, 1359893119, 2600822924, 528734635, 1541459225⟩
end Go.W

namespace Go.W
def z8 : Value := .int .u8 0
end Go.W

namespace Go.W
def S8.beq (s t : S8) : Bool := Nat.beq s.a t.a && Nat.beq s.b t.b && Nat.beq s.c t.c && Nat.beq s.d t.d && Nat.beq s.e t.e && Nat.beq s.f t.f && Nat.beq s.g t.g && Nat.beq s.h t.h
def sgF (n : Nat) (f : Nat → List Value) : Nat → List Value := segF ⟨0, 0, n, kB, n, f, 0, false, []⟩
theorem bI_sg (n : Nat) (f : Nat → List Value) (j : Nat) : bI (sgF n f) j = bI f j := by show bI f (0 + j) = bI f j; rw [Nat.zero_add]
end Go.W

namespace Go.W
open Go.RowKit (Below)
section
variable {P : Program} [Laid P]
end
def RowW (w : World) (e : TypeId) (ks : List CK) (m : Nat) (f : Nat → List Value) (v : Value) : Prop :=
  (m = 0 ∧ Emp v) ∨ ∃ b d c cs fz, v = .slice (some ⟨b, d, none⟩) m c ∧ m ≤ c ∧ w.heap[b]? = some (.cells cs e fz) ∧ (cs.toList.drop d).take (m * ks.length) = rowL ks f 0 m
section
variable {GL : Glob} {w0 : Wb GL} {R : Nat → Pl → Prop} {fm : Nat → Option Blk} {w : World}
end
inductive ArgF where
  | pl (v : Value)
  | sl (ks : List CK) (n : Nat) (g : Nat → List Value)
  | fm (ks : List CK) (n : Nat) (g : Nat → Nat × (Nat → List Value))
def RcF (w : World) (pl : Nat → Option Pl) (N : Nat) (i : Nat) (p : Pl) : Prop :=
  (∃ j, j < N ∧ i = argId j ∧ pl j = some p) ∨ (∃ b, (∃ cs e fz, w.heap[b]? = some (.cells cs e fz)) ∧ i = 1000000000 + b ∧ p = ⟨some b, 0, 0⟩)
theorem RowW.at {w : World} {e : TypeId} {ks : List CK} {m : Nat} {f : Nat → List Value} {v : Value} (h : RowW w e ks m f v) (pl : Nat → Option Pl) (N : Nat) : RowAt (RcF w pl N) w e ks m f v := by
  rcases h with h | ⟨b, d, c, cs, fz, h1, h2, h3, h4⟩
  · exact .inl h
  · exact .inr ⟨b, d, c, cs, fz, h1, h2, .inr ⟨b, ⟨cs, e, fz, h3⟩, rfl, rfl⟩, h3, h4⟩
section
variable {GL : Glob} {w0 : Wb GL} {R : Nat → Pl → Prop} {fm : Nat → Option Blk} {w : World}
end
section
variable {P : Program} [Laid P]
end
end Go.W

namespace Go.W
theorem bE {a b : Nat} (h : a ≤ b) : Nat.ble a b = true := by rw [Nat.ble_eq]; exact h
end Go.W

namespace Go.W
def pkOk (n s : Int) : Prop := 1 ≤ s ∧ s ≤ 7 ∧ 0 ≤ n ∧ n < 2 ^ (8 * s.toNat)
instance (n s : Int) : Decidable (pkOk n s) := by unfold pkOk; infer_instance
end Go.W

namespace Go.W
def kb3 (k : Nat) : Bool := true && Nat.ble k k && true
theorem kb3_true (k : Nat) : kb3 k = true := by unfold kb3; rw [bE (Nat.le_refl _)]; rfl
end Go.W

namespace Go.W
open Go
instance (r : Int) : Decidable (vld r) := by unfold vld; infer_instance
end Go.W

namespace Go.W
section
variable {P : Program} [Laid P]
theorem sum_per {g : FuncId} {fn : Func} {c : Code} (hf : P.funcs[g]? = some fn) (hname : (fn.name == "runtime.NumGoroutine") = false) (hb : fn.body = some c) {fuel : Nat} {F : List Value → Option (Bool × Value)}
    (h : ∀ args v, F args = some (true, v) → args.all pl2 = true → ∃ C, CfgOk P C c ∧ C.n = fn.ntmps ∧ args.length ≤ fn.ntmps ∧ fnS C fuel fn c args = some v ∧ pl2 v = true) : Sum P g F := by
  intro args v hF hpl w hg
  obtain ⟨C, hC, hn, hl, hev, hv⟩ := h args v hF hpl
  exact sum_at hC hf hname hb hn hl hev hv hpl w hg
end
end Go.W

namespace Go.W
open Go
noncomputable def lRnF : List Value → Option (Bool × Value)
  | [.string s] => some (Nat.ble s.size 1000000, i64 ((rN s : Nat) : Int))
  | _ => none
noncomputable def lFoF : List Value → Option (Bool × Value)
  | [.string s] => some (Nat.ble s.size 1000000, .string (foT s))
  | _ => none
noncomputable def lCyF : List Value → Option (Bool × Value)
  | [.string s, .int .i64 n] => some (Nat.ble s.size 1000000 && decide (n < 9223372036854775808), .string (cutT s n))
  | _ => none
noncomputable def lSaF : List Value → Option (Bool × Value)
  | [.string a, .string b] => some (Nat.ble a.size 1000000 && Nat.ble b.size 1000000, .bool (foT a == foT b))
  | _ => none
noncomputable def lbE (s : ByteArray) : Int := hide (if lblB s then 0 else 8)
noncomputable def lChF : List Value → Option (Bool × Value)
  | [.string s] => some (Nat.ble s.size 1000000, i64 (lbE s))
  | _ => none
theorem lbE_yes {s : ByteArray} (h : lbl s) : lbE s = 0 := by unfold lbE; rw [hide_eq, lblB_iff.2 h]; rfl
theorem lbE_no {s : ByteArray} (h : ¬ lbl s) : lbE s = 8 := by
  unfold lbE; rw [hide_eq, show lblB s = false from by rw [Bool.eq_false_iff, ne_eq, lblB_iff]; exact h]; rfl
instance (r : Nat) : Decidable (okC r) := by unfold okC; infer_instance
def goodTo (s : ByteArray) (k : Nat) : Prop := okC (rc s k) ∧ k < 24
instance (s : ByteArray) (k : Nat) : Decidable (goodTo s k) := by unfold goodTo; infer_instance
theorem first_or (p : Nat → Prop) : ∀ n, (∀ k, k < n → p k) ∨ ∃ k, k < n ∧ ¬ p k ∧ ∀ j, j < k → p j
  | 0 => .inl fun k h => absurd h (Nat.not_lt_zero _)
  | n + 1 => by
    rcases first_or p n with h | ⟨k, h1, h2⟩
    · by_cases e : p n
      · left
        intro k hk
        by_cases e2 : k = n
        · rw [e2]; exact e
        · exact h k (by omega)
      · exact .inr ⟨n, by omega, e, h⟩
    · exact .inr ⟨k, by omega, h2⟩
def goodL (s : ByteArray) (k : Nat) : Prop := goodTo s k ∧ (k = 0 → rc s k ≠ 32)
instance (s : ByteArray) (k : Nat) : Decidable (goodL s k) := by unfold goodL; infer_instance
theorem lbl_end {s : ByteArray} (h : ∀ k, k < rN s → goodL s k) : lbl s ↔ 1 ≤ rN s ∧ rc s (rN s - 1) ≠ 32 := by
  constructor
  · exact fun hl => ⟨hl.1, hl.2.2.2.2⟩
  · rintro ⟨h1, h2⟩
    have := (h (rN s - 1) (by omega)).1.2
    exact ⟨h1, by omega, fun k hk => (h k hk).1.1, (h 0 (by omega)).2 rfl, h2⟩
theorem not_lblL {s : ByteArray} {k : Nat} (hk : k < rN s) (h : ¬ goodL s k) : ¬ lbl s := fun hl => h ⟨⟨hl.2.2.1 k hk, by have := hl.2.1; omega⟩, fun e => by rw [e]; exact hl.2.2.2.1⟩
noncomputable def msB (r : Int) : Bool := hide (decide (32 ≤ r ∧ (r < 127 ∨ 159 < r) ∧ r ≠ 65533))
noncomputable def lMsF : List Value → Option (Bool × Value)
  | [.int .i32 r] => some (true, .bool (msB r))
  | _ => none
noncomputable def msT (r : Int) : Option Value :=
  bif decide (r ≥ 32) then (bif decide (r < 127) then some (.bool (r != 65533)) else (bif decide (r > 159) then some (.bool (r != 65533)) else some (.bool false))) else some (.bool false)
theorem msT_eq (r : Int) : msT r = some (.bool (msB r)) := by
  unfold msT msB
  rw [hide_eq]
  have e : ∀ b : Bool, (b = decide (32 ≤ r ∧ (r < 127 ∨ 159 < r) ∧ r ≠ 65533)) → some (Value.bool b) = some (.bool (decide (32 ≤ r ∧ (r < 127 ∨ 159 < r) ∧ r ≠ 65533))) := fun b h => by rw [h]
  by_cases h1 : r ≥ 32
  · rw [decide_eq_true h1, cond_true]
    by_cases h2 : r < 127
    · rw [decide_eq_true h2, cond_true]
      apply e
      rw [Bool.eq_iff_iff, bne_iff_ne, decide_eq_true_iff]; omega
    · rw [decide_eq_false h2, cond_false]
      by_cases h3 : r > 159
      · rw [decide_eq_true h3, cond_true]
        apply e
        rw [Bool.eq_iff_iff, bne_iff_ne, decide_eq_true_iff]; omega
      · rw [decide_eq_false h3, cond_false]
        apply e
        rw [eq_comm, decide_eq_false_iff_not]; omega
  · rw [decide_eq_false h1, cond_false]
    apply e
    rw [eq_comm, decide_eq_false_iff_not]; omega
theorem msB_ok (r : Nat) : msB (r : Int) = decide (okC r) := by
  unfold msB; rw [hide_eq]
  apply decide_eq_decide.2
  unfold okC; omega
theorem rwS_list (n : Nat) (g : Nat → List Value) : (rowS n g).data.toList = (nsL g 0 n).map (fun n => UInt8.ofNat n.toNat) := by
  have key : ∀ (l : List Int) (r : ByteArray), (l.foldl (fun r n => r.push (UInt8.ofNat n.toNat)) r).data.toList = r.data.toList ++ l.map (fun n => UInt8.ofNat n.toNat) := by
    intro l
    induction l with
    | nil => intro r; simp
    | cons x l ih =>
      intro r
      rw [List.foldl_cons, ih]
      show (r.data.push _).toList ++ _ = _
      rw [Array.toList_push, List.map_cons, List.append_assoc]; rfl
  unfold rowS
  rw [key]; rfl
theorem rwS_size (n : Nat) (g : Nat → List Value) : (rowS n g).size = n := by
  show (rowS n g).data.size = n
  rw [← Array.length_toList, rwS_list, List.length_map, nsL_len]
theorem nsL_at (g : Nat → List Value) : ∀ (n lo j : Nat), j < n → (nsL g lo n)[j]? = some (bI g (lo + j))
  | 0, _, _, h => absurd h (Nat.not_lt_zero _)
  | n + 1, lo, 0, _ => rfl
  | n + 1, lo, j + 1, h => by
    have := nsL_at g n (lo + 1) j (by omega)
    rw [show lo + (j + 1) = lo + 1 + j from by omega, ← this]; rfl
theorem rwS_byt {n : Nat} {g : Nat → List Value} {j : Nat} (h : j < n) : byt (rowS n g) j = (bI g j).toNat % 256 := by
  unfold byt
  rw [rwS_list, List.getD_eq_getElem?_getD, List.getElem?_map, nsL_at g n 0 j h, Nat.zero_add]
  show (UInt8.ofNat _).toNat = _
  exact UInt8.toNat_ofNat'
noncomputable def loK (s : ByteArray) (k : Nat) : Nat → List Value := fun j => [.int .u8 (hide (if j < k then ((fdN (byt s j) : Nat) : Int) else ((byt s j : Nat) : Int)))]
theorem bI_loK (s : ByteArray) (k j : Nat) : bI (loK s k) j = if j < k then ((fdN (byt s j) : Nat) : Int) else ((byt s j : Nat) : Int) := by show hide _ = _; rw [hide_eq]
theorem bI_strF (s : ByteArray) (j : Nat) : bI (strF s) j = ((byt s j : Nat) : Int) := rfl
theorem loK_zero (s : ByteArray) (j : Nat) : nrmK kB (strF s j) = nrmK kB (loK s 0 j) := by rw [nrm_kB, nrm_kB, bI_strF, bI_loK, if_neg (Nat.not_lt_zero _)]
theorem bI_up1 (f : Nat → List Value) (k : Nat) (x : Int) (j : Nat) : bI (updR f k [.int .u8 x]) j = if j = k then x else bI f j := by
  unfold bI updR
  by_cases h : j = k
  · subst h; rw [Nat.beq_refl, cond_true, if_pos rfl]; rfl
  · rw [nbeq_ne h, cond_false, if_neg h]
theorem loK_up (s : ByteArray) {k : Nat} (h : 65 ≤ byt s k ∧ byt s k ≤ 90) (j : Nat) : nrmK kB (updR (loK s k) (0 + k) [.int .u8 (IntKind.u8.wrap (IntKind.u8.wrap (bI (loK s k) (0 + k) - 65) + 97))] j) = nrmK kB (loK s (k + 1) j) := by
  rw [nrm_kB, nrm_kB, Nat.zero_add, bI_loK s k k, if_neg (Nat.lt_irrefl _), wrap_u8, wrap_u8, bI_loK, bI_up1, bI_loK]
  by_cases e : j = k
  · subst e
    rw [if_pos (Nat.lt_succ_self _), if_pos rfl]; unfold fdN; rw [if_pos h, show (((byt s j : Nat) : Int) - 65) % 256 + 97 = ((byt s j + 32 : Nat) : Int) from by omega, show ((byt s j + 32 : Nat) : Int) % 256 = ((byt s j + 32 : Nat) : Int) from by omega]
  · rw [if_neg e]
    by_cases h1 : j < k
    · rw [if_pos h1, if_pos (by omega)]
    · rw [if_neg h1, if_neg (by omega)]
theorem loK_no (s : ByteArray) {k : Nat} (h : ¬ (65 ≤ byt s k ∧ byt s k ≤ 90)) (j : Nat) : nrmK kB (loK s k j) = nrmK kB (loK s (k + 1) j) := by
  rw [nrm_kB, nrm_kB, bI_loK, bI_loK]
  by_cases e : j = k
  · subst e
    rw [if_neg (Nat.lt_irrefl _), if_pos (Nat.lt_succ_self _)]; unfold fdN; rw [if_neg h]
  · by_cases h1 : j < k
    · rw [if_pos h1, if_pos (by omega)]
    · rw [if_neg h1, if_neg (by omega)]
theorem foR_text {s : ByteArray} {g : Nat → List Value} (hg : ∀ j, j < s.size → bI g j = ((fdN (byt s j) : Nat) : Int)) : rowS s.size g = foT s :=
  txt_ext (by rw [rwS_size, foT_size]) fun j hj => by
    rw [rwS_size] at hj
    rw [rwS_byt hj, byt_fo, hg j hj, Int.toNat_natCast, Nat.mod_eq_of_lt (fdN_lt (byt_lt s j))]
end Go.W

namespace Go.Proofs.Ytheldjiikjaimaa
set_option maxRecDepth 100000
open Go.W
def clnR : Go.Shelf.Ren := ⟨fun | 25 => 22 | n => n, fun | 0 => 0 | 3 => 3 | 4 => 4 | 5 => 5 | 9 => 9 | 37 => 39 | 47 => 40 | n => n, fun n => n⟩
theorem clnL : LaysPu.n25 Try.prog clnR where
  mixed := mixed
  f25 := Try.func22.trans (congrArg some (by kernel_rfl))
  t0 := Try.underlying0
  a0 := Try.isAgg0
  z0 := Try.sizeOf0
  v0 := Try.zeroValue0
  i0 := by kernel_rfl
  t3 := Try.underlying3
  a3 := Try.isAgg3
  z3 := Try.sizeOf3
  v3 := Try.zeroValue3
  i3 := by kernel_rfl
  t4 := Try.underlying4
  a4 := Try.isAgg4
  z4 := Try.sizeOf4
  v4 := Try.zeroValue4
  i4 := by kernel_rfl
  t5 := Try.underlying5
  a5 := Try.isAgg5
  z5 := Try.sizeOf5
  v5 := Try.zeroValue5
  i5 := by kernel_rfl
  t9 := Try.underlying9
  a9 := Try.isAgg9
  z9 := Try.sizeOf9
  v9 := Try.zeroValue9
  i9 := by kernel_rfl
  t37 := Try.underlying39
  a37 := Try.isAgg39
  z37 := Try.sizeOf39
  v37 := Try.zeroValue39
  i37 := by kernel_rfl
  t47 := Try.underlying40
  a47 := Try.isAgg40
  z47 := Try.sizeOf40
  v47 := Try.zeroValue40
  i47 := by kernel_rfl
noncomputable def sClF : List Value → Option (Bool × Value)
  | [.string s] => some (Nat.ble s.size 1000000, .string s)
  | _ => none
theorem lcl_sum : Sum Try.prog 22 sClF := by
  intro args v h hpl w hgk
  unfold sClF at h
  split at h
  · rename_i s
    simp only [Option.some.injEq, Prod.mk.injEq] at h
    obtain ⟨h1, rfl⟩ := h
    have h1 := Nat.le_of_ble_eq_true h1
    have hf := Try.func22
    have hne : Try.f22.name ≠ "runtime.NumGoroutine" := by
      have : (Try.f22.name == "runtime.NumGoroutine") = false := by kernel_rfl
      simpa using this
    have hb : Try.f22.body = some (bodyOf Try.f22) := by kernel_rfl
    have hrun : (callFunc 22 [Value.string s].toArray).run Try.prog w = .ok (.enter 22 [Value.string s].toArray) w := by simp [callFunc, hf, hne, hb]
    unfold Invokes
    rw [hrun]
    refine Calls.mono (AnyPu.stringslite_Clone clnL s w (by omega)) ?_
    rintro e w' ⟨rfl, h2⟩
    exact ⟨rfl, h2⟩
  · simp at h
noncomputable def lcgS : Sums := [(22, sClF)]
noncomputable def lcgC : Cfg := ⟨tab, lcgS, 5, []⟩
theorem lcgOk : CfgOk Try.prog lcgC (bodyOf Try.f21) := ⟨mixed, tabOk, sums_cons lcl_sum sums_nil, noL⟩
theorem lcg_ev (s : ByteArray) : fnS lcgC 60 Try.f21 (bodyOf Try.f21) [.string s] = req (Nat.ble s.size 1000000) (some (.string s)) := by kernel_rfl
theorem lcg_sum : Sum Try.prog 21 sClF := by
  refine sum_of lcgOk Try.func21 (by kernel_rfl) (by kernel_rfl) rfl (fuel := 60) fun args v h hpl => ?_
  unfold sClF at h
  split at h
  · rename_i s
    simp only [Option.some.injEq, Prod.mk.injEq] at h
    obtain ⟨h1, rfl⟩ := h
    exact ⟨by show 1 ≤ Try.f21.ntmps; decide +kernel, (lcg_ev s).trans (req_true h1), rfl⟩
  · simp at h
end Go.Proofs.Ytheldjiikjaimaa

namespace Go.Proofs.Ytheldjiikjaimaa
set_option maxRecDepth 100000
open Go.W
def lmsC : Cfg := ⟨tab, [], 17, []⟩
theorem lmsOk : CfgOk Try.prog lmsC (bodyOf Try.f19) := ⟨mixed, tabOk, sums_nil, noL⟩
theorem lms_ev (n : Int) : fnS lmsC 60 Try.f19 (bodyOf Try.f19) [.int .i32 n] = msT n := by kernel_rfl
theorem lms_sum : Sum Try.prog 19 lMsF := by
  refine sum_of lmsOk Try.func19 (by kernel_rfl) (by kernel_rfl) rfl (fuel := 60) fun args v h hpl => ?_
  unfold lMsF at h
  split at h
  · rename_i n
    simp only [Option.some.injEq, Prod.mk.injEq] at h
    obtain ⟨_, rfl⟩ := h
    exact ⟨by show 1 ≤ Try.f19.ntmps; decide +kernel, (lms_ev n).trans (msT_eq n), rfl⟩
  · simp at h
noncomputable def lckS : Sums := [(19, lMsF)]
theorem lckS_ok : SumsOk Try.prog lckS := sums_cons lms_sum sums_nil
noncomputable def lckC0 : Cfg := ⟨tab, lckS, 36, []⟩
theorem lckOk0 : CfgOk Try.prog lckC0 (bodyOf Try.f9) := ⟨mixed, tabOk, lckS_ok, noL⟩
theorem lck_at : codeAt [1, 1, 1, 0, 1, 0] (bodyOf Try.f9) = some (.loop (loopAt [1, 1, 1, 0, 1, 0] (bodyOf Try.f9))) := by kernel_rfl
def lckNt : List Nat := [3, 4, 8]
def lckSt (s : ByteArray) (n l : Int) (p : Nat) : St := ⟨[(3, i64 n), (4, .int .i32 l), (8, .pointer (some ⟨4, 0, none⟩))], [(4, ⟨.itr s p, 0, true⟩)], 5⟩
def lckE (n l : Int) : St := ⟨[(3, i64 n), (4, .int .i32 l)], [], 5⟩
def lckX : St := ⟨[(2, i64 8)], [], 5⟩
noncomputable def lckQ {α : Type} (s : ByteArray) (p : Nat) (n : Int) (no yes : α) : α :=
  bif n == 24 then no else bif !(msB (dcC s p)) then no else bif n == 0 then (bif dcC s p == 32 then no else yes) else yes
theorem lck_rA (s : ByteArray) (n l : Int) (p : Nat) : roundS lckC0 60 [1, 1, 1, 0, 1, 0, 0] (loopAt [1, 1, 1, 0, 1, 0] (bodyOf Try.f9)) lckNt [(4, 4)] 5 [3, 4] [] 5 (lckSt s n l p) =
    bif Nat.blt p s.size then lckQ s p n (some (.ret, lckE n l)) (some (.normal, lckSt s (IntKind.i64.wrap (n + 1)) (dcC s p) (p + dcW s p))) else some (.exit 0, lckE n l) := by kernel_rfl
theorem lck_rB (s : ByteArray) (n l : Int) (p : Nat) : roundS lckC0 60 [1, 1, 1, 0, 1, 0, 0] (loopAt [1, 1, 1, 0, 1, 0] (bodyOf Try.f9)) lckNt [(4, 4)] 5 [2] [] 5 (lckSt s n l p) =
    bif Nat.blt p s.size then lckQ s p n (some (.ret, lckX)) (some (.normal, lckSt s (IntKind.i64.wrap (n + 1)) (dcC s p) (p + dcW s p))) else none := by kernel_rfl
theorem lckQ_eq {α : Type} {s : ByteArray} {k : Nat} (h24 : k ≤ 24) (no yes : α) : lckQ s (ps s k) (k : Int) no yes = if goodL s k then yes else no := by
  unfold lckQ
  rw [dcC_dC, msB_ok, show ((k : Int) == 24) = decide (k = 24) from by rw [Bool.eq_iff_iff, beq_iff_eq, decide_eq_true_iff]; omega, show ((k : Int) == 0) = decide (k = 0) from by rw [Bool.eq_iff_iff, beq_iff_eq, decide_eq_true_iff]; omega,
    show (((dC s (ps s k) : Nat) : Int) == 32) = decide (rc s k = 32) from by rw [Bool.eq_iff_iff, beq_iff_eq, decide_eq_true_iff]; unfold rc; omega]
  by_cases h1 : k = 24
  · rw [decide_eq_true h1, cond_true, if_neg fun h => by have := h.1.2; omega]
  rw [decide_eq_false h1, cond_false]
  by_cases h2 : okC (rc s k)
  · rw [show decide (okC (dC s (ps s k))) = true from decide_eq_true h2, Bool.not_true, cond_false]
    by_cases h3 : k = 0
    · rw [decide_eq_true h3, cond_true]
      by_cases h4 : rc s k = 32
      · rw [decide_eq_true h4, cond_true, if_neg fun h => h.2 h3 h4]
      · rw [decide_eq_false h4, cond_false, if_pos ⟨⟨h2, by omega⟩, fun _ => h4⟩]
    · rw [decide_eq_false h3, cond_false, if_pos ⟨⟨h2, by omega⟩, fun h => absurd h h3⟩]
  · rw [show decide (okC (dC s (ps s k))) = false from decide_eq_false h2, Bool.not_false, cond_true, if_neg fun h => h2 h.1.1]
def lckL (s : ByteArray) : Nat → Int
  | 0 => 0
  | k + 1 => dcC s (ps s k)
theorem lck_next {s : ByteArray} {k : Nat} (hk : k < rN s) (hs : s.size ≤ 1000000) : lckSt s (IntKind.i64.wrap ((k : Int) + 1)) (dcC s (ps s k)) (ps s k + dcW s (ps s k)) = lckSt s ((k + 1 : Nat) : Int) (lckL s (k + 1)) (ps s (k + 1)) := by
  have hN := rN_le s
  have h1 := (rN_is s).1 k hk
  have h2 := ps_lt h1
  rw [wrap_i64 (by omega), dcW_dW, ← h2.2]; rfl
theorem lck_loopA {s : ByteArray} (hs : s.size ≤ 1000000) (hg : ∀ k, k < rN s → goodL s k) : LoopOk Try.prog 36 (loopAt [1, 1, 1, 0, 1, 0] (bodyOf Try.f9)) (atSt lckNt [(4, 4)] 5 (lckSt s 0 0 0) (.exit 0) (lckE ((rN s : Nat) : Int) (lckL s (rN s)))) := by
  have hN := rN_le s
  refine loopE (fun _ => lckC0) (rN s) (fun _ _ => lckOk0) (fun _ => rfl) lck_at (m := 60) (nt := lckNt) (ni := [(4, 4)]) (et := [3, 4]) (ei := []) (nx := 5) (ex := 5) (fun k => lckSt s (k : Int) (lckL s k) (ps s k)) rfl (by intro h; cases h) ?_ ?_
  · intro k hk
    have h1 := (rN_is s).1 k hk
    refine ⟨_, ?_, stEq_refl rfl⟩
    refine (lck_rA s _ _ _).trans ?_
    rw [show Nat.blt (ps s k) s.size = true from by rw [Nat.blt_eq]; exact h1, cond_true, lckQ_eq (by have := (hg k hk).1.2; omega), if_pos (hg k hk), lck_next hk hs]
  · refine ⟨_, ?_, stEq_refl rfl⟩
    refine (lck_rA s _ _ _).trans ?_
    rw [(rN_is s).2, show Nat.blt s.size s.size = false from by rw [Bool.eq_false_iff, ne_eq, Nat.blt_eq]; omega, cond_false]
theorem lck_loopB {s : ByteArray} (hs : s.size ≤ 1000000) {m : Nat} (hm : m < rN s) (hb : ¬ goodL s m) (hg : ∀ k, k < m → goodL s k) : LoopOk Try.prog 36 (loopAt [1, 1, 1, 0, 1, 0] (bodyOf Try.f9)) (atSt lckNt [(4, 4)] 5 (lckSt s 0 0 0) .ret lckX) := by
  have hN := rN_le s
  have hm24 : m ≤ 24 := by
    rcases Nat.lt_or_ge 24 m with h | h
    · have := (hg 24 h).1.2; omega
    · exact h
  refine loopE (fun _ => lckC0) m (fun _ _ => lckOk0) (fun _ => rfl) lck_at (m := 60) (nt := lckNt) (ni := [(4, 4)]) (et := [2]) (ei := []) (nx := 5) (ex := 5) (fun k => lckSt s (k : Int) (lckL s k) (ps s k)) rfl (by intro h; cases h) ?_ ?_
  · intro k hk
    have h1 := (rN_is s).1 k (by omega)
    refine ⟨_, ?_, stEq_refl rfl⟩
    refine (lck_rB s _ _ _).trans ?_
    rw [show Nat.blt (ps s k) s.size = true from by rw [Nat.blt_eq]; exact h1, cond_true, lckQ_eq (by have := (hg k hk).1.2; omega), if_pos (hg k hk), lck_next (by omega) hs]
  · have h1 := (rN_is s).1 m hm
    refine ⟨lckX, ?_, stEq_refl rfl⟩
    refine (lck_rB s _ _ _).trans ?_
    rw [show Nat.blt (ps s m) s.size = true from by rw [Nat.blt_eq]; exact h1, cond_true, lckQ_eq hm24, if_neg hb]
noncomputable def lckCA (s : ByteArray) (n l : Int) : Cfg := ⟨tab, lckS, 36, [([1, 1, 1, 0, 1, 0], atSt lckNt [(4, 4)] 5 (lckSt s 0 0 0) (.exit 0) (lckE n l))]⟩
noncomputable def lckCB (s : ByteArray) : Cfg := ⟨tab, lckS, 36, [([1, 1, 1, 0, 1, 0], atSt lckNt [(4, 4)] 5 (lckSt s 0 0 0) .ret lckX)]⟩
theorem lck_evA (s : ByteArray) (n l : Int) : fnS (lckCA s n l) 60 Try.f9 (bodyOf Try.f9) [.string s] = req (stEq (lckSt s 0 0 0) (lckSt s 0 0 0)) (bif n == 0 then some (i64 8) else bif l == 32 then some (i64 8) else some (i64 0)) := by kernel_rfl
theorem lck_evB (s : ByteArray) : fnS (lckCB s) 60 Try.f9 (bodyOf Try.f9) [.string s] = req (stEq (lckSt s 0 0 0) (lckSt s 0 0 0)) (some (i64 8)) := by kernel_rfl
theorem lck_sum : Sum Try.prog 9 lChF := by
  refine sum_per (c := bodyOf Try.f9) Try.func9 (by kernel_rfl) (by kernel_rfl) (fuel := 60) fun args v h hpl => ?_
  unfold lChF at h
  split at h
  · rename_i s
    simp only [Option.some.injEq, Prod.mk.injEq] at h
    obtain ⟨h1, rfl⟩ := h
    have h1 := Nat.le_of_ble_eq_true h1
    rcases first_or (goodL s) (rN s) with hg | ⟨m, hm, hb, hg⟩
    · refine ⟨lckCA s _ _, ⟨mixed, tabOk, lckS_ok, oneL (lck_loopA h1 hg)⟩, rfl, by show 1 ≤ Try.f9.ntmps; decide +kernel, (lck_evA s _ _).trans ?_, rfl⟩
      rw [req_true (stEq_refl rfl)]
      cases e : rN s with
      | zero => rw [lbE_no fun hl => by have := hl.1; omega]; rfl
      | succ k =>
        rw [show (((k + 1 : Nat) : Int) == 0) = false from beq_eq_false_iff_ne.2 (by omega), cond_false]
        show (bif dcC s (ps s k) == 32 then _ else _) = _
        rw [dcC_dC]
        have he := lbl_end hg
        rw [e] at he
        by_cases h3 : rc s k = 32
        · rw [lbE_no fun hl => (he.1 hl).2 h3, show (((dC s (ps s k) : Nat) : Int) == 32) = true from beq_iff_eq.2 (by unfold rc at h3; omega)]; rfl
        · rw [lbE_yes (he.2 ⟨by omega, h3⟩), show (((dC s (ps s k) : Nat) : Int) == 32) = false from beq_eq_false_iff_ne.2 (by unfold rc at h3; omega)]; rfl
    · refine ⟨lckCB s, ⟨mixed, tabOk, lckS_ok, oneL (lck_loopB h1 hm hb hg)⟩, rfl, by show 1 ≤ Try.f9.ntmps; decide +kernel, (lck_evB s).trans ?_, rfl⟩
      rw [req_true (stEq_refl rfl), lbE_no (not_lblL hm hb)]
  · simp at h
def lruC0 : Cfg := ⟨tab, [], 11, []⟩
theorem lruOk0 : CfgOk Try.prog lruC0 (bodyOf Try.f11) := ⟨mixed, tabOk, sums_nil, noL⟩
theorem lru_at : codeAt [1, 1, 0, 1, 0] (bodyOf Try.f11) = some (.loop (loopAt [1, 1, 0, 1, 0] (bodyOf Try.f11))) := by kernel_rfl
def lruNt : List Nat := [3, 5]
def lruSt (s : ByteArray) (n : Int) (p : Nat) : St := ⟨[(3, i64 n), (5, .pointer (some ⟨3, 0, none⟩))], [(3, ⟨.itr s p, 0, true⟩)], 4⟩
def lruE (n : Int) : St := ⟨[(3, i64 n)], [], 4⟩
theorem lru_r (s : ByteArray) (n : Int) (p : Nat) : roundS lruC0 60 [1, 1, 0, 1, 0, 0] (loopAt [1, 1, 0, 1, 0] (bodyOf Try.f11)) lruNt [(3, 3)] 4 [3] [] 4 (lruSt s n p) =
    bif Nat.blt p s.size then some (.normal, lruSt s (IntKind.i64.wrap (n + 1)) (p + dcW s p)) else some (.exit 0, lruE n) := by kernel_rfl
theorem lru_loop {s : ByteArray} (hs : s.size ≤ 1000000) : LoopOk Try.prog 11 (loopAt [1, 1, 0, 1, 0] (bodyOf Try.f11)) (atSt lruNt [(3, 3)] 4 (lruSt s 0 0) (.exit 0) (lruE ((rN s : Nat) : Int))) := by
  have hN := rN_le s
  refine loopE (fun _ => lruC0) (rN s) (fun _ _ => lruOk0) (fun _ => rfl) lru_at (m := 60) (nt := lruNt) (ni := [(3, 3)]) (et := [3]) (ei := []) (nx := 4) (ex := 4) (fun k => lruSt s (k : Int) (ps s k)) rfl (by intro h; cases h) ?_ ?_
  · intro k hk
    have h1 := (rN_is s).1 k hk
    have h2 := ps_lt h1
    refine ⟨_, ?_, stEq_refl rfl⟩
    refine (lru_r s _ _).trans ?_
    rw [show Nat.blt (ps s k) s.size = true from by rw [Nat.blt_eq]; exact h1, cond_true, dcW_dW, wrap_i64 (by omega), h2.2]; rfl
  · refine ⟨_, ?_, stEq_refl rfl⟩
    refine (lru_r s _ _).trans ?_
    rw [(rN_is s).2, show Nat.blt s.size s.size = false from by rw [Bool.eq_false_iff, ne_eq, Nat.blt_eq]; omega, cond_false]
noncomputable def lruC (s : ByteArray) (n : Int) : Cfg := ⟨tab, [], 11, [([1, 1, 0, 1, 0], atSt lruNt [(3, 3)] 4 (lruSt s 0 0) (.exit 0) (lruE n))]⟩
theorem lru_ev (s : ByteArray) (n : Int) : fnS (lruC s n) 60 Try.f11 (bodyOf Try.f11) [.string s] = req (stEq (lruSt s 0 0) (lruSt s 0 0)) (some (i64 n)) := by kernel_rfl
theorem lru_sum : Sum Try.prog 11 lRnF := by
  refine sum_per (c := bodyOf Try.f11) Try.func11 (by kernel_rfl) (by kernel_rfl) (fuel := 60) fun args v h hpl => ?_
  unfold lRnF at h
  split at h
  · rename_i s
    simp only [Option.some.injEq, Prod.mk.injEq] at h
    obtain ⟨h1, rfl⟩ := h
    have h1 := Nat.le_of_ble_eq_true h1
    refine ⟨lruC s _, ⟨mixed, tabOk, sums_nil, oneL (lru_loop h1)⟩, rfl, by show 1 ≤ Try.f11.ntmps; decide +kernel, (lru_ev s _).trans ?_, rfl⟩
    rw [req_true (stEq_refl rfl)]
  · simp at h
noncomputable def lctS : Sums := [(21, sClF)]
theorem lctS_ok : SumsOk Try.prog lctS := sums_cons lcg_sum sums_nil
noncomputable def lctC0 : Cfg := ⟨tab, lctS, 21, []⟩
theorem lctOk0 : CfgOk Try.prog lctC0 (bodyOf Try.f16) := ⟨mixed, tabOk, lctS_ok, noL⟩
theorem lct_at : codeAt [1, 0, 1, 0] (bodyOf Try.f16) = some (.loop (loopAt [1, 0, 1, 0] (bodyOf Try.f16))) := by kernel_rfl
def lctNt : List Nat := [0, 1, 7]
def lctSt (s : ByteArray) (n : Int) (p : Nat) : St := ⟨[(0, .string s), (1, i64 n), (7, .pointer (some ⟨2, 0, none⟩))], [(2, ⟨.itr s p, 0, true⟩)], 3⟩
def lctE (s : ByteArray) : St := ⟨[(0, .string s)], [], 3⟩
def lctX (t : ByteArray) : St := ⟨[(4, .string t)], [], 3⟩
noncomputable def lctQ {α : Type} (s : ByteArray) (p : Nat) (x : Option α) : Option α :=
  req (decide ((0 : Int) ≤ ((p : Nat) : Int)) && decide (((p : Nat) : Int) ≤ (s.size : Int))) (req (Nat.ble 0 ((p : Nat) : Int).toNat) (req (Nat.ble (s.extract 0 ((p : Nat) : Int).toNat).size 1000000) x))
theorem lct_rA (s : ByteArray) (n : Int) (p : Nat) : roundS lctC0 60 [1, 0, 1, 0, 0] (loopAt [1, 0, 1, 0] (bodyOf Try.f16)) lctNt [(2, 2)] 3 [0] [] 3 (lctSt s n p) =
    bif Nat.blt p s.size then (bif decide (n < 1) then lctQ s p (some (.ret, lctE s)) else some (.normal, lctSt s (IntKind.i64.wrap (n - 1)) (p + dcW s p))) else some (.exit 0, lctE s) := by kernel_rfl
theorem lct_rB (s : ByteArray) (n : Int) (p : Nat) : roundS lctC0 60 [1, 0, 1, 0, 0] (loopAt [1, 0, 1, 0] (bodyOf Try.f16)) lctNt [(2, 2)] 3 [4] [] 3 (lctSt s n p) =
    bif Nat.blt p s.size then (bif decide (n < 1) then lctQ s p (some (.ret, lctX (s.extract 0 ((p : Nat) : Int).toNat))) else some (.normal, lctSt s (IntKind.i64.wrap (n - 1)) (p + dcW s p))) else none := by kernel_rfl
theorem lct_next {s : ByteArray} {n : Int} {k : Nat} (hk : k < rN s) (hn : n < 9223372036854775808) (h1 : 1 ≤ n - (k : Int)) : lctSt s (IntKind.i64.wrap (n - (k : Int) - 1)) (ps s k + dcW s (ps s k)) = lctSt s (n - ((k + 1 : Nat) : Int)) (ps s (k + 1)) := by
  have h2 := ps_lt ((rN_is s).1 k hk)
  rw [wrap_i64 (by omega), dcW_dW, ← h2.2, show n - (k : Int) - 1 = n - ((k + 1 : Nat) : Int) from by omega]
theorem lct_loopA {s : ByteArray} {n : Int} (hn : n < 9223372036854775808) (hg : (rN s : Int) ≤ n) : LoopOk Try.prog 21 (loopAt [1, 0, 1, 0] (bodyOf Try.f16)) (atSt lctNt [(2, 2)] 3 (lctSt s n 0) (.exit 0) (lctE s)) := by
  refine loopE (fun _ => lctC0) (rN s) (fun _ _ => lctOk0) (fun _ => rfl) lct_at (m := 60) (nt := lctNt) (ni := [(2, 2)]) (et := [0]) (ei := []) (nx := 3) (ex := 3) (fun k => lctSt s (n - (k : Int)) (ps s k)) (by show lctSt s n 0 = lctSt s (n - ((0 : Nat) : Int)) 0; rw [show n - ((0 : Nat) : Int) = n from by omega]) (by intro h; cases h) ?_ ?_
  · intro k hk
    have h1 := (rN_is s).1 k hk
    refine ⟨_, ?_, stEq_refl rfl⟩
    refine (lct_rA s _ _).trans ?_
    rw [show Nat.blt (ps s k) s.size = true from by rw [Nat.blt_eq]; exact h1, cond_true, decide_eq_false (by omega), cond_false, lct_next hk hn (by omega)]
  · refine ⟨_, ?_, stEq_refl rfl⟩
    refine (lct_rA s _ _).trans ?_
    rw [(rN_is s).2, show Nat.blt s.size s.size = false from by rw [Bool.eq_false_iff, ne_eq, Nat.blt_eq]; omega, cond_false]
theorem lct_loopZ {s : ByteArray} {n : Int} (h0 : rN s = 0) : LoopOk Try.prog 21 (loopAt [1, 0, 1, 0] (bodyOf Try.f16)) (atSt lctNt [(2, 2)] 3 (lctSt s n 0) (.exit 0) (lctE s)) := by
  refine loopE (fun _ => lctC0) 0 (fun _ _ => lctOk0) (fun _ => rfl) lct_at (m := 60) (nt := lctNt) (ni := [(2, 2)]) (et := [0]) (ei := []) (nx := 3) (ex := 3) (fun _ => lctSt s n 0) rfl (by intro h; cases h) (fun k hk => absurd hk (Nat.not_lt_zero _)) ?_
  refine ⟨_, ?_, stEq_refl rfl⟩
  refine (lct_rA s _ _).trans ?_
  have hz := (rN_is s).2
  rw [h0] at hz
  have hz : (0 : Nat) = s.size := hz
  rw [show Nat.blt 0 s.size = false from by rw [Bool.eq_false_iff, ne_eq, Nat.blt_eq]; omega, cond_false]
theorem lct_loopB {s : ByteArray} {n : Int} (hs : s.size ≤ 1000000) (hn : n < 9223372036854775808) (hg : n.toNat < rN s) : LoopOk Try.prog 21 (loopAt [1, 0, 1, 0] (bodyOf Try.f16)) (atSt lctNt [(2, 2)] 3 (lctSt s n 0) .ret (lctX (cutT s n))) := by
  refine loopE (fun _ => lctC0) n.toNat (fun _ _ => lctOk0) (fun _ => rfl) lct_at (m := 60) (nt := lctNt) (ni := [(2, 2)]) (et := [4]) (ei := []) (nx := 3) (ex := 3) (fun k => lctSt s (n - (k : Int)) (ps s k)) (by show lctSt s n 0 = lctSt s (n - ((0 : Nat) : Int)) 0; rw [show n - ((0 : Nat) : Int) = n from by omega]) (by intro h; cases h) ?_ ?_
  · intro k hk
    have h1 := (rN_is s).1 k (by omega)
    refine ⟨_, ?_, stEq_refl rfl⟩
    refine (lct_rB s _ _).trans ?_
    rw [show Nat.blt (ps s k) s.size = true from by rw [Nat.blt_eq]; exact h1, cond_true, decide_eq_false (by omega), cond_false, lct_next (by omega) hn (by omega)]
  · have h1 := (rN_is s).1 n.toNat hg
    have h2 := ps_le s n.toNat
    refine ⟨lctX (cutT s n), ?_, stEq_refl rfl⟩
    refine (lct_rB s _ _).trans ?_
    unfold lctQ
    rw [show Nat.blt (ps s n.toNat) s.size = true from by rw [Nat.blt_eq]; exact h1, cond_true, decide_eq_true (by omega), cond_true, decide_eq_true (by omega), decide_eq_true (by omega), req_true (b := true && true) rfl, Int.toNat_natCast, Nat.ble_eq_true_of_le (Nat.zero_le _), req_true rfl, Nat.ble_eq_true_of_le (by rw [size_cut h2]; omega), req_true rfl, cutT_eq]
noncomputable def lctCA (s : ByteArray) (n : Int) : Cfg := ⟨tab, lctS, 21, [([1, 0, 1, 0], atSt lctNt [(2, 2)] 3 (lctSt s n 0) (.exit 0) (lctE s))]⟩
noncomputable def lctCB (s : ByteArray) (n : Int) (t : ByteArray) : Cfg := ⟨tab, lctS, 21, [([1, 0, 1, 0], atSt lctNt [(2, 2)] 3 (lctSt s n 0) .ret (lctX t))]⟩
theorem lct_evA (s : ByteArray) (n : Int) : fnS (lctCA s n) 60 Try.f16 (bodyOf Try.f16) [.string s, i64 n] = req (stEq (lctSt s n 0) (lctSt s n 0)) (req (Nat.ble s.size 1000000) (some (.string s))) := by kernel_rfl
theorem lct_evB (s : ByteArray) (n : Int) (t : ByteArray) : fnS (lctCB s n t) 60 Try.f16 (bodyOf Try.f16) [.string s, i64 n] = req (stEq (lctSt s n 0) (lctSt s n 0)) (some (.string t)) := by kernel_rfl
theorem lct_sum : Sum Try.prog 16 lCyF := by
  refine sum_per (c := bodyOf Try.f16) Try.func16 (by kernel_rfl) (by kernel_rfl) (fuel := 60) fun args v h hpl => ?_
  unfold lCyF at h
  split at h
  · rename_i s n
    simp only [Option.some.injEq, Prod.mk.injEq, Bool.and_eq_true, decide_eq_true_eq] at h
    obtain ⟨⟨h1, hn⟩, rfl⟩ := h
    have h1 := Nat.le_of_ble_eq_true h1
    by_cases hg : (rN s : Int) ≤ n
    · refine ⟨lctCA s n, ⟨mixed, tabOk, lctS_ok, oneL (lct_loopA hn hg)⟩, rfl, by show 2 ≤ Try.f16.ntmps; decide +kernel, (lct_evA s n).trans ?_, rfl⟩
      rw [req_true (stEq_refl rfl), Nat.ble_eq_true_of_le h1, req_true rfl, cutT_all s hg]
    · by_cases h0 : rN s = 0
      · refine ⟨lctCA s n, ⟨mixed, tabOk, lctS_ok, oneL (lct_loopZ h0)⟩, rfl, by show 2 ≤ Try.f16.ntmps; decide +kernel, (lct_evA s n).trans ?_, rfl⟩
        have hz := (rN_is s).2
        rw [h0] at hz
        have hz : (0 : Nat) = s.size := hz
        have hp := ps_le s n.toNat
        have e : cutT s n = s := by
          rw [cutT_eq, show ps s n.toNat = s.size from by omega]; exact cut_all s
        rw [req_true (stEq_refl rfl), Nat.ble_eq_true_of_le h1, req_true rfl, e]
      · refine ⟨lctCB s n _, ⟨mixed, tabOk, lctS_ok, oneL (lct_loopB h1 hn (by omega))⟩, rfl, by show 2 ≤ Try.f16.ntmps; decide +kernel, (lct_evB s n _).trans ?_, rfl⟩
        rw [req_true (stEq_refl rfl)]
  · simp at h
def lflC0 : Cfg := ⟨tab, [], 30, []⟩
theorem lflOk0 : CfgOk Try.prog lflC0 (bodyOf Try.f13) := ⟨mixed, tabOk, sums_nil, noL⟩
theorem lfl_at : codeAt [1, 1, 0, 1, 0] (bodyOf Try.f13) = some (.loop (loopAt [1, 1, 0, 1, 0] (bodyOf Try.f13))) := by kernel_rfl
def lflB : Nat := nid 2 0
def lflNt : List Nat := [3, 8, 9, 10]
def lflSt (n : Nat) (F : Nat → List Value) (t : Nat) : St := ⟨[(3, .slice (some ⟨lflB, 0, none⟩) n n), (8, .slice (some ⟨lflB, 0, none⟩) n n), (9, i64 ((n : Nat) : Int)), (10, i64 ((t : Nat) : Int))], [(lflB, ⟨.row kB n F, 5, true⟩)], 7⟩
def lflE (n : Nat) (F : Nat → List Value) : St := ⟨[(3, .slice (some ⟨lflB, 0, none⟩) n n)], [(lflB, ⟨.row kB n F, 5, true⟩)], 7⟩
noncomputable def lflT {α : Type} (n : Nat) (F : Nat → List Value) (t : Nat) (up no out : Option α) : Option α :=
  bif decide (((t : Nat) : Int) < ((n : Nat) : Int)) then req (inR ((t : Nat) : Int) n) (req (Nat.blt t n && true) (bif decide (65 ≤ bI F (0 + t)) then (bif decide (bI F (0 + t) ≤ 90) then req (inR ((t : Nat) : Int) n) (req (Nat.blt t n && true) up) else no) else no)) else out
theorem lfl_r (n : Nat) (F : Nat → List Value) (t : Nat) : roundS lflC0 60 [1, 1, 0, 1, 0, 0] (loopAt [1, 1, 0, 1, 0] (bodyOf Try.f13)) lflNt [(lflB, lflB)] 7 [3] [(lflB, lflB)] 7 (lflSt n F t) =
    lflT n F t (some (.normal, ⟨[(3, .slice (some ⟨lflB, 0, none⟩) n n), (8, .slice (some ⟨lflB, 0, none⟩) n n), (9, i64 ((n : Nat) : Int)), (10, i64 (IntKind.i64.wrap (((t : Nat) : Int) + 1)))], [(lflB, ⟨.row kB n (updR F (0 + t) [.int .u8 (IntKind.u8.wrap (IntKind.u8.wrap (bI F (0 + t) - 65) + 97))]), 5, true⟩)], 7⟩))
      (some (.normal, ⟨[(3, .slice (some ⟨lflB, 0, none⟩) n n), (8, .slice (some ⟨lflB, 0, none⟩) n n), (9, i64 ((n : Nat) : Int)), (10, i64 (IntKind.i64.wrap (((t : Nat) : Int) + 1)))], [(lflB, ⟨.row kB n F, 5, true⟩)], 7⟩)) (some (.exit 0, lflE n F)) := by kernel_rfl
theorem lfl_loop {s : ByteArray} (hs : s.size ≤ 1000000) : LoopOk Try.prog 30 (loopAt [1, 1, 0, 1, 0] (bodyOf Try.f13)) (atSt lflNt [(lflB, lflB)] 7 (lflSt s.size (loK s 0) 0) (.exit 0) (lflE s.size (loK s s.size))) := by
  refine loopE (fun _ => lflC0) s.size (fun _ _ => lflOk0) (fun _ => rfl) lfl_at (m := 60) (nt := lflNt) (ni := [(lflB, lflB)]) (et := [3]) (ei := [(lflB, lflB)]) (nx := 7) (ex := 7) (fun k => lflSt s.size (loK s k) k) rfl (by intro h; cases h) ?_ ?_
  · intro k hk
    have hb := byt_lt s k
    have hin : inR ((k : Nat) : Int) s.size = true := by unfold inR; rw [decide_eq_true (by omega), decide_eq_true (by omega)]; rfl
    have hbl : Nat.blt k s.size = true := by rw [Nat.blt_eq]; exact hk
    have hx : bI (loK s k) (0 + k) = ((byt s k : Nat) : Int) := by rw [Nat.zero_add, bI_loK, if_neg (Nat.lt_irrefl _)]
    have hsl : ∀ F : Nat → List Value, (⟨[(3, .slice (some ⟨lflB, 0, none⟩) s.size s.size), (8, .slice (some ⟨lflB, 0, none⟩) s.size s.size), (9, i64 ((s.size : Nat) : Int)), (10, i64 (IntKind.i64.wrap (((k : Nat) : Int) + 1)))], [(lflB, ⟨.row kB s.size F, 5, true⟩)], 7⟩ : St) = lflSt s.size F (k + 1) := fun F => by
      rw [wrap_i64 (by omega)]; rfl
    by_cases hu : 65 ≤ byt s k ∧ byt s k ≤ 90
    · refine ⟨_, (lfl_r s.size (loK s k) k).trans ?_, stEq_mk (sl := [(3, .slice (some ⟨lflB, 0, none⟩) s.size s.size), (8, .slice (some ⟨lflB, 0, none⟩) s.size s.size), (9, i64 ((s.size : Nat) : Int)), (10, i64 (((k + 1 : Nat) : Nat) : Int))]) rfl (mRow (fun j _ => loK_up s hu j) mNil)⟩
      unfold lflT
      rw [hsl, decide_eq_true (by omega), cond_true, hin, req_true rfl, hbl, req_true (b := true && true) rfl, decide_eq_true (by rw [hx]; omega), decide_eq_true (by rw [hx]; omega), cond_true, cond_true, req_true rfl, req_true (b := true && true) rfl]; rfl
    · refine ⟨_, (lfl_r s.size (loK s k) k).trans ?_, stEq_mk (sl := [(3, .slice (some ⟨lflB, 0, none⟩) s.size s.size), (8, .slice (some ⟨lflB, 0, none⟩) s.size s.size), (9, i64 ((s.size : Nat) : Int)), (10, i64 (((k + 1 : Nat) : Nat) : Int))]) rfl (mRow (fun j _ => loK_no s hu j) mNil)⟩
      unfold lflT
      rw [hsl (loK s k), decide_eq_true (by omega), cond_true, hin, req_true rfl, hbl, req_true (b := true && true) rfl]
      by_cases h1 : 65 ≤ byt s k
      · rw [decide_eq_true (by rw [hx]; omega), decide_eq_false (by rw [hx]; omega)]; rfl
      · rw [decide_eq_false (by rw [hx]; omega)]; rfl
  · refine ⟨lflE s.size (loK s s.size), (lfl_r s.size (loK s s.size) s.size).trans ?_, stEq_refl rfl⟩
    unfold lflT
    rw [decide_eq_false (by omega), cond_false]
noncomputable def lflC (s : ByteArray) (F0 F : Nat → List Value) : Cfg := ⟨tab, [], 30, [([1, 1, 0, 1, 0], atSt lflNt [(lflB, lflB)] 7 (lflSt s.size F0 0) (.exit 0) (lflE s.size F))]⟩
theorem lfl_ev (s : ByteArray) (F0 F : Nat → List Value) : fnS (lflC s F0 F) 60 Try.f13 (bodyOf Try.f13) [.string s] = req (stEq (lflSt s.size (strF s) 0) (lflSt s.size F0 0)) (req (kb3 s.size) (some (.string (rowS s.size (sgF s.size F))))) := by kernel_rfl
theorem lfl_sum : Sum Try.prog 13 lFoF := by
  refine sum_per (c := bodyOf Try.f13) Try.func13 (by kernel_rfl) (by kernel_rfl) (fuel := 60) fun args v h hpl => ?_
  unfold lFoF at h
  split at h
  · rename_i s
    simp only [Option.some.injEq, Prod.mk.injEq] at h
    obtain ⟨h1, rfl⟩ := h
    have h1 := Nat.le_of_ble_eq_true h1
    refine ⟨lflC s _ _, ⟨mixed, tabOk, sums_nil, oneL (lfl_loop h1)⟩, rfl, by show 1 ≤ Try.f13.ntmps; decide +kernel, (lfl_ev s _ _).trans ?_, rfl⟩
    have h0 : stEq (lflSt s.size (strF s) 0) (lflSt s.size (loK s 0) 0) = true :=
      stEq_mk (sl := [(3, .slice (some ⟨lflB, 0, none⟩) s.size s.size), (8, .slice (some ⟨lflB, 0, none⟩) s.size s.size), (9, i64 ((s.size : Nat) : Int)), (10, i64 (((0 : Nat) : Nat) : Int))]) rfl (mRow (fun j _ => loK_zero s j) mNil)
    rw [req_true h0, kb3_true, req_true rfl,
      foR_text (fun j hj => by rw [bI_sg, bI_loK, if_pos hj])]
  · simp at h
noncomputable def lsmS : Sums := [(13, lFoF)]
theorem lsmS_ok : SumsOk Try.prog lsmS := sums_cons lfl_sum sums_nil
noncomputable def lsmC : Cfg := ⟨tab, lsmS, 10, []⟩
theorem lsmOk : CfgOk Try.prog lsmC (bodyOf Try.f15) := ⟨mixed, tabOk, lsmS_ok, noL⟩
theorem lsm_ev (a b : ByteArray) : fnS lsmC 60 Try.f15 (bodyOf Try.f15) [.string a, .string b] = req (Nat.ble a.size 1000000) (req (Nat.ble b.size 1000000) (some (.bool (foT a == foT b)))) := by kernel_rfl
theorem lsm_sum : Sum Try.prog 15 lSaF := by
  refine sum_of lsmOk Try.func15 (by kernel_rfl) (by kernel_rfl) rfl (fuel := 60) fun args v h hpl => ?_
  unfold lSaF at h
  split at h
  · rename_i a b
    simp only [Option.some.injEq, Prod.mk.injEq, Bool.and_eq_true] at h
    obtain ⟨⟨h1, h2⟩, rfl⟩ := h
    exact ⟨by show 2 ≤ Try.f15.ntmps; decide +kernel, (lsm_ev a b).trans (by rw [h1, h2]; rfl), rfl⟩
  · simp at h
end Go.Proofs.Ytheldjiikjaimaa

namespace Go.W
open Go
def tf (b : Bool) : Option Value := some (.bool b)
def qS {α : Type} (s : ByteArray) (x : Option α) : Option α := req (Nat.ble s.size 1000000) x
theorem qS_eq {α : Type} {s : ByteArray} (h : s.size ≤ 1000000) (x : Option α) : qS s x = x := by unfold qS; rw [Nat.ble_eq_true_of_le h, req_true rfl]
def qC {α : Type} (s : ByteArray) (n : Int) (x : Option α) : Option α := req (Nat.ble s.size 1000000 && decide (n < 9223372036854775808)) x
theorem qC_eq {α : Type} {s : ByteArray} {n : Int} (h : s.size ≤ 1000000) (hn : n < 9223372036854775808) (x : Option α) : qC s n x = x := by unfold qC; rw [Nat.ble_eq_true_of_le h, decide_eq_true hn, req_true (b := true && true) rfl]
theorem txs (a : ByteArray) : (a == a) = true := by rw [txt_eq]; exact decide_eq_true rfl
theorem rN_lit {s : ByteArray} (n : Nat) (h : (∀ k, k < n → ps s k < s.size) ∧ ps s n = s.size) : rN s = n := rN_of h
theorem lbl_lit {s : ByteArray} (n : Nat) (h : (∀ k, k < n → ps s k < s.size) ∧ ps s n = s.size) (h1 : 1 ≤ n ∧ n ≤ 24 ∧ (∀ k, k < n → okC (rc s k)) ∧ rc s 0 ≠ 32 ∧ rc s (n - 1) ≠ 32) : lbl s := by
  unfold lbl; rw [rN_lit n h]; exact h1
def tA : ByteArray := ⟨#[65, 100, 97, 32, 76, 46]⟩
def tB : ByteArray := ⟨#[32, 120]⟩
def tC : ByteArray := ⟨#[65, 100, 97]⟩
def tD : ByteArray := ⟨#[97, 68, 65]⟩
def tE : ByteArray := ⟨#[195, 164, 98]⟩
theorem tA_lbl : lbl tA := lbl_lit 6 (by decide +kernel) (by decide +kernel)
theorem tB_no : ¬ lbl tB := fun h => h.2.2.2.1 (by decide +kernel)
theorem tE_rN : rN tE = 2 := rN_lit 2 (by decide +kernel)
theorem tCD : foT tC = foT tD := txt_ext (by rw [foT_size, foT_size]; rfl) fun j hj => by
  rw [foT_size] at hj
  have hj : j < 3 := hj
  rw [byt_fo, byt_fo]
  match j, hj with
  | 0, _ => decide +kernel
  | 1, _ => decide +kernel
  | 2, _ => decide +kernel
noncomputable def wk11T : Option Value := bif lbE tA == 0 then bif lbE tB == 8 then bif foT tC == foT tD then some (.bool (((rN tE : Nat) : Int) == 2)) else tf false else tf false else tf false
theorem wk11T_eq : wk11T = some (.bool true) := by
  unfold wk11T
  rw [lbE_yes tA_lbl, lbE_no tB_no, tCD, txs, tE_rN]; rfl
def Wk11F : List Value → Option (Bool × Value)
  | [] => some (true, .bool true)
  | _ => none
def big63 : Nat := 9223372036854775807
def badL : List Value := [.string ⟨#[128]⟩, .string ⟨#[192, 128]⟩, .string ⟨#[237, 160, 128]⟩, .string ⟨#[244, 144, 128, 128]⟩, .string ⟨#[255]⟩, .string ⟨#[0]⟩, .string ⟨#[31]⟩, .string ⟨#[127]⟩, .string ⟨#[194, 133]⟩, .string ⟨#[194, 159]⟩, .string ⟨#[239, 191, 189]⟩, .string ⟨#[228, 184]⟩]
def badA (j : Nat) : ByteArray := toS (badL.getD (0 + j * 1) (.bool false))
def spo (b r : ByteArray) : Prop := ∃ q, 1 ≤ q ∧ rN (b ++ r) = q + rN r ∧ ¬ okC (rc (b ++ r) 0)
theorem spo_one {b r : ByteArray} {c : Nat} (h : runeAt (byt b) 0 c b.size) (hc : ¬ okC c) : spo b r := by
  obtain ⟨h1, h2, h3, _⟩ := one_rune h
  refine ⟨1, Nat.le_refl _, by rw [rN_join h2, h1], ?_⟩
  rw [rc_ahead h2 (by omega), h3]; exact hc
theorem spo_none {b r : ByteArray} (h0 : 1 ≤ b.size) (h : ∀ j, j < b.size → ∀ c w, j + w ≤ b.size + r.size → ¬ runeAt (byt (b ++ r)) j c w) : spo b r := by
  have hs : (b ++ r).size = b.size + r.size := size_app b r
  have hn : ∀ j, j < b.size → ∀ c w, j + w ≤ (b ++ r).size → ¬ runeAt (byt (b ++ r)) j c w := fun j hj c w hw => h j hj c w (by omega)
  have hp := ps_none (by omega) hn
  refine ⟨b.size, h0, rN_behind (hp _ (Nat.le_refl _)) fun k hk => by rw [hp k (by omega)]; exact hk, ?_⟩
  rw [rc_none (by omega) hn (show 0 < b.size by omega)]
  exact fun h => h.2.2 rfl
theorem spo_all {r : ByteArray} (hr : 1 ≤ r.size → byt r 0 / 64 ≠ 2) : ∀ j, j < 12 → spo (badA j) r
  | 0, _ => spo_none (by decide) fun j hj c w hw h => by
    have hj : j < 1 := hj
    have e : ∀ j, j < 1 → byt (badA 0 ++ r) j = byt (badA 0) j := fun j hj => by rw [byt_app, if_pos (show j < (badA 0).size from hj)]
    have e0 : byt (badA 0 ++ r) 0 = 128 := (e 0 (by decide)).trans (by decide +kernel)
    obtain rfl : j = 0 := by omega
    · simp only [runeAt, Nat.zero_add, e0] at h; omega
  | 1, _ => spo_none (by decide) fun j hj c w hw h => by
    have hj : j < 2 := hj
    have e : ∀ j, j < 2 → byt (badA 1 ++ r) j = byt (badA 1) j := fun j hj => by rw [byt_app, if_pos (show j < (badA 1).size from hj)]
    have e0 : byt (badA 1 ++ r) 0 = 192 := (e 0 (by decide)).trans (by decide +kernel)
    have e1 : byt (badA 1 ++ r) 1 = 128 := (e 1 (by decide)).trans (by decide +kernel)
    obtain rfl | rfl : j = 0 ∨ j = 1 := by omega
    · simp only [runeAt, Nat.zero_add, e0, e1] at h; omega
    · simp only [runeAt, e1] at h; omega
  | 2, _ => spo_none (by decide) fun j hj c w hw h => by
    have hj : j < 3 := hj
    have e : ∀ j, j < 3 → byt (badA 2 ++ r) j = byt (badA 2) j := fun j hj => by rw [byt_app, if_pos (show j < (badA 2).size from hj)]
    have e0 : byt (badA 2 ++ r) 0 = 237 := (e 0 (by decide)).trans (by decide +kernel)
    have e1 : byt (badA 2 ++ r) 1 = 160 := (e 1 (by decide)).trans (by decide +kernel)
    have e2 : byt (badA 2 ++ r) 2 = 128 := (e 2 (by decide)).trans (by decide +kernel)
    obtain rfl | rfl | rfl : j = 0 ∨ j = 1 ∨ j = 2 := by omega
    · simp only [runeAt, Nat.zero_add, e0, e1, e2, valid_vld, vld] at h; omega
    · simp only [runeAt, e1] at h; omega
    · simp only [runeAt, e2] at h; omega
  | 3, _ => spo_none (by decide) fun j hj c w hw h => by
    have hj : j < 4 := hj
    have e : ∀ j, j < 4 → byt (badA 3 ++ r) j = byt (badA 3) j := fun j hj => by rw [byt_app, if_pos (show j < (badA 3).size from hj)]
    have e0 : byt (badA 3 ++ r) 0 = 244 := (e 0 (by decide)).trans (by decide +kernel)
    have e1 : byt (badA 3 ++ r) 1 = 144 := (e 1 (by decide)).trans (by decide +kernel)
    have e2 : byt (badA 3 ++ r) 2 = 128 := (e 2 (by decide)).trans (by decide +kernel)
    have e3 : byt (badA 3 ++ r) 3 = 128 := (e 3 (by decide)).trans (by decide +kernel)
    obtain rfl | rfl | rfl | rfl : j = 0 ∨ j = 1 ∨ j = 2 ∨ j = 3 := by omega
    · simp only [runeAt, Nat.zero_add, e0, e1, e2, e3, valid_vld, vld] at h; omega
    · simp only [runeAt, e1] at h; omega
    · simp only [runeAt, e2] at h; omega
    · simp only [runeAt, e3] at h; omega
  | 4, _ => spo_none (by decide) fun j hj c w hw h => by
    have hj : j < 1 := hj
    have e : ∀ j, j < 1 → byt (badA 4 ++ r) j = byt (badA 4) j := fun j hj => by rw [byt_app, if_pos (show j < (badA 4).size from hj)]
    have e0 : byt (badA 4 ++ r) 0 = 255 := (e 0 (by decide)).trans (by decide +kernel)
    obtain rfl : j = 0 := by omega
    · simp only [runeAt, Nat.zero_add, e0] at h; omega
  | 5, _ => spo_one (c := 0) (.inl ⟨rfl, by decide +kernel, by decide +kernel⟩) (by decide +kernel)
  | 6, _ => spo_one (c := 31) (.inl ⟨rfl, by decide +kernel, by decide +kernel⟩) (by decide +kernel)
  | 7, _ => spo_one (c := 127) (.inl ⟨rfl, by decide +kernel, by decide +kernel⟩) (by decide +kernel)
  | 8, _ => spo_one (c := 133) (.inr (.inl ⟨rfl, by decide +kernel, by decide +kernel, by decide +kernel, by decide +kernel⟩)) (by decide +kernel)
  | 9, _ => spo_one (c := 159) (.inr (.inl ⟨rfl, by decide +kernel, by decide +kernel, by decide +kernel, by decide +kernel⟩)) (by decide +kernel)
  | 10, _ => spo_one (c := 65533) (.inr (.inr (.inl ⟨rfl, by decide +kernel, by decide +kernel, by decide +kernel, by decide +kernel, by decide +kernel, by decide +kernel⟩))) (by decide +kernel)
  | 11, _ => spo_none (by decide) fun j hj c w hw h => by
    have hj : j < 2 := hj
    have hs : (badA 11).size = 2 := by decide +kernel
    have e : ∀ j, j < 2 → byt (badA 11 ++ r) j = byt (badA 11) j := fun j hj => by rw [byt_app, if_pos (show j < (badA 11).size from hj)]
    have e0 : byt (badA 11 ++ r) 0 = 228 := (e 0 (by decide)).trans (by decide +kernel)
    have e1 : byt (badA 11 ++ r) 1 = 184 := (e 1 (by decide)).trans (by decide +kernel)
    have e2 : byt (badA 11 ++ r) 2 = byt r 0 := by rw [byt_app, if_neg (by omega), hs]
    obtain rfl | rfl : j = 0 ∨ j = 1 := by omega
    · simp only [runeAt, Nat.zero_add, e0, e1, e2] at h
      by_cases h9 : 1 ≤ r.size
      · have := hr h9; omega
      · omega
    · simp only [runeAt, e1] at h; omega
theorem mod_idx (x : Int) {m : Nat} (h0 : 1 ≤ m) (h1 : m ≤ 1000000) : ∃ j : Nat, j < m ∧ IntKind.i64.wrap ((IntKind.u64.wrap x).tmod (IntKind.u64.wrap ((m : Nat) : Int))) = (j : Int) := by
  rw [wrap_u64, wrap_u64, show ((m : Nat) : Int) % 18446744073709551616 = (m : Int) from by omega]
  have h2 : 0 ≤ x % 18446744073709551616 := by omega
  rw [Int.tmod_eq_emod_of_nonneg h2]
  have h3 := Int.emod_nonneg (x % 18446744073709551616) (show ((m : Nat) : Int) ≠ 0 by omega)
  have h4 := Int.emod_lt_of_pos (x % 18446744073709551616) (show (0 : Int) < (m : Nat) by omega)
  exact ⟨(x % 18446744073709551616 % ((m : Nat) : Int)).toNat, by omega, by rw [wrap_i64 (by omega)]; omega⟩
noncomputable def lbyT (s : ByteArray) (a h : Int) : Option Value :=
  bif decide ((s.size : Int) > 500) then tf true else qS s (bif lbE s != 0 then tf true else qS s (bif decide (IntKind.u64.wrap (IntKind.i64.wrap (((rN s : Nat) : Int) + 1)) = 0) then none else
    (fun (i j : Int) => qC s i (req (inR j 12) (req (Nat.blt (0 + j.toNat * 1) 12) (req (Nat.ble ((cutT s i).size + (badA j.toNat).size) big63) (req (decide (0 ≤ (((cutT s i).size : Nat) : Int)) && decide ((((cutT s i).size : Nat) : Int) ≤ ((s.size : Nat) : Int)))
      (req (Nat.ble ((cutT s i ++ badA j.toNat).size + (s.extract (cutT s i).size s.size).size) big63) (qS (cutT s i ++ badA j.toNat ++ s.extract (cutT s i).size s.size)
        (bif lbE (cutT s i ++ badA j.toNat ++ s.extract (cutT s i).size s.size) == 8 then qS (cutT s i ++ badA j.toNat ++ s.extract (cutT s i).size s.size) (qS s (bif decide (((rN (cutT s i ++ badA j.toNat ++ s.extract (cutT s i).size s.size) : Nat) : Int) > ((rN s : Nat) : Int)) then tf true else tf false)) else tf false))))))))
      (IntKind.i64.wrap ((IntKind.u64.wrap a).tmod (IntKind.u64.wrap (IntKind.i64.wrap (((rN s : Nat) : Int) + 1))))) (IntKind.i64.wrap ((IntKind.u64.wrap h).tmod (IntKind.u64.wrap 12)))))
theorem badA_size : ∀ j, j < 12 → (badA j).size ≤ 4 := by decide +kernel
theorem lbyT_eq (s : ByteArray) (a h : Int) : lbyT s a h = some (.bool true) := by
  unfold lbyT
  by_cases h1 : (s.size : Int) > 500
  · rw [decide_eq_true h1]; rfl
  rw [decide_eq_false h1, cond_false, qS_eq (by omega)]
  by_cases hs : lbl s
  rotate_left
  · rw [lbE_no hs]; rfl
  have hN := rN_le s
  rw [lbE_yes hs, bne_self_eq_false, cond_false, qS_eq (by omega), wrap_i64 (by omega), show ((rN s : Nat) : Int) + 1 = ((rN s + 1 : Nat) : Int) from rfl, decide_eq_false (by rw [wrap_u64]; omega), cond_false]
  obtain ⟨i, hi, ei⟩ := mod_idx a (show 1 ≤ rN s + 1 by omega) (by omega)
  obtain ⟨j, hj, ej⟩ := mod_idx h (show 1 ≤ 12 by decide) (by decide)
  rw [ei, show IntKind.i64.wrap ((IntKind.u64.wrap h).tmod (IntKind.u64.wrap 12)) = (j : Int) from ej]
  have hc : cutT s (i : Int) = s.extract 0 (ps s i) := by rw [cutT_eq, Int.toNat_natCast]
  have hsz : (cutT s (i : Int)).size = ps s i := by rw [cutT_size, Int.toNat_natCast]
  have hp := ps_le s i
  have hbs := badA_size j hj
  have hrest : 1 ≤ (s.extract (ps s i) s.size).size → byt (s.extract (ps s i) s.size) 0 / 64 ≠ 2 := by
    intro h9
    rw [size_cut (Nat.le_refl _)] at h9
    rw [byt_cut _ _ _ _ (by omega), Nat.add_zero]
    have hlt : ps s i < s.size := by omega
    have hr := lbl_right hs.2.2.1 i (lt_rN.1 hlt)
    rcases decB_cases (b := byt s) hlt with ⟨h, _⟩ | ⟨r, w, _, h, _⟩
    · exact absurd h hr
    · rcases h with ⟨_, k1, _⟩ | ⟨_, k1, _⟩ | ⟨_, k1, _⟩ | ⟨_, k1, _⟩ <;> omega
  obtain ⟨q, hq, hb, hcc⟩ := spo_all hrest j hj
  obtain ⟨r1, r2⟩ := spoilt hs (show i ≤ rN s by omega) hq hb hcc
  have hin : inR (j : Int) 12 = true := by unfold inR; rw [decide_eq_true (by omega), decide_eq_true (by omega)]; rfl
  have hts : (s.extract 0 (ps s i) ++ badA j ++ s.extract (ps s i) s.size).size ≤ 1000000 := by rw [size_app, size_app, size_pre, size_cut (Nat.le_refl _)]; omega
  have hb63 : ∀ n : Nat, n ≤ 9223372036854775807 → Nat.ble n big63 = true := fun n h => Nat.ble_eq_true_of_le h
  show qC s _ (req _ (req _ _)) = _
  rw [Int.toNat_natCast, hsz, hc, qC_eq (by omega) (by omega), hin, req_true rfl, show Nat.blt (0 + j * 1) 12 = true from by rw [Nat.blt_eq]; omega, req_true rfl, hb63 _ (by omega), req_true rfl, decide_eq_true (by omega), decide_eq_true (by omega), req_true (b := true && true) rfl,
    hb63 _ (by rw [size_app, size_pre, size_cut (Nat.le_refl _)]; omega), req_true rfl, qS_eq hts, lbE_no r1, qS_eq hts, qS_eq (by omega), decide_eq_true (by omega)]
  rfl
end Go.W

namespace Go.Proofs.Ytheldjiikjaimaa
set_option maxRecDepth 100000
open Go.W
open Go.RowKit (Below)
noncomputable def wk11S : Sums := [(9, lChF), (15, lSaF), (11, lRnF)]
theorem wk11S_ok : SumsOk Try.prog wk11S := sums_cons lck_sum (sums_cons lsm_sum (sums_cons lru_sum sums_nil))
noncomputable def wk11C : Cfg := ⟨tab, wk11S, 14, []⟩
theorem wk11Ok : CfgOk Try.prog wk11C (bodyOf Try.f18) := ⟨mixed, tabOk, wk11S_ok, noL⟩
theorem wk11_ev : fnS wk11C 60 Try.f18 (bodyOf Try.f18) [] = wk11T := by kernel_rfl
theorem wk11_sum : Sum Try.prog 18 Wk11F := by
  refine sum_of wk11Ok Try.func18 (by kernel_rfl) (by kernel_rfl) rfl (fuel := 60) fun args v h hpl => ?_
  unfold Wk11F at h
  split at h
  · simp only [Option.some.injEq, Prod.mk.injEq] at h
    obtain ⟨_, rfl⟩ := h
    exact ⟨Nat.zero_le _, wk11_ev.trans wk11T_eq, rfl⟩
  · simp at h
noncomputable def lbyS : Sums := [(9, lChF), (11, lRnF), (16, lCyF), (18, Wk11F)]
theorem lbyS_ok : SumsOk Try.prog lbyS := sums_cons lck_sum (sums_cons lru_sum (sums_cons lct_sum (sums_cons wk11_sum sums_nil)))
noncomputable def lbyC : Cfg := ⟨tab, lbyS, 59, []⟩
theorem lbyOk : CfgOk Try.prog lbyC (bodyOf Try.f8) := ⟨mixed, tabOk, lbyS_ok, noL⟩
theorem lby_ev (s : ByteArray) (a h : Int) : fnS lbyC 60 Try.f8 (bodyOf Try.f8) [.string s, i64 a, i64 h] = lbyT s a h := by kernel_rfl
theorem lby_calls {s : ByteArray} {a h : Int} {W : World} : Calls Try.prog 8 #[.string s, .int .i64 a, .int .i64 h] W fun e W' => e = .returned (.bool true) ∧ Below W.heap.size W W' :=
  fn_sound lbyOk Try.func8 (by kernel_rfl) rfl (args := [.string s, .int .i64 a, .int .i64 h]) (fuel := 60) (by show 3 ≤ Try.f8.ntmps; decide +kernel) (by kernel_rfl) ((lby_ev s a h).trans (lbyT_eq s a h)) rfl W (GOk_nil _)
end Go.Proofs.Ytheldjiikjaimaa
