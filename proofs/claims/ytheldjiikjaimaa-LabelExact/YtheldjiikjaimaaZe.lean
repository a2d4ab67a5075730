/-
  Several texts in one: M87 M88 M89 W15 W25 M29 M31 M35 M36 M37 M38 W21 M51 M55 W29 M81 M82 M90 W30 W32 M91 Xa Xe Xb M92 Xc.
-/
import Derived.Test.YtheldjiikjaimaaZd
import Derived.ChangeArms
import Derived.Deep.Slices
import Derived.Shelf.Pu.Clone
namespace Go.W
open Go
def byt (s : ByteArray) (j : Nat) : Nat := (s.data.toList.getD j 0).toNat
theorem byt_lt (s : ByteArray) (j : Nat) : byt s j < 256 := (s.data.toList.getD j 0).toNat_lt
theorem get_byt (s : ByteArray) (j : Nat) : (s.get! j).toNat = byt s j := by
  cases s with | mk d =>
  show (d[j]!).toNat = (d.toList.getD j 0).toNat
  congr 1
  rw [List.getD_eq_getElem?_getD, Array.getElem?_toList]
  simp [getElem!_def]
  cases d[j]? <;> rfl
theorem byt_cut (s : ByteArray) (a b j : Nat) (h : j < b - a) : byt (s.extract a b) j = byt s (a + j) := by
  unfold byt
  rw [ByteArray.data_extract, Array.toList_extract, List.extract_eq_take_drop, List.getD_eq_getElem?_getD, List.getD_eq_getElem?_getD, List.getElem?_take, if_pos h, List.getElem?_drop]
theorem txt_ext {a b : ByteArray} (h : a.size = b.size) (h2 : ∀ j, j < a.size → byt a j = byt b j) : a = b := by
  apply ByteArray.ext
  apply Array.toList_inj.1
  have e1 : a.data.toList.length = a.size := Array.length_toList
  have e2 : b.data.toList.length = b.size := Array.length_toList
  apply List.ext_getElem (by omega)
  intro j h3 h4
  have := h2 j (by omega)
  unfold byt at this
  rw [List.getD_eq_getElem?_getD, List.getD_eq_getElem?_getD, List.getElem?_eq_getElem h3, List.getElem?_eq_getElem h4] at this
  exact UInt8.toNat_inj.1 this
theorem txt_eq (a b : ByteArray) : (a == b) = decide (a = b) := by
  rw [Bool.eq_iff_iff, decide_eq_true_eq]
  cases a with | mk x => cases b with | mk y =>
  show (x == y) = true ↔ _
  simp
theorem size_cut {s : ByteArray} {a b : Nat} (h : b ≤ s.size) : (s.extract a b).size = b - a := by rw [ByteArray.size_extract, Nat.min_eq_left h]
theorem cut_all (s : ByteArray) : s.extract 0 s.size = s := by
  apply txt_ext (by rw [size_cut (Nat.le_refl _), Nat.sub_zero])
  intro j hj
  rw [size_cut (Nat.le_refl _)] at hj
  rw [byt_cut _ _ _ _ (by omega), Nat.zero_add]
def decB (b : Nat → Nat) (n i : Nat) : Nat × Nat :=
  let cont (k : Nat) : Bool := decide (i + k < n) && b (i + k) / 64 == 2
  if b i < 128 then (b i, 1)
  else if b i / 32 == 6 && cont 1 then
    if (b i % 32) * 64 + b (i + 1) % 64 ≥ 128 then ((b i % 32) * 64 + b (i + 1) % 64, 2) else (65533, 1)
  else if b i / 16 == 14 && cont 1 && cont 2 then
    if (b i % 16) * 4096 + (b (i + 1) % 64) * 64 + b (i + 2) % 64 ≥ 2048 && Utf8.valid (((b i % 16) * 4096 + (b (i + 1) % 64) * 64 + b (i + 2) % 64 : Nat) : Int) then ((b i % 16) * 4096 + (b (i + 1) % 64) * 64 + b (i + 2) % 64, 3) else (65533, 1)
  else if b i / 8 == 30 && cont 1 && cont 2 && cont 3 then
    if (b i % 8) * 262144 + (b (i + 1) % 64) * 4096 + (b (i + 2) % 64) * 64 + b (i + 3) % 64 ≥ 65536 && Utf8.valid (((b i % 8) * 262144 + (b (i + 1) % 64) * 4096 + (b (i + 2) % 64) * 64 + b (i + 3) % 64 : Nat) : Int) then ((b i % 8) * 262144 + (b (i + 1) % 64) * 4096 + (b (i + 2) % 64) * 64 + b (i + 3) % 64, 4) else (65533, 1)
  else (65533, 1)
theorem dec_decB (s : ByteArray) (i : Nat) : Utf8.decode s i = decB (byt s) s.size i := by
  unfold Utf8.decode decB
  simp only [get_byt, Nat.add_zero]
  rfl
def runeAt (b : Nat → Nat) (i r w : Nat) : Prop :=
  (w = 1 ∧ b i < 128 ∧ r = b i) ∨
  (w = 2 ∧ b i / 32 = 6 ∧ b (i + 1) / 64 = 2 ∧ r = (b i % 32) * 64 + b (i + 1) % 64 ∧ 128 ≤ r) ∨
  (w = 3 ∧ b i / 16 = 14 ∧ b (i + 1) / 64 = 2 ∧ b (i + 2) / 64 = 2 ∧ r = (b i % 16) * 4096 + (b (i + 1) % 64) * 64 + b (i + 2) % 64 ∧ 2048 ≤ r ∧ Utf8.valid (r : Int) = true) ∨
  (w = 4 ∧ b i / 8 = 30 ∧ b (i + 1) / 64 = 2 ∧ b (i + 2) / 64 = 2 ∧ b (i + 3) / 64 = 2 ∧ r = (b i % 8) * 262144 + (b (i + 1) % 64) * 4096 + (b (i + 2) % 64) * 64 + b (i + 3) % 64 ∧ 65536 ≤ r ∧ Utf8.valid (r : Int) = true)
theorem cont_iff {b : Nat → Nat} {n j : Nat} : (decide (j < n) && b j / 64 == 2) = true ↔ j < n ∧ b j / 64 = 2 := by
  rw [Bool.and_eq_true, decide_eq_true_eq, beq_iff_eq]
theorem decB_rune {b : Nat → Nat} {n i r w : Nat} (h : runeAt b i r w) (hn : i + w ≤ n) : decB b n i = (r, w) := by
  unfold decB
  rcases h with ⟨rfl, h1, rfl⟩ | ⟨rfl, h1, h2, rfl, h3⟩ | ⟨rfl, h1, h2, h3, rfl, h4, h5⟩ | ⟨rfl, h1, h2, h3, h4, rfl, h5, h6⟩
  · rw [if_pos h1]
  · rw [if_neg (by omega), if_pos (by rw [Bool.and_eq_true, cont_iff, beq_iff_eq]; omega), if_pos h3]
  · rw [if_neg (by omega), if_neg (by rw [Bool.and_eq_true, beq_iff_eq]; omega), if_pos (by rw [Bool.and_eq_true, Bool.and_eq_true, cont_iff, cont_iff, beq_iff_eq]; omega), if_pos (by rw [Bool.and_eq_true, decide_eq_true_eq]; exact ⟨h4, h5⟩)]
  · rw [if_neg (by omega), if_neg (by rw [Bool.and_eq_true, beq_iff_eq]; omega), if_neg (by rw [Bool.and_eq_true, Bool.and_eq_true, beq_iff_eq]; omega), if_pos (by rw [Bool.and_eq_true, Bool.and_eq_true, Bool.and_eq_true, cont_iff, cont_iff, cont_iff, beq_iff_eq]; omega), if_pos (by rw [Bool.and_eq_true, decide_eq_true_eq]; exact ⟨h5, h6⟩)]
theorem decB_cases {b : Nat → Nat} {n i : Nat} (hi : i < n) : (decB b n i = (65533, 1) ∧ ∀ r w, i + w ≤ n → ¬ runeAt b i r w) ∨ ∃ r w, decB b n i = (r, w) ∧ runeAt b i r w ∧ i + w ≤ n := by
  by_cases h : ∃ r w, runeAt b i r w ∧ i + w ≤ n
  · obtain ⟨r, w, h1, h2⟩ := h
    exact .inr ⟨r, w, decB_rune h1 h2, h1, h2⟩
  · refine .inl ⟨?_, fun r w h1 h2 => h ⟨r, w, h2, h1⟩⟩
    unfold decB
    by_cases h0 : b i < 128
    · exact absurd ⟨b i, 1, .inl ⟨rfl, h0, rfl⟩, by omega⟩ h
    rw [if_neg h0]
    by_cases h1 : b i / 32 = 6 ∧ i + 1 < n ∧ b (i + 1) / 64 = 2
    · rw [if_pos (by rw [Bool.and_eq_true, cont_iff, beq_iff_eq]; exact h1)]
      by_cases h2 : (b i % 32) * 64 + b (i + 1) % 64 ≥ 128
      · exact absurd ⟨_, 2, .inr (.inl ⟨rfl, h1.1, h1.2.2, rfl, h2⟩), by omega⟩ h
      · rw [if_neg h2]
    rw [if_neg (by rw [Bool.and_eq_true, cont_iff, beq_iff_eq]; exact h1)]
    by_cases h2 : (b i / 16 = 14 ∧ i + 1 < n ∧ b (i + 1) / 64 = 2) ∧ i + 2 < n ∧ b (i + 2) / 64 = 2
    · rw [if_pos (by rw [Bool.and_eq_true, Bool.and_eq_true, cont_iff, cont_iff, beq_iff_eq]; exact h2)]
      by_cases h3 : (b i % 16) * 4096 + (b (i + 1) % 64) * 64 + b (i + 2) % 64 ≥ 2048 ∧ Utf8.valid (((b i % 16) * 4096 + (b (i + 1) % 64) * 64 + b (i + 2) % 64 : Nat) : Int) = true
      · exact absurd ⟨_, 3, .inr (.inr (.inl ⟨rfl, h2.1.1, h2.1.2.2, h2.2.2, rfl, h3.1, h3.2⟩)), by omega⟩ h
      · rw [if_neg (by rw [Bool.and_eq_true, decide_eq_true_eq]; exact h3)]
    rw [if_neg (by rw [Bool.and_eq_true, Bool.and_eq_true, cont_iff, cont_iff, beq_iff_eq]; exact h2)]
    by_cases h3 : ((b i / 8 = 30 ∧ i + 1 < n ∧ b (i + 1) / 64 = 2) ∧ i + 2 < n ∧ b (i + 2) / 64 = 2) ∧ i + 3 < n ∧ b (i + 3) / 64 = 2
    · rw [if_pos (by rw [Bool.and_eq_true, Bool.and_eq_true, Bool.and_eq_true, cont_iff, cont_iff, cont_iff, beq_iff_eq]; exact h3)]
      by_cases h4 : (b i % 8) * 262144 + (b (i + 1) % 64) * 4096 + (b (i + 2) % 64) * 64 + b (i + 3) % 64 ≥ 65536 ∧ Utf8.valid (((b i % 8) * 262144 + (b (i + 1) % 64) * 4096 + (b (i + 2) % 64) * 64 + b (i + 3) % 64 : Nat) : Int) = true
      · exact absurd ⟨_, 4, .inr (.inr (.inr ⟨rfl, h3.1.1.1, h3.1.1.2.2, h3.1.2.2, h3.2.2, rfl, h4.1, h4.2⟩)), by omega⟩ h
      · rw [if_neg (by rw [Bool.and_eq_true, decide_eq_true_eq]; exact h4)]
    rw [if_neg (by rw [Bool.and_eq_true, Bool.and_eq_true, Bool.and_eq_true, cont_iff, cont_iff, cont_iff, beq_iff_eq]; exact h3)]
theorem runeAt_congr {b b' : Nat → Nat} {i i' r w : Nat} (h : runeAt b i r w) (hb : ∀ k, k < w → b' (i' + k) = b (i + k)) : runeAt b' i' r w := by
  rcases h with ⟨rfl, h1, rfl⟩ | ⟨rfl, h1, h2, rfl, h3⟩ | ⟨rfl, h1, h2, h3, rfl, h4, h5⟩ | ⟨rfl, h1, h2, h3, h4, rfl, h5, h6⟩
  · have e0 : b' i' = b i := hb 0 (by omega)
    exact .inl ⟨rfl, by rw [e0]; exact h1, e0.symm⟩
  · have e0 : b' i' = b i := hb 0 (by omega)
    have e1 := hb 1 (by omega)
    exact .inr (.inl ⟨rfl, by rw [e0]; exact h1, by rw [e1]; exact h2, by rw [e0, e1], h3⟩)
  · have e0 : b' i' = b i := hb 0 (by omega)
    have e1 := hb 1 (by omega)
    have e2 := hb 2 (by omega)
    exact .inr (.inr (.inl ⟨rfl, by rw [e0]; exact h1, by rw [e1]; exact h2, by rw [e2]; exact h3, by rw [e0, e1, e2], h4, h5⟩))
  · have e0 : b' i' = b i := hb 0 (by omega)
    have e1 := hb 1 (by omega)
    have e2 := hb 2 (by omega)
    have e3 := hb 3 (by omega)
    exact .inr (.inr (.inr ⟨rfl, by rw [e0]; exact h1, by rw [e1]; exact h2, by rw [e2]; exact h3, by rw [e3]; exact h4, by rw [e0, e1, e2, e3], h5, h6⟩))
theorem runeAt_w {b : Nat → Nat} {i r w : Nat} (h : runeAt b i r w) : 1 ≤ w ∧ w ≤ 4 := by
  rcases h with ⟨rfl, _⟩ | ⟨rfl, _⟩ | ⟨rfl, _⟩ | ⟨rfl, _⟩ <;> omega
theorem decB_w {b : Nat → Nat} {n i : Nat} (hi : i < n) : 1 ≤ (decB b n i).2 ∧ i + (decB b n i).2 ≤ n := by
  rcases decB_cases (b := b) hi with ⟨h, _⟩ | ⟨r, w, h, h1, h2⟩
  · rw [h]; exact ⟨Nat.le_refl _, hi⟩
  · rw [h]; exact ⟨(runeAt_w h1).1, h2⟩
theorem decB_shift {b b' : Nat → Nat} {n n' i i' : Nat} (hi : i < n) (hn : n' - i' = n - i) (hi' : i' < n') (hb : ∀ k, i + k < n → b' (i' + k) = b (i + k)) : decB b' n' i' = decB b n i := by
  rcases decB_cases (b := b) hi with ⟨h, hno⟩ | ⟨r, w, h, h1, h2⟩
  · rcases decB_cases (b := b') hi' with ⟨h', _⟩ | ⟨r, w, h', h1, h2⟩
    · rw [h, h']
    · exact absurd (runeAt_congr h1 fun k hk => (hb k (by omega)).symm) (hno r w (by omega))
  · rw [h]; exact decB_rune (runeAt_congr h1 fun k hk => hb k (by omega)) (by omega)
def dC (s : ByteArray) (p : Nat) : Nat := (decB (byt s) s.size p).1
def dW (s : ByteArray) (p : Nat) : Nat := (decB (byt s) s.size p).2
theorem dcC_dC (s : ByteArray) (p : Nat) : dcC s p = (dC s p : Int) := by unfold dcC dC; rw [dec_decB]
theorem dcW_dW (s : ByteArray) (p : Nat) : dcW s p = dW s p := by unfold dcW dW; rw [dec_decB]
theorem dW_le {s : ByteArray} {p : Nat} (h : p < s.size) : 1 ≤ dW s p ∧ p + dW s p ≤ s.size := decB_w h
def stp (s : ByteArray) (p : Nat) : Nat := if p < s.size then p + dW s p else p
def psF (s : ByteArray) (p : Nat) : Nat → Nat
  | 0 => p
  | k + 1 => stp s (psF s p k)
def ps (s : ByteArray) (k : Nat) : Nat := psF s 0 k
def rc (s : ByteArray) (k : Nat) : Nat := dC s (ps s k)
theorem ps_zero (s : ByteArray) : ps s 0 = 0 := rfl
theorem ps_succ (s : ByteArray) (k : Nat) : ps s (k + 1) = stp s (ps s k) := rfl
theorem stp_le {s : ByteArray} {p : Nat} (h : p ≤ s.size) : stp s p ≤ s.size ∧ p ≤ stp s p := by
  unfold stp
  split
  · rename_i h1; have := dW_le h1; omega
  · omega
theorem ps_le (s : ByteArray) : ∀ k, ps s k ≤ s.size
  | 0 => Nat.zero_le _
  | k + 1 => (stp_le (ps_le s k)).1
theorem ps_mono1 (s : ByteArray) (k : Nat) : ps s k ≤ ps s (k + 1) := (stp_le (ps_le s k)).2
theorem ps_mono (s : ByteArray) {j k : Nat} (h : j ≤ k) : ps s j ≤ ps s k := by
  induction k with
  | zero => rw [Nat.le_zero.1 h]; exact Nat.le_refl _
  | succ k ih =>
    by_cases e : j = k + 1
    · rw [e]; exact Nat.le_refl _
    · exact Nat.le_trans (ih (by omega)) (ps_mono1 s k)
theorem ps_lt {s : ByteArray} {k : Nat} (h : ps s k < s.size) : ps s k < ps s (k + 1) ∧ ps s (k + 1) = ps s k + dW s (ps s k) := by
  have e : ps s (k + 1) = ps s k + dW s (ps s k) := by rw [ps_succ]; unfold stp; rw [if_pos h]
  have := dW_le h
  omega
def isK (s : ByteArray) (n : Nat) : Prop := (∀ k, k < n → ps s k < s.size) ∧ ps s n = s.size
theorem isK_fun {s : ByteArray} {n m : Nat} (h : isK s n) (h2 : isK s m) : n = m := by
  rcases Nat.lt_trichotomy n m with h3 | h3 | h3
  · have := h2.1 n h3; have := h.2; omega
  · exact h3
  · have := h.1 m h3; have := h2.2; omega
theorem ps_grow (s : ByteArray) : ∀ k, k ≤ ps s k ∨ ps s k = s.size
  | 0 => .inl (Nat.le_refl _)
  | k + 1 => by
    by_cases h : ps s k < s.size
    · have := ps_lt h
      rcases ps_grow s k with h1 | h1 <;> omega
    · right
      rw [ps_succ]; unfold stp; rw [if_neg h]
      have := ps_le s k; omega
theorem isK_ex (s : ByteArray) : ∃ n, isK s n ∧ n ≤ s.size := by
  have key : ∀ n, (∀ k, k < n → ps s k < s.size) ∨ ∃ m, m < n ∧ isK s m := by
    intro n
    induction n with
    | zero => exact .inl fun k h => absurd h (Nat.not_lt_zero _)
    | succ n ih =>
      rcases ih with h | ⟨m, h1, h2⟩
      · by_cases e : ps s n < s.size
        · left
          intro k hk
          by_cases e2 : k = n
          · rw [e2]; exact e
          · exact h k (by omega)
        · right
          exact ⟨n, by omega, h, by have := ps_le s n; omega⟩
      · exact .inr ⟨m, by omega, h2⟩
  rcases key (s.size + 1) with h | ⟨m, h1, h2⟩
  · exfalso
    have h1 := h s.size (by omega)
    rcases ps_grow s s.size with h2 | h2 <;> omega
  · exact ⟨m, h2, by omega⟩
noncomputable def rN (s : ByteArray) : Nat := hide (Classical.choose (isK_ex s))
theorem rN_is (s : ByteArray) : isK s (rN s) := by unfold rN; rw [hide_eq]; exact (Classical.choose_spec (isK_ex s)).1
theorem rN_le (s : ByteArray) : rN s ≤ s.size := by unfold rN; rw [hide_eq]; exact (Classical.choose_spec (isK_ex s)).2
theorem rN_of {s : ByteArray} {n : Nat} (h : isK s n) : rN s = n := isK_fun (rN_is s) h
theorem ps_rN {s : ByteArray} {k : Nat} (h : rN s ≤ k) : ps s k = s.size := by
  have h1 := ps_mono s h
  have := (rN_is s).2
  have := ps_le s k
  omega
end Go.W

namespace Go.W
open Go
noncomputable def cutT (s : ByteArray) (n : Int) : ByteArray := hide (s.extract 0 (ps s n.toNat))
theorem cutT_eq (s : ByteArray) (n : Int) : cutT s n = s.extract 0 (ps s n.toNat) := hide_eq _
theorem cutT_all (s : ByteArray) {n : Int} (h : (rN s : Int) ≤ n) : cutT s n = s := by rw [cutT_eq, ps_rN (by omega)]; exact cut_all s
def right (s : ByteArray) : Prop := ∀ k, k < rN s → decB (byt s) s.size (ps s k) ≠ (65533, 1)
def okC (r : Nat) : Prop := 32 ≤ r ∧ (r < 127 ∨ 160 ≤ r) ∧ r ≠ 65533
def lbl (s : ByteArray) : Prop := 1 ≤ rN s ∧ rN s ≤ 24 ∧ (∀ k, k < rN s → okC (rc s k)) ∧ rc s 0 ≠ 32 ∧ rc s (rN s - 1) ≠ 32
theorem lbl_right {s : ByteArray} (h : ∀ k, k < rN s → okC (rc s k)) : right s := by
  intro k hk e
  have h1 := (h k hk).2.2
  unfold rc dC at h1
  rw [e] at h1
  exact h1 rfl
noncomputable def lblB (s : ByteArray) : Bool := hide (@decide (lbl s) (Classical.propDecidable _))
theorem lblB_iff {s : ByteArray} : lblB s = true ↔ lbl s := by
  unfold lblB; rw [hide_eq]
  exact ⟨fun h => @of_decide_eq_true _ (Classical.propDecidable _) h, fun h => @decide_eq_true _ (Classical.propDecidable _) h⟩
end Go.W

namespace Go.W
open Go
def fdN (x : Nat) : Nat := if 65 ≤ x ∧ x ≤ 90 then x + 32 else x
def fdU (x : UInt8) : UInt8 := UInt8.ofNat (fdN x.toNat)
theorem fdN_lt {x : Nat} (h : x < 256) : fdN x < 256 := by unfold fdN; split <;> omega
theorem fdU_nat (x : UInt8) : (fdU x).toNat = fdN x.toNat := by
  unfold fdU
  rw [UInt8.toNat_ofNat']
  exact Nat.mod_eq_of_lt (fdN_lt x.toNat_lt)
noncomputable def foT (s : ByteArray) : ByteArray := hide ⟨(s.data.toList.map fdU).toArray⟩
theorem foT_size (s : ByteArray) : (foT s).size = s.size := by
  unfold foT; rw [hide_eq]
  show (List.toArray _).size = s.data.size
  simp
theorem byt_fo (s : ByteArray) (j : Nat) : byt (foT s) j = fdN (byt s j) := by
  unfold foT; rw [hide_eq]
  unfold byt
  show ((List.map fdU s.data.toList).toArray.toList.getD j 0).toNat = _
  rw [List.toList_toArray, List.getD_eq_getElem?_getD, List.getD_eq_getElem?_getD, List.getElem?_map]
  cases h : s.data.toList[j]? with
  | none => rfl
  | some x => exact fdU_nat x
def vld (r : Int) : Prop := 0 ≤ r ∧ r ≤ 1114111 ∧ ¬ (55296 ≤ r ∧ r < 57344)
theorem valid_vld {r : Int} : Utf8.valid r = true ↔ vld r := by
  unfold Utf8.valid vld
  rw [Bool.or_eq_true, Bool.and_eq_true, Bool.and_eq_true, decide_eq_true_eq, decide_eq_true_eq, decide_eq_true_eq, decide_eq_true_eq]
  omega
end Go.W

namespace Go.W
open Go.RowKit (Below)
inductive Arg where
  | pl (v : Value)
  | sl (ks : List CK) (n : Nat) (g : Nat → List Value)
def argId (k : Nat) : Nat := 1500000 + k
section
variable {R : Type}
variable {R' : Type} (h : R → R')
end
section
variable {P : Program} {GL : Glob} {w0 : Wb GL} {R : Nat → Pl → Prop} {fm : Nat → Option Blk} {w : World}
end
section
variable {GL : Glob} {w0 : Wb GL} {R : Nat → Pl → Prop} {fm : Nat → Option Blk} {w : World}
end
section
variable {P : Program} [Laid P] {C : Cfg} {c : Code}
section
variable {T : Tab} {GL : Glob} {w0 : Wb GL} {R R' : Nat → Pl → Prop} {fm : Nat → Option Blk} {w w' : World} {wc : Wb GL} {mC : Nat → Option Blk}
end
end
end Go.W

namespace Go.W
theorem loopE {P : Program} [Laid P] {code : Code} {n : Nat} (C : Nat → Cfg) (N : Nat) (hC : ∀ k, k ≤ N → CfgOk P (C k) code) (hn : ∀ k, (C k).n = n) {p : List Nat} (hp : codeAt p code = some (.loop (loopAt p code))) {m : Nat} {ts : List Nat} {is : Ren} {tx : Nat} {nt et : List Nat} {ni ei : Ren} {nx ex : Nat} (st : Nat → St) {e : Exit} {s0 sf : St} (h0 : s0 = st 0) (he : e ≠ .normal)
    (step : ∀ k, k < N → ∃ s, roundS (C k) m (p ++ [0]) (loopAt p code) nt ni nx et ei ex (st k) = some (.normal, s) ∧ stEq s (st (k + 1)) = true)
    (last : ∃ s, roundS (C N) m (p ++ [0]) (loopAt p code) nt ni nx et ei ex (st N) = some (e, s) ∧ stEq s sf = true) :
    LoopOk P n (loopAt p code) (atSt ts is tx s0 e sf) := by
  refine atSt_ok fun w0 R a w hrel => ?_
  rw [h0] at hrel
  have hx : codeAt (p ++ [0]) code = some (loopAt p code) := by rw [codeAt_app, hp]; rfl
  have key : ∀ j, j ≤ N → ∀ (R : Nat → Pl → Prop) (a : Act) (w : World), Rel w0 n R (st (N - j)).f a w → Code.rounds P (loopAt p code) (fun e' a' w' => e' = e ∧ ∃ R', Rel w0 n R' sf.f a' w') (j + 1) a w := by
    intro j
    induction j with
    | zero =>
      intro _ R a w hr
      rw [rounds_succ]
      obtain ⟨s, h1, h2⟩ := last
      have hs := round_sound (hC N (Nat.le_refl _)) hx h1 (w0 := w0) (R := R) (a := a) (w := w) (by rw [hn]; exact hr)
      rw [hn] at hs
      refine wp_mono hs ?_
      rintro e' a' w' ⟨rfl, R', hr'⟩
      cases e' with
      | normal => exact absurd rfl he
      | _ => exact ⟨rfl, R', hr'.eqv h2⟩
    | succ j ih =>
      intro hj R a w hr
      rw [rounds_succ]
      obtain ⟨s, h1, h2⟩ := step (N - (j + 1)) (by omega)
      have hs := round_sound (hC (N - (j + 1)) (by omega)) hx h1 (w0 := w0) (R := R) (a := a) (w := w) (by rw [hn]; exact hr)
      rw [hn] at hs
      refine wp_mono hs ?_
      rintro e' a' w' ⟨rfl, R', hr'⟩
      refine ih (by omega) R' a' w' ?_
      rw [show N - j = N - (j + 1) + 1 from by omega]
      exact hr'.eqv h2
  exact wp_loop_rounds (N + 1) (key N (Nat.le_refl N) R a w (by rw [Nat.sub_self]; exact hrel))
theorem mNil : memEq [] [] = true := rfl
theorem mRow {a : Nat} {ks : List CK} {n : Nat} {f g : Nat → List Value} {e : TypeId} {o : Bool} {l m : List (Nat × Blk)} (h : ∀ j, j < n → nrmK ks (f j) = nrmK ks (g j)) (h2 : memEq l m = true) : memEq ((a, ⟨.row ks n f, e, o⟩) :: l) ((a, ⟨.row ks n g, e, o⟩) :: m) = true := memEq_cons (cellsEq_rr h) h2
end Go.W

namespace Go.W
section
variable {P0 : Nat} [NeZero P0]
theorem d1 (x y : Fin P0) : (x * x + (x * x + x * x)) * (x * x + (x * x + x * x)) - (x * ((y + y) * (y + y)) + x * ((y + y) * (y + y))) = twX x y := by unfold twX; grind
theorem d2 (x y : Fin P0) : (x * x + (x * x + x * x)) * (x * ((y + y) * (y + y)) - twX x y) - (y + y) * (y + y) * (y + y) * y = twY x y := by unfold twY; generalize twX x y = w; grind
theorem d3 (y z : Fin P0) : (y + y) * z = twZ y z := by unfold twZ; grind
end
section
variable {P0 : Nat} [NeZero P0]
theorem p1 (x2 z x : Fin P0) : x2 * (z * z) - x = plU x2 z - plU x 1 := by unfold plU; grind
theorem p2 (y2 z y : Fin P0) : y2 * (z * (z * z)) - y = plS y2 z - plS y 1 := by unfold plS; grind
theorem p3 (x h r : Fin P0) : r * r - h * (h * h) - (x * (h * h) + x * (h * h)) = plX (plU x 1) h r := by unfold plX plU; grind
end
end Go.W

namespace Go.W
def kB : List CK := [.i .u8]
def bI (f : Nat → List Value) (j : Nat) : Int := toI ((f j).headD (.bool false))
theorem nrm_kB (f : Nat → List Value) (j : Nat) : nrmK kB (f j) = [.int .u8 (bI f j)] := rfl
end Go.W

namespace Go.W
def rotN (X n : Nat) : Nat := (X * 2 ^ (32 - n) % 4294967296) ||| (X / 2 ^ n)
theorem szOk_small {n : Nat} (h : n ≤ 2000000) : szOk n 1 = true := by unfold szOk; rw [Nat.ble_eq]; omega
end Go.W

namespace Go.W
def ad (a b : Nat) : Nat := (a + b) % 4294967296
def ntN (a : Nat) : Nat := 4294967295 ^^^ a
def kL : List Nat := [1116352408, 1899447441, 3049323471, 3921009573, 961987163, 1508970993, 2453635748, 2870763221, 3624381080, 310598401, 607225278, 1426881987, 1925078388, 2162078206, 2614888103, 3248222580, 3835390401, 4022224774, 264347078, 604807628, 770255983, 1249150122, 1555081692, 1996064986, 2554220882, 2821834349, 2952996808, 3210313671, 3336571891, 3584528711, 113926993, 338241895, 666307205, 773529912, 1294757372, 1396182291, 1695183700, 1986661051, 2177026350, 2456956037, 2730485921, 2820302411, 3259730800, 3345764771, 3516065817, 3600352804, 4094571909, 275423344, 430227734, 506948616, 659060556, 883997877, 958139571, 1322822218, 1537002063, 1747873779, 1955562222, 2024104815, 2227730452, 2361852424, 2428436474, 2756734187, 3204031479, 3329325298]
def kN (t : Nat) : Nat := kL.getD t 0
def s0N (x : Nat) : Nat := rotN x 7 ^^^ rotN x 18 ^^^ (x / 2 ^ 3)
def s1N (x : Nat) : Nat := rotN x 17 ^^^ rotN x 19 ^^^ (x / 2 ^ 10)
def S0N (x : Nat) : Nat := rotN x 2 ^^^ rotN x 13 ^^^ rotN x 22
def S1N (x : Nat) : Nat := rotN x 6 ^^^ rotN x 11 ^^^ rotN x 25
def chN (e f g : Nat) : Nat := (e &&& f) ^^^ (ntN e &&& g)
def maN (a b c : Nat) : Nat := (a &&& b) ^^^ (a &&& c) ^^^ (b &&& c)
def wdN (a b c d : Nat) : Nat := ((a * 2 ^ 24 % 4294967296) ||| (b * 2 ^ 16 % 4294967296) ||| (c * 2 ^ 8 % 4294967296)) ||| d
def nxN (w16 w15 w7 w2 : Nat) : Nat := ad (ad (ad (s1N w2) w7) (s0N w15)) w16
def wNew (B : Nat → Nat) (t : Nat) (l : List Nat) : Nat := bif Nat.blt t 16 then wdN (B (4 * t)) (B (4 * t + 1)) (B (4 * t + 2)) (B (4 * t + 3)) else nxN (l.getD 15 0) (l.getD 14 0) (l.getD 6 0) (l.getD 1 0)
def wL (B : Nat → Nat) : Nat → List Nat
  | 0 => []
  | t + 1 => wNew B t (wL B t) :: wL B t
def wT (B : Nat → Nat) (t : Nat) : Nat := wNew B t (wL B t)
structure S8 where
  a : Nat
  b : Nat
  c : Nat
  d : Nat
  e : Nat
  f : Nat
  g : Nat
  h : Nat
def S8.ok (s : S8) : Prop := s.a < 4294967296 ∧ s.b < 4294967296 ∧ s.c < 4294967296 ∧ s.d < 4294967296 ∧ s.e < 4294967296 ∧ s.f < 4294967296 ∧ s.g < 4294967296 ∧ s.h < 4294967296
def t1N (s : S8) (k w : Nat) : Nat := ad (ad (ad (ad s.h (S1N s.e)) (chN s.e s.f s.g)) k) w
def t2N (s : S8) : Nat := ad (S0N s.a) (maN s.a s.b s.c)
def rnd (k w : Nat) (s : S8) : S8 := ⟨ad (t1N s k w) (t2N s), s.a, s.b, s.c, ad s.d (t1N s k w), s.e, s.f, s.g⟩
def rnds (W : Nat → Nat) (s : S8) : Nat → S8
  | 0 => s
  | t + 1 => rnd (kN t) (W t) (rnds W s t)
def adS (s v : S8) : S8 := ⟨ad s.a v.a, ad s.b v.b, ad s.c v.c, ad s.d v.d, ad s.e v.e, ad s.f v.f, ad s.g v.g, ad s.h v.h⟩
theorem mix_ex (s : S8) (B : Nat → Nat) : ∃ x, x = adS s (rnds (wT B) s 64) := ⟨_, rfl⟩
noncomputable def mixN (s : S8) (B : Nat → Nat) : S8 := Classical.choose (mix_ex s B)
noncomputable def hs (s : S8) (B : Nat → Nat) : Nat → S8
  | 0 => s
  | k + 1 => mixN (hs s B k) (fun j => B (64 * k + j))
def S8.at (s : S8) : Nat → Nat
  | 0 => s.a
  | 1 => s.b
  | 2 => s.c
  | 3 => s.d
  | 4 => s.e
  | 5 => s.f
  | 6 => s.g
  | _ => s.h
def h0 : S8 := ⟨1779033703, 3144134277, 1013904242, 2773480762, 1359893119, 2600822924, 528734635, 1541459225⟩
end Go.W

namespace Go.W
def z8 : Value := .int .u8 0
end Go.W

namespace Go.W
def S8.beq (s t : S8) : Bool := Nat.beq s.a t.a && Nat.beq s.b t.b && Nat.beq s.c t.c && Nat.beq s.d t.d && Nat.beq s.e t.e && Nat.beq s.f t.f && Nat.beq s.g t.g && Nat.beq s.h t.h
def sgF (n : Nat) (f : Nat → List Value) : Nat → List Value := segF ⟨0, 0, n, kB, n, f, 0, false, []⟩
theorem bI_sg (n : Nat) (f : Nat → List Value) (j : Nat) : bI (sgF n f) j = bI f j := by show bI f (0 + j) = bI f j; rw [Nat.zero_add]
end Go.W

namespace Go.W
open Go.RowKit (Below)
section
variable {P : Program} [Laid P]
end
def RowW (w : World) (e : TypeId) (ks : List CK) (m : Nat) (f : Nat → List Value) (v : Value) : Prop :=
  (m = 0 ∧ Emp v) ∨ ∃ b d c cs fz, v = .slice (some ⟨b, d, none⟩) m c ∧ m ≤ c ∧ w.heap[b]? = some (.cells cs e fz) ∧ (cs.toList.drop d).take (m * ks.length) = rowL ks f 0 m
section
variable {GL : Glob} {w0 : Wb GL} {R : Nat → Pl → Prop} {fm : Nat → Option Blk} {w : World}
end
inductive ArgF where
  | pl (v : Value)
  | sl (ks : List CK) (n : Nat) (g : Nat → List Value)
  | fm (ks : List CK) (n : Nat) (g : Nat → Nat × (Nat → List Value))
def RcF (w : World) (pl : Nat → Option Pl) (N : Nat) (i : Nat) (p : Pl) : Prop :=
  (∃ j, j < N ∧ i = argId j ∧ pl j = some p) ∨ (∃ b, (∃ cs e fz, w.heap[b]? = some (.cells cs e fz)) ∧ i = 1000000000 + b ∧ p = ⟨some b, 0, 0⟩)
theorem RowW.at {w : World} {e : TypeId} {ks : List CK} {m : Nat} {f : Nat → List Value} {v : Value} (h : RowW w e ks m f v) (pl : Nat → Option Pl) (N : Nat) : RowAt (RcF w pl N) w e ks m f v := by
  rcases h with h | ⟨b, d, c, cs, fz, h1, h2, h3, h4⟩
  · exact .inl h
  · exact .inr ⟨b, d, c, cs, fz, h1, h2, .inr ⟨b, ⟨cs, e, fz, h3⟩, rfl, rfl⟩, h3, h4⟩
section
variable {GL : Glob} {w0 : Wb GL} {R : Nat → Pl → Prop} {fm : Nat → Option Blk} {w : World}
end
section
variable {P : Program} [Laid P]
end
end Go.W

namespace Go.W
theorem bL {a b : Nat} (h : a < b) : Nat.blt a b = true := by rw [Nat.blt_eq]; exact h
theorem bE {a b : Nat} (h : a ≤ b) : Nat.ble a b = true := by rw [Nat.ble_eq]; exact h
end Go.W

namespace Go.W
theorem nrm_take : ∀ (ks : List CK) (l : List Value), nrmK ks (l.take ks.length) = nrmK ks l
  | [], _ => rfl
  | _ :: _, [] => by rw [List.take_nil]
  | k :: ks, a :: l => by
    show nrm1 k a :: nrmK ks (l.take ks.length) = nrm1 k a :: nrmK ks l
    rw [nrm_take ks l]
theorem lst0_row {ks : List CK} {L : List Value} (off : Nat) : nrmK ks (lstF L off ks.length 0) = nrmK ks (L.drop off) := by
  show nrmK ks ((L.drop (off + 0 * ks.length)).take ks.length) = _
  rw [Nat.zero_mul, Nat.add_zero, nrm_take]
theorem app_row {ks : List CK} {g h : Nat → List Value} {m : Nat} {L : List Value} (hg : ∀ j, j < m → nrmK ks (g j) = nrmK ks (h j)) (hL : nrmK ks L = nrmK ks (h m)) : ∀ j, j < m + 1 → nrmK ks (appF m g (lstF L 0 ks.length) j) = nrmK ks (h j) := by
  intro j hj
  unfold appF
  by_cases h1 : j < m
  · rw [bL h1, cond_true]; exact hg j h1
  · have : j = m := by omega
    subst this
    rw [show Nat.blt j j = false from by rw [Bool.eq_false_iff, ne_eq, Nat.blt_eq]; omega, cond_false, Nat.sub_self, lst0_row, List.drop_zero, hL]
end Go.W

namespace Go.W
open Go.RowKit (Below)
section
variable {GL : Glob} {w0 : Wb GL} {R : Nat → Pl → Prop} {fm : Nat → Option Blk} {w : World}
theorem MRel.nilRow (h : MRel w0 R fm w) {i : Nat} (hi : fm i = none) (hsm : i < 1000000) (ks : List CK) (f : Nat → List Value) (e : TypeId) :
    MRel w0 (fun j p => R j p ∨ (j = i ∧ p = ⟨none, 0, 0⟩)) (upd fm i ⟨.row ks 0 f, e, true⟩) w :=
  h.view hi hsm (.inr (.inl rfl)) (fun _ h => by simp at h) fun _ _ hp => ⟨_, hp, rfl⟩
end
section
variable {P : Program} [Laid P]
end
end Go.W

namespace Go.W
def pkOk (n s : Int) : Prop := 1 ≤ s ∧ s ≤ 7 ∧ 0 ≤ n ∧ n < 2 ^ (8 * s.toNat)
instance (n s : Int) : Decidable (pkOk n s) := by unfold pkOk; infer_instance
end Go.W

namespace Go.W
def apB {α : Type} (L : Nat) (x : Option α) : Option α := req (szOk (L + 1) 1) (req (Nat.beq L L && true && true) x)
theorem apB_eq {α : Type} {L : Nat} (h : L ≤ 1000000) (x : Option α) : apB L x = x := by
  unfold apB
  rw [szOk_small (by omega), req_true rfl, Nat.beq_refl, req_true (b := true && true && true) rfl]
theorem iOr_i {a b : Nat} (ha : a < 9223372036854775808) (hb : b < 9223372036854775808) : iOr .i64 (a : Int) (b : Int) = ((a ||| b : Nat) : Int) := by
  have e : (BitVec.ofInt IntKind.i64.bits (a : Int) ||| BitVec.ofInt IntKind.i64.bits (b : Int)).toNat = a ||| b := by
    show (BitVec.ofInt 64 (a : Int) ||| BitVec.ofInt 64 (b : Int)).toNat = a ||| b
    rw [BitVec.toNat_or, BitVec.ofInt_natCast, BitVec.ofInt_natCast, BitVec.toNat_ofNat, BitVec.toNat_ofNat, Nat.mod_eq_of_lt (by omega), Nat.mod_eq_of_lt (by omega)]
  have h : a ||| b < 2 ^ 63 := Nat.or_lt_two_pow (by omega) (by omega)
  unfold iOr
  rw [e, wrap_i64 (by omega)]
def kb3 (k : Nat) : Bool := true && Nat.ble k k && true
theorem kb3_true (k : Nat) : kb3 k = true := by unfold kb3; rw [bE (Nat.le_refl _)]; rfl
end Go.W

namespace Go.W
open Go
def bq (s : ByteArray) (i : Int) : Int := ((s.data.toList.getD i.toNat 0).toNat : Int)
theorem bq_byt (s : ByteArray) (k : Nat) : bq s (k : Int) = (byt s k : Int) := rfl
def zz2 : Option Value := some (.tuple #[i64 0, i64 0])
def r1fin (least r n : Int) : Option Value :=
  bif decide (r < least) then zz2 else bif decide (r ≥ 55296) then (bif decide (r < 57344) then zz2 else bif decide (r > 1114111) then zz2 else some (.tuple #[i64 r, i64 n])) else bif decide (r > 1114111) then zz2 else some (.tuple #[i64 r, i64 n])
def r1cn (s : ByteArray) (i : Int) (x : Option Value) : Option Value := req (inR i s.size) (bif iAnd .u8 (bq s i) 192 != 128 then zz2 else req (inR i s.size) x)
def r1nx (s : ByteArray) (r i : Int) : Int := iOr .i64 (iShl .i64 r 6) (IntKind.i64.wrap (iAnd .u8 (bq s i) 63))
def r1c (s : ByteArray) : Int := IntKind.i64.wrap (bq s 0)
def r1T2 (s : ByteArray) : Option Value := bif decide ((s.size : Int) < 2) then zz2 else r1cn s 1 (r1fin 128 (r1nx s (iAnd .i64 (r1c s) 31) 1) 2)
def r1T3 (s : ByteArray) : Option Value := bif decide ((s.size : Int) < 3) then zz2 else r1cn s 1 (r1cn s 2 (r1fin 2048 (r1nx s (r1nx s (iAnd .i64 (r1c s) 15) 1) 2) 3))
def r1T4 (s : ByteArray) : Option Value := bif decide ((s.size : Int) < 4) then zz2 else r1cn s 1 (r1cn s 2 (r1cn s 3 (r1fin 65536 (r1nx s (r1nx s (r1nx s (iAnd .i64 (r1c s) 7) 1) 2) 3) 4)))
def r1Y (s : ByteArray) : Option Value := bif decide (r1c s ≥ 240) then (bif decide (r1c s < 248) then r1T4 s else zz2) else zz2
def r1X (s : ByteArray) : Option Value := bif decide (r1c s ≥ 224) then (bif decide (r1c s < 240) then r1T3 s else r1Y s) else r1Y s
def r1T (s : ByteArray) : Option Value := req (inR 0 s.size) (bif decide (r1c s < 128) then some (.tuple #[i64 (r1c s), i64 1]) else bif decide (r1c s ≥ 192) then (bif decide (r1c s < 224) then r1T2 s else r1X s) else r1X s)
theorem iAnd_i {a b : Nat} (ha : a < 9223372036854775808) (hb : b < 9223372036854775808) : iAnd .i64 (a : Int) (b : Int) = ((a &&& b : Nat) : Int) := by
  have e : (BitVec.ofInt IntKind.i64.bits (a : Int) &&& BitVec.ofInt IntKind.i64.bits (b : Int)).toNat = a &&& b := by
    show (BitVec.ofInt 64 (a : Int) &&& BitVec.ofInt 64 (b : Int)).toNat = a &&& b
    rw [BitVec.toNat_and, BitVec.ofInt_natCast, BitVec.ofInt_natCast, BitVec.toNat_ofNat, BitVec.toNat_ofNat, Nat.mod_eq_of_lt (by omega), Nat.mod_eq_of_lt (by omega)]
  have h : a &&& b ≤ a := Nat.and_le_left
  unfold iAnd
  rw [e, wrap_i64 (by omega)]
theorem iAnd_b8 {a b : Nat} (ha : a < 256) (hb : b < 256) : iAnd .u8 (a : Int) (b : Int) = ((a &&& b : Nat) : Int) := by
  have e : (BitVec.ofInt IntKind.u8.bits (a : Int) &&& BitVec.ofInt IntKind.u8.bits (b : Int)).toNat = a &&& b := by
    show (BitVec.ofInt 8 (a : Int) &&& BitVec.ofInt 8 (b : Int)).toNat = a &&& b
    rw [BitVec.toNat_and, BitVec.ofInt_natCast, BitVec.ofInt_natCast, BitVec.toNat_ofNat, BitVec.toNat_ofNat, Nat.mod_eq_of_lt (by omega), Nat.mod_eq_of_lt (by omega)]
  have h : a &&& b ≤ a := Nat.and_le_left
  unfold iAnd
  rw [e, wrap_u8]; omega
theorem and192 : ∀ x, x < 256 → x &&& 192 = x / 64 * 64 := by decide +kernel
theorem cont_and {x : Nat} (h : x < 256) : (iAnd .u8 (x : Int) 192 != 128) = !(x / 64 == 2) := by
  rw [show (192 : Int) = ((192 : Nat) : Int) from rfl, iAnd_b8 h (by omega), and192 x h]
  have : x / 64 < 4 := by omega
  generalize x / 64 = y at *
  match y, this with
  | 0, _ => rfl
  | 1, _ => rfl
  | 2, _ => rfl
  | 3, _ => rfl
theorem or_six {a c : Nat} (hc : c < 64) : a * 64 ||| c = a * 64 + c := by
  have h := Nat.shiftLeft_add_eq_or_of_lt (i := 6) (b := c) (by omega) a
  rw [Nat.shiftLeft_eq] at h
  exact h.symm
theorem nx_six {x c : Nat} (hx : x < 281474976710656) (hc : c < 256) : iOr .i64 (iShl .i64 (x : Int) 6) (IntKind.i64.wrap (iAnd .u8 (c : Int) 63)) = ((x * 64 + c % 64 : Nat) : Int) := by
  have e : iShl .i64 (x : Int) 6 = ((x * 64 : Nat) : Int) := by
    unfold iShl
    show IntKind.i64.wrap ((x : Int) * 2 ^ 6) = _
    rw [wrap_i64 (by omega)]; omega
  have e2 : c &&& 63 = c % 64 := Nat.and_two_pow_sub_one_eq_mod c 6
  rw [e, show (63 : Int) = ((63 : Nat) : Int) from rfl, iAnd_b8 hc (by omega), e2, wrap_i64 (by omega), iOr_i (by omega) (by omega), or_six (by omega)]
theorem r1nx_eq (s : ByteArray) {x : Nat} (hx : x < 281474976710656) (k : Nat) : r1nx s (x : Int) (k : Int) = ((x * 64 + byt s k % 64 : Nat) : Int) := by
  unfold r1nx; rw [bq_byt, nx_six hx (byt_lt s k)]
theorem r1cn_eq (s : ByteArray) {k : Nat} (hk : k < s.size) (x : Option Value) : r1cn s (k : Int) x = if byt s k / 64 = 2 then x else zz2 := by
  have hin : inR (k : Int) s.size = true := by unfold inR; rw [decide_eq_true (by omega), decide_eq_true (by omega)]; rfl
  unfold r1cn
  rw [hin, req_true rfl, req_true rfl, bq_byt, cont_and (byt_lt s k)]
  by_cases h : byt s k / 64 = 2
  · rw [if_pos h, h]; rfl
  · rw [if_neg h, show (byt s k / 64 == 2) = false from beq_eq_false_iff_ne.2 h]; rfl
theorem r1c_eq (s : ByteArray) : r1c s = (byt s 0 : Int) := by
  have := byt_lt s 0
  show IntKind.i64.wrap (bq s ((0 : Nat) : Int)) = _
  rw [bq_byt, wrap_i64 (by omega)]
instance (r : Int) : Decidable (vld r) := by unfold vld; infer_instance
theorem r1fin_eq {least r n : Nat} : r1fin (least : Int) (r : Int) (n : Int) = if least ≤ r ∧ vld (r : Int) then some (.tuple #[i64 (r : Int), i64 (n : Int)]) else zz2 := by
  unfold r1fin vld
  by_cases h1 : r < least
  · rw [decide_eq_true (by omega), if_neg (by omega)]; rfl
  rw [decide_eq_false (by omega), cond_false]
  by_cases h2 : 55296 ≤ r
  · rw [decide_eq_true (by omega), cond_true]
    by_cases h3 : r < 57344
    · rw [decide_eq_true (by omega), if_neg (by omega)]; rfl
    · rw [decide_eq_false (by omega), cond_false]
      by_cases h4 : r > 1114111
      · rw [decide_eq_true (by omega), if_neg (by omega)]; rfl
      · rw [decide_eq_false (by omega), if_pos (by omega)]; rfl
  · rw [decide_eq_false (by omega), cond_false]
    by_cases h4 : r > 1114111
    · rw [decide_eq_true (by omega), if_neg (by omega)]; rfl
    · rw [decide_eq_false (by omega), if_pos (by omega)]; rfl
noncomputable def r1R (s : ByteArray) : Int := hide (if decB (byt s) s.size 0 = (65533, 1) then 0 else (dC s 0 : Int))
noncomputable def r1W (s : ByteArray) : Int := hide (if decB (byt s) s.size 0 = (65533, 1) then 0 else (dW s 0 : Int))
noncomputable def R1F : List Value → Option (Bool × Value)
  | [.string s] => some (Nat.blt 0 s.size && Nat.ble s.size 1000000, .tuple #[i64 (r1R s), i64 (r1W s)])
  | _ => none
theorem r1_none {s : ByteArray} (hs : 0 < s.size) (h : ∀ r w, w ≤ s.size → ¬ runeAt (byt s) 0 r w) : zz2 = some (.tuple #[i64 (r1R s), i64 (r1W s)]) := by
  have e : decB (byt s) s.size 0 = (65533, 1) := by
    rcases decB_cases (b := byt s) hs with ⟨h1, _⟩ | ⟨r, w, _, h1, h2⟩
    · exact h1
    · exact absurd h1 (h r w (by omega))
  unfold r1R r1W
  rw [hide_eq, hide_eq, if_pos e, if_pos e]; rfl
theorem r1_some {s : ByteArray} {r w : Nat} (h : runeAt (byt s) 0 r w) (hw : w ≤ s.size) : some (.tuple #[i64 (r : Int), i64 (w : Int)]) = some (Value.tuple #[i64 (r1R s), i64 (r1W s)]) := by
  have e := decB_rune h (n := s.size) (by omega)
  have hne : decB (byt s) s.size 0 ≠ (65533, 1) := by
    rw [e]; intro e2
    simp only [Prod.mk.injEq] at e2
    obtain ⟨rfl, rfl⟩ := e2
    rcases h with ⟨_, h1, h2⟩ | ⟨h1, _⟩ | ⟨h1, _⟩ | ⟨h1, _⟩ <;> omega
  unfold r1R r1W dC dW
  rw [hide_eq, hide_eq, if_neg hne, if_neg hne, e]
theorem r1T_eq {s : ByteArray} (hs : 0 < s.size) : r1T s = some (.tuple #[i64 (r1R s), i64 (r1W s)]) := by
  have hb0 := byt_lt s 0
  have hin : inR 0 s.size = true := by unfold inR; rw [decide_eq_true (by omega), decide_eq_true (by omega)]; rfl
  have e31 : ∀ n : Nat, ∀ k, (n = 2 ^ k - 1) → n < 256 → iAnd .i64 (byt s 0 : Int) (n : Int) = ((byt s 0 % 2 ^ k : Nat) : Int) := by
    intro n k e hn
    rw [iAnd_i (by omega) (by omega), e, Nat.and_two_pow_sub_one_eq_mod]
  unfold r1T
  rw [hin, req_true rfl, r1c_eq]
  by_cases c1 : byt s 0 < 128
  · rw [decide_eq_true (by omega), cond_true]
    exact r1_some (.inl ⟨rfl, c1, rfl⟩) hs
  rw [decide_eq_false (by omega), cond_false]
  have hX : 192 ≤ byt s 0 ∧ byt s 0 < 224 ∨ ¬ (192 ≤ byt s 0 ∧ byt s 0 < 224) := Decidable.em _
  rcases hX with c2 | c2
  · rw [decide_eq_true (by omega), decide_eq_true (by omega), cond_true, cond_true]
    unfold r1T2
    by_cases h2 : s.size < 2
    · rw [decide_eq_true (by omega), cond_true]
      refine r1_none hs fun r w hw h => ?_
      simp only [runeAt, Nat.zero_add] at h
      rcases h with ⟨rfl, h1, _⟩ | ⟨rfl, h1, _⟩ | ⟨rfl, h1, _⟩ | ⟨rfl, h1, _⟩ <;> omega
    rw [decide_eq_false (by omega), cond_false, r1c_eq, show iAnd .i64 (byt s 0 : Int) 31 = _ from e31 31 5 rfl (by omega)]
    show r1cn s ((1 : Nat) : Int) (r1fin ((128 : Nat) : Int) (r1nx s _ ((1 : Nat) : Int)) ((2 : Nat) : Int)) = _
    rw [r1cn_eq s (by omega), r1nx_eq s (by omega), r1fin_eq]
    have hb1 := byt_lt s 1
    by_cases k1 : byt s 1 / 64 = 2
    · rw [if_pos k1]
      by_cases k2 : 128 ≤ byt s 0 % 2 ^ 5 * 64 + byt s 1 % 64
      · rw [if_pos ⟨k2, by unfold vld; omega⟩]
        exact r1_some (.inr (.inl ⟨rfl, by omega, k1, rfl, k2⟩)) (by omega)
      · rw [if_neg (fun h => k2 h.1)]
        refine r1_none hs fun r w hw h => ?_
        simp only [runeAt, Nat.zero_add] at h
        rcases h with ⟨rfl, h1, _⟩ | ⟨rfl, h1, _, h3, h4⟩ | ⟨rfl, h1, _⟩ | ⟨rfl, h1, _⟩ <;> omega
    · rw [if_neg k1]
      refine r1_none hs fun r w hw h => ?_
      simp only [runeAt, Nat.zero_add] at h
      rcases h with ⟨rfl, h1, _⟩ | ⟨rfl, h1, h2, _⟩ | ⟨rfl, h1, _⟩ | ⟨rfl, h1, _⟩ <;> omega
  have eX : (bif decide ((byt s 0 : Int) ≥ 192) then (bif decide ((byt s 0 : Int) < 224) then r1T2 s else r1X s) else r1X s) = r1X s := by
    by_cases h : byt s 0 < 192
    · rw [decide_eq_false (by omega), cond_false]
    · rw [decide_eq_true (by omega), decide_eq_false (by omega)]; rfl
  rw [eX]
  unfold r1X
  rw [r1c_eq]
  have hY : 224 ≤ byt s 0 ∧ byt s 0 < 240 ∨ ¬ (224 ≤ byt s 0 ∧ byt s 0 < 240) := Decidable.em _
  rcases hY with c3 | c3
  · rw [decide_eq_true (by omega), decide_eq_true (by omega), cond_true, cond_true]
    unfold r1T3
    by_cases h2 : s.size < 3
    · rw [decide_eq_true (by omega), cond_true]
      refine r1_none hs fun r w hw h => ?_
      simp only [runeAt, Nat.zero_add] at h
      rcases h with ⟨rfl, h1, _⟩ | ⟨rfl, h1, _⟩ | ⟨rfl, h1, _⟩ | ⟨rfl, h1, _⟩ <;> omega
    rw [decide_eq_false (by omega), cond_false, r1c_eq, show iAnd .i64 (byt s 0 : Int) 15 = _ from e31 15 4 rfl (by omega)]
    show r1cn s ((1 : Nat) : Int) (r1cn s ((2 : Nat) : Int) (r1fin ((2048 : Nat) : Int) (r1nx s (r1nx s _ ((1 : Nat) : Int)) ((2 : Nat) : Int)) ((3 : Nat) : Int))) = _
    rw [r1cn_eq s (by omega), r1cn_eq s (by omega), r1nx_eq s (by omega), r1nx_eq s (by omega), r1fin_eq]
    have hb1 := byt_lt s 1
    have hb2 := byt_lt s 2
    by_cases k1 : byt s 1 / 64 = 2
    · rw [if_pos k1]
      by_cases k2 : byt s 2 / 64 = 2
      · rw [if_pos k2]
        have er : (byt s 0 % 2 ^ 4 * 64 + byt s 1 % 64) * 64 + byt s 2 % 64 = byt s 0 % 16 * 4096 + byt s 1 % 64 * 64 + byt s 2 % 64 := by omega
        rw [er]
        by_cases k3 : 2048 ≤ byt s 0 % 16 * 4096 + byt s 1 % 64 * 64 + byt s 2 % 64 ∧ vld ((byt s 0 % 16 * 4096 + byt s 1 % 64 * 64 + byt s 2 % 64 : Nat) : Int)
        · rw [if_pos k3]
          exact r1_some (.inr (.inr (.inl ⟨rfl, by omega, k1, k2, rfl, k3.1, valid_vld.2 k3.2⟩))) (by omega)
        · rw [if_neg k3]
          refine r1_none hs fun r w hw h => ?_
          simp only [runeAt, Nat.zero_add] at h
          rcases h with ⟨rfl, h1, _⟩ | ⟨rfl, h1, _⟩ | ⟨rfl, h1, _, _, h3, h4, h5⟩ | ⟨rfl, h1, _⟩
          · omega
          · omega
          · exact k3 (by rw [← h3]; exact ⟨h4, valid_vld.1 h5⟩)
          · omega
      · rw [if_neg k2]
        refine r1_none hs fun r w hw h => ?_
        simp only [runeAt, Nat.zero_add] at h
        rcases h with ⟨rfl, h1, _⟩ | ⟨rfl, h1, h2, _⟩ | ⟨rfl, h1, _, h3, _⟩ | ⟨rfl, h1, _⟩ <;> omega
    · rw [if_neg k1]
      refine r1_none hs fun r w hw h => ?_
      simp only [runeAt, Nat.zero_add] at h
      rcases h with ⟨rfl, h1, _⟩ | ⟨rfl, h1, h2, _⟩ | ⟨rfl, h1, h3, _⟩ | ⟨rfl, h1, _⟩ <;> omega
  have eY : (bif decide ((byt s 0 : Int) ≥ 224) then (bif decide ((byt s 0 : Int) < 240) then r1T3 s else r1Y s) else r1Y s) = r1Y s := by
    by_cases h : byt s 0 < 224
    · rw [decide_eq_false (by omega), cond_false]
    · rw [decide_eq_true (by omega), decide_eq_false (by omega)]; rfl
  rw [eY]
  unfold r1Y
  rw [r1c_eq]
  have hZ : 240 ≤ byt s 0 ∧ byt s 0 < 248 ∨ ¬ (240 ≤ byt s 0 ∧ byt s 0 < 248) := Decidable.em _
  rcases hZ with c4 | c4
  · rw [decide_eq_true (by omega), decide_eq_true (by omega), cond_true, cond_true]
    unfold r1T4
    by_cases h2 : s.size < 4
    · rw [decide_eq_true (by omega), cond_true]
      refine r1_none hs fun r w hw h => ?_
      simp only [runeAt, Nat.zero_add] at h
      rcases h with ⟨rfl, h1, _⟩ | ⟨rfl, h1, _⟩ | ⟨rfl, h1, _⟩ | ⟨rfl, h1, _⟩ <;> omega
    rw [decide_eq_false (by omega), cond_false, r1c_eq, show iAnd .i64 (byt s 0 : Int) 7 = _ from e31 7 3 rfl (by omega)]
    show r1cn s ((1 : Nat) : Int) (r1cn s ((2 : Nat) : Int) (r1cn s ((3 : Nat) : Int) (r1fin ((65536 : Nat) : Int) (r1nx s (r1nx s (r1nx s _ ((1 : Nat) : Int)) ((2 : Nat) : Int)) ((3 : Nat) : Int)) ((4 : Nat) : Int)))) = _
    rw [r1cn_eq s (by omega), r1cn_eq s (by omega), r1cn_eq s (by omega), r1nx_eq s (by omega), r1nx_eq s (by omega), r1nx_eq s (by omega), r1fin_eq]
    have hb1 := byt_lt s 1
    have hb2 := byt_lt s 2
    have hb3 := byt_lt s 3
    by_cases k1 : byt s 1 / 64 = 2
    · rw [if_pos k1]
      by_cases k2 : byt s 2 / 64 = 2
      · rw [if_pos k2]
        by_cases k4 : byt s 3 / 64 = 2
        · rw [if_pos k4]
          have er : ((byt s 0 % 2 ^ 3 * 64 + byt s 1 % 64) * 64 + byt s 2 % 64) * 64 + byt s 3 % 64 = byt s 0 % 8 * 262144 + byt s 1 % 64 * 4096 + byt s 2 % 64 * 64 + byt s 3 % 64 := by omega
          rw [er]
          by_cases k3 : 65536 ≤ byt s 0 % 8 * 262144 + byt s 1 % 64 * 4096 + byt s 2 % 64 * 64 + byt s 3 % 64 ∧ vld ((byt s 0 % 8 * 262144 + byt s 1 % 64 * 4096 + byt s 2 % 64 * 64 + byt s 3 % 64 : Nat) : Int)
          · rw [if_pos k3]
            exact r1_some (.inr (.inr (.inr ⟨rfl, by omega, k1, k2, k4, rfl, k3.1, valid_vld.2 k3.2⟩))) (by omega)
          · rw [if_neg k3]
            refine r1_none hs fun r w hw h => ?_
            simp only [runeAt, Nat.zero_add] at h
            rcases h with ⟨rfl, h1, _⟩ | ⟨rfl, h1, _⟩ | ⟨rfl, h1, _⟩ | ⟨rfl, h1, _, _, _, h3, h4, h5⟩
            · omega
            · omega
            · omega
            · exact k3 (by rw [← h3]; exact ⟨h4, valid_vld.1 h5⟩)
        · rw [if_neg k4]
          refine r1_none hs fun r w hw h => ?_
          simp only [runeAt, Nat.zero_add] at h
          rcases h with ⟨rfl, h1, _⟩ | ⟨rfl, h1, h2, _⟩ | ⟨rfl, h1, _⟩ | ⟨rfl, h1, _, _, h3, _⟩ <;> omega
      · rw [if_neg k2]
        refine r1_none hs fun r w hw h => ?_
        simp only [runeAt, Nat.zero_add] at h
        rcases h with ⟨rfl, h1, _⟩ | ⟨rfl, h1, h2, _⟩ | ⟨rfl, h1, _⟩ | ⟨rfl, h1, _, h3, _⟩ <;> omega
    · rw [if_neg k1]
      refine r1_none hs fun r w hw h => ?_
      simp only [runeAt, Nat.zero_add] at h
      rcases h with ⟨rfl, h1, _⟩ | ⟨rfl, h1, h2, _⟩ | ⟨rfl, h1, h3, _⟩ | ⟨rfl, h1, h3, _⟩ <;> omega
  have eZ : (bif decide ((byt s 0 : Int) ≥ 240) then (bif decide ((byt s 0 : Int) < 248) then r1T4 s else zz2) else zz2) = zz2 := by
    by_cases h : byt s 0 < 240
    · rw [decide_eq_false (by omega), cond_false]
    · rw [decide_eq_true (by omega), decide_eq_false (by omega)]; rfl
  rw [eZ]
  refine r1_none hs fun r w hw h => ?_
  simp only [runeAt, Nat.zero_add] at h
  rcases h with ⟨rfl, h1, _⟩ | ⟨rfl, h1, h2, _⟩ | ⟨rfl, h1, h3, _⟩ | ⟨rfl, h1, h3, _⟩ <;> omega
end Go.W

namespace Go.W
def mapSlot (t : Nat) (v : Value) (l : List (Nat × Value)) : List (Nat × Value) := l.map fun p => bif Nat.beq p.1 t then (p.1, v) else p
theorem look_mapSlot {t : Nat} {v : Value} : ∀ {l : List (Nat × Value)} {x : Nat} {u : Value}, look (mapSlot t v l) x = some u → (x = t ∧ u = v ∧ (look l t).isSome = true) ∨ (x ≠ t ∧ look l x = some u)
  | [], x, u, h => by simp [mapSlot, look] at h
  | (y, w) :: l, x, u, h => by
    have h : look ((bif Nat.beq y t then (y, v) else (y, w)) :: mapSlot t v l) x = some u := h
    by_cases hy : y = t
    · subst hy
      rw [nbeq.2 rfl, cond_true, look_cons] at h
      by_cases hx : y = x
      · subst hx
        rw [upd_same] at h
        cases h
        exact .inl ⟨rfl, rfl, by rw [look_cons, upd_same]; rfl⟩
      · rw [upd_ne _ _ hx] at h
        rcases look_mapSlot h with ⟨h1, _, _⟩ | ⟨h1, h2⟩
        · exact absurd h1.symm hx
        · exact .inr ⟨h1, by rw [look_cons, upd_ne _ _ hx]; exact h2⟩
    · rw [show Nat.beq y t = false from by rw [Bool.eq_false_iff, ne_eq, nbeq]; exact hy, cond_false, look_cons] at h
      by_cases hx : y = x
      · subst hx
        rw [upd_same] at h
        cases h
        exact .inr ⟨hy, by rw [look_cons, upd_same]⟩
      · rw [upd_ne _ _ hx] at h
        rcases look_mapSlot h with ⟨h1, h2, h3⟩ | ⟨h1, h2⟩
        · exact .inl ⟨h1, h2, by rw [look_cons, upd_ne _ _ hy]; exact h3⟩
        · exact .inr ⟨h1, by rw [look_cons, upd_ne _ _ hx]; exact h2⟩
section
variable {GL : Glob} {w0 : Wb GL} {n : Nat} {R : Nat → Pl → Prop} {a : Act} {w : World}
theorem Rel.nilSlot {s : St} (h : Rel w0 n R s.f a w) {t B : Nat} (ht : look s.slots t = some (.slice none 0 0)) (hB : look s.mem B = none) (hlo : loose B = true) (hsm : B < 1000000) (ks : List CK) (f : Nat → List Value) (e : TypeId) (nx : Nat) :
    ∃ R', Rel w0 n R' (St.f ⟨mapSlot t (.slice (some ⟨B, 0, none⟩) 0 0) s.slots, (B, ⟨.row ks 0 f, e, true⟩) :: s.mem, nx⟩) a w := by
  refine ⟨_, h.defers, h.size, ?_, MRel.nilRow h.m hB hsm ks f e⟩
  intro x u hx
  rcases look_mapSlot hx with ⟨rfl, rfl, _⟩ | ⟨_, h2⟩
  · obtain ⟨v', h3, h4⟩ := h.slot x _ ht
    have : v' = .slice none 0 0 := (V2_plain (v := .slice none 0 0) rfl).1 h4
    subst this
    refine ⟨_, h3, ⟨none, 0, 0⟩, .inr ⟨rfl, rfl⟩, ?_⟩
    unfold SlOk
    rw [if_pos hlo]
    exact ⟨rfl, rfl, Nat.le_refl _, rfl, rfl, none, rfl⟩
  · obtain ⟨v', h3, h4⟩ := h.slot x u h2
    exact ⟨v', h3, V2_mono (fun _ _ hp => .inl hp) h4⟩
end
theorem loopW {P : Program} [Laid P] {code : Code} {n : Nat} (C : Nat → Cfg) (N : Nat) (hC : ∀ k, k ≤ N → CfgOk P (C k) code) (hn : ∀ k, (C k).n = n) {p : List Nat} (hp : codeAt p code = some (.loop (loopAt p code))) {m : Nat} {ts : List Nat} {is : Ren} {tx : Nat} {nt et : Nat → List Nat} {ni ei : Nat → Ren} {nx ex : Nat} (st : Nat → St) {e : Exit} {s0 sf : St}
    (h0 : ∀ (w0 : Wb (lay P)) (R : Nat → Pl → Prop) (a : Act) (w : World), Rel w0 n R s0.f a w → ∃ R', Rel w0 n R' (st 0).f a w) (he : e ≠ .normal)
    (step : ∀ k, k < N → ∃ s, roundS (C k) m (p ++ [0]) (loopAt p code) (nt k) (ni k) nx (et k) (ei k) ex (st k) = some (.normal, s) ∧ stEq s (st (k + 1)) = true)
    (last : ∃ s, roundS (C N) m (p ++ [0]) (loopAt p code) (nt N) (ni N) nx (et N) (ei N) ex (st N) = some (e, s) ∧ stEq s sf = true) :
    LoopOk P n (loopAt p code) (atSt ts is tx s0 e sf) := by
  refine atSt_ok fun w0 R a w hrel => ?_
  obtain ⟨R, hrel⟩ := h0 w0 R a w hrel
  have hx : codeAt (p ++ [0]) code = some (loopAt p code) := by rw [codeAt_app, hp]; rfl
  have key : ∀ j, j ≤ N → ∀ (R : Nat → Pl → Prop) (a : Act) (w : World), Rel w0 n R (st (N - j)).f a w → Code.rounds P (loopAt p code) (fun e' a' w' => e' = e ∧ ∃ R', Rel w0 n R' sf.f a' w') (j + 1) a w := by
    intro j
    induction j with
    | zero =>
      intro _ R a w hr
      rw [rounds_succ]
      obtain ⟨s, h1, h2⟩ := last
      have hs := round_sound (hC N (Nat.le_refl _)) hx h1 (w0 := w0) (R := R) (a := a) (w := w) (by rw [hn]; exact hr)
      rw [hn] at hs
      refine wp_mono hs ?_
      rintro e' a' w' ⟨rfl, R', hr'⟩
      cases e' with
      | normal => exact absurd rfl he
      | _ => exact ⟨rfl, R', hr'.eqv h2⟩
    | succ j ih =>
      intro hj R a w hr
      rw [rounds_succ]
      obtain ⟨s, h1, h2⟩ := step (N - (j + 1)) (by omega)
      have hs := round_sound (hC (N - (j + 1)) (by omega)) hx h1 (w0 := w0) (R := R) (a := a) (w := w) (by rw [hn]; exact hr)
      rw [hn] at hs
      refine wp_mono hs ?_
      rintro e' a' w' ⟨rfl, R', hr'⟩
      refine ih (by omega) R' a' w' ?_
      rw [show N - j = N - (j + 1) + 1 from by omega]
      exact hr'.eqv h2
  exact wp_loop_rounds (N + 1) (key N (Nat.le_refl N) R a w (by rw [Nat.sub_self]; exact hrel))
end Go.W

namespace Go.W
section
variable {P : Program} [Laid P]
theorem sum_per {g : FuncId} {fn : Func} {c : Code} (hf : P.funcs[g]? = some fn) (hname : (fn.name == "runtime.NumGoroutine") = false) (hb : fn.body = some c) {fuel : Nat} {F : List Value → Option (Bool × Value)}
    (h : ∀ args v, F args = some (true, v) → args.all pl2 = true → ∃ C, CfgOk P C c ∧ C.n = fn.ntmps ∧ args.length ≤ fn.ntmps ∧ fnS C fuel fn c args = some v ∧ pl2 v = true) : Sum P g F := by
  intro args v hF hpl w hg
  obtain ⟨C, hC, hn, hl, hev, hv⟩ := h args v hF hpl
  exact sum_at hC hf hname hb hn hl hev hv hpl w hg
end
end Go.W

namespace Go.W
open Go
noncomputable def lRnF : List Value → Option (Bool × Value)
  | [.string s] => some (Nat.ble s.size 1000000, i64 ((rN s : Nat) : Int))
  | _ => none
noncomputable def lLbF : List Value → Option (Bool × Value)
  | [.string s] => some (Nat.ble s.size 1000000, .bool (lblB s))
  | _ => none
noncomputable def lFoF : List Value → Option (Bool × Value)
  | [.string s] => some (Nat.ble s.size 1000000, .string (foT s))
  | _ => none
noncomputable def lCuF : List Value → Option (Bool × Value)
  | [.string s, .int .i64 n] => some (Nat.ble s.size 1000000, .string (cutT s n))
  | _ => none
noncomputable def lCyF : List Value → Option (Bool × Value)
  | [.string s, .int .i64 n] => some (Nat.ble s.size 1000000 && decide (n < 9223372036854775808), .string (cutT s n))
  | _ => none
noncomputable def lSaF : List Value → Option (Bool × Value)
  | [.string a, .string b] => some (Nat.ble a.size 1000000 && Nat.ble b.size 1000000, .bool (foT a == foT b))
  | _ => none
noncomputable def lbE (s : ByteArray) : Int := hide (if lblB s then 0 else 8)
noncomputable def lChF : List Value → Option (Bool × Value)
  | [.string s] => some (Nat.ble s.size 1000000, i64 (lbE s))
  | _ => none
theorem lbE_yes {s : ByteArray} (h : lbl s) : lbE s = 0 := by unfold lbE; rw [hide_eq, lblB_iff.2 h]; rfl
theorem lbE_no {s : ByteArray} (h : ¬ lbl s) : lbE s = 8 := by
  unfold lbE; rw [hide_eq, show lblB s = false from by rw [Bool.eq_false_iff, ne_eq, lblB_iff]; exact h]; rfl
theorem dec_from (s : ByteArray) {p : Nat} (hp : p < s.size) : decB (byt (s.extract p s.size)) (s.extract p s.size).size 0 = decB (byt s) s.size p := by
  rw [size_cut (Nat.le_refl _)]
  exact decB_shift hp (by omega) (by omega) fun k hk => by rw [Nat.zero_add, byt_cut _ _ _ _ (by omega)]
theorem r1W_at (s : ByteArray) {p : Nat} (hp : p < s.size) : r1W (s.extract p s.size) = if decB (byt s) s.size p = (65533, 1) then 0 else (dW s p : Int) := by
  unfold r1W dW; rw [hide_eq, dec_from s hp]
theorem r1R_at (s : ByteArray) {p : Nat} (hp : p < s.size) : r1R (s.extract p s.size) = if decB (byt s) s.size p = (65533, 1) then 0 else (dC s p : Int) := by
  unfold r1R dC; rw [hide_eq, dec_from s hp]
noncomputable def mx1 (s : ByteArray) (p : Int) : Int := if 1 > r1W (s.extract p.toNat s.size) then 1 else r1W (s.extract p.toNat s.size)
theorem mx1_at (s : ByteArray) {p : Nat} (hp : p < s.size) : mx1 s (p : Int) = (dW s p : Int) := by
  unfold mx1
  rw [Int.toNat_natCast, r1W_at s hp]
  have h1 := dW_le hp
  by_cases e : decB (byt s) s.size p = (65533, 1)
  · rw [if_pos e, if_pos (by omega)]
    unfold dW; rw [e]; rfl
  · rw [if_neg e, if_neg (by omega)]
def rdx {α : Type} (s : ByteArray) (p : Int) (x : Option α) : Option α := req (decide (0 ≤ p) && decide (p ≤ (s.size : Int))) (req (Nat.blt 0 (s.extract p.toNat s.size).size && Nat.ble (s.extract p.toNat s.size).size 1000000) x)
theorem rdx_eq {α : Type} {s : ByteArray} {p : Nat} (hp : p < s.size) (hs : s.size ≤ 1000000) (x : Option α) : rdx s (p : Int) x = x := by
  unfold rdx
  rw [decide_eq_true (by omega), decide_eq_true (by omega), req_true (b := true && true) rfl, Int.toNat_natCast, size_cut (Nat.le_refl _), Nat.ble_eq_true_of_le (by omega), show Nat.blt 0 (s.size - p) = true from by rw [Nat.blt_eq]; omega, req_true (b := true && true) rfl]
instance (r : Nat) : Decidable (okC r) := by unfold okC; infer_instance
noncomputable def lbQ {α : Type} (s : ByteArray) (p : Int) (no yes : α) : α :=
  bif r1W (s.extract p.toNat s.size) == 0 then no else bif decide (r1R (s.extract p.toNat s.size) < 32) then no else
    bif decide (r1R (s.extract p.toNat s.size) ≥ 127) then (bif decide (r1R (s.extract p.toNat s.size) < 160) then no else bif r1R (s.extract p.toNat s.size) == 65533 then no else yes) else bif r1R (s.extract p.toNat s.size) == 65533 then no else yes
theorem okC_no {r : Nat} (h : ¬ (32 ≤ r ∧ (r < 127 ∨ 160 ≤ r) ∧ r ≠ 65533)) : ¬ okC r := h
theorem okC_yes {r : Nat} (h : 32 ≤ r ∧ (r < 127 ∨ 160 ≤ r) ∧ r ≠ 65533) : okC r := h
theorem lbQ_eq {α : Type} {s : ByteArray} {p : Nat} (hp : p < s.size) (no yes : α) : lbQ s (p : Int) no yes = if okC (dC s p) then yes else no := by
  unfold lbQ
  rw [Int.toNat_natCast, r1W_at s hp, r1R_at s hp]
  have h1 := dW_le hp
  by_cases e : decB (byt s) s.size p = (65533, 1)
  · have e2 : dC s p = 65533 := by unfold dC; rw [e]
    rw [if_pos e, if_pos e, if_neg (okC_no (by omega))]; rfl
  rw [if_neg e, if_neg e, show (((dW s p : Nat) : Int) == 0) = false from beq_eq_false_iff_ne.2 (by omega), cond_false]
  by_cases h2 : dC s p < 32
  · rw [decide_eq_true (by omega), cond_true, if_neg (okC_no (by omega))]
  rw [decide_eq_false (by omega), cond_false]
  by_cases h3 : dC s p < 127
  · rw [decide_eq_false (by omega), cond_false, show (((dC s p : Nat) : Int) == 65533) = false from beq_eq_false_iff_ne.2 (by omega), cond_false, if_pos (okC_yes (by omega))]
  rw [decide_eq_true (by omega), cond_true]
  by_cases h4 : dC s p < 160
  · rw [decide_eq_true (by omega), cond_true, if_neg (okC_no (by omega))]
  rw [decide_eq_false (by omega), cond_false]
  by_cases h5 : dC s p = 65533
  · rw [h5, if_neg (okC_no (by omega))]; rfl
  · rw [show (((dC s p : Nat) : Int) == 65533) = false from beq_eq_false_iff_ne.2 (by omega), cond_false, if_pos (okC_yes (by omega))]
def goodTo (s : ByteArray) (k : Nat) : Prop := okC (rc s k) ∧ k < 24
instance (s : ByteArray) (k : Nat) : Decidable (goodTo s k) := by unfold goodTo; infer_instance
theorem good_or (s : ByteArray) : ∀ n, (∀ k, k < n → goodTo s k) ∨ ∃ k, k < n ∧ ¬ goodTo s k ∧ ∀ j, j < k → goodTo s j
  | 0 => .inl fun k h => absurd h (Nat.not_lt_zero _)
  | n + 1 => by
    rcases good_or s n with h | ⟨k, h1, h2⟩
    · by_cases e : goodTo s n
      · left
        intro k hk
        by_cases e2 : k = n
        · rw [e2]; exact e
        · exact h k (by omega)
      · exact .inr ⟨n, by omega, e, h⟩
    · exact .inr ⟨k, by omega, h2⟩
theorem first_or (p : Nat → Prop) : ∀ n, (∀ k, k < n → p k) ∨ ∃ k, k < n ∧ ¬ p k ∧ ∀ j, j < k → p j
  | 0 => .inl fun k h => absurd h (Nat.not_lt_zero _)
  | n + 1 => by
    rcases first_or p n with h | ⟨k, h1, h2⟩
    · by_cases e : p n
      · left
        intro k hk
        by_cases e2 : k = n
        · rw [e2]; exact e
        · exact h k (by omega)
      · exact .inr ⟨n, by omega, e, h⟩
    · exact .inr ⟨k, by omega, h2⟩
def goodL (s : ByteArray) (k : Nat) : Prop := goodTo s k ∧ (k = 0 → rc s k ≠ 32)
instance (s : ByteArray) (k : Nat) : Decidable (goodL s k) := by unfold goodL; infer_instance
theorem lbl_end {s : ByteArray} (h : ∀ k, k < rN s → goodL s k) : lbl s ↔ 1 ≤ rN s ∧ rc s (rN s - 1) ≠ 32 := by
  constructor
  · exact fun hl => ⟨hl.1, hl.2.2.2.2⟩
  · rintro ⟨h1, h2⟩
    have := (h (rN s - 1) (by omega)).1.2
    exact ⟨h1, by omega, fun k hk => (h k hk).1.1, (h 0 (by omega)).2 rfl, h2⟩
theorem not_lblL {s : ByteArray} {k : Nat} (hk : k < rN s) (h : ¬ goodL s k) : ¬ lbl s := fun hl => h ⟨⟨hl.2.2.1 k hk, by have := hl.2.1; omega⟩, fun e => by rw [e]; exact hl.2.2.2.1⟩
noncomputable def msB (r : Int) : Bool := hide (decide (32 ≤ r ∧ (r < 127 ∨ 159 < r) ∧ r ≠ 65533))
noncomputable def lMsF : List Value → Option (Bool × Value)
  | [.int .i32 r] => some (true, .bool (msB r))
  | _ => none
noncomputable def msT (r : Int) : Option Value :=
  bif decide (r ≥ 32) then (bif decide (r < 127) then some (.bool (r != 65533)) else (bif decide (r > 159) then some (.bool (r != 65533)) else some (.bool false))) else some (.bool false)
theorem msT_eq (r : Int) : msT r = some (.bool (msB r)) := by
  unfold msT msB
  rw [hide_eq]
  have e : ∀ b : Bool, (b = decide (32 ≤ r ∧ (r < 127 ∨ 159 < r) ∧ r ≠ 65533)) → some (Value.bool b) = some (.bool (decide (32 ≤ r ∧ (r < 127 ∨ 159 < r) ∧ r ≠ 65533))) := fun b h => by rw [h]
  by_cases h1 : r ≥ 32
  · rw [decide_eq_true h1, cond_true]
    by_cases h2 : r < 127
    · rw [decide_eq_true h2, cond_true]
      apply e
      rw [Bool.eq_iff_iff, bne_iff_ne, decide_eq_true_iff]; omega
    · rw [decide_eq_false h2, cond_false]
      by_cases h3 : r > 159
      · rw [decide_eq_true h3, cond_true]
        apply e
        rw [Bool.eq_iff_iff, bne_iff_ne, decide_eq_true_iff]; omega
      · rw [decide_eq_false h3, cond_false]
        apply e
        rw [eq_comm, decide_eq_false_iff_not]; omega
  · rw [decide_eq_false h1, cond_false]
    apply e
    rw [eq_comm, decide_eq_false_iff_not]; omega
theorem msB_ok (r : Nat) : msB (r : Int) = decide (okC r) := by
  unfold msB; rw [hide_eq]
  apply decide_eq_decide.2
  unfold okC; omega
theorem not_lbl {s : ByteArray} {k : Nat} (hk : k < rN s) (h : ¬ goodTo s k) : ¬ lbl s := fun hl => h ⟨hl.2.2.1 k hk, by have := hl.2.1; omega⟩
theorem rune_ends {s : ByteArray} {p : Nat} (hp : p < s.size) (hv : decB (byt s) s.size p ≠ (65533, 1)) : (dC s p = 32 ↔ byt s p = 32) ∧ (dC s p = 32 ↔ byt s (p + dW s p - 1) = 32) := by
  unfold dC dW
  rcases decB_cases (b := byt s) hp with ⟨h, _⟩ | ⟨r, w, h, h1, h2⟩
  · exact absurd h hv
  rw [h]
  rcases h1 with ⟨rfl, k1, k2⟩ | ⟨rfl, k1, k2, k3, k4⟩ | ⟨rfl, k1, k2, k3, k4, k5, _⟩ | ⟨rfl, k1, k2, k3, k4, k5, k6, _⟩
  · simp only [Nat.add_sub_cancel]; omega
  · show (r = 32 ↔ byt s p = 32) ∧ (r = 32 ↔ byt s (p + 2 - 1) = 32)
    rw [show p + 2 - 1 = p + 1 from rfl]; omega
  · show (r = 32 ↔ byt s p = 32) ∧ (r = 32 ↔ byt s (p + 3 - 1) = 32)
    rw [show p + 3 - 1 = p + 2 from rfl]; omega
  · show (r = 32 ↔ byt s p = 32) ∧ (r = 32 ↔ byt s (p + 4 - 1) = 32)
    rw [show p + 4 - 1 = p + 3 from rfl]; omega
def lbT (s : ByteArray) (n : Int) : Option Value :=
  bif decide (n > 0) then req (inR 0 s.size) (bif bq s 0 != 32 then req (inR (IntKind.i64.wrap ((s.size : Int) - 1)) s.size) (some (.bool (bq s (IntKind.i64.wrap ((s.size : Int) - 1)) != 32))) else some (.bool false)) else some (.bool false)
theorem lbT_eq {s : ByteArray} (hs : s.size ≤ 1000000) (h : ∀ k, k < rN s → goodTo s k) : lbT s ((rN s : Nat) : Int) = some (.bool (lblB s)) := by
  have hok : ∀ k, k < rN s → okC (rc s k) := fun k hk => (h k hk).1
  have hr := lbl_right hok
  unfold lbT
  by_cases h0 : rN s = 0
  · rw [h0, show lblB s = false from by rw [Bool.eq_false_iff, ne_eq, lblB_iff]; exact fun hl => by have := hl.1; omega]; rfl
  have h24 : rN s ≤ 24 := by have := (h (rN s - 1) (by omega)).2; omega
  have hp0 := (rN_is s).1 0 (by omega)
  rw [ps_zero] at hp0
  have hpl := (rN_is s).1 (rN s - 1) (by omega)
  have hpe := ps_lt hpl
  rw [show rN s - 1 + 1 = rN s from by omega, (rN_is s).2] at hpe
  have e1 := (rune_ends hp0 (by have := hr 0 (by omega); rw [ps_zero] at this; exact this)).1
  have e2 := (rune_ends hpl (hr _ (by omega))).2
  rw [← hpe.2] at e2
  have hin0 : inR 0 s.size = true := by unfold inR; rw [decide_eq_true (by omega), decide_eq_true (by omega)]; rfl
  have hinl : inR ((s.size - 1 : Nat) : Int) s.size = true := by unfold inR; rw [decide_eq_true (by omega), decide_eq_true (by omega)]; rfl
  rw [decide_eq_true (by omega), cond_true, hin0, req_true rfl, wrap_i64 (by omega), show (s.size : Int) - 1 = ((s.size - 1 : Nat) : Int) from by omega, hinl, req_true rfl, show bq s 0 = (byt s 0 : Int) from rfl, bq_byt]
  have eb : ∀ x : Nat, (((x : Nat) : Int) != 32) = !(decide (x = 32)) := fun x => by
    by_cases hx : x = 32
    · subst hx; rfl
    · rw [decide_eq_false hx]
      show ((x : Int) != 32) = true
      rw [bne_iff_ne]; omega
  rw [eb, eb]
  have hlb : lblB s = (!(decide (byt s 0 = 32)) && !(decide (byt s (s.size - 1) = 32))) := by
    rw [Bool.eq_iff_iff, lblB_iff, Bool.and_eq_true, Bool.not_eq_true', Bool.not_eq_true', decide_eq_false_iff_not, decide_eq_false_iff_not, ← e1, ← e2]
    have er0 : rc s 0 = dC s 0 := rfl
    exact ⟨fun hl => ⟨er0 ▸ hl.2.2.2.1, hl.2.2.2.2⟩, fun hl => ⟨by omega, h24, hok, er0 ▸ hl.1, hl.2⟩⟩
  rw [hlb]
  cases decide (byt s 0 = 32) <;> rfl
theorem rwS_list (n : Nat) (g : Nat → List Value) : (rowS n g).data.toList = (nsL g 0 n).map (fun n => UInt8.ofNat n.toNat) := by
  have key : ∀ (l : List Int) (r : ByteArray), (l.foldl (fun r n => r.push (UInt8.ofNat n.toNat)) r).data.toList = r.data.toList ++ l.map (fun n => UInt8.ofNat n.toNat) := by
    intro l
    induction l with
    | nil => intro r; simp
    | cons x l ih =>
      intro r
      rw [List.foldl_cons, ih]
      show (r.data.push _).toList ++ _ = _
      rw [Array.toList_push, List.map_cons, List.append_assoc]; rfl
  unfold rowS
  rw [key]; rfl
theorem rwS_size (n : Nat) (g : Nat → List Value) : (rowS n g).size = n := by
  show (rowS n g).data.size = n
  rw [← Array.length_toList, rwS_list, List.length_map, nsL_len]
theorem nsL_at (g : Nat → List Value) : ∀ (n lo j : Nat), j < n → (nsL g lo n)[j]? = some (bI g (lo + j))
  | 0, _, _, h => absurd h (Nat.not_lt_zero _)
  | n + 1, lo, 0, _ => rfl
  | n + 1, lo, j + 1, h => by
    have := nsL_at g n (lo + 1) j (by omega)
    rw [show lo + (j + 1) = lo + 1 + j from by omega, ← this]; rfl
theorem rwS_byt {n : Nat} {g : Nat → List Value} {j : Nat} (h : j < n) : byt (rowS n g) j = (bI g j).toNat % 256 := by
  unfold byt
  rw [rwS_list, List.getD_eq_getElem?_getD, List.getElem?_map, nsL_at g n 0 j h, Nat.zero_add]
  show (UInt8.ofNat _).toNat = _
  exact UInt8.toNat_ofNat'
noncomputable def foR (s : ByteArray) : Nat → List Value := fun j => [.int .u8 (hide ((fdN (byt s j) : Nat) : Int))]
theorem bI_fo (s : ByteArray) (j : Nat) : bI (foR s) j = ((fdN (byt s j) : Nat) : Int) := by show hide _ = _; rw [hide_eq]
noncomputable def loK (s : ByteArray) (k : Nat) : Nat → List Value := fun j => [.int .u8 (hide (if j < k then ((fdN (byt s j) : Nat) : Int) else ((byt s j : Nat) : Int)))]
theorem bI_loK (s : ByteArray) (k j : Nat) : bI (loK s k) j = if j < k then ((fdN (byt s j) : Nat) : Int) else ((byt s j : Nat) : Int) := by show hide _ = _; rw [hide_eq]
theorem bI_strF (s : ByteArray) (j : Nat) : bI (strF s) j = ((byt s j : Nat) : Int) := rfl
theorem loK_zero (s : ByteArray) (j : Nat) : nrmK kB (strF s j) = nrmK kB (loK s 0 j) := by rw [nrm_kB, nrm_kB, bI_strF, bI_loK, if_neg (Nat.not_lt_zero _)]
theorem bI_up1 (f : Nat → List Value) (k : Nat) (x : Int) (j : Nat) : bI (updR f k [.int .u8 x]) j = if j = k then x else bI f j := by
  unfold bI updR
  by_cases h : j = k
  · subst h; rw [Nat.beq_refl, cond_true, if_pos rfl]; rfl
  · rw [nbeq_ne h, cond_false, if_neg h]
theorem loK_up (s : ByteArray) {k : Nat} (h : 65 ≤ byt s k ∧ byt s k ≤ 90) (j : Nat) : nrmK kB (updR (loK s k) (0 + k) [.int .u8 (IntKind.u8.wrap (IntKind.u8.wrap (bI (loK s k) (0 + k) - 65) + 97))] j) = nrmK kB (loK s (k + 1) j) := by
  rw [nrm_kB, nrm_kB, Nat.zero_add, bI_loK s k k, if_neg (Nat.lt_irrefl _), wrap_u8, wrap_u8, bI_loK, bI_up1, bI_loK]
  by_cases e : j = k
  · subst e
    rw [if_pos (Nat.lt_succ_self _), if_pos rfl]; unfold fdN; rw [if_pos h, show (((byt s j : Nat) : Int) - 65) % 256 + 97 = ((byt s j + 32 : Nat) : Int) from by omega, show ((byt s j + 32 : Nat) : Int) % 256 = ((byt s j + 32 : Nat) : Int) from by omega]
  · rw [if_neg e]
    by_cases h1 : j < k
    · rw [if_pos h1, if_pos (by omega)]
    · rw [if_neg h1, if_neg (by omega)]
theorem loK_no (s : ByteArray) {k : Nat} (h : ¬ (65 ≤ byt s k ∧ byt s k ≤ 90)) (j : Nat) : nrmK kB (loK s k j) = nrmK kB (loK s (k + 1) j) := by
  rw [nrm_kB, nrm_kB, bI_loK, bI_loK]
  by_cases e : j = k
  · subst e
    rw [if_neg (Nat.lt_irrefl _), if_pos (Nat.lt_succ_self _)]; unfold fdN; rw [if_neg h]
  · by_cases h1 : j < k
    · rw [if_pos h1, if_pos (by omega)]
    · rw [if_neg h1, if_neg (by omega)]
theorem foR_text {s : ByteArray} {g : Nat → List Value} (hg : ∀ j, j < s.size → bI g j = ((fdN (byt s j) : Nat) : Int)) : rowS s.size g = foT s :=
  txt_ext (by rw [rwS_size, foT_size]) fun j hj => by
    rw [rwS_size] at hj
    rw [rwS_byt hj, byt_fo, hg j hj, Int.toNat_natCast, Nat.mod_eq_of_lt (fdN_lt (byt_lt s j))]
end Go.W

namespace Go.Proofs.Ytheldjiikjaimaa
set_option maxRecDepth 100000
open Go.W
def r1Cf : Cfg := ⟨tab, [], 82, []⟩
theorem r1Ok : CfgOk Try.prog r1Cf (bodyOf Try.f20) := ⟨mixed, tabOk, sums_nil, noL⟩
theorem r1_ev (s : ByteArray) : fnS r1Cf 60 Try.f20 (bodyOf Try.f20) [.string s] = r1T s := by kernel_rfl
theorem r1_sum : Sum Try.prog 20 R1F := by
  refine sum_of r1Ok Try.func20 (by kernel_rfl) (by kernel_rfl) rfl (fuel := 60) fun args v h hpl => ?_
  unfold R1F at h
  split at h
  · rename_i s
    simp only [Option.some.injEq, Prod.mk.injEq, Bool.and_eq_true, Nat.blt_eq] at h
    obtain ⟨⟨h1, _⟩, rfl⟩ := h
    exact ⟨by show 1 ≤ Try.f20.ntmps; decide +kernel, (r1_ev s).trans (r1T_eq h1), rfl⟩
  · simp at h
noncomputable def rnS : Sums := [(20, R1F)]
theorem rnS_ok : SumsOk Try.prog rnS := sums_cons r1_sum sums_nil
noncomputable def rnC0 : Cfg := ⟨tab, rnS, 25, []⟩
theorem rnOk0 : CfgOk Try.prog rnC0 (bodyOf Try.f12) := ⟨mixed, tabOk, rnS_ok, noL⟩
theorem rn_at : codeAt [1, 1, 0, 1, 0] (bodyOf Try.f12) = some (.loop (loopAt [1, 1, 0, 1, 0] (bodyOf Try.f12))) := by kernel_rfl
def rnNt : List Nat := [0, 3, 4]
def rnSt (s : ByteArray) (n p : Int) : St := ⟨[(0, .string s), (3, i64 n), (4, i64 p)], [], 3⟩
theorem rn_r (s : ByteArray) (n p : Int) : roundS rnC0 60 [1, 1, 0, 1, 0, 0] (loopAt [1, 1, 0, 1, 0] (bodyOf Try.f12)) rnNt [] 3 rnNt [] 3 (rnSt s n p) =
    bif decide (p < (s.size : Int)) then rdx s p (some (.normal, rnSt s (IntKind.i64.wrap (n + 1)) (IntKind.i64.wrap (p + mx1 s p)))) else some (.exit 0, rnSt s n p) := by kernel_rfl
theorem rn_loop {s : ByteArray} (hs : s.size ≤ 1000000) : LoopOk Try.prog 25 (loopAt [1, 1, 0, 1, 0] (bodyOf Try.f12)) (atSt rnNt [] 3 (rnSt s 0 0) (.exit 0) (rnSt s ((rN s : Nat) : Int) (s.size : Int))) := by
  have hN := rN_le s
  refine loopE (fun _ => rnC0) (rN s) (fun _ _ => rnOk0) (fun _ => rfl) rn_at (m := 60) (nt := rnNt) (ni := []) (et := rnNt) (ei := []) (nx := 3) (ex := 3) (fun k => rnSt s (k : Int) (ps s k : Int)) rfl (by intro h; cases h) ?_ ?_
  · intro k hk
    have h1 := (rN_is s).1 k hk
    have h2 := ps_lt h1
    have h3 := ps_le s (k + 1)
    refine ⟨_, ?_, stEq_refl rfl⟩
    refine (rn_r s _ _).trans ?_
    rw [decide_eq_true (by omega), cond_true, rdx_eq h1 hs, mx1_at s h1, wrap_i64 (by omega), wrap_i64 (by omega), h2.2]
    rw [Int.natCast_add (ps s k)]; rfl
  · refine ⟨_, ?_, stEq_refl rfl⟩
    refine (rn_r s _ _).trans ?_
    rw [(rN_is s).2, decide_eq_false (by omega), cond_false]
noncomputable def rnC (s : ByteArray) (n p : Int) : Cfg := ⟨tab, rnS, 25, [([1, 1, 0, 1, 0], atSt rnNt [] 3 (rnSt s 0 0) (.exit 0) (rnSt s n p))]⟩
theorem rn_ev (s : ByteArray) (n p : Int) : fnS (rnC s n p) 60 Try.f12 (bodyOf Try.f12) [.string s] = req (stEq (rnSt s 0 0) (rnSt s 0 0)) (some (i64 n)) := by kernel_rfl
theorem rn_sum : Sum Try.prog 12 lRnF := by
  refine sum_per (c := bodyOf Try.f12) Try.func12 (by kernel_rfl) (by kernel_rfl) (fuel := 60) fun args v h hpl => ?_
  unfold lRnF at h
  split at h
  · rename_i s
    simp only [Option.some.injEq, Prod.mk.injEq] at h
    obtain ⟨h1, rfl⟩ := h
    have h1 := Nat.le_of_ble_eq_true h1
    refine ⟨rnC s _ _, ⟨mixed, tabOk, rnS_ok, oneL (rn_loop h1)⟩, rfl, by show 1 ≤ Try.f12.ntmps; decide +kernel, (rn_ev s _ _).trans ?_, rfl⟩
    rw [req_true (stEq_refl rfl)]
  · simp at h
noncomputable def lbS : Sums := [(20, R1F)]
theorem lbS_ok : SumsOk Try.prog lbS := sums_cons r1_sum sums_nil
noncomputable def lbC0 : Cfg := ⟨tab, lbS, 58, []⟩
theorem lbOk0 : CfgOk Try.prog lbC0 (bodyOf Try.f10) := ⟨mixed, tabOk, lbS_ok, noL⟩
theorem lb_at : codeAt [1, 1, 0, 1, 0] (bodyOf Try.f10) = some (.loop (loopAt [1, 1, 0, 1, 0] (bodyOf Try.f10))) := by kernel_rfl
def lbNt : List Nat := [0, 3, 4]
def lbSt (s : ByteArray) (n p : Int) : St := ⟨[(0, .string s), (3, i64 n), (4, i64 p)], [], 3⟩
def lbE0 (s : ByteArray) (n : Int) : St := ⟨[(0, .string s), (3, i64 n)], [], 3⟩
def lbX : St := ⟨[(2, .bool false)], [], 3⟩
theorem lb_rA (s : ByteArray) (n p : Int) : roundS lbC0 60 [1, 1, 0, 1, 0, 0] (loopAt [1, 1, 0, 1, 0] (bodyOf Try.f10)) lbNt [] 3 [0, 3] [] 3 (lbSt s n p) =
    bif decide (p < (s.size : Int)) then rdx s p (lbQ s p (some (.ret, lbE0 s n)) (bif decide (IntKind.i64.wrap (n + 1) > 24) then some (.ret, lbE0 s (IntKind.i64.wrap (n + 1))) else some (.normal, lbSt s (IntKind.i64.wrap (n + 1)) (IntKind.i64.wrap (p + r1W (s.extract p.toNat s.size)))))) else some (.exit 0, lbE0 s n) := by kernel_rfl
theorem lb_rB (s : ByteArray) (n p : Int) : roundS lbC0 60 [1, 1, 0, 1, 0, 0] (loopAt [1, 1, 0, 1, 0] (bodyOf Try.f10)) lbNt [] 3 [2] [] 3 (lbSt s n p) =
    bif decide (p < (s.size : Int)) then rdx s p (lbQ s p (some (.ret, lbX)) (bif decide (IntKind.i64.wrap (n + 1) > 24) then some (.ret, lbX) else some (.normal, lbSt s (IntKind.i64.wrap (n + 1)) (IntKind.i64.wrap (p + r1W (s.extract p.toNat s.size)))))) else none := by kernel_rfl
theorem lb_next {s : ByteArray} {k : Nat} (hk : k < rN s) (hs : s.size ≤ 1000000) (hg : goodTo s k) : lbSt s (IntKind.i64.wrap ((k : Int) + 1)) (IntKind.i64.wrap ((ps s k : Int) + r1W (s.extract (ps s k : Int).toNat s.size))) = lbSt s ((k + 1 : Nat) : Int) (ps s (k + 1) : Int) := by
  have h1 := (rN_is s).1 k hk
  have h2 := ps_lt h1
  have h3 := ps_le s (k + 1)
  have h4 : decB (byt s) s.size (ps s k) ≠ (65533, 1) := fun e => by
    have h5 := hg.1.2.2
    unfold rc dC at h5
    rw [e] at h5; exact h5 rfl
  rw [Int.toNat_natCast, r1W_at s h1, if_neg h4, wrap_i64 (by have := hg.2; omega), wrap_i64 (by omega), h2.2, Int.natCast_add (ps s k)]; rfl
theorem lb_loopA {s : ByteArray} (hs : s.size ≤ 1000000) (hg : ∀ k, k < rN s → goodTo s k) : LoopOk Try.prog 58 (loopAt [1, 1, 0, 1, 0] (bodyOf Try.f10)) (atSt lbNt [] 3 (lbSt s 0 0) (.exit 0) (lbE0 s ((rN s : Nat) : Int))) := by
  refine loopE (fun _ => lbC0) (rN s) (fun _ _ => lbOk0) (fun _ => rfl) lb_at (m := 60) (nt := lbNt) (ni := []) (et := [0, 3]) (ei := []) (nx := 3) (ex := 3) (fun k => lbSt s (k : Int) (ps s k : Int)) rfl (by intro h; cases h) ?_ ?_
  · intro k hk
    have h1 := (rN_is s).1 k hk
    refine ⟨_, ?_, stEq_refl rfl⟩
    refine (lb_rA s _ _).trans ?_
    rw [decide_eq_true (by omega), cond_true, rdx_eq h1 hs, lbQ_eq h1, if_pos (show okC (dC s (ps s k)) from (hg k hk).1), lb_next hk hs (hg k hk), decide_eq_false (by rw [wrap_i64 (by have := (hg k hk).2; omega)]; have := (hg k hk).2; omega)]; rfl
  · refine ⟨_, ?_, stEq_refl rfl⟩
    refine (lb_rA s _ _).trans ?_
    rw [(rN_is s).2, decide_eq_false (by omega), cond_false]
theorem lb_loopB {s : ByteArray} (hs : s.size ≤ 1000000) {m : Nat} (hm : m < rN s) (hb : ¬ goodTo s m) (hg : ∀ k, k < m → goodTo s k) : LoopOk Try.prog 58 (loopAt [1, 1, 0, 1, 0] (bodyOf Try.f10)) (atSt lbNt [] 3 (lbSt s 0 0) .ret lbX) := by
  refine loopE (fun _ => lbC0) m (fun _ _ => lbOk0) (fun _ => rfl) lb_at (m := 60) (nt := lbNt) (ni := []) (et := [2]) (ei := []) (nx := 3) (ex := 3) (fun k => lbSt s (k : Int) (ps s k : Int)) rfl (by intro h; cases h) ?_ ?_
  · intro k hk
    have h1 := (rN_is s).1 k (by omega)
    refine ⟨_, ?_, stEq_refl rfl⟩
    refine (lb_rB s _ _).trans ?_
    rw [decide_eq_true (by omega), cond_true, rdx_eq h1 hs, lbQ_eq h1, if_pos (show okC (dC s (ps s k)) from (hg k hk).1), lb_next (by omega) hs (hg k hk), decide_eq_false (by rw [wrap_i64 (by have := (hg k hk).2; omega)]; have := (hg k hk).2; omega)]; rfl
  · have h1 := (rN_is s).1 m hm
    refine ⟨lbX, ?_, stEq_refl rfl⟩
    refine (lb_rB s _ _).trans ?_
    rw [decide_eq_true (by omega), cond_true, rdx_eq h1 hs, lbQ_eq h1]
    by_cases hc : okC (rc s m)
    · have h24 : ¬ m < 24 := fun h => hb ⟨hc, h⟩
      have hN := rN_le s
      rw [if_pos (show okC (dC s (ps s m)) from hc), decide_eq_true (by rw [wrap_i64 (by omega)]; omega), cond_true]
    · rw [if_neg (show ¬ okC (dC s (ps s m)) from hc)]
noncomputable def lbCA (s : ByteArray) (n : Int) : Cfg := ⟨tab, lbS, 58, [([1, 1, 0, 1, 0], atSt lbNt [] 3 (lbSt s 0 0) (.exit 0) (lbE0 s n))]⟩
noncomputable def lbCB (s : ByteArray) : Cfg := ⟨tab, lbS, 58, [([1, 1, 0, 1, 0], atSt lbNt [] 3 (lbSt s 0 0) .ret lbX)]⟩
theorem lb_evA (s : ByteArray) (n : Int) : fnS (lbCA s n) 60 Try.f10 (bodyOf Try.f10) [.string s] = req (stEq (lbSt s 0 0) (lbSt s 0 0)) (lbT s n) := by kernel_rfl
theorem lb_evB (s : ByteArray) : fnS (lbCB s) 60 Try.f10 (bodyOf Try.f10) [.string s] = req (stEq (lbSt s 0 0) (lbSt s 0 0)) (some (.bool false)) := by kernel_rfl
theorem lb_sum : Sum Try.prog 10 lLbF := by
  refine sum_per (c := bodyOf Try.f10) Try.func10 (by kernel_rfl) (by kernel_rfl) (fuel := 60) fun args v h hpl => ?_
  unfold lLbF at h
  split at h
  · rename_i s
    simp only [Option.some.injEq, Prod.mk.injEq] at h
    obtain ⟨h1, rfl⟩ := h
    have h1 := Nat.le_of_ble_eq_true h1
    rcases good_or s (rN s) with hg | ⟨m, hm, hb, hg⟩
    · refine ⟨lbCA s _, ⟨mixed, tabOk, lbS_ok, oneL (lb_loopA h1 hg)⟩, rfl, by show 1 ≤ Try.f10.ntmps; decide +kernel, (lb_evA s _).trans ?_, rfl⟩
      rw [req_true (stEq_refl rfl), lbT_eq h1 hg]
    · refine ⟨lbCB s, ⟨mixed, tabOk, lbS_ok, oneL (lb_loopB h1 hm hb hg)⟩, rfl, by show 1 ≤ Try.f10.ntmps; decide +kernel, (lb_evB s).trans ?_, rfl⟩
      rw [req_true (stEq_refl rfl), show lblB s = false from by rw [Bool.eq_false_iff, ne_eq, lblB_iff]; exact not_lbl hm hb]
  · simp at h
noncomputable def cuS : Sums := [(20, R1F)]
theorem cuS_ok : SumsOk Try.prog cuS := sums_cons r1_sum sums_nil
noncomputable def cuC0 : Cfg := ⟨tab, cuS, 34, []⟩
theorem cuOk0 : CfgOk Try.prog cuC0 (bodyOf Try.f17) := ⟨mixed, tabOk, cuS_ok, noL⟩
theorem cu_at : codeAt [1, 1, 0, 1, 0] (bodyOf Try.f17) = some (.loop (loopAt [1, 1, 0, 1, 0] (bodyOf Try.f17))) := by kernel_rfl
def cuNt : List Nat := [0, 1, 5, 6]
def cuSt (s : ByteArray) (n p k : Int) : St := ⟨[(0, .string s), (1, i64 n), (5, i64 p), (6, i64 k)], [], 3⟩
theorem cu_r (s : ByteArray) (n p k : Int) : roundS cuC0 60 [1, 1, 0, 1, 0, 0] (loopAt [1, 1, 0, 1, 0] (bodyOf Try.f17)) cuNt [] 3 cuNt [] 3 (cuSt s n p k) =
    bif decide (k < n) then (bif decide (p < (s.size : Int)) then rdx s p (some (.normal, cuSt s n (IntKind.i64.wrap (p + mx1 s p)) (IntKind.i64.wrap (k + 1)))) else some (.exit 0, cuSt s n p k)) else some (.exit 0, cuSt s n p k) := by kernel_rfl
theorem cu_loop {s : ByteArray} (hs : s.size ≤ 1000000) (n : Int) : LoopOk Try.prog 34 (loopAt [1, 1, 0, 1, 0] (bodyOf Try.f17)) (atSt cuNt [] 3 (cuSt s n 0 0) (.exit 0) (cuSt s n (ps s n.toNat : Int) ((min n.toNat (rN s) : Nat) : Int))) := by
  have hN := rN_le s
  refine loopE (fun _ => cuC0) (min n.toNat (rN s)) (fun _ _ => cuOk0) (fun _ => rfl) cu_at (m := 60) (nt := cuNt) (ni := []) (et := cuNt) (ei := []) (nx := 3) (ex := 3) (fun k => cuSt s n (ps s k : Int) (k : Int)) rfl (by intro h; cases h) ?_ ?_
  · intro k hk
    have h1 := (rN_is s).1 k (by omega)
    have h2 := ps_lt h1
    have h3 := ps_le s (k + 1)
    refine ⟨_, ?_, stEq_refl rfl⟩
    refine (cu_r s n _ _).trans ?_
    rw [decide_eq_true (by omega), cond_true, decide_eq_true (by omega), cond_true, rdx_eq h1 hs, mx1_at s h1, wrap_i64 (by omega), wrap_i64 (by omega), h2.2]
    rw [Int.natCast_add (ps s k)]; rfl
  · refine ⟨_, ?_, stEq_refl rfl⟩
    refine (cu_r s n _ _).trans ?_
    by_cases h : n.toNat ≤ rN s
    · rw [Nat.min_eq_left h, decide_eq_false (by omega), cond_false]
    · rw [Nat.min_eq_right (by omega), (rN_is s).2, ps_rN (by omega), decide_eq_true (by omega), cond_true, decide_eq_false (by omega), cond_false]
noncomputable def cuC (s : ByteArray) (n p k : Int) : Cfg := ⟨tab, cuS, 34, [([1, 1, 0, 1, 0], atSt cuNt [] 3 (cuSt s n 0 0) (.exit 0) (cuSt s n p k))]⟩
theorem cu_ev (s : ByteArray) (n p k : Int) : fnS (cuC s n p k) 60 Try.f17 (bodyOf Try.f17) [.string s, i64 n] = req (stEq (cuSt s n 0 0) (cuSt s n 0 0)) (req (decide (0 ≤ p) && decide (p ≤ (s.size : Int))) (req (Nat.ble 0 p.toNat) (some (.string (s.extract 0 p.toNat))))) := by kernel_rfl
theorem cu_sum : Sum Try.prog 17 lCuF := by
  refine sum_per (c := bodyOf Try.f17) Try.func17 (by kernel_rfl) (by kernel_rfl) (fuel := 60) fun args v h hpl => ?_
  unfold lCuF at h
  split at h
  · rename_i s n
    simp only [Option.some.injEq, Prod.mk.injEq] at h
    obtain ⟨h1, rfl⟩ := h
    have h1 := Nat.le_of_ble_eq_true h1
    refine ⟨cuC s n _ _, ⟨mixed, tabOk, cuS_ok, oneL (cu_loop h1 n)⟩, rfl, by show 2 ≤ Try.f17.ntmps; decide +kernel, (cu_ev s n _ _).trans ?_, rfl⟩
    have := ps_le s n.toNat
    rw [req_true (stEq_refl rfl), decide_eq_true (by omega), decide_eq_true (by omega), req_true (b := true && true) rfl, Int.toNat_natCast, Nat.ble_eq_true_of_le (Nat.zero_le _), req_true rfl, cutT_eq]
  · simp at h
def fldC0 : Cfg := ⟨tab, [], 29, []⟩
theorem fldOk0 : CfgOk Try.prog fldC0 (bodyOf Try.f14) := ⟨mixed, tabOk, sums_nil, noL⟩
theorem fld_at : codeAt [1, 1, 0, 1, 0] (bodyOf Try.f14) = some (.loop (loopAt [1, 1, 0, 1, 0] (bodyOf Try.f14))) := by kernel_rfl
def fldB : Nat := nid 2 0
def fldNt : List Nat := [0, 3, 4]
def fldSt (s : ByteArray) (L : Nat) (F : Nat → List Value) (i : Int) : St := ⟨[(0, .string s), (3, .slice (some ⟨fldB, 0, none⟩) L L), (4, i64 i)], [(fldB, ⟨.row kB L F, 5, true⟩)], 3⟩
def fldI (s : ByteArray) : St := ⟨[(0, .string s), (3, .slice none 0 0), (4, i64 0)], [], 3⟩
def fldE (L : Nat) (F : Nat → List Value) : St := ⟨[(3, .slice (some ⟨fldB, 0, none⟩) L L)], [(fldB, ⟨.row kB L F, 5, true⟩)], 3⟩
def fldT {α : Type} (s : ByteArray) (i : Int) (L : Nat) (up no out : Option α) : Option α :=
  bif decide (i < (s.size : Int)) then req (inR i s.size) (bif decide (bq s i ≥ 65) then (bif decide (bq s i ≤ 90) then apB L up else apB L no) else apB L no) else out
theorem fld_rU (s : ByteArray) (L : Nat) (F : Nat → List Value) (i : Int) : roundS fldC0 60 [1, 1, 0, 1, 0, 0] (loopAt [1, 1, 0, 1, 0] (bodyOf Try.f14)) fldNt [(fldB, nid 23 0)] 3 [3] [(fldB, fldB)] 3 (fldSt s L F i) =
    fldT s i L (some (.normal, fldSt s (L + 1) (appF L F (lstF [.int .u8 (IntKind.u8.wrap (bq s i + 32))] 0 1)) (IntKind.i64.wrap (i + 1)))) none (some (.exit 0, fldE L F)) := by kernel_rfl
theorem fld_rN (s : ByteArray) (L : Nat) (F : Nat → List Value) (i : Int) : roundS fldC0 60 [1, 1, 0, 1, 0, 0] (loopAt [1, 1, 0, 1, 0] (bodyOf Try.f14)) fldNt [(fldB, nid 20 0)] 3 [3] [(fldB, fldB)] 3 (fldSt s L F i) =
    fldT s i L none (some (.normal, fldSt s (L + 1) (appF L F (lstF [.int .u8 (bq s i)] 0 1)) (IntKind.i64.wrap (i + 1)))) (some (.exit 0, fldE L F)) := by kernel_rfl
theorem fld_start (s : ByteArray) (w0 : Wb (lay Try.prog)) (R : Nat → Pl → Prop) (a : Act) (w : World) (h : Rel w0 29 R (fldI s).f a w) : ∃ R', Rel w0 29 R' (fldSt s 0 (foR s) ((0 : Nat) : Int)).f a w :=
  Rel.nilSlot h (t := 3) (B := fldB) rfl rfl (by decide) (by decide) kB (foR s) 5 3
theorem fld_loop {s : ByteArray} (hs : s.size ≤ 1000000) : LoopOk Try.prog 29 (loopAt [1, 1, 0, 1, 0] (bodyOf Try.f14)) (atSt fldNt [] 3 (fldI s) (.exit 0) (fldE s.size (foR s))) := by
  refine loopW (fun _ => fldC0) s.size (fun _ _ => fldOk0) (fun _ => rfl) fld_at (m := 60) (nt := fun _ => fldNt) (ni := fun k => if 65 ≤ byt s k ∧ byt s k ≤ 90 then [(fldB, nid 23 0)] else [(fldB, nid 20 0)]) (et := fun _ => [3]) (ei := fun _ => [(fldB, fldB)]) (nx := 3) (ex := 3) (fun k => fldSt s k (foR s) (k : Int)) (fld_start s) (by intro h; cases h) ?_ ?_
  · intro k hk
    have hb := byt_lt s k
    have hin : inR (k : Int) s.size = true := by unfold inR; rw [decide_eq_true (by omega), decide_eq_true (by omega)]; rfl
    have hrow : ∀ x : Int, x = ((fdN (byt s k) : Nat) : Int) → ∀ j, j < k + 1 → nrmK kB (appF k (foR s) (lstF [.int .u8 x] 0 1) j) = nrmK kB (foR s j) := fun x hx =>
      app_row (ks := kB) (fun _ _ => rfl) (by rw [nrm_kB, bI_fo, hx]; rfl)
    by_cases hu : 65 ≤ byt s k ∧ byt s k ≤ 90
    · rw [if_pos hu]
      refine ⟨_, ?_, stEq_mk (sl := [(0, .string s), (3, .slice (some ⟨fldB, 0, none⟩) (k + 1) (k + 1)), (4, i64 ((k + 1 : Nat) : Int))]) rfl (mRow (hrow (IntKind.u8.wrap (bq s (k : Int) + 32)) ?_) mNil)⟩
      · refine (fld_rU s k _ _).trans ?_
        unfold fldT
        rw [decide_eq_true (by omega), cond_true, hin, req_true rfl, bq_byt, decide_eq_true (by omega), decide_eq_true (by omega), cond_true, cond_true, apB_eq (by omega), wrap_i64 (by omega)]; rfl
      · rw [bq_byt, wrap_u8]; unfold fdN; rw [if_pos hu]; omega
    · rw [if_neg hu]
      refine ⟨_, ?_, stEq_mk (sl := [(0, .string s), (3, .slice (some ⟨fldB, 0, none⟩) (k + 1) (k + 1)), (4, i64 ((k + 1 : Nat) : Int))]) rfl (mRow (hrow (bq s (k : Int)) ?_) mNil)⟩
      · refine (fld_rN s k _ _).trans ?_
        unfold fldT
        rw [decide_eq_true (by omega), cond_true, hin, req_true rfl, apB_eq (by omega), apB_eq (by omega), wrap_i64 (by omega), bq_byt]
        by_cases h1 : 65 ≤ byt s k
        · rw [decide_eq_true (by omega), decide_eq_false (by omega)]; rfl
        · rw [decide_eq_false (by omega)]; rfl
      · rw [bq_byt]; unfold fdN; rw [if_neg hu]
  · refine ⟨fldE s.size (foR s), ?_, stEq_refl rfl⟩
    show roundS _ _ _ _ _ (if 65 ≤ byt s s.size ∧ byt s s.size ≤ 90 then [(fldB, nid 23 0)] else [(fldB, nid 20 0)]) _ _ _ _ _ = _
    split
    · refine (fld_rU s s.size _ _).trans ?_
      unfold fldT
      rw [decide_eq_false (by omega), cond_false]
    · refine (fld_rN s s.size _ _).trans ?_
      unfold fldT
      rw [decide_eq_false (by omega), cond_false]
noncomputable def fldC (s : ByteArray) (L : Nat) (F : Nat → List Value) : Cfg := ⟨tab, [], 29, [([1, 1, 0, 1, 0], atSt fldNt [] 3 (fldI s) (.exit 0) (fldE L F))]⟩
theorem fld_ev (s : ByteArray) (L : Nat) (F : Nat → List Value) : fnS (fldC s L F) 60 Try.f14 (bodyOf Try.f14) [.string s] = req (stEq (fldI s) (fldI s)) (req (kb3 L) (some (.string (rowS L (sgF L F))))) := by kernel_rfl
theorem fld_sum : Sum Try.prog 14 lFoF := by
  refine sum_per (c := bodyOf Try.f14) Try.func14 (by kernel_rfl) (by kernel_rfl) (fuel := 60) fun args v h hpl => ?_
  unfold lFoF at h
  split at h
  · rename_i s
    simp only [Option.some.injEq, Prod.mk.injEq] at h
    obtain ⟨h1, rfl⟩ := h
    have h1 := Nat.le_of_ble_eq_true h1
    refine ⟨fldC s _ _, ⟨mixed, tabOk, sums_nil, oneL (fld_loop h1)⟩, rfl, by show 1 ≤ Try.f14.ntmps; decide +kernel, (fld_ev s _ _).trans ?_, rfl⟩
    rw [req_true (stEq_refl rfl), kb3_true, req_true rfl, foR_text (fun j _ => by rw [bI_sg, bI_fo])]
  · simp at h
end Go.Proofs.Ytheldjiikjaimaa

namespace Go.Proofs.Ytheldjiikjaimaa
set_option maxRecDepth 100000
open Go.W
def clnR : Go.Shelf.Ren := ⟨fun | 25 => 22 | n => n, fun | 0 => 0 | 3 => 3 | 4 => 4 | 5 => 5 | 9 => 9 | 37 => 39 | 47 => 40 | n => n, fun n => n⟩
theorem clnL : LaysPu.n25 Try.prog clnR where
  mixed := mixed
  f25 := Try.func22.trans (congrArg some (by kernel_rfl))
  t0 := Try.underlying0
  a0 := Try.isAgg0
  z0 := Try.sizeOf0
  v0 := Try.zeroValue0
  i0 := by kernel_rfl
  t3 := Try.underlying3
  a3 := Try.isAgg3
  z3 := Try.sizeOf3
  v3 := Try.zeroValue3
  i3 := by kernel_rfl
  t4 := Try.underlying4
  a4 := Try.isAgg4
  z4 := Try.sizeOf4
  v4 := Try.zeroValue4
  i4 := by kernel_rfl
  t5 := Try.underlying5
  a5 := Try.isAgg5
  z5 := Try.sizeOf5
  v5 := Try.zeroValue5
  i5 := by kernel_rfl
  t9 := Try.underlying9
  a9 := Try.isAgg9
  z9 := Try.sizeOf9
  v9 := Try.zeroValue9
  i9 := by kernel_rfl
  t37 := Try.underlying39
  a37 := Try.isAgg39
  z37 := Try.sizeOf39
  v37 := Try.zeroValue39
  i37 := by kernel_rfl
  t47 := Try.underlying40
  a47 := Try.isAgg40
  z47 := Try.sizeOf40
  v47 := Try.zeroValue40
  i47 := by kernel_rfl
noncomputable def sClF : List Value → Option (Bool × Value)
  | [.string s] => some (Nat.ble s.size 1000000, .string s)
  | _ => none
theorem lcl_sum : Sum Try.prog 22 sClF := by
  intro args v h hpl w hgk
  unfold sClF at h
  split at h
  · rename_i s
    simp only [Option.some.injEq, Prod.mk.injEq] at h
    obtain ⟨h1, rfl⟩ := h
    have h1 := Nat.le_of_ble_eq_true h1
    have hf := Try.func22
    have hne : Try.f22.name ≠ "runtime.NumGoroutine" := by
      have : (Try.f22.name == "runtime.NumGoroutine") = false := by kernel_rfl
      simpa using this
    have hb : Try.f22.body = some (bodyOf Try.f22) := by kernel_rfl
    have hrun : (callFunc 22 [Value.string s].toArray).run Try.prog w = .ok (.enter 22 [Value.string s].toArray) w := by simp [callFunc, hf, hne, hb]
    unfold Invokes
    rw [hrun]
    refine Calls.mono (AnyPu.stringslite_Clone clnL s w (by omega)) ?_
    rintro e w' ⟨rfl, h2⟩
    exact ⟨rfl, h2⟩
  · simp at h
noncomputable def lcgS : Sums := [(22, sClF)]
noncomputable def lcgC : Cfg := ⟨tab, lcgS, 5, []⟩
theorem lcgOk : CfgOk Try.prog lcgC (bodyOf Try.f21) := ⟨mixed, tabOk, sums_cons lcl_sum sums_nil, noL⟩
theorem lcg_ev (s : ByteArray) : fnS lcgC 60 Try.f21 (bodyOf Try.f21) [.string s] = req (Nat.ble s.size 1000000) (some (.string s)) := by kernel_rfl
theorem lcg_sum : Sum Try.prog 21 sClF := by
  refine sum_of lcgOk Try.func21 (by kernel_rfl) (by kernel_rfl) rfl (fuel := 60) fun args v h hpl => ?_
  unfold sClF at h
  split at h
  · rename_i s
    simp only [Option.some.injEq, Prod.mk.injEq] at h
    obtain ⟨h1, rfl⟩ := h
    exact ⟨by show 1 ≤ Try.f21.ntmps; decide +kernel, (lcg_ev s).trans (req_true h1), rfl⟩
  · simp at h
end Go.Proofs.Ytheldjiikjaimaa

namespace Go.Proofs.Ytheldjiikjaimaa
set_option maxRecDepth 100000
open Go.W
def lmsC : Cfg := ⟨tab, [], 17, []⟩
theorem lmsOk : CfgOk Try.prog lmsC (bodyOf Try.f19) := ⟨mixed, tabOk, sums_nil, noL⟩
theorem lms_ev (n : Int) : fnS lmsC 60 Try.f19 (bodyOf Try.f19) [.int .i32 n] = msT n := by kernel_rfl
theorem lms_sum : Sum Try.prog 19 lMsF := by
  refine sum_of lmsOk Try.func19 (by kernel_rfl) (by kernel_rfl) rfl (fuel := 60) fun args v h hpl => ?_
  unfold lMsF at h
  split at h
  · rename_i n
    simp only [Option.some.injEq, Prod.mk.injEq] at h
    obtain ⟨_, rfl⟩ := h
    exact ⟨by show 1 ≤ Try.f19.ntmps; decide +kernel, (lms_ev n).trans (msT_eq n), rfl⟩
  · simp at h
noncomputable def lckS : Sums := [(19, lMsF)]
theorem lckS_ok : SumsOk Try.prog lckS := sums_cons lms_sum sums_nil
noncomputable def lckC0 : Cfg := ⟨tab, lckS, 36, []⟩
theorem lckOk0 : CfgOk Try.prog lckC0 (bodyOf Try.f9) := ⟨mixed, tabOk, lckS_ok, noL⟩
theorem lck_at : codeAt [1, 1, 1, 0, 1, 0] (bodyOf Try.f9) = some (.loop (loopAt [1, 1, 1, 0, 1, 0] (bodyOf Try.f9))) := by kernel_rfl
def lckNt : List Nat := [3, 4, 8]
def lckSt (s : ByteArray) (n l : Int) (p : Nat) : St := ⟨[(3, i64 n), (4, .int .i32 l), (8, .pointer (some ⟨4, 0, none⟩))], [(4, ⟨.itr s p, 0, true⟩)], 5⟩
def lckE (n l : Int) : St := ⟨[(3, i64 n), (4, .int .i32 l)], [], 5⟩
def lckX : St := ⟨[(2, i64 8)], [], 5⟩
noncomputable def lckQ {α : Type} (s : ByteArray) (p : Nat) (n : Int) (no yes : α) : α :=
  bif n == 24 then no else bif !(msB (dcC s p)) then no else bif n == 0 then (bif dcC s p == 32 then no else yes) else yes
theorem lck_rA (s : ByteArray) (n l : Int) (p : Nat) : roundS lckC0 60 [1, 1, 1, 0, 1, 0, 0] (loopAt [1, 1, 1, 0, 1, 0] (bodyOf Try.f9)) lckNt [(4, 4)] 5 [3, 4] [] 5 (lckSt s n l p) =
    bif Nat.blt p s.size then lckQ s p n (some (.ret, lckE n l)) (some (.normal, lckSt s (IntKind.i64.wrap (n + 1)) (dcC s p) (p + dcW s p))) else some (.exit 0, lckE n l) := by kernel_rfl
theorem lck_rB (s : ByteArray) (n l : Int) (p : Nat) : roundS lckC0 60 [1, 1, 1, 0, 1, 0, 0] (loopAt [1, 1, 1, 0, 1, 0] (bodyOf Try.f9)) lckNt [(4, 4)] 5 [2] [] 5 (lckSt s n l p) =
    bif Nat.blt p s.size then lckQ s p n (some (.ret, lckX)) (some (.normal, lckSt s (IntKind.i64.wrap (n + 1)) (dcC s p) (p + dcW s p))) else none := by kernel_rfl
theorem lckQ_eq {α : Type} {s : ByteArray} {k : Nat} (h24 : k ≤ 24) (no yes : α) : lckQ s (ps s k) (k : Int) no yes = if goodL s k then yes else no := by
  unfold lckQ
  rw [dcC_dC, msB_ok, show ((k : Int) == 24) = decide (k = 24) from by rw [Bool.eq_iff_iff, beq_iff_eq, decide_eq_true_iff]; omega, show ((k : Int) == 0) = decide (k = 0) from by rw [Bool.eq_iff_iff, beq_iff_eq, decide_eq_true_iff]; omega,
    show (((dC s (ps s k) : Nat) : Int) == 32) = decide (rc s k = 32) from by rw [Bool.eq_iff_iff, beq_iff_eq, decide_eq_true_iff]; unfold rc; omega]
  by_cases h1 : k = 24
  · rw [decide_eq_true h1, cond_true, if_neg fun h => by have := h.1.2; omega]
  rw [decide_eq_false h1, cond_false]
  by_cases h2 : okC (rc s k)
  · rw [show decide (okC (dC s (ps s k))) = true from decide_eq_true h2, Bool.not_true, cond_false]
    by_cases h3 : k = 0
    · rw [decide_eq_true h3, cond_true]
      by_cases h4 : rc s k = 32
      · rw [decide_eq_true h4, cond_true, if_neg fun h => h.2 h3 h4]
      · rw [decide_eq_false h4, cond_false, if_pos ⟨⟨h2, by omega⟩, fun _ => h4⟩]
    · rw [decide_eq_false h3, cond_false, if_pos ⟨⟨h2, by omega⟩, fun h => absurd h h3⟩]
  · rw [show decide (okC (dC s (ps s k))) = false from decide_eq_false h2, Bool.not_false, cond_true, if_neg fun h => h2 h.1.1]
def lckL (s : ByteArray) : Nat → Int
  | 0 => 0
  | k + 1 => dcC s (ps s k)
theorem lck_next {s : ByteArray} {k : Nat} (hk : k < rN s) (hs : s.size ≤ 1000000) : lckSt s (IntKind.i64.wrap ((k : Int) + 1)) (dcC s (ps s k)) (ps s k + dcW s (ps s k)) = lckSt s ((k + 1 : Nat) : Int) (lckL s (k + 1)) (ps s (k + 1)) := by
  have hN := rN_le s
  have h1 := (rN_is s).1 k hk
  have h2 := ps_lt h1
  rw [wrap_i64 (by omega), dcW_dW, ← h2.2]; rfl
theorem lck_loopA {s : ByteArray} (hs : s.size ≤ 1000000) (hg : ∀ k, k < rN s → goodL s k) : LoopOk Try.prog 36 (loopAt [1, 1, 1, 0, 1, 0] (bodyOf Try.f9)) (atSt lckNt [(4, 4)] 5 (lckSt s 0 0 0) (.exit 0) (lckE ((rN s : Nat) : Int) (lckL s (rN s)))) := by
  have hN := rN_le s
  refine loopE (fun _ => lckC0) (rN s) (fun _ _ => lckOk0) (fun _ => rfl) lck_at (m := 60) (nt := lckNt) (ni := [(4, 4)]) (et := [3, 4]) (ei := []) (nx := 5) (ex := 5) (fun k => lckSt s (k : Int) (lckL s k) (ps s k)) rfl (by intro h; cases h) ?_ ?_
  · intro k hk
    have h1 := (rN_is s).1 k hk
    refine ⟨_, ?_, stEq_refl rfl⟩
    refine (lck_rA s _ _ _).trans ?_
    rw [show Nat.blt (ps s k) s.size = true from by rw [Nat.blt_eq]; exact h1, cond_true, lckQ_eq (by have := (hg k hk).1.2; omega), if_pos (hg k hk), lck_next hk hs]
  · refine ⟨_, ?_, stEq_refl rfl⟩
    refine (lck_rA s _ _ _).trans ?_
    rw [(rN_is s).2, show Nat.blt s.size s.size = false from by rw [Bool.eq_false_iff, ne_eq, Nat.blt_eq]; omega, cond_false]
theorem lck_loopB {s : ByteArray} (hs : s.size ≤ 1000000) {m : Nat} (hm : m < rN s) (hb : ¬ goodL s m) (hg : ∀ k, k < m → goodL s k) : LoopOk Try.prog 36 (loopAt [1, 1, 1, 0, 1, 0] (bodyOf Try.f9)) (atSt lckNt [(4, 4)] 5 (lckSt s 0 0 0) .ret lckX) := by
  have hN := rN_le s
  have hm24 : m ≤ 24 := by
    rcases Nat.lt_or_ge 24 m with h | h
    · have := (hg 24 h).1.2; omega
    · exact h
  refine loopE (fun _ => lckC0) m (fun _ _ => lckOk0) (fun _ => rfl) lck_at (m := 60) (nt := lckNt) (ni := [(4, 4)]) (et := [2]) (ei := []) (nx := 5) (ex := 5) (fun k => lckSt s (k : Int) (lckL s k) (ps s k)) rfl (by intro h; cases h) ?_ ?_
  · intro k hk
    have h1 := (rN_is s).1 k (by omega)
    refine ⟨_, ?_, stEq_refl rfl⟩
    refine (lck_rB s _ _ _).trans ?_
    rw [show Nat.blt (ps s k) s.size = true from by rw [Nat.blt_eq]; exact h1, cond_true, lckQ_eq (by have := (hg k hk).1.2; omega), if_pos (hg k hk), lck_next (by omega) hs]
  · have h1 := (rN_is s).1 m hm
    refine ⟨lckX, ?_, stEq_refl rfl⟩
    refine (lck_rB s _ _ _).trans ?_
    rw [show Nat.blt (ps s m) s.size = true from by rw [Nat.blt_eq]; exact h1, cond_true, lckQ_eq hm24, if_neg hb]
noncomputable def lckCA (s : ByteArray) (n l : Int) : Cfg := ⟨tab, lckS, 36, [([1, 1, 1, 0, 1, 0], atSt lckNt [(4, 4)] 5 (lckSt s 0 0 0) (.exit 0) (lckE n l))]⟩
noncomputable def lckCB (s : ByteArray) : Cfg := ⟨tab, lckS, 36, [([1, 1, 1, 0, 1, 0], atSt lckNt [(4, 4)] 5 (lckSt s 0 0 0) .ret lckX)]⟩
theorem lck_evA (s : ByteArray) (n l : Int) : fnS (lckCA s n l) 60 Try.f9 (bodyOf Try.f9) [.string s] = req (stEq (lckSt s 0 0 0) (lckSt s 0 0 0)) (bif n == 0 then some (i64 8) else bif l == 32 then some (i64 8) else some (i64 0)) := by kernel_rfl
theorem lck_evB (s : ByteArray) : fnS (lckCB s) 60 Try.f9 (bodyOf Try.f9) [.string s] = req (stEq (lckSt s 0 0 0) (lckSt s 0 0 0)) (some (i64 8)) := by kernel_rfl
theorem lck_sum : Sum Try.prog 9 lChF := by
  refine sum_per (c := bodyOf Try.f9) Try.func9 (by kernel_rfl) (by kernel_rfl) (fuel := 60) fun args v h hpl => ?_
  unfold lChF at h
  split at h
  · rename_i s
    simp only [Option.some.injEq, Prod.mk.injEq] at h
    obtain ⟨h1, rfl⟩ := h
    have h1 := Nat.le_of_ble_eq_true h1
    rcases first_or (goodL s) (rN s) with hg | ⟨m, hm, hb, hg⟩
    · refine ⟨lckCA s _ _, ⟨mixed, tabOk, lckS_ok, oneL (lck_loopA h1 hg)⟩, rfl, by show 1 ≤ Try.f9.ntmps; decide +kernel, (lck_evA s _ _).trans ?_, rfl⟩
      rw [req_true (stEq_refl rfl)]
      cases e : rN s with
      | zero => rw [lbE_no fun hl => by have := hl.1; omega]; rfl
      | succ k =>
        rw [show (((k + 1 : Nat) : Int) == 0) = false from beq_eq_false_iff_ne.2 (by omega), cond_false]
        show (bif dcC s (ps s k) == 32 then _ else _) = _
        rw [dcC_dC]
        have he := lbl_end hg
        rw [e] at he
        by_cases h3 : rc s k = 32
        · rw [lbE_no fun hl => (he.1 hl).2 h3, show (((dC s (ps s k) : Nat) : Int) == 32) = true from beq_iff_eq.2 (by unfold rc at h3; omega)]; rfl
        · rw [lbE_yes (he.2 ⟨by omega, h3⟩), show (((dC s (ps s k) : Nat) : Int) == 32) = false from beq_eq_false_iff_ne.2 (by unfold rc at h3; omega)]; rfl
    · refine ⟨lckCB s, ⟨mixed, tabOk, lckS_ok, oneL (lck_loopB h1 hm hb hg)⟩, rfl, by show 1 ≤ Try.f9.ntmps; decide +kernel, (lck_evB s).trans ?_, rfl⟩
      rw [req_true (stEq_refl rfl), lbE_no (not_lblL hm hb)]
  · simp at h
def lruC0 : Cfg := ⟨tab, [], 11, []⟩
theorem lruOk0 : CfgOk Try.prog lruC0 (bodyOf Try.f11) := ⟨mixed, tabOk, sums_nil, noL⟩
theorem lru_at : codeAt [1, 1, 0, 1, 0] (bodyOf Try.f11) = some (.loop (loopAt [1, 1, 0, 1, 0] (bodyOf Try.f11))) := by kernel_rfl
def lruNt : List Nat := [3, 5]
def lruSt (s : ByteArray) (n : Int) (p : Nat) : St := ⟨[(3, i64 n), (5, .pointer (some ⟨3, 0, none⟩))], [(3, ⟨.itr s p, 0, true⟩)], 4⟩
def lruE (n : Int) : St := ⟨[(3, i64 n)], [], 4⟩
theorem lru_r (s : ByteArray) (n : Int) (p : Nat) : roundS lruC0 60 [1, 1, 0, 1, 0, 0] (loopAt [1, 1, 0, 1, 0] (bodyOf Try.f11)) lruNt [(3, 3)] 4 [3] [] 4 (lruSt s n p) =
    bif Nat.blt p s.size then some (.normal, lruSt s (IntKind.i64.wrap (n + 1)) (p + dcW s p)) else some (.exit 0, lruE n) := by kernel_rfl
theorem lru_loop {s : ByteArray} (hs : s.size ≤ 1000000) : LoopOk Try.prog 11 (loopAt [1, 1, 0, 1, 0] (bodyOf Try.f11)) (atSt lruNt [(3, 3)] 4 (lruSt s 0 0) (.exit 0) (lruE ((rN s : Nat) : Int))) := by
  have hN := rN_le s
  refine loopE (fun _ => lruC0) (rN s) (fun _ _ => lruOk0) (fun _ => rfl) lru_at (m := 60) (nt := lruNt) (ni := [(3, 3)]) (et := [3]) (ei := []) (nx := 4) (ex := 4) (fun k => lruSt s (k : Int) (ps s k)) rfl (by intro h; cases h) ?_ ?_
  · intro k hk
    have h1 := (rN_is s).1 k hk
    have h2 := ps_lt h1
    refine ⟨_, ?_, stEq_refl rfl⟩
    refine (lru_r s _ _).trans ?_
    rw [show Nat.blt (ps s k) s.size = true from by rw [Nat.blt_eq]; exact h1, cond_true, dcW_dW, wrap_i64 (by omega), h2.2]; rfl
  · refine ⟨_, ?_, stEq_refl rfl⟩
    refine (lru_r s _ _).trans ?_
    rw [(rN_is s).2, show Nat.blt s.size s.size = false from by rw [Bool.eq_false_iff, ne_eq, Nat.blt_eq]; omega, cond_false]
noncomputable def lruC (s : ByteArray) (n : Int) : Cfg := ⟨tab, [], 11, [([1, 1, 0, 1, 0], atSt lruNt [(3, 3)] 4 (lruSt s 0 0) (.exit 0) (lruE n))]⟩
theorem lru_ev (s : ByteArray) (n : Int) : fnS (lruC s n) 60 Try.f11 (bodyOf Try.f11) [.string s] = req (stEq (lruSt s 0 0) (lruSt s 0 0)) (some (i64 n)) := by kernel_rfl
theorem lru_sum : Sum Try.prog 11 lRnF := by
  refine sum_per (c := bodyOf Try.f11) Try.func11 (by kernel_rfl) (by kernel_rfl) (fuel := 60) fun args v h hpl => ?_
  unfold lRnF at h
  split at h
  · rename_i s
    simp only [Option.some.injEq, Prod.mk.injEq] at h
    obtain ⟨h1, rfl⟩ := h
    have h1 := Nat.le_of_ble_eq_true h1
    refine ⟨lruC s _, ⟨mixed, tabOk, sums_nil, oneL (lru_loop h1)⟩, rfl, by show 1 ≤ Try.f11.ntmps; decide +kernel, (lru_ev s _).trans ?_, rfl⟩
    rw [req_true (stEq_refl rfl)]
  · simp at h
noncomputable def lctS : Sums := [(21, sClF)]
theorem lctS_ok : SumsOk Try.prog lctS := sums_cons lcg_sum sums_nil
noncomputable def lctC0 : Cfg := ⟨tab, lctS, 21, []⟩
theorem lctOk0 : CfgOk Try.prog lctC0 (bodyOf Try.f16) := ⟨mixed, tabOk, lctS_ok, noL⟩
theorem lct_at : codeAt [1, 0, 1, 0] (bodyOf Try.f16) = some (.loop (loopAt [1, 0, 1, 0] (bodyOf Try.f16))) := by kernel_rfl
def lctNt : List Nat := [0, 1, 7]
def lctSt (s : ByteArray) (n : Int) (p : Nat) : St := ⟨[(0, .string s), (1, i64 n), (7, .pointer (some ⟨2, 0, none⟩))], [(2, ⟨.itr s p, 0, true⟩)], 3⟩
def lctE (s : ByteArray) : St := ⟨[(0, .string s)], [], 3⟩
def lctX (t : ByteArray) : St := ⟨[(4, .string t)], [], 3⟩
noncomputable def lctQ {α : Type} (s : ByteArray) (p : Nat) (x : Option α) : Option α :=
  req (decide ((0 : Int) ≤ ((p : Nat) : Int)) && decide (((p : Nat) : Int) ≤ (s.size : Int))) (req (Nat.ble 0 ((p : Nat) : Int).toNat) (req (Nat.ble (s.extract 0 ((p : Nat) : Int).toNat).size 1000000) x))
theorem lct_rA (s : ByteArray) (n : Int) (p : Nat) : roundS lctC0 60 [1, 0, 1, 0, 0] (loopAt [1, 0, 1, 0] (bodyOf Try.f16)) lctNt [(2, 2)] 3 [0] [] 3 (lctSt s n p) =
    bif Nat.blt p s.size then (bif decide (n < 1) then lctQ s p (some (.ret, lctE s)) else some (.normal, lctSt s (IntKind.i64.wrap (n - 1)) (p + dcW s p))) else some (.exit 0, lctE s) := by kernel_rfl
theorem lct_rB (s : ByteArray) (n : Int) (p : Nat) : roundS lctC0 60 [1, 0, 1, 0, 0] (loopAt [1, 0, 1, 0] (bodyOf Try.f16)) lctNt [(2, 2)] 3 [4] [] 3 (lctSt s n p) =
    bif Nat.blt p s.size then (bif decide (n < 1) then lctQ s p (some (.ret, lctX (s.extract 0 ((p : Nat) : Int).toNat))) else some (.normal, lctSt s (IntKind.i64.wrap (n - 1)) (p + dcW s p))) else none := by kernel_rfl
theorem lct_next {s : ByteArray} {n : Int} {k : Nat} (hk : k < rN s) (hn : n < 9223372036854775808) (h1 : 1 ≤ n - (k : Int)) : lctSt s (IntKind.i64.wrap (n - (k : Int) - 1)) (ps s k + dcW s (ps s k)) = lctSt s (n - ((k + 1 : Nat) : Int)) (ps s (k + 1)) := by
  have h2 := ps_lt ((rN_is s).1 k hk)
  rw [wrap_i64 (by omega), dcW_dW, ← h2.2, show n - (k : Int) - 1 = n - ((k + 1 : Nat) : Int) from by omega]
theorem lct_loopA {s : ByteArray} {n : Int} (hn : n < 9223372036854775808) (hg : (rN s : Int) ≤ n) : LoopOk Try.prog 21 (loopAt [1, 0, 1, 0] (bodyOf Try.f16)) (atSt lctNt [(2, 2)] 3 (lctSt s n 0) (.exit 0) (lctE s)) := by
  refine loopE (fun _ => lctC0) (rN s) (fun _ _ => lctOk0) (fun _ => rfl) lct_at (m := 60) (nt := lctNt) (ni := [(2, 2)]) (et := [0]) (ei := []) (nx := 3) (ex := 3) (fun k => lctSt s (n - (k : Int)) (ps s k)) (by show lctSt s n 0 = lctSt s (n - ((0 : Nat) : Int)) 0; rw [show n - ((0 : Nat) : Int) = n from by omega]) (by intro h; cases h) ?_ ?_
  · intro k hk
    have h1 := (rN_is s).1 k hk
    refine ⟨_, ?_, stEq_refl rfl⟩
    refine (lct_rA s _ _).trans ?_
    rw [show Nat.blt (ps s k) s.size = true from by rw [Nat.blt_eq]; exact h1, cond_true, decide_eq_false (by omega), cond_false, lct_next hk hn (by omega)]
  · refine ⟨_, ?_, stEq_refl rfl⟩
    refine (lct_rA s _ _).trans ?_
    rw [(rN_is s).2, show Nat.blt s.size s.size = false from by rw [Bool.eq_false_iff, ne_eq, Nat.blt_eq]; omega, cond_false]
theorem lct_loopZ {s : ByteArray} {n : Int} (h0 : rN s = 0) : LoopOk Try.prog 21 (loopAt [1, 0, 1, 0] (bodyOf Try.f16)) (atSt lctNt [(2, 2)] 3 (lctSt s n 0) (.exit 0) (lctE s)) := by
  refine loopE (fun _ => lctC0) 0 (fun _ _ => lctOk0) (fun _ => rfl) lct_at (m := 60) (nt := lctNt) (ni := [(2, 2)]) (et := [0]) (ei := []) (nx := 3) (ex := 3) (fun _ => lctSt s n 0) rfl (by intro h; cases h) (fun k hk => absurd hk (Nat.not_lt_zero _)) ?_
  refine ⟨_, ?_, stEq_refl rfl⟩
  refine (lct_rA s _ _).trans ?_
  have hz := (rN_is s).2
  rw [h0] at hz
  have hz : (0 : Nat) = s.size := hz
  rw [show Nat.blt 0 s.size = false from by rw [Bool.eq_false_iff, ne_eq, Nat.blt_eq]; omega, cond_false]
theorem lct_loopB {s : ByteArray} {n : Int} (hs : s.size ≤ 1000000) (hn : n < 9223372036854775808) (hg : n.toNat < rN s) : LoopOk Try.prog 21 (loopAt [1, 0, 1, 0] (bodyOf Try.f16)) (atSt lctNt [(2, 2)] 3 (lctSt s n 0) .ret (lctX (cutT s n))) := by
  refine loopE (fun _ => lctC0) n.toNat (fun _ _ => lctOk0) (fun _ => rfl) lct_at (m := 60) (nt := lctNt) (ni := [(2, 2)]) (et := [4]) (ei := []) (nx := 3) (ex := 3) (fun k => lctSt s (n - (k : Int)) (ps s k)) (by show lctSt s n 0 = lctSt s (n - ((0 : Nat) : Int)) 0; rw [show n - ((0 : Nat) : Int) = n from by omega]) (by intro h; cases h) ?_ ?_
  · intro k hk
    have h1 := (rN_is s).1 k (by omega)
    refine ⟨_, ?_, stEq_refl rfl⟩
    refine (lct_rB s _ _).trans ?_
    rw [show Nat.blt (ps s k) s.size = true from by rw [Nat.blt_eq]; exact h1, cond_true, decide_eq_false (by omega), cond_false, lct_next (by omega) hn (by omega)]
  · have h1 := (rN_is s).1 n.toNat hg
    have h2 := ps_le s n.toNat
    refine ⟨lctX (cutT s n), ?_, stEq_refl rfl⟩
    refine (lct_rB s _ _).trans ?_
    unfold lctQ
    rw [show Nat.blt (ps s n.toNat) s.size = true from by rw [Nat.blt_eq]; exact h1, cond_true, decide_eq_true (by omega), cond_true, decide_eq_true (by omega), decide_eq_true (by omega), req_true (b := true && true) rfl, Int.toNat_natCast, Nat.ble_eq_true_of_le (Nat.zero_le _), req_true rfl, Nat.ble_eq_true_of_le (by rw [size_cut h2]; omega), req_true rfl, cutT_eq]
noncomputable def lctCA (s : ByteArray) (n : Int) : Cfg := ⟨tab, lctS, 21, [([1, 0, 1, 0], atSt lctNt [(2, 2)] 3 (lctSt s n 0) (.exit 0) (lctE s))]⟩
noncomputable def lctCB (s : ByteArray) (n : Int) (t : ByteArray) : Cfg := ⟨tab, lctS, 21, [([1, 0, 1, 0], atSt lctNt [(2, 2)] 3 (lctSt s n 0) .ret (lctX t))]⟩
theorem lct_evA (s : ByteArray) (n : Int) : fnS (lctCA s n) 60 Try.f16 (bodyOf Try.f16) [.string s, i64 n] = req (stEq (lctSt s n 0) (lctSt s n 0)) (req (Nat.ble s.size 1000000) (some (.string s))) := by kernel_rfl
theorem lct_evB (s : ByteArray) (n : Int) (t : ByteArray) : fnS (lctCB s n t) 60 Try.f16 (bodyOf Try.f16) [.string s, i64 n] = req (stEq (lctSt s n 0) (lctSt s n 0)) (some (.string t)) := by kernel_rfl
theorem lct_sum : Sum Try.prog 16 lCyF := by
  refine sum_per (c := bodyOf Try.f16) Try.func16 (by kernel_rfl) (by kernel_rfl) (fuel := 60) fun args v h hpl => ?_
  unfold lCyF at h
  split at h
  · rename_i s n
    simp only [Option.some.injEq, Prod.mk.injEq, Bool.and_eq_true, decide_eq_true_eq] at h
    obtain ⟨⟨h1, hn⟩, rfl⟩ := h
    have h1 := Nat.le_of_ble_eq_true h1
    by_cases hg : (rN s : Int) ≤ n
    · refine ⟨lctCA s n, ⟨mixed, tabOk, lctS_ok, oneL (lct_loopA hn hg)⟩, rfl, by show 2 ≤ Try.f16.ntmps; decide +kernel, (lct_evA s n).trans ?_, rfl⟩
      rw [req_true (stEq_refl rfl), Nat.ble_eq_true_of_le h1, req_true rfl, cutT_all s hg]
    · by_cases h0 : rN s = 0
      · refine ⟨lctCA s n, ⟨mixed, tabOk, lctS_ok, oneL (lct_loopZ h0)⟩, rfl, by show 2 ≤ Try.f16.ntmps; decide +kernel, (lct_evA s n).trans ?_, rfl⟩
        have hz := (rN_is s).2
        rw [h0] at hz
        have hz : (0 : Nat) = s.size := hz
        have hp := ps_le s n.toNat
        have e : cutT s n = s := by
          rw [cutT_eq, show ps s n.toNat = s.size from by omega]; exact cut_all s
        rw [req_true (stEq_refl rfl), Nat.ble_eq_true_of_le h1, req_true rfl, e]
      · refine ⟨lctCB s n _, ⟨mixed, tabOk, lctS_ok, oneL (lct_loopB h1 hn (by omega))⟩, rfl, by show 2 ≤ Try.f16.ntmps; decide +kernel, (lct_evB s n _).trans ?_, rfl⟩
        rw [req_true (stEq_refl rfl)]
  · simp at h
def lflC0 : Cfg := ⟨tab, [], 30, []⟩
theorem lflOk0 : CfgOk Try.prog lflC0 (bodyOf Try.f13) := ⟨mixed, tabOk, sums_nil, noL⟩
theorem lfl_at : codeAt [1, 1, 0, 1, 0] (bodyOf Try.f13) = some (.loop (loopAt [1, 1, 0, 1, 0] (bodyOf Try.f13))) := by kernel_rfl
def lflB : Nat := nid 2 0
def lflNt : List Nat := [3, 8, 9, 10]
def lflSt (n : Nat) (F : Nat → List Value) (t : Nat) : St := ⟨[(3, .slice (some ⟨lflB, 0, none⟩) n n), (8, .slice (some ⟨lflB, 0, none⟩) n n), (9, i64 ((n : Nat) : Int)), (10, i64 ((t : Nat) : Int))], [(lflB, ⟨.row kB n F, 5, true⟩)], 7⟩
def lflE (n : Nat) (F : Nat → List Value) : St := ⟨[(3, .slice (some ⟨lflB, 0, none⟩) n n)], [(lflB, ⟨.row kB n F, 5, true⟩)], 7⟩
noncomputable def lflT {α : Type} (n : Nat) (F : Nat → List Value) (t : Nat) (up no out : Option α) : Option α :=
  bif decide (((t : Nat) : Int) < ((n : Nat) : Int)) then req (inR ((t : Nat) : Int) n) (req (Nat.blt t n && true) (bif decide (65 ≤ bI F (0 + t)) then (bif decide (bI F (0 + t) ≤ 90) then req (inR ((t : Nat) : Int) n) (req (Nat.blt t n && true) up) else no) else no)) else out
theorem lfl_r (n : Nat) (F : Nat → List Value) (t : Nat) : roundS lflC0 60 [1, 1, 0, 1, 0, 0] (loopAt [1, 1, 0, 1, 0] (bodyOf Try.f13)) lflNt [(lflB, lflB)] 7 [3] [(lflB, lflB)] 7 (lflSt n F t) =
    lflT n F t (some (.normal, ⟨[(3, .slice (some ⟨lflB, 0, none⟩) n n), (8, .slice (some ⟨lflB, 0, none⟩) n n), (9, i64 ((n : Nat) : Int)), (10, i64 (IntKind.i64.wrap (((t : Nat) : Int) + 1)))], [(lflB, ⟨.row kB n (updR F (0 + t) [.int .u8 (IntKind.u8.wrap (IntKind.u8.wrap (bI F (0 + t) - 65) + 97))]), 5, true⟩)], 7⟩))
      (some (.normal, ⟨[(3, .slice (some ⟨lflB, 0, none⟩) n n), (8, .slice (some ⟨lflB, 0, none⟩) n n), (9, i64 ((n : Nat) : Int)), (10, i64 (IntKind.i64.wrap (((t : Nat) : Int) + 1)))], [(lflB, ⟨.row kB n F, 5, true⟩)], 7⟩)) (some (.exit 0, lflE n F)) := by kernel_rfl
theorem lfl_loop {s : ByteArray} (hs : s.size ≤ 1000000) : LoopOk Try.prog 30 (loopAt [1, 1, 0, 1, 0] (bodyOf Try.f13)) (atSt lflNt [(lflB, lflB)] 7 (lflSt s.size (loK s 0) 0) (.exit 0) (lflE s.size (loK s s.size))) := by
  refine loopE (fun _ => lflC0) s.size (fun _ _ => lflOk0) (fun _ => rfl) lfl_at (m := 60) (nt := lflNt) (ni := [(lflB, lflB)]) (et := [3]) (ei := [(lflB, lflB)]) (nx := 7) (ex := 7) (fun k => lflSt s.size (loK s k) k) rfl (by intro h; cases h) ?_ ?_
  · intro k hk
    have hb := byt_lt s k
    have hin : inR ((k : Nat) : Int) s.size = true := by unfold inR; rw [decide_eq_true (by omega), decide_eq_true (by omega)]; rfl
    have hbl : Nat.blt k s.size = true := by rw [Nat.blt_eq]; exact hk
    have hx : bI (loK s k) (0 + k) = ((byt s k : Nat) : Int) := by rw [Nat.zero_add, bI_loK, if_neg (Nat.lt_irrefl _)]
    have hsl : ∀ F : Nat → List Value, (⟨[(3, .slice (some ⟨lflB, 0, none⟩) s.size s.size), (8, .slice (some ⟨lflB, 0, none⟩) s.size s.size), (9, i64 ((s.size : Nat) : Int)), (10, i64 (IntKind.i64.wrap (((k : Nat) : Int) + 1)))], [(lflB, ⟨.row kB s.size F, 5, true⟩)], 7⟩ : St) = lflSt s.size F (k + 1) := fun F => by
      rw [wrap_i64 (by omega)]; rfl
    by_cases hu : 65 ≤ byt s k ∧ byt s k ≤ 90
    · refine ⟨_, (lfl_r s.size (loK s k) k).trans ?_, stEq_mk (sl := [(3, .slice (some ⟨lflB, 0, none⟩) s.size s.size), (8, .slice (some ⟨lflB, 0, none⟩) s.size s.size), (9, i64 ((s.size : Nat) : Int)), (10, i64 (((k + 1 : Nat) : Nat) : Int))]) rfl (mRow (fun j _ => loK_up s hu j) mNil)⟩
      unfold lflT
      rw [hsl, decide_eq_true (by omega), cond_true, hin, req_true rfl, hbl, req_true (b := true && true) rfl, decide_eq_true (by rw [hx]; omega), decide_eq_true (by rw [hx]; omega), cond_true, cond_true, req_true rfl, req_true (b := true && true) rfl]; rfl
    · refine ⟨_, (lfl_r s.size (loK s k) k).trans ?_, stEq_mk (sl := [(3, .slice (some ⟨lflB, 0, none⟩) s.size s.size), (8, .slice (some ⟨lflB, 0, none⟩) s.size s.size), (9, i64 ((s.size : Nat) : Int)), (10, i64 (((k + 1 : Nat) : Nat) : Int))]) rfl (mRow (fun j _ => loK_no s hu j) mNil)⟩
      unfold lflT
      rw [hsl (loK s k), decide_eq_true (by omega), cond_true, hin, req_true rfl, hbl, req_true (b := true && true) rfl]
      by_cases h1 : 65 ≤ byt s k
      · rw [decide_eq_true (by rw [hx]; omega), decide_eq_false (by rw [hx]; omega)]; rfl
      · rw [decide_eq_false (by rw [hx]; omega)]; rfl
  · refine ⟨lflE s.size (loK s s.size), (lfl_r s.size (loK s s.size) s.size).trans ?_, stEq_refl rfl⟩
    unfold lflT
    rw [decide_eq_false (by omega), cond_false]
noncomputable def lflC (s : ByteArray) (F0 F : Nat → List Value) : Cfg := ⟨tab, [], 30, [([1, 1, 0, 1, 0], atSt lflNt [(lflB, lflB)] 7 (lflSt s.size F0 0) (.exit 0) (lflE s.size F))]⟩
theorem lfl_ev (s : ByteArray) (F0 F : Nat → List Value) : fnS (lflC s F0 F) 60 Try.f13 (bodyOf Try.f13) [.string s] = req (stEq (lflSt s.size (strF s) 0) (lflSt s.size F0 0)) (req (kb3 s.size) (some (.string (rowS s.size (sgF s.size F))))) := by kernel_rfl
theorem lfl_sum : Sum Try.prog 13 lFoF := by
  refine sum_per (c := bodyOf Try.f13) Try.func13 (by kernel_rfl) (by kernel_rfl) (fuel := 60) fun args v h hpl => ?_
  unfold lFoF at h
  split at h
  · rename_i s
    simp only [Option.some.injEq, Prod.mk.injEq] at h
    obtain ⟨h1, rfl⟩ := h
    have h1 := Nat.le_of_ble_eq_true h1
    refine ⟨lflC s _ _, ⟨mixed, tabOk, sums_nil, oneL (lfl_loop h1)⟩, rfl, by show 1 ≤ Try.f13.ntmps; decide +kernel, (lfl_ev s _ _).trans ?_, rfl⟩
    have h0 : stEq (lflSt s.size (strF s) 0) (lflSt s.size (loK s 0) 0) = true :=
      stEq_mk (sl := [(3, .slice (some ⟨lflB, 0, none⟩) s.size s.size), (8, .slice (some ⟨lflB, 0, none⟩) s.size s.size), (9, i64 ((s.size : Nat) : Int)), (10, i64 (((0 : Nat) : Nat) : Int))]) rfl (mRow (fun j _ => loK_zero s j) mNil)
    rw [req_true h0, kb3_true, req_true rfl,
      foR_text (fun j hj => by rw [bI_sg, bI_loK, if_pos hj])]
  · simp at h
noncomputable def lsmS : Sums := [(13, lFoF)]
theorem lsmS_ok : SumsOk Try.prog lsmS := sums_cons lfl_sum sums_nil
noncomputable def lsmC : Cfg := ⟨tab, lsmS, 10, []⟩
theorem lsmOk : CfgOk Try.prog lsmC (bodyOf Try.f15) := ⟨mixed, tabOk, lsmS_ok, noL⟩
theorem lsm_ev (a b : ByteArray) : fnS lsmC 60 Try.f15 (bodyOf Try.f15) [.string a, .string b] = req (Nat.ble a.size 1000000) (req (Nat.ble b.size 1000000) (some (.bool (foT a == foT b)))) := by kernel_rfl
theorem lsm_sum : Sum Try.prog 15 lSaF := by
  refine sum_of lsmOk Try.func15 (by kernel_rfl) (by kernel_rfl) rfl (fuel := 60) fun args v h hpl => ?_
  unfold lSaF at h
  split at h
  · rename_i a b
    simp only [Option.some.injEq, Prod.mk.injEq, Bool.and_eq_true] at h
    obtain ⟨⟨h1, h2⟩, rfl⟩ := h
    exact ⟨by show 2 ≤ Try.f15.ntmps; decide +kernel, (lsm_ev a b).trans (by rw [h1, h2]; rfl), rfl⟩
  · simp at h
end Go.Proofs.Ytheldjiikjaimaa

namespace Go.W
open Go
def tf (b : Bool) : Option Value := some (.bool b)
def qS {α : Type} (s : ByteArray) (x : Option α) : Option α := req (Nat.ble s.size 1000000) x
theorem qS_eq {α : Type} {s : ByteArray} (h : s.size ≤ 1000000) (x : Option α) : qS s x = x := by unfold qS; rw [Nat.ble_eq_true_of_le h, req_true rfl]
def qC {α : Type} (s : ByteArray) (n : Int) (x : Option α) : Option α := req (Nat.ble s.size 1000000 && decide (n < 9223372036854775808)) x
theorem qC_eq {α : Type} {s : ByteArray} {n : Int} (h : s.size ≤ 1000000) (hn : n < 9223372036854775808) (x : Option α) : qC s n x = x := by unfold qC; rw [Nat.ble_eq_true_of_le h, decide_eq_true hn, req_true (b := true && true) rfl]
theorem wf_i64 {n : Int} (h : (Lit.int .i64 n).wf = true) : n < 9223372036854775808 := by
  have : -9223372036854775808 ≤ n ∧ n ≤ 9223372036854775807 := by simpa [Lit.wf, IntKind.has, IntKind.min, IntKind.max, IntKind.signed, IntKind.bits] using h
  omega
theorem txs (a : ByteArray) : (a == a) = true := by rw [txt_eq]; exact decide_eq_true rfl
theorem rN_lit {s : ByteArray} (n : Nat) (h : (∀ k, k < n → ps s k < s.size) ∧ ps s n = s.size) : rN s = n := rN_of h
theorem lbl_lit {s : ByteArray} (n : Nat) (h : (∀ k, k < n → ps s k < s.size) ∧ ps s n = s.size) (h1 : 1 ≤ n ∧ n ≤ 24 ∧ (∀ k, k < n → okC (rc s k)) ∧ rc s 0 ≠ 32 ∧ rc s (n - 1) ≠ 32) : lbl s := by
  unfold lbl; rw [rN_lit n h]; exact h1
def tA : ByteArray := ⟨#[65, 100, 97, 32, 76, 46]⟩
def tB : ByteArray := ⟨#[32, 120]⟩
def tC : ByteArray := ⟨#[65, 100, 97]⟩
def tD : ByteArray := ⟨#[97, 68, 65]⟩
def tE : ByteArray := ⟨#[195, 164, 98]⟩
theorem tA_lbl : lbl tA := lbl_lit 6 (by decide +kernel) (by decide +kernel)
theorem tB_no : ¬ lbl tB := fun h => h.2.2.2.1 (by decide +kernel)
theorem tE_rN : rN tE = 2 := rN_lit 2 (by decide +kernel)
theorem tCD : foT tC = foT tD := txt_ext (by rw [foT_size, foT_size]; rfl) fun j hj => by
  rw [foT_size] at hj
  have hj : j < 3 := hj
  rw [byt_fo, byt_fo]
  match j, hj with
  | 0, _ => decide +kernel
  | 1, _ => decide +kernel
  | 2, _ => decide +kernel
noncomputable def wk11T : Option Value := bif lbE tA == 0 then bif lbE tB == 8 then bif foT tC == foT tD then some (.bool (((rN tE : Nat) : Int) == 2)) else tf false else tf false else tf false
theorem wk11T_eq : wk11T = some (.bool true) := by
  unfold wk11T
  rw [lbE_yes tA_lbl, lbE_no tB_no, tCD, txs, tE_rN]; rfl
def Wk11F : List Value → Option (Bool × Value)
  | [] => some (true, .bool true)
  | _ => none
noncomputable def lexR (s t : ByteArray) (n : Int) : Option Value :=
  qS s (qS s (bif ((rN s : Nat) : Int) == ((rN s : Nat) : Int) then qS s (qS s (bif foT s == foT s then req (Nat.ble s.size 1000000 && Nat.ble t.size 1000000) (qS s (qS t (bif (foT s == foT t) == (foT s == foT t) then qC s n (qS s (bif cutT s n == cutT s n then tf true else tf false)) else tf false))) else tf false)) else tf false))
noncomputable def lexT (s t : ByteArray) (n : Int) : Option Value :=
  bif decide ((s.size : Int) > 500) then tf true else bif decide ((t.size : Int) > 500) then tf true else qS s (qS s (bif !((lbE s == 0) == lblB s) then tf false else bif !(lbE s == 0) then qS s (bif lbE s != 8 then tf false else lexR s t n) else lexR s t n))
theorem lexT_eq (s t : ByteArray) {n : Int} (hn : n < 9223372036854775808) : lexT s t n = some (.bool true) := by
  unfold lexT
  by_cases h1 : (s.size : Int) > 500
  · rw [decide_eq_true h1]; rfl
  by_cases h2 : (t.size : Int) > 500
  · rw [decide_eq_false h1, decide_eq_true h2]; rfl
  have hR : lexR s t n = some (.bool true) := by
    unfold lexR
    rw [qS_eq (by omega), qS_eq (by omega), beq_self_eq_true, cond_true, qS_eq (by omega), qS_eq (by omega), txs, cond_true, Nat.ble_eq_true_of_le (show s.size ≤ 1000000 by omega), Nat.ble_eq_true_of_le (show t.size ≤ 1000000 by omega), req_true (b := true && true) rfl,
      qS_eq (by omega), qS_eq (by omega), beq_self_eq_true, cond_true, qC_eq (by omega) hn, qS_eq (by omega), txs]; rfl
  rw [decide_eq_false h1, decide_eq_false h2, cond_false, cond_false, qS_eq (by omega), qS_eq (by omega), hR]
  by_cases h : lbl s
  · rw [lbE_yes h, lblB_iff.2 h]; rfl
  · rw [lbE_no h, show lblB s = false from by rw [Bool.eq_false_iff, ne_eq, lblB_iff]; exact h, qS_eq (by omega)]; rfl
end Go.W

namespace Go.Proofs.Ytheldjiikjaimaa
set_option maxRecDepth 100000
open Go.W
open Go.RowKit (Below)
noncomputable def wk11S : Sums := [(9, lChF), (15, lSaF), (11, lRnF)]
theorem wk11S_ok : SumsOk Try.prog wk11S := sums_cons lck_sum (sums_cons lsm_sum (sums_cons lru_sum sums_nil))
noncomputable def wk11C : Cfg := ⟨tab, wk11S, 14, []⟩
theorem wk11Ok : CfgOk Try.prog wk11C (bodyOf Try.f18) := ⟨mixed, tabOk, wk11S_ok, noL⟩
theorem wk11_ev : fnS wk11C 60 Try.f18 (bodyOf Try.f18) [] = wk11T := by kernel_rfl
theorem wk11_sum : Sum Try.prog 18 Wk11F := by
  refine sum_of wk11Ok Try.func18 (by kernel_rfl) (by kernel_rfl) rfl (fuel := 60) fun args v h hpl => ?_
  unfold Wk11F at h
  split at h
  · simp only [Option.some.injEq, Prod.mk.injEq] at h
    obtain ⟨_, rfl⟩ := h
    exact ⟨Nat.zero_le _, wk11_ev.trans wk11T_eq, rfl⟩
  · simp at h
noncomputable def lexS : Sums := [(9, lChF), (11, lRnF), (13, lFoF), (15, lSaF), (16, lCyF), (10, lLbF), (12, lRnF), (14, lFoF), (17, lCuF), (18, Wk11F)]
theorem lexS_ok : SumsOk Try.prog lexS := sums_cons lck_sum (sums_cons lru_sum (sums_cons lfl_sum (sums_cons lsm_sum (sums_cons lct_sum (sums_cons lb_sum (sums_cons rn_sum (sums_cons fld_sum (sums_cons cu_sum (sums_cons wk11_sum sums_nil)))))))))
noncomputable def lexC : Cfg := ⟨tab, lexS, 67, []⟩
theorem lexOk : CfgOk Try.prog lexC (bodyOf Try.f3) := ⟨mixed, tabOk, lexS_ok, noL⟩
theorem lex_ev (s t : ByteArray) (n : Int) : fnS lexC 60 Try.f3 (bodyOf Try.f3) [.string s, .string t, i64 n] = lexT s t n := by kernel_rfl
theorem lex_calls {s t : ByteArray} {n : Int} {W : World} (hn : (Lit.int .i64 n).wf = true) : Calls Try.prog 3 #[.string s, .string t, .int .i64 n] W fun e W' => e = .returned (.bool true) ∧ Below W.heap.size W W' :=
  fn_sound lexOk Try.func3 (by kernel_rfl) rfl (args := [.string s, .string t, .int .i64 n]) (fuel := 60) (by show 3 ≤ Try.f3.ntmps; decide +kernel) (by kernel_rfl) ((lex_ev s t n).trans (lexT_eq s t (wf_i64 hn))) rfl W (GOk_nil _)
end Go.Proofs.Ytheldjiikjaimaa
