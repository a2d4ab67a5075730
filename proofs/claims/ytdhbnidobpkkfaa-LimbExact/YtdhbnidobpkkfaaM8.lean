/-
  The law of orders, as a tree over numbers.
-/
import Derived.Test.YtdhbnidobpkkfaaM6
import Derived.Test.YtdhbnidobpkkfaaM7
namespace Go.W

theorem bytesL_get : ∀ (n X k : Nat), k < n → (bytesL n X)[n - 1 - k]? = some (u8 (X / 256 ^ k % 256))
  | 0, _, _, h => absurd h (by omega)
  | n + 1, X, 0, _ => by
    show (bytesL n (X / 256) ++ [u8 (X % 256)])[n]? = _
    rw [List.getElem?_append_right (by rw [bytesL_len]; exact Nat.le_refl n), bytesL_len, Nat.sub_self]
    simp
  | n + 1, X, k + 1, h => by
    show (bytesL n (X / 256) ++ [u8 (X % 256)])[n - (k + 1)]? = _
    rw [List.getElem?_append_left (by rw [bytesL_len]; omega), show n - (k + 1) = n - 1 - k from by omega, bytesL_get n (X / 256) k (by omega), Nat.pow_succ, Nat.mul_comm, ← Nat.div_div_eq_div_mul]

/-- How the lower bytes stand to one another. -/
def ordW (A B k : Nat) : Int := cmpI (A % 256 ^ k) (B % 256 ^ k)

theorem ordW_zero (A B : Nat) : ordW A B 0 = 0 := by unfold ordW cmpI; simp [Nat.mod_one]

theorem ordW_succ (A B k : Nat) : ordW A B (k + 1) = if A / 256 ^ k % 256 < B / 256 ^ k % 256 then -1 else if B / 256 ^ k % 256 < A / 256 ^ k % 256 then 1 else ordW A B k := by
  unfold ordW cmpI
  have ha := Nat.mod_lt A (show 0 < 256 ^ k from Nat.pow_pos (by decide))
  have hb := Nat.mod_lt B (show 0 < 256 ^ k from Nat.pow_pos (by decide))
  rw [Nat.pow_succ, Nat.mod_mul, Nat.mod_mul]
  generalize A / 256 ^ k % 256 = x
  generalize B / 256 ^ k % 256 = y
  generalize A % 256 ^ k = a at *
  generalize B % 256 ^ k = b at *
  generalize 256 ^ k = p at *
  rcases Nat.lt_trichotomy x y with h | rfl | h
  · have : p * x + p ≤ p * y := by rw [← Nat.mul_succ]; exact Nat.mul_le_mul_left p h
    rw [if_pos h, if_pos (by omega)]
  · rw [if_neg (Nat.lt_irrefl x), if_neg (Nat.lt_irrefl x)]
    congr 1
    · exact propext ⟨fun h => by omega, fun h => by omega⟩
    · congr 1
      exact propext ⟨fun h => by omega, fun h => by omega⟩
  · have : p * y + p ≤ p * x := by rw [← Nat.mul_succ]; exact Nat.mul_le_mul_left p h
    rw [if_neg (show ¬ (a + p * x < b + p * y) by omega), if_pos (show b + p * y < a + p * x by omega), if_neg (show ¬ (x < y) by omega), if_pos h]

theorem ordW_last {A B : Nat} (hA : A < 2 ^ 256) (hB : B < 2 ^ 256) : ordW A B 32 = cmpI A B := by
  unfold ordW; rw [p256, Nat.mod_eq_of_lt hA, Nat.mod_eq_of_lt hB]

def ordEnd (a b : Value) (want : Int) : Option Value :=
  req (isNum a) <| req (isNum b) <| bif decide ((bitLen (unnum a) : Int) ≥ (bitLen (unnum b) : Int)) then tru else bif decide (want < 0) then tru else fls
def OrdT (a b c : Value) (want : Int) : Option Value :=
  r2 a b <| bif cmpI (unnum a) (unnum b) != want then fls else
  r2 a b <| bif decide (cmpI (unnum a) (unnum b) ≤ 0) then (r2 b c <| bif decide (cmpI (unnum b) (unnum c) ≤ 0) then (r2 a c <| bif decide (cmpI (unnum a) (unnum c) > 0) then fls else ordEnd a b want) else ordEnd a b want) else ordEnd a b want

theorem bitLen_mono {a b : Nat} (h : a ≤ b) : bitLen a ≤ bitLen b := by
  refine bitLen_lt (Nat.lt_of_le_of_lt h ?_)
  exact (bitLen_spec b).1

theorem ordEnd_eq {A B : Nat} (hA : A < 2 ^ 256) (hB : B < 2 ^ 256) : ordEnd (num A) (num B) (cmpI A B) = tru := by
  unfold ordEnd
  rw [isNum_num, isNum_num, req_true rfl, req_true rfl, unnum_lt hA, unnum_lt hB]
  by_cases h : bitLen B ≤ bitLen A
  · rw [decide_eq_true (by omega)]; rfl
  · have hlt : A < B := by
      rcases Nat.lt_or_ge A B with h' | h'
      · exact h'
      · exact absurd (bitLen_mono h') h
    rw [decide_eq_false (by omega), cond_false, decide_eq_true (by unfold cmpI; rw [if_pos hlt]; decide)]; rfl

theorem OrdT_eq {A B C : Nat} (hA : A < 2 ^ 256) (hB : B < 2 ^ 256) (hC : C < 2 ^ 256) : OrdT (num A) (num B) (num C) (cmpI A B) = tru := by
  unfold OrdT
  simp only [r2_num, unnum_lt hA, unnum_lt hB, unnum_lt hC, ordEnd_eq hA hB]
  rw [show (cmpI A B != cmpI A B) = false from by simp, cond_false]
  by_cases h1 : cmpI A B ≤ 0
  · rw [decide_eq_true h1, cond_true]
    by_cases h2 : cmpI B C ≤ 0
    · rw [decide_eq_true h2, cond_true]
      have h3 : ¬ (cmpI A C > 0) := by
        unfold cmpI at *
        split at h1 <;> split at h2 <;> (try split at h1) <;> (try split at h2) <;> (try omega) <;> (split <;> (try split) <;> omega)
      rw [decide_eq_false h3, cond_false]
    · rw [decide_eq_false h2, cond_false]
  · rw [decide_eq_false h1, cond_false]

end Go.W
