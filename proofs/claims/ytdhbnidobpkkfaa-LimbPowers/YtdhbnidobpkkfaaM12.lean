/-
  Powers of two: the law as a tree over numbers.
-/
import Derived.Test.YtdhbnidobpkkfaaM11
namespace Go.W

theorem bitN_add {q k L n : Nat} (hn : n < k) : bitN (q * 2 ^ k + L) n = bitN L n := by
  unfold bitN
  have e : q * 2 ^ k = 2 ^ n * (2 * (2 ^ (k - 1 - n) * q)) := by
    have : (2 : Nat) ^ k = 2 ^ n * (2 * 2 ^ (k - 1 - n)) := by
      rw [← Nat.pow_succ', ← Nat.pow_add]
      congr 1; omega
    rw [this, Nat.mul_comm q]; simp only [Nat.mul_assoc]
  rw [e, Nat.add_comm, Nat.add_mul_div_left _ _ (Nat.two_pow_pos n)]
  omega

theorem bitN_mod_lt {A k n : Nat} (hn : n < k) : bitN (A % 2 ^ k) n = bitN A n := by
  have h := bitN_add (q := A / 2 ^ k) (L := A % 2 ^ k) hn
  rw [Nat.mul_comm, Nat.div_add_mod] at h
  exact h.symm

theorem bitN_small {A n : Nat} (h : A < 2 ^ n) : bitN A n = 0 := by unfold bitN; rw [Nat.div_eq_of_lt h]

theorem bitN_mod_ge {A k n : Nat} (hn : k ≤ n) : bitN (A % 2 ^ k) n = 0 :=
  bitN_small (Nat.lt_of_lt_of_le (Nat.mod_lt _ (Nat.two_pow_pos k)) (Nat.pow_le_pow_right (by decide) hn))

theorem bitN_shl_lt {A k n : Nat} (hn : n < k) : bitN (A * 2 ^ k) n = 0 := by
  have h := bitN_add (q := A) (L := 0) hn
  rw [Nat.add_zero] at h
  rw [h]; unfold bitN; simp

theorem bitN_shl_ge {A k n : Nat} (hn : k ≤ n) : bitN (A * 2 ^ k) n = bitN A (n - k) := by
  unfold bitN
  have e : (2 : Nat) ^ n = 2 ^ k * 2 ^ (n - k) := by rw [← Nat.pow_add]; congr 1; omega
  rw [e, Nat.mul_comm A, Nat.mul_div_mul_left _ _ (Nat.two_pow_pos k)]

theorem bitN_div {X k n : Nat} : bitN (X / 2 ^ k) n = bitN X (n + k) := by
  unfold bitN
  rw [Nat.div_div_eq_div_mul, ← Nat.pow_add, Nat.add_comm n k]

def pwK (k : Int) : Int := IntKind.i64.wrap ((IntKind.u64.wrap k).tmod 256)
def pwI (k : Int) : Int := IntKind.i64.wrap (k.tdiv 64)
def pwR (k : Int) : Int := IntKind.u64.wrap (k.tmod 64)
def pwC (k : Int) : List Value := ([u64 0, u64 0, u64 0, u64 0] : List Value).set (0 + (pwI k).toNat * 1) (.int .u64 (iShl .u64 1 (pwR k)))

theorem pwK_nat (k : Int) : ∃ n : Nat, n < 256 ∧ pwK k = (n : Int) := by
  unfold pwK
  rw [wrap_u64]
  have h0 : 0 ≤ k % 18446744073709551616 := by omega
  rw [Int.tmod_eq_emod_of_nonneg h0, wrap_i64 (by omega)]
  exact ⟨(k % 18446744073709551616 % 256).toNat, by omega, by omega⟩

theorem pw_parts {n : Nat} (hn : n < 256) : pwI (n : Int) = ((n / 64 : Nat) : Int) ∧ pwR (n : Int) = ((n % 64 : Nat) : Int) := by
  unfold pwI pwR
  have e1 : (n : Int).tdiv 64 = ((n / 64 : Nat) : Int) := by rw [Int.tdiv_eq_ediv_of_nonneg (by omega)]; omega
  have e2 : (n : Int).tmod 64 = ((n % 64 : Nat) : Int) := by rw [Int.tmod_eq_emod_of_nonneg (by omega)]; omega
  rw [e1, e2, wrap_i64 (by omega), wrap_u64]
  exact ⟨rfl, by omega⟩

theorem shl_one {r : Nat} (hr : r < 64) : iShl .u64 1 (r : Int) = ((2 ^ r : Nat) : Int) := by
  unfold iShl
  have : min (r : Int).toNat IntKind.u64.bits = r := by show min r 64 = r; omega
  have hlt : (2 : Nat) ^ r < 18446744073709551616 := by rw [show (18446744073709551616 : Nat) = 2 ^ 64 from rfl]; exact Nat.pow_lt_pow_right (by decide) hr
  rw [this, wrap_u64, Int.one_mul]
  have e : ((2 : Int) ^ r) = ((2 ^ r : Nat) : Int) := by simp
  rw [e]
  exact Int.emod_eq_of_lt (Int.natCast_nonneg _) (Int.ofNat_lt.2 hlt)

def cells4 (X : Nat) : List Value := [u64 (dig X 0), u64 (dig X 1), u64 (dig X 2), u64 (dig X 3)]

theorem numd_cells {a b c d X : Nat} (h : num X = numd a b c d) : [u64 a, u64 b, u64 c, u64 d] = cells4 X := by
  have := congrArg (fun v : Value => v.cells.toList) h
  exact this.symm

theorem pwC_eq {n : Nat} (hn : n < 256) : pwC (n : Int) = cells4 (2 ^ n) := by
  obtain ⟨e1, e2⟩ := pw_parts hn
  have hr : n % 64 < 64 := Nat.mod_lt _ (by decide)
  unfold pwC
  rw [e1, e2, shl_one hr, Int.toNat_natCast, Nat.zero_add, Nat.mul_one]
  have hlt : (2 : Nat) ^ (n % 64) < 18446744073709551616 := by rw [show (18446744073709551616 : Nat) = 2 ^ 64 from rfl]; exact Nat.pow_lt_pow_right (by decide) hr
  have z : (0 : Nat) < 18446744073709551616 := by decide
  have hp : (2 : Nat) ^ n = 2 ^ (64 * (n / 64)) * 2 ^ (n % 64) := by rw [← Nat.pow_add, Nat.div_add_mod]
  have hq : n / 64 < 4 := by omega
  rw [hp]
  generalize 2 ^ (n % 64) = p at *
  generalize n / 64 = q at *
  match q, hq with
  | 0, _ =>
    have := num_hor hlt z z z 0
    rw [show hor p 0 0 (0 + 18446744073709551616 * 0) = 2 ^ (64 * 0) * p from by unfold hor; omega] at this
    exact numd_cells this
  | 1, _ =>
    have := num_hor z hlt z z 0
    rw [show hor 0 p 0 (0 + 18446744073709551616 * 0) = 2 ^ (64 * 1) * p from by unfold hor; omega] at this
    exact numd_cells this
  | 2, _ =>
    have := num_hor z z hlt z 0
    rw [show hor 0 0 p (0 + 18446744073709551616 * 0) = 2 ^ (64 * 2) * p from by unfold hor; omega] at this
    exact numd_cells this
  | 3, _ =>
    have := num_hor z z z hlt 0
    rw [show hor 0 0 0 (p + 18446744073709551616 * 0) = 2 ^ (64 * 3) * p from by unfold hor; omega] at this
    exact numd_cells this

def pwBit {α : Type} (lo hi : Value) (i : Int) (K : Int → Option α) : Option α :=
  req (isNum lo) <| bif decide (i ≥ 256) then (req (isNum hi) <| K (bitI (unnum hi) (IntKind.i64.wrap (i - 256)))) else K (bitI (unnum lo) i)
def pwWant {α : Type} (a : Value) (k i : Int) (K : Int → Option α) : Option α := req (isNum a) <| bif decide (i ≥ k) then K 0 else K (bitI (unnum a) i)
def pwRound {α : Type} (a lo hi r : Value) (k i : Int) (ret next out : Option α) : Option α :=
  bif decide (i < 512) then pwBit lo hi i (fun bit => req (isNum a) <| bif bit != bitI (unnum a) (IntKind.i64.wrap (i - k)) then ret else
    pwWant a k i (fun want => bif decide (i < 256) then (req (isNum r) <| bif bitI (unnum r) i != want then ret else next) else next))
  else out

theorem pwRound_eq {α : Type} {A n i : Nat} (hA : A < 2 ^ 256) (hn : n < 256) (hi : i < 512) (ret next out : Option α) :
    pwRound (num A) (num (A * 2 ^ n)) (num (A * 2 ^ n / 2 ^ 256)) (num (A % 2 ^ n)) (n : Int) (i : Int) ret next out = next := by
  have hbit : ∀ K : Int → Option α, pwBit (num (A * 2 ^ n)) (num (A * 2 ^ n / 2 ^ 256)) (i : Int) K = K ((bitN (A * 2 ^ n) i : Nat) : Int) := by
    intro K
    unfold pwBit
    rw [isNum_num, isNum_num, req_true rfl, req_true rfl]
    by_cases h : 256 ≤ i
    · rw [decide_eq_true (by omega), cond_true, show ((i : Int) - 256) = ((i - 256 : Nat) : Int) from by omega, wrap_i64 (by omega), bitI_nat (by omega), unnum_num, bitN_mod_lt (by omega), bitN_div, Nat.sub_add_cancel h]
    · rw [decide_eq_false (by omega), cond_false, bitI_nat (by omega), unnum_num, bitN_mod_lt (by omega)]
  unfold pwRound
  rw [decide_eq_true (by omega), cond_true, hbit, isNum_num, req_true rfl, unnum_lt hA, wrap_i64 (by omega)]
  have e1 : ((bitN (A * 2 ^ n) i : Nat) : Int) = bitI A ((i : Int) - (n : Int)) := by
    by_cases h : n ≤ i
    · rw [bitN_shl_ge h, show ((i : Int) - (n : Int)) = ((i - n : Nat) : Int) from by omega]
      by_cases h2 : i - n ≤ 255
      · rw [bitI_nat h2]
      · rw [bitN_small (Nat.lt_of_lt_of_le hA (Nat.pow_le_pow_right (by decide) (by omega)))]
        unfold bitI; rw [if_neg (by omega)]; rfl
    · rw [bitN_shl_lt (by omega)]
      unfold bitI; rw [if_neg (by omega)]; rfl
  have hne : ∀ x : Int, (x != x) = false := fun x => bne_self_eq_false x
  rw [e1, hne, cond_false]
  have hP : A % 2 ^ n < 2 ^ 256 := Nat.lt_of_le_of_lt (Nat.mod_le _ _) hA
  unfold pwWant
  have hrt : ∀ k : Option α, req true k = k := fun _ => rfl
  simp only [isNum_num, hrt, unnum_lt hA, unnum_lt hP]
  by_cases h256 : i < 256
  · rw [decide_eq_true (show (i : Int) < 256 by omega), cond_true, cond_true, bitI_nat (by omega), bitI_nat (by omega)]
    by_cases h : n ≤ i
    · rw [decide_eq_true (by omega), cond_true, bitN_mod_ge h]; rfl
    · rw [decide_eq_false (by omega), cond_false, bitN_mod_lt (by omega), hne]; rfl
  · rw [decide_eq_false (show ¬ (i : Int) < 256 by omega), cond_false, cond_false]
    cases decide ((i : Int) ≥ (n : Int)) <;> rfl

theorem bitLen_two (n : Nat) : bitLen (2 ^ n) = n + 1 := by
  have := bitLen_hi (a := 0) (q := 1) (k := n) (Nat.two_pow_pos n) (by decide)
  rw [Nat.zero_add, Nat.mul_one] at this
  rw [this]; rfl

def PowEnd (p : Value) (k : Int) : Option Value := req (isNum p) <| bif (bitLen (unnum p) : Int) == IntKind.i64.wrap (k + 1) then tru else fls
theorem PowEnd_eq {n : Nat} (hn : n < 256) : PowEnd (num (2 ^ n)) (n : Int) = tru := by
  have hP : (2 : Nat) ^ n < 2 ^ 256 := Nat.pow_lt_pow_right (by decide) hn
  unfold PowEnd
  rw [isNum_num, req_true rfl, unnum_lt hP, bitLen_two, wrap_i64 (by omega), show (((n + 1 : Nat) : Int) == (n : Int) + 1) = true from beq_iff_eq.2 (by omega)]; rfl

def PowT (a p z : Value) (k : Option Value) : Option Value := r2 a p <| r3 z a p <| bif modEv p != 0 then fls else k
theorem PowT_eq {A P : Nat} (hP : P < 2 ^ 256) (h0 : P ≠ 0) (k : Option Value) : PowT (num A) (num P) (num 0) k = k := by
  unfold PowT
  rw [r2_num, r3_num]
  have : (modEv (num P) != 0) = false := by unfold modEv modE; rw [unnum_lt hP, if_neg h0]; rfl
  rw [this]; rfl

end Go.W
