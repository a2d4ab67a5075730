/-
  Bits, and what is left of a division.
-/
import Derived.Test.YtdhbnidobpkkfaaM4
namespace Go.W

/-! ## Bit -/

def bitN (X : Nat) (i : Nat) : Nat := X / 2 ^ i % 2
def bitI (X : Nat) (i : Int) : Int := if 0 ≤ i ∧ i ≤ 255 then (bitN X i.toNat : Int) else 0
def BitF : List Value → Option (Bool × Value)
  | [x, .int .i64 i] => some (isNum x, i64 (bitI (unnum x) i))
  | _ => none

theorem digit_bit (a q r : Nat) (h : r < 64) : (a + 18446744073709551616 * q) / 2 ^ r % 2 = a / 2 ^ r % 2 := by
  have e : 18446744073709551616 * q = 2 ^ r * (2 * (2 ^ (63 - r) * q)) := by
    have : (18446744073709551616 : Nat) = 2 ^ r * (2 * 2 ^ (63 - r)) := by
      rw [show (18446744073709551616 : Nat) = 2 ^ 64 from rfl, ← Nat.pow_succ', ← Nat.pow_add]
      congr 1; omega
    rw [this]; simp only [Nat.mul_assoc]
  rw [e, Nat.add_mul_div_left _ _ (Nat.two_pow_pos r)]
  omega

theorem hor_bit {a b c d : Nat} (ha : a < 18446744073709551616) (hb : b < 18446744073709551616) (hc : c < 18446744073709551616) (q r : Nat) (hr : r < 64) (hq : q < 4) :
    bitN (hor a b c d) (64 * q + r) = (match q with | 0 => a | 1 => b | 2 => c | _ => d) / 2 ^ r % 2 := by
  unfold bitN
  rw [Nat.pow_add, ← Nat.div_div_eq_div_mul]
  match q, hq with
  | 0, _ =>
    rw [show hor a b c d / 2 ^ (64 * 0) = hor a b c d from by simp]
    exact digit_bit a _ r hr
  | 1, _ =>
    rw [show hor a b c d / 2 ^ (64 * 1) = b + 18446744073709551616 * (c + 18446744073709551616 * d) from by unfold hor; omega]
    exact digit_bit b _ r hr
  | 2, _ =>
    rw [show hor a b c d / 2 ^ (64 * 2) = c + 18446744073709551616 * d from by unfold hor; omega]
    exact digit_bit c _ r hr
  | 3, _ =>
    rw [show hor a b c d / 2 ^ (64 * 3) = d from by unfold hor; omega]
    rfl

theorem u64_bit {a r : Nat} (ha : a < 18446744073709551616) (hr : r < 64) : IntKind.i64.wrap (iAnd .u64 (iShr .u64 (a : Int) (r : Int)) 1) = ((a / 2 ^ r % 2 : Nat) : Int) := by
  rw [iShr_u a r (by omega)]
  have h1 : a / 2 ^ r < 18446744073709551616 := Nat.lt_of_le_of_lt (Nat.div_le_self _ _) ha
  have := iAnd_u (a := a / 2 ^ r) (b := 1) h1 (by omega)
  rw [show ((1 : Nat) : Int) = 1 from rfl] at this
  rw [this, Nat.and_one_is_mod, wrap_i64 (by omega)]

/-! ## takeBit -/

def tbN (L b M : Nat) : Nat := (2 * L + b) % M
def tbP (l : Value) (b : Int) (m : Value) : Bool := isNum l && isNum m && decide (0 ≤ b) && Nat.ble b.toNat 1 && Nat.blt (unnum l) (unnum m)
def takeBitF : List Value → Option (Bool × Value)
  | [l, .int .u64 b, m] => some (tbP l b m, num (tbN (unnum l) b.toNat (unnum m)))
  | _ => none

def tbS (l : Value) : Nat := unnum l + unnum l
def tbV (l : Value) (b : Int) : Value := .agg #[.int .u64 (iOr .u64 (dig (tbS l) 0 : Int) b), u64 (dig (tbS l) 1), u64 (dig (tbS l) 2), u64 (dig (tbS l) 3)]
def takeBitT (l : Value) (b : Int) (m : Value) : Option Value :=
  req (isNum l && isNum l) <| req (isNum (tbV l b) && isNum m) <|
    bif ((tbS l / 2 ^ 256 : Nat) : Int) == 0 then (bif ((if unnum (tbV l b) < unnum m then 1 else 0 : Nat) : Int) == 1 then some (tbV l b) else some (num (2 ^ 256 + unnum (tbV l b) - unnum m)))
    else some (num (2 ^ 256 + unnum (tbV l b) - unnum m))

theorem or_even (k b : Nat) (hb : b ≤ 1) : 2 * k ||| b = 2 * k + b := by
  have := Nat.shiftLeft_add_eq_or_of_lt (b := b) (i := 1) (by omega) k
  rw [Nat.shiftLeft_eq] at this
  rw [show 2 * k = k * 2 ^ 1 from by omega, ← this]

theorem takeBitT_eq {L b M : Nat} (hL : L < M) (hM : M < 2 ^ 256) (hb : b ≤ 1) : takeBitT (num L) (b : Int) (num M) = some (num (tbN L b M)) := by
  have hL' : L < 2 ^ 256 := by omega
  have hS : tbS (num L) = 2 * L := by unfold tbS; rw [unnum_lt hL']; omega
  unfold takeBitT tbV
  rw [hS, isNum_num, isNum_num, unnum_lt hM]
  have d0 : dig (2 * L) 0 = 2 * (L % 9223372036854775808) := by show 2 * L % 18446744073709551616 = _; omega
  have hor0 : iOr .u64 (dig (2 * L) 0 : Int) (b : Int) = ((dig (2 * L) 0 + b : Nat) : Int) := by
    rw [iOr_u (dig_lt _ _) (by omega), d0, or_even _ _ hb]
  have hlt0 : dig (2 * L) 0 + b < 18446744073709551616 := by rw [d0]; omega
  rw [hor0]
  have hT : (Value.agg #[.int .u64 ((dig (2 * L) 0 + b : Nat) : Int), u64 (dig (2 * L) 1), u64 (dig (2 * L) 2), u64 (dig (2 * L) 3)]) = numd (dig (2 * L) 0 + b) (dig (2 * L) 1) (dig (2 * L) 2) (dig (2 * L) 3) := rfl
  rw [hT, isNum_numd hlt0 (dig_lt _ _) (dig_lt _ _) (dig_lt _ _), unnum_numd]
  rw [req_true (b := true && true) rfl, req_true (b := true && true) rfl]
  have hmod := hor_dig (X := 2 * L % 2 ^ 256) (Nat.mod_lt _ (by decide))
  have hn : hor (dig (2 * L) 0 + b) (dig (2 * L) 1) (dig (2 * L) 2) (dig (2 * L) 3) = 2 * L % 2 ^ 256 + b := by
    have e : num (2 * L % 2 ^ 256) = num (2 * L) := num_mod _
    have e2 := congrArg unnum e
    rw [unnum_num, Nat.mod_mod] at e2
    have e3 : hor (dig (2 * L) 0) (dig (2 * L) 1) (dig (2 * L) 2) (dig (2 * L) 3) = 2 * L % 2 ^ 256 := e2.symm
    rw [← e3]; unfold hor; omega
  have hnum : numd (dig (2 * L) 0 + b) (dig (2 * L) 1) (dig (2 * L) 2) (dig (2 * L) 3) = num (2 * L % 2 ^ 256 + b) := by
    rw [← hn]
    have := num_hor hlt0 (dig_lt (2 * L) 1) (dig_lt (2 * L) 2) (dig_lt (2 * L) 3) 0
    rw [Nat.mul_zero, Nat.add_zero] at this
    exact this.symm
  rw [hn, hnum]
  clear hn hnum hT hor0 hlt0 d0 hmod
  unfold tbN
  by_cases hc : 2 * L < 2 ^ 256
  · have e0 : 2 * L / 2 ^ 256 = 0 := by omega
    have e1 : 2 * L % 2 ^ 256 = 2 * L := by omega
    rw [e0, e1]
    by_cases hlt : 2 * L + b < M
    · rw [if_pos hlt, Nat.mod_eq_of_lt hlt]; rfl
    · rw [if_neg hlt]
      have e2 : (2 * L + b) % M = 2 * L + b - M := by
        rw [Nat.mod_eq_sub_mod (by omega), Nat.mod_eq_of_lt (by omega)]
      rw [e2, show 2 ^ 256 + (2 * L + b) - M = 2 * L + b - M + 2 ^ 256 * 1 from by omega, num_add_mul]; rfl
  · have e0 : 2 * L / 2 ^ 256 = 1 := by omega
    rw [e0]
    have e2 : (2 * L + b) % M = 2 * L + b - M := by
      rw [Nat.mod_eq_sub_mod (by omega), Nat.mod_eq_of_lt (by omega)]
    rw [e2, show 2 ^ 256 + (2 * L % 2 ^ 256 + b) - M = 2 * L + b - M from by omega]; rfl

theorem tbP_some {l m : Value} {b : Int} (h : tbP l b m = true) : ∃ L B M, l = num L ∧ m = num M ∧ b = ((B : Nat) : Int) ∧ B ≤ 1 ∧ L < M ∧ M < 2 ^ 256 := by
  simp only [tbP, Bool.and_eq_true, decide_eq_true_eq, Nat.ble_eq] at h
  obtain ⟨⟨⟨⟨h1, h2⟩, h3⟩, h4⟩, h5⟩ := h
  obtain ⟨L, hL, rfl⟩ := isNum_some h1
  obtain ⟨M, hM, rfl⟩ := isNum_some h2
  rw [unnum_lt hL, unnum_lt hM, Nat.blt_eq] at h5
  exact ⟨L, b.toNat, M, rfl, rfl, by omega, h4, h5, hM⟩

theorem tbP_true {L B M : Nat} (hB : B ≤ 1) (hL : L < M) (hM : M < 2 ^ 256) : tbP (num L) (B : Int) (num M) = true := by
  simp only [tbP, isNum_num, unnum_lt hM, unnum_lt (show L < 2 ^ 256 by omega), Bool.true_and, Bool.and_eq_true, decide_eq_true_eq, Nat.ble_eq, Nat.blt_eq, Int.toNat_natCast]
  omega

/-! ## takeBits, Mod -/

def tbsP (l a m : Value) : Bool := isNum l && isNum a && isNum m && Nat.blt (unnum l) (unnum m)
def takeBitsF : List Value → Option (Bool × Value)
  | [l, a, m] => some (tbsP l a m, num ((unnum l * 2 ^ 256 + unnum a) % unnum m))
  | _ => none

/-- What is left of the first k bits. -/
def tbK (L A M k : Nat) : Nat := (L * 2 ^ k + A / 2 ^ (256 - k)) % M

theorem tbK_zero {L A M : Nat} (hA : A < 2 ^ 256) (hL : L < M) : tbK L A M 0 = L := by
  unfold tbK
  rw [Nat.sub_zero, Nat.div_eq_of_lt hA, Nat.pow_zero, Nat.mul_one, Nat.add_zero, Nat.mod_eq_of_lt hL]

theorem tbK_lt {L A M k : Nat} (hM : 0 < M) : tbK L A M k < M := Nat.mod_lt _ hM

theorem tbK_succ {L A M k : Nat} (hk : k < 256) : tbN (tbK L A M k) (bitN A (255 - k)) M = tbK L A M (k + 1) := by
  unfold tbN tbK bitN
  have e : A / 2 ^ (256 - (k + 1)) = 2 * (A / 2 ^ (256 - k)) + A / 2 ^ (255 - k) % 2 := by
    rw [show 256 - k = (255 - k) + 1 from by omega, show 256 - (k + 1) = 255 - k from by omega, Nat.pow_succ, ← Nat.div_div_eq_div_mul]
    omega
  rw [e, Nat.pow_succ, ← Nat.mul_assoc, Nat.add_mod, Nat.mul_mod, Nat.mod_mod, ← Nat.mul_mod, ← Nat.add_mod]
  congr 1
  generalize L * 2 ^ k = p
  omega

theorem tbK_last (L A M : Nat) : tbK L A M 256 = (L * 2 ^ 256 + A) % M := by
  unfold tbK; rw [Nat.sub_self, Nat.pow_zero, Nat.div_one]

theorem bitN_le (A i : Nat) : bitN A i ≤ 1 := by unfold bitN; omega

theorem bitI_nat {A n : Nat} (h : n ≤ 255) : bitI A (n : Int) = (bitN A n : Int) := by
  unfold bitI; rw [if_pos (by omega), Int.toNat_natCast]

theorem bit_u64 {A n : Nat} (h : n ≤ 255) : IntKind.u64.wrap (bitI A (n : Int)) = ((bitN A n : Nat) : Int) := by
  rw [bitI_nat h, wrap_u64]
  have := bitN_le A n
  omega

def modN (H L M : Nat) : Nat := if M = 0 then 0 else (H * 2 ^ 256 + L) % M
def modE (M : Nat) : Int := if M = 0 then 1 else 0
def modV (H L M : Nat) : Value := .tuple #[num (modN H L M), i64 (modE M)]
def ModF : List Value → Option (Bool × Value)
  | [h, l, m] => some (isNum h && isNum l && isNum m, modV (unnum h) (unnum l) (unnum m))
  | _ => none

def tbsN (l a m : Value) : Nat := (unnum l * 2 ^ 256 + unnum a) % unnum m

def ModT (h l m : Value) (eq0 : Bool) : Option Value :=
  bif eq0 then some (.tuple #[num 0, i64 1]) else
    req (isNum h && isNum m) <| bif decide (cmpI (unnum h) (unnum m) ≥ 0) then
      (req (tbsP (num 0) h m) <| req (tbsP (num (tbsN (num 0) h m)) l m) <| some (.tuple #[num (tbsN (num (tbsN (num 0) h m)) l m), i64 0]))
    else (req (tbsP h l m) <| some (.tuple #[num (tbsN h l m), i64 0]))

theorem tbsP_true {L A M : Nat} (hL : L < M) (hM : M < 2 ^ 256) : tbsP (num L) (num A) (num M) = true := by
  simp only [tbsP, isNum_num, unnum_lt hM, unnum_lt (show L < 2 ^ 256 by omega), Bool.true_and, Nat.blt_eq]
  exact hL

theorem ModT_eq {H L M : Nat} (hH : H < 2 ^ 256) (hL : L < 2 ^ 256) (hM : M < 2 ^ 256) : ModT (num H) (num L) (num M) (decide (M % 2 ^ 256 = 0 % 2 ^ 256)) = some (modV H L M) := by
  unfold ModT modV modN modE
  by_cases h0 : M = 0
  · subst h0; rfl
  · have hd : decide (M % 2 ^ 256 = 0 % 2 ^ 256) = false := decide_eq_false (by rw [Nat.mod_eq_of_lt hM]; simpa using h0)
    rw [hd, if_neg h0, if_neg h0, isNum_num, isNum_num, unnum_lt hH, unnum_lt hM, req_true (b := true && true) rfl]
    simp only [cond_false]
    have hpos : 0 < M := by omega
    by_cases hlt : H < M
    · have : decide (cmpI H M ≥ 0) = false := decide_eq_false (by unfold cmpI; rw [if_pos hlt]; omega)
      rw [this, cond_false, req_true (tbsP_true hlt hM)]
      unfold tbsN
      rw [unnum_lt hH, unnum_lt hL, unnum_lt hM]
    · have : decide (cmpI H M ≥ 0) = true := decide_eq_true (by unfold cmpI; rw [if_neg hlt]; split <;> omega)
      rw [this, cond_true, req_true (tbsP_true hpos hM)]
      have e1 : tbsN (num 0) (num H) (num M) = H % M := by
        unfold tbsN; rw [unnum_lt (show 0 < 2 ^ 256 by decide), unnum_lt hH, unnum_lt hM]; simp
      have h2 : H % M < M := Nat.mod_lt _ hpos
      rw [e1, req_true (tbsP_true h2 hM)]
      have e2 : tbsN (num (H % M)) (num L) (num M) = (H * 2 ^ 256 + L) % M := by
        unfold tbsN
        rw [unnum_lt (show H % M < 2 ^ 256 by omega), unnum_lt hL, unnum_lt hM, Nat.add_mod, Nat.mul_mod, Nat.mod_mod, ← Nat.mul_mod, ← Nat.add_mod]
      rw [e2]

end Go.W
