/-
  Bytes, and back: the way of limb.Of, the law of bytes as a tree over numbers.
-/
import Derived.Test.YtdhbnidobpkkfaaM10
import Derived.Test.YtdhbnidobpkkfaaW14
namespace Go.W
open Go.RowKit (Below)

section
variable {P : Program} {H : Type} {enc : TypeId × Value → H} {W : World} {base b0 : Nat} {sp : Nat → Bool} {held : Bool} {r : Reach} {t e : TypeId} {v : Value} {d : DataW H} {p : List MemPlace}

/-- An argument that is 32 bytes. -/
theorem open_b32 (ht : P.underlying t = some (.array 32 e)) (he : P.underlying e = some (.int .u8)) (hce : P.cellsOf e = 1) (hct : P.cellsOf t = 32) (hv : Value.okWide P W r base t v) (h : DataW.Trod enc P W b0 sp held t v d p) :
    ∃ X, X < 2 ^ 256 ∧ v = bytesV X := by
  obtain ⟨cs, rfl, hl, hw⟩ := open_row ht he hce hct hv h
  have hb : isB32 (.agg (cs.map fun x => Value.int .u8 x).toArray) = true := by
    refine isB32_of (by simp [hl]) ?_
    rw [List.all_eq_true]
    intro x hx
    obtain ⟨y, hy, rfl⟩ := List.mem_map.1 hx
    have := hw y hy
    have : 0 ≤ y ∧ y ≤ 255 := by simpa [Lit.wf, IntKind.has, IntKind.min, IntKind.max, IntKind.signed, IntKind.bits] using this
    show (decide (0 ≤ y) && Nat.ble y.toNat 255) = true
    rw [Bool.and_eq_true, Nat.ble_eq]
    exact ⟨decide_eq_true this.1, by omega⟩
  obtain ⟨X, hX, h1, _⟩ := isB32_some hb
  exact ⟨X, hX, h1⟩
end

/-! ## Of -/

def OfT (a0 a1 a2 a3 a4 a5 a6 a7 b0 b1 b2 b3 b4 b5 b6 b7 c0 c1 c2 c3 c4 c5 c6 c7 d0 d1 d2 d3 d4 d5 d6 d7 : Nat) : Option Value :=
  some (.agg #[.int .u64 (of8 d0 d1 d2 d3 d4 d5 d6 d7), .int .u64 (of8 c0 c1 c2 c3 c4 c5 c6 c7), .int .u64 (of8 b0 b1 b2 b3 b4 b5 b6 b7), .int .u64 (of8 a0 a1 a2 a3 a4 a5 a6 a7)])

def by32 (a0 a1 a2 a3 a4 a5 a6 a7 b0 b1 b2 b3 b4 b5 b6 b7 c0 c1 c2 c3 c4 c5 c6 c7 d0 d1 d2 d3 d4 d5 d6 d7 : Nat) : Value :=
  .agg #[u8 a0, u8 a1, u8 a2, u8 a3, u8 a4, u8 a5, u8 a6, u8 a7, u8 b0, u8 b1, u8 b2, u8 b3, u8 b4, u8 b5, u8 b6, u8 b7, u8 c0, u8 c1, u8 c2, u8 c3, u8 c4, u8 c5, u8 c6, u8 c7, u8 d0, u8 d1, u8 d2, u8 d3, u8 d4, u8 d5, u8 d6, u8 d7]

theorem bytes8 (a : Nat) : bytesL 8 a = [u8 (a / 2 ^ 56 % 256), u8 (a / 2 ^ 48 % 256), u8 (a / 2 ^ 40 % 256), u8 (a / 2 ^ 32 % 256), u8 (a / 2 ^ 24 % 256), u8 (a / 2 ^ 16 % 256), u8 (a / 2 ^ 8 % 256), u8 (a % 256)] := by
  simp only [bytesL, List.nil_append, List.cons_append, Nat.div_div_eq_div_mul]

theorem of8_dig {a : Nat} (h : a < 18446744073709551616) : of8 (a / 2 ^ 56 % 256) (a / 2 ^ 48 % 256) (a / 2 ^ 40 % 256) (a / 2 ^ 32 % 256) (a / 2 ^ 24 % 256) (a / 2 ^ 16 % 256) (a / 2 ^ 8 % 256) (a % 256) = (a : Int) := by
  rw [of8_eq (Nat.mod_lt _ (by decide)) (Nat.mod_lt _ (by decide)) (Nat.mod_lt _ (by decide)) (Nat.mod_lt _ (by decide)) (Nat.mod_lt _ (by decide)) (Nat.mod_lt _ (by decide)) (Nat.mod_lt _ (by decide)) (Nat.mod_lt _ (by decide))]
  congr 1
  omega

theorem bytesV_by32 {a b c d : Nat} (ha : a < 18446744073709551616) (hb : b < 18446744073709551616) (hc : c < 18446744073709551616) : bytesV (hor a b c d) =
    by32 (d / 2 ^ 56 % 256) (d / 2 ^ 48 % 256) (d / 2 ^ 40 % 256) (d / 2 ^ 32 % 256) (d / 2 ^ 24 % 256) (d / 2 ^ 16 % 256) (d / 2 ^ 8 % 256) (d % 256)
      (c / 2 ^ 56 % 256) (c / 2 ^ 48 % 256) (c / 2 ^ 40 % 256) (c / 2 ^ 32 % 256) (c / 2 ^ 24 % 256) (c / 2 ^ 16 % 256) (c / 2 ^ 8 % 256) (c % 256)
      (b / 2 ^ 56 % 256) (b / 2 ^ 48 % 256) (b / 2 ^ 40 % 256) (b / 2 ^ 32 % 256) (b / 2 ^ 24 % 256) (b / 2 ^ 16 % 256) (b / 2 ^ 8 % 256) (b % 256)
      (a / 2 ^ 56 % 256) (a / 2 ^ 48 % 256) (a / 2 ^ 40 % 256) (a / 2 ^ 32 % 256) (a / 2 ^ 24 % 256) (a / 2 ^ 16 % 256) (a / 2 ^ 8 % 256) (a % 256) := by
  unfold bytesV by32
  rw [bytesL_hor ha hb hc, bytes8, bytes8, bytes8, bytes8]
  rfl

/-! ## The law of bytes -/

theorem iShr_u8 (a n : Nat) (h : n ≤ 8) : iShr .u8 a n = (a / 2 ^ n : Nat) := by
  unfold iShr
  have : min (n : Int).toNat IntKind.u8.bits = n := by show min n 8 = n; omega
  rw [this, Int.fdiv_eq_ediv_of_nonneg _ (Int.pow_nonneg (by decide))]
  have e : ((2 : Int) ^ n) = ((2 ^ n : Nat) : Int) := by simp
  rw [e, ← Int.natCast_ediv]
theorem iAnd_u8 {a b : Nat} (ha : a < 256) (hb : b < 256) : iAnd .u8 a b = (a &&& b : Nat) := by
  unfold iAnd
  rw [wrap_u8]
  have e1 : (BitVec.ofInt IntKind.u8.bits (a : Int) &&& BitVec.ofInt IntKind.u8.bits (b : Int)).toNat = a &&& b := by
    show (BitVec.ofInt 8 (a : Int) &&& BitVec.ofInt 8 (b : Int)).toNat = a &&& b
    rw [BitVec.toNat_and, BitVec.ofInt_natCast, BitVec.ofInt_natCast, BitVec.toNat_ofNat, BitVec.toNat_ofNat, Nat.mod_eq_of_lt (by simpa using ha), Nat.mod_eq_of_lt (by simpa using hb)]
  rw [e1]
  have : a &&& b ≤ a := Nat.and_le_left
  omega

theorem u8_bit {a r : Nat} (ha : a < 256) (hr : r < 8) : IntKind.i64.wrap (iAnd .u8 (iShr .u8 (a : Int) (r : Int)) 1) = ((a / 2 ^ r % 2 : Nat) : Int) := by
  rw [iShr_u8 a r (by omega)]
  have h1 : a / 2 ^ r < 256 := Nat.lt_of_le_of_lt (Nat.div_le_self _ _) ha
  have := iAnd_u8 (a := a / 2 ^ r) (b := 1) h1 (by omega)
  rw [show ((1 : Nat) : Int) = 1 from rfl] at this
  rw [this, Nat.and_one_is_mod, wrap_i64 (by omega)]

theorem byte_bit (X q r : Nat) (hr : r < 8) : X / 256 ^ q % 256 / 2 ^ r % 2 = bitN X (8 * q + r) := by
  unfold bitN
  have e : (256 : Nat) ^ q = 2 ^ (8 * q) := by rw [Nat.pow_mul]
  rw [Nat.pow_add, ← Nat.div_div_eq_div_mul, e]
  generalize X / 2 ^ (8 * q) = Y
  have e2 : (256 : Nat) = 2 ^ r * (2 * 2 ^ (7 - r)) := by
    rw [show (256 : Nat) = 2 ^ 8 from rfl, ← Nat.pow_succ', ← Nat.pow_add]
    congr 1; omega
  rw [e2, Nat.mod_mul_right_div_self, Nat.mod_mul_right_mod]

theorem bitLen_step (X i : Nat) : bitLen (X % 2 ^ (i + 1)) = if bitN X i = 1 then i + 1 else bitLen (X % 2 ^ i) := by
  unfold bitN
  have h := Nat.mod_mul (a := 2 ^ i) (b := 2) (x := X)
  rw [Nat.pow_succ, h]
  have hl := Nat.mod_lt X (Nat.two_pow_pos i)
  rcases Nat.mod_two_eq_zero_or_one (X / 2 ^ i) with h0 | h1
  · rw [h0, if_neg (by decide), Nat.mul_zero, Nat.add_zero]
  · rw [h1, if_pos rfl, bitLen_hi hl (by decide)]
    rfl

def BytesEnd (n : Value) (len : Int) : Option Value :=
  req (isNum n) <| bif (bitLen (unnum n) : Int) == len then (req (isNum n) <| bif bitI (unnum n) (-1) == 0 then (req (isNum n) <| bif bitI (unnum n) 256 == 0 then tru else fls) else fls) else fls

theorem BytesEnd_eq {X : Nat} (hX : X < 2 ^ 256) : BytesEnd (num X) (bitLen X : Int) = tru := by
  unfold BytesEnd
  rw [isNum_num, req_true rfl, req_true rfl, req_true rfl, unnum_lt hX, beq_self_eq_true]
  rfl

def BytesT2 (b n : Value) (k : Option Value) : Option Value :=
  req (isB32 b) <| req (isNum n) <| bif !(eqV (bytesV (unnum n)) b) then fls else req (isNum n) <| req (isB32 (bytesV (unnum n))) <| bif !(eqV (num (unbytes (bytesV (unnum n)))) n) then fls else k

theorem eqL_refl : ∀ (l : List Value), eqL l l = true
  | [] => rfl
  | v :: l => by
    have ih := eqL_refl l
    cases v <;> simp_all [eqL]

theorem BytesT2_eq {X : Nat} (hX : X < 2 ^ 256) (k : Option Value) : BytesT2 (bytesV X) (num X) k = k := by
  unfold BytesT2
  rw [isB32_bytesV, isNum_num, req_true rfl, req_true rfl, unnum_lt hX, unbytes_bytesV, Nat.mod_eq_of_lt hX, isB32_bytesV, req_true rfl, req_true rfl]
  unfold eqV
  rw [eqL_refl, eqL_refl]; rfl

end Go.W
