/-
  Products, bits: the ways of the texts, and what they come to.
-/
import Derived.Test.YtdhbnidobpkkfaaM2
namespace Go.W

/-! ## Integer operations, as the engine leaves them -/

def iAdd (k : IntKind) (a b : Int) : Int := k.wrap (a + b)
def iSub (k : IntKind) (a b : Int) : Int := k.wrap (a - b)
def iMul (k : IntKind) (a b : Int) : Int := k.wrap (a * b)
def iShr (k : IntKind) (a n : Int) : Int := a.fdiv (2 ^ (min n.toNat k.bits))
def iShl (k : IntKind) (a n : Int) : Int := k.wrap (a * 2 ^ (min n.toNat k.bits))
def iAnd (k : IntKind) (a b : Int) : Int := k.wrap ((BitVec.ofInt k.bits a &&& BitVec.ofInt k.bits b).toNat : Int)
def iOr (k : IntKind) (a b : Int) : Int := k.wrap ((BitVec.ofInt k.bits a ||| BitVec.ofInt k.bits b).toNat : Int)

theorem wrap_u64 (n : Int) : IntKind.u64.wrap n = n % 18446744073709551616 := by simp [IntKind.wrap, IntKind.bits, IntKind.signed]
theorem wrap_i64 {n : Int} (h : -9223372036854775808 ≤ n ∧ n < 9223372036854775808) : IntKind.i64.wrap n = n := by
  have e : IntKind.i64.wrap n = if n % 18446744073709551616 ≥ 9223372036854775808 then n % 18446744073709551616 - 18446744073709551616 else n % 18446744073709551616 := by
    simp [IntKind.wrap, IntKind.bits, IntKind.signed]
  rw [e]
  split <;> omega

theorem iAdd_u (a b : Nat) : iAdd .u64 a b = ((a + b) % 18446744073709551616 : Nat) := by
  unfold iAdd; rw [wrap_u64]; omega
theorem iMul_u (a b : Nat) : iMul .u64 a b = ((a * b) % 18446744073709551616 : Nat) := by
  unfold iMul; rw [wrap_u64, ← Int.natCast_mul]; omega
theorem iShr_u (a n : Nat) (h : n ≤ 64) : iShr .u64 a n = (a / 2 ^ n : Nat) := by
  unfold iShr
  have : min (n : Int).toNat IntKind.u64.bits = n := by show min n 64 = n; omega
  rw [this, Int.fdiv_eq_ediv_of_nonneg _ (Int.pow_nonneg (by decide))]
  have e : ((2 : Int) ^ n) = ((2 ^ n : Nat) : Int) := by simp
  rw [e, ← Int.natCast_ediv]
theorem iAnd_u {a b : Nat} (ha : a < 18446744073709551616) (hb : b < 18446744073709551616) : iAnd .u64 a b = (a &&& b : Nat) := by
  unfold iAnd
  rw [wrap_u64]
  have e1 : (BitVec.ofInt IntKind.u64.bits (a : Int) &&& BitVec.ofInt IntKind.u64.bits (b : Int)).toNat = a &&& b := by
    show (BitVec.ofInt 64 (a : Int) &&& BitVec.ofInt 64 (b : Int)).toNat = a &&& b
    rw [BitVec.toNat_and, BitVec.ofInt_natCast, BitVec.ofInt_natCast, BitVec.toNat_ofNat, BitVec.toNat_ofNat, Nat.mod_eq_of_lt (by simpa using ha), Nat.mod_eq_of_lt (by simpa using hb)]
  rw [e1]
  have : a &&& b ≤ a := Nat.and_le_left
  omega
theorem iOr_u {a b : Nat} (ha : a < 18446744073709551616) (hb : b < 18446744073709551616) : iOr .u64 a b = (a ||| b : Nat) := by
  unfold iOr
  rw [wrap_u64]
  have e1 : (BitVec.ofInt IntKind.u64.bits (a : Int) ||| BitVec.ofInt IntKind.u64.bits (b : Int)).toNat = a ||| b := by
    show (BitVec.ofInt 64 (a : Int) ||| BitVec.ofInt 64 (b : Int)).toNat = a ||| b
    rw [BitVec.toNat_or, BitVec.ofInt_natCast, BitVec.ofInt_natCast, BitVec.toNat_ofNat, BitVec.toNat_ofNat, Nat.mod_eq_of_lt (by simpa using ha), Nat.mod_eq_of_lt (by simpa using hb)]
  rw [e1]
  have : a ||| b < 2 ^ 64 := Nat.or_lt_two_pow (by simpa using ha) (by simpa using hb)
  omega

theorem and_mask {a n : Nat} : a &&& (2 ^ n - 1) = a % 2 ^ n := Nat.and_two_pow_sub_one_eq_mod a n

/-! ## math/bits.Mul64 -/

def isU (v : Value) : Bool := isU64 v
def mul64V (x y : Nat) : Value := .tuple #[u64 (x * y / 18446744073709551616), u64 (x * y % 18446744073709551616)]
def Mul64F : List Value → Option (Bool × Value)
  | [x, y] => some (isU64 x && isU64 y, mul64V (intN x) (intN y))
  | _ => none

def m64lo (x : Int) : Int := iAnd .u64 x 4294967295
def m64hi (x : Int) : Int := iShr .u64 x 32
def m64t (x y : Int) : Int := iAdd .u64 (iMul .u64 (m64hi x) (m64lo y)) (m64hi (iMul .u64 (m64lo x) (m64lo y)))
def Mul64T (x y : Int) : Option Value :=
  some (.tuple #[.int .u64 (iAdd .u64 (iAdd .u64 (iMul .u64 (m64hi x) (m64hi y)) (m64hi (m64t x y))) (m64hi (iAdd .u64 (m64lo (m64t x y)) (iMul .u64 (m64lo x) (m64hi y))))), .int .u64 (iMul .u64 x y)])

theorem m64lo_eq {x : Int} (h0 : 0 ≤ x) (h : x < 18446744073709551616) : m64lo x = x % 4294967296 := by
  obtain ⟨n, rfl⟩ := Int.eq_ofNat_of_zero_le h0
  unfold m64lo
  have := iAnd_u (a := n) (b := 4294967295) (by omega) (by omega)
  rw [show ((4294967295 : Nat) : Int) = 4294967295 from rfl] at this
  rw [this, show 4294967295 = 2 ^ 32 - 1 from rfl, and_mask]
  omega
theorem m64hi_eq {x : Int} (h0 : 0 ≤ x) : m64hi x = x / 4294967296 := by
  obtain ⟨n, rfl⟩ := Int.eq_ofNat_of_zero_le h0
  have := iShr_u n 32 (by omega)
  rw [show ((32 : Nat) : Int) = 32 from rfl] at this
  unfold m64hi
  rw [this]
  omega

theorem Mul64T_eq {x y : Nat} (hx : x < 18446744073709551616) (hy : y < 18446744073709551616) : Mul64T x y = some (mul64V x y) := by
  have e := Go.mul64_arith x y (by omega) (by omega) (by omega) (by omega)
  have nn : ∀ z : Int, 0 ≤ z % 18446744073709551616 ∧ z % 18446744073709551616 < 18446744073709551616 := fun z => by omega
  unfold Mul64T m64t mul64V iAdd iMul
  simp only [wrap_u64]
  rw [m64hi_eq (x := (x : Int)) (by omega), m64hi_eq (x := (y : Int)) (by omega), m64lo_eq (x := (x : Int)) (by omega) (by omega), m64lo_eq (x := (y : Int)) (by omega) (by omega)]
  rw [m64hi_eq (nn _).1, m64hi_eq (nn _).1, m64hi_eq (nn _).1, m64lo_eq (nn _).1 (nn _).2]
  rw [e]
  have h2 : ((x : Int) * (y : Int)) / 18446744073709551616 = ((x * y / 18446744073709551616 : Nat) : Int) := by rw [← Int.natCast_mul]; omega
  have h3 : ((x : Int) * (y : Int)) % 18446744073709551616 = ((x * y % 18446744073709551616 : Nat) : Int) := by rw [← Int.natCast_mul]; omega
  rw [h2, h3]; rfl

/-! ## mulAdd -/

def mulAddV (x y c d : Nat) : Value := .tuple #[u64 ((x * y + c + d) % 18446744073709551616), u64 ((x * y + c + d) / 18446744073709551616)]
def mulAddF : List Value → Option (Bool × Value)
  | [x, y, c, d] => some (isU64 x && isU64 y && isU64 c && isU64 d, mulAddV (intN x) (intN y) (intN c) (intN d))
  | _ => none

def mulAddT (x y c d : Nat) : Option Value :=
  let hi := x * y / 18446744073709551616
  let lo := x * y % 18446744073709551616
  req (isU64 (u64 x) && isU64 (u64 y)) <| req (Nat.ble 0 1) <| req (Nat.ble 0 1) <|
    some (.tuple #[u64 (s64 (s64 lo c 0) d 0), .int .u64 (iAdd .u64 (iAdd .u64 (hi : Int) (c64 lo c 0 : Int)) (c64 (s64 lo c 0) d 0 : Int))])

theorem mul_le {x y : Nat} (hx : x < 18446744073709551616) (hy : y < 18446744073709551616) : x * y ≤ 18446744073709551615 * 18446744073709551615 := Nat.mul_le_mul (by omega) (by omega)

theorem mulAddT_eq {x y c d : Nat} (hx : x < 18446744073709551616) (hy : y < 18446744073709551616) (hc : c < 18446744073709551616) (hd : d < 18446744073709551616) : mulAddT x y c d = some (mulAddV x y c d) := by
  unfold mulAddT
  simp only [isU64_u64 hx, isU64_u64 hy]
  rw [req_true (b := true && true) rfl, req_true (b := Nat.ble 0 1) rfl, req_true (b := Nat.ble 0 1) rfl]
  have h := mul_le hx hy
  unfold mulAddV
  generalize x * y = p at *
  rw [iAdd_u, iAdd_u]
  have e1 : s64 (s64 (p % 18446744073709551616) c 0) d 0 = (p + c + d) % 18446744073709551616 := by unfold s64; omega
  have e2 : ((p / 18446744073709551616 + c64 (p % 18446744073709551616) c 0) % 18446744073709551616 + c64 (s64 (p % 18446744073709551616) c 0) d 0) % 18446744073709551616 = (p + c + d) / 18446744073709551616 := by
    unfold s64 c64; omega
  rw [e1, e2]; rfl

theorem argU2 {f : Value → Value → Value} {args : List Value} {v : Value} (h : (match args with | [x, y] => some (isU64 x && isU64 y, f x y) | _ => none) = some (true, v)) :
    ∃ x y, x < 18446744073709551616 ∧ y < 18446744073709551616 ∧ args = [u64 x, u64 y] ∧ v = f (u64 x) (u64 y) := by
  split at h
  · simp only [Option.some.injEq, Prod.mk.injEq, Bool.and_eq_true] at h
    obtain ⟨x, hx, rfl⟩ := isU64_some h.1.1
    obtain ⟨y, hy, rfl⟩ := isU64_some h.1.2
    exact ⟨x, y, hx, hy, rfl, h.2.symm⟩
  · simp at h

theorem argU4 {f : Value → Value → Value → Value → Value} {args : List Value} {v : Value} (h : (match args with | [x, y, c, d] => some (isU64 x && isU64 y && isU64 c && isU64 d, f x y c d) | _ => none) = some (true, v)) :
    ∃ x y c d, x < 18446744073709551616 ∧ y < 18446744073709551616 ∧ c < 18446744073709551616 ∧ d < 18446744073709551616 ∧ args = [u64 x, u64 y, u64 c, u64 d] ∧ v = f (u64 x) (u64 y) (u64 c) (u64 d) := by
  split at h
  · simp only [Option.some.injEq, Prod.mk.injEq, Bool.and_eq_true] at h
    obtain ⟨x, hx, rfl⟩ := isU64_some h.1.1.1.1
    obtain ⟨y, hy, rfl⟩ := isU64_some h.1.1.1.2
    obtain ⟨c, hc, rfl⟩ := isU64_some h.1.1.2
    obtain ⟨d, hd, rfl⟩ := isU64_some h.1.2
    exact ⟨x, y, c, d, hx, hy, hc, hd, rfl, h.2.symm⟩
  · simp at h

theorem intN_u64 (x : Nat) : intN (u64 x) = x := rfl

end Go.W
