/-
  Numbers in digits of 64 bits, as values; and what is told of the functions of package limb, out of plain arithmetic. Nothing of a program's own numbers is in it.
-/
import Derived.Test.YtdhbnidobpkkfaaW13
namespace Go.W

abbrev B64 : Nat := 18446744073709551616

def dig : Nat → Nat → Nat
  | X, 0 => X % 18446744073709551616
  | X, i + 1 => dig (X / 18446744073709551616) i

def u64 (x : Nat) : Value := .int .u64 (x : Int)
def i64 (x : Int) : Value := .int .i64 x

def numd (a b c d : Nat) : Value := .agg #[u64 a, u64 b, u64 c, u64 d]
def num (X : Nat) : Value := numd (dig X 0) (dig X 1) (dig X 2) (dig X 3)
def hor (a b c d : Nat) : Nat := a + 18446744073709551616 * (b + 18446744073709551616 * (c + 18446744073709551616 * d))

def intN : Value → Nat
  | .int _ x => x.toNat
  | _ => 0

def limbs : List Value → Nat
  | [] => 0
  | v :: r => intN v + 18446744073709551616 * limbs r

def unnum (v : Value) : Nat := limbs v.cells.toList

def isU64 : Value → Bool
  | .int .u64 x => decide (0 ≤ x) && Nat.ble x.toNat 18446744073709551615
  | _ => false

def isNums (n : Nat) (v : Value) : Bool := aggK v (fun l => Nat.beq l.length n && l.all isU64) false
def isNum (v : Value) : Bool := isNums 4 v

theorem dig_lt (X i : Nat) : dig X i < 18446744073709551616 := by
  induction i generalizing X with
  | zero => exact Nat.mod_lt _ (by decide)
  | succ i ih => exact ih _

theorem dig_cons {a q : Nat} (h : a < 18446744073709551616) : dig (a + 18446744073709551616 * q) 0 = a ∧ ∀ i, dig (a + 18446744073709551616 * q) (i + 1) = dig q i := by
  constructor
  · show (a + 18446744073709551616 * q) % _ = a
    omega
  · intro i
    show dig ((a + 18446744073709551616 * q) / _) i = _
    rw [show (a + 18446744073709551616 * q) / 18446744073709551616 = q from by omega]

theorem num_hor {a b c d : Nat} (ha : a < 18446744073709551616) (hb : b < 18446744073709551616) (hc : c < 18446744073709551616) (hd : d < 18446744073709551616) (e : Nat) :
    num (hor a b c (d + 18446744073709551616 * e)) = numd a b c d := by
  unfold num hor
  rw [(dig_cons ha).1, (dig_cons ha).2, (dig_cons ha).2, (dig_cons ha).2, (dig_cons hb).1, (dig_cons hb).2, (dig_cons hb).2, (dig_cons hc).1, (dig_cons hc).2, (dig_cons hd).1]

theorem hor_dig {X : Nat} (h : X < 2 ^ 256) : X = hor (dig X 0) (dig X 1) (dig X 2) (dig X 3) := by
  unfold hor dig dig dig dig
  omega

theorem hor_lt {a b c d : Nat} (ha : a < 18446744073709551616) (hb : b < 18446744073709551616) (hc : c < 18446744073709551616) (hd : d < 18446744073709551616) : hor a b c d < 2 ^ 256 := by
  unfold hor; omega

/-- Each number below 2^256 in its digits. -/
theorem digits {X : Nat} (h : X < 2 ^ 256) : ∃ a b c d, a < 18446744073709551616 ∧ b < 18446744073709551616 ∧ c < 18446744073709551616 ∧ d < 18446744073709551616 ∧ X = hor a b c d ∧ num X = numd a b c d :=
  ⟨_, _, _, _, dig_lt X 0, dig_lt X 1, dig_lt X 2, dig_lt X 3, hor_dig h, rfl⟩

theorem unnum_numd (a b c d : Nat) : unnum (numd a b c d) = hor a b c d := rfl

theorem num_mod (X : Nat) : num (X % 2 ^ 256) = num X := by
  unfold num
  congr 1 <;> unfold dig <;> (try unfold dig) <;> (try unfold dig) <;> (try unfold dig) <;> omega

theorem num_add_mul (X e : Nat) : num (X + 2 ^ 256 * e) = num X := by
  rw [← num_mod, Nat.add_mul_mod_self_left, num_mod]

theorem unnum_num (X : Nat) : unnum (num X) = X % 2 ^ 256 := by
  rw [← num_mod]
  have h : X % 2 ^ 256 < 2 ^ 256 := Nat.mod_lt _ (by decide)
  exact (hor_dig h).symm

theorem isU64_u64 {x : Nat} (h : x < 18446744073709551616) : isU64 (u64 x) = true := by
  show (decide ((0 : Int) ≤ (x : Int)) && Nat.ble x 18446744073709551615) = true
  rw [Bool.and_eq_true, Nat.ble_eq]
  exact ⟨decide_eq_true (Int.natCast_nonneg x), by omega⟩

theorem isNums_of {n : Nat} (l : List Value) (hl : l.length = n) (h : l.all isU64 = true) : isNums n (.agg l.toArray) = true := by
  subst hl
  unfold isNums aggK
  simp only [h, Nat.beq_refl, Bool.and_true]

theorem isNum_numd {a b c d : Nat} (ha : a < 18446744073709551616) (hb : b < 18446744073709551616) (hc : c < 18446744073709551616) (hd : d < 18446744073709551616) : isNum (numd a b c d) = true := by
  refine isNums_of [u64 a, u64 b, u64 c, u64 d] rfl ?_
  rw [List.all_cons, List.all_cons, List.all_cons, List.all_cons, isU64_u64 ha, isU64_u64 hb, isU64_u64 hc, isU64_u64 hd]
  rfl

theorem isNum_num (X : Nat) : isNum (num X) = true := isNum_numd (dig_lt _ _) (dig_lt _ _) (dig_lt _ _) (dig_lt _ _)

theorem isU64_some {v : Value} (h : isU64 v = true) : ∃ x, x < 18446744073709551616 ∧ v = u64 x := by
  unfold isU64 at h
  split at h
  · rename_i x
    simp only [Bool.and_eq_true, decide_eq_true_eq, Nat.ble_eq] at h
    exact ⟨x.toNat, by omega, by simp [u64]; omega⟩
  · simp at h

theorem isNums_some {n : Nat} {v : Value} (h : isNums n v = true) : ∃ l : List Value, v = .agg l.toArray ∧ l.length = n ∧ l.all isU64 = true := by
  unfold isNums aggK at h
  split at h
  · rename_i cs
    simp only [Bool.and_eq_true] at h
    exact ⟨cs.toList, by simp, nbeq.1 h.1, h.2⟩
  · simp at h

theorem isNum_some {v : Value} (h : isNum v = true) : ∃ X, X < 2 ^ 256 ∧ v = num X := by
  obtain ⟨l, rfl, hl, ha⟩ := isNums_some h
  match l, hl, ha with
  | [x0, x1, x2, x3], _, ha =>
    simp only [List.all_cons, List.all_nil, Bool.and_true, Bool.and_eq_true] at ha
    obtain ⟨a, h0, rfl⟩ := isU64_some ha.1
    obtain ⟨b, h1, rfl⟩ := isU64_some ha.2.1
    obtain ⟨c, h2, rfl⟩ := isU64_some ha.2.2.1
    obtain ⟨d, h3, rfl⟩ := isU64_some ha.2.2.2
    refine ⟨hor a b c d, hor_lt h0 h1 h2 h3, ?_⟩
    have := num_hor h0 h1 h2 h3 0
    rw [Nat.mul_zero, Nat.add_zero] at this
    rw [this]; rfl

theorem num_inj {X Y : Nat} (hX : X < 2 ^ 256) (hY : Y < 2 ^ 256) (h : num X = num Y) : X = Y := by
  have := congrArg unnum h
  rwa [unnum_num, unnum_num, Nat.mod_eq_of_lt hX, Nat.mod_eq_of_lt hY] at this

theorem eqL_u64 (a b : Nat) (xs ys : List Value) : eqL (u64 a :: xs) (u64 b :: ys) = (decide (a = b) && eqL xs ys) := by
  show (((a : Int) == (b : Int)) && eqL xs ys) = _
  congr 1
  rw [Bool.eq_iff_iff, beq_iff_eq, decide_eq_true_eq]
  omega

theorem dig_eq {X Y : Nat} : (X % 2 ^ 256 = Y % 2 ^ 256) ↔ (dig X 0 = dig Y 0 ∧ dig X 1 = dig Y 1 ∧ dig X 2 = dig Y 2 ∧ dig X 3 = dig Y 3) := by
  constructor
  · intro h
    have e : num X = num Y := by rw [← num_mod X, ← num_mod Y, h]
    simp [num, numd, u64] at e
    omega
  · rintro ⟨h0, h1, h2, h3⟩
    have e : num X = num Y := by unfold num; rw [h0, h1, h2, h3]
    have := congrArg unnum e
    rwa [unnum_num, unnum_num] at this

/-- '==' on two numbers. -/
theorem eq_num (X Y : Nat) : eqL (num X).cells.toList (num Y).cells.toList = decide (X % 2 ^ 256 = Y % 2 ^ 256) := by
  show eqL [u64 _, u64 _, u64 _, u64 _] [u64 _, u64 _, u64 _, u64 _] = _
  simp only [eqL_u64, eqL, Bool.and_true]
  rw [Bool.eq_iff_iff]
  simp only [decide_eq_true_eq, Bool.and_eq_true, dig_eq]

/-! ## math/bits -/

def s64 (x y c : Nat) : Nat := (x + y + c) % 18446744073709551616
def c64 (x y c : Nat) : Nat := (x + y + c) / 18446744073709551616
def d64 (x y b : Nat) : Nat := (x + 18446744073709551616 - y - b) % 18446744073709551616
def b64 (x y b : Nat) : Nat := if x < y + b then 1 else 0

def Add64F : List Value → Option (Bool × Value)
  | [.int _ x, .int _ y, .int _ c] => some (Nat.ble c.toNat 1, .tuple #[u64 (s64 x.toNat y.toNat c.toNat), u64 (c64 x.toNat y.toNat c.toNat)])
  | _ => none

def Sub64F : List Value → Option (Bool × Value)
  | [.int _ x, .int _ y, .int _ c] => some (Nat.ble c.toNat 1, .tuple #[u64 (d64 x.toNat y.toNat c.toNat), u64 (b64 x.toNat y.toNat c.toNat)])
  | _ => none

def req {α : Type} (b : Bool) (k : Option α) : Option α := bif b then k else none

theorem req_true {α : Type} {b : Bool} {k : Option α} (h : b = true) : req b k = k := by subst h; rfl

end Go.W
