/-
  Several texts in one.
-/
import Derived.Test.YtafeeiodgfgepaaDoorEe
import Derived.Laws.MathBits
import Derived.ProofKit
import Derived.OpenShut
/-
  Numbers in digits of 64 bits, as values; and what is told of the functions of package limb, out of plain arithmetic. Nothing of a program's own numbers is in it.
-/
namespace Go.W
abbrev B64 : Nat := 18446744073709551616
def dig : Nat → Nat → Nat
  | X, 0 => X % 18446744073709551616
  | X, i + 1 => dig (X / 18446744073709551616) i
def u64 (x : Nat) : Value := .int .u64 (x : Int)
def i64 (x : Int) : Value := .int .i64 x
def numd (a b c d : Nat) : Value := .agg #[u64 a, u64 b, u64 c, u64 d]
def num (X : Nat) : Value := numd (dig X 0) (dig X 1) (dig X 2) (dig X 3)
def hor (a b c d : Nat) : Nat := a + 18446744073709551616 * (b + 18446744073709551616 * (c + 18446744073709551616 * d))
def intN : Value → Nat
  | .int _ x => x.toNat
  | _ => 0
def limbs : List Value → Nat
  | [] => 0
  | v :: r => intN v + 18446744073709551616 * limbs r
def unnum (v : Value) : Nat := limbs v.cells.toList
def isU64 : Value → Bool
  | .int .u64 x => decide (0 ≤ x) && Nat.ble x.toNat 18446744073709551615
  | _ => false
def isNums (n : Nat) (v : Value) : Bool := aggK v (fun l => Nat.beq l.length n && l.all isU64) false
def isNum (v : Value) : Bool := isNums 4 v
theorem dig_lt (X i : Nat) : dig X i < 18446744073709551616 := by
  induction i generalizing X with
  | zero => exact Nat.mod_lt _ (by decide)
  | succ i ih => exact ih _
theorem dig_cons {a q : Nat} (h : a < 18446744073709551616) : dig (a + 18446744073709551616 * q) 0 = a ∧ ∀ i, dig (a + 18446744073709551616 * q) (i + 1) = dig q i := by
  constructor
  · show (a + 18446744073709551616 * q) % _ = a
    omega
  · intro i
    show dig ((a + 18446744073709551616 * q) / _) i = _
    rw [show (a + 18446744073709551616 * q) / 18446744073709551616 = q from by omega]
theorem num_hor {a b c d : Nat} (ha : a < 18446744073709551616) (hb : b < 18446744073709551616) (hc : c < 18446744073709551616) (hd : d < 18446744073709551616) (e : Nat) :
    num (hor a b c (d + 18446744073709551616 * e)) = numd a b c d := by
  unfold num hor
  rw [(dig_cons ha).1, (dig_cons ha).2, (dig_cons ha).2, (dig_cons ha).2, (dig_cons hb).1, (dig_cons hb).2, (dig_cons hb).2, (dig_cons hc).1, (dig_cons hc).2, (dig_cons hd).1]
theorem hor_dig {X : Nat} (h : X < 2 ^ 256) : X = hor (dig X 0) (dig X 1) (dig X 2) (dig X 3) := by
  unfold hor dig dig dig dig
  omega
theorem hor_lt {a b c d : Nat} (ha : a < 18446744073709551616) (hb : b < 18446744073709551616) (hc : c < 18446744073709551616) (hd : d < 18446744073709551616) : hor a b c d < 2 ^ 256 := by
  unfold hor; omega
theorem digits {X : Nat} (h : X < 2 ^ 256) : ∃ a b c d, a < 18446744073709551616 ∧ b < 18446744073709551616 ∧ c < 18446744073709551616 ∧ d < 18446744073709551616 ∧ X = hor a b c d ∧ num X = numd a b c d :=
  ⟨_, _, _, _, dig_lt X 0, dig_lt X 1, dig_lt X 2, dig_lt X 3, hor_dig h, rfl⟩
theorem unnum_numd (a b c d : Nat) : unnum (numd a b c d) = hor a b c d := rfl
theorem num_mod (X : Nat) : num (X % 2 ^ 256) = num X := by
  unfold num
  congr 1 <;> unfold dig <;> (try unfold dig) <;> (try unfold dig) <;> (try unfold dig) <;> omega
theorem num_add_mul (X e : Nat) : num (X + 2 ^ 256 * e) = num X := by
  rw [← num_mod, Nat.add_mul_mod_self_left, num_mod]
theorem unnum_num (X : Nat) : unnum (num X) = X % 2 ^ 256 := by
  rw [← num_mod]
  have h : X % 2 ^ 256 < 2 ^ 256 := Nat.mod_lt _ (by decide)
  exact (hor_dig h).symm
theorem isU64_u64 {x : Nat} (h : x < 18446744073709551616) : isU64 (u64 x) = true := by
  show (decide ((0 : Int) ≤ (x : Int)) && Nat.ble x 18446744073709551615) = true
  rw [Bool.and_eq_true, Nat.ble_eq]
  exact ⟨decide_eq_true (Int.natCast_nonneg x), by omega⟩
theorem isNums_of {n : Nat} (l : List Value) (hl : l.length = n) (h : l.all isU64 = true) : isNums n (.agg l.toArray) = true := by
  subst hl
  unfold isNums aggK
  simp only [h, Nat.beq_refl, Bool.and_true]
theorem isNum_numd {a b c d : Nat} (ha : a < 18446744073709551616) (hb : b < 18446744073709551616) (hc : c < 18446744073709551616) (hd : d < 18446744073709551616) : isNum (numd a b c d) = true := by
  refine isNums_of [u64 a, u64 b, u64 c, u64 d] rfl ?_
  rw [List.all_cons, List.all_cons, List.all_cons, List.all_cons, isU64_u64 ha, isU64_u64 hb, isU64_u64 hc, isU64_u64 hd]
  rfl
theorem isNum_num (X : Nat) : isNum (num X) = true := isNum_numd (dig_lt _ _) (dig_lt _ _) (dig_lt _ _) (dig_lt _ _)
theorem isU64_some {v : Value} (h : isU64 v = true) : ∃ x, x < 18446744073709551616 ∧ v = u64 x := by
  unfold isU64 at h
  split at h
  · rename_i x
    simp only [Bool.and_eq_true, decide_eq_true_eq, Nat.ble_eq] at h
    exact ⟨x.toNat, by omega, by simp [u64]; omega⟩
  · simp at h
theorem isNums_some {n : Nat} {v : Value} (h : isNums n v = true) : ∃ l : List Value, v = .agg l.toArray ∧ l.length = n ∧ l.all isU64 = true := by
  unfold isNums aggK at h
  split at h
  · rename_i cs
    simp only [Bool.and_eq_true] at h
    exact ⟨cs.toList, by simp, nbeq.1 h.1, h.2⟩
  · simp at h
theorem isNum_some {v : Value} (h : isNum v = true) : ∃ X, X < 2 ^ 256 ∧ v = num X := by
  obtain ⟨l, rfl, hl, ha⟩ := isNums_some h
  match l, hl, ha with
  | [x0, x1, x2, x3], _, ha =>
    simp only [List.all_cons, List.all_nil, Bool.and_true, Bool.and_eq_true] at ha
    obtain ⟨a, h0, rfl⟩ := isU64_some ha.1
    obtain ⟨b, h1, rfl⟩ := isU64_some ha.2.1
    obtain ⟨c, h2, rfl⟩ := isU64_some ha.2.2.1
    obtain ⟨d, h3, rfl⟩ := isU64_some ha.2.2.2
    refine ⟨hor a b c d, hor_lt h0 h1 h2 h3, ?_⟩
    have := num_hor h0 h1 h2 h3 0
    rw [Nat.mul_zero, Nat.add_zero] at this
    rw [this]; rfl
theorem num_inj {X Y : Nat} (hX : X < 2 ^ 256) (hY : Y < 2 ^ 256) (h : num X = num Y) : X = Y := by
  have := congrArg unnum h
  rwa [unnum_num, unnum_num, Nat.mod_eq_of_lt hX, Nat.mod_eq_of_lt hY] at this
theorem eqL_u64 (a b : Nat) (xs ys : List Value) : eqL (u64 a :: xs) (u64 b :: ys) = (decide (a = b) && eqL xs ys) := by
  show (((a : Int) == (b : Int)) && eqL xs ys) = _
  congr 1
  rw [Bool.eq_iff_iff, beq_iff_eq, decide_eq_true_eq]
  omega
theorem dig_eq {X Y : Nat} : (X % 2 ^ 256 = Y % 2 ^ 256) ↔ (dig X 0 = dig Y 0 ∧ dig X 1 = dig Y 1 ∧ dig X 2 = dig Y 2 ∧ dig X 3 = dig Y 3) := by
  constructor
  · intro h
    have e : num X = num Y := by rw [← num_mod X, ← num_mod Y, h]
    simp [num, numd, u64] at e
    omega
  · rintro ⟨h0, h1, h2, h3⟩
    have e : num X = num Y := by unfold num; rw [h0, h1, h2, h3]
    have := congrArg unnum e
    rwa [unnum_num, unnum_num] at this
theorem eq_num (X Y : Nat) : eqL (num X).cells.toList (num Y).cells.toList = decide (X % 2 ^ 256 = Y % 2 ^ 256) := by
  show eqL [u64 _, u64 _, u64 _, u64 _] [u64 _, u64 _, u64 _, u64 _] = _
  simp only [eqL_u64, eqL, Bool.and_true]
  rw [Bool.eq_iff_iff]
  simp only [decide_eq_true_eq, Bool.and_eq_true, dig_eq]
def s64 (x y c : Nat) : Nat := (x + y + c) % 18446744073709551616
def c64 (x y c : Nat) : Nat := (x + y + c) / 18446744073709551616
def d64 (x y b : Nat) : Nat := (x + 18446744073709551616 - y - b) % 18446744073709551616
def b64 (x y b : Nat) : Nat := if x < y + b then 1 else 0
def Add64F : List Value → Option (Bool × Value)
  | [.int _ x, .int _ y, .int _ c] => some (Nat.ble c.toNat 1, .tuple #[u64 (s64 x.toNat y.toNat c.toNat), u64 (c64 x.toNat y.toNat c.toNat)])
  | _ => none
def Sub64F : List Value → Option (Bool × Value)
  | [.int _ x, .int _ y, .int _ c] => some (Nat.ble c.toNat 1, .tuple #[u64 (d64 x.toNat y.toNat c.toNat), u64 (b64 x.toNat y.toNat c.toNat)])
  | _ => none
def req {α : Type} (b : Bool) (k : Option α) : Option α := bif b then k else none
theorem req_true {α : Type} {b : Bool} {k : Option α} (h : b = true) : req b k = k := by subst h; rfl
end Go.W
/-
  What is told of the functions of package limb: their answers as numbers, and the ways of their texts, digit by digit.
-/
namespace Go.W
theorem arg2 {f : Value → Value → Value} {args : List Value} {v : Value} (h : (match args with | [x, y] => some (isNum x && isNum y, f x y) | _ => none) = some (true, v)) :
    ∃ X Y, X < 2 ^ 256 ∧ Y < 2 ^ 256 ∧ args = [num X, num Y] ∧ v = f (num X) (num Y) := by
  split at h
  · rename_i x y
    simp only [Option.some.injEq, Prod.mk.injEq, Bool.and_eq_true] at h
    obtain ⟨X, hX, rfl⟩ := isNum_some h.1.1
    obtain ⟨Y, hY, rfl⟩ := isNum_some h.1.2
    exact ⟨X, Y, hX, hY, rfl, h.2.symm⟩
  · simp at h
theorem arg3 {f : Value → Value → Value → Value} {args : List Value} {v : Value} (h : (match args with | [x, y, z] => some (isNum x && isNum y && isNum z, f x y z) | _ => none) = some (true, v)) :
    ∃ X Y Z, X < 2 ^ 256 ∧ Y < 2 ^ 256 ∧ Z < 2 ^ 256 ∧ args = [num X, num Y, num Z] ∧ v = f (num X) (num Y) (num Z) := by
  split at h
  · rename_i x y z
    simp only [Option.some.injEq, Prod.mk.injEq, Bool.and_eq_true] at h
    obtain ⟨X, hX, rfl⟩ := isNum_some h.1.1.1
    obtain ⟨Y, hY, rfl⟩ := isNum_some h.1.1.2
    obtain ⟨Z, hZ, rfl⟩ := isNum_some h.1.2
    exact ⟨X, Y, Z, hX, hY, hZ, rfl, h.2.symm⟩
  · simp at h
theorem arg1 {f : Value → Value} {args : List Value} {v : Value} (h : (match args with | [x] => some (isNum x, f x) | _ => none) = some (true, v)) :
    ∃ X, X < 2 ^ 256 ∧ args = [num X] ∧ v = f (num X) := by
  split at h
  · rename_i x
    simp only [Option.some.injEq, Prod.mk.injEq] at h
    obtain ⟨X, hX, rfl⟩ := isNum_some h.1
    exact ⟨X, hX, rfl, h.2.symm⟩
  · simp at h
theorem unnum_lt {X : Nat} (h : X < 2 ^ 256) : unnum (num X) = X := by rw [unnum_num, Nat.mod_eq_of_lt h]
theorem ble_true {a b : Nat} (h : a ≤ b) : Nat.ble a b = true := by rw [Nat.ble_eq]; exact h
def addV (X Y : Nat) : Value := .tuple #[num (X + Y), u64 ((X + Y) / 2 ^ 256)]
def AddF : List Value → Option (Bool × Value)
  | [x, y] => some (isNum x && isNum y, addV (unnum x) (unnum y))
  | _ => none
def AddT (x0 x1 x2 x3 y0 y1 y2 y3 : Nat) : Option Value :=
  req (Nat.ble 0 1) <| req (Nat.ble (c64 x0 y0 0) 1) <| req (Nat.ble (c64 x1 y1 (c64 x0 y0 0)) 1) <| req (Nat.ble (c64 x2 y2 (c64 x1 y1 (c64 x0 y0 0))) 1) <|
    some (.tuple #[numd (s64 x0 y0 0) (s64 x1 y1 (c64 x0 y0 0)) (s64 x2 y2 (c64 x1 y1 (c64 x0 y0 0))) (s64 x3 y3 (c64 x2 y2 (c64 x1 y1 (c64 x0 y0 0)))), u64 (c64 x3 y3 (c64 x2 y2 (c64 x1 y1 (c64 x0 y0 0))))])
theorem sc64 (x y c : Nat) : s64 x y c + 18446744073709551616 * c64 x y c = x + y + c := Nat.mod_add_div _ _
theorem s64_lt (x y c : Nat) : s64 x y c < 18446744073709551616 := Nat.mod_lt _ (by decide)
theorem c64_le {x y c : Nat} (hx : x < 18446744073709551616) (hy : y < 18446744073709551616) (hc : c ≤ 1) : c64 x y c ≤ 1 := by unfold c64; omega
theorem AddT_eq {x0 x1 x2 x3 y0 y1 y2 y3 : Nat} (hx0 : x0 < 18446744073709551616) (hx1 : x1 < 18446744073709551616) (hx2 : x2 < 18446744073709551616) (hx3 : x3 < 18446744073709551616)
    (hy0 : y0 < 18446744073709551616) (hy1 : y1 < 18446744073709551616) (hy2 : y2 < 18446744073709551616) (hy3 : y3 < 18446744073709551616) :
    AddT x0 x1 x2 x3 y0 y1 y2 y3 = some (addV (hor x0 x1 x2 x3) (hor y0 y1 y2 y3)) := by
  unfold AddT
  have k0 := c64_le hx0 hy0 (Nat.zero_le 1)
  have k1 := c64_le hx1 hy1 k0
  have k2 := c64_le hx2 hy2 k1
  have k3 := c64_le hx3 hy3 k2
  have e0 := sc64 x0 y0 0
  have e1 := sc64 x1 y1 (c64 x0 y0 0)
  have e2 := sc64 x2 y2 (c64 x1 y1 (c64 x0 y0 0))
  have e3 := sc64 x3 y3 (c64 x2 y2 (c64 x1 y1 (c64 x0 y0 0)))
  have l0 := s64_lt x0 y0 0
  have l1 := s64_lt x1 y1 (c64 x0 y0 0)
  have l2 := s64_lt x2 y2 (c64 x1 y1 (c64 x0 y0 0))
  have l3 := s64_lt x3 y3 (c64 x2 y2 (c64 x1 y1 (c64 x0 y0 0)))
  rw [req_true (ble_true (by omega)), req_true (ble_true k0), req_true (ble_true k1), req_true (ble_true k2)]
  generalize s64 x3 y3 (c64 x2 y2 (c64 x1 y1 (c64 x0 y0 0))) = s3 at *
  generalize c64 x3 y3 (c64 x2 y2 (c64 x1 y1 (c64 x0 y0 0))) = c3 at *
  generalize s64 x2 y2 (c64 x1 y1 (c64 x0 y0 0)) = s2 at *
  generalize c64 x2 y2 (c64 x1 y1 (c64 x0 y0 0)) = c2 at *
  generalize s64 x1 y1 (c64 x0 y0 0) = s1 at *
  generalize c64 x1 y1 (c64 x0 y0 0) = c1 at *
  generalize s64 x0 y0 0 = s0 at *
  generalize c64 x0 y0 0 = c0 at *
  have hs : hor x0 x1 x2 x3 + hor y0 y1 y2 y3 = hor s0 s1 s2 (s3 + 18446744073709551616 * c3) := by unfold hor; omega
  have hq : (hor x0 x1 x2 x3 + hor y0 y1 y2 y3) / 2 ^ 256 = c3 := by
    rw [hs]; unfold hor; omega
  unfold addV
  rw [hq, hs, num_hor l0 l1 l2 l3]
def subV (X Y : Nat) : Value := .tuple #[num (2 ^ 256 + X - Y), u64 (if X < Y then 1 else 0)]
def SubF : List Value → Option (Bool × Value)
  | [x, y] => some (isNum x && isNum y, subV (unnum x) (unnum y))
  | _ => none
def SubT (x0 x1 x2 x3 y0 y1 y2 y3 : Nat) : Option Value :=
  req (Nat.ble 0 1) <| req (Nat.ble (b64 x0 y0 0) 1) <| req (Nat.ble (b64 x1 y1 (b64 x0 y0 0)) 1) <| req (Nat.ble (b64 x2 y2 (b64 x1 y1 (b64 x0 y0 0))) 1) <|
    some (.tuple #[numd (d64 x0 y0 0) (d64 x1 y1 (b64 x0 y0 0)) (d64 x2 y2 (b64 x1 y1 (b64 x0 y0 0))) (d64 x3 y3 (b64 x2 y2 (b64 x1 y1 (b64 x0 y0 0)))), u64 (b64 x3 y3 (b64 x2 y2 (b64 x1 y1 (b64 x0 y0 0))))])
theorem db64 {x y b : Nat} (hx : x < 18446744073709551616) (hy : y < 18446744073709551616) (hb : b ≤ 1) : d64 x y b + y + b = x + 18446744073709551616 * b64 x y b ∧ d64 x y b < 18446744073709551616 ∧ b64 x y b ≤ 1 := by
  unfold d64 b64
  split <;> omega
theorem SubT_eq {x0 x1 x2 x3 y0 y1 y2 y3 : Nat} (hx0 : x0 < 18446744073709551616) (hx1 : x1 < 18446744073709551616) (hx2 : x2 < 18446744073709551616) (hx3 : x3 < 18446744073709551616)
    (hy0 : y0 < 18446744073709551616) (hy1 : y1 < 18446744073709551616) (hy2 : y2 < 18446744073709551616) (hy3 : y3 < 18446744073709551616) :
    SubT x0 x1 x2 x3 y0 y1 y2 y3 = some (subV (hor x0 x1 x2 x3) (hor y0 y1 y2 y3)) := by
  unfold SubT
  obtain ⟨e0, l0, k0⟩ := db64 hx0 hy0 (Nat.zero_le 1)
  obtain ⟨e1, l1, k1⟩ := db64 hx1 hy1 k0
  obtain ⟨e2, l2, k2⟩ := db64 hx2 hy2 k1
  obtain ⟨e3, l3, k3⟩ := db64 hx3 hy3 k2
  rw [req_true (ble_true (by omega)), req_true (ble_true k0), req_true (ble_true k1), req_true (ble_true k2)]
  generalize d64 x3 y3 (b64 x2 y2 (b64 x1 y1 (b64 x0 y0 0))) = s3 at *
  generalize b64 x3 y3 (b64 x2 y2 (b64 x1 y1 (b64 x0 y0 0))) = c3 at *
  generalize d64 x2 y2 (b64 x1 y1 (b64 x0 y0 0)) = s2 at *
  generalize b64 x2 y2 (b64 x1 y1 (b64 x0 y0 0)) = c2 at *
  generalize d64 x1 y1 (b64 x0 y0 0) = s1 at *
  generalize b64 x1 y1 (b64 x0 y0 0) = c1 at *
  generalize d64 x0 y0 0 = s0 at *
  generalize b64 x0 y0 0 = c0 at *
  have hX := hor_lt hx0 hx1 hx2 hx3
  have hY := hor_lt hy0 hy1 hy2 hy3
  have hS := hor_lt l0 l1 l2 l3
  have hs : hor s0 s1 s2 s3 + hor y0 y1 y2 y3 = hor x0 x1 x2 x3 + 2 ^ 256 * c3 := by unfold hor; omega
  have hn := num_hor l0 l1 l2 l3 0
  rw [Nat.mul_zero, Nat.add_zero] at hn
  unfold subV
  by_cases hlt : hor x0 x1 x2 x3 < hor y0 y1 y2 y3
  · have : c3 = 1 := by omega
    subst this
    rw [if_pos hlt, show 2 ^ 256 + hor x0 x1 x2 x3 - hor y0 y1 y2 y3 = hor s0 s1 s2 s3 from by omega, hn]
  · have : c3 = 0 := by omega
    subst this
    rw [if_neg hlt, show 2 ^ 256 + hor x0 x1 x2 x3 - hor y0 y1 y2 y3 = hor s0 s1 s2 s3 + 2 ^ 256 * 1 from by omega, num_add_mul, hn]
def cmpI (X Y : Nat) : Int := if X < Y then -1 else if Y < X then 1 else 0
def CmpF : List Value → Option (Bool × Value)
  | [x, y] => some (isNum x && isNum y, i64 (cmpI (unnum x) (unnum y)))
  | _ => none
def cmpD (a b : Nat) (k : Option Value) : Option Value := bif decide ((a : Int) < (b : Int)) then some (i64 (-1)) else bif decide ((a : Int) > (b : Int)) then some (i64 1) else k
def CmpT (x0 x1 x2 x3 y0 y1 y2 y3 : Nat) : Option Value := cmpD x3 y3 (cmpD x2 y2 (cmpD x1 y1 (cmpD x0 y0 (some (i64 0)))))
theorem cmpD_lt {a b : Nat} (h : a < b) (k : Option Value) : cmpD a b k = some (i64 (-1)) := by
  unfold cmpD; rw [decide_eq_true (by omega)]; rfl
theorem cmpD_gt {a b : Nat} (h : b < a) (k : Option Value) : cmpD a b k = some (i64 1) := by
  unfold cmpD; rw [decide_eq_false (by omega), decide_eq_true (by omega)]; rfl
theorem cmpD_eq' (a : Nat) (k : Option Value) : cmpD a a k = k := by
  unfold cmpD; rw [decide_eq_false (by omega : ¬ ((a : Int) < (a : Int)))]; rfl
theorem CmpT_eq {x0 x1 x2 x3 y0 y1 y2 y3 : Nat} (hx0 : x0 < 18446744073709551616) (hx1 : x1 < 18446744073709551616) (hx2 : x2 < 18446744073709551616)
    (hy0 : y0 < 18446744073709551616) (hy1 : y1 < 18446744073709551616) (hy2 : y2 < 18446744073709551616) :
    CmpT x0 x1 x2 x3 y0 y1 y2 y3 = some (i64 (cmpI (hor x0 x1 x2 x3) (hor y0 y1 y2 y3))) := by
  unfold CmpT cmpI hor
  rcases Nat.lt_trichotomy x3 y3 with h | rfl | h
  · rw [cmpD_lt h, if_pos (by omega)]
  · rw [cmpD_eq']
    rcases Nat.lt_trichotomy x2 y2 with h | rfl | h
    · rw [cmpD_lt h, if_pos (by omega)]
    · rw [cmpD_eq']
      rcases Nat.lt_trichotomy x1 y1 with h | rfl | h
      · rw [cmpD_lt h, if_pos (by omega)]
      · rw [cmpD_eq']
        rcases Nat.lt_trichotomy x0 y0 with h | rfl | h
        · rw [cmpD_lt h, if_pos (by omega)]
        · rw [cmpD_eq', if_neg (by omega), if_neg (by omega)]
        · rw [cmpD_gt h, if_neg (by omega), if_pos (by omega)]
      · rw [cmpD_gt h, if_neg (by omega), if_pos (by omega)]
    · rw [cmpD_gt h, if_neg (by omega), if_pos (by omega)]
  · rw [cmpD_gt h, if_neg (by omega), if_pos (by omega)]
end Go.W
/-
  Products, bits: the ways of the texts, and what they come to.
-/
namespace Go.W
def iAdd (k : IntKind) (a b : Int) : Int := k.wrap (a + b)
def iSub (k : IntKind) (a b : Int) : Int := k.wrap (a - b)
def iMul (k : IntKind) (a b : Int) : Int := k.wrap (a * b)
def iShr (k : IntKind) (a n : Int) : Int := a.fdiv (2 ^ (min n.toNat k.bits))
def iShl (k : IntKind) (a n : Int) : Int := k.wrap (a * 2 ^ (min n.toNat k.bits))
def iAnd (k : IntKind) (a b : Int) : Int := k.wrap ((BitVec.ofInt k.bits a &&& BitVec.ofInt k.bits b).toNat : Int)
def iOr (k : IntKind) (a b : Int) : Int := k.wrap ((BitVec.ofInt k.bits a ||| BitVec.ofInt k.bits b).toNat : Int)
theorem wrap_u64 (n : Int) : IntKind.u64.wrap n = n % 18446744073709551616 := by simp [IntKind.wrap, IntKind.bits, IntKind.signed]
theorem wrap_i64 {n : Int} (h : -9223372036854775808 ≤ n ∧ n < 9223372036854775808) : IntKind.i64.wrap n = n := by
  have e : IntKind.i64.wrap n = if n % 18446744073709551616 ≥ 9223372036854775808 then n % 18446744073709551616 - 18446744073709551616 else n % 18446744073709551616 := by
    simp [IntKind.wrap, IntKind.bits, IntKind.signed]
  rw [e]
  split <;> omega
theorem iAdd_u (a b : Nat) : iAdd .u64 a b = ((a + b) % 18446744073709551616 : Nat) := by
  unfold iAdd; rw [wrap_u64]; omega
theorem iMul_u (a b : Nat) : iMul .u64 a b = ((a * b) % 18446744073709551616 : Nat) := by
  unfold iMul; rw [wrap_u64, ← Int.natCast_mul]; omega
theorem iShr_u (a n : Nat) (h : n ≤ 64) : iShr .u64 a n = (a / 2 ^ n : Nat) := by
  unfold iShr
  have : min (n : Int).toNat IntKind.u64.bits = n := by show min n 64 = n; omega
  rw [this, Int.fdiv_eq_ediv_of_nonneg _ (Int.pow_nonneg (by decide))]
  have e : ((2 : Int) ^ n) = ((2 ^ n : Nat) : Int) := by simp
  rw [e, ← Int.natCast_ediv]
theorem iAnd_u {a b : Nat} (ha : a < 18446744073709551616) (hb : b < 18446744073709551616) : iAnd .u64 a b = (a &&& b : Nat) := by
  unfold iAnd
  rw [wrap_u64]
  have e1 : (BitVec.ofInt IntKind.u64.bits (a : Int) &&& BitVec.ofInt IntKind.u64.bits (b : Int)).toNat = a &&& b := by
    show (BitVec.ofInt 64 (a : Int) &&& BitVec.ofInt 64 (b : Int)).toNat = a &&& b
    rw [BitVec.toNat_and, BitVec.ofInt_natCast, BitVec.ofInt_natCast, BitVec.toNat_ofNat, BitVec.toNat_ofNat, Nat.mod_eq_of_lt (by simpa using ha), Nat.mod_eq_of_lt (by simpa using hb)]
  rw [e1]
  have : a &&& b ≤ a := Nat.and_le_left
  omega
theorem iOr_u {a b : Nat} (ha : a < 18446744073709551616) (hb : b < 18446744073709551616) : iOr .u64 a b = (a ||| b : Nat) := by
  unfold iOr
  rw [wrap_u64]
  have e1 : (BitVec.ofInt IntKind.u64.bits (a : Int) ||| BitVec.ofInt IntKind.u64.bits (b : Int)).toNat = a ||| b := by
    show (BitVec.ofInt 64 (a : Int) ||| BitVec.ofInt 64 (b : Int)).toNat = a ||| b
    rw [BitVec.toNat_or, BitVec.ofInt_natCast, BitVec.ofInt_natCast, BitVec.toNat_ofNat, BitVec.toNat_ofNat, Nat.mod_eq_of_lt (by simpa using ha), Nat.mod_eq_of_lt (by simpa using hb)]
  rw [e1]
  have : a ||| b < 2 ^ 64 := Nat.or_lt_two_pow (by simpa using ha) (by simpa using hb)
  omega
theorem and_mask {a n : Nat} : a &&& (2 ^ n - 1) = a % 2 ^ n := Nat.and_two_pow_sub_one_eq_mod a n
def isU (v : Value) : Bool := isU64 v
def mul64V (x y : Nat) : Value := .tuple #[u64 (x * y / 18446744073709551616), u64 (x * y % 18446744073709551616)]
def Mul64F : List Value → Option (Bool × Value)
  | [x, y] => some (isU64 x && isU64 y, mul64V (intN x) (intN y))
  | _ => none
def m64lo (x : Int) : Int := iAnd .u64 x 4294967295
def m64hi (x : Int) : Int := iShr .u64 x 32
def m64t (x y : Int) : Int := iAdd .u64 (iMul .u64 (m64hi x) (m64lo y)) (m64hi (iMul .u64 (m64lo x) (m64lo y)))
def Mul64T (x y : Int) : Option Value :=
  some (.tuple #[.int .u64 (iAdd .u64 (iAdd .u64 (iMul .u64 (m64hi x) (m64hi y)) (m64hi (m64t x y))) (m64hi (iAdd .u64 (m64lo (m64t x y)) (iMul .u64 (m64lo x) (m64hi y))))), .int .u64 (iMul .u64 x y)])
theorem m64lo_eq {x : Int} (h0 : 0 ≤ x) (h : x < 18446744073709551616) : m64lo x = x % 4294967296 := by
  obtain ⟨n, rfl⟩ := Int.eq_ofNat_of_zero_le h0
  unfold m64lo
  have := iAnd_u (a := n) (b := 4294967295) (by omega) (by omega)
  rw [show ((4294967295 : Nat) : Int) = 4294967295 from rfl] at this
  rw [this, show 4294967295 = 2 ^ 32 - 1 from rfl, and_mask]
  omega
theorem m64hi_eq {x : Int} (h0 : 0 ≤ x) : m64hi x = x / 4294967296 := by
  obtain ⟨n, rfl⟩ := Int.eq_ofNat_of_zero_le h0
  have := iShr_u n 32 (by omega)
  rw [show ((32 : Nat) : Int) = 32 from rfl] at this
  unfold m64hi
  rw [this]
  omega
theorem Mul64T_eq {x y : Nat} (hx : x < 18446744073709551616) (hy : y < 18446744073709551616) : Mul64T x y = some (mul64V x y) := by
  have e := Go.mul64_arith x y (by omega) (by omega) (by omega) (by omega)
  have nn : ∀ z : Int, 0 ≤ z % 18446744073709551616 ∧ z % 18446744073709551616 < 18446744073709551616 := fun z => by omega
  unfold Mul64T m64t mul64V iAdd iMul
  simp only [wrap_u64]
  rw [m64hi_eq (x := (x : Int)) (by omega), m64hi_eq (x := (y : Int)) (by omega), m64lo_eq (x := (x : Int)) (by omega) (by omega), m64lo_eq (x := (y : Int)) (by omega) (by omega)]
  rw [m64hi_eq (nn _).1, m64hi_eq (nn _).1, m64hi_eq (nn _).1, m64lo_eq (nn _).1 (nn _).2]
  rw [e]
  have h2 : ((x : Int) * (y : Int)) / 18446744073709551616 = ((x * y / 18446744073709551616 : Nat) : Int) := by rw [← Int.natCast_mul]; omega
  have h3 : ((x : Int) * (y : Int)) % 18446744073709551616 = ((x * y % 18446744073709551616 : Nat) : Int) := by rw [← Int.natCast_mul]; omega
  rw [h2, h3]; rfl
def mulAddV (x y c d : Nat) : Value := .tuple #[u64 ((x * y + c + d) % 18446744073709551616), u64 ((x * y + c + d) / 18446744073709551616)]
def mulAddF : List Value → Option (Bool × Value)
  | [x, y, c, d] => some (isU64 x && isU64 y && isU64 c && isU64 d, mulAddV (intN x) (intN y) (intN c) (intN d))
  | _ => none
def mulAddT (x y c d : Nat) : Option Value :=
  let hi := x * y / 18446744073709551616
  let lo := x * y % 18446744073709551616
  req (isU64 (u64 x) && isU64 (u64 y)) <| req (Nat.ble 0 1) <| req (Nat.ble 0 1) <|
    some (.tuple #[u64 (s64 (s64 lo c 0) d 0), .int .u64 (iAdd .u64 (iAdd .u64 (hi : Int) (c64 lo c 0 : Int)) (c64 (s64 lo c 0) d 0 : Int))])
theorem mul_le {x y : Nat} (hx : x < 18446744073709551616) (hy : y < 18446744073709551616) : x * y ≤ 18446744073709551615 * 18446744073709551615 := Nat.mul_le_mul (by omega) (by omega)
theorem mulAddT_eq {x y c d : Nat} (hx : x < 18446744073709551616) (hy : y < 18446744073709551616) (hc : c < 18446744073709551616) (hd : d < 18446744073709551616) : mulAddT x y c d = some (mulAddV x y c d) := by
  unfold mulAddT
  simp only [isU64_u64 hx, isU64_u64 hy]
  rw [req_true (b := true && true) rfl, req_true (b := Nat.ble 0 1) rfl, req_true (b := Nat.ble 0 1) rfl]
  have h := mul_le hx hy
  unfold mulAddV
  generalize x * y = p at *
  rw [iAdd_u, iAdd_u]
  have e1 : s64 (s64 (p % 18446744073709551616) c 0) d 0 = (p + c + d) % 18446744073709551616 := by unfold s64; omega
  have e2 : ((p / 18446744073709551616 + c64 (p % 18446744073709551616) c 0) % 18446744073709551616 + c64 (s64 (p % 18446744073709551616) c 0) d 0) % 18446744073709551616 = (p + c + d) / 18446744073709551616 := by
    unfold s64 c64; omega
  rw [e1, e2]; rfl
theorem argU2 {f : Value → Value → Value} {args : List Value} {v : Value} (h : (match args with | [x, y] => some (isU64 x && isU64 y, f x y) | _ => none) = some (true, v)) :
    ∃ x y, x < 18446744073709551616 ∧ y < 18446744073709551616 ∧ args = [u64 x, u64 y] ∧ v = f (u64 x) (u64 y) := by
  split at h
  · simp only [Option.some.injEq, Prod.mk.injEq, Bool.and_eq_true] at h
    obtain ⟨x, hx, rfl⟩ := isU64_some h.1.1
    obtain ⟨y, hy, rfl⟩ := isU64_some h.1.2
    exact ⟨x, y, hx, hy, rfl, h.2.symm⟩
  · simp at h
theorem argU4 {f : Value → Value → Value → Value → Value} {args : List Value} {v : Value} (h : (match args with | [x, y, c, d] => some (isU64 x && isU64 y && isU64 c && isU64 d, f x y c d) | _ => none) = some (true, v)) :
    ∃ x y c d, x < 18446744073709551616 ∧ y < 18446744073709551616 ∧ c < 18446744073709551616 ∧ d < 18446744073709551616 ∧ args = [u64 x, u64 y, u64 c, u64 d] ∧ v = f (u64 x) (u64 y) (u64 c) (u64 d) := by
  split at h
  · simp only [Option.some.injEq, Prod.mk.injEq, Bool.and_eq_true] at h
    obtain ⟨x, hx, rfl⟩ := isU64_some h.1.1.1.1
    obtain ⟨y, hy, rfl⟩ := isU64_some h.1.1.1.2
    obtain ⟨c, hc, rfl⟩ := isU64_some h.1.1.2
    obtain ⟨d, hd, rfl⟩ := isU64_some h.1.2
    exact ⟨x, y, c, d, hx, hy, hc, hd, rfl, h.2.symm⟩
  · simp at h
theorem intN_u64 (x : Nat) : intN (u64 x) = x := rfl
end Go.W
/-
  Products of numbers; bits; what is left.
-/
namespace Go.W
def numd8 (a b c d e f g h : Nat) : Value := .agg #[u64 a, u64 b, u64 c, u64 d, u64 e, u64 f, u64 g, u64 h]
def num8 (X : Nat) : Value := numd8 (dig X 0) (dig X 1) (dig X 2) (dig X 3) (dig X 4) (dig X 5) (dig X 6) (dig X 7)
def hor8 (a b c d e f g h : Nat) : Nat := hor a b c (d + 18446744073709551616 * (hor e f g h))
theorem num8_hor {a b c d e f g h : Nat} (ha : a < 18446744073709551616) (hb : b < 18446744073709551616) (hc : c < 18446744073709551616) (hd : d < 18446744073709551616)
    (he : e < 18446744073709551616) (hf : f < 18446744073709551616) (hg : g < 18446744073709551616) (hh : h < 18446744073709551616) : num8 (hor8 a b c d e f g h) = numd8 a b c d e f g h := by
  unfold num8 hor8 hor
  have h0 : h = h + 18446744073709551616 * 0 := by omega
  rw [(dig_cons ha).1, (dig_cons ha).2, (dig_cons ha).2, (dig_cons ha).2, (dig_cons ha).2, (dig_cons ha).2, (dig_cons ha).2, (dig_cons ha).2,
    (dig_cons hb).1, (dig_cons hb).2, (dig_cons hb).2, (dig_cons hb).2, (dig_cons hb).2, (dig_cons hb).2, (dig_cons hb).2,
    (dig_cons hc).1, (dig_cons hc).2, (dig_cons hc).2, (dig_cons hc).2, (dig_cons hc).2, (dig_cons hc).2,
    (dig_cons hd).1, (dig_cons hd).2, (dig_cons hd).2, (dig_cons hd).2, (dig_cons hd).2,
    (dig_cons he).1, (dig_cons he).2, (dig_cons he).2, (dig_cons he).2, (dig_cons hf).1, (dig_cons hf).2, (dig_cons hf).2, (dig_cons hg).1, (dig_cons hg).2]
  congr 1
  show h % _ = h
  omega
theorem unnum_numd8 (a b c d e f g h : Nat) : unnum (numd8 a b c d e f g h) = hor8 a b c d e f g h := rfl
theorem isNums8_some {v : Value} (h : isNums 8 v = true) : ∃ a b c d e f g i, a < 18446744073709551616 ∧ b < 18446744073709551616 ∧ c < 18446744073709551616 ∧ d < 18446744073709551616 ∧
    e < 18446744073709551616 ∧ f < 18446744073709551616 ∧ g < 18446744073709551616 ∧ i < 18446744073709551616 ∧ v = numd8 a b c d e f g i := by
  obtain ⟨l, rfl, hl, ha⟩ := isNums_some h
  match l, hl, ha with
  | [x0, x1, x2, x3, x4, x5, x6, x7], _, ha =>
    simp only [List.all_cons, List.all_nil, Bool.and_true, Bool.and_eq_true] at ha
    obtain ⟨a, h0, rfl⟩ := isU64_some ha.1
    obtain ⟨b, h1, rfl⟩ := isU64_some ha.2.1
    obtain ⟨c, h2, rfl⟩ := isU64_some ha.2.2.1
    obtain ⟨d, h3, rfl⟩ := isU64_some ha.2.2.2.1
    obtain ⟨e, h4, rfl⟩ := isU64_some ha.2.2.2.2.1
    obtain ⟨f, h5, rfl⟩ := isU64_some ha.2.2.2.2.2.1
    obtain ⟨g, h6, rfl⟩ := isU64_some ha.2.2.2.2.2.2.1
    obtain ⟨i, h7, rfl⟩ := isU64_some ha.2.2.2.2.2.2.2
    exact ⟨a, b, c, d, e, f, g, i, h0, h1, h2, h3, h4, h5, h6, h7, rfl⟩
theorem isNums8_num8 (X : Nat) : isNums 8 (num8 X) = true := by
  refine isNums_of [u64 _, u64 _, u64 _, u64 _, u64 _, u64 _, u64 _, u64 _] rfl ?_
  rw [List.all_cons, List.all_cons, List.all_cons, List.all_cons, List.all_cons, List.all_cons, List.all_cons, List.all_cons, isU64_u64 (dig_lt _ _), isU64_u64 (dig_lt _ _), isU64_u64 (dig_lt _ _), isU64_u64 (dig_lt _ _),
    isU64_u64 (dig_lt _ _), isU64_u64 (dig_lt _ _), isU64_u64 (dig_lt _ _), isU64_u64 (dig_lt _ _)]
  rfl
theorem unnum_num8 {X : Nat} (h : X < 13407807929942597099574024998205846127479365820592393377723561443721764030073546976801874298166903427690031858186486050853753882811946569946433649006084096) : unnum (num8 X) = X := by
  show hor8 (dig X 0) (dig X 1) (dig X 2) (dig X 3) (dig X 4) (dig X 5) (dig X 6) (dig X 7) = X
  have e1 : X = hor (dig X 0) (dig X 1) (dig X 2) (dig X 3 + 18446744073709551616 * (X / 18446744073709551616 / 18446744073709551616 / 18446744073709551616 / 18446744073709551616)) := by
    unfold hor dig dig dig dig; omega
  have e2 : X / 18446744073709551616 / 18446744073709551616 / 18446744073709551616 / 18446744073709551616 < 2 ^ 256 := by
    rw [Nat.div_div_eq_div_mul, Nat.div_div_eq_div_mul, Nat.div_div_eq_div_mul]
    exact Nat.div_lt_of_lt_mul h
  have e3 := hor_dig e2
  unfold hor8
  rw [show hor (dig X 4) (dig X 5) (dig X 6) (dig X 7) = X / 18446744073709551616 / 18446744073709551616 / 18446744073709551616 / 18446744073709551616 from e3.symm]
  exact e1.symm
def maL (x y c d : Nat) : Nat := (x * y + c + d) % 18446744073709551616
def maH (x y c d : Nat) : Nat := (x * y + c + d) / 18446744073709551616
def maP (x y c d : Nat) : Bool := isU64 (u64 x) && isU64 (u64 y) && isU64 (u64 c) && isU64 (u64 d)
theorem maP_true {x y c d : Nat} (hx : x < 18446744073709551616) (hy : y < 18446744073709551616) (hc : c < 18446744073709551616) (hd : d < 18446744073709551616) : maP x y c d = true := by
  unfold maP; rw [isU64_u64 hx, isU64_u64 hy, isU64_u64 hc, isU64_u64 hd]; rfl
theorem maL_lt (x y c d : Nat) : maL x y c d < 18446744073709551616 := Nat.mod_lt _ (by decide)
theorem maH_lt {x y c d : Nat} (hx : x < 18446744073709551616) (hy : y < 18446744073709551616) (hc : c < 18446744073709551616) (hd : d < 18446744073709551616) : maH x y c d < 18446744073709551616 := by
  have := mul_le hx hy
  unfold maH; omega
theorem ma_eq (x y c d : Nat) : maL x y c d + 18446744073709551616 * maH x y c d = x * y + c + d := Nat.mod_add_div _ _
def rowT (d b0 b1 b2 b3 s0 s1 s2 s3 : Nat) (k : Nat → Nat → Nat → Nat → Nat → Option Value) : Option Value :=
  req (maP d b0 s0 0) <| req (maP d b1 s1 (maH d b0 s0 0)) <| req (maP d b2 s2 (maH d b1 s1 (maH d b0 s0 0))) <| req (maP d b3 s3 (maH d b2 s2 (maH d b1 s1 (maH d b0 s0 0)))) <|
    k (maL d b0 s0 0) (maL d b1 s1 (maH d b0 s0 0)) (maL d b2 s2 (maH d b1 s1 (maH d b0 s0 0))) (maL d b3 s3 (maH d b2 s2 (maH d b1 s1 (maH d b0 s0 0)))) (maH d b3 s3 (maH d b2 s2 (maH d b1 s1 (maH d b0 s0 0))))
theorem rowT_eq {d b0 b1 b2 b3 s0 s1 s2 s3 : Nat} (hd : d < 18446744073709551616) (h0 : b0 < 18446744073709551616) (h1 : b1 < 18446744073709551616) (h2 : b2 < 18446744073709551616) (h3 : b3 < 18446744073709551616)
    (k0 : s0 < 18446744073709551616) (k1 : s1 < 18446744073709551616) (k2 : s2 < 18446744073709551616) (k3 : s3 < 18446744073709551616) (k : Nat → Nat → Nat → Nat → Nat → Option Value) :
    ∃ l0 l1 l2 l3 c, l0 < 18446744073709551616 ∧ l1 < 18446744073709551616 ∧ l2 < 18446744073709551616 ∧ l3 < 18446744073709551616 ∧ c < 18446744073709551616 ∧
      rowT d b0 b1 b2 b3 s0 s1 s2 s3 k = k l0 l1 l2 l3 c ∧ hor l0 l1 l2 (l3 + 18446744073709551616 * c) = hor s0 s1 s2 s3 + d * hor b0 b1 b2 b3 := by
  have z : (0 : Nat) < 18446744073709551616 := by decide
  have c0 := maH_lt hd h0 k0 z
  have c1 := maH_lt hd h1 k1 c0
  have c2 := maH_lt hd h2 k2 c1
  have c3 := maH_lt hd h3 k3 c2
  refine ⟨_, _, _, _, _, maL_lt d b0 s0 0, maL_lt d b1 s1 (maH d b0 s0 0), maL_lt d b2 s2 (maH d b1 s1 (maH d b0 s0 0)), maL_lt d b3 s3 (maH d b2 s2 (maH d b1 s1 (maH d b0 s0 0))), c3, ?_, ?_⟩
  · unfold rowT
    rw [req_true (maP_true hd h0 k0 z), req_true (maP_true hd h1 k1 c0), req_true (maP_true hd h2 k2 c1), req_true (maP_true hd h3 k3 c2)]
  · have e0 := ma_eq d b0 s0 0
    have e1 := ma_eq d b1 s1 (maH d b0 s0 0)
    have e2 := ma_eq d b2 s2 (maH d b1 s1 (maH d b0 s0 0))
    have e3 := ma_eq d b3 s3 (maH d b2 s2 (maH d b1 s1 (maH d b0 s0 0)))
    have ed : d * hor b0 b1 b2 b3 = d * b0 + 18446744073709551616 * (d * b1 + 18446744073709551616 * (d * b2 + 18446744073709551616 * (d * b3))) := by
      unfold hor; simp only [Nat.mul_add, Nat.mul_left_comm d]
    rw [ed]
    unfold hor
    generalize d * b0 = p0 at *
    generalize d * b1 = p1 at *
    generalize d * b2 = p2 at *
    generalize d * b3 = p3 at *
    omega
def bnd : Nat → Nat
  | 0 => 115792089237316195423570985008687907853269984665640564039457584007913129639936
  | 1 => 2135987035920910082395021706169552114602704522356652769947041607822219725780640550022962086936576
  | 2 => 39402006196394479212279040100143613805079739270465446667948293404245721771497210611414266254884915640806627990306816
  | _ => 726838724295606890549323807888004534353641360687318060281490199180639288113397923326191050713763565560762521606266177933534601628614656
def addRowV (S d b k : Nat) : Value := num8 (S + d * b * 2 ^ (64 * k))
def addRowP (s d b : Value) (k : Nat) : Bool := isNums 8 s && isU64 d && isNum b && Nat.ble k 3 && decide (unnum s < bnd k)
def addRowF : List Value → Option (Bool × Value)
  | [s, d, b, .int .i64 k] => some (addRowP s d b k.toNat && decide (0 ≤ k), addRowV (unnum s) (intN d) (unnum b) k.toNat)
  | _ => none
def addRowT (k : Nat) (s0 s1 s2 s3 s4 s5 s6 s7 d b0 b1 b2 b3 : Nat) : Option Value :=
  match k with
  | 0 => rowT d b0 b1 b2 b3 s0 s1 s2 s3 fun l0 l1 l2 l3 c => some (numd8 l0 l1 l2 l3 c s5 s6 s7)
  | 1 => rowT d b0 b1 b2 b3 s1 s2 s3 s4 fun l0 l1 l2 l3 c => some (numd8 s0 l0 l1 l2 l3 c s6 s7)
  | 2 => rowT d b0 b1 b2 b3 s2 s3 s4 s5 fun l0 l1 l2 l3 c => some (numd8 s0 s1 l0 l1 l2 l3 c s7)
  | _ => rowT d b0 b1 b2 b3 s3 s4 s5 s6 fun l0 l1 l2 l3 c => some (numd8 s0 s1 s2 l0 l1 l2 l3 c)
theorem addRowT_eq {k s0 s1 s2 s3 s4 s5 s6 s7 d b0 b1 b2 b3 : Nat} (hk : k ≤ 3) (k0 : s0 < 18446744073709551616) (k1 : s1 < 18446744073709551616) (k2 : s2 < 18446744073709551616) (k3 : s3 < 18446744073709551616)
    (k4 : s4 < 18446744073709551616) (k5 : s5 < 18446744073709551616) (k6 : s6 < 18446744073709551616) (k7 : s7 < 18446744073709551616) (hd : d < 18446744073709551616)
    (h0 : b0 < 18446744073709551616) (h1 : b1 < 18446744073709551616) (h2 : b2 < 18446744073709551616) (h3 : b3 < 18446744073709551616) (hS : hor8 s0 s1 s2 s3 s4 s5 s6 s7 < bnd k) :
    addRowT k s0 s1 s2 s3 s4 s5 s6 s7 d b0 b1 b2 b3 = some (addRowV (hor8 s0 s1 s2 s3 s4 s5 s6 s7) d (hor b0 b1 b2 b3) k) := by
  unfold addRowV
  match k, hk with
  | 0, _ =>
    obtain ⟨l0, l1, l2, l3, c, m0, m1, m2, m3, m4, e, f⟩ := rowT_eq hd h0 h1 h2 h3 k0 k1 k2 k3 fun l0 l1 l2 l3 c => some (numd8 l0 l1 l2 l3 c s5 s6 s7)
    have hz : s4 = 0 ∧ s5 = 0 ∧ s6 = 0 ∧ s7 = 0 := by simp only [bnd, hor8, hor] at hS; omega
    obtain ⟨rfl, rfl, rfl, rfl⟩ := hz
    have hx : hor8 l0 l1 l2 l3 c 0 0 0 = hor8 s0 s1 s2 s3 0 0 0 0 + d * hor b0 b1 b2 b3 * 2 ^ (64 * 0) := by
      generalize d * hor b0 b1 b2 b3 = p at *
      simp only [hor8, hor] at f ⊢
      omega
    exact e.trans (congrArg some ((num8_hor m0 m1 m2 m3 m4 k5 k6 k7).symm.trans (congrArg num8 hx)))
  | 1, _ =>
    obtain ⟨l0, l1, l2, l3, c, m0, m1, m2, m3, m4, e, f⟩ := rowT_eq hd h0 h1 h2 h3 k1 k2 k3 k4 fun l0 l1 l2 l3 c => some (numd8 s0 l0 l1 l2 l3 c s6 s7)
    have hz : s5 = 0 ∧ s6 = 0 ∧ s7 = 0 := by simp only [bnd, hor8, hor] at hS; omega
    obtain ⟨rfl, rfl, rfl⟩ := hz
    have hx : hor8 s0 l0 l1 l2 l3 c 0 0 = hor8 s0 s1 s2 s3 s4 0 0 0 + d * hor b0 b1 b2 b3 * 2 ^ (64 * 1) := by
      generalize d * hor b0 b1 b2 b3 = p at *
      simp only [hor8, hor] at f ⊢
      omega
    exact e.trans (congrArg some ((num8_hor k0 m0 m1 m2 m3 m4 k6 k7).symm.trans (congrArg num8 hx)))
  | 2, _ =>
    obtain ⟨l0, l1, l2, l3, c, m0, m1, m2, m3, m4, e, f⟩ := rowT_eq hd h0 h1 h2 h3 k2 k3 k4 k5 fun l0 l1 l2 l3 c => some (numd8 s0 s1 l0 l1 l2 l3 c s7)
    have hz : s6 = 0 ∧ s7 = 0 := by simp only [bnd, hor8, hor] at hS; omega
    obtain ⟨rfl, rfl⟩ := hz
    have hx : hor8 s0 s1 l0 l1 l2 l3 c 0 = hor8 s0 s1 s2 s3 s4 s5 0 0 + d * hor b0 b1 b2 b3 * 2 ^ (64 * 2) := by
      generalize d * hor b0 b1 b2 b3 = p at *
      simp only [hor8, hor] at f ⊢
      omega
    exact e.trans (congrArg some ((num8_hor k0 k1 m0 m1 m2 m3 m4 k7).symm.trans (congrArg num8 hx)))
  | 3, _ =>
    obtain ⟨l0, l1, l2, l3, c, m0, m1, m2, m3, m4, e, f⟩ := rowT_eq hd h0 h1 h2 h3 k3 k4 k5 k6 fun l0 l1 l2 l3 c => some (numd8 s0 s1 s2 l0 l1 l2 l3 c)
    have hz : s7 = 0 := by simp only [bnd, hor8, hor] at hS; omega
    obtain rfl := hz
    have hx : hor8 s0 s1 s2 l0 l1 l2 l3 c = hor8 s0 s1 s2 s3 s4 s5 s6 0 + d * hor b0 b1 b2 b3 * 2 ^ (64 * 3) := by
      generalize d * hor b0 b1 b2 b3 = p at *
      simp only [hor8, hor] at f ⊢
      omega
    exact e.trans (congrArg some ((num8_hor k0 k1 k2 m0 m1 m2 m3 m4).symm.trans (congrArg num8 hx)))
def mulV (X Y : Nat) : Value := .tuple #[num (X * Y), num (X * Y / 2 ^ 256)]
def MulF : List Value → Option (Bool × Value)
  | [x, y] => some (isNum x && isNum y, mulV (unnum x) (unnum y))
  | _ => none
def rowN (s : Value) (d : Nat) (b : Value) (k : Nat) : Nat := unnum s + d * unnum b * 2 ^ (64 * k)
def rowQ (s : Value) (d : Nat) (b : Value) (k : Int) : Bool := addRowP s (u64 d) b k.toNat && decide (0 ≤ k)
theorem bnd_lt {S k : Nat} (hk : k ≤ 3) (hS : S < bnd k) : S < 13407807929942597099574024998205846127479365820592393377723561443721764030073546976801874298166903427690031858186486050853753882811946569946433649006084096 := by
  match k, hk with
  | 0, _ => simp only [bnd] at hS; omega
  | 1, _ => simp only [bnd] at hS; omega
  | 2, _ => simp only [bnd] at hS; omega
  | 3, _ => simp only [bnd] at hS; omega
theorem rowQ_true {S d Y : Nat} {k : Nat} (hk : k ≤ 3) (hS : S < bnd k) (hd : d < 18446744073709551616) : rowQ (num8 S) d (num Y) (k : Int) = true := by
  have h512 := bnd_lt hk hS
  unfold rowQ addRowP
  rw [isNums8_num8, isU64_u64 hd, isNum_num, unnum_num8 h512]
  simp only [Int.toNat_natCast, Bool.true_and, Bool.and_eq_true, decide_eq_true_eq]
  exact ⟨⟨ble_true hk, hS⟩, by omega⟩
theorem rowN_eq {S d Y k : Nat} (hk : k ≤ 3) (hS : S < bnd k) (hY : Y < 2 ^ 256) :
    rowN (num8 S) d (num Y) k = S + d * Y * 2 ^ (64 * k) := by
  have h512 := bnd_lt hk hS
  unfold rowN
  rw [unnum_num8 h512, unnum_lt hY]
theorem row_le {d Y : Nat} (hY : Y < 2 ^ 256) (hd : d < 18446744073709551616) : d * Y ≤ 18446744073709551615 * (2 ^ 256 - 1) := Nat.mul_le_mul (by omega) (by omega)
theorem div256 (X : Nat) : X / 18446744073709551616 / 18446744073709551616 / 18446744073709551616 / 18446744073709551616 = X / 2 ^ 256 := by
  rw [Nat.div_div_eq_div_mul, Nat.div_div_eq_div_mul, Nat.div_div_eq_div_mul]
theorem mul_rows {x0 x1 x2 x3 Y : Nat} (h0 : x0 < 18446744073709551616) (h1 : x1 < 18446744073709551616) (h2 : x2 < 18446744073709551616) (h3 : x3 < 18446744073709551616) (hY : Y < 2 ^ 256) :
    ∃ X1 X2 X3 X4, rowQ (num8 0) x0 (num Y) 0 = true ∧ rowN (num8 0) x0 (num Y) 0 = X1 ∧ rowQ (num8 X1) x1 (num Y) 1 = true ∧ rowN (num8 X1) x1 (num Y) 1 = X2 ∧
      rowQ (num8 X2) x2 (num Y) 2 = true ∧ rowN (num8 X2) x2 (num Y) 2 = X3 ∧ rowQ (num8 X3) x3 (num Y) 3 = true ∧ rowN (num8 X3) x3 (num Y) 3 = X4 ∧
      Value.tuple #[numd (dig X4 0) (dig X4 1) (dig X4 2) (dig X4 3), numd (dig X4 4) (dig X4 5) (dig X4 6) (dig X4 7)] = mulV (hor x0 x1 x2 x3) Y := by
  have r0 := row_le hY h0
  have r1 := row_le hY h1
  have r2 := row_le hY h2
  have r3 := row_le hY h3
  have z0 : (0 : Nat) < bnd 0 := by simp only [bnd]; omega
  have p1 : x0 * Y < bnd 1 := by simp only [bnd]; omega
  have p2 : x0 * Y + x1 * Y * 2 ^ 64 < bnd 2 := by simp only [bnd]; omega
  have p3 : x0 * Y + x1 * Y * 2 ^ 64 + x2 * Y * 2 ^ 128 < bnd 3 := by simp only [bnd]; omega
  have n0 : rowN (num8 0) x0 (num Y) 0 = x0 * Y := by rw [rowN_eq (by omega) z0 hY]; simp
  have n1 : rowN (num8 (x0 * Y)) x1 (num Y) 1 = x0 * Y + x1 * Y * 2 ^ 64 := by rw [rowN_eq (by omega) p1 hY]
  have n2 : rowN (num8 (x0 * Y + x1 * Y * 2 ^ 64)) x2 (num Y) 2 = x0 * Y + x1 * Y * 2 ^ 64 + x2 * Y * 2 ^ 128 := by rw [rowN_eq (by omega) p2 hY]
  have n3 : rowN (num8 (x0 * Y + x1 * Y * 2 ^ 64 + x2 * Y * 2 ^ 128)) x3 (num Y) 3 = x0 * Y + x1 * Y * 2 ^ 64 + x2 * Y * 2 ^ 128 + x3 * Y * 2 ^ 192 := by rw [rowN_eq (by omega) p3 hY]
  have hp : hor x0 x1 x2 x3 * Y = x0 * Y + x1 * Y * 2 ^ 64 + x2 * Y * 2 ^ 128 + x3 * Y * 2 ^ 192 := by
    unfold hor
    grind
  refine ⟨_, _, _, _, rowQ_true (k := 0) (by omega) z0 h0, n0, rowQ_true (k := 1) (by omega) p1 h1, n1, rowQ_true (k := 2) (by omega) p2 h2, n2, rowQ_true (k := 3) (by omega) p3 h3, n3, ?_⟩
  unfold mulV
  rw [hp, ← div256]
  rfl
end Go.W
/-
  Products of numbers, row by row, where each row is handed on in five digits.
-/
namespace Go.W
def r5N (s0 s1 s2 s3 d : Nat) (b : Value) : Nat := hor s0 s1 s2 s3 + d * unnum b
def r5V (T : Nat) : Value := .tuple #[u64 (dig T 0), u64 (dig T 1), u64 (dig T 2), u64 (dig T 3), u64 (dig T 4)]
def r5P (s0 s1 s2 s3 d b : Value) : Bool := isU64 s0 && isU64 s1 && isU64 s2 && isU64 s3 && isU64 d && isNum b
def row5F : List Value → Option (Bool × Value)
  | [s0, s1, s2, s3, d, b] => some (r5P s0 s1 s2 s3 d b, r5V (r5N (intN s0) (intN s1) (intN s2) (intN s3) (intN d) b))
  | _ => none
def row5T (s0 s1 s2 s3 d b0 b1 b2 b3 : Nat) : Option Value :=
  rowT d b0 b1 b2 b3 s0 s1 s2 s3 fun l0 l1 l2 l3 c => some (.tuple #[u64 l0, u64 l1, u64 l2, u64 l3, u64 c])
theorem row5T_eq {d b0 b1 b2 b3 s0 s1 s2 s3 : Nat} (hd : d < 18446744073709551616) (h0 : b0 < 18446744073709551616) (h1 : b1 < 18446744073709551616) (h2 : b2 < 18446744073709551616) (h3 : b3 < 18446744073709551616)
    (k0 : s0 < 18446744073709551616) (k1 : s1 < 18446744073709551616) (k2 : s2 < 18446744073709551616) (k3 : s3 < 18446744073709551616) :
    row5T s0 s1 s2 s3 d b0 b1 b2 b3 = some (r5V (r5N s0 s1 s2 s3 d (numd b0 b1 b2 b3))) := by
  obtain ⟨l0, l1, l2, l3, c, m0, m1, m2, m3, m4, e, f⟩ := rowT_eq hd h0 h1 h2 h3 k0 k1 k2 k3 fun l0 l1 l2 l3 c => some (.tuple #[u64 l0, u64 l1, u64 l2, u64 l3, u64 c])
  have hf : r5N s0 s1 s2 s3 d (numd b0 b1 b2 b3) = l0 + 18446744073709551616 * (l1 + 18446744073709551616 * (l2 + 18446744073709551616 * (l3 + 18446744073709551616 * c))) := by
    unfold r5N; rw [unnum_numd, ← f]; rfl
  refine e.trans ?_
  unfold r5V
  rw [hf, (dig_cons m0).1, (dig_cons m0).2, (dig_cons m0).2, (dig_cons m0).2, (dig_cons m0).2, (dig_cons m1).1, (dig_cons m1).2, (dig_cons m1).2, (dig_cons m1).2,
    (dig_cons m2).1, (dig_cons m2).2, (dig_cons m2).2, (dig_cons m3).1, (dig_cons m3).2]
  have : dig c 0 = c := Nat.mod_eq_of_lt m4
  rw [this]
theorem r5P_some {s0 s1 s2 s3 d b : Value} (h : r5P s0 s1 s2 s3 d b = true) : ∃ x0 x1 x2 x3 y Y, x0 < 18446744073709551616 ∧ x1 < 18446744073709551616 ∧ x2 < 18446744073709551616 ∧ x3 < 18446744073709551616 ∧ y < 18446744073709551616 ∧ Y < 2 ^ 256 ∧
    s0 = u64 x0 ∧ s1 = u64 x1 ∧ s2 = u64 x2 ∧ s3 = u64 x3 ∧ d = u64 y ∧ b = num Y := by
  simp only [r5P, Bool.and_eq_true] at h
  obtain ⟨⟨⟨⟨⟨h0, h1⟩, h2⟩, h3⟩, h4⟩, h5⟩ := h
  obtain ⟨x0, l0, rfl⟩ := isU64_some h0
  obtain ⟨x1, l1, rfl⟩ := isU64_some h1
  obtain ⟨x2, l2, rfl⟩ := isU64_some h2
  obtain ⟨x3, l3, rfl⟩ := isU64_some h3
  obtain ⟨y, l4, rfl⟩ := isU64_some h4
  obtain ⟨Y, l5, rfl⟩ := isNum_some h5
  exact ⟨x0, x1, x2, x3, y, Y, l0, l1, l2, l3, l4, l5, rfl, rfl, rfl, rfl, rfl, rfl⟩
def mul5 (b : Value) (x0 x1 x2 x3 : Nat) : Option Value :=
  let r (T : Nat) (x : Nat) (k : Nat → Option Value) : Option Value := req (r5P (u64 (dig T 1)) (u64 (dig T 2)) (u64 (dig T 3)) (u64 (dig T 4)) (u64 x) b) (k (r5N (dig T 1) (dig T 2) (dig T 3) (dig T 4) x b))
  req (r5P (u64 0) (u64 0) (u64 0) (u64 0) (u64 x0) b) <|
  r (r5N 0 0 0 0 x0 b) x1 fun T2 => r T2 x2 fun T3 => r T3 x3 fun T4 =>
    some (.tuple #[numd (dig (r5N 0 0 0 0 x0 b) 0) (dig T2 0) (dig T3 0) (dig T4 0), numd (dig T4 1) (dig T4 2) (dig T4 3) (dig T4 4)])
theorem r5P_dig {T x Y : Nat} (hx : x < 18446744073709551616) : r5P (u64 (dig T 1)) (u64 (dig T 2)) (u64 (dig T 3)) (u64 (dig T 4)) (u64 x) (num Y) = true := by
  unfold r5P; rw [isU64_u64 (dig_lt _ _), isU64_u64 (dig_lt _ _), isU64_u64 (dig_lt _ _), isU64_u64 (dig_lt _ _), isU64_u64 hx, isNum_num]; rfl
theorem r5N_dig {T x Y : Nat} (hY : Y < 2 ^ 256) (hT : T / 18446744073709551616 < 2 ^ 256) : r5N (dig T 1) (dig T 2) (dig T 3) (dig T 4) x (num Y) = T / 18446744073709551616 + x * Y := by
  unfold r5N
  rw [unnum_lt hY]
  exact congrArg (· + x * Y) (hor_dig hT).symm
theorem mul5_eq {x0 x1 x2 x3 Y : Nat} (h0 : x0 < 18446744073709551616) (h1 : x1 < 18446744073709551616) (h2 : x2 < 18446744073709551616) (h3 : x3 < 18446744073709551616) (hY : Y < 2 ^ 256) :
    mul5 (num Y) x0 x1 x2 x3 = some (mulV (hor x0 x1 x2 x3) Y) := by
  have z : (0 : Nat) < 18446744073709551616 := by decide
  have p0 : r5P (u64 0) (u64 0) (u64 0) (u64 0) (u64 x0) (num Y) = true := by
    unfold r5P; rw [isU64_u64 z, isU64_u64 h0, isNum_num]; rfl
  have e1 : r5N 0 0 0 0 x0 (num Y) = x0 * Y := by unfold r5N hor; rw [unnum_lt hY]; omega
  have q0 := row_le hY h0
  have q1 := row_le hY h1
  have q2 := row_le hY h2
  have q3 := row_le hY h3
  unfold mul5
  simp only []
  have b1 : x0 * Y / 18446744073709551616 < 2 ^ 256 := by omega
  rw [req_true p0, e1, req_true (r5P_dig h1), r5N_dig hY b1]
  have b2 : (x0 * Y / 18446744073709551616 + x1 * Y) / 18446744073709551616 < 2 ^ 256 := by omega
  rw [req_true (r5P_dig h2), r5N_dig hY b2]
  have b3 : ((x0 * Y / 18446744073709551616 + x1 * Y) / 18446744073709551616 + x2 * Y) / 18446744073709551616 < 2 ^ 256 := by omega
  rw [req_true (r5P_dig h3), r5N_dig hY b3]
  have hp : hor x0 x1 x2 x3 * Y = x0 * Y + 18446744073709551616 * (x1 * Y + 18446744073709551616 * (x2 * Y + 18446744073709551616 * (x3 * Y))) := by
    unfold hor; simp only [Nat.add_mul, Nat.mul_assoc, Nat.mul_add]
  unfold mulV
  rw [hp]
  generalize x0 * Y = a0 at *
  generalize x1 * Y = a1 at *
  generalize x2 * Y = a2 at *
  generalize x3 * Y = a3 at *
  generalize hT2 : a0 / 18446744073709551616 + a1 = T2 at *
  generalize hT3 : T2 / 18446744073709551616 + a2 = T3 at *
  generalize hT4 : T3 / 18446744073709551616 + a3 = T4 at *
  have hs : a0 + 18446744073709551616 * (a1 + 18446744073709551616 * (a2 + 18446744073709551616 * a3)) = hor (dig a0 0) (dig T2 0) (dig T3 0) (dig T4 0 + 18446744073709551616 * (T4 / 18446744073709551616)) := by
    show _ = hor (a0 % 18446744073709551616) (T2 % 18446744073709551616) (T3 % 18446744073709551616) (T4 % 18446744073709551616 + 18446744073709551616 * (T4 / 18446744073709551616))
    unfold hor; omega
  have hd : (a0 + 18446744073709551616 * (a1 + 18446744073709551616 * (a2 + 18446744073709551616 * a3))) / 2 ^ 256 = T4 / 18446744073709551616 := by
    rw [← div256]; omega
  rw [hd, hs, num_hor (dig_lt _ _) (dig_lt _ _) (dig_lt _ _) (dig_lt _ _)]
  rfl
end Go.W
/-
  Bits, and what is left of a division.
-/
namespace Go.W
def bitN (X : Nat) (i : Nat) : Nat := X / 2 ^ i % 2
def bitI (X : Nat) (i : Int) : Int := if 0 ≤ i ∧ i ≤ 255 then (bitN X i.toNat : Int) else 0
def BitF : List Value → Option (Bool × Value)
  | [x, .int .i64 i] => some (isNum x, i64 (bitI (unnum x) i))
  | _ => none
theorem digit_bit (a q r : Nat) (h : r < 64) : (a + 18446744073709551616 * q) / 2 ^ r % 2 = a / 2 ^ r % 2 := by
  have e : 18446744073709551616 * q = 2 ^ r * (2 * (2 ^ (63 - r) * q)) := by
    have : (18446744073709551616 : Nat) = 2 ^ r * (2 * 2 ^ (63 - r)) := by
      rw [show (18446744073709551616 : Nat) = 2 ^ 64 from rfl, ← Nat.pow_succ', ← Nat.pow_add]
      congr 1; omega
    rw [this]; simp only [Nat.mul_assoc]
  rw [e, Nat.add_mul_div_left _ _ (Nat.two_pow_pos r)]
  omega
theorem hor_bit {a b c d : Nat} (ha : a < 18446744073709551616) (hb : b < 18446744073709551616) (hc : c < 18446744073709551616) (q r : Nat) (hr : r < 64) (hq : q < 4) :
    bitN (hor a b c d) (64 * q + r) = (match q with | 0 => a | 1 => b | 2 => c | _ => d) / 2 ^ r % 2 := by
  unfold bitN
  rw [Nat.pow_add, ← Nat.div_div_eq_div_mul]
  match q, hq with
  | 0, _ =>
    rw [show hor a b c d / 2 ^ (64 * 0) = hor a b c d from by simp]
    exact digit_bit a _ r hr
  | 1, _ =>
    rw [show hor a b c d / 2 ^ (64 * 1) = b + 18446744073709551616 * (c + 18446744073709551616 * d) from by unfold hor; omega]
    exact digit_bit b _ r hr
  | 2, _ =>
    rw [show hor a b c d / 2 ^ (64 * 2) = c + 18446744073709551616 * d from by unfold hor; omega]
    exact digit_bit c _ r hr
  | 3, _ =>
    rw [show hor a b c d / 2 ^ (64 * 3) = d from by unfold hor; omega]
    rfl
theorem u64_bit {a r : Nat} (ha : a < 18446744073709551616) (hr : r < 64) : IntKind.i64.wrap (iAnd .u64 (iShr .u64 (a : Int) (r : Int)) 1) = ((a / 2 ^ r % 2 : Nat) : Int) := by
  rw [iShr_u a r (by omega)]
  have h1 : a / 2 ^ r < 18446744073709551616 := Nat.lt_of_le_of_lt (Nat.div_le_self _ _) ha
  have := iAnd_u (a := a / 2 ^ r) (b := 1) h1 (by omega)
  rw [show ((1 : Nat) : Int) = 1 from rfl] at this
  rw [this, Nat.and_one_is_mod, wrap_i64 (by omega)]
def tbN (L b M : Nat) : Nat := (2 * L + b) % M
def tbP (l : Value) (b : Int) (m : Value) : Bool := isNum l && isNum m && decide (0 ≤ b) && Nat.ble b.toNat 1 && Nat.blt (unnum l) (unnum m)
def takeBitF : List Value → Option (Bool × Value)
  | [l, .int .u64 b, m] => some (tbP l b m, num (tbN (unnum l) b.toNat (unnum m)))
  | _ => none
def tbS (l : Value) : Nat := unnum l + unnum l
def tbV (l : Value) (b : Int) : Value := .agg #[.int .u64 (iOr .u64 (dig (tbS l) 0 : Int) b), u64 (dig (tbS l) 1), u64 (dig (tbS l) 2), u64 (dig (tbS l) 3)]
def takeBitT (l : Value) (b : Int) (m : Value) : Option Value :=
  req (isNum l && isNum l) <| req (isNum (tbV l b) && isNum m) <|
    bif ((tbS l / 2 ^ 256 : Nat) : Int) == 0 then (bif ((if unnum (tbV l b) < unnum m then 1 else 0 : Nat) : Int) == 1 then some (tbV l b) else some (num (2 ^ 256 + unnum (tbV l b) - unnum m)))
    else some (num (2 ^ 256 + unnum (tbV l b) - unnum m))
theorem or_even (k b : Nat) (hb : b ≤ 1) : 2 * k ||| b = 2 * k + b := by
  have := Nat.shiftLeft_add_eq_or_of_lt (b := b) (i := 1) (by omega) k
  rw [Nat.shiftLeft_eq] at this
  rw [show 2 * k = k * 2 ^ 1 from by omega, ← this]
theorem takeBitT_eq {L b M : Nat} (hL : L < M) (hM : M < 2 ^ 256) (hb : b ≤ 1) : takeBitT (num L) (b : Int) (num M) = some (num (tbN L b M)) := by
  have hL' : L < 2 ^ 256 := by omega
  have hS : tbS (num L) = 2 * L := by unfold tbS; rw [unnum_lt hL']; omega
  unfold takeBitT tbV
  rw [hS, isNum_num, isNum_num, unnum_lt hM]
  have d0 : dig (2 * L) 0 = 2 * (L % 9223372036854775808) := by show 2 * L % 18446744073709551616 = _; omega
  have hor0 : iOr .u64 (dig (2 * L) 0 : Int) (b : Int) = ((dig (2 * L) 0 + b : Nat) : Int) := by
    rw [iOr_u (dig_lt _ _) (by omega), d0, or_even _ _ hb]
  have hlt0 : dig (2 * L) 0 + b < 18446744073709551616 := by rw [d0]; omega
  rw [hor0]
  have hT : (Value.agg #[.int .u64 ((dig (2 * L) 0 + b : Nat) : Int), u64 (dig (2 * L) 1), u64 (dig (2 * L) 2), u64 (dig (2 * L) 3)]) = numd (dig (2 * L) 0 + b) (dig (2 * L) 1) (dig (2 * L) 2) (dig (2 * L) 3) := rfl
  rw [hT, isNum_numd hlt0 (dig_lt _ _) (dig_lt _ _) (dig_lt _ _), unnum_numd]
  rw [req_true (b := true && true) rfl, req_true (b := true && true) rfl]
  have hmod := hor_dig (X := 2 * L % 2 ^ 256) (Nat.mod_lt _ (by decide))
  have hn : hor (dig (2 * L) 0 + b) (dig (2 * L) 1) (dig (2 * L) 2) (dig (2 * L) 3) = 2 * L % 2 ^ 256 + b := by
    have e : num (2 * L % 2 ^ 256) = num (2 * L) := num_mod _
    have e2 := congrArg unnum e
    rw [unnum_num, Nat.mod_mod] at e2
    have e3 : hor (dig (2 * L) 0) (dig (2 * L) 1) (dig (2 * L) 2) (dig (2 * L) 3) = 2 * L % 2 ^ 256 := e2.symm
    rw [← e3]; unfold hor; omega
  have hnum : numd (dig (2 * L) 0 + b) (dig (2 * L) 1) (dig (2 * L) 2) (dig (2 * L) 3) = num (2 * L % 2 ^ 256 + b) := by
    rw [← hn]
    have := num_hor hlt0 (dig_lt (2 * L) 1) (dig_lt (2 * L) 2) (dig_lt (2 * L) 3) 0
    rw [Nat.mul_zero, Nat.add_zero] at this
    exact this.symm
  rw [hn, hnum]
  clear hn hnum hT hor0 hlt0 d0 hmod
  unfold tbN
  by_cases hc : 2 * L < 2 ^ 256
  · have e0 : 2 * L / 2 ^ 256 = 0 := by omega
    have e1 : 2 * L % 2 ^ 256 = 2 * L := by omega
    rw [e0, e1]
    by_cases hlt : 2 * L + b < M
    · rw [if_pos hlt, Nat.mod_eq_of_lt hlt]; rfl
    · rw [if_neg hlt]
      have e2 : (2 * L + b) % M = 2 * L + b - M := by
        rw [Nat.mod_eq_sub_mod (by omega), Nat.mod_eq_of_lt (by omega)]
      rw [e2, show 2 ^ 256 + (2 * L + b) - M = 2 * L + b - M + 2 ^ 256 * 1 from by omega, num_add_mul]; rfl
  · have e0 : 2 * L / 2 ^ 256 = 1 := by omega
    rw [e0]
    have e2 : (2 * L + b) % M = 2 * L + b - M := by
      rw [Nat.mod_eq_sub_mod (by omega), Nat.mod_eq_of_lt (by omega)]
    rw [e2, show 2 ^ 256 + (2 * L % 2 ^ 256 + b) - M = 2 * L + b - M from by omega]; rfl
theorem tbP_some {l m : Value} {b : Int} (h : tbP l b m = true) : ∃ L B M, l = num L ∧ m = num M ∧ b = ((B : Nat) : Int) ∧ B ≤ 1 ∧ L < M ∧ M < 2 ^ 256 := by
  simp only [tbP, Bool.and_eq_true, decide_eq_true_eq, Nat.ble_eq] at h
  obtain ⟨⟨⟨⟨h1, h2⟩, h3⟩, h4⟩, h5⟩ := h
  obtain ⟨L, hL, rfl⟩ := isNum_some h1
  obtain ⟨M, hM, rfl⟩ := isNum_some h2
  rw [unnum_lt hL, unnum_lt hM, Nat.blt_eq] at h5
  exact ⟨L, b.toNat, M, rfl, rfl, by omega, h4, h5, hM⟩
theorem tbP_true {L B M : Nat} (hB : B ≤ 1) (hL : L < M) (hM : M < 2 ^ 256) : tbP (num L) (B : Int) (num M) = true := by
  simp only [tbP, isNum_num, unnum_lt hM, unnum_lt (show L < 2 ^ 256 by omega), Bool.true_and, Bool.and_eq_true, decide_eq_true_eq, Nat.ble_eq, Nat.blt_eq, Int.toNat_natCast]
  omega
def tbsP (l a m : Value) : Bool := isNum l && isNum a && isNum m && Nat.blt (unnum l) (unnum m)
def takeBitsF : List Value → Option (Bool × Value)
  | [l, a, m] => some (tbsP l a m, num ((unnum l * 2 ^ 256 + unnum a) % unnum m))
  | _ => none
def tbK (L A M k : Nat) : Nat := (L * 2 ^ k + A / 2 ^ (256 - k)) % M
theorem tbK_zero {L A M : Nat} (hA : A < 2 ^ 256) (hL : L < M) : tbK L A M 0 = L := by
  unfold tbK
  rw [Nat.sub_zero, Nat.div_eq_of_lt hA, Nat.pow_zero, Nat.mul_one, Nat.add_zero, Nat.mod_eq_of_lt hL]
theorem tbK_lt {L A M k : Nat} (hM : 0 < M) : tbK L A M k < M := Nat.mod_lt _ hM
theorem tbK_succ {L A M k : Nat} (hk : k < 256) : tbN (tbK L A M k) (bitN A (255 - k)) M = tbK L A M (k + 1) := by
  unfold tbN tbK bitN
  have e : A / 2 ^ (256 - (k + 1)) = 2 * (A / 2 ^ (256 - k)) + A / 2 ^ (255 - k) % 2 := by
    rw [show 256 - k = (255 - k) + 1 from by omega, show 256 - (k + 1) = 255 - k from by omega, Nat.pow_succ, ← Nat.div_div_eq_div_mul]
    omega
  rw [e, Nat.pow_succ, ← Nat.mul_assoc, Nat.add_mod, Nat.mul_mod, Nat.mod_mod, ← Nat.mul_mod, ← Nat.add_mod]
  congr 1
  generalize L * 2 ^ k = p
  omega
theorem tbK_last (L A M : Nat) : tbK L A M 256 = (L * 2 ^ 256 + A) % M := by
  unfold tbK; rw [Nat.sub_self, Nat.pow_zero, Nat.div_one]
theorem bitN_le (A i : Nat) : bitN A i ≤ 1 := by unfold bitN; omega
theorem bitI_nat {A n : Nat} (h : n ≤ 255) : bitI A (n : Int) = (bitN A n : Int) := by
  unfold bitI; rw [if_pos (by omega), Int.toNat_natCast]
theorem bit_u64 {A n : Nat} (h : n ≤ 255) : IntKind.u64.wrap (bitI A (n : Int)) = ((bitN A n : Nat) : Int) := by
  rw [bitI_nat h, wrap_u64]
  have := bitN_le A n
  omega
def modN (H L M : Nat) : Nat := if M = 0 then 0 else (H * 2 ^ 256 + L) % M
def modE (M : Nat) : Int := if M = 0 then 1 else 0
def modV (H L M : Nat) : Value := .tuple #[num (modN H L M), i64 (modE M)]
def ModF : List Value → Option (Bool × Value)
  | [h, l, m] => some (isNum h && isNum l && isNum m, modV (unnum h) (unnum l) (unnum m))
  | _ => none
def tbsN (l a m : Value) : Nat := (unnum l * 2 ^ 256 + unnum a) % unnum m
def ModT (h l m : Value) (eq0 : Bool) : Option Value :=
  bif eq0 then some (.tuple #[num 0, i64 1]) else
    req (isNum h && isNum m) <| bif decide (cmpI (unnum h) (unnum m) ≥ 0) then
      (req (tbsP (num 0) h m) <| req (tbsP (num (tbsN (num 0) h m)) l m) <| some (.tuple #[num (tbsN (num (tbsN (num 0) h m)) l m), i64 0]))
    else (req (tbsP h l m) <| some (.tuple #[num (tbsN h l m), i64 0]))
theorem tbsP_true {L A M : Nat} (hL : L < M) (hM : M < 2 ^ 256) : tbsP (num L) (num A) (num M) = true := by
  simp only [tbsP, isNum_num, unnum_lt hM, unnum_lt (show L < 2 ^ 256 by omega), Bool.true_and, Nat.blt_eq]
  exact hL
theorem ModT_eq {H L M : Nat} (hH : H < 2 ^ 256) (hL : L < 2 ^ 256) (hM : M < 2 ^ 256) : ModT (num H) (num L) (num M) (decide (M % 2 ^ 256 = 0 % 2 ^ 256)) = some (modV H L M) := by
  unfold ModT modV modN modE
  by_cases h0 : M = 0
  · subst h0; rfl
  · have hd : decide (M % 2 ^ 256 = 0 % 2 ^ 256) = false := decide_eq_false (by rw [Nat.mod_eq_of_lt hM]; simpa using h0)
    rw [hd, if_neg h0, if_neg h0, isNum_num, isNum_num, unnum_lt hH, unnum_lt hM, req_true (b := true && true) rfl]
    simp only [cond_false]
    have hpos : 0 < M := by omega
    by_cases hlt : H < M
    · have : decide (cmpI H M ≥ 0) = false := decide_eq_false (by unfold cmpI; rw [if_pos hlt]; omega)
      rw [this, cond_false, req_true (tbsP_true hlt hM)]
      unfold tbsN
      rw [unnum_lt hH, unnum_lt hL, unnum_lt hM]
    · have : decide (cmpI H M ≥ 0) = true := decide_eq_true (by unfold cmpI; rw [if_neg hlt]; split <;> omega)
      rw [this, cond_true, req_true (tbsP_true hpos hM)]
      have e1 : tbsN (num 0) (num H) (num M) = H % M := by
        unfold tbsN; rw [unnum_lt (show 0 < 2 ^ 256 by decide), unnum_lt hH, unnum_lt hM]; simp
      have h2 : H % M < M := Nat.mod_lt _ hpos
      rw [e1, req_true (tbsP_true h2 hM)]
      have e2 : tbsN (num (H % M)) (num L) (num M) = (H * 2 ^ 256 + L) % M := by
        unfold tbsN
        rw [unnum_lt (show H % M < 2 ^ 256 by omega), unnum_lt hL, unnum_lt hM, Nat.add_mod, Nat.mul_mod, Nat.mod_mod, ← Nat.mul_mod, ← Nat.add_mod]
      rw [e2]
end Go.W
/-
  The laws of package limb, as trees over numbers: squares.
-/
namespace Go.W
def aS (x y : Value) : Value := num (unnum x + unnum y)
def aC (x y : Value) : Nat := (unnum x + unnum y) / 2 ^ 256
def mL (x y : Value) : Value := num (unnum x * unnum y)
def mH (x y : Value) : Value := num (unnum x * unnum y / 2 ^ 256)
def one (c : Nat) : Value := .agg #[u64 c, u64 0, u64 0, u64 0]
def r2 {α : Type} (x y : Value) (k : Option α) : Option α := req (isNum x && isNum y) k
def eqV (x y : Value) : Bool := eqL x.cells.toList y.cells.toList
def tru : Option Value := some (.bool true)
def fls : Option Value := some (.bool false)
theorem r2_num {α : Type} (X Y : Nat) (k : Option α) : r2 (num X) (num Y) k = k := by unfold r2; rw [isNum_num, isNum_num, req_true (b := true && true) rfl]
theorem aS_num (X Y : Nat) : aS (num X) (num Y) = num (X + Y) := by
  unfold aS; rw [unnum_num, unnum_num, ← num_mod (X + Y), Nat.add_mod, num_mod]
theorem mL_num (X Y : Nat) : mL (num X) (num Y) = num (X * Y) := by
  unfold mL; rw [unnum_num, unnum_num, ← num_mod (X * Y), Nat.mul_mod, num_mod]
theorem mH_num {X Y : Nat} (hX : X < 2 ^ 256) (hY : Y < 2 ^ 256) : mH (num X) (num Y) = num (X * Y / 2 ^ 256) := by
  unfold mH; rw [unnum_lt hX, unnum_lt hY]
theorem aC_num (X Y : Nat) : aC (num X) (num Y) = (X % 2 ^ 256 + Y % 2 ^ 256) / 2 ^ 256 := by
  unfold aC; rw [unnum_num, unnum_num]
theorem one_num {c : Nat} (h : c < 18446744073709551616) : one c = num c := by
  have := num_hor h (show 0 < 18446744073709551616 by decide) (show 0 < 18446744073709551616 by decide) (show 0 < 18446744073709551616 by decide) 0
  rw [show hor c 0 0 (0 + 18446744073709551616 * 0) = c from by unfold hor; omega] at this
  rw [this]; rfl
theorem aC_lt (X Y : Nat) : aC (num X) (num Y) < 18446744073709551616 := by
  rw [aC_num]; omega
theorem eqV_num (X Y : Nat) : eqV (num X) (num Y) = decide (X % 2 ^ 256 = Y % 2 ^ 256) := eq_num X Y
def sqA (a0 a1 a2 a3 : Nat) : Value := .agg #[u64 a0, u64 a1, u64 a2, .int .u64 (iShr .u64 (a3 : Int) 1)]
def SqT (a b : Value) : Option Value :=
  let s := aS a b; let lo := mL s s; let hi := mH s s
  let al := mL a a; let ah := mH a a; let bl := mL b b; let bh := mH b b; let pl := mL a b; let ph := mH a b
  let l := aS al bl; let c1 := aC al bl; let h := aS ah bh; let h1 := aS h (one c1)
  let l2 := aS l pl; let c2 := aC l pl; let h2 := aS h1 ph; let h3 := aS h2 (one c2)
  let l4 := aS l2 pl; let c4 := aC l2 pl; let h4 := aS h3 ph; let h5 := aS h4 (one c4)
  r2 a b <| r2 s s <| r2 a a <| r2 b b <| r2 a b <| r2 al bl <| r2 ah bh <| r2 h (one c1) <| r2 l pl <| r2 h1 ph <| r2 h2 (one c2) <| r2 l2 pl <| r2 h3 ph <| r2 h4 (one c4) <|
    bif ((aC a b : Nat) : Int) == 0 then (bif eqV l4 lo then (bif eqV h5 hi then tru else fls) else fls) else fls
theorem sqA_num {a0 a1 a2 a3 : Nat} (h0 : a0 < 18446744073709551616) (h1 : a1 < 18446744073709551616) (h2 : a2 < 18446744073709551616) (h3 : a3 < 18446744073709551616) :
    ∃ A, A < 2 ^ 255 ∧ sqA a0 a1 a2 a3 = num A := by
  have e := iShr_u a3 1 (by omega)
  rw [show ((1 : Nat) : Int) = 1 from rfl] at e
  refine ⟨hor a0 a1 a2 (a3 / 2 ^ 1), by unfold hor; omega, ?_⟩
  have := num_hor h0 h1 h2 (show a3 / 2 ^ 1 < 18446744073709551616 by omega) 0
  rw [Nat.mul_zero, Nat.add_zero] at this
  rw [this]
  unfold sqA
  rw [e]; rfl
theorem SqT_eq {A B : Nat} (hA : A < 2 ^ 255) (hB : B < 2 ^ 255) : SqT (num A) (num B) = tru := by
  have hA' : A < 2 ^ 256 := by omega
  have hB' : B < 2 ^ 256 := by omega
  have hS : A + B < 2 ^ 256 := by omega
  unfold SqT
  simp only [aS_num, mL_num, mH_num hA' hA', mH_num hB' hB', mH_num hA' hB', mH_num hS hS, one_num (aC_lt _ _), r2_num, eqV_num]
  simp only [aC_num]
  have e0 : (A % 2 ^ 256 + B % 2 ^ 256) / 2 ^ 256 = 0 := by omega
  have hsq : (A + B) * (A + B) = A * A + B * B + A * B + A * B := by grind
  rw [e0, hsq]
  generalize A * A = x
  generalize B * B = y
  generalize A * B = z
  have e1 : decide ((x + y + z + z) % 2 ^ 256 = (x + y + z + z) % 2 ^ 256) = true := decide_eq_true rfl
  rw [e1]
  have e2 : decide ((x / 2 ^ 256 + y / 2 ^ 256 + (x % 2 ^ 256 + y % 2 ^ 256) / 2 ^ 256 + z / 2 ^ 256 + ((x + y) % 2 ^ 256 + z % 2 ^ 256) / 2 ^ 256 + z / 2 ^ 256 + ((x + y + z) % 2 ^ 256 + z % 2 ^ 256) / 2 ^ 256) % 2 ^ 256 = (x + y + z + z) / 2 ^ 256 % 2 ^ 256) = true :=
    decide_eq_true (by omega)
  rw [e2]
  rfl
end Go.W
/-
  Lengths, bytes: the ways of the texts, and what they come to.
-/
namespace Go.W
def len8S : ByteArray := ⟨#[0, 1, 2, 2, 3, 3, 3, 3, 4, 4, 4, 4, 4, 4, 4, 4, 5, 5, 5, 5, 5, 5, 5, 5, 5, 5, 5, 5, 5, 5, 5, 5, 6, 6, 6, 6, 6, 6, 6, 6, 6, 6, 6, 6, 6, 6, 6, 6, 6, 6, 6, 6, 6, 6, 6, 6, 6, 6, 6, 6, 6, 6, 6, 6, 7, 7, 7, 7, 7, 7, 7, 7, 7, 7, 7, 7, 7, 7, 7, 7, 7, 7, 7, 7, 7, 7, 7, 7, 7, 7, 7, 7, 7, 7, 7, 7, 7, 7, 7, 7, 7, 7, 7, 7, 7, 7, 7, 7, 7, 7, 7, 7, 7, 7, 7, 7, 7, 7, 7, 7, 7, 7, 7, 7, 7, 7, 7, 7, 8, 8, 8, 8, 8, 8, 8, 8, 8, 8, 8, 8, 8, 8, 8, 8, 8, 8, 8, 8, 8, 8, 8, 8, 8, 8, 8, 8, 8, 8, 8, 8, 8, 8, 8, 8, 8, 8, 8, 8, 8, 8, 8, 8, 8, 8, 8, 8, 8, 8, 8, 8, 8, 8, 8, 8, 8, 8, 8, 8, 8, 8, 8, 8, 8, 8, 8, 8, 8, 8, 8, 8, 8, 8, 8, 8, 8, 8, 8, 8, 8, 8, 8, 8, 8, 8, 8, 8, 8, 8, 8, 8, 8, 8, 8, 8, 8, 8, 8, 8, 8, 8, 8, 8, 8, 8, 8, 8, 8, 8, 8, 8, 8, 8, 8, 8, 8, 8, 8, 8, 8, 8, 8, 8, 8, 8, 8, 8]⟩
def Len64F : List Value → Option (Bool × Value)
  | [x] => some (isU64 x, i64 (bitLen (intN x) : Int))
  | _ => none
def l8 (x n : Int) : Option Value :=
  bif inR (IntKind.u8.wrap x) len8S.size then some (i64 (iAdd .i64 n (IntKind.i64.wrap ((len8S.data.toList.getD (IntKind.u8.wrap x).toNat 0).toNat : Int)))) else none
def s8 (x n : Int) : Option Value := bif decide (x ≥ 256) then l8 (iShr .u64 x 8) (iAdd .i64 n 8) else l8 x n
def s16 (x n : Int) : Option Value := bif decide (x ≥ 65536) then s8 (iShr .u64 x 16) (iAdd .i64 n 16) else s8 x n
def Len64T (x : Int) : Option Value := bif decide (x ≥ 4294967296) then s16 (iShr .u64 x 32) 32 else s16 x 0
theorem wrap_u8 (n : Int) : IntKind.u8.wrap n = n % 256 := by simp [IntKind.wrap, IntKind.bits, IntKind.signed]
theorem len8_all : ∀ j : Fin 256, (len8S.data.toList.getD j.val 0).toNat = bitLen j.val := by decide +kernel
theorem bitLen_lt {x k : Nat} (h : x < 2 ^ k) : bitLen x ≤ k := by
  unfold bitLen
  split
  · omega
  · rename_i h0
    have := (Nat.log2_lt h0).2 h
    omega
theorem l8_eq {x n : Nat} (hx : x < 256) (hn : n ≤ 1000) : l8 x n = some (i64 ((n + bitLen x : Nat) : Int)) := by
  have e1 : IntKind.u8.wrap (x : Int) = (x : Int) := by rw [wrap_u8]; omega
  have hs : len8S.size = 256 := by decide +kernel
  have hb := bitLen_lt (k := 8) (show x < 2 ^ 8 from hx)
  unfold l8
  rw [e1, hs]
  have hin : inR (x : Int) 256 = true := by simp only [inR, Bool.and_eq_true, decide_eq_true_eq]; omega
  rw [hin, cond_true, Int.toNat_natCast, len8_all ⟨x, hx⟩]
  unfold iAdd
  rw [wrap_i64 (n := ((bitLen x : Nat) : Int)) (by omega), wrap_i64 (by omega), ← Int.natCast_add]
theorem iAdd_i {a b : Nat} (h : a + b ≤ 100000) : iAdd .i64 a b = ((a + b : Nat) : Int) := by
  unfold iAdd; rw [wrap_i64 (by omega)]; omega
theorem s8_eq {x n : Nat} (hx : x < 65536) (hn : n ≤ 900) : s8 x n = some (i64 ((n + bitLen x : Nat) : Int)) := by
  unfold s8
  by_cases h : 256 ≤ x
  · rw [decide_eq_true (by omega), cond_true]
    have e1 := iShr_u x 8 (by omega)
    rw [show ((8 : Nat) : Int) = 8 from rfl] at e1
    have e2 := iAdd_i (a := n) (b := 8) (by omega)
    rw [show ((8 : Nat) : Int) = 8 from rfl] at e2
    rw [e1, e2, l8_eq (by omega) (by omega), bitLen_shift x 8 (by omega)]
    congr 3; omega
  · rw [decide_eq_false (by omega), cond_false, l8_eq (by omega) (by omega)]
theorem s16_eq {x n : Nat} (hx : x < 4294967296) (hn : n ≤ 800) : s16 x n = some (i64 ((n + bitLen x : Nat) : Int)) := by
  unfold s16
  by_cases h : 65536 ≤ x
  · rw [decide_eq_true (by omega), cond_true]
    have e1 := iShr_u x 16 (by omega)
    rw [show ((16 : Nat) : Int) = 16 from rfl] at e1
    have e2 := iAdd_i (a := n) (b := 16) (by omega)
    rw [show ((16 : Nat) : Int) = 16 from rfl] at e2
    rw [e1, e2, s8_eq (by omega) (by omega), bitLen_shift x 16 (by omega)]
    congr 3; omega
  · rw [decide_eq_false (by omega), cond_false, s8_eq (by omega) (by omega)]
theorem Len64T_eq {x : Nat} (hx : x < 18446744073709551616) : Len64T x = some (i64 (bitLen x : Int)) := by
  unfold Len64T
  by_cases h : 4294967296 ≤ x
  · rw [decide_eq_true (by omega), cond_true]
    have e1 := iShr_u x 32 (by omega)
    rw [show ((32 : Nat) : Int) = 32 from rfl] at e1
    have e3 := s16_eq (x := x / 2 ^ 32) (n := 32) (by omega) (by omega)
    rw [show ((32 : Nat) : Int) = 32 from rfl] at e3
    rw [e1, e3, bitLen_shift x 32 (by omega)]
  · have e3 := s16_eq (x := x) (n := 0) (by omega) (by omega)
    rw [show ((0 : Nat) : Int) = 0 from rfl] at e3
    rw [decide_eq_false (by omega), cond_false, e3, Nat.zero_add]
def LenF : List Value → Option (Bool × Value)
  | [x] => some (isNum x, i64 (bitLen (unnum x) : Int))
  | _ => none
def lenD (a : Nat) (q : Int) (k : Option Value) : Option Value :=
  bif (a : Int) != 0 then req (isU64 (u64 a)) (some (i64 (iAdd .i64 (iMul .i64 64 q) (bitLen a : Int)))) else k
def LenT (a b c d : Nat) : Option Value := lenD d 3 (lenD c 2 (lenD b 1 (lenD a 0 (some (i64 0)))))
theorem lenD_zero (q : Int) (k : Option Value) : lenD 0 q k = k := rfl
theorem lenD_pos {a : Nat} (h : a ≠ 0) (ha : a < 18446744073709551616) (q : Nat) (hq : q ≤ 3) (k : Option Value) : lenD a (q : Int) k = some (i64 ((64 * q + bitLen a : Nat) : Int)) := by
  unfold lenD
  have : ((a : Int) != 0) = true := by rw [bne_iff_ne]; omega
  have hb := bitLen_lt (k := 64) (show a < 2 ^ 64 from ha)
  rw [this, cond_true, isU64_u64 ha, req_true rfl]
  unfold iAdd iMul
  rw [wrap_i64 (n := 64 * (q : Int)) (by omega), wrap_i64 (by omega)]
  congr 2
theorem bitLen_hi {a q k : Nat} (ha : a < 2 ^ k) (hq : q ≠ 0) : bitLen (a + 2 ^ k * q) = k + bitLen q := by
  have hd : (a + 2 ^ k * q) / 2 ^ k = q := by rw [Nat.add_mul_div_left _ _ (Nat.two_pow_pos k), Nat.div_eq_of_lt ha, Nat.zero_add]
  rw [bitLen_shift _ k (by rw [hd]; exact hq), hd]
theorem LenT_eq {a b c d : Nat} (ha : a < 18446744073709551616) (hb : b < 18446744073709551616) (hc : c < 18446744073709551616) (hd : d < 18446744073709551616) : LenT a b c d = some (i64 (bitLen (hor a b c d) : Int)) := by
  unfold LenT hor
  by_cases h3 : d = 0
  · subst h3
    rw [lenD_zero]
    by_cases h2 : c = 0
    · subst h2
      rw [lenD_zero]
      by_cases h1 : b = 0
      · subst h1
        rw [lenD_zero]
        by_cases h0 : a = 0
        · subst h0; rfl
        · have := lenD_pos h0 ha 0 (by omega) (some (i64 0))
          rw [show ((0 : Nat) : Int) = 0 from rfl] at this
          rw [this]; simp
      · have := lenD_pos h1 hb 1 (by omega) (lenD a 0 (some (i64 0)))
        rw [show ((1 : Nat) : Int) = 1 from rfl] at this
        have e := bitLen_hi (a := a) (k := 64) (q := b) ha h1
        rw [this, show a + 18446744073709551616 * (b + 18446744073709551616 * (0 + 18446744073709551616 * 0)) = a + 2 ^ 64 * b from by omega, e]
    · have := lenD_pos h2 hc 2 (by omega) (lenD b 1 (lenD a 0 (some (i64 0))))
      rw [show ((2 : Nat) : Int) = 2 from rfl] at this
      have e := bitLen_hi (a := a + 18446744073709551616 * b) (k := 128) (q := c) (by omega) h2
      rw [this, show a + 18446744073709551616 * (b + 18446744073709551616 * (c + 18446744073709551616 * 0)) = a + 18446744073709551616 * b + 2 ^ 128 * c from by omega, e]
  · have := lenD_pos h3 hd 3 (by omega) (lenD c 2 (lenD b 1 (lenD a 0 (some (i64 0)))))
    rw [show ((3 : Nat) : Int) = 3 from rfl] at this
    have e := bitLen_hi (a := a + 18446744073709551616 * (b + 18446744073709551616 * c)) (k := 192) (q := d) (by omega) h3
    rw [this, show a + 18446744073709551616 * (b + 18446744073709551616 * (c + 18446744073709551616 * d)) = a + 18446744073709551616 * (b + 18446744073709551616 * c) + 2 ^ 192 * d from by omega, e]
def u8 (x : Nat) : Value := .int .u8 (x : Int)
def isU8 : Value → Bool
  | .int .u8 x => decide (0 ≤ x) && Nat.ble x.toNat 255
  | _ => false
def isB32 (v : Value) : Bool := aggK v (fun l => Nat.beq l.length 32 && l.all isU8) false
def bytesL : Nat → Nat → List Value
  | 0, _ => []
  | n + 1, X => bytesL n (X / 256) ++ [u8 (X % 256)]
def bytesV (X : Nat) : Value := .agg (bytesL 32 X).toArray
def unBy (l : List Value) : Nat := l.foldl (fun a v => a * 256 + intN v) 0
def unbytes (v : Value) : Nat := unBy v.cells.toList
def BytesF : List Value → Option (Bool × Value)
  | [x] => some (isNum x, bytesV (unnum x))
  | _ => none
def OfF : List Value → Option (Bool × Value)
  | [b] => some (isB32 b, num (unbytes b))
  | _ => none
theorem bytesL_len : ∀ (n X : Nat), (bytesL n X).length = n
  | 0, _ => rfl
  | n + 1, X => by simp [bytesL, bytesL_len n]
theorem bytesL_u8 : ∀ (n X : Nat), (bytesL n X).all isU8 = true
  | 0, _ => rfl
  | n + 1, X => by
    simp only [bytesL, List.all_append, bytesL_u8 n, List.all_cons, List.all_nil, Bool.and_true, Bool.true_and]
    show (decide ((0 : Int) ≤ ((X % 256 : Nat) : Int)) && Nat.ble (X % 256) 255) = true
    rw [Bool.and_eq_true, Nat.ble_eq]
    exact ⟨decide_eq_true (by omega), by omega⟩
theorem isB32_of {l : List Value} (hl : l.length = 32) (h : l.all isU8 = true) : isB32 (.agg l.toArray) = true := by
  unfold isB32 aggK
  simp only [h, hl, Bool.and_true]
  rfl
theorem isB32_bytesV (X : Nat) : isB32 (bytesV X) = true := isB32_of (bytesL_len 32 X) (bytesL_u8 32 X)
theorem unBy_bytesL : ∀ (n X acc : Nat), (bytesL n X).foldl (fun a v => a * 256 + intN v) acc = acc * 256 ^ n + X % 256 ^ n
  | 0, X, acc => by simp [bytesL, Nat.mod_one]
  | n + 1, X, acc => by
    simp only [bytesL, List.foldl_append, List.foldl_cons, List.foldl_nil, unBy_bytesL n (X / 256) acc]
    show (acc * 256 ^ n + X / 256 % 256 ^ n) * 256 + X % 256 = _
    rw [Nat.pow_succ, Nat.mul_comm (256 ^ n) 256, Nat.mod_mul, Nat.add_mul]
    have : acc * 256 ^ n * 256 = acc * (256 * 256 ^ n) := by rw [Nat.mul_assoc, Nat.mul_comm (256 ^ n)]
    rw [this]; omega
theorem unbytes_agg (l : List Value) : unbytes (.agg l.toArray) = unBy l := by simp [unbytes, Value.cells]
theorem p256 : (256 : Nat) ^ 32 = 2 ^ 256 := by decide
theorem unbytes_bytesV (X : Nat) : unbytes (bytesV X) = X % 2 ^ 256 := by
  unfold bytesV
  rw [unbytes_agg]
  unfold unBy
  rw [unBy_bytesL, Nat.zero_mul, Nat.zero_add, p256]
theorem isU8_some {v : Value} (h : isU8 v = true) : ∃ x, x < 256 ∧ v = u8 x := by
  unfold isU8 at h
  split at h
  · rename_i x
    simp only [Bool.and_eq_true, decide_eq_true_eq, Nat.ble_eq] at h
    exact ⟨x.toNat, by omega, by simp [u8]; omega⟩
  · simp at h
theorem bytesL_unByy : ∀ (l : List Value), l.all isU8 = true → bytesL l.length (unBy l) = l := by
  intro l
  -- from behind
  have key : ∀ (m : List Value), m.all isU8 = true → bytesL m.reverse.length (unBy m.reverse) = m.reverse := by
    intro m
    induction m with
    | nil => intro _; rfl
    | cons v m ih =>
      intro h
      simp only [List.all_cons, Bool.and_eq_true] at h
      obtain ⟨x, hx, rfl⟩ := isU8_some h.1
      have ih := ih h.2
      have e1 : unBy (m.reverse ++ [u8 x]) = unBy m.reverse * 256 + x := by
        unfold unBy; rw [List.foldl_append]; rfl
      rw [List.reverse_cons, List.length_append, e1]
      show bytesL m.reverse.length ((unBy m.reverse * 256 + x) / 256) ++ [u8 ((unBy m.reverse * 256 + x) % 256)] = _
      rw [show (unBy m.reverse * 256 + x) / 256 = unBy m.reverse from by omega, show (unBy m.reverse * 256 + x) % 256 = x from by omega, ih]
  intro h
  have := key l.reverse (by rw [List.all_reverse]; exact h)
  rwa [List.reverse_reverse] at this
theorem unBy_lt : ∀ (l : List Value), l.all isU8 = true → unBy l < 256 ^ l.length := by
  intro l h
  have e := bytesL_unByy l h
  have := unBy_bytesL l.length (unBy l) 0
  rw [Nat.zero_mul, Nat.zero_add, e] at this
  have hp : 0 < 256 ^ l.length := Nat.pow_pos (by decide)
  have hm := Nat.mod_lt (unBy l) hp
  rw [← this] at hm
  exact hm
theorem isB32_some {v : Value} (h : isB32 v = true) : ∃ X, X < 2 ^ 256 ∧ v = bytesV X ∧ unbytes v = X := by
  unfold isB32 aggK at h
  split at h
  · rename_i cs
    simp only [Bool.and_eq_true] at h
    have hl := nbeq.1 h.1
    refine ⟨unBy cs.toList, ?_, ?_, rfl⟩
    · have := unBy_lt cs.toList h.2
      rwa [hl, p256] at this
    · have := bytesL_unByy cs.toList h.2
      rw [hl] at this
      unfold bytesV
      rw [this]
  · simp at h
theorem bytesL_split : ∀ (m n X : Nat), bytesL (n + m) X = bytesL n (X / 256 ^ m) ++ bytesL m X
  | 0, n, X => by simp [bytesL]
  | m + 1, n, X => by
    show bytesL (n + m) (X / 256) ++ [u8 (X % 256)] = _
    rw [bytesL_split m n (X / 256), List.append_assoc, Nat.pow_succ, Nat.mul_comm, ← Nat.div_div_eq_div_mul]
    rfl
theorem bytesL_mod : ∀ (m X Q : Nat), bytesL m (X + 256 ^ m * Q) = bytesL m X
  | 0, _, _ => rfl
  | m + 1, X, Q => by
    show bytesL m ((X + 256 ^ (m + 1) * Q) / 256) ++ [u8 ((X + 256 ^ (m + 1) * Q) % 256)] = _
    have e : 256 ^ (m + 1) * Q = 256 * (256 ^ m * Q) := by rw [Nat.pow_succ, Nat.mul_comm (256 ^ m), Nat.mul_assoc]
    rw [e, Nat.add_mul_div_left _ _ (by decide), Nat.add_mul_mod_self_left, bytesL_mod m (X / 256) Q]
    rfl
theorem bytesL_hor {a b c d : Nat} (ha : a < 18446744073709551616) (hb : b < 18446744073709551616) (hc : c < 18446744073709551616) : bytesL 32 (hor a b c d) = bytesL 8 d ++ (bytesL 8 c ++ (bytesL 8 b ++ bytesL 8 a)) := by
  have p8 : (256 : Nat) ^ 8 = 18446744073709551616 := by decide
  have s : ∀ n x q, x < 18446744073709551616 → bytesL (n + 8) (x + 18446744073709551616 * q) = bytesL n q ++ bytesL 8 x := by
    intro n x q hx
    have e2 := bytesL_mod 8 x q
    rw [p8] at e2
    rw [bytesL_split 8 n, p8, e2, show (x + 18446744073709551616 * q) / 18446744073709551616 = q from by omega]
  unfold hor
  rw [show (32 : Nat) = 24 + 8 from rfl, s 24 a _ ha, show (24 : Nat) = 16 + 8 from rfl, s 16 b _ hb, show (16 : Nat) = 8 + 8 from rfl, s 8 c _ hc]
  simp only [List.append_assoc]
def by8 (a : Int) (s : Int) : Value := .int .u8 (IntKind.u8.wrap (iShr .u64 a s))
theorem by8_eq (a s : Nat) (hs : s ≤ 64) : by8 (a : Int) (s : Int) = u8 (a / 2 ^ s % 256) := by
  unfold by8 u8; rw [iShr_u a s hs, wrap_u8]; congr 1
def dig8 (a : Int) : List Value := [by8 a 56, by8 a 48, by8 a 40, by8 a 32, by8 a 24, by8 a 16, by8 a 8, by8 a 0]
theorem dig8_eq (a : Nat) : dig8 (a : Int) = bytesL 8 a := by
  have e : bytesL 8 a = [u8 (a / 2 ^ 56 % 256), u8 (a / 2 ^ 48 % 256), u8 (a / 2 ^ 40 % 256), u8 (a / 2 ^ 32 % 256), u8 (a / 2 ^ 24 % 256), u8 (a / 2 ^ 16 % 256), u8 (a / 2 ^ 8 % 256), u8 (a / 2 ^ 0 % 256)] := by
    simp only [bytesL, List.nil_append, List.cons_append, Nat.div_div_eq_div_mul, Nat.pow_zero, Nat.div_one]
  rw [e]
  unfold dig8
  rw [← by8_eq a 56 (by omega), ← by8_eq a 48 (by omega), ← by8_eq a 40 (by omega), ← by8_eq a 32 (by omega), ← by8_eq a 24 (by omega), ← by8_eq a 16 (by omega), ← by8_eq a 8 (by omega), ← by8_eq a 0 (by omega)]
  rfl
def BytesT (a b c d : Nat) : Option Value := some (.agg (dig8 d ++ (dig8 c ++ (dig8 b ++ dig8 a))).toArray)
theorem BytesT_eq {a b c d : Nat} (ha : a < 18446744073709551616) (hb : b < 18446744073709551616) (hc : c < 18446744073709551616) : BytesT a b c d = some (bytesV (hor a b c d)) := by
  unfold BytesT bytesV
  rw [dig8_eq, dig8_eq, dig8_eq, dig8_eq, bytesL_hor ha hb hc]
def or8 (acc : Int) (x : Nat) (s : Int) : Int := iOr .u64 acc (iShl .u64 (IntKind.u64.wrap (x : Int)) s)
def of8 (x0 x1 x2 x3 x4 x5 x6 x7 : Nat) : Int := or8 (or8 (or8 (or8 (or8 (or8 (or8 (or8 0 x0 56) x1 48) x2 40) x3 32) x4 24) x5 16) x6 8) x7 0
theorem or8_eq {A x s : Nat} (hs : s ≤ 56) (hA : A * 2 ^ (s + 8) < 18446744073709551616) (hx : x < 256) : or8 ((A * 2 ^ (s + 8) : Nat) : Int) x (s : Int) = (((A * 256 + x) * 2 ^ s : Nat) : Int) := by
  unfold or8
  have hsm : x * 2 ^ s < 2 ^ (s + 8) := by rw [Nat.pow_add, Nat.mul_comm]; exact Nat.mul_lt_mul_of_pos_left (by omega) (Nat.two_pow_pos s)
  have hle : (2 : Nat) ^ (s + 8) ≤ 18446744073709551616 := by rw [show (18446744073709551616 : Nat) = 2 ^ 64 from by decide]; exact Nat.pow_le_pow_right (by decide) (by omega)
  have e1 : IntKind.u64.wrap (x : Int) = (x : Int) := by rw [wrap_u64]; omega
  have e2 : iShl .u64 (x : Int) (s : Int) = ((x * 2 ^ s : Nat) : Int) := by
    unfold iShl
    have : min (s : Int).toNat IntKind.u64.bits = s := by show min s 64 = s; omega
    rw [this, wrap_u64]
    have e : ((x : Int) * 2 ^ s) = ((x * 2 ^ s : Nat) : Int) := by simp
    rw [e]; omega
  rw [e1, e2, iOr_u hA (by omega)]
  have := Nat.shiftLeft_add_eq_or_of_lt (b := x * 2 ^ s) (i := s + 8) hsm A
  rw [Nat.shiftLeft_eq] at this
  rw [← this, Nat.pow_add, Nat.add_mul, Nat.mul_assoc, Nat.mul_comm 256]
theorem of8_eq {x0 x1 x2 x3 x4 x5 x6 x7 : Nat} (h0 : x0 < 256) (h1 : x1 < 256) (h2 : x2 < 256) (h3 : x3 < 256) (h4 : x4 < 256) (h5 : x5 < 256) (h6 : x6 < 256) (h7 : x7 < 256) :
    of8 x0 x1 x2 x3 x4 x5 x6 x7 = ((((((((((x0 * 256 + x1) * 256 + x2) * 256 + x3) * 256 + x4) * 256 + x5) * 256 + x6) * 256 + x7) : Nat) : Int)) := by
  unfold of8
  have f0 := or8_eq (A := 0) (x := x0) (s := 56) (by omega) (by rw [Nat.zero_mul]; decide) h0
  rw [Nat.zero_mul, Nat.zero_add] at f0
  have f1 := or8_eq (A := x0) (x := x1) (s := 48) (by omega) (by omega) h1
  rw [show ((48 : Nat) : Int) = 48 from rfl, show 48 + 8 = 56 from rfl] at f1
  have f2 := or8_eq (A := x0 * 256 + x1) (x := x2) (s := 40) (by omega) (by omega) h2
  rw [show ((40 : Nat) : Int) = 40 from rfl, show 40 + 8 = 48 from rfl] at f2
  have f3 := or8_eq (A := (x0 * 256 + x1) * 256 + x2) (x := x3) (s := 32) (by omega) (by omega) h3
  rw [show ((32 : Nat) : Int) = 32 from rfl, show 32 + 8 = 40 from rfl] at f3
  have f4 := or8_eq (A := ((x0 * 256 + x1) * 256 + x2) * 256 + x3) (x := x4) (s := 24) (by omega) (by omega) h4
  rw [show ((24 : Nat) : Int) = 24 from rfl, show 24 + 8 = 32 from rfl] at f4
  have f5 := or8_eq (A := (((x0 * 256 + x1) * 256 + x2) * 256 + x3) * 256 + x4) (x := x5) (s := 16) (by omega) (by omega) h5
  rw [show ((16 : Nat) : Int) = 16 from rfl, show 16 + 8 = 24 from rfl] at f5
  have f6 := or8_eq (A := ((((x0 * 256 + x1) * 256 + x2) * 256 + x3) * 256 + x4) * 256 + x5) (x := x6) (s := 8) (by omega) (by omega) h6
  rw [show ((8 : Nat) : Int) = 8 from rfl, show 8 + 8 = 16 from rfl] at f6
  have f7 := or8_eq (A := (((((x0 * 256 + x1) * 256 + x2) * 256 + x3) * 256 + x4) * 256 + x5) * 256 + x6) (x := x7) (s := 0) (by omega) (by omega) h7
  rw [show ((0 : Nat) : Int) = 0 from rfl, show 0 + 8 = 8 from rfl, Nat.pow_zero, Nat.mul_one] at f7
  have f0' : or8 0 x0 56 = ((x0 * 2 ^ 56 : Nat) : Int) := f0
  rw [f0', f1, f2, f3, f4, f5, f6, f7]
end Go.W
/-
  The law of orders, as a tree over numbers.
-/
namespace Go.W
theorem bytesL_get : ∀ (n X k : Nat), k < n → (bytesL n X)[n - 1 - k]? = some (u8 (X / 256 ^ k % 256))
  | 0, _, _, h => absurd h (by omega)
  | n + 1, X, 0, _ => by
    show (bytesL n (X / 256) ++ [u8 (X % 256)])[n]? = _
    rw [List.getElem?_append_right (by rw [bytesL_len]; exact Nat.le_refl n), bytesL_len, Nat.sub_self]
    simp
  | n + 1, X, k + 1, h => by
    show (bytesL n (X / 256) ++ [u8 (X % 256)])[n - (k + 1)]? = _
    rw [List.getElem?_append_left (by rw [bytesL_len]; omega), show n - (k + 1) = n - 1 - k from by omega, bytesL_get n (X / 256) k (by omega), Nat.pow_succ, Nat.mul_comm, ← Nat.div_div_eq_div_mul]
def ordW (A B k : Nat) : Int := cmpI (A % 256 ^ k) (B % 256 ^ k)
theorem ordW_zero (A B : Nat) : ordW A B 0 = 0 := by unfold ordW cmpI; simp [Nat.mod_one]
theorem ordW_succ (A B k : Nat) : ordW A B (k + 1) = if A / 256 ^ k % 256 < B / 256 ^ k % 256 then -1 else if B / 256 ^ k % 256 < A / 256 ^ k % 256 then 1 else ordW A B k := by
  unfold ordW cmpI
  have ha := Nat.mod_lt A (show 0 < 256 ^ k from Nat.pow_pos (by decide))
  have hb := Nat.mod_lt B (show 0 < 256 ^ k from Nat.pow_pos (by decide))
  rw [Nat.pow_succ, Nat.mod_mul, Nat.mod_mul]
  generalize A / 256 ^ k % 256 = x
  generalize B / 256 ^ k % 256 = y
  generalize A % 256 ^ k = a at *
  generalize B % 256 ^ k = b at *
  generalize 256 ^ k = p at *
  rcases Nat.lt_trichotomy x y with h | rfl | h
  · have : p * x + p ≤ p * y := by rw [← Nat.mul_succ]; exact Nat.mul_le_mul_left p h
    rw [if_pos h, if_pos (by omega)]
  · rw [if_neg (Nat.lt_irrefl x), if_neg (Nat.lt_irrefl x)]
    congr 1
    · exact propext ⟨fun h => by omega, fun h => by omega⟩
    · congr 1
      exact propext ⟨fun h => by omega, fun h => by omega⟩
  · have : p * y + p ≤ p * x := by rw [← Nat.mul_succ]; exact Nat.mul_le_mul_left p h
    rw [if_neg (show ¬ (a + p * x < b + p * y) by omega), if_pos (show b + p * y < a + p * x by omega), if_neg (show ¬ (x < y) by omega), if_pos h]
theorem ordW_last {A B : Nat} (hA : A < 2 ^ 256) (hB : B < 2 ^ 256) : ordW A B 32 = cmpI A B := by
  unfold ordW; rw [p256, Nat.mod_eq_of_lt hA, Nat.mod_eq_of_lt hB]
def ordEnd (a b : Value) (want : Int) : Option Value :=
  req (isNum a) <| req (isNum b) <| bif decide ((bitLen (unnum a) : Int) ≥ (bitLen (unnum b) : Int)) then tru else bif decide (want < 0) then tru else fls
def OrdT (a b c : Value) (want : Int) : Option Value :=
  r2 a b <| bif cmpI (unnum a) (unnum b) != want then fls else
  r2 a b <| bif decide (cmpI (unnum a) (unnum b) ≤ 0) then (r2 b c <| bif decide (cmpI (unnum b) (unnum c) ≤ 0) then (r2 a c <| bif decide (cmpI (unnum a) (unnum c) > 0) then fls else ordEnd a b want) else ordEnd a b want) else ordEnd a b want
theorem bitLen_mono {a b : Nat} (h : a ≤ b) : bitLen a ≤ bitLen b := by
  refine bitLen_lt (Nat.lt_of_le_of_lt h ?_)
  exact (bitLen_spec b).1
theorem ordEnd_eq {A B : Nat} (hA : A < 2 ^ 256) (hB : B < 2 ^ 256) : ordEnd (num A) (num B) (cmpI A B) = tru := by
  unfold ordEnd
  rw [isNum_num, isNum_num, req_true rfl, req_true rfl, unnum_lt hA, unnum_lt hB]
  by_cases h : bitLen B ≤ bitLen A
  · rw [decide_eq_true (by omega)]; rfl
  · have hlt : A < B := by
      rcases Nat.lt_or_ge A B with h' | h'
      · exact h'
      · exact absurd (bitLen_mono h') h
    rw [decide_eq_false (by omega), cond_false, decide_eq_true (by unfold cmpI; rw [if_pos hlt]; decide)]; rfl
theorem OrdT_eq {A B C : Nat} (hA : A < 2 ^ 256) (hB : B < 2 ^ 256) (hC : C < 2 ^ 256) : OrdT (num A) (num B) (num C) (cmpI A B) = tru := by
  unfold OrdT
  simp only [r2_num, unnum_lt hA, unnum_lt hB, unnum_lt hC, ordEnd_eq hA hB]
  rw [show (cmpI A B != cmpI A B) = false from by simp, cond_false]
  by_cases h1 : cmpI A B ≤ 0
  · rw [decide_eq_true h1, cond_true]
    by_cases h2 : cmpI B C ≤ 0
    · rw [decide_eq_true h2, cond_true]
      have h3 : ¬ (cmpI A C > 0) := by
        unfold cmpI at *
        split at h1 <;> split at h2 <;> (try split at h1) <;> (try split at h2) <;> (try omega) <;> (split <;> (try split) <;> omega)
      rw [decide_eq_false h3, cond_false]
    · rw [decide_eq_false h2, cond_false]
  · rw [decide_eq_false h1, cond_false]
end Go.W
/-
  The laws of what comes back, and of what is left, as trees over numbers.
-/
namespace Go.W
def sD (x y : Value) : Value := num (2 ^ 256 + unnum x - unnum y)
def sB (x y : Value) : Nat := if unnum x < unnum y then 1 else 0
def cI (x y : Value) : Int := cmpI (unnum x) (unnum y)
def BackT (a b c : Value) : Option Value :=
  let s := aS a b
  r2 a b <| r2 s b <| bif !(eqV (sD s b) a) then fls else bif ((aC a b : Nat) : Int) != ((sB s b : Nat) : Int) then fls else
  r2 a b <| r2 a b <| bif !(decide (cI a b < 0) == (((sB a b : Nat) : Int) == 1)) then fls else
  r2 a b <| r2 b a <| bif cI a b != IntKind.i64.wrap (0 - cI b a) then fls else
  r2 a a <| bif cI a a != 0 then fls else
  r2 a b <| r2 b a <| bif !(eqV (mL a b) (mL b a)) then fls else bif !(eqV (mH a b) (mH b a)) then fls else
  r2 s c <| r2 a c <| r2 b c <| r2 (mL a c) (mL b c) <| bif eqV (mL s c) (aS (mL a c) (mL b c)) then tru else fls
theorem cI_num {X Y : Nat} (hX : X < 2 ^ 256) (hY : Y < 2 ^ 256) : cI (num X) (num Y) = cmpI X Y := by unfold cI; rw [unnum_lt hX, unnum_lt hY]
theorem sB_num (X Y : Nat) : sB (num X) (num Y) = if X % 2 ^ 256 < Y % 2 ^ 256 then 1 else 0 := by unfold sB; rw [unnum_num, unnum_num]
theorem sD_num (X Y : Nat) : sD (num X) (num Y) = num (2 ^ 256 + X % 2 ^ 256 - Y % 2 ^ 256) := by unfold sD; rw [unnum_num, unnum_num]
theorem cmpI_self (X : Nat) : cmpI X X = 0 := by unfold cmpI; rw [if_neg (Nat.lt_irrefl X), if_neg (Nat.lt_irrefl X)]
theorem BackT_eq {A B C : Nat} (hA : A < 2 ^ 256) (hB : B < 2 ^ 256) (_hC : C < 2 ^ 256) : BackT (num A) (num B) (num C) = tru := by
  unfold BackT
  simp only [aS_num, mL_num, mH_num hA hB, mH_num hB hA, r2_num, eqV_num, cI_num hA hB, cI_num hB hA, cI_num hA hA, cmpI_self]
  have e1 : decide ((A + B) * C % 2 ^ 256 = (A * C + B * C) % 2 ^ 256) = true := decide_eq_true (by rw [Nat.add_mul])
  have e2 : decide (A * B % 2 ^ 256 = B * A % 2 ^ 256) = true := decide_eq_true (by rw [Nat.mul_comm])
  have e3 : decide (A * B / 2 ^ 256 % 2 ^ 256 = B * A / 2 ^ 256 % 2 ^ 256) = true := decide_eq_true (by rw [Nat.mul_comm])
  have e4 : (cmpI A B != IntKind.i64.wrap (0 - cmpI B A)) = false := by
    unfold cmpI
    rcases Nat.lt_trichotomy A B with h | rfl | h
    · rw [if_pos h, if_neg (show ¬ B < A by omega), if_pos h]; rfl
    · rw [if_neg (Nat.lt_irrefl A), if_neg (Nat.lt_irrefl A)]; rfl
    · rw [if_neg (show ¬ A < B by omega), if_pos h, if_pos h]; rfl
  have e5 : (decide (cmpI A B < 0) == (((sB (num A) (num B) : Nat) : Int) == 1)) = true := by
    unfold sB cmpI; rw [unnum_lt hA, unnum_lt hB]
    by_cases h : A < B
    · rw [if_pos h, if_pos h]; rfl
    · rw [if_neg h, if_neg h]
      by_cases h' : B < A
      · rw [if_pos h']; rfl
      · rw [if_neg h']; rfl
  have e6 : eqV (sD (num (A + B)) (num B)) (num A) = true := by
    rw [sD_num, eqV_num]; exact decide_eq_true (by omega)
  have e7 : (((aC (num A) (num B) : Nat) : Int) != ((sB (num (A + B)) (num B) : Nat) : Int)) = false := by
    rw [aC_num, sB_num]
    have : (A % 2 ^ 256 + B % 2 ^ 256) / 2 ^ 256 = if (A + B) % 2 ^ 256 < B % 2 ^ 256 then 1 else 0 := by split <;> omega
    rw [this]; exact bne_self_eq_false _
  rw [e1, e2, e3, e4, e5, e6, e7]; rfl
def modR (h l m : Value) : Value := num (modN (unnum h) (unnum l) (unnum m))
def modEv (m : Value) : Int := modE (unnum m)
def r3 {α : Type} (x y z : Value) (k : Option α) : Option α := req (isNum x && isNum y && isNum z) k
def okB (m : Value) : Bool := modEv m == 0
def RestT (a b m z : Value) : Option Value :=
  let x := modR z a m; let y := modR z b m; let lo := mL a b; let hi := mH a b; let p := modR hi lo m
  let l := mL x y; let h := mH x y; let q := modR h l m; let s := aS a m; let r := modR (one (aC a m)) s m
  bif eqV m z then tru else
  r3 z a m <| r3 z b m <| r2 a b <| r3 hi lo m <| r2 x y <| r3 h l m <| r2 a m <| r3 (one (aC a m)) s m <|
  bif okB m then (bif okB m then (bif okB m then (bif okB m then (bif okB m then (bif eqV p q then (bif eqV r x then
    (r2 a m <| bif decide (cI a m ≥ 0) then (r2 x m <| bif decide (cI x m < 0) then tru else fls) else (bif eqV x a then (r2 x m <| bif decide (cI x m < 0) then tru else fls) else fls)) else fls) else fls) else fls) else fls) else fls) else fls) else fls
theorem r3_num {α : Type} (X Y Z : Nat) (k : Option α) : r3 (num X) (num Y) (num Z) k = k := by unfold r3; rw [isNum_num, isNum_num, isNum_num, req_true (b := true && true && true) rfl]
theorem RestT_eq {A B M : Nat} (hA : A < 2 ^ 256) (hB : B < 2 ^ 256) (hM : M < 2 ^ 256) : RestT (num A) (num B) (num M) (num 0) = tru := by
  unfold RestT
  by_cases h0 : M = 0
  · subst h0
    rw [eqV_num, decide_eq_true rfl]; rfl
  · have hpos : 0 < M := by omega
    have hn : ∀ H L, modN H L M = (H * 2 ^ 256 + L) % M := fun H L => by unfold modN; rw [if_neg h0]
    have e0 : eqV (num M) (num 0) = false := by rw [eqV_num]; exact decide_eq_false (by rw [Nat.mod_eq_of_lt hM]; simpa using h0)
    have eok : okB (num M) = true := by unfold okB modEv modE; rw [unnum_lt hM, if_neg h0]; rfl
    have eA : modR (num 0) (num A) (num M) = num (A % M) := by
      unfold modR; rw [unnum_lt (show 0 < 2 ^ 256 by decide), unnum_lt hA, unnum_lt hM, hn, Nat.zero_mul, Nat.zero_add]
    have eB : modR (num 0) (num B) (num M) = num (B % M) := by
      unfold modR; rw [unnum_lt (show 0 < 2 ^ 256 by decide), unnum_lt hB, unnum_lt hM, hn, Nat.zero_mul, Nat.zero_add]
    have xA : A % M < M := Nat.mod_lt _ hpos
    have xB : B % M < M := Nat.mod_lt _ hpos
    have wide : ∀ X Y, X < 2 ^ 256 → Y < 2 ^ 256 → modR (mH (num X) (num Y)) (mL (num X) (num Y)) (num M) = num (X * Y % M) := by
      intro X Y hX hY
      rw [mH_num hX hY, mL_num]
      unfold modR
      rw [unnum_num, unnum_num, unnum_lt hM, hn]
      have hXY : X * Y < 2 ^ 256 * 2 ^ 256 := Nat.mul_lt_mul'' hX hY
      generalize X * Y = z at *
      have h2 : z / 2 ^ 256 < 2 ^ 256 := Nat.div_lt_of_lt_mul hXY
      rw [Nat.mod_eq_of_lt h2]
      congr 2
      omega
    simp only [eA, eB, e0, eok, wide A B hA hB, wide (A % M) (B % M) (by omega) (by omega), one_num (aC_lt _ _), cond_false, cond_true]
    have er : modR (num (aC (num A) (num M))) (aS (num A) (num M)) (num M) = num (A % M) := by
      rw [aS_num, aC_num]
      unfold modR
      rw [unnum_num, unnum_num, unnum_lt hM, hn, Nat.mod_eq_of_lt hA, Nat.mod_eq_of_lt hM]
      have : (A + M) / 2 ^ 256 % 2 ^ 256 * 2 ^ 256 + (A + M) % 2 ^ 256 = A + M := by omega
      rw [this, Nat.add_mod_right]
    rw [er]
    have ep : eqV (num (A * B % M)) (num (A % M * (B % M) % M)) = true := by
      rw [eqV_num]; exact decide_eq_true (by rw [← Nat.mul_mod])
    have ex : eqV (num (A % M)) (num (A % M)) = true := by rw [eqV_num]; exact decide_eq_true rfl
    have hx2 : A % M < 2 ^ 256 := by omega
    rw [mH_num hA hB, mH_num hx2 (show B % M < 2 ^ 256 by omega), mL_num, mL_num, aS_num]
    simp only [r3_num, r2_num, ep, ex, cond_true, cI_num hA hM, cI_num hx2 hM]
    have ec : decide (cmpI (A % M) M < 0) = true := decide_eq_true (by unfold cmpI; rw [if_pos xA]; decide)
    rw [ec]
    by_cases hlt : A < M
    · have e9 : decide (cmpI A M ≥ 0) = false := decide_eq_false (by unfold cmpI; rw [if_pos hlt]; decide)
      rw [e9, Nat.mod_eq_of_lt hlt, eqV_num, decide_eq_true rfl]; rfl
    · have e9 : decide (cmpI A M ≥ 0) = true := decide_eq_true (by unfold cmpI; rw [if_neg hlt]; split <;> decide)
      rw [e9]; rfl
end Go.W
/-
  The document's own answers, package limb: the ways of their texts, and what they come to.
-/
namespace Go.W
def CmpRT (a b : Value) : Option Value := bif eqV a b then some (i64 0) else r2 a b <| bif ((sB a b : Nat) : Int) == 1 then some (i64 (-1)) else some (i64 1)
theorem CmpRT_eq {A B : Nat} (hA : A < 2 ^ 256) (hB : B < 2 ^ 256) : CmpRT (num A) (num B) = some (i64 (cmpI A B)) := by
  unfold CmpRT
  rw [eqV_num, Nat.mod_eq_of_lt hA, Nat.mod_eq_of_lt hB, r2_num, sB_num, Nat.mod_eq_of_lt hA, Nat.mod_eq_of_lt hB]
  unfold cmpI
  rcases Nat.lt_trichotomy A B with h | rfl | h
  · rw [decide_eq_false (by omega), if_pos h, if_pos h]; rfl
  · simp only [Nat.lt_irrefl, if_false, decide_true]; rfl
  · rw [decide_eq_false (by omega), if_neg (show ¬ A < B by omega), if_neg (show ¬ A < B by omega), if_pos h]; rfl
def digL (X : Nat) : List Value := [u64 (dig X 0), u64 (dig X 1), u64 (dig X 2), u64 (dig X 3), u64 (dig X 4), u64 (dig X 5), u64 (dig X 6), u64 (dig X 7)]
def mstep {α : Type} (x y c : Nat) (d : Int) (k : Nat → Int → Option α) : Option α :=
  req (isU64 (u64 x) && isU64 (u64 y)) <| req (Nat.ble 0 1) <| req (Nat.ble 0 1) <|
    k (s64 (s64 (x * y % 18446744073709551616) c 0) d.toNat 0) (iAdd .u64 (iAdd .u64 ((x * y / 18446744073709551616 : Nat) : Int) (c64 (x * y % 18446744073709551616) c 0 : Int)) (c64 (s64 (x * y % 18446744073709551616) c 0) d.toNat 0 : Int))
theorem mstep_eq {α : Type} {x y c d : Nat} (hx : x < 18446744073709551616) (hy : y < 18446744073709551616) (hc : c < 18446744073709551616) (hd : d < 18446744073709551616) (k : Nat → Int → Option α) :
    mstep x y c (d : Int) k = k (maL x y c d) ((maH x y c d : Nat) : Int) := by
  unfold mstep
  rw [isU64_u64 hx, isU64_u64 hy, req_true (b := true && true) rfl, req_true (b := Nat.ble 0 1) rfl, req_true (b := Nat.ble 0 1) rfl, Int.toNat_natCast]
  have h := mul_le hx hy
  unfold maL maH
  generalize x * y = p at *
  rw [iAdd_u, iAdd_u]
  have e1 : s64 (s64 (p % 18446744073709551616) c 0) d 0 = (p + c + d) % 18446744073709551616 := by unfold s64; omega
  have e2 : ((p / 18446744073709551616 + c64 (p % 18446744073709551616) c 0) % 18446744073709551616 + c64 (s64 (p % 18446744073709551616) c 0) d 0) % 18446744073709551616 = (p + c + d) / 18446744073709551616 := by
    unfold s64 c64; omega
  rw [e1, e2]
def mrow {α : Type} (d b0 b1 b2 b3 s0 s1 s2 s3 : Nat) (k : Nat → Nat → Nat → Nat → Int → Option α) : Option α :=
  mstep d b0 s0 0 fun l0 h0 => mstep d b1 s1 h0 fun l1 h1 => mstep d b2 s2 h1 fun l2 h2 => mstep d b3 s3 h2 fun l3 h3 => k l0 l1 l2 l3 h3
def mrowL {α : Type} (j : Nat) (X d b0 b1 b2 b3 : Nat) (k : List Value → Option α) : Option α :=
  match j with
  | 0 => mrow d b0 b1 b2 b3 (dig X 0) (dig X 1) (dig X 2) (dig X 3) fun l0 l1 l2 l3 c => k [u64 l0, u64 l1, u64 l2, u64 l3, .int .u64 c, u64 (dig X 5), u64 (dig X 6), u64 (dig X 7)]
  | 1 => mrow d b0 b1 b2 b3 (dig X 1) (dig X 2) (dig X 3) (dig X 4) fun l0 l1 l2 l3 c => k [u64 (dig X 0), u64 l0, u64 l1, u64 l2, u64 l3, .int .u64 c, u64 (dig X 6), u64 (dig X 7)]
  | 2 => mrow d b0 b1 b2 b3 (dig X 2) (dig X 3) (dig X 4) (dig X 5) fun l0 l1 l2 l3 c => k [u64 (dig X 0), u64 (dig X 1), u64 l0, u64 l1, u64 l2, u64 l3, .int .u64 c, u64 (dig X 7)]
  | _ => mrow d b0 b1 b2 b3 (dig X 3) (dig X 4) (dig X 5) (dig X 6) fun l0 l1 l2 l3 c => k [u64 (dig X 0), u64 (dig X 1), u64 (dig X 2), u64 l0, u64 l1, u64 l2, u64 l3, .int .u64 c]
theorem mrow_eq {α : Type} {d b0 b1 b2 b3 s0 s1 s2 s3 : Nat} (hd : d < 18446744073709551616) (h0 : b0 < 18446744073709551616) (h1 : b1 < 18446744073709551616) (h2 : b2 < 18446744073709551616) (h3 : b3 < 18446744073709551616)
    (k0 : s0 < 18446744073709551616) (k1 : s1 < 18446744073709551616) (k2 : s2 < 18446744073709551616) (k3 : s3 < 18446744073709551616) (K : Nat → Nat → Nat → Nat → Int → Option α) :
    ∃ l0 l1 l2 l3 c, mrow d b0 b1 b2 b3 s0 s1 s2 s3 K = K l0 l1 l2 l3 ((c : Nat) : Int) ∧ (∀ k, rowT d b0 b1 b2 b3 s0 s1 s2 s3 k = k l0 l1 l2 l3 c) := by
  have z : (0 : Nat) < 18446744073709551616 := by decide
  have c0 := maH_lt hd h0 k0 z
  have c1 := maH_lt hd h1 k1 c0
  have c2 := maH_lt hd h2 k2 c1
  refine ⟨maL d b0 s0 0, maL d b1 s1 (maH d b0 s0 0), maL d b2 s2 (maH d b1 s1 (maH d b0 s0 0)), maL d b3 s3 (maH d b2 s2 (maH d b1 s1 (maH d b0 s0 0))), maH d b3 s3 (maH d b2 s2 (maH d b1 s1 (maH d b0 s0 0))), ?_, fun k => ?_⟩
  · unfold mrow
    have e0 := mstep_eq (α := α) hd h0 k0 z
    rw [show ((0 : Nat) : Int) = 0 from rfl] at e0
    rw [e0, mstep_eq hd h1 k1 c0, mstep_eq hd h2 k2 c1, mstep_eq hd h3 k3 c2]
  · unfold rowT
    rw [req_true (maP_true hd h0 k0 z), req_true (maP_true hd h1 k1 c0), req_true (maP_true hd h2 k2 c1), req_true (maP_true hd h3 k3 c2)]
theorem num8_digL {l : List Value} {X : Nat} (h : some (Value.agg l.toArray) = some (num8 X)) : l = digL X := by
  simp only [Option.some.injEq, num8, numd8, Value.agg.injEq] at h
  have := congrArg Array.toList h
  simpa [digL] using this
theorem mrowL_eq {α : Type} {j X d b0 b1 b2 b3 : Nat} (hj : j ≤ 3) (hX : X < bnd j) (hd : d < 18446744073709551616) (h0 : b0 < 18446744073709551616) (h1 : b1 < 18446744073709551616) (h2 : b2 < 18446744073709551616) (h3 : b3 < 18446744073709551616)
    (K : List Value → Option α) : mrowL j X d b0 b1 b2 b3 K = K (digL (X + d * hor b0 b1 b2 b3 * 2 ^ (64 * j))) := by
  have hS : hor8 (dig X 0) (dig X 1) (dig X 2) (dig X 3) (dig X 4) (dig X 5) (dig X 6) (dig X 7) = X := by
    have := unnum_num8 (bnd_lt hj hX)
    rwa [show unnum (num8 X) = hor8 (dig X 0) (dig X 1) (dig X 2) (dig X 3) (dig X 4) (dig X 5) (dig X 6) (dig X 7) from rfl] at this
  have key := addRowT_eq hj (dig_lt X 0) (dig_lt X 1) (dig_lt X 2) (dig_lt X 3) (dig_lt X 4) (dig_lt X 5) (dig_lt X 6) (dig_lt X 7) hd h0 h1 h2 h3 (by rw [hS]; exact hX)
  rw [hS] at key
  unfold addRowV at key
  match j, hj with
  | 0, _ =>
    obtain ⟨l0, l1, l2, l3, c, e, f⟩ := mrow_eq hd h0 h1 h2 h3 (dig_lt X 0) (dig_lt X 1) (dig_lt X 2) (dig_lt X 3) fun l0 l1 l2 l3 c => K [u64 l0, u64 l1, u64 l2, u64 l3, .int .u64 c, u64 (dig X 5), u64 (dig X 6), u64 (dig X 7)]
    rw [← num8_digL (l := [u64 l0, u64 l1, u64 l2, u64 l3, u64 c, u64 (dig X 5), u64 (dig X 6), u64 (dig X 7)]) ((f (fun l0 l1 l2 l3 c => some (numd8 l0 l1 l2 l3 c (dig X 5) (dig X 6) (dig X 7)))).symm.trans key)]; exact e
  | 1, _ =>
    obtain ⟨l0, l1, l2, l3, c, e, f⟩ := mrow_eq hd h0 h1 h2 h3 (dig_lt X 1) (dig_lt X 2) (dig_lt X 3) (dig_lt X 4) fun l0 l1 l2 l3 c => K [u64 (dig X 0), u64 l0, u64 l1, u64 l2, u64 l3, .int .u64 c, u64 (dig X 6), u64 (dig X 7)]
    rw [← num8_digL (l := [u64 (dig X 0), u64 l0, u64 l1, u64 l2, u64 l3, u64 c, u64 (dig X 6), u64 (dig X 7)]) ((f (fun l0 l1 l2 l3 c => some (numd8 (dig X 0) l0 l1 l2 l3 c (dig X 6) (dig X 7)))).symm.trans key)]; exact e
  | 2, _ =>
    obtain ⟨l0, l1, l2, l3, c, e, f⟩ := mrow_eq hd h0 h1 h2 h3 (dig_lt X 2) (dig_lt X 3) (dig_lt X 4) (dig_lt X 5) fun l0 l1 l2 l3 c => K [u64 (dig X 0), u64 (dig X 1), u64 l0, u64 l1, u64 l2, u64 l3, .int .u64 c, u64 (dig X 7)]
    rw [← num8_digL (l := [u64 (dig X 0), u64 (dig X 1), u64 l0, u64 l1, u64 l2, u64 l3, u64 c, u64 (dig X 7)]) ((f (fun l0 l1 l2 l3 c => some (numd8 (dig X 0) (dig X 1) l0 l1 l2 l3 c (dig X 7)))).symm.trans key)]; exact e
  | 3, _ =>
    obtain ⟨l0, l1, l2, l3, c, e, f⟩ := mrow_eq hd h0 h1 h2 h3 (dig_lt X 3) (dig_lt X 4) (dig_lt X 5) (dig_lt X 6) fun l0 l1 l2 l3 c => K [u64 (dig X 0), u64 (dig X 1), u64 (dig X 2), u64 l0, u64 l1, u64 l2, u64 l3, .int .u64 c]
    rw [← num8_digL (l := [u64 (dig X 0), u64 (dig X 1), u64 (dig X 2), u64 l0, u64 l1, u64 l2, u64 l3, u64 c]) ((f (fun l0 l1 l2 l3 c => some (numd8 (dig X 0) (dig X 1) (dig X 2) l0 l1 l2 l3 c))).symm.trans key)]; exact e
theorem mul_mrows {x0 x1 x2 x3 Y : Nat} (h0 : x0 < 18446744073709551616) (h1 : x1 < 18446744073709551616) (h2 : x2 < 18446744073709551616) (h3 : x3 < 18446744073709551616) (hY : Y < 2 ^ 256) :
    ∃ X1 X2 X3 X4, 0 < bnd 0 ∧ X1 < bnd 1 ∧ X2 < bnd 2 ∧ X3 < bnd 3 ∧ 0 + x0 * Y * 2 ^ (64 * 0) = X1 ∧ X1 + x1 * Y * 2 ^ (64 * 1) = X2 ∧ X2 + x2 * Y * 2 ^ (64 * 2) = X3 ∧ X3 + x3 * Y * 2 ^ (64 * 3) = X4 ∧
      Value.tuple #[numd (dig X4 0) (dig X4 1) (dig X4 2) (dig X4 3), numd (dig X4 4) (dig X4 5) (dig X4 6) (dig X4 7)] = mulV (hor x0 x1 x2 x3) Y := by
  have r0 := row_le hY h0
  have r1 := row_le hY h1
  have r2 := row_le hY h2
  have r3 := row_le hY h3
  have z0 : (0 : Nat) < bnd 0 := by simp only [bnd]; omega
  have p1 : x0 * Y < bnd 1 := by simp only [bnd]; omega
  have p2 : x0 * Y + x1 * Y * 2 ^ 64 < bnd 2 := by simp only [bnd]; omega
  have p3 : x0 * Y + x1 * Y * 2 ^ 64 + x2 * Y * 2 ^ 128 < bnd 3 := by simp only [bnd]; omega
  have hp : hor x0 x1 x2 x3 * Y = x0 * Y + x1 * Y * 2 ^ 64 + x2 * Y * 2 ^ 128 + x3 * Y * 2 ^ 192 := by
    unfold hor
    grind
  refine ⟨_, _, _, _, z0, p1, p2, p3, by simp, rfl, rfl, rfl, ?_⟩
  unfold mulV
  rw [hp, ← div256]
  rfl
theorem tbV_num {L b : Nat} (hL : L < 2 ^ 256) (hb : b ≤ 1) : tbV (num L) (b : Int) = num (2 * L % 2 ^ 256 + b) := by
  have hS : tbS (num L) = 2 * L := by unfold tbS; rw [unnum_lt hL]; omega
  unfold tbV
  rw [hS]
  have d0 : dig (2 * L) 0 = 2 * (L % 9223372036854775808) := by show 2 * L % 18446744073709551616 = _; omega
  have hor0 : iOr .u64 (dig (2 * L) 0 : Int) (b : Int) = ((dig (2 * L) 0 + b : Nat) : Int) := by
    rw [iOr_u (dig_lt _ _) (by omega), d0, or_even _ _ hb]
  have hlt0 : dig (2 * L) 0 + b < 18446744073709551616 := by rw [d0]; omega
  rw [hor0]
  have hn : hor (dig (2 * L) 0 + b) (dig (2 * L) 1) (dig (2 * L) 2) (dig (2 * L) 3) = 2 * L % 2 ^ 256 + b := by
    have e : num (2 * L % 2 ^ 256) = num (2 * L) := num_mod _
    have e2 := congrArg unnum e
    rw [unnum_num, Nat.mod_mod] at e2
    have e3 : hor (dig (2 * L) 0) (dig (2 * L) 1) (dig (2 * L) 2) (dig (2 * L) 3) = 2 * L % 2 ^ 256 := e2.symm
    rw [← e3]; unfold hor; omega
  have hnum : numd (dig (2 * L) 0 + b) (dig (2 * L) 1) (dig (2 * L) 2) (dig (2 * L) 3) = num (2 * L % 2 ^ 256 + b) := by
    rw [← hn]
    have := num_hor hlt0 (dig_lt (2 * L) 1) (dig_lt (2 * L) 2) (dig_lt (2 * L) 3) 0
    rw [Nat.mul_zero, Nat.add_zero] at this
    exact this.symm
  exact hnum
def modK {α : Type} (r m : Value) (b : Int) (k : Value → Option α) : Option α :=
  req (isNum r) <| r2 r r <| bif bitI (unnum r) 255 == 1 then (r2 (tbV r b) m <| k (sD (tbV r b) m))
    else (r2 (tbV r b) m <| bif decide (cI (tbV r b) m ≥ 0) then (r2 (tbV r b) m <| k (sD (tbV r b) m)) else k (tbV r b))
theorem modK_eq {α : Type} {R M b : Nat} (hR : R < M) (hM : M < 2 ^ 256) (hb : b ≤ 1) (k : Value → Option α) : modK (num R) (num M) (b : Int) k = k (num (tbN R b M)) := by
  have hR' : R < 2 ^ 256 := by omega
  unfold modK
  rw [tbV_num hR' hb, isNum_num, req_true rfl, r2_num, r2_num, unnum_lt hR']
  have e255 : bitI R 255 = ((R / 2 ^ 255 % 2 : Nat) : Int) := by
    have := bitI_nat (A := R) (n := 255) (by omega)
    rw [show ((255 : Nat) : Int) = 255 from rfl] at this
    rw [this]; rfl
  have hsub : 2 * R + b ≥ M → num (2 ^ 256 + (2 * R % 2 ^ 256 + b) - M) = num (tbN R b M) := by
    intro h
    have e2 : tbN R b M = 2 * R + b - M := by
      unfold tbN
      rw [Nat.mod_eq_sub_mod (by omega), Nat.mod_eq_of_lt (by omega)]
    rw [e2]
    by_cases hc : 2 * R < 2 ^ 256
    · rw [Nat.mod_eq_of_lt hc, show 2 ^ 256 + (2 * R + b) - M = 2 * R + b - M + 2 ^ 256 * 1 from by omega, num_add_mul]
    · rw [show 2 ^ 256 + (2 * R % 2 ^ 256 + b) - M = 2 * R + b - M from by omega]
  have hlt : 2 * R % 2 ^ 256 + b < 2 ^ 256 := by omega
  have hsD : sD (num (2 * R % 2 ^ 256 + b)) (num M) = num (2 ^ 256 + (2 * R % 2 ^ 256 + b) - M) := by rw [sD_num, Nat.mod_eq_of_lt hlt, Nat.mod_eq_of_lt hM]
  rw [hsD, cI_num hlt hM, e255, r2_num]
  by_cases ht : R < 2 ^ 255
  · have e : R / 2 ^ 255 % 2 = 0 := by omega
    rw [e]
    show (bif decide (cmpI (2 * R % 2 ^ 256 + b) M ≥ 0) then _ else _) = _
    by_cases hlt2 : 2 * R + b < M
    · rw [decide_eq_false (by unfold cmpI; rw [if_pos (by omega)]; decide)]
      show k (num (2 * R % 2 ^ 256 + b)) = _
      have : tbN R b M = 2 * R % 2 ^ 256 + b := by unfold tbN; rw [Nat.mod_eq_of_lt hlt2, Nat.mod_eq_of_lt (by omega)]
      rw [this]
    · rw [decide_eq_true (by unfold cmpI; rw [if_neg (by omega)]; split <;> decide)]
      show k (num (2 ^ 256 + (2 * R % 2 ^ 256 + b) - M)) = _
      rw [hsub (by omega)]
  · have e : R / 2 ^ 255 % 2 = 1 := by omega
    rw [e]
    show k (num (2 ^ 256 + (2 * R % 2 ^ 256 + b) - M)) = _
    rw [hsub (by omega)]
def rK (X M k : Nat) : Nat := X / 2 ^ (512 - k) % M
theorem two512 (n : Nat) (h : n = 256 + 256) : (2 : Nat) ^ n = 2 ^ 256 * 2 ^ 256 := by subst h; exact Nat.pow_add 2 256 256
theorem rK_zero {H L M : Nat} (hH : H < 2 ^ 256) (hL : L < 2 ^ 256) : rK (H * 2 ^ 256 + L) M 0 = 0 := by
  unfold rK
  have : H * 2 ^ 256 + L < 2 ^ (512 - 0) := by
    rw [two512 (512 - 0) rfl]
    have : (H + 1) * 2 ^ 256 ≤ 2 ^ 256 * 2 ^ 256 := Nat.mul_le_mul_right _ hH
    rw [Nat.add_mul, Nat.one_mul] at this
    exact Nat.lt_of_lt_of_le (Nat.add_lt_add_left hL _) this
  rw [Nat.div_eq_of_lt this, Nat.zero_mod]
theorem rK_lt {X M k : Nat} (h : 0 < M) : rK X M k < M := Nat.mod_lt _ h
theorem rK_succ {X M k : Nat} (hk : k < 512) : tbN (rK X M k) (bitN X (511 - k)) M = rK X M (k + 1) := by
  unfold tbN rK bitN
  have e : X / 2 ^ (512 - (k + 1)) = 2 * (X / 2 ^ (512 - k)) + X / 2 ^ (511 - k) % 2 := by
    rw [show 512 - k = (511 - k) + 1 from by omega, show 512 - (k + 1) = 511 - k from by omega, Nat.pow_succ, ← Nat.div_div_eq_div_mul]
    omega
  rw [e, Nat.add_mod, Nat.mul_mod, Nat.mod_mod, ← Nat.mul_mod, ← Nat.add_mod]
theorem rK_last (X M : Nat) : rK X M 512 = X % M := by unfold rK; rw [Nat.sub_self, Nat.pow_zero, Nat.div_one]
theorem bitN_hi {H L n : Nat} (hL : L < 2 ^ 256) : bitN (H * 2 ^ 256 + L) (n + 256) = bitN H n := by
  unfold bitN
  rw [Nat.add_comm n 256, Nat.pow_add, ← Nat.div_div_eq_div_mul]
  congr 2
  omega
theorem bitN_lo {H L n : Nat} (hn : n < 256) : bitN (H * 2 ^ 256 + L) n = bitN L n := by
  unfold bitN
  have e : H * 2 ^ 256 = 2 ^ n * (2 * (2 ^ (255 - n) * H)) := by
    have : (2 : Nat) ^ 256 = 2 ^ n * (2 * 2 ^ (255 - n)) := by
      rw [← Nat.pow_succ', ← Nat.pow_add]
      congr 1; omega
    rw [this, Nat.mul_comm H]; simp only [Nat.mul_assoc]
  rw [e, Nat.add_comm, Nat.add_mul_div_left _ _ (Nat.two_pow_pos n)]
  omega
def ModRF : List Value → Option (Bool × Value)
  | [h, l, m] => some (isNum h && isNum l && isNum m && Nat.blt 0 (unnum m), num (modN (unnum h) (unnum l) (unnum m)))
  | _ => none
theorem bit_above {A n : Nat} (h : bitLen A ≤ n) : bitN A n = 0 := by
  unfold bitN
  have h1 := (bitLen_spec A).1
  have : A < 2 ^ n := Nat.lt_of_lt_of_le h1 (Nat.pow_le_pow_right (by decide) h)
  rw [Nat.div_eq_of_lt this]
theorem bit_top {A : Nat} (h : A ≠ 0) : bitN A (bitLen A - 1) = 1 := by
  unfold bitN
  have h1 := (bitLen_spec A).1
  have h0 : bitLen A ≠ 0 := by
    intro h2; rw [h2] at h1; simp at h1; exact h h1
  have h2 : ¬ A < 2 ^ (bitLen A - 1) := by
    intro h3
    have := bitLen_lt h3
    omega
  have e : (2 : Nat) ^ bitLen A = 2 * 2 ^ (bitLen A - 1) := by rw [← Nat.pow_succ']; congr 1; omega
  rw [e] at h1
  generalize 2 ^ (bitLen A - 1) = p at *
  have hd : A / p = 1 := by
    have hp : 0 < p := by omega
    have a1 : A / p < 2 := by rw [Nat.div_lt_iff_lt_mul hp]; exact h1
    have a2 : 1 ≤ A / p := by rw [Nat.le_div_iff_mul_le hp]; omega
    omega
  rw [hd]
def ExT (a b : Value) (i : Int) : Option Value :=
  r2 a b <| r2 a b <| r2 a b <| r2 a b <| r2 a b <| r2 a b <|
  bif eqV (aS a b) (aS a b) then (bif ((aC a b : Nat) : Int) == ((aC a b : Nat) : Int) then (bif eqV (sD a b) (sD a b) then (bif ((sB a b : Nat) : Int) == ((sB a b : Nat) : Int) then
   (bif eqV (mL a b) (mL a b) then (bif eqV (mH a b) (mH a b) then (r2 a b <| r2 a b <| bif cI a b == cI a b then (req (isNum a) <| req (isNum a) <| bif bitI (unnum a) i == bitI (unnum a) i then
     (req (isNum a) <| req (isNum a) <| bif (bitLen (unnum a) : Int) == (bitLen (unnum a) : Int) then tru else fls) else fls) else fls) else fls) else fls) else fls) else fls) else fls) else fls
theorem ExT_eq (A B : Nat) (i : Int) : ExT (num A) (num B) i = tru := by
  unfold ExT
  have e : ∀ X, eqV (num X) (num X) = true := fun X => by rw [eqV_num]; exact decide_eq_true rfl
  have ei : ∀ x : Int, (x == x) = true := fun x => beq_self_eq_true x
  simp only [r2_num, isNum_num, ei, cond_true, req_true]
  unfold aS sD mL mH
  simp only [e, cond_true]
def ModsT (h l m z : Value) : Option Value :=
  r3 h l m <| bif eqV m z then (bif modEv m == 1 then (bif eqV (modR h l m) z then tru else fls) else fls)
    else (bif okB m then (req (isNum h && isNum l && isNum m && Nat.blt 0 (unnum m)) <| bif eqV (modR h l m) (modR h l m) then (r2 (modR h l m) m <| bif decide (cI (modR h l m) m < 0) then tru else fls) else fls) else fls)
theorem ModsT_eq {H L M : Nat} (hM : M < 2 ^ 256) : ModsT (num H) (num L) (num M) (num 0) = tru := by
  unfold ModsT
  rw [r3_num, eqV_num, Nat.mod_eq_of_lt hM]
  by_cases h0 : M = 0
  · subst h0
    rw [decide_eq_true rfl, cond_true]
    have e1 : (modEv (num 0) == 1) = true := rfl
    have e2 : modR (num H) (num L) (num 0) = num 0 := by
      unfold modR modN; rw [unnum_lt (show 0 < 2 ^ 256 by decide), if_pos rfl]
    rw [e1, e2, eqV_num, decide_eq_true rfl]; rfl
  · have e0 : decide (M = 0 % 2 ^ 256) = false := decide_eq_false (by simpa using h0)
    have eok : okB (num M) = true := by unfold okB modEv modE; rw [unnum_lt hM, if_neg h0]; rfl
    have hpos : 0 < M := by omega
    rw [e0, eok, cond_false, cond_true, isNum_num, isNum_num, isNum_num, unnum_lt hM, req_true (by simp [hpos])]
    unfold modR
    rw [unnum_lt hM, eqV_num, decide_eq_true rfl, r2_num]
    have hlt : modN (unnum (num H)) (unnum (num L)) M < M := by unfold modN; rw [if_neg h0]; exact Nat.mod_lt _ hpos
    rw [cI_num (by omega) hM, decide_eq_true (by unfold cmpI; rw [if_pos hlt]; decide)]; rfl
end Go.W
/-
  The engine, part 14: arguments that are arrays of integers, opened; a law's row out of what the engine says.
-/
namespace Go.W
open Go.RowKit (Below)
section
variable {P : Program} {H : Type} {enc : TypeId × Value → H} {W : World} {base b0 : Nat} {sp : Nat → Bool} {held : Bool} {r : Reach} {t e : TypeId} {n : Nat} {k : IntKind} {v : Value} {d : DataW H} {p : List MemPlace}
theorem open_row (ht : P.underlying t = some (.array n e)) (he : P.underlying e = some (.int k)) (hce : P.cellsOf e = 1) (hct : P.cellsOf t = n) (hv : Value.okWide P W r base t v) (h : DataW.Trod enc P W b0 sp held t v d p) :
    ∃ cs : List Int, v = .agg (cs.map fun x => Value.int k x).toArray ∧ cs.length = n ∧ ∀ x ∈ cs, (Lit.int k x).wf = true := by
  have hv' : ∃ cs, v = .agg cs ∧ cs.size = P.cellsOf t ∧ Row.okWide P W r base t cs := by
    unfold Value.okWide at hv; rw [ht] at hv; exact hv
  obtain ⟨cs, rfl, hsz, _⟩ := hv'
  obtain ⟨fuel, hf⟩ := h
  obtain ⟨xs, m, rfl, _, hl, hxl, hget⟩ := DataW.trod_array ht hf
  rw [hce] at hget
  have hcell : ∀ i, i < n → ∃ x, cs.toList[i]? = some (.int k x) ∧ (Lit.int k x).wf = true := by
    intro i hi
    have h1 := hget i hi
    rw [Nat.mul_one] at h1
    have hx : ∃ q, xs[i]? = some q := ⟨xs[i]'(by omega), List.getElem?_eq_getElem _⟩
    obtain ⟨q, hq⟩ := hx
    rw [hq] at h1
    obtain ⟨x, h2, _, h3⟩ := DataW.trod_int he h1
    refine ⟨x, ?_, h3⟩
    have : (List.take 1 (List.drop i (Value.agg cs).cells.toList))[0]? = some (.int k x) := by rw [h2]; rfl
    simpa [Value.cells] using this
  refine ⟨cs.toList.map fun u => (match u with | .int _ x => x | _ => 0), ?_, ?_, ?_⟩
  · congr 1
    apply Array.ext'
    apply List.ext_getElem?
    intro i
    by_cases hi : i < n
    · obtain ⟨x, h1, _⟩ := hcell i hi
      simp [h1]
    · have : cs.toList.length = n := by rw [Array.length_toList, hsz, hct]
      rw [List.getElem?_eq_none (by omega), List.getElem?_eq_none (by simp; rw [Array.length_toList] at this; omega)]
  · simp [hsz, hct]
  · intro x hx
    obtain ⟨u, hu, rfl⟩ := List.mem_map.1 hx
    obtain ⟨i, hi, rfl⟩ := List.mem_iff_getElem.1 hu
    have hin : i < n := by rw [← hct, ← hsz, ← Array.length_toList]; exact hi
    obtain ⟨x, h1, h2⟩ := hcell i hin
    rw [List.getElem?_eq_getElem hi] at h1
    have h1 := Option.some.inj h1
    rw [h1]; exact h2
theorem wf_u64 {x : Int} (h : (Lit.int .u64 x).wf = true) : ∃ n : Nat, n < 18446744073709551616 ∧ x = n := by
  have : 0 ≤ x ∧ x ≤ 18446744073709551615 := by simpa [Lit.wf, IntKind.has, IntKind.min, IntKind.max, IntKind.signed, IntKind.bits] using h
  exact ⟨x.toNat, by omega, by omega⟩
theorem open_num (ht : P.underlying t = some (.array 4 e)) (he : P.underlying e = some (.int .u64)) (hce : P.cellsOf e = 1) (hct : P.cellsOf t = 4) (hv : Value.okWide P W r base t v) (h : DataW.Trod enc P W b0 sp held t v d p) :
    ∃ X, X < 2 ^ 256 ∧ v = num X := by
  obtain ⟨cs, rfl, hl, hw⟩ := open_row ht he hce hct hv h
  match cs, hl, hw with
  | [a, b, c, d], _, hw =>
    obtain ⟨a, ha, rfl⟩ := wf_u64 (hw a (by simp))
    obtain ⟨b, hb, rfl⟩ := wf_u64 (hw b (by simp))
    obtain ⟨c, hc, rfl⟩ := wf_u64 (hw c (by simp))
    obtain ⟨d, hd, rfl⟩ := wf_u64 (hw d (by simp))
    refine ⟨hor a b c d, hor_lt ha hb hc hd, ?_⟩
    have := num_hor ha hb hc hd 0
    rw [Nat.mul_zero, Nat.add_zero] at this
    rw [this]; rfl
end
end Go.W
/-
  Bytes, and back: the way of limb.Of, the law of bytes as a tree over numbers.
-/
namespace Go.W
open Go.RowKit (Below)
section
variable {P : Program} {H : Type} {enc : TypeId × Value → H} {W : World} {base b0 : Nat} {sp : Nat → Bool} {held : Bool} {r : Reach} {t e : TypeId} {v : Value} {d : DataW H} {p : List MemPlace}
theorem open_b32 (ht : P.underlying t = some (.array 32 e)) (he : P.underlying e = some (.int .u8)) (hce : P.cellsOf e = 1) (hct : P.cellsOf t = 32) (hv : Value.okWide P W r base t v) (h : DataW.Trod enc P W b0 sp held t v d p) :
    ∃ X, X < 2 ^ 256 ∧ v = bytesV X := by
  obtain ⟨cs, rfl, hl, hw⟩ := open_row ht he hce hct hv h
  have hb : isB32 (.agg (cs.map fun x => Value.int .u8 x).toArray) = true := by
    refine isB32_of (by simp [hl]) ?_
    rw [List.all_eq_true]
    intro x hx
    obtain ⟨y, hy, rfl⟩ := List.mem_map.1 hx
    have := hw y hy
    have : 0 ≤ y ∧ y ≤ 255 := by simpa [Lit.wf, IntKind.has, IntKind.min, IntKind.max, IntKind.signed, IntKind.bits] using this
    show (decide (0 ≤ y) && Nat.ble y.toNat 255) = true
    rw [Bool.and_eq_true, Nat.ble_eq]
    exact ⟨decide_eq_true this.1, by omega⟩
  obtain ⟨X, hX, h1, _⟩ := isB32_some hb
  exact ⟨X, hX, h1⟩
end
def OfT (a0 a1 a2 a3 a4 a5 a6 a7 b0 b1 b2 b3 b4 b5 b6 b7 c0 c1 c2 c3 c4 c5 c6 c7 d0 d1 d2 d3 d4 d5 d6 d7 : Nat) : Option Value :=
  some (.agg #[.int .u64 (of8 d0 d1 d2 d3 d4 d5 d6 d7), .int .u64 (of8 c0 c1 c2 c3 c4 c5 c6 c7), .int .u64 (of8 b0 b1 b2 b3 b4 b5 b6 b7), .int .u64 (of8 a0 a1 a2 a3 a4 a5 a6 a7)])
def by32 (a0 a1 a2 a3 a4 a5 a6 a7 b0 b1 b2 b3 b4 b5 b6 b7 c0 c1 c2 c3 c4 c5 c6 c7 d0 d1 d2 d3 d4 d5 d6 d7 : Nat) : Value :=
  .agg #[u8 a0, u8 a1, u8 a2, u8 a3, u8 a4, u8 a5, u8 a6, u8 a7, u8 b0, u8 b1, u8 b2, u8 b3, u8 b4, u8 b5, u8 b6, u8 b7, u8 c0, u8 c1, u8 c2, u8 c3, u8 c4, u8 c5, u8 c6, u8 c7, u8 d0, u8 d1, u8 d2, u8 d3, u8 d4, u8 d5, u8 d6, u8 d7]
theorem bytes8 (a : Nat) : bytesL 8 a = [u8 (a / 2 ^ 56 % 256), u8 (a / 2 ^ 48 % 256), u8 (a / 2 ^ 40 % 256), u8 (a / 2 ^ 32 % 256), u8 (a / 2 ^ 24 % 256), u8 (a / 2 ^ 16 % 256), u8 (a / 2 ^ 8 % 256), u8 (a % 256)] := by
  simp only [bytesL, List.nil_append, List.cons_append, Nat.div_div_eq_div_mul]
theorem of8_dig {a : Nat} (h : a < 18446744073709551616) : of8 (a / 2 ^ 56 % 256) (a / 2 ^ 48 % 256) (a / 2 ^ 40 % 256) (a / 2 ^ 32 % 256) (a / 2 ^ 24 % 256) (a / 2 ^ 16 % 256) (a / 2 ^ 8 % 256) (a % 256) = (a : Int) := by
  rw [of8_eq (Nat.mod_lt _ (by decide)) (Nat.mod_lt _ (by decide)) (Nat.mod_lt _ (by decide)) (Nat.mod_lt _ (by decide)) (Nat.mod_lt _ (by decide)) (Nat.mod_lt _ (by decide)) (Nat.mod_lt _ (by decide)) (Nat.mod_lt _ (by decide))]
  congr 1
  omega
theorem bytesV_by32 {a b c d : Nat} (ha : a < 18446744073709551616) (hb : b < 18446744073709551616) (hc : c < 18446744073709551616) : bytesV (hor a b c d) =
    by32 (d / 2 ^ 56 % 256) (d / 2 ^ 48 % 256) (d / 2 ^ 40 % 256) (d / 2 ^ 32 % 256) (d / 2 ^ 24 % 256) (d / 2 ^ 16 % 256) (d / 2 ^ 8 % 256) (d % 256)
      (c / 2 ^ 56 % 256) (c / 2 ^ 48 % 256) (c / 2 ^ 40 % 256) (c / 2 ^ 32 % 256) (c / 2 ^ 24 % 256) (c / 2 ^ 16 % 256) (c / 2 ^ 8 % 256) (c % 256)
      (b / 2 ^ 56 % 256) (b / 2 ^ 48 % 256) (b / 2 ^ 40 % 256) (b / 2 ^ 32 % 256) (b / 2 ^ 24 % 256) (b / 2 ^ 16 % 256) (b / 2 ^ 8 % 256) (b % 256)
      (a / 2 ^ 56 % 256) (a / 2 ^ 48 % 256) (a / 2 ^ 40 % 256) (a / 2 ^ 32 % 256) (a / 2 ^ 24 % 256) (a / 2 ^ 16 % 256) (a / 2 ^ 8 % 256) (a % 256) := by
  unfold bytesV by32
  rw [bytesL_hor ha hb hc, bytes8, bytes8, bytes8, bytes8]
  rfl
theorem iShr_u8 (a n : Nat) (h : n ≤ 8) : iShr .u8 a n = (a / 2 ^ n : Nat) := by
  unfold iShr
  have : min (n : Int).toNat IntKind.u8.bits = n := by show min n 8 = n; omega
  rw [this, Int.fdiv_eq_ediv_of_nonneg _ (Int.pow_nonneg (by decide))]
  have e : ((2 : Int) ^ n) = ((2 ^ n : Nat) : Int) := by simp
  rw [e, ← Int.natCast_ediv]
theorem iAnd_u8 {a b : Nat} (ha : a < 256) (hb : b < 256) : iAnd .u8 a b = (a &&& b : Nat) := by
  unfold iAnd
  rw [wrap_u8]
  have e1 : (BitVec.ofInt IntKind.u8.bits (a : Int) &&& BitVec.ofInt IntKind.u8.bits (b : Int)).toNat = a &&& b := by
    show (BitVec.ofInt 8 (a : Int) &&& BitVec.ofInt 8 (b : Int)).toNat = a &&& b
    rw [BitVec.toNat_and, BitVec.ofInt_natCast, BitVec.ofInt_natCast, BitVec.toNat_ofNat, BitVec.toNat_ofNat, Nat.mod_eq_of_lt (by simpa using ha), Nat.mod_eq_of_lt (by simpa using hb)]
  rw [e1]
  have : a &&& b ≤ a := Nat.and_le_left
  omega
theorem u8_bit {a r : Nat} (ha : a < 256) (hr : r < 8) : IntKind.i64.wrap (iAnd .u8 (iShr .u8 (a : Int) (r : Int)) 1) = ((a / 2 ^ r % 2 : Nat) : Int) := by
  rw [iShr_u8 a r (by omega)]
  have h1 : a / 2 ^ r < 256 := Nat.lt_of_le_of_lt (Nat.div_le_self _ _) ha
  have := iAnd_u8 (a := a / 2 ^ r) (b := 1) h1 (by omega)
  rw [show ((1 : Nat) : Int) = 1 from rfl] at this
  rw [this, Nat.and_one_is_mod, wrap_i64 (by omega)]
theorem byte_bit (X q r : Nat) (hr : r < 8) : X / 256 ^ q % 256 / 2 ^ r % 2 = bitN X (8 * q + r) := by
  unfold bitN
  have e : (256 : Nat) ^ q = 2 ^ (8 * q) := by rw [Nat.pow_mul]
  rw [Nat.pow_add, ← Nat.div_div_eq_div_mul, e]
  generalize X / 2 ^ (8 * q) = Y
  have e2 : (256 : Nat) = 2 ^ r * (2 * 2 ^ (7 - r)) := by
    rw [show (256 : Nat) = 2 ^ 8 from rfl, ← Nat.pow_succ', ← Nat.pow_add]
    congr 1; omega
  rw [e2, Nat.mod_mul_right_div_self, Nat.mod_mul_right_mod]
theorem bitLen_step (X i : Nat) : bitLen (X % 2 ^ (i + 1)) = if bitN X i = 1 then i + 1 else bitLen (X % 2 ^ i) := by
  unfold bitN
  have h := Nat.mod_mul (a := 2 ^ i) (b := 2) (x := X)
  rw [Nat.pow_succ, h]
  have hl := Nat.mod_lt X (Nat.two_pow_pos i)
  rcases Nat.mod_two_eq_zero_or_one (X / 2 ^ i) with h0 | h1
  · rw [h0, if_neg (by decide), Nat.mul_zero, Nat.add_zero]
  · rw [h1, if_pos rfl, bitLen_hi hl (by decide)]
    rfl
def BytesEnd (n : Value) (len : Int) : Option Value :=
  req (isNum n) <| bif (bitLen (unnum n) : Int) == len then (req (isNum n) <| bif bitI (unnum n) (-1) == 0 then (req (isNum n) <| bif bitI (unnum n) 256 == 0 then tru else fls) else fls) else fls
theorem BytesEnd_eq {X : Nat} (hX : X < 2 ^ 256) : BytesEnd (num X) (bitLen X : Int) = tru := by
  unfold BytesEnd
  rw [isNum_num, req_true rfl, req_true rfl, req_true rfl, unnum_lt hX, beq_self_eq_true]
  rfl
def BytesT2 (b n : Value) (k : Option Value) : Option Value :=
  req (isB32 b) <| req (isNum n) <| bif !(eqV (bytesV (unnum n)) b) then fls else req (isNum n) <| req (isB32 (bytesV (unnum n))) <| bif !(eqV (num (unbytes (bytesV (unnum n)))) n) then fls else k
theorem eqL_refl : ∀ (l : List Value), eqL l l = true
  | [] => rfl
  | v :: l => by
    have ih := eqL_refl l
    cases v <;> simp_all [eqL]
    rw [beq_toListBytes]; exact beq_self_eq_true _
theorem BytesT2_eq {X : Nat} (hX : X < 2 ^ 256) (k : Option Value) : BytesT2 (bytesV X) (num X) k = k := by
  unfold BytesT2
  rw [isB32_bytesV, isNum_num, req_true rfl, req_true rfl, unnum_lt hX, unbytes_bytesV, Nat.mod_eq_of_lt hX, isB32_bytesV, req_true rfl, req_true rfl]
  unfold eqV
  rw [eqL_refl, eqL_refl]; rfl
end Go.W
/-
  Powers of two: the law as a tree over numbers.
-/
namespace Go.W
theorem bitN_add {q k L n : Nat} (hn : n < k) : bitN (q * 2 ^ k + L) n = bitN L n := by
  unfold bitN
  have e : q * 2 ^ k = 2 ^ n * (2 * (2 ^ (k - 1 - n) * q)) := by
    have : (2 : Nat) ^ k = 2 ^ n * (2 * 2 ^ (k - 1 - n)) := by
      rw [← Nat.pow_succ', ← Nat.pow_add]
      congr 1; omega
    rw [this, Nat.mul_comm q]; simp only [Nat.mul_assoc]
  rw [e, Nat.add_comm, Nat.add_mul_div_left _ _ (Nat.two_pow_pos n)]
  omega
theorem bitN_mod_lt {A k n : Nat} (hn : n < k) : bitN (A % 2 ^ k) n = bitN A n := by
  have h := bitN_add (q := A / 2 ^ k) (L := A % 2 ^ k) hn
  rw [Nat.mul_comm, Nat.div_add_mod] at h
  exact h.symm
theorem bitN_small {A n : Nat} (h : A < 2 ^ n) : bitN A n = 0 := by unfold bitN; rw [Nat.div_eq_of_lt h]
theorem bitN_mod_ge {A k n : Nat} (hn : k ≤ n) : bitN (A % 2 ^ k) n = 0 :=
  bitN_small (Nat.lt_of_lt_of_le (Nat.mod_lt _ (Nat.two_pow_pos k)) (Nat.pow_le_pow_right (by decide) hn))
theorem bitN_shl_lt {A k n : Nat} (hn : n < k) : bitN (A * 2 ^ k) n = 0 := by
  have h := bitN_add (q := A) (L := 0) hn
  rw [Nat.add_zero] at h
  rw [h]; unfold bitN; simp
theorem bitN_shl_ge {A k n : Nat} (hn : k ≤ n) : bitN (A * 2 ^ k) n = bitN A (n - k) := by
  unfold bitN
  have e : (2 : Nat) ^ n = 2 ^ k * 2 ^ (n - k) := by rw [← Nat.pow_add]; congr 1; omega
  rw [e, Nat.mul_comm A, Nat.mul_div_mul_left _ _ (Nat.two_pow_pos k)]
theorem bitN_div {X k n : Nat} : bitN (X / 2 ^ k) n = bitN X (n + k) := by
  unfold bitN
  rw [Nat.div_div_eq_div_mul, ← Nat.pow_add, Nat.add_comm n k]
def pwK (k : Int) : Int := IntKind.i64.wrap ((IntKind.u64.wrap k).tmod 256)
def pwI (k : Int) : Int := IntKind.i64.wrap (k.tdiv 64)
def pwR (k : Int) : Int := IntKind.u64.wrap (k.tmod 64)
def pwC (k : Int) : List Value := ([u64 0, u64 0, u64 0, u64 0] : List Value).set (0 + (pwI k).toNat * 1) (.int .u64 (iShl .u64 1 (pwR k)))
theorem pwK_nat (k : Int) : ∃ n : Nat, n < 256 ∧ pwK k = (n : Int) := by
  unfold pwK
  rw [wrap_u64]
  have h0 : 0 ≤ k % 18446744073709551616 := by omega
  rw [Int.tmod_eq_emod_of_nonneg h0, wrap_i64 (by omega)]
  exact ⟨(k % 18446744073709551616 % 256).toNat, by omega, by omega⟩
theorem pw_parts {n : Nat} (hn : n < 256) : pwI (n : Int) = ((n / 64 : Nat) : Int) ∧ pwR (n : Int) = ((n % 64 : Nat) : Int) := by
  unfold pwI pwR
  have e1 : (n : Int).tdiv 64 = ((n / 64 : Nat) : Int) := by rw [Int.tdiv_eq_ediv_of_nonneg (by omega)]; omega
  have e2 : (n : Int).tmod 64 = ((n % 64 : Nat) : Int) := by rw [Int.tmod_eq_emod_of_nonneg (by omega)]; omega
  rw [e1, e2, wrap_i64 (by omega), wrap_u64]
  exact ⟨rfl, by omega⟩
theorem shl_one {r : Nat} (hr : r < 64) : iShl .u64 1 (r : Int) = ((2 ^ r : Nat) : Int) := by
  unfold iShl
  have : min (r : Int).toNat IntKind.u64.bits = r := by show min r 64 = r; omega
  have hlt : (2 : Nat) ^ r < 18446744073709551616 := by rw [show (18446744073709551616 : Nat) = 2 ^ 64 from rfl]; exact Nat.pow_lt_pow_right (by decide) hr
  rw [this, wrap_u64, Int.one_mul]
  have e : ((2 : Int) ^ r) = ((2 ^ r : Nat) : Int) := by simp
  rw [e]
  exact Int.emod_eq_of_lt (Int.natCast_nonneg _) (Int.ofNat_lt.2 hlt)
def cells4 (X : Nat) : List Value := [u64 (dig X 0), u64 (dig X 1), u64 (dig X 2), u64 (dig X 3)]
theorem numd_cells {a b c d X : Nat} (h : num X = numd a b c d) : [u64 a, u64 b, u64 c, u64 d] = cells4 X := by
  have := congrArg (fun v : Value => v.cells.toList) h
  exact this.symm
theorem pwC_eq {n : Nat} (hn : n < 256) : pwC (n : Int) = cells4 (2 ^ n) := by
  obtain ⟨e1, e2⟩ := pw_parts hn
  have hr : n % 64 < 64 := Nat.mod_lt _ (by decide)
  unfold pwC
  rw [e1, e2, shl_one hr, Int.toNat_natCast, Nat.zero_add, Nat.mul_one]
  have hlt : (2 : Nat) ^ (n % 64) < 18446744073709551616 := by rw [show (18446744073709551616 : Nat) = 2 ^ 64 from rfl]; exact Nat.pow_lt_pow_right (by decide) hr
  have z : (0 : Nat) < 18446744073709551616 := by decide
  have hp : (2 : Nat) ^ n = 2 ^ (64 * (n / 64)) * 2 ^ (n % 64) := by rw [← Nat.pow_add, Nat.div_add_mod]
  have hq : n / 64 < 4 := by omega
  rw [hp]
  generalize 2 ^ (n % 64) = p at *
  generalize n / 64 = q at *
  match q, hq with
  | 0, _ =>
    have := num_hor hlt z z z 0
    rw [show hor p 0 0 (0 + 18446744073709551616 * 0) = 2 ^ (64 * 0) * p from by unfold hor; omega] at this
    exact numd_cells this
  | 1, _ =>
    have := num_hor z hlt z z 0
    rw [show hor 0 p 0 (0 + 18446744073709551616 * 0) = 2 ^ (64 * 1) * p from by unfold hor; omega] at this
    exact numd_cells this
  | 2, _ =>
    have := num_hor z z hlt z 0
    rw [show hor 0 0 p (0 + 18446744073709551616 * 0) = 2 ^ (64 * 2) * p from by unfold hor; omega] at this
    exact numd_cells this
  | 3, _ =>
    have := num_hor z z z hlt 0
    rw [show hor 0 0 0 (p + 18446744073709551616 * 0) = 2 ^ (64 * 3) * p from by unfold hor; omega] at this
    exact numd_cells this
def pwBit {α : Type} (lo hi : Value) (i : Int) (K : Int → Option α) : Option α :=
  req (isNum lo) <| bif decide (i ≥ 256) then (req (isNum hi) <| K (bitI (unnum hi) (IntKind.i64.wrap (i - 256)))) else K (bitI (unnum lo) i)
def pwWant {α : Type} (a : Value) (k i : Int) (K : Int → Option α) : Option α := req (isNum a) <| bif decide (i ≥ k) then K 0 else K (bitI (unnum a) i)
def pwRound {α : Type} (a lo hi r : Value) (k i : Int) (ret next out : Option α) : Option α :=
  bif decide (i < 512) then pwBit lo hi i (fun bit => req (isNum a) <| bif bit != bitI (unnum a) (IntKind.i64.wrap (i - k)) then ret else
    pwWant a k i (fun want => bif decide (i < 256) then (req (isNum r) <| bif bitI (unnum r) i != want then ret else next) else next))
  else out
theorem pwRound_eq {α : Type} {A n i : Nat} (hA : A < 2 ^ 256) (hn : n < 256) (hi : i < 512) (ret next out : Option α) :
    pwRound (num A) (num (A * 2 ^ n)) (num (A * 2 ^ n / 2 ^ 256)) (num (A % 2 ^ n)) (n : Int) (i : Int) ret next out = next := by
  have hbit : ∀ K : Int → Option α, pwBit (num (A * 2 ^ n)) (num (A * 2 ^ n / 2 ^ 256)) (i : Int) K = K ((bitN (A * 2 ^ n) i : Nat) : Int) := by
    intro K
    unfold pwBit
    rw [isNum_num, isNum_num, req_true rfl, req_true rfl]
    by_cases h : 256 ≤ i
    · rw [decide_eq_true (by omega), cond_true, show ((i : Int) - 256) = ((i - 256 : Nat) : Int) from by omega, wrap_i64 (by omega), bitI_nat (by omega), unnum_num, bitN_mod_lt (by omega), bitN_div, Nat.sub_add_cancel h]
    · rw [decide_eq_false (by omega), cond_false, bitI_nat (by omega), unnum_num, bitN_mod_lt (by omega)]
  unfold pwRound
  rw [decide_eq_true (by omega), cond_true, hbit, isNum_num, req_true rfl, unnum_lt hA, wrap_i64 (by omega)]
  have e1 : ((bitN (A * 2 ^ n) i : Nat) : Int) = bitI A ((i : Int) - (n : Int)) := by
    by_cases h : n ≤ i
    · rw [bitN_shl_ge h, show ((i : Int) - (n : Int)) = ((i - n : Nat) : Int) from by omega]
      by_cases h2 : i - n ≤ 255
      · rw [bitI_nat h2]
      · rw [bitN_small (Nat.lt_of_lt_of_le hA (Nat.pow_le_pow_right (by decide) (by omega)))]
        unfold bitI; rw [if_neg (by omega)]; rfl
    · rw [bitN_shl_lt (by omega)]
      unfold bitI; rw [if_neg (by omega)]; rfl
  have hne : ∀ x : Int, (x != x) = false := fun x => bne_self_eq_false x
  rw [e1, hne, cond_false]
  have hP : A % 2 ^ n < 2 ^ 256 := Nat.lt_of_le_of_lt (Nat.mod_le _ _) hA
  unfold pwWant
  have hrt : ∀ k : Option α, req true k = k := fun _ => rfl
  simp only [isNum_num, hrt, unnum_lt hA, unnum_lt hP]
  by_cases h256 : i < 256
  · rw [decide_eq_true (show (i : Int) < 256 by omega), cond_true, cond_true, bitI_nat (by omega), bitI_nat (by omega)]
    by_cases h : n ≤ i
    · rw [decide_eq_true (by omega), cond_true, bitN_mod_ge h]; rfl
    · rw [decide_eq_false (by omega), cond_false, bitN_mod_lt (by omega), hne]; rfl
  · rw [decide_eq_false (show ¬ (i : Int) < 256 by omega), cond_false, cond_false]
    cases decide ((i : Int) ≥ (n : Int)) <;> rfl
theorem bitLen_two (n : Nat) : bitLen (2 ^ n) = n + 1 := by
  have := bitLen_hi (a := 0) (q := 1) (k := n) (Nat.two_pow_pos n) (by decide)
  rw [Nat.zero_add, Nat.mul_one] at this
  rw [this]; rfl
def PowEnd (p : Value) (k : Int) : Option Value := req (isNum p) <| bif (bitLen (unnum p) : Int) == IntKind.i64.wrap (k + 1) then tru else fls
theorem PowEnd_eq {n : Nat} (hn : n < 256) : PowEnd (num (2 ^ n)) (n : Int) = tru := by
  have hP : (2 : Nat) ^ n < 2 ^ 256 := Nat.pow_lt_pow_right (by decide) hn
  unfold PowEnd
  rw [isNum_num, req_true rfl, unnum_lt hP, bitLen_two, wrap_i64 (by omega), show (((n + 1 : Nat) : Int) == (n : Int) + 1) = true from beq_iff_eq.2 (by omega)]; rfl
def PowT (a p z : Value) (k : Option Value) : Option Value := r2 a p <| r3 z a p <| bif modEv p != 0 then fls else k
theorem PowT_eq {A P : Nat} (hP : P < 2 ^ 256) (h0 : P ≠ 0) (k : Option Value) : PowT (num A) (num P) (num 0) k = k := by
  unfold PowT
  rw [r2_num, r3_num]
  have : (modEv (num P) != 0) = false := by unfold modEv modE; rw [unnum_lt hP, if_neg h0]; rfl
  rw [this]; rfl
end Go.W
