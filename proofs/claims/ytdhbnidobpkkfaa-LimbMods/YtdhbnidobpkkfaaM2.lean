/-
  What is told of the functions of package limb: their answers as numbers, and the ways of their texts, digit by digit.
-/
import Derived.Test.YtdhbnidobpkkfaaM1
import Derived.Laws.MathBits
namespace Go.W

theorem arg2 {f : Value → Value → Value} {args : List Value} {v : Value} (h : (match args with | [x, y] => some (isNum x && isNum y, f x y) | _ => none) = some (true, v)) :
    ∃ X Y, X < 2 ^ 256 ∧ Y < 2 ^ 256 ∧ args = [num X, num Y] ∧ v = f (num X) (num Y) := by
  split at h
  · rename_i x y
    simp only [Option.some.injEq, Prod.mk.injEq, Bool.and_eq_true] at h
    obtain ⟨X, hX, rfl⟩ := isNum_some h.1.1
    obtain ⟨Y, hY, rfl⟩ := isNum_some h.1.2
    exact ⟨X, Y, hX, hY, rfl, h.2.symm⟩
  · simp at h

theorem arg3 {f : Value → Value → Value → Value} {args : List Value} {v : Value} (h : (match args with | [x, y, z] => some (isNum x && isNum y && isNum z, f x y z) | _ => none) = some (true, v)) :
    ∃ X Y Z, X < 2 ^ 256 ∧ Y < 2 ^ 256 ∧ Z < 2 ^ 256 ∧ args = [num X, num Y, num Z] ∧ v = f (num X) (num Y) (num Z) := by
  split at h
  · rename_i x y z
    simp only [Option.some.injEq, Prod.mk.injEq, Bool.and_eq_true] at h
    obtain ⟨X, hX, rfl⟩ := isNum_some h.1.1.1
    obtain ⟨Y, hY, rfl⟩ := isNum_some h.1.1.2
    obtain ⟨Z, hZ, rfl⟩ := isNum_some h.1.2
    exact ⟨X, Y, Z, hX, hY, hZ, rfl, h.2.symm⟩
  · simp at h

theorem arg1 {f : Value → Value} {args : List Value} {v : Value} (h : (match args with | [x] => some (isNum x, f x) | _ => none) = some (true, v)) :
    ∃ X, X < 2 ^ 256 ∧ args = [num X] ∧ v = f (num X) := by
  split at h
  · rename_i x
    simp only [Option.some.injEq, Prod.mk.injEq] at h
    obtain ⟨X, hX, rfl⟩ := isNum_some h.1
    exact ⟨X, hX, rfl, h.2.symm⟩
  · simp at h

theorem unnum_lt {X : Nat} (h : X < 2 ^ 256) : unnum (num X) = X := by rw [unnum_num, Nat.mod_eq_of_lt h]

theorem ble_true {a b : Nat} (h : a ≤ b) : Nat.ble a b = true := by rw [Nat.ble_eq]; exact h

/-! ## Add, Sub -/

def addV (X Y : Nat) : Value := .tuple #[num (X + Y), u64 ((X + Y) / 2 ^ 256)]
def AddF : List Value → Option (Bool × Value)
  | [x, y] => some (isNum x && isNum y, addV (unnum x) (unnum y))
  | _ => none

def AddT (x0 x1 x2 x3 y0 y1 y2 y3 : Nat) : Option Value :=
  req (Nat.ble 0 1) <| req (Nat.ble (c64 x0 y0 0) 1) <| req (Nat.ble (c64 x1 y1 (c64 x0 y0 0)) 1) <| req (Nat.ble (c64 x2 y2 (c64 x1 y1 (c64 x0 y0 0))) 1) <|
    some (.tuple #[numd (s64 x0 y0 0) (s64 x1 y1 (c64 x0 y0 0)) (s64 x2 y2 (c64 x1 y1 (c64 x0 y0 0))) (s64 x3 y3 (c64 x2 y2 (c64 x1 y1 (c64 x0 y0 0)))), u64 (c64 x3 y3 (c64 x2 y2 (c64 x1 y1 (c64 x0 y0 0))))])

theorem sc64 (x y c : Nat) : s64 x y c + 18446744073709551616 * c64 x y c = x + y + c := Nat.mod_add_div _ _
theorem s64_lt (x y c : Nat) : s64 x y c < 18446744073709551616 := Nat.mod_lt _ (by decide)
theorem c64_le {x y c : Nat} (hx : x < 18446744073709551616) (hy : y < 18446744073709551616) (hc : c ≤ 1) : c64 x y c ≤ 1 := by unfold c64; omega

theorem AddT_eq {x0 x1 x2 x3 y0 y1 y2 y3 : Nat} (hx0 : x0 < 18446744073709551616) (hx1 : x1 < 18446744073709551616) (hx2 : x2 < 18446744073709551616) (hx3 : x3 < 18446744073709551616)
    (hy0 : y0 < 18446744073709551616) (hy1 : y1 < 18446744073709551616) (hy2 : y2 < 18446744073709551616) (hy3 : y3 < 18446744073709551616) :
    AddT x0 x1 x2 x3 y0 y1 y2 y3 = some (addV (hor x0 x1 x2 x3) (hor y0 y1 y2 y3)) := by
  unfold AddT
  have k0 := c64_le hx0 hy0 (Nat.zero_le 1)
  have k1 := c64_le hx1 hy1 k0
  have k2 := c64_le hx2 hy2 k1
  have k3 := c64_le hx3 hy3 k2
  have e0 := sc64 x0 y0 0
  have e1 := sc64 x1 y1 (c64 x0 y0 0)
  have e2 := sc64 x2 y2 (c64 x1 y1 (c64 x0 y0 0))
  have e3 := sc64 x3 y3 (c64 x2 y2 (c64 x1 y1 (c64 x0 y0 0)))
  have l0 := s64_lt x0 y0 0
  have l1 := s64_lt x1 y1 (c64 x0 y0 0)
  have l2 := s64_lt x2 y2 (c64 x1 y1 (c64 x0 y0 0))
  have l3 := s64_lt x3 y3 (c64 x2 y2 (c64 x1 y1 (c64 x0 y0 0)))
  rw [req_true (ble_true (by omega)), req_true (ble_true k0), req_true (ble_true k1), req_true (ble_true k2)]
  generalize s64 x3 y3 (c64 x2 y2 (c64 x1 y1 (c64 x0 y0 0))) = s3 at *
  generalize c64 x3 y3 (c64 x2 y2 (c64 x1 y1 (c64 x0 y0 0))) = c3 at *
  generalize s64 x2 y2 (c64 x1 y1 (c64 x0 y0 0)) = s2 at *
  generalize c64 x2 y2 (c64 x1 y1 (c64 x0 y0 0)) = c2 at *
  generalize s64 x1 y1 (c64 x0 y0 0) = s1 at *
  generalize c64 x1 y1 (c64 x0 y0 0) = c1 at *
  generalize s64 x0 y0 0 = s0 at *
  generalize c64 x0 y0 0 = c0 at *
  have hs : hor x0 x1 x2 x3 + hor y0 y1 y2 y3 = hor s0 s1 s2 (s3 + 18446744073709551616 * c3) := by unfold hor; omega
  have hq : (hor x0 x1 x2 x3 + hor y0 y1 y2 y3) / 2 ^ 256 = c3 := by
    rw [hs]; unfold hor; omega
  unfold addV
  rw [hq, hs, num_hor l0 l1 l2 l3]

def subV (X Y : Nat) : Value := .tuple #[num (2 ^ 256 + X - Y), u64 (if X < Y then 1 else 0)]
def SubF : List Value → Option (Bool × Value)
  | [x, y] => some (isNum x && isNum y, subV (unnum x) (unnum y))
  | _ => none

def SubT (x0 x1 x2 x3 y0 y1 y2 y3 : Nat) : Option Value :=
  req (Nat.ble 0 1) <| req (Nat.ble (b64 x0 y0 0) 1) <| req (Nat.ble (b64 x1 y1 (b64 x0 y0 0)) 1) <| req (Nat.ble (b64 x2 y2 (b64 x1 y1 (b64 x0 y0 0))) 1) <|
    some (.tuple #[numd (d64 x0 y0 0) (d64 x1 y1 (b64 x0 y0 0)) (d64 x2 y2 (b64 x1 y1 (b64 x0 y0 0))) (d64 x3 y3 (b64 x2 y2 (b64 x1 y1 (b64 x0 y0 0)))), u64 (b64 x3 y3 (b64 x2 y2 (b64 x1 y1 (b64 x0 y0 0))))])

theorem db64 {x y b : Nat} (hx : x < 18446744073709551616) (hy : y < 18446744073709551616) (hb : b ≤ 1) : d64 x y b + y + b = x + 18446744073709551616 * b64 x y b ∧ d64 x y b < 18446744073709551616 ∧ b64 x y b ≤ 1 := by
  unfold d64 b64
  split <;> omega

theorem SubT_eq {x0 x1 x2 x3 y0 y1 y2 y3 : Nat} (hx0 : x0 < 18446744073709551616) (hx1 : x1 < 18446744073709551616) (hx2 : x2 < 18446744073709551616) (hx3 : x3 < 18446744073709551616)
    (hy0 : y0 < 18446744073709551616) (hy1 : y1 < 18446744073709551616) (hy2 : y2 < 18446744073709551616) (hy3 : y3 < 18446744073709551616) :
    SubT x0 x1 x2 x3 y0 y1 y2 y3 = some (subV (hor x0 x1 x2 x3) (hor y0 y1 y2 y3)) := by
  unfold SubT
  obtain ⟨e0, l0, k0⟩ := db64 hx0 hy0 (Nat.zero_le 1)
  obtain ⟨e1, l1, k1⟩ := db64 hx1 hy1 k0
  obtain ⟨e2, l2, k2⟩ := db64 hx2 hy2 k1
  obtain ⟨e3, l3, k3⟩ := db64 hx3 hy3 k2
  rw [req_true (ble_true (by omega)), req_true (ble_true k0), req_true (ble_true k1), req_true (ble_true k2)]
  generalize d64 x3 y3 (b64 x2 y2 (b64 x1 y1 (b64 x0 y0 0))) = s3 at *
  generalize b64 x3 y3 (b64 x2 y2 (b64 x1 y1 (b64 x0 y0 0))) = c3 at *
  generalize d64 x2 y2 (b64 x1 y1 (b64 x0 y0 0)) = s2 at *
  generalize b64 x2 y2 (b64 x1 y1 (b64 x0 y0 0)) = c2 at *
  generalize d64 x1 y1 (b64 x0 y0 0) = s1 at *
  generalize b64 x1 y1 (b64 x0 y0 0) = c1 at *
  generalize d64 x0 y0 0 = s0 at *
  generalize b64 x0 y0 0 = c0 at *
  have hX := hor_lt hx0 hx1 hx2 hx3
  have hY := hor_lt hy0 hy1 hy2 hy3
  have hS := hor_lt l0 l1 l2 l3
  have hs : hor s0 s1 s2 s3 + hor y0 y1 y2 y3 = hor x0 x1 x2 x3 + 2 ^ 256 * c3 := by unfold hor; omega
  have hn := num_hor l0 l1 l2 l3 0
  rw [Nat.mul_zero, Nat.add_zero] at hn
  unfold subV
  by_cases hlt : hor x0 x1 x2 x3 < hor y0 y1 y2 y3
  · have : c3 = 1 := by omega
    subst this
    rw [if_pos hlt, show 2 ^ 256 + hor x0 x1 x2 x3 - hor y0 y1 y2 y3 = hor s0 s1 s2 s3 from by omega, hn]
  · have : c3 = 0 := by omega
    subst this
    rw [if_neg hlt, show 2 ^ 256 + hor x0 x1 x2 x3 - hor y0 y1 y2 y3 = hor s0 s1 s2 s3 + 2 ^ 256 * 1 from by omega, num_add_mul, hn]

/-! ## Cmp -/

def cmpI (X Y : Nat) : Int := if X < Y then -1 else if Y < X then 1 else 0
def CmpF : List Value → Option (Bool × Value)
  | [x, y] => some (isNum x && isNum y, i64 (cmpI (unnum x) (unnum y)))
  | _ => none

def cmpD (a b : Nat) (k : Option Value) : Option Value := bif decide ((a : Int) < (b : Int)) then some (i64 (-1)) else bif decide ((a : Int) > (b : Int)) then some (i64 1) else k
def CmpT (x0 x1 x2 x3 y0 y1 y2 y3 : Nat) : Option Value := cmpD x3 y3 (cmpD x2 y2 (cmpD x1 y1 (cmpD x0 y0 (some (i64 0)))))


theorem cmpD_lt {a b : Nat} (h : a < b) (k : Option Value) : cmpD a b k = some (i64 (-1)) := by
  unfold cmpD; rw [decide_eq_true (by omega)]; rfl
theorem cmpD_gt {a b : Nat} (h : b < a) (k : Option Value) : cmpD a b k = some (i64 1) := by
  unfold cmpD; rw [decide_eq_false (by omega), decide_eq_true (by omega)]; rfl
theorem cmpD_eq' (a : Nat) (k : Option Value) : cmpD a a k = k := by
  unfold cmpD; rw [decide_eq_false (by omega : ¬ ((a : Int) < (a : Int)))]; rfl

theorem CmpT_eq {x0 x1 x2 x3 y0 y1 y2 y3 : Nat} (hx0 : x0 < 18446744073709551616) (hx1 : x1 < 18446744073709551616) (hx2 : x2 < 18446744073709551616)
    (hy0 : y0 < 18446744073709551616) (hy1 : y1 < 18446744073709551616) (hy2 : y2 < 18446744073709551616) :
    CmpT x0 x1 x2 x3 y0 y1 y2 y3 = some (i64 (cmpI (hor x0 x1 x2 x3) (hor y0 y1 y2 y3))) := by
  unfold CmpT cmpI hor
  rcases Nat.lt_trichotomy x3 y3 with h | rfl | h
  · rw [cmpD_lt h, if_pos (by omega)]
  · rw [cmpD_eq']
    rcases Nat.lt_trichotomy x2 y2 with h | rfl | h
    · rw [cmpD_lt h, if_pos (by omega)]
    · rw [cmpD_eq']
      rcases Nat.lt_trichotomy x1 y1 with h | rfl | h
      · rw [cmpD_lt h, if_pos (by omega)]
      · rw [cmpD_eq']
        rcases Nat.lt_trichotomy x0 y0 with h | rfl | h
        · rw [cmpD_lt h, if_pos (by omega)]
        · rw [cmpD_eq', if_neg (by omega), if_neg (by omega)]
        · rw [cmpD_gt h, if_neg (by omega), if_pos (by omega)]
      · rw [cmpD_gt h, if_neg (by omega), if_pos (by omega)]
    · rw [cmpD_gt h, if_neg (by omega), if_pos (by omega)]
  · rw [cmpD_gt h, if_neg (by omega), if_pos (by omega)]

end Go.W
