/-
  Products of numbers, row by row, where each row is handed on in five digits.
-/
import Derived.Test.YtdhbnidobpkkfaaM4
namespace Go.W

def r5N (s0 s1 s2 s3 d : Nat) (b : Value) : Nat := hor s0 s1 s2 s3 + d * unnum b
def r5V (T : Nat) : Value := .tuple #[u64 (dig T 0), u64 (dig T 1), u64 (dig T 2), u64 (dig T 3), u64 (dig T 4)]
def r5P (s0 s1 s2 s3 d b : Value) : Bool := isU64 s0 && isU64 s1 && isU64 s2 && isU64 s3 && isU64 d && isNum b
def row5F : List Value → Option (Bool × Value)
  | [s0, s1, s2, s3, d, b] => some (r5P s0 s1 s2 s3 d b, r5V (r5N (intN s0) (intN s1) (intN s2) (intN s3) (intN d) b))
  | _ => none
def row5T (s0 s1 s2 s3 d b0 b1 b2 b3 : Nat) : Option Value :=
  rowT d b0 b1 b2 b3 s0 s1 s2 s3 fun l0 l1 l2 l3 c => some (.tuple #[u64 l0, u64 l1, u64 l2, u64 l3, u64 c])

theorem row5T_eq {d b0 b1 b2 b3 s0 s1 s2 s3 : Nat} (hd : d < 18446744073709551616) (h0 : b0 < 18446744073709551616) (h1 : b1 < 18446744073709551616) (h2 : b2 < 18446744073709551616) (h3 : b3 < 18446744073709551616)
    (k0 : s0 < 18446744073709551616) (k1 : s1 < 18446744073709551616) (k2 : s2 < 18446744073709551616) (k3 : s3 < 18446744073709551616) :
    row5T s0 s1 s2 s3 d b0 b1 b2 b3 = some (r5V (r5N s0 s1 s2 s3 d (numd b0 b1 b2 b3))) := by
  obtain ⟨l0, l1, l2, l3, c, m0, m1, m2, m3, m4, e, f⟩ := rowT_eq hd h0 h1 h2 h3 k0 k1 k2 k3 fun l0 l1 l2 l3 c => some (.tuple #[u64 l0, u64 l1, u64 l2, u64 l3, u64 c])
  have hf : r5N s0 s1 s2 s3 d (numd b0 b1 b2 b3) = l0 + 18446744073709551616 * (l1 + 18446744073709551616 * (l2 + 18446744073709551616 * (l3 + 18446744073709551616 * c))) := by
    unfold r5N; rw [unnum_numd, ← f]; rfl
  refine e.trans ?_
  unfold r5V
  rw [hf, (dig_cons m0).1, (dig_cons m0).2, (dig_cons m0).2, (dig_cons m0).2, (dig_cons m0).2, (dig_cons m1).1, (dig_cons m1).2, (dig_cons m1).2, (dig_cons m1).2,
    (dig_cons m2).1, (dig_cons m2).2, (dig_cons m2).2, (dig_cons m3).1, (dig_cons m3).2]
  have : dig c 0 = c := Nat.mod_eq_of_lt m4
  rw [this]

theorem r5P_some {s0 s1 s2 s3 d b : Value} (h : r5P s0 s1 s2 s3 d b = true) : ∃ x0 x1 x2 x3 y Y, x0 < 18446744073709551616 ∧ x1 < 18446744073709551616 ∧ x2 < 18446744073709551616 ∧ x3 < 18446744073709551616 ∧ y < 18446744073709551616 ∧ Y < 2 ^ 256 ∧
    s0 = u64 x0 ∧ s1 = u64 x1 ∧ s2 = u64 x2 ∧ s3 = u64 x3 ∧ d = u64 y ∧ b = num Y := by
  simp only [r5P, Bool.and_eq_true] at h
  obtain ⟨⟨⟨⟨⟨h0, h1⟩, h2⟩, h3⟩, h4⟩, h5⟩ := h
  obtain ⟨x0, l0, rfl⟩ := isU64_some h0
  obtain ⟨x1, l1, rfl⟩ := isU64_some h1
  obtain ⟨x2, l2, rfl⟩ := isU64_some h2
  obtain ⟨x3, l3, rfl⟩ := isU64_some h3
  obtain ⟨y, l4, rfl⟩ := isU64_some h4
  obtain ⟨Y, l5, rfl⟩ := isNum_some h5
  exact ⟨x0, x1, x2, x3, y, Y, l0, l1, l2, l3, l4, l5, rfl, rfl, rfl, rfl, rfl, rfl⟩

/-- The four rows, each on what the one ahead of it left. -/
def mul5 (b : Value) (x0 x1 x2 x3 : Nat) : Option Value :=
  let r (T : Nat) (x : Nat) (k : Nat → Option Value) : Option Value := req (r5P (u64 (dig T 1)) (u64 (dig T 2)) (u64 (dig T 3)) (u64 (dig T 4)) (u64 x) b) (k (r5N (dig T 1) (dig T 2) (dig T 3) (dig T 4) x b))
  req (r5P (u64 0) (u64 0) (u64 0) (u64 0) (u64 x0) b) <|
  r (r5N 0 0 0 0 x0 b) x1 fun T2 => r T2 x2 fun T3 => r T3 x3 fun T4 =>
    some (.tuple #[numd (dig (r5N 0 0 0 0 x0 b) 0) (dig T2 0) (dig T3 0) (dig T4 0), numd (dig T4 1) (dig T4 2) (dig T4 3) (dig T4 4)])

theorem r5P_dig {T x Y : Nat} (hx : x < 18446744073709551616) : r5P (u64 (dig T 1)) (u64 (dig T 2)) (u64 (dig T 3)) (u64 (dig T 4)) (u64 x) (num Y) = true := by
  unfold r5P; rw [isU64_u64 (dig_lt _ _), isU64_u64 (dig_lt _ _), isU64_u64 (dig_lt _ _), isU64_u64 (dig_lt _ _), isU64_u64 hx, isNum_num]; rfl

theorem r5N_dig {T x Y : Nat} (hY : Y < 2 ^ 256) (hT : T / 18446744073709551616 < 2 ^ 256) : r5N (dig T 1) (dig T 2) (dig T 3) (dig T 4) x (num Y) = T / 18446744073709551616 + x * Y := by
  unfold r5N
  rw [unnum_lt hY]
  exact congrArg (· + x * Y) (hor_dig hT).symm

theorem mul5_eq {x0 x1 x2 x3 Y : Nat} (h0 : x0 < 18446744073709551616) (h1 : x1 < 18446744073709551616) (h2 : x2 < 18446744073709551616) (h3 : x3 < 18446744073709551616) (hY : Y < 2 ^ 256) :
    mul5 (num Y) x0 x1 x2 x3 = some (mulV (hor x0 x1 x2 x3) Y) := by
  have z : (0 : Nat) < 18446744073709551616 := by decide
  have p0 : r5P (u64 0) (u64 0) (u64 0) (u64 0) (u64 x0) (num Y) = true := by
    unfold r5P; rw [isU64_u64 z, isU64_u64 h0, isNum_num]; rfl
  have e1 : r5N 0 0 0 0 x0 (num Y) = x0 * Y := by unfold r5N hor; rw [unnum_lt hY]; omega
  have q0 := row_le hY h0
  have q1 := row_le hY h1
  have q2 := row_le hY h2
  have q3 := row_le hY h3
  unfold mul5
  simp only []
  have b1 : x0 * Y / 18446744073709551616 < 2 ^ 256 := by omega
  rw [req_true p0, e1, req_true (r5P_dig h1), r5N_dig hY b1]
  have b2 : (x0 * Y / 18446744073709551616 + x1 * Y) / 18446744073709551616 < 2 ^ 256 := by omega
  rw [req_true (r5P_dig h2), r5N_dig hY b2]
  have b3 : ((x0 * Y / 18446744073709551616 + x1 * Y) / 18446744073709551616 + x2 * Y) / 18446744073709551616 < 2 ^ 256 := by omega
  rw [req_true (r5P_dig h3), r5N_dig hY b3]
  have hp : hor x0 x1 x2 x3 * Y = x0 * Y + 18446744073709551616 * (x1 * Y + 18446744073709551616 * (x2 * Y + 18446744073709551616 * (x3 * Y))) := by
    unfold hor; simp only [Nat.add_mul, Nat.mul_assoc, Nat.mul_add]
  unfold mulV
  rw [hp]
  generalize x0 * Y = a0 at *
  generalize x1 * Y = a1 at *
  generalize x2 * Y = a2 at *
  generalize x3 * Y = a3 at *
  generalize hT2 : a0 / 18446744073709551616 + a1 = T2 at *
  generalize hT3 : T2 / 18446744073709551616 + a2 = T3 at *
  generalize hT4 : T3 / 18446744073709551616 + a3 = T4 at *
  have hs : a0 + 18446744073709551616 * (a1 + 18446744073709551616 * (a2 + 18446744073709551616 * a3)) = hor (dig a0 0) (dig T2 0) (dig T3 0) (dig T4 0 + 18446744073709551616 * (T4 / 18446744073709551616)) := by
    show _ = hor (a0 % 18446744073709551616) (T2 % 18446744073709551616) (T3 % 18446744073709551616) (T4 % 18446744073709551616 + 18446744073709551616 * (T4 / 18446744073709551616))
    unfold hor; omega
  have hd : (a0 + 18446744073709551616 * (a1 + 18446744073709551616 * (a2 + 18446744073709551616 * a3))) / 2 ^ 256 = T4 / 18446744073709551616 := by
    rw [← div256]; omega
  rw [hd, hs, num_hor (dig_lt _ _) (dig_lt _ _) (dig_lt _ _) (dig_lt _ _)]
  rfl

end Go.W
