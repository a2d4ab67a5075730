/-
  Products of numbers; bits; what is left.
-/
import Derived.Test.YtdhbnidobpkkfaaM3
namespace Go.W

def numd8 (a b c d e f g h : Nat) : Value := .agg #[u64 a, u64 b, u64 c, u64 d, u64 e, u64 f, u64 g, u64 h]
def num8 (X : Nat) : Value := numd8 (dig X 0) (dig X 1) (dig X 2) (dig X 3) (dig X 4) (dig X 5) (dig X 6) (dig X 7)
def hor8 (a b c d e f g h : Nat) : Nat := hor a b c (d + 18446744073709551616 * (hor e f g h))

theorem num8_hor {a b c d e f g h : Nat} (ha : a < 18446744073709551616) (hb : b < 18446744073709551616) (hc : c < 18446744073709551616) (hd : d < 18446744073709551616)
    (he : e < 18446744073709551616) (hf : f < 18446744073709551616) (hg : g < 18446744073709551616) (hh : h < 18446744073709551616) : num8 (hor8 a b c d e f g h) = numd8 a b c d e f g h := by
  unfold num8 hor8 hor
  have h0 : h = h + 18446744073709551616 * 0 := by omega
  rw [(dig_cons ha).1, (dig_cons ha).2, (dig_cons ha).2, (dig_cons ha).2, (dig_cons ha).2, (dig_cons ha).2, (dig_cons ha).2, (dig_cons ha).2,
    (dig_cons hb).1, (dig_cons hb).2, (dig_cons hb).2, (dig_cons hb).2, (dig_cons hb).2, (dig_cons hb).2, (dig_cons hb).2,
    (dig_cons hc).1, (dig_cons hc).2, (dig_cons hc).2, (dig_cons hc).2, (dig_cons hc).2, (dig_cons hc).2,
    (dig_cons hd).1, (dig_cons hd).2, (dig_cons hd).2, (dig_cons hd).2, (dig_cons hd).2,
    (dig_cons he).1, (dig_cons he).2, (dig_cons he).2, (dig_cons he).2, (dig_cons hf).1, (dig_cons hf).2, (dig_cons hf).2, (dig_cons hg).1, (dig_cons hg).2]
  congr 1
  show h % _ = h
  omega

theorem unnum_numd8 (a b c d e f g h : Nat) : unnum (numd8 a b c d e f g h) = hor8 a b c d e f g h := rfl

theorem isNums8_some {v : Value} (h : isNums 8 v = true) : ∃ a b c d e f g i, a < 18446744073709551616 ∧ b < 18446744073709551616 ∧ c < 18446744073709551616 ∧ d < 18446744073709551616 ∧
    e < 18446744073709551616 ∧ f < 18446744073709551616 ∧ g < 18446744073709551616 ∧ i < 18446744073709551616 ∧ v = numd8 a b c d e f g i := by
  obtain ⟨l, rfl, hl, ha⟩ := isNums_some h
  match l, hl, ha with
  | [x0, x1, x2, x3, x4, x5, x6, x7], _, ha =>
    simp only [List.all_cons, List.all_nil, Bool.and_true, Bool.and_eq_true] at ha
    obtain ⟨a, h0, rfl⟩ := isU64_some ha.1
    obtain ⟨b, h1, rfl⟩ := isU64_some ha.2.1
    obtain ⟨c, h2, rfl⟩ := isU64_some ha.2.2.1
    obtain ⟨d, h3, rfl⟩ := isU64_some ha.2.2.2.1
    obtain ⟨e, h4, rfl⟩ := isU64_some ha.2.2.2.2.1
    obtain ⟨f, h5, rfl⟩ := isU64_some ha.2.2.2.2.2.1
    obtain ⟨g, h6, rfl⟩ := isU64_some ha.2.2.2.2.2.2.1
    obtain ⟨i, h7, rfl⟩ := isU64_some ha.2.2.2.2.2.2.2
    exact ⟨a, b, c, d, e, f, g, i, h0, h1, h2, h3, h4, h5, h6, h7, rfl⟩

theorem isNums8_num8 (X : Nat) : isNums 8 (num8 X) = true := by
  refine isNums_of [u64 _, u64 _, u64 _, u64 _, u64 _, u64 _, u64 _, u64 _] rfl ?_
  rw [List.all_cons, List.all_cons, List.all_cons, List.all_cons, List.all_cons, List.all_cons, List.all_cons, List.all_cons, isU64_u64 (dig_lt _ _), isU64_u64 (dig_lt _ _), isU64_u64 (dig_lt _ _), isU64_u64 (dig_lt _ _),
    isU64_u64 (dig_lt _ _), isU64_u64 (dig_lt _ _), isU64_u64 (dig_lt _ _), isU64_u64 (dig_lt _ _)]
  rfl

theorem unnum_num8 {X : Nat} (h : X < 13407807929942597099574024998205846127479365820592393377723561443721764030073546976801874298166903427690031858186486050853753882811946569946433649006084096) : unnum (num8 X) = X := by
  show hor8 (dig X 0) (dig X 1) (dig X 2) (dig X 3) (dig X 4) (dig X 5) (dig X 6) (dig X 7) = X
  have e1 : X = hor (dig X 0) (dig X 1) (dig X 2) (dig X 3 + 18446744073709551616 * (X / 18446744073709551616 / 18446744073709551616 / 18446744073709551616 / 18446744073709551616)) := by
    unfold hor dig dig dig dig; omega
  have e2 : X / 18446744073709551616 / 18446744073709551616 / 18446744073709551616 / 18446744073709551616 < 2 ^ 256 := by
    rw [Nat.div_div_eq_div_mul, Nat.div_div_eq_div_mul, Nat.div_div_eq_div_mul]
    exact Nat.div_lt_of_lt_mul h
  have e3 := hor_dig e2
  unfold hor8
  rw [show hor (dig X 4) (dig X 5) (dig X 6) (dig X 7) = X / 18446744073709551616 / 18446744073709551616 / 18446744073709551616 / 18446744073709551616 from e3.symm]
  exact e1.symm

/-! ## addRow -/

def maL (x y c d : Nat) : Nat := (x * y + c + d) % 18446744073709551616
def maH (x y c d : Nat) : Nat := (x * y + c + d) / 18446744073709551616
def maP (x y c d : Nat) : Bool := isU64 (u64 x) && isU64 (u64 y) && isU64 (u64 c) && isU64 (u64 d)

theorem maP_true {x y c d : Nat} (hx : x < 18446744073709551616) (hy : y < 18446744073709551616) (hc : c < 18446744073709551616) (hd : d < 18446744073709551616) : maP x y c d = true := by
  unfold maP; rw [isU64_u64 hx, isU64_u64 hy, isU64_u64 hc, isU64_u64 hd]; rfl
theorem maL_lt (x y c d : Nat) : maL x y c d < 18446744073709551616 := Nat.mod_lt _ (by decide)
theorem maH_lt {x y c d : Nat} (hx : x < 18446744073709551616) (hy : y < 18446744073709551616) (hc : c < 18446744073709551616) (hd : d < 18446744073709551616) : maH x y c d < 18446744073709551616 := by
  have := mul_le hx hy
  unfold maH; omega
theorem ma_eq (x y c d : Nat) : maL x y c d + 18446744073709551616 * maH x y c d = x * y + c + d := Nat.mod_add_div _ _

/-- One row: the four digits of the sum, and what is carried out. -/
def rowT (d b0 b1 b2 b3 s0 s1 s2 s3 : Nat) (k : Nat → Nat → Nat → Nat → Nat → Option Value) : Option Value :=
  req (maP d b0 s0 0) <| req (maP d b1 s1 (maH d b0 s0 0)) <| req (maP d b2 s2 (maH d b1 s1 (maH d b0 s0 0))) <| req (maP d b3 s3 (maH d b2 s2 (maH d b1 s1 (maH d b0 s0 0)))) <|
    k (maL d b0 s0 0) (maL d b1 s1 (maH d b0 s0 0)) (maL d b2 s2 (maH d b1 s1 (maH d b0 s0 0))) (maL d b3 s3 (maH d b2 s2 (maH d b1 s1 (maH d b0 s0 0)))) (maH d b3 s3 (maH d b2 s2 (maH d b1 s1 (maH d b0 s0 0))))

theorem rowT_eq {d b0 b1 b2 b3 s0 s1 s2 s3 : Nat} (hd : d < 18446744073709551616) (h0 : b0 < 18446744073709551616) (h1 : b1 < 18446744073709551616) (h2 : b2 < 18446744073709551616) (h3 : b3 < 18446744073709551616)
    (k0 : s0 < 18446744073709551616) (k1 : s1 < 18446744073709551616) (k2 : s2 < 18446744073709551616) (k3 : s3 < 18446744073709551616) (k : Nat → Nat → Nat → Nat → Nat → Option Value) :
    ∃ l0 l1 l2 l3 c, l0 < 18446744073709551616 ∧ l1 < 18446744073709551616 ∧ l2 < 18446744073709551616 ∧ l3 < 18446744073709551616 ∧ c < 18446744073709551616 ∧
      rowT d b0 b1 b2 b3 s0 s1 s2 s3 k = k l0 l1 l2 l3 c ∧ hor l0 l1 l2 (l3 + 18446744073709551616 * c) = hor s0 s1 s2 s3 + d * hor b0 b1 b2 b3 := by
  have z : (0 : Nat) < 18446744073709551616 := by decide
  have c0 := maH_lt hd h0 k0 z
  have c1 := maH_lt hd h1 k1 c0
  have c2 := maH_lt hd h2 k2 c1
  have c3 := maH_lt hd h3 k3 c2
  refine ⟨_, _, _, _, _, maL_lt d b0 s0 0, maL_lt d b1 s1 (maH d b0 s0 0), maL_lt d b2 s2 (maH d b1 s1 (maH d b0 s0 0)), maL_lt d b3 s3 (maH d b2 s2 (maH d b1 s1 (maH d b0 s0 0))), c3, ?_, ?_⟩
  · unfold rowT
    rw [req_true (maP_true hd h0 k0 z), req_true (maP_true hd h1 k1 c0), req_true (maP_true hd h2 k2 c1), req_true (maP_true hd h3 k3 c2)]
  · have e0 := ma_eq d b0 s0 0
    have e1 := ma_eq d b1 s1 (maH d b0 s0 0)
    have e2 := ma_eq d b2 s2 (maH d b1 s1 (maH d b0 s0 0))
    have e3 := ma_eq d b3 s3 (maH d b2 s2 (maH d b1 s1 (maH d b0 s0 0)))
    have ed : d * hor b0 b1 b2 b3 = d * b0 + 18446744073709551616 * (d * b1 + 18446744073709551616 * (d * b2 + 18446744073709551616 * (d * b3))) := by
      unfold hor; simp only [Nat.mul_add, Nat.mul_left_comm d]
    rw [ed]
    unfold hor
    generalize d * b0 = p0 at *
    generalize d * b1 = p1 at *
    generalize d * b2 = p2 at *
    generalize d * b3 = p3 at *
    omega

def bnd : Nat → Nat
  | 0 => 115792089237316195423570985008687907853269984665640564039457584007913129639936
  | 1 => 2135987035920910082395021706169552114602704522356652769947041607822219725780640550022962086936576
  | 2 => 39402006196394479212279040100143613805079739270465446667948293404245721771497210611414266254884915640806627990306816
  | _ => 726838724295606890549323807888004534353641360687318060281490199180639288113397923326191050713763565560762521606266177933534601628614656

def addRowV (S d b k : Nat) : Value := num8 (S + d * b * 2 ^ (64 * k))
def addRowP (s d b : Value) (k : Nat) : Bool := isNums 8 s && isU64 d && isNum b && Nat.ble k 3 && decide (unnum s < bnd k)
def addRowF : List Value → Option (Bool × Value)
  | [s, d, b, .int .i64 k] => some (addRowP s d b k.toNat && decide (0 ≤ k), addRowV (unnum s) (intN d) (unnum b) k.toNat)
  | _ => none

def addRowT (k : Nat) (s0 s1 s2 s3 s4 s5 s6 s7 d b0 b1 b2 b3 : Nat) : Option Value :=
  match k with
  | 0 => rowT d b0 b1 b2 b3 s0 s1 s2 s3 fun l0 l1 l2 l3 c => some (numd8 l0 l1 l2 l3 c s5 s6 s7)
  | 1 => rowT d b0 b1 b2 b3 s1 s2 s3 s4 fun l0 l1 l2 l3 c => some (numd8 s0 l0 l1 l2 l3 c s6 s7)
  | 2 => rowT d b0 b1 b2 b3 s2 s3 s4 s5 fun l0 l1 l2 l3 c => some (numd8 s0 s1 l0 l1 l2 l3 c s7)
  | _ => rowT d b0 b1 b2 b3 s3 s4 s5 s6 fun l0 l1 l2 l3 c => some (numd8 s0 s1 s2 l0 l1 l2 l3 c)

theorem addRowT_eq {k s0 s1 s2 s3 s4 s5 s6 s7 d b0 b1 b2 b3 : Nat} (hk : k ≤ 3) (k0 : s0 < 18446744073709551616) (k1 : s1 < 18446744073709551616) (k2 : s2 < 18446744073709551616) (k3 : s3 < 18446744073709551616)
    (k4 : s4 < 18446744073709551616) (k5 : s5 < 18446744073709551616) (k6 : s6 < 18446744073709551616) (k7 : s7 < 18446744073709551616) (hd : d < 18446744073709551616)
    (h0 : b0 < 18446744073709551616) (h1 : b1 < 18446744073709551616) (h2 : b2 < 18446744073709551616) (h3 : b3 < 18446744073709551616) (hS : hor8 s0 s1 s2 s3 s4 s5 s6 s7 < bnd k) :
    addRowT k s0 s1 s2 s3 s4 s5 s6 s7 d b0 b1 b2 b3 = some (addRowV (hor8 s0 s1 s2 s3 s4 s5 s6 s7) d (hor b0 b1 b2 b3) k) := by
  unfold addRowV
  match k, hk with
  | 0, _ =>
    obtain ⟨l0, l1, l2, l3, c, m0, m1, m2, m3, m4, e, f⟩ := rowT_eq hd h0 h1 h2 h3 k0 k1 k2 k3 fun l0 l1 l2 l3 c => some (numd8 l0 l1 l2 l3 c s5 s6 s7)
    have hz : s4 = 0 ∧ s5 = 0 ∧ s6 = 0 ∧ s7 = 0 := by simp only [bnd, hor8, hor] at hS; omega
    obtain ⟨rfl, rfl, rfl, rfl⟩ := hz
    have hx : hor8 l0 l1 l2 l3 c 0 0 0 = hor8 s0 s1 s2 s3 0 0 0 0 + d * hor b0 b1 b2 b3 * 2 ^ (64 * 0) := by
      generalize d * hor b0 b1 b2 b3 = p at *
      simp only [hor8, hor] at f ⊢
      omega
    exact e.trans (congrArg some ((num8_hor m0 m1 m2 m3 m4 k5 k6 k7).symm.trans (congrArg num8 hx)))
  | 1, _ =>
    obtain ⟨l0, l1, l2, l3, c, m0, m1, m2, m3, m4, e, f⟩ := rowT_eq hd h0 h1 h2 h3 k1 k2 k3 k4 fun l0 l1 l2 l3 c => some (numd8 s0 l0 l1 l2 l3 c s6 s7)
    have hz : s5 = 0 ∧ s6 = 0 ∧ s7 = 0 := by simp only [bnd, hor8, hor] at hS; omega
    obtain ⟨rfl, rfl, rfl⟩ := hz
    have hx : hor8 s0 l0 l1 l2 l3 c 0 0 = hor8 s0 s1 s2 s3 s4 0 0 0 + d * hor b0 b1 b2 b3 * 2 ^ (64 * 1) := by
      generalize d * hor b0 b1 b2 b3 = p at *
      simp only [hor8, hor] at f ⊢
      omega
    exact e.trans (congrArg some ((num8_hor k0 m0 m1 m2 m3 m4 k6 k7).symm.trans (congrArg num8 hx)))
  | 2, _ =>
    obtain ⟨l0, l1, l2, l3, c, m0, m1, m2, m3, m4, e, f⟩ := rowT_eq hd h0 h1 h2 h3 k2 k3 k4 k5 fun l0 l1 l2 l3 c => some (numd8 s0 s1 l0 l1 l2 l3 c s7)
    have hz : s6 = 0 ∧ s7 = 0 := by simp only [bnd, hor8, hor] at hS; omega
    obtain ⟨rfl, rfl⟩ := hz
    have hx : hor8 s0 s1 l0 l1 l2 l3 c 0 = hor8 s0 s1 s2 s3 s4 s5 0 0 + d * hor b0 b1 b2 b3 * 2 ^ (64 * 2) := by
      generalize d * hor b0 b1 b2 b3 = p at *
      simp only [hor8, hor] at f ⊢
      omega
    exact e.trans (congrArg some ((num8_hor k0 k1 m0 m1 m2 m3 m4 k7).symm.trans (congrArg num8 hx)))
  | 3, _ =>
    obtain ⟨l0, l1, l2, l3, c, m0, m1, m2, m3, m4, e, f⟩ := rowT_eq hd h0 h1 h2 h3 k3 k4 k5 k6 fun l0 l1 l2 l3 c => some (numd8 s0 s1 s2 l0 l1 l2 l3 c)
    have hz : s7 = 0 := by simp only [bnd, hor8, hor] at hS; omega
    obtain rfl := hz
    have hx : hor8 s0 s1 s2 l0 l1 l2 l3 c = hor8 s0 s1 s2 s3 s4 s5 s6 0 + d * hor b0 b1 b2 b3 * 2 ^ (64 * 3) := by
      generalize d * hor b0 b1 b2 b3 = p at *
      simp only [hor8, hor] at f ⊢
      omega
    exact e.trans (congrArg some ((num8_hor k0 k1 k2 m0 m1 m2 m3 m4).symm.trans (congrArg num8 hx)))

/-! ## Mul -/

def mulV (X Y : Nat) : Value := .tuple #[num (X * Y), num (X * Y / 2 ^ 256)]
def MulF : List Value → Option (Bool × Value)
  | [x, y] => some (isNum x && isNum y, mulV (unnum x) (unnum y))
  | _ => none

def rowN (s : Value) (d : Nat) (b : Value) (k : Nat) : Nat := unnum s + d * unnum b * 2 ^ (64 * k)
def rowQ (s : Value) (d : Nat) (b : Value) (k : Int) : Bool := addRowP s (u64 d) b k.toNat && decide (0 ≤ k)

theorem bnd_lt {S k : Nat} (hk : k ≤ 3) (hS : S < bnd k) : S < 13407807929942597099574024998205846127479365820592393377723561443721764030073546976801874298166903427690031858186486050853753882811946569946433649006084096 := by
  match k, hk with
  | 0, _ => simp only [bnd] at hS; omega
  | 1, _ => simp only [bnd] at hS; omega
  | 2, _ => simp only [bnd] at hS; omega
  | 3, _ => simp only [bnd] at hS; omega

theorem rowQ_true {S d Y : Nat} {k : Nat} (hk : k ≤ 3) (hS : S < bnd k) (hd : d < 18446744073709551616) : rowQ (num8 S) d (num Y) (k : Int) = true := by
  have h512 := bnd_lt hk hS
  unfold rowQ addRowP
  rw [isNums8_num8, isU64_u64 hd, isNum_num, unnum_num8 h512]
  simp only [Int.toNat_natCast, Bool.true_and, Bool.and_eq_true, decide_eq_true_eq]
  exact ⟨⟨ble_true hk, hS⟩, by omega⟩

theorem rowN_eq {S d Y k : Nat} (hk : k ≤ 3) (hS : S < bnd k) (hY : Y < 2 ^ 256) :
    rowN (num8 S) d (num Y) k = S + d * Y * 2 ^ (64 * k) := by
  have h512 := bnd_lt hk hS
  unfold rowN
  rw [unnum_num8 h512, unnum_lt hY]

theorem row_le {d Y : Nat} (hY : Y < 2 ^ 256) (hd : d < 18446744073709551616) : d * Y ≤ 18446744073709551615 * (2 ^ 256 - 1) := Nat.mul_le_mul (by omega) (by omega)

theorem div256 (X : Nat) : X / 18446744073709551616 / 18446744073709551616 / 18446744073709551616 / 18446744073709551616 = X / 2 ^ 256 := by
  rw [Nat.div_div_eq_div_mul, Nat.div_div_eq_div_mul, Nat.div_div_eq_div_mul]

/-- The four rows. -/
theorem mul_rows {x0 x1 x2 x3 Y : Nat} (h0 : x0 < 18446744073709551616) (h1 : x1 < 18446744073709551616) (h2 : x2 < 18446744073709551616) (h3 : x3 < 18446744073709551616) (hY : Y < 2 ^ 256) :
    ∃ X1 X2 X3 X4, rowQ (num8 0) x0 (num Y) 0 = true ∧ rowN (num8 0) x0 (num Y) 0 = X1 ∧ rowQ (num8 X1) x1 (num Y) 1 = true ∧ rowN (num8 X1) x1 (num Y) 1 = X2 ∧
      rowQ (num8 X2) x2 (num Y) 2 = true ∧ rowN (num8 X2) x2 (num Y) 2 = X3 ∧ rowQ (num8 X3) x3 (num Y) 3 = true ∧ rowN (num8 X3) x3 (num Y) 3 = X4 ∧
      Value.tuple #[numd (dig X4 0) (dig X4 1) (dig X4 2) (dig X4 3), numd (dig X4 4) (dig X4 5) (dig X4 6) (dig X4 7)] = mulV (hor x0 x1 x2 x3) Y := by
  have r0 := row_le hY h0
  have r1 := row_le hY h1
  have r2 := row_le hY h2
  have r3 := row_le hY h3
  have z0 : (0 : Nat) < bnd 0 := by simp only [bnd]; omega
  have p1 : x0 * Y < bnd 1 := by simp only [bnd]; omega
  have p2 : x0 * Y + x1 * Y * 2 ^ 64 < bnd 2 := by simp only [bnd]; omega
  have p3 : x0 * Y + x1 * Y * 2 ^ 64 + x2 * Y * 2 ^ 128 < bnd 3 := by simp only [bnd]; omega
  have n0 : rowN (num8 0) x0 (num Y) 0 = x0 * Y := by rw [rowN_eq (by omega) z0 hY]; simp
  have n1 : rowN (num8 (x0 * Y)) x1 (num Y) 1 = x0 * Y + x1 * Y * 2 ^ 64 := by rw [rowN_eq (by omega) p1 hY]
  have n2 : rowN (num8 (x0 * Y + x1 * Y * 2 ^ 64)) x2 (num Y) 2 = x0 * Y + x1 * Y * 2 ^ 64 + x2 * Y * 2 ^ 128 := by rw [rowN_eq (by omega) p2 hY]
  have n3 : rowN (num8 (x0 * Y + x1 * Y * 2 ^ 64 + x2 * Y * 2 ^ 128)) x3 (num Y) 3 = x0 * Y + x1 * Y * 2 ^ 64 + x2 * Y * 2 ^ 128 + x3 * Y * 2 ^ 192 := by rw [rowN_eq (by omega) p3 hY]
  have hp : hor x0 x1 x2 x3 * Y = x0 * Y + x1 * Y * 2 ^ 64 + x2 * Y * 2 ^ 128 + x3 * Y * 2 ^ 192 := by
    unfold hor
    grind
  refine ⟨_, _, _, _, rowQ_true (k := 0) (by omega) z0 h0, n0, rowQ_true (k := 1) (by omega) p1 h1, n1, rowQ_true (k := 2) (by omega) p2 h2, n2, rowQ_true (k := 3) (by omega) p3 h3, n3, ?_⟩
  unfold mulV
  rw [hp, ← div256]
  rfl

end Go.W
