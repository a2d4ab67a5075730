/-
  The document's own answers, package limb: the ways of their texts, and what they come to.
-/
import Derived.Test.YtdhbnidobpkkfaaM8
import Derived.Test.YtdhbnidobpkkfaaM9
namespace Go.W

/-! ## Cmp -/

def CmpRT (a b : Value) : Option Value := bif eqV a b then some (i64 0) else r2 a b <| bif ((sB a b : Nat) : Int) == 1 then some (i64 (-1)) else some (i64 1)
theorem CmpRT_eq {A B : Nat} (hA : A < 2 ^ 256) (hB : B < 2 ^ 256) : CmpRT (num A) (num B) = some (i64 (cmpI A B)) := by
  unfold CmpRT
  rw [eqV_num, Nat.mod_eq_of_lt hA, Nat.mod_eq_of_lt hB, r2_num, sB_num, Nat.mod_eq_of_lt hA, Nat.mod_eq_of_lt hB]
  unfold cmpI
  rcases Nat.lt_trichotomy A B with h | rfl | h
  · rw [decide_eq_false (by omega), if_pos h, if_pos h]; rfl
  · simp only [Nat.lt_irrefl, if_false, decide_true]; rfl
  · rw [decide_eq_false (by omega), if_neg (show ¬ A < B by omega), if_neg (show ¬ A < B by omega), if_pos h]; rfl

/-! ## Mul -/

def digL (X : Nat) : List Value := [u64 (dig X 0), u64 (dig X 1), u64 (dig X 2), u64 (dig X 3), u64 (dig X 4), u64 (dig X 5), u64 (dig X 6), u64 (dig X 7)]

def mstep {α : Type} (x y c : Nat) (d : Int) (k : Nat → Int → Option α) : Option α :=
  req (isU64 (u64 x) && isU64 (u64 y)) <| req (Nat.ble 0 1) <| req (Nat.ble 0 1) <|
    k (s64 (s64 (x * y % 18446744073709551616) c 0) d.toNat 0) (iAdd .u64 (iAdd .u64 ((x * y / 18446744073709551616 : Nat) : Int) (c64 (x * y % 18446744073709551616) c 0 : Int)) (c64 (s64 (x * y % 18446744073709551616) c 0) d.toNat 0 : Int))

theorem mstep_eq {α : Type} {x y c d : Nat} (hx : x < 18446744073709551616) (hy : y < 18446744073709551616) (hc : c < 18446744073709551616) (hd : d < 18446744073709551616) (k : Nat → Int → Option α) :
    mstep x y c (d : Int) k = k (maL x y c d) ((maH x y c d : Nat) : Int) := by
  unfold mstep
  rw [isU64_u64 hx, isU64_u64 hy, req_true (b := true && true) rfl, req_true (b := Nat.ble 0 1) rfl, req_true (b := Nat.ble 0 1) rfl, Int.toNat_natCast]
  have h := mul_le hx hy
  unfold maL maH
  generalize x * y = p at *
  rw [iAdd_u, iAdd_u]
  have e1 : s64 (s64 (p % 18446744073709551616) c 0) d 0 = (p + c + d) % 18446744073709551616 := by unfold s64; omega
  have e2 : ((p / 18446744073709551616 + c64 (p % 18446744073709551616) c 0) % 18446744073709551616 + c64 (s64 (p % 18446744073709551616) c 0) d 0) % 18446744073709551616 = (p + c + d) / 18446744073709551616 := by
    unfold s64 c64; omega
  rw [e1, e2]

def mrow {α : Type} (d b0 b1 b2 b3 s0 s1 s2 s3 : Nat) (k : Nat → Nat → Nat → Nat → Int → Option α) : Option α :=
  mstep d b0 s0 0 fun l0 h0 => mstep d b1 s1 h0 fun l1 h1 => mstep d b2 s2 h1 fun l2 h2 => mstep d b3 s3 h2 fun l3 h3 => k l0 l1 l2 l3 h3

/-- A row of the document's product, laid over eight digits. -/
def mrowL {α : Type} (j : Nat) (X d b0 b1 b2 b3 : Nat) (k : List Value → Option α) : Option α :=
  match j with
  | 0 => mrow d b0 b1 b2 b3 (dig X 0) (dig X 1) (dig X 2) (dig X 3) fun l0 l1 l2 l3 c => k [u64 l0, u64 l1, u64 l2, u64 l3, .int .u64 c, u64 (dig X 5), u64 (dig X 6), u64 (dig X 7)]
  | 1 => mrow d b0 b1 b2 b3 (dig X 1) (dig X 2) (dig X 3) (dig X 4) fun l0 l1 l2 l3 c => k [u64 (dig X 0), u64 l0, u64 l1, u64 l2, u64 l3, .int .u64 c, u64 (dig X 6), u64 (dig X 7)]
  | 2 => mrow d b0 b1 b2 b3 (dig X 2) (dig X 3) (dig X 4) (dig X 5) fun l0 l1 l2 l3 c => k [u64 (dig X 0), u64 (dig X 1), u64 l0, u64 l1, u64 l2, u64 l3, .int .u64 c, u64 (dig X 7)]
  | _ => mrow d b0 b1 b2 b3 (dig X 3) (dig X 4) (dig X 5) (dig X 6) fun l0 l1 l2 l3 c => k [u64 (dig X 0), u64 (dig X 1), u64 (dig X 2), u64 l0, u64 l1, u64 l2, u64 l3, .int .u64 c]

theorem mrow_eq {α : Type} {d b0 b1 b2 b3 s0 s1 s2 s3 : Nat} (hd : d < 18446744073709551616) (h0 : b0 < 18446744073709551616) (h1 : b1 < 18446744073709551616) (h2 : b2 < 18446744073709551616) (h3 : b3 < 18446744073709551616)
    (k0 : s0 < 18446744073709551616) (k1 : s1 < 18446744073709551616) (k2 : s2 < 18446744073709551616) (k3 : s3 < 18446744073709551616) (K : Nat → Nat → Nat → Nat → Int → Option α) :
    ∃ l0 l1 l2 l3 c, mrow d b0 b1 b2 b3 s0 s1 s2 s3 K = K l0 l1 l2 l3 ((c : Nat) : Int) ∧ (∀ k, rowT d b0 b1 b2 b3 s0 s1 s2 s3 k = k l0 l1 l2 l3 c) := by
  have z : (0 : Nat) < 18446744073709551616 := by decide
  have c0 := maH_lt hd h0 k0 z
  have c1 := maH_lt hd h1 k1 c0
  have c2 := maH_lt hd h2 k2 c1
  refine ⟨maL d b0 s0 0, maL d b1 s1 (maH d b0 s0 0), maL d b2 s2 (maH d b1 s1 (maH d b0 s0 0)), maL d b3 s3 (maH d b2 s2 (maH d b1 s1 (maH d b0 s0 0))), maH d b3 s3 (maH d b2 s2 (maH d b1 s1 (maH d b0 s0 0))), ?_, fun k => ?_⟩
  · unfold mrow
    have e0 := mstep_eq (α := α) hd h0 k0 z
    rw [show ((0 : Nat) : Int) = 0 from rfl] at e0
    rw [e0, mstep_eq hd h1 k1 c0, mstep_eq hd h2 k2 c1, mstep_eq hd h3 k3 c2]
  · unfold rowT
    rw [req_true (maP_true hd h0 k0 z), req_true (maP_true hd h1 k1 c0), req_true (maP_true hd h2 k2 c1), req_true (maP_true hd h3 k3 c2)]

theorem num8_digL {l : List Value} {X : Nat} (h : some (Value.agg l.toArray) = some (num8 X)) : l = digL X := by
  simp only [Option.some.injEq, num8, numd8, Value.agg.injEq] at h
  have := congrArg Array.toList h
  simpa [digL] using this

theorem mrowL_eq {α : Type} {j X d b0 b1 b2 b3 : Nat} (hj : j ≤ 3) (hX : X < bnd j) (hd : d < 18446744073709551616) (h0 : b0 < 18446744073709551616) (h1 : b1 < 18446744073709551616) (h2 : b2 < 18446744073709551616) (h3 : b3 < 18446744073709551616)
    (K : List Value → Option α) : mrowL j X d b0 b1 b2 b3 K = K (digL (X + d * hor b0 b1 b2 b3 * 2 ^ (64 * j))) := by
  have hS : hor8 (dig X 0) (dig X 1) (dig X 2) (dig X 3) (dig X 4) (dig X 5) (dig X 6) (dig X 7) = X := by
    have := unnum_num8 (bnd_lt hj hX)
    rwa [show unnum (num8 X) = hor8 (dig X 0) (dig X 1) (dig X 2) (dig X 3) (dig X 4) (dig X 5) (dig X 6) (dig X 7) from rfl] at this
  have key := addRowT_eq hj (dig_lt X 0) (dig_lt X 1) (dig_lt X 2) (dig_lt X 3) (dig_lt X 4) (dig_lt X 5) (dig_lt X 6) (dig_lt X 7) hd h0 h1 h2 h3 (by rw [hS]; exact hX)
  rw [hS] at key
  unfold addRowV at key
  match j, hj with
  | 0, _ =>
    obtain ⟨l0, l1, l2, l3, c, e, f⟩ := mrow_eq hd h0 h1 h2 h3 (dig_lt X 0) (dig_lt X 1) (dig_lt X 2) (dig_lt X 3) fun l0 l1 l2 l3 c => K [u64 l0, u64 l1, u64 l2, u64 l3, .int .u64 c, u64 (dig X 5), u64 (dig X 6), u64 (dig X 7)]
    rw [← num8_digL (l := [u64 l0, u64 l1, u64 l2, u64 l3, u64 c, u64 (dig X 5), u64 (dig X 6), u64 (dig X 7)]) ((f (fun l0 l1 l2 l3 c => some (numd8 l0 l1 l2 l3 c (dig X 5) (dig X 6) (dig X 7)))).symm.trans key)]; exact e
  | 1, _ =>
    obtain ⟨l0, l1, l2, l3, c, e, f⟩ := mrow_eq hd h0 h1 h2 h3 (dig_lt X 1) (dig_lt X 2) (dig_lt X 3) (dig_lt X 4) fun l0 l1 l2 l3 c => K [u64 (dig X 0), u64 l0, u64 l1, u64 l2, u64 l3, .int .u64 c, u64 (dig X 6), u64 (dig X 7)]
    rw [← num8_digL (l := [u64 (dig X 0), u64 l0, u64 l1, u64 l2, u64 l3, u64 c, u64 (dig X 6), u64 (dig X 7)]) ((f (fun l0 l1 l2 l3 c => some (numd8 (dig X 0) l0 l1 l2 l3 c (dig X 6) (dig X 7)))).symm.trans key)]; exact e
  | 2, _ =>
    obtain ⟨l0, l1, l2, l3, c, e, f⟩ := mrow_eq hd h0 h1 h2 h3 (dig_lt X 2) (dig_lt X 3) (dig_lt X 4) (dig_lt X 5) fun l0 l1 l2 l3 c => K [u64 (dig X 0), u64 (dig X 1), u64 l0, u64 l1, u64 l2, u64 l3, .int .u64 c, u64 (dig X 7)]
    rw [← num8_digL (l := [u64 (dig X 0), u64 (dig X 1), u64 l0, u64 l1, u64 l2, u64 l3, u64 c, u64 (dig X 7)]) ((f (fun l0 l1 l2 l3 c => some (numd8 (dig X 0) (dig X 1) l0 l1 l2 l3 c (dig X 7)))).symm.trans key)]; exact e
  | 3, _ =>
    obtain ⟨l0, l1, l2, l3, c, e, f⟩ := mrow_eq hd h0 h1 h2 h3 (dig_lt X 3) (dig_lt X 4) (dig_lt X 5) (dig_lt X 6) fun l0 l1 l2 l3 c => K [u64 (dig X 0), u64 (dig X 1), u64 (dig X 2), u64 l0, u64 l1, u64 l2, u64 l3, .int .u64 c]
    rw [← num8_digL (l := [u64 (dig X 0), u64 (dig X 1), u64 (dig X 2), u64 l0, u64 l1, u64 l2, u64 l3, u64 c]) ((f (fun l0 l1 l2 l3 c => some (numd8 (dig X 0) (dig X 1) (dig X 2) l0 l1 l2 l3 c))).symm.trans key)]; exact e

/-- The four rows. -/
theorem mul_mrows {x0 x1 x2 x3 Y : Nat} (h0 : x0 < 18446744073709551616) (h1 : x1 < 18446744073709551616) (h2 : x2 < 18446744073709551616) (h3 : x3 < 18446744073709551616) (hY : Y < 2 ^ 256) :
    ∃ X1 X2 X3 X4, 0 < bnd 0 ∧ X1 < bnd 1 ∧ X2 < bnd 2 ∧ X3 < bnd 3 ∧ 0 + x0 * Y * 2 ^ (64 * 0) = X1 ∧ X1 + x1 * Y * 2 ^ (64 * 1) = X2 ∧ X2 + x2 * Y * 2 ^ (64 * 2) = X3 ∧ X3 + x3 * Y * 2 ^ (64 * 3) = X4 ∧
      Value.tuple #[numd (dig X4 0) (dig X4 1) (dig X4 2) (dig X4 3), numd (dig X4 4) (dig X4 5) (dig X4 6) (dig X4 7)] = mulV (hor x0 x1 x2 x3) Y := by
  have r0 := row_le hY h0
  have r1 := row_le hY h1
  have r2 := row_le hY h2
  have r3 := row_le hY h3
  have z0 : (0 : Nat) < bnd 0 := by simp only [bnd]; omega
  have p1 : x0 * Y < bnd 1 := by simp only [bnd]; omega
  have p2 : x0 * Y + x1 * Y * 2 ^ 64 < bnd 2 := by simp only [bnd]; omega
  have p3 : x0 * Y + x1 * Y * 2 ^ 64 + x2 * Y * 2 ^ 128 < bnd 3 := by simp only [bnd]; omega
  have hp : hor x0 x1 x2 x3 * Y = x0 * Y + x1 * Y * 2 ^ 64 + x2 * Y * 2 ^ 128 + x3 * Y * 2 ^ 192 := by
    unfold hor
    grind
  refine ⟨_, _, _, _, z0, p1, p2, p3, by simp, rfl, rfl, rfl, ?_⟩
  unfold mulV
  rw [hp, ← div256]
  rfl

/-! ## Mod -/

theorem tbV_num {L b : Nat} (hL : L < 2 ^ 256) (hb : b ≤ 1) : tbV (num L) (b : Int) = num (2 * L % 2 ^ 256 + b) := by
  have hS : tbS (num L) = 2 * L := by unfold tbS; rw [unnum_lt hL]; omega
  unfold tbV
  rw [hS]
  have d0 : dig (2 * L) 0 = 2 * (L % 9223372036854775808) := by show 2 * L % 18446744073709551616 = _; omega
  have hor0 : iOr .u64 (dig (2 * L) 0 : Int) (b : Int) = ((dig (2 * L) 0 + b : Nat) : Int) := by
    rw [iOr_u (dig_lt _ _) (by omega), d0, or_even _ _ hb]
  have hlt0 : dig (2 * L) 0 + b < 18446744073709551616 := by rw [d0]; omega
  rw [hor0]
  have hn : hor (dig (2 * L) 0 + b) (dig (2 * L) 1) (dig (2 * L) 2) (dig (2 * L) 3) = 2 * L % 2 ^ 256 + b := by
    have e : num (2 * L % 2 ^ 256) = num (2 * L) := num_mod _
    have e2 := congrArg unnum e
    rw [unnum_num, Nat.mod_mod] at e2
    have e3 : hor (dig (2 * L) 0) (dig (2 * L) 1) (dig (2 * L) 2) (dig (2 * L) 3) = 2 * L % 2 ^ 256 := e2.symm
    rw [← e3]; unfold hor; omega
  have hnum : numd (dig (2 * L) 0 + b) (dig (2 * L) 1) (dig (2 * L) 2) (dig (2 * L) 3) = num (2 * L % 2 ^ 256 + b) := by
    rw [← hn]
    have := num_hor hlt0 (dig_lt (2 * L) 1) (dig_lt (2 * L) 2) (dig_lt (2 * L) 3) 0
    rw [Nat.mul_zero, Nat.add_zero] at this
    exact this.symm
  exact hnum

/-- One round of the document's division. -/
def modK {α : Type} (r m : Value) (b : Int) (k : Value → Option α) : Option α :=
  req (isNum r) <| r2 r r <| bif bitI (unnum r) 255 == 1 then (r2 (tbV r b) m <| k (sD (tbV r b) m))
    else (r2 (tbV r b) m <| bif decide (cI (tbV r b) m ≥ 0) then (r2 (tbV r b) m <| k (sD (tbV r b) m)) else k (tbV r b))

theorem modK_eq {α : Type} {R M b : Nat} (hR : R < M) (hM : M < 2 ^ 256) (hb : b ≤ 1) (k : Value → Option α) : modK (num R) (num M) (b : Int) k = k (num (tbN R b M)) := by
  have hR' : R < 2 ^ 256 := by omega
  unfold modK
  rw [tbV_num hR' hb, isNum_num, req_true rfl, r2_num, r2_num, unnum_lt hR']
  have e255 : bitI R 255 = ((R / 2 ^ 255 % 2 : Nat) : Int) := by
    have := bitI_nat (A := R) (n := 255) (by omega)
    rw [show ((255 : Nat) : Int) = 255 from rfl] at this
    rw [this]; rfl
  have hsub : 2 * R + b ≥ M → num (2 ^ 256 + (2 * R % 2 ^ 256 + b) - M) = num (tbN R b M) := by
    intro h
    have e2 : tbN R b M = 2 * R + b - M := by
      unfold tbN
      rw [Nat.mod_eq_sub_mod (by omega), Nat.mod_eq_of_lt (by omega)]
    rw [e2]
    by_cases hc : 2 * R < 2 ^ 256
    · rw [Nat.mod_eq_of_lt hc, show 2 ^ 256 + (2 * R + b) - M = 2 * R + b - M + 2 ^ 256 * 1 from by omega, num_add_mul]
    · rw [show 2 ^ 256 + (2 * R % 2 ^ 256 + b) - M = 2 * R + b - M from by omega]
  have hlt : 2 * R % 2 ^ 256 + b < 2 ^ 256 := by omega
  have hsD : sD (num (2 * R % 2 ^ 256 + b)) (num M) = num (2 ^ 256 + (2 * R % 2 ^ 256 + b) - M) := by rw [sD_num, Nat.mod_eq_of_lt hlt, Nat.mod_eq_of_lt hM]
  rw [hsD, cI_num hlt hM, e255, r2_num]
  by_cases ht : R < 2 ^ 255
  · have e : R / 2 ^ 255 % 2 = 0 := by omega
    rw [e]
    show (bif decide (cmpI (2 * R % 2 ^ 256 + b) M ≥ 0) then _ else _) = _
    by_cases hlt2 : 2 * R + b < M
    · rw [decide_eq_false (by unfold cmpI; rw [if_pos (by omega)]; decide)]
      show k (num (2 * R % 2 ^ 256 + b)) = _
      have : tbN R b M = 2 * R % 2 ^ 256 + b := by unfold tbN; rw [Nat.mod_eq_of_lt hlt2, Nat.mod_eq_of_lt (by omega)]
      rw [this]
    · rw [decide_eq_true (by unfold cmpI; rw [if_neg (by omega)]; split <;> decide)]
      show k (num (2 ^ 256 + (2 * R % 2 ^ 256 + b) - M)) = _
      rw [hsub (by omega)]
  · have e : R / 2 ^ 255 % 2 = 1 := by omega
    rw [e]
    show k (num (2 ^ 256 + (2 * R % 2 ^ 256 + b) - M)) = _
    rw [hsub (by omega)]

/-- What is left of the first bits of 512. -/
def rK (X M k : Nat) : Nat := X / 2 ^ (512 - k) % M
theorem two512 (n : Nat) (h : n = 256 + 256) : (2 : Nat) ^ n = 2 ^ 256 * 2 ^ 256 := by subst h; exact Nat.pow_add 2 256 256
theorem rK_zero {H L M : Nat} (hH : H < 2 ^ 256) (hL : L < 2 ^ 256) : rK (H * 2 ^ 256 + L) M 0 = 0 := by
  unfold rK
  have : H * 2 ^ 256 + L < 2 ^ (512 - 0) := by
    rw [two512 (512 - 0) rfl]
    have : (H + 1) * 2 ^ 256 ≤ 2 ^ 256 * 2 ^ 256 := Nat.mul_le_mul_right _ hH
    rw [Nat.add_mul, Nat.one_mul] at this
    exact Nat.lt_of_lt_of_le (Nat.add_lt_add_left hL _) this
  rw [Nat.div_eq_of_lt this, Nat.zero_mod]
theorem rK_lt {X M k : Nat} (h : 0 < M) : rK X M k < M := Nat.mod_lt _ h
theorem rK_succ {X M k : Nat} (hk : k < 512) : tbN (rK X M k) (bitN X (511 - k)) M = rK X M (k + 1) := by
  unfold tbN rK bitN
  have e : X / 2 ^ (512 - (k + 1)) = 2 * (X / 2 ^ (512 - k)) + X / 2 ^ (511 - k) % 2 := by
    rw [show 512 - k = (511 - k) + 1 from by omega, show 512 - (k + 1) = 511 - k from by omega, Nat.pow_succ, ← Nat.div_div_eq_div_mul]
    omega
  rw [e, Nat.add_mod, Nat.mul_mod, Nat.mod_mod, ← Nat.mul_mod, ← Nat.add_mod]
theorem rK_last (X M : Nat) : rK X M 512 = X % M := by unfold rK; rw [Nat.sub_self, Nat.pow_zero, Nat.div_one]

theorem bitN_hi {H L n : Nat} (hL : L < 2 ^ 256) : bitN (H * 2 ^ 256 + L) (n + 256) = bitN H n := by
  unfold bitN
  rw [Nat.add_comm n 256, Nat.pow_add, ← Nat.div_div_eq_div_mul]
  congr 2
  omega
theorem bitN_lo {H L n : Nat} (hn : n < 256) : bitN (H * 2 ^ 256 + L) n = bitN L n := by
  unfold bitN
  have e : H * 2 ^ 256 = 2 ^ n * (2 * (2 ^ (255 - n) * H)) := by
    have : (2 : Nat) ^ 256 = 2 ^ n * (2 * 2 ^ (255 - n)) := by
      rw [← Nat.pow_succ', ← Nat.pow_add]
      congr 1; omega
    rw [this, Nat.mul_comm H]; simp only [Nat.mul_assoc]
  rw [e, Nat.add_comm, Nat.add_mul_div_left _ _ (Nat.two_pow_pos n)]
  omega

def ModRF : List Value → Option (Bool × Value)
  | [h, l, m] => some (isNum h && isNum l && isNum m && Nat.blt 0 (unnum m), num (modN (unnum h) (unnum l) (unnum m)))
  | _ => none

/-! ## Lengths -/

theorem bit_above {A n : Nat} (h : bitLen A ≤ n) : bitN A n = 0 := by
  unfold bitN
  have h1 := (bitLen_spec A).1
  have : A < 2 ^ n := Nat.lt_of_lt_of_le h1 (Nat.pow_le_pow_right (by decide) h)
  rw [Nat.div_eq_of_lt this]

theorem bit_top {A : Nat} (h : A ≠ 0) : bitN A (bitLen A - 1) = 1 := by
  unfold bitN
  have h1 := (bitLen_spec A).1
  have h0 : bitLen A ≠ 0 := by
    intro h2; rw [h2] at h1; simp at h1; exact h h1
  have h2 : ¬ A < 2 ^ (bitLen A - 1) := by
    intro h3
    have := bitLen_lt h3
    omega
  have e : (2 : Nat) ^ bitLen A = 2 * 2 ^ (bitLen A - 1) := by rw [← Nat.pow_succ']; congr 1; omega
  rw [e] at h1
  generalize 2 ^ (bitLen A - 1) = p at *
  have hd : A / p = 1 := by
    have hp : 0 < p := by omega
    have a1 : A / p < 2 := by rw [Nat.div_lt_iff_lt_mul hp]; exact h1
    have a2 : 1 ≤ A / p := by rw [Nat.le_div_iff_mul_le hp]; omega
    omega
  rw [hd]

/-! ## The laws -/

def ExT (a b : Value) (i : Int) : Option Value :=
  r2 a b <| r2 a b <| r2 a b <| r2 a b <| r2 a b <| r2 a b <|
  bif eqV (aS a b) (aS a b) then (bif ((aC a b : Nat) : Int) == ((aC a b : Nat) : Int) then (bif eqV (sD a b) (sD a b) then (bif ((sB a b : Nat) : Int) == ((sB a b : Nat) : Int) then
   (bif eqV (mL a b) (mL a b) then (bif eqV (mH a b) (mH a b) then (r2 a b <| r2 a b <| bif cI a b == cI a b then (req (isNum a) <| req (isNum a) <| bif bitI (unnum a) i == bitI (unnum a) i then
     (req (isNum a) <| req (isNum a) <| bif (bitLen (unnum a) : Int) == (bitLen (unnum a) : Int) then tru else fls) else fls) else fls) else fls) else fls) else fls) else fls) else fls) else fls

theorem ExT_eq (A B : Nat) (i : Int) : ExT (num A) (num B) i = tru := by
  unfold ExT
  have e : ∀ X, eqV (num X) (num X) = true := fun X => by rw [eqV_num]; exact decide_eq_true rfl
  have ei : ∀ x : Int, (x == x) = true := fun x => beq_self_eq_true x
  simp only [r2_num, isNum_num, ei, cond_true, req_true]
  unfold aS sD mL mH
  simp only [e, cond_true]

def ModsT (h l m z : Value) : Option Value :=
  r3 h l m <| bif eqV m z then (bif modEv m == 1 then (bif eqV (modR h l m) z then tru else fls) else fls)
    else (bif okB m then (req (isNum h && isNum l && isNum m && Nat.blt 0 (unnum m)) <| bif eqV (modR h l m) (modR h l m) then (r2 (modR h l m) m <| bif decide (cI (modR h l m) m < 0) then tru else fls) else fls) else fls)

theorem ModsT_eq {H L M : Nat} (hM : M < 2 ^ 256) : ModsT (num H) (num L) (num M) (num 0) = tru := by
  unfold ModsT
  rw [r3_num, eqV_num, Nat.mod_eq_of_lt hM]
  by_cases h0 : M = 0
  · subst h0
    rw [decide_eq_true rfl, cond_true]
    have e1 : (modEv (num 0) == 1) = true := rfl
    have e2 : modR (num H) (num L) (num 0) = num 0 := by
      unfold modR modN; rw [unnum_lt (show 0 < 2 ^ 256 by decide), if_pos rfl]
    rw [e1, e2, eqV_num, decide_eq_true rfl]; rfl
  · have e0 : decide (M = 0 % 2 ^ 256) = false := decide_eq_false (by simpa using h0)
    have eok : okB (num M) = true := by unfold okB modEv modE; rw [unnum_lt hM, if_neg h0]; rfl
    have hpos : 0 < M := by omega
    rw [e0, eok, cond_false, cond_true, isNum_num, isNum_num, isNum_num, unnum_lt hM, req_true (by simp [hpos])]
    unfold modR
    rw [unnum_lt hM, eqV_num, decide_eq_true rfl, r2_num]
    have hlt : modN (unnum (num H)) (unnum (num L)) M < M := by unfold modN; rw [if_neg h0]; exact Nat.mod_lt _ hpos
    rw [cI_num (by omega) hM, decide_eq_true (by unfold cmpI; rw [if_pos hlt]; decide)]; rfl

end Go.W
