/-
  Lengths, bytes: the ways of the texts, and what they come to.
-/
import Derived.Test.YtdhbnidobpkkfaaM5
namespace Go.W

/-! ## Lengths -/

def len8S : ByteArray := ⟨#[0, 1, 2, 2, 3, 3, 3, 3, 4, 4, 4, 4, 4, 4, 4, 4, 5, 5, 5, 5, 5, 5, 5, 5, 5, 5, 5, 5, 5, 5, 5, 5, 6, 6, 6, 6, 6, 6, 6, 6, 6, 6, 6, 6, 6, 6, 6, 6, 6, 6, 6, 6, 6, 6, 6, 6, 6, 6, 6, 6, 6, 6, 6, 6, 7, 7, 7, 7, 7, 7, 7, 7, 7, 7, 7, 7, 7, 7, 7, 7, 7, 7, 7, 7, 7, 7, 7, 7, 7, 7, 7, 7, 7, 7, 7, 7, 7, 7, 7, 7, 7, 7, 7, 7, 7, 7, 7, 7, 7, 7, 7, 7, 7, 7, 7, 7, 7, 7, 7, 7, 7, 7, 7, 7, 7, 7, 7, 7, 8, 8, 8, 8, 8, 8, 8, 8, 8, 8, 8, 8, 8, 8, 8, 8, 8, 8, 8, 8, 8, 8, 8, 8, 8, 8, 8, 8, 8, 8, 8, 8, 8, 8, 8, 8, 8, 8, 8, 8, 8, 8, 8, 8, 8, 8, 8, 8, 8, 8, 8, 8, 8, 8, 8, 8, 8, 8, 8, 8, 8, 8, 8, 8, 8, 8, 8, 8, 8, 8, 8, 8, 8, 8, 8, 8, 8, 8, 8, 8, 8, 8, 8, 8, 8, 8, 8, 8, 8, 8, 8, 8, 8, 8, 8, 8, 8, 8, 8, 8, 8, 8, 8, 8, 8, 8, 8, 8, 8, 8, 8, 8, 8, 8, 8, 8, 8, 8, 8, 8, 8, 8, 8, 8, 8, 8, 8, 8]⟩

def Len64F : List Value → Option (Bool × Value)
  | [x] => some (isU64 x, i64 (bitLen (intN x) : Int))
  | _ => none

def l8 (x n : Int) : Option Value :=
  bif inR (IntKind.u8.wrap x) len8S.size then some (i64 (iAdd .i64 n (IntKind.i64.wrap ((len8S.data.toList.getD (IntKind.u8.wrap x).toNat 0).toNat : Int)))) else none
def s8 (x n : Int) : Option Value := bif decide (x ≥ 256) then l8 (iShr .u64 x 8) (iAdd .i64 n 8) else l8 x n
def s16 (x n : Int) : Option Value := bif decide (x ≥ 65536) then s8 (iShr .u64 x 16) (iAdd .i64 n 16) else s8 x n
def Len64T (x : Int) : Option Value := bif decide (x ≥ 4294967296) then s16 (iShr .u64 x 32) 32 else s16 x 0

theorem wrap_u8 (n : Int) : IntKind.u8.wrap n = n % 256 := by simp [IntKind.wrap, IntKind.bits, IntKind.signed]

theorem len8_all : ∀ j : Fin 256, (len8S.data.toList.getD j.val 0).toNat = bitLen j.val := by decide +kernel

theorem bitLen_lt {x k : Nat} (h : x < 2 ^ k) : bitLen x ≤ k := by
  unfold bitLen
  split
  · omega
  · rename_i h0
    have := (Nat.log2_lt h0).2 h
    omega

theorem l8_eq {x n : Nat} (hx : x < 256) (hn : n ≤ 1000) : l8 x n = some (i64 ((n + bitLen x : Nat) : Int)) := by
  have e1 : IntKind.u8.wrap (x : Int) = (x : Int) := by rw [wrap_u8]; omega
  have hs : len8S.size = 256 := by decide +kernel
  have hb := bitLen_lt (k := 8) (show x < 2 ^ 8 from hx)
  unfold l8
  rw [e1, hs]
  have hin : inR (x : Int) 256 = true := by simp only [inR, Bool.and_eq_true, decide_eq_true_eq]; omega
  rw [hin, cond_true, Int.toNat_natCast, len8_all ⟨x, hx⟩]
  unfold iAdd
  rw [wrap_i64 (n := ((bitLen x : Nat) : Int)) (by omega), wrap_i64 (by omega), ← Int.natCast_add]

theorem iAdd_i {a b : Nat} (h : a + b ≤ 100000) : iAdd .i64 a b = ((a + b : Nat) : Int) := by
  unfold iAdd; rw [wrap_i64 (by omega)]; omega

theorem s8_eq {x n : Nat} (hx : x < 65536) (hn : n ≤ 900) : s8 x n = some (i64 ((n + bitLen x : Nat) : Int)) := by
  unfold s8
  by_cases h : 256 ≤ x
  · rw [decide_eq_true (by omega), cond_true]
    have e1 := iShr_u x 8 (by omega)
    rw [show ((8 : Nat) : Int) = 8 from rfl] at e1
    have e2 := iAdd_i (a := n) (b := 8) (by omega)
    rw [show ((8 : Nat) : Int) = 8 from rfl] at e2
    rw [e1, e2, l8_eq (by omega) (by omega), bitLen_shift x 8 (by omega)]
    congr 3; omega
  · rw [decide_eq_false (by omega), cond_false, l8_eq (by omega) (by omega)]

theorem s16_eq {x n : Nat} (hx : x < 4294967296) (hn : n ≤ 800) : s16 x n = some (i64 ((n + bitLen x : Nat) : Int)) := by
  unfold s16
  by_cases h : 65536 ≤ x
  · rw [decide_eq_true (by omega), cond_true]
    have e1 := iShr_u x 16 (by omega)
    rw [show ((16 : Nat) : Int) = 16 from rfl] at e1
    have e2 := iAdd_i (a := n) (b := 16) (by omega)
    rw [show ((16 : Nat) : Int) = 16 from rfl] at e2
    rw [e1, e2, s8_eq (by omega) (by omega), bitLen_shift x 16 (by omega)]
    congr 3; omega
  · rw [decide_eq_false (by omega), cond_false, s8_eq (by omega) (by omega)]

theorem Len64T_eq {x : Nat} (hx : x < 18446744073709551616) : Len64T x = some (i64 (bitLen x : Int)) := by
  unfold Len64T
  by_cases h : 4294967296 ≤ x
  · rw [decide_eq_true (by omega), cond_true]
    have e1 := iShr_u x 32 (by omega)
    rw [show ((32 : Nat) : Int) = 32 from rfl] at e1
    have e3 := s16_eq (x := x / 2 ^ 32) (n := 32) (by omega) (by omega)
    rw [show ((32 : Nat) : Int) = 32 from rfl] at e3
    rw [e1, e3, bitLen_shift x 32 (by omega)]
  · have e3 := s16_eq (x := x) (n := 0) (by omega) (by omega)
    rw [show ((0 : Nat) : Int) = 0 from rfl] at e3
    rw [decide_eq_false (by omega), cond_false, e3, Nat.zero_add]

def LenF : List Value → Option (Bool × Value)
  | [x] => some (isNum x, i64 (bitLen (unnum x) : Int))
  | _ => none

def lenD (a : Nat) (q : Int) (k : Option Value) : Option Value :=
  bif (a : Int) != 0 then req (isU64 (u64 a)) (some (i64 (iAdd .i64 (iMul .i64 64 q) (bitLen a : Int)))) else k
def LenT (a b c d : Nat) : Option Value := lenD d 3 (lenD c 2 (lenD b 1 (lenD a 0 (some (i64 0)))))

theorem lenD_zero (q : Int) (k : Option Value) : lenD 0 q k = k := rfl
theorem lenD_pos {a : Nat} (h : a ≠ 0) (ha : a < 18446744073709551616) (q : Nat) (hq : q ≤ 3) (k : Option Value) : lenD a (q : Int) k = some (i64 ((64 * q + bitLen a : Nat) : Int)) := by
  unfold lenD
  have : ((a : Int) != 0) = true := by rw [bne_iff_ne]; omega
  have hb := bitLen_lt (k := 64) (show a < 2 ^ 64 from ha)
  rw [this, cond_true, isU64_u64 ha, req_true rfl]
  unfold iAdd iMul
  rw [wrap_i64 (n := 64 * (q : Int)) (by omega), wrap_i64 (by omega)]
  congr 2

theorem bitLen_hi {a q k : Nat} (ha : a < 2 ^ k) (hq : q ≠ 0) : bitLen (a + 2 ^ k * q) = k + bitLen q := by
  have hd : (a + 2 ^ k * q) / 2 ^ k = q := by rw [Nat.add_mul_div_left _ _ (Nat.two_pow_pos k), Nat.div_eq_of_lt ha, Nat.zero_add]
  rw [bitLen_shift _ k (by rw [hd]; exact hq), hd]

theorem LenT_eq {a b c d : Nat} (ha : a < 18446744073709551616) (hb : b < 18446744073709551616) (hc : c < 18446744073709551616) (hd : d < 18446744073709551616) : LenT a b c d = some (i64 (bitLen (hor a b c d) : Int)) := by
  unfold LenT hor
  by_cases h3 : d = 0
  · subst h3
    rw [lenD_zero]
    by_cases h2 : c = 0
    · subst h2
      rw [lenD_zero]
      by_cases h1 : b = 0
      · subst h1
        rw [lenD_zero]
        by_cases h0 : a = 0
        · subst h0; rfl
        · have := lenD_pos h0 ha 0 (by omega) (some (i64 0))
          rw [show ((0 : Nat) : Int) = 0 from rfl] at this
          rw [this]; simp
      · have := lenD_pos h1 hb 1 (by omega) (lenD a 0 (some (i64 0)))
        rw [show ((1 : Nat) : Int) = 1 from rfl] at this
        have e := bitLen_hi (a := a) (k := 64) (q := b) ha h1
        rw [this, show a + 18446744073709551616 * (b + 18446744073709551616 * (0 + 18446744073709551616 * 0)) = a + 2 ^ 64 * b from by omega, e]
    · have := lenD_pos h2 hc 2 (by omega) (lenD b 1 (lenD a 0 (some (i64 0))))
      rw [show ((2 : Nat) : Int) = 2 from rfl] at this
      have e := bitLen_hi (a := a + 18446744073709551616 * b) (k := 128) (q := c) (by omega) h2
      rw [this, show a + 18446744073709551616 * (b + 18446744073709551616 * (c + 18446744073709551616 * 0)) = a + 18446744073709551616 * b + 2 ^ 128 * c from by omega, e]
  · have := lenD_pos h3 hd 3 (by omega) (lenD c 2 (lenD b 1 (lenD a 0 (some (i64 0)))))
    rw [show ((3 : Nat) : Int) = 3 from rfl] at this
    have e := bitLen_hi (a := a + 18446744073709551616 * (b + 18446744073709551616 * c)) (k := 192) (q := d) (by omega) h3
    rw [this, show a + 18446744073709551616 * (b + 18446744073709551616 * (c + 18446744073709551616 * d)) = a + 18446744073709551616 * (b + 18446744073709551616 * c) + 2 ^ 192 * d from by omega, e]

/-! ## Bytes -/

def u8 (x : Nat) : Value := .int .u8 (x : Int)
def isU8 : Value → Bool
  | .int .u8 x => decide (0 ≤ x) && Nat.ble x.toNat 255
  | _ => false
def isB32 (v : Value) : Bool := aggK v (fun l => Nat.beq l.length 32 && l.all isU8) false

def bytesL : Nat → Nat → List Value
  | 0, _ => []
  | n + 1, X => bytesL n (X / 256) ++ [u8 (X % 256)]
def bytesV (X : Nat) : Value := .agg (bytesL 32 X).toArray
def unBy (l : List Value) : Nat := l.foldl (fun a v => a * 256 + intN v) 0
def unbytes (v : Value) : Nat := unBy v.cells.toList

def BytesF : List Value → Option (Bool × Value)
  | [x] => some (isNum x, bytesV (unnum x))
  | _ => none
def OfF : List Value → Option (Bool × Value)
  | [b] => some (isB32 b, num (unbytes b))
  | _ => none

theorem bytesL_len : ∀ (n X : Nat), (bytesL n X).length = n
  | 0, _ => rfl
  | n + 1, X => by simp [bytesL, bytesL_len n]

theorem bytesL_u8 : ∀ (n X : Nat), (bytesL n X).all isU8 = true
  | 0, _ => rfl
  | n + 1, X => by
    simp only [bytesL, List.all_append, bytesL_u8 n, List.all_cons, List.all_nil, Bool.and_true, Bool.true_and]
    show (decide ((0 : Int) ≤ ((X % 256 : Nat) : Int)) && Nat.ble (X % 256) 255) = true
    rw [Bool.and_eq_true, Nat.ble_eq]
    exact ⟨decide_eq_true (by omega), by omega⟩

theorem isB32_of {l : List Value} (hl : l.length = 32) (h : l.all isU8 = true) : isB32 (.agg l.toArray) = true := by
  unfold isB32 aggK
  simp only [h, hl, Bool.and_true]
  rfl

theorem isB32_bytesV (X : Nat) : isB32 (bytesV X) = true := isB32_of (bytesL_len 32 X) (bytesL_u8 32 X)

theorem unBy_bytesL : ∀ (n X acc : Nat), (bytesL n X).foldl (fun a v => a * 256 + intN v) acc = acc * 256 ^ n + X % 256 ^ n
  | 0, X, acc => by simp [bytesL, Nat.mod_one]
  | n + 1, X, acc => by
    simp only [bytesL, List.foldl_append, List.foldl_cons, List.foldl_nil, unBy_bytesL n (X / 256) acc]
    show (acc * 256 ^ n + X / 256 % 256 ^ n) * 256 + X % 256 = _
    rw [Nat.pow_succ, Nat.mul_comm (256 ^ n) 256, Nat.mod_mul, Nat.add_mul]
    have : acc * 256 ^ n * 256 = acc * (256 * 256 ^ n) := by rw [Nat.mul_assoc, Nat.mul_comm (256 ^ n)]
    rw [this]; omega

theorem unbytes_agg (l : List Value) : unbytes (.agg l.toArray) = unBy l := by simp [unbytes, Value.cells]

theorem p256 : (256 : Nat) ^ 32 = 2 ^ 256 := by decide

theorem unbytes_bytesV (X : Nat) : unbytes (bytesV X) = X % 2 ^ 256 := by
  unfold bytesV
  rw [unbytes_agg]
  unfold unBy
  rw [unBy_bytesL, Nat.zero_mul, Nat.zero_add, p256]

theorem isU8_some {v : Value} (h : isU8 v = true) : ∃ x, x < 256 ∧ v = u8 x := by
  unfold isU8 at h
  split at h
  · rename_i x
    simp only [Bool.and_eq_true, decide_eq_true_eq, Nat.ble_eq] at h
    exact ⟨x.toNat, by omega, by simp [u8]; omega⟩
  · simp at h

theorem bytesL_unByy : ∀ (l : List Value), l.all isU8 = true → bytesL l.length (unBy l) = l := by
  intro l
  -- from behind
  have key : ∀ (m : List Value), m.all isU8 = true → bytesL m.reverse.length (unBy m.reverse) = m.reverse := by
    intro m
    induction m with
    | nil => intro _; rfl
    | cons v m ih =>
      intro h
      simp only [List.all_cons, Bool.and_eq_true] at h
      obtain ⟨x, hx, rfl⟩ := isU8_some h.1
      have ih := ih h.2
      have e1 : unBy (m.reverse ++ [u8 x]) = unBy m.reverse * 256 + x := by
        unfold unBy; rw [List.foldl_append]; rfl
      rw [List.reverse_cons, List.length_append, e1]
      show bytesL m.reverse.length ((unBy m.reverse * 256 + x) / 256) ++ [u8 ((unBy m.reverse * 256 + x) % 256)] = _
      rw [show (unBy m.reverse * 256 + x) / 256 = unBy m.reverse from by omega, show (unBy m.reverse * 256 + x) % 256 = x from by omega, ih]
  intro h
  have := key l.reverse (by rw [List.all_reverse]; exact h)
  rwa [List.reverse_reverse] at this

theorem unBy_lt : ∀ (l : List Value), l.all isU8 = true → unBy l < 256 ^ l.length := by
  intro l h
  have e := bytesL_unByy l h
  have := unBy_bytesL l.length (unBy l) 0
  rw [Nat.zero_mul, Nat.zero_add, e] at this
  have hp : 0 < 256 ^ l.length := Nat.pow_pos (by decide)
  have hm := Nat.mod_lt (unBy l) hp
  rw [← this] at hm
  exact hm

theorem isB32_some {v : Value} (h : isB32 v = true) : ∃ X, X < 2 ^ 256 ∧ v = bytesV X ∧ unbytes v = X := by
  unfold isB32 aggK at h
  split at h
  · rename_i cs
    simp only [Bool.and_eq_true] at h
    have hl := nbeq.1 h.1
    refine ⟨unBy cs.toList, ?_, ?_, rfl⟩
    · have := unBy_lt cs.toList h.2
      rwa [hl, p256] at this
    · have := bytesL_unByy cs.toList h.2
      rw [hl] at this
      unfold bytesV
      rw [this]
  · simp at h

/-- A number's bytes are those of its digits. -/
theorem bytesL_split : ∀ (m n X : Nat), bytesL (n + m) X = bytesL n (X / 256 ^ m) ++ bytesL m X
  | 0, n, X => by simp [bytesL]
  | m + 1, n, X => by
    show bytesL (n + m) (X / 256) ++ [u8 (X % 256)] = _
    rw [bytesL_split m n (X / 256), List.append_assoc, Nat.pow_succ, Nat.mul_comm, ← Nat.div_div_eq_div_mul]
    rfl

theorem bytesL_mod : ∀ (m X Q : Nat), bytesL m (X + 256 ^ m * Q) = bytesL m X
  | 0, _, _ => rfl
  | m + 1, X, Q => by
    show bytesL m ((X + 256 ^ (m + 1) * Q) / 256) ++ [u8 ((X + 256 ^ (m + 1) * Q) % 256)] = _
    have e : 256 ^ (m + 1) * Q = 256 * (256 ^ m * Q) := by rw [Nat.pow_succ, Nat.mul_comm (256 ^ m), Nat.mul_assoc]
    rw [e, Nat.add_mul_div_left _ _ (by decide), Nat.add_mul_mod_self_left, bytesL_mod m (X / 256) Q]
    rfl

theorem bytesL_hor {a b c d : Nat} (ha : a < 18446744073709551616) (hb : b < 18446744073709551616) (hc : c < 18446744073709551616) : bytesL 32 (hor a b c d) = bytesL 8 d ++ (bytesL 8 c ++ (bytesL 8 b ++ bytesL 8 a)) := by
  have p8 : (256 : Nat) ^ 8 = 18446744073709551616 := by decide
  have s : ∀ n x q, x < 18446744073709551616 → bytesL (n + 8) (x + 18446744073709551616 * q) = bytesL n q ++ bytesL 8 x := by
    intro n x q hx
    have e2 := bytesL_mod 8 x q
    rw [p8] at e2
    rw [bytesL_split 8 n, p8, e2, show (x + 18446744073709551616 * q) / 18446744073709551616 = q from by omega]
  unfold hor
  rw [show (32 : Nat) = 24 + 8 from rfl, s 24 a _ ha, show (24 : Nat) = 16 + 8 from rfl, s 16 b _ hb, show (16 : Nat) = 8 + 8 from rfl, s 8 c _ hc]
  simp only [List.append_assoc]

def by8 (a : Int) (s : Int) : Value := .int .u8 (IntKind.u8.wrap (iShr .u64 a s))
theorem by8_eq (a s : Nat) (hs : s ≤ 64) : by8 (a : Int) (s : Int) = u8 (a / 2 ^ s % 256) := by
  unfold by8 u8; rw [iShr_u a s hs, wrap_u8]; congr 1
def dig8 (a : Int) : List Value := [by8 a 56, by8 a 48, by8 a 40, by8 a 32, by8 a 24, by8 a 16, by8 a 8, by8 a 0]
theorem dig8_eq (a : Nat) : dig8 (a : Int) = bytesL 8 a := by
  have e : bytesL 8 a = [u8 (a / 2 ^ 56 % 256), u8 (a / 2 ^ 48 % 256), u8 (a / 2 ^ 40 % 256), u8 (a / 2 ^ 32 % 256), u8 (a / 2 ^ 24 % 256), u8 (a / 2 ^ 16 % 256), u8 (a / 2 ^ 8 % 256), u8 (a / 2 ^ 0 % 256)] := by
    simp only [bytesL, List.nil_append, List.cons_append, Nat.div_div_eq_div_mul, Nat.pow_zero, Nat.div_one]
  rw [e]
  unfold dig8
  rw [← by8_eq a 56 (by omega), ← by8_eq a 48 (by omega), ← by8_eq a 40 (by omega), ← by8_eq a 32 (by omega), ← by8_eq a 24 (by omega), ← by8_eq a 16 (by omega), ← by8_eq a 8 (by omega), ← by8_eq a 0 (by omega)]
  rfl
def BytesT (a b c d : Nat) : Option Value := some (.agg (dig8 d ++ (dig8 c ++ (dig8 b ++ dig8 a))).toArray)
theorem BytesT_eq {a b c d : Nat} (ha : a < 18446744073709551616) (hb : b < 18446744073709551616) (hc : c < 18446744073709551616) : BytesT a b c d = some (bytesV (hor a b c d)) := by
  unfold BytesT bytesV
  rw [dig8_eq, dig8_eq, dig8_eq, dig8_eq, bytesL_hor ha hb hc]

/-! ## Of -/

def or8 (acc : Int) (x : Nat) (s : Int) : Int := iOr .u64 acc (iShl .u64 (IntKind.u64.wrap (x : Int)) s)
def of8 (x0 x1 x2 x3 x4 x5 x6 x7 : Nat) : Int := or8 (or8 (or8 (or8 (or8 (or8 (or8 (or8 0 x0 56) x1 48) x2 40) x3 32) x4 24) x5 16) x6 8) x7 0

theorem or8_eq {A x s : Nat} (hs : s ≤ 56) (hA : A * 2 ^ (s + 8) < 18446744073709551616) (hx : x < 256) : or8 ((A * 2 ^ (s + 8) : Nat) : Int) x (s : Int) = (((A * 256 + x) * 2 ^ s : Nat) : Int) := by
  unfold or8
  have hsm : x * 2 ^ s < 2 ^ (s + 8) := by rw [Nat.pow_add, Nat.mul_comm]; exact Nat.mul_lt_mul_of_pos_left (by omega) (Nat.two_pow_pos s)
  have hle : (2 : Nat) ^ (s + 8) ≤ 18446744073709551616 := by rw [show (18446744073709551616 : Nat) = 2 ^ 64 from by decide]; exact Nat.pow_le_pow_right (by decide) (by omega)
  have e1 : IntKind.u64.wrap (x : Int) = (x : Int) := by rw [wrap_u64]; omega
  have e2 : iShl .u64 (x : Int) (s : Int) = ((x * 2 ^ s : Nat) : Int) := by
    unfold iShl
    have : min (s : Int).toNat IntKind.u64.bits = s := by show min s 64 = s; omega
    rw [this, wrap_u64]
    have e : ((x : Int) * 2 ^ s) = ((x * 2 ^ s : Nat) : Int) := by simp
    rw [e]; omega
  rw [e1, e2, iOr_u hA (by omega)]
  have := Nat.shiftLeft_add_eq_or_of_lt (b := x * 2 ^ s) (i := s + 8) hsm A
  rw [Nat.shiftLeft_eq] at this
  rw [← this, Nat.pow_add, Nat.add_mul, Nat.mul_assoc, Nat.mul_comm 256]

theorem of8_eq {x0 x1 x2 x3 x4 x5 x6 x7 : Nat} (h0 : x0 < 256) (h1 : x1 < 256) (h2 : x2 < 256) (h3 : x3 < 256) (h4 : x4 < 256) (h5 : x5 < 256) (h6 : x6 < 256) (h7 : x7 < 256) :
    of8 x0 x1 x2 x3 x4 x5 x6 x7 = ((((((((((x0 * 256 + x1) * 256 + x2) * 256 + x3) * 256 + x4) * 256 + x5) * 256 + x6) * 256 + x7) : Nat) : Int)) := by
  unfold of8
  have f0 := or8_eq (A := 0) (x := x0) (s := 56) (by omega) (by rw [Nat.zero_mul]; decide) h0
  rw [Nat.zero_mul, Nat.zero_add] at f0
  have f1 := or8_eq (A := x0) (x := x1) (s := 48) (by omega) (by omega) h1
  rw [show ((48 : Nat) : Int) = 48 from rfl, show 48 + 8 = 56 from rfl] at f1
  have f2 := or8_eq (A := x0 * 256 + x1) (x := x2) (s := 40) (by omega) (by omega) h2
  rw [show ((40 : Nat) : Int) = 40 from rfl, show 40 + 8 = 48 from rfl] at f2
  have f3 := or8_eq (A := (x0 * 256 + x1) * 256 + x2) (x := x3) (s := 32) (by omega) (by omega) h3
  rw [show ((32 : Nat) : Int) = 32 from rfl, show 32 + 8 = 40 from rfl] at f3
  have f4 := or8_eq (A := ((x0 * 256 + x1) * 256 + x2) * 256 + x3) (x := x4) (s := 24) (by omega) (by omega) h4
  rw [show ((24 : Nat) : Int) = 24 from rfl, show 24 + 8 = 32 from rfl] at f4
  have f5 := or8_eq (A := (((x0 * 256 + x1) * 256 + x2) * 256 + x3) * 256 + x4) (x := x5) (s := 16) (by omega) (by omega) h5
  rw [show ((16 : Nat) : Int) = 16 from rfl, show 16 + 8 = 24 from rfl] at f5
  have f6 := or8_eq (A := ((((x0 * 256 + x1) * 256 + x2) * 256 + x3) * 256 + x4) * 256 + x5) (x := x6) (s := 8) (by omega) (by omega) h6
  rw [show ((8 : Nat) : Int) = 8 from rfl, show 8 + 8 = 16 from rfl] at f6
  have f7 := or8_eq (A := (((((x0 * 256 + x1) * 256 + x2) * 256 + x3) * 256 + x4) * 256 + x5) * 256 + x6) (x := x7) (s := 0) (by omega) (by omega) h7
  rw [show ((0 : Nat) : Int) = 0 from rfl, show 0 + 8 = 8 from rfl, Nat.pow_zero, Nat.mul_one] at f7
  have f0' : or8 0 x0 56 = ((x0 * 2 ^ 56 : Nat) : Int) := f0
  rw [f0', f1, f2, f3, f4, f5, f6, f7]

end Go.W
