/-
  The laws of what comes back, and of what is left, as trees over numbers.
-/
import Derived.Test.YtdhbnidobpkkfaaM6
namespace Go.W

def sD (x y : Value) : Value := num (2 ^ 256 + unnum x - unnum y)
def sB (x y : Value) : Nat := if unnum x < unnum y then 1 else 0
def cI (x y : Value) : Int := cmpI (unnum x) (unnum y)

def BackT (a b c : Value) : Option Value :=
  let s := aS a b
  r2 a b <| r2 s b <| bif !(eqV (sD s b) a) then fls else bif ((aC a b : Nat) : Int) != ((sB s b : Nat) : Int) then fls else
  r2 a b <| r2 a b <| bif !(decide (cI a b < 0) == (((sB a b : Nat) : Int) == 1)) then fls else
  r2 a b <| r2 b a <| bif cI a b != IntKind.i64.wrap (0 - cI b a) then fls else
  r2 a a <| bif cI a a != 0 then fls else
  r2 a b <| r2 b a <| bif !(eqV (mL a b) (mL b a)) then fls else bif !(eqV (mH a b) (mH b a)) then fls else
  r2 s c <| r2 a c <| r2 b c <| r2 (mL a c) (mL b c) <| bif eqV (mL s c) (aS (mL a c) (mL b c)) then tru else fls

theorem cI_num {X Y : Nat} (hX : X < 2 ^ 256) (hY : Y < 2 ^ 256) : cI (num X) (num Y) = cmpI X Y := by unfold cI; rw [unnum_lt hX, unnum_lt hY]
theorem sB_num (X Y : Nat) : sB (num X) (num Y) = if X % 2 ^ 256 < Y % 2 ^ 256 then 1 else 0 := by unfold sB; rw [unnum_num, unnum_num]
theorem sD_num (X Y : Nat) : sD (num X) (num Y) = num (2 ^ 256 + X % 2 ^ 256 - Y % 2 ^ 256) := by unfold sD; rw [unnum_num, unnum_num]
theorem cmpI_self (X : Nat) : cmpI X X = 0 := by unfold cmpI; rw [if_neg (Nat.lt_irrefl X), if_neg (Nat.lt_irrefl X)]

theorem BackT_eq {A B C : Nat} (hA : A < 2 ^ 256) (hB : B < 2 ^ 256) (_hC : C < 2 ^ 256) : BackT (num A) (num B) (num C) = tru := by
  unfold BackT
  simp only [aS_num, mL_num, mH_num hA hB, mH_num hB hA, r2_num, eqV_num, cI_num hA hB, cI_num hB hA, cI_num hA hA, cmpI_self]
  have e1 : decide ((A + B) * C % 2 ^ 256 = (A * C + B * C) % 2 ^ 256) = true := decide_eq_true (by rw [Nat.add_mul])
  have e2 : decide (A * B % 2 ^ 256 = B * A % 2 ^ 256) = true := decide_eq_true (by rw [Nat.mul_comm])
  have e3 : decide (A * B / 2 ^ 256 % 2 ^ 256 = B * A / 2 ^ 256 % 2 ^ 256) = true := decide_eq_true (by rw [Nat.mul_comm])
  have e4 : (cmpI A B != IntKind.i64.wrap (0 - cmpI B A)) = false := by
    unfold cmpI
    rcases Nat.lt_trichotomy A B with h | rfl | h
    · rw [if_pos h, if_neg (show ¬ B < A by omega), if_pos h]; rfl
    · rw [if_neg (Nat.lt_irrefl A), if_neg (Nat.lt_irrefl A)]; rfl
    · rw [if_neg (show ¬ A < B by omega), if_pos h, if_pos h]; rfl
  have e5 : (decide (cmpI A B < 0) == (((sB (num A) (num B) : Nat) : Int) == 1)) = true := by
    unfold sB cmpI; rw [unnum_lt hA, unnum_lt hB]
    by_cases h : A < B
    · rw [if_pos h, if_pos h]; rfl
    · rw [if_neg h, if_neg h]
      by_cases h' : B < A
      · rw [if_pos h']; rfl
      · rw [if_neg h']; rfl
  have e6 : eqV (sD (num (A + B)) (num B)) (num A) = true := by
    rw [sD_num, eqV_num]; exact decide_eq_true (by omega)
  have e7 : (((aC (num A) (num B) : Nat) : Int) != ((sB (num (A + B)) (num B) : Nat) : Int)) = false := by
    rw [aC_num, sB_num]
    have : (A % 2 ^ 256 + B % 2 ^ 256) / 2 ^ 256 = if (A + B) % 2 ^ 256 < B % 2 ^ 256 then 1 else 0 := by split <;> omega
    rw [this]; exact bne_self_eq_false _
  rw [e1, e2, e3, e4, e5, e6, e7]; rfl

def modR (h l m : Value) : Value := num (modN (unnum h) (unnum l) (unnum m))
def modEv (m : Value) : Int := modE (unnum m)
def r3 {α : Type} (x y z : Value) (k : Option α) : Option α := req (isNum x && isNum y && isNum z) k
def okB (m : Value) : Bool := modEv m == 0
def RestT (a b m z : Value) : Option Value :=
  let x := modR z a m; let y := modR z b m; let lo := mL a b; let hi := mH a b; let p := modR hi lo m
  let l := mL x y; let h := mH x y; let q := modR h l m; let s := aS a m; let r := modR (one (aC a m)) s m
  bif eqV m z then tru else
  r3 z a m <| r3 z b m <| r2 a b <| r3 hi lo m <| r2 x y <| r3 h l m <| r2 a m <| r3 (one (aC a m)) s m <|
  bif okB m then (bif okB m then (bif okB m then (bif okB m then (bif okB m then (bif eqV p q then (bif eqV r x then
    (r2 a m <| bif decide (cI a m ≥ 0) then (r2 x m <| bif decide (cI x m < 0) then tru else fls) else (bif eqV x a then (r2 x m <| bif decide (cI x m < 0) then tru else fls) else fls)) else fls) else fls) else fls) else fls) else fls) else fls) else fls

theorem r3_num {α : Type} (X Y Z : Nat) (k : Option α) : r3 (num X) (num Y) (num Z) k = k := by unfold r3; rw [isNum_num, isNum_num, isNum_num, req_true (b := true && true && true) rfl]

theorem RestT_eq {A B M : Nat} (hA : A < 2 ^ 256) (hB : B < 2 ^ 256) (hM : M < 2 ^ 256) : RestT (num A) (num B) (num M) (num 0) = tru := by
  unfold RestT
  by_cases h0 : M = 0
  · subst h0
    rw [eqV_num, decide_eq_true rfl]; rfl
  · have hpos : 0 < M := by omega
    have hn : ∀ H L, modN H L M = (H * 2 ^ 256 + L) % M := fun H L => by unfold modN; rw [if_neg h0]
    have e0 : eqV (num M) (num 0) = false := by rw [eqV_num]; exact decide_eq_false (by rw [Nat.mod_eq_of_lt hM]; simpa using h0)
    have eok : okB (num M) = true := by unfold okB modEv modE; rw [unnum_lt hM, if_neg h0]; rfl
    have eA : modR (num 0) (num A) (num M) = num (A % M) := by
      unfold modR; rw [unnum_lt (show 0 < 2 ^ 256 by decide), unnum_lt hA, unnum_lt hM, hn, Nat.zero_mul, Nat.zero_add]
    have eB : modR (num 0) (num B) (num M) = num (B % M) := by
      unfold modR; rw [unnum_lt (show 0 < 2 ^ 256 by decide), unnum_lt hB, unnum_lt hM, hn, Nat.zero_mul, Nat.zero_add]
    have xA : A % M < M := Nat.mod_lt _ hpos
    have xB : B % M < M := Nat.mod_lt _ hpos
    have wide : ∀ X Y, X < 2 ^ 256 → Y < 2 ^ 256 → modR (mH (num X) (num Y)) (mL (num X) (num Y)) (num M) = num (X * Y % M) := by
      intro X Y hX hY
      rw [mH_num hX hY, mL_num]
      unfold modR
      rw [unnum_num, unnum_num, unnum_lt hM, hn]
      have hXY : X * Y < 2 ^ 256 * 2 ^ 256 := Nat.mul_lt_mul'' hX hY
      generalize X * Y = z at *
      have h2 : z / 2 ^ 256 < 2 ^ 256 := Nat.div_lt_of_lt_mul hXY
      rw [Nat.mod_eq_of_lt h2]
      congr 2
      omega
    simp only [eA, eB, e0, eok, wide A B hA hB, wide (A % M) (B % M) (by omega) (by omega), one_num (aC_lt _ _), cond_false, cond_true]
    have er : modR (num (aC (num A) (num M))) (aS (num A) (num M)) (num M) = num (A % M) := by
      rw [aS_num, aC_num]
      unfold modR
      rw [unnum_num, unnum_num, unnum_lt hM, hn, Nat.mod_eq_of_lt hA, Nat.mod_eq_of_lt hM]
      have : (A + M) / 2 ^ 256 % 2 ^ 256 * 2 ^ 256 + (A + M) % 2 ^ 256 = A + M := by omega
      rw [this, Nat.add_mod_right]
    rw [er]
    have ep : eqV (num (A * B % M)) (num (A % M * (B % M) % M)) = true := by
      rw [eqV_num]; exact decide_eq_true (by rw [← Nat.mul_mod])
    have ex : eqV (num (A % M)) (num (A % M)) = true := by rw [eqV_num]; exact decide_eq_true rfl
    have hx2 : A % M < 2 ^ 256 := by omega
    rw [mH_num hA hB, mH_num hx2 (show B % M < 2 ^ 256 by omega), mL_num, mL_num, aS_num]
    simp only [r3_num, r2_num, ep, ex, cond_true, cI_num hA hM, cI_num hx2 hM]
    have ec : decide (cmpI (A % M) M < 0) = true := decide_eq_true (by unfold cmpI; rw [if_pos xA]; decide)
    rw [ec]
    by_cases hlt : A < M
    · have e9 : decide (cmpI A M ≥ 0) = false := decide_eq_false (by unfold cmpI; rw [if_pos hlt]; decide)
      rw [e9, Nat.mod_eq_of_lt hlt, eqV_num, decide_eq_true rfl]; rfl
    · have e9 : decide (cmpI A M ≥ 0) = true := decide_eq_true (by unfold cmpI; rw [if_neg hlt]; split <;> decide)
      rw [e9]; rfl

end Go.W
