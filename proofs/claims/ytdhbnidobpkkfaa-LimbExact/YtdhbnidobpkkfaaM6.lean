/-
  The laws of package limb, as trees over numbers: squares.
-/
import Derived.Test.YtdhbnidobpkkfaaM5
namespace Go.W

def aS (x y : Value) : Value := num (unnum x + unnum y)
def aC (x y : Value) : Nat := (unnum x + unnum y) / 2 ^ 256
def mL (x y : Value) : Value := num (unnum x * unnum y)
def mH (x y : Value) : Value := num (unnum x * unnum y / 2 ^ 256)
def one (c : Nat) : Value := .agg #[u64 c, u64 0, u64 0, u64 0]
def r2 {α : Type} (x y : Value) (k : Option α) : Option α := req (isNum x && isNum y) k
def eqV (x y : Value) : Bool := eqL x.cells.toList y.cells.toList
def tru : Option Value := some (.bool true)
def fls : Option Value := some (.bool false)

theorem r2_num {α : Type} (X Y : Nat) (k : Option α) : r2 (num X) (num Y) k = k := by unfold r2; rw [isNum_num, isNum_num, req_true (b := true && true) rfl]

theorem aS_num (X Y : Nat) : aS (num X) (num Y) = num (X + Y) := by
  unfold aS; rw [unnum_num, unnum_num, ← num_mod (X + Y), Nat.add_mod, num_mod]
theorem mL_num (X Y : Nat) : mL (num X) (num Y) = num (X * Y) := by
  unfold mL; rw [unnum_num, unnum_num, ← num_mod (X * Y), Nat.mul_mod, num_mod]
theorem mH_num {X Y : Nat} (hX : X < 2 ^ 256) (hY : Y < 2 ^ 256) : mH (num X) (num Y) = num (X * Y / 2 ^ 256) := by
  unfold mH; rw [unnum_lt hX, unnum_lt hY]
theorem aC_num (X Y : Nat) : aC (num X) (num Y) = (X % 2 ^ 256 + Y % 2 ^ 256) / 2 ^ 256 := by
  unfold aC; rw [unnum_num, unnum_num]
theorem one_num {c : Nat} (h : c < 18446744073709551616) : one c = num c := by
  have := num_hor h (show 0 < 18446744073709551616 by decide) (show 0 < 18446744073709551616 by decide) (show 0 < 18446744073709551616 by decide) 0
  rw [show hor c 0 0 (0 + 18446744073709551616 * 0) = c from by unfold hor; omega] at this
  rw [this]; rfl
theorem aC_lt (X Y : Nat) : aC (num X) (num Y) < 18446744073709551616 := by
  rw [aC_num]; omega
theorem eqV_num (X Y : Nat) : eqV (num X) (num Y) = decide (X % 2 ^ 256 = Y % 2 ^ 256) := eq_num X Y

def sqA (a0 a1 a2 a3 : Nat) : Value := .agg #[u64 a0, u64 a1, u64 a2, .int .u64 (iShr .u64 (a3 : Int) 1)]

def SqT (a b : Value) : Option Value :=
  let s := aS a b; let lo := mL s s; let hi := mH s s
  let al := mL a a; let ah := mH a a; let bl := mL b b; let bh := mH b b; let pl := mL a b; let ph := mH a b
  let l := aS al bl; let c1 := aC al bl; let h := aS ah bh; let h1 := aS h (one c1)
  let l2 := aS l pl; let c2 := aC l pl; let h2 := aS h1 ph; let h3 := aS h2 (one c2)
  let l4 := aS l2 pl; let c4 := aC l2 pl; let h4 := aS h3 ph; let h5 := aS h4 (one c4)
  r2 a b <| r2 s s <| r2 a a <| r2 b b <| r2 a b <| r2 al bl <| r2 ah bh <| r2 h (one c1) <| r2 l pl <| r2 h1 ph <| r2 h2 (one c2) <| r2 l2 pl <| r2 h3 ph <| r2 h4 (one c4) <|
    bif ((aC a b : Nat) : Int) == 0 then (bif eqV l4 lo then (bif eqV h5 hi then tru else fls) else fls) else fls

theorem sqA_num {a0 a1 a2 a3 : Nat} (h0 : a0 < 18446744073709551616) (h1 : a1 < 18446744073709551616) (h2 : a2 < 18446744073709551616) (h3 : a3 < 18446744073709551616) :
    ∃ A, A < 2 ^ 255 ∧ sqA a0 a1 a2 a3 = num A := by
  have e := iShr_u a3 1 (by omega)
  rw [show ((1 : Nat) : Int) = 1 from rfl] at e
  refine ⟨hor a0 a1 a2 (a3 / 2 ^ 1), by unfold hor; omega, ?_⟩
  have := num_hor h0 h1 h2 (show a3 / 2 ^ 1 < 18446744073709551616 by omega) 0
  rw [Nat.mul_zero, Nat.add_zero] at this
  rw [this]
  unfold sqA
  rw [e]; rfl

theorem SqT_eq {A B : Nat} (hA : A < 2 ^ 255) (hB : B < 2 ^ 255) : SqT (num A) (num B) = tru := by
  have hA' : A < 2 ^ 256 := by omega
  have hB' : B < 2 ^ 256 := by omega
  have hS : A + B < 2 ^ 256 := by omega
  unfold SqT
  simp only [aS_num, mL_num, mH_num hA' hA', mH_num hB' hB', mH_num hA' hB', mH_num hS hS, one_num (aC_lt _ _), r2_num, eqV_num]
  simp only [aC_num]
  have e0 : (A % 2 ^ 256 + B % 2 ^ 256) / 2 ^ 256 = 0 := by omega
  have hsq : (A + B) * (A + B) = A * A + B * B + A * B + A * B := by grind
  rw [e0, hsq]
  generalize A * A = x
  generalize B * B = y
  generalize A * B = z
  have e1 : decide ((x + y + z + z) % 2 ^ 256 = (x + y + z + z) % 2 ^ 256) = true := decide_eq_true rfl
  rw [e1]
  have e2 : decide ((x / 2 ^ 256 + y / 2 ^ 256 + (x % 2 ^ 256 + y % 2 ^ 256) / 2 ^ 256 + z / 2 ^ 256 + ((x + y) % 2 ^ 256 + z % 2 ^ 256) / 2 ^ 256 + z / 2 ^ 256 + ((x + y + z) % 2 ^ 256 + z % 2 ^ 256) / 2 ^ 256) % 2 ^ 256 = (x + y + z + z) / 2 ^ 256 % 2 ^ 256) = true :=
    decide_eq_true (by omega)
  rw [e2]
  rfl

end Go.W
