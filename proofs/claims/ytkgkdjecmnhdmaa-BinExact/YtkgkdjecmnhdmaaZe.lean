/-
  Several texts in one: N6 N7 N9 N10 M24 M25 M26 M29 M31 W17 Ba W25 M35 M36 M37 M38 M39 W21 M51 M52 M32 M55 W22 W28 W29 M81 Va M82 Vb W31 M86.
-/
import Derived.Test.YtkgkdjecmnhdmaaZd
import Derived.KernelRfl
import Derived.ChangeArms
import Derived.Deep.Slices
namespace Go.W
section
variable {P0 : Nat} [NeZero P0]
def fX (X1 Y1 Z1 X2 Y2 Z2 : (Fin P0)) : (Fin P0) := (X1 * Y2 + X2 * Y1) * (Y1 * Y2 - 21 * (Z1 * Z2)) - 21 * (Y1 * Z2 + Y2 * Z1) * (X1 * Z2 + X2 * Z1)
def fY (X1 Y1 Z1 X2 Y2 Z2 : (Fin P0)) : (Fin P0) := (Y1 * Y2 + 21 * (Z1 * Z2)) * (Y1 * Y2 - 21 * (Z1 * Z2)) + 63 * (X1 * X2) * (X1 * Z2 + X2 * Z1)
def fZ (X1 Y1 Z1 X2 Y2 Z2 : (Fin P0)) : (Fin P0) := (Y1 * Z2 + Y2 * Z1) * (Y1 * Y2 + 21 * (Z1 * Z2)) + 3 * (X1 * X2) * (X1 * Y2 + X2 * Y1)
end
def e3 : PE := .add (.add .one .one) .one
def e7 : PE := .add (.add (.add .one .one) (.add .one .one)) e3
def e21 : PE := .mul e3 e7
def e63 : PE := .mul e3 e21
def eX (X1 Y1 Z1 X2 Y2 Z2 : PE) : PE := .sub (.mul (.add (.mul X1 Y2) (.mul X2 Y1)) (.sub (.mul Y1 Y2) (.mul e21 (.mul Z1 Z2)))) (.mul (.mul e21 (.add (.mul Y1 Z2) (.mul Y2 Z1))) (.add (.mul X1 Z2) (.mul X2 Z1)))
def eY (X1 Y1 Z1 X2 Y2 Z2 : PE) : PE := .add (.mul (.add (.mul Y1 Y2) (.mul e21 (.mul Z1 Z2))) (.sub (.mul Y1 Y2) (.mul e21 (.mul Z1 Z2)))) (.mul (.mul e63 (.mul X1 X2)) (.add (.mul X1 Z2) (.mul X2 Z1)))
def eZ (X1 Y1 Z1 X2 Y2 Z2 : PE) : PE := .add (.mul (.add (.mul Y1 Z2) (.mul Y2 Z1)) (.add (.mul Y1 Y2) (.mul e21 (.mul Z1 Z2)))) (.mul (.mul e3 (.mul X1 X2)) (.add (.mul X1 Y2) (.mul X2 Y1)))
def ePQ (f : PE → PE → PE → PE → PE → PE → PE) : PE := f (.v 0) (.v 1) .one (.v 2) (.v 3) .one
def eQR (f : PE → PE → PE → PE → PE → PE → PE) : PE := f (.v 2) (.v 3) .one (.v 4) (.v 5) .one
def eL (f : PE → PE → PE → PE → PE → PE → PE) : PE := f (ePQ eX) (ePQ eY) (ePQ eZ) (.v 4) (.v 5) .one
def eR (f : PE → PE → PE → PE → PE → PE → PE) : PE := f (.v 0) (.v 1) .one (eQR eX) (eQR eY) (eQR eZ)
def asX : PE := .sub (.mul (eL eX) (eR eZ)) (.mul (eL eZ) (eR eX))
def asY : PE := .sub (.mul (eL eY) (eR eZ)) (.mul (eL eZ) (eR eY))
theorem asX_chk : chkP (2 ^ 49) (2 ^ 472) (2 ^ 6114) (2 ^ 61036) asX = true := by kernel_rfl
theorem asY_chk : chkP (2 ^ 49) (2 ^ 472) (2 ^ 6114) (2 ^ 61036) asY = true := by kernel_rfl
section
variable {P0 : Nat} [NeZero P0]
theorem e3_ev (env : Nat → (Fin P0)) : e3.ev (oF P0) env = 3 := by simp only [e3, PE.ev, oF]; grind
theorem e7_ev (env : Nat → (Fin P0)) : e7.ev (oF P0) env = 7 := by simp only [e7, e3, PE.ev, oF]; grind
theorem e21_ev (env : Nat → (Fin P0)) : e21.ev (oF P0) env = 21 := by
  show e3.ev (oF P0) env * e7.ev (oF P0) env = 21
  rw [e3_ev, e7_ev]; grind
theorem e63_ev (env : Nat → (Fin P0)) : e63.ev (oF P0) env = 63 := by
  show e3.ev (oF P0) env * e21.ev (oF P0) env = 63
  rw [e3_ev, e21_ev]; grind
theorem eX_ev (env : Nat → (Fin P0)) (a b c d e f : PE) : (eX a b c d e f).ev (oF P0) env = fX (a.ev (oF P0) env) (b.ev (oF P0) env) (c.ev (oF P0) env) (d.ev (oF P0) env) (e.ev (oF P0) env) (f.ev (oF P0) env) := by
  unfold fX
  rw [← e21_ev env]; rfl
theorem eY_ev (env : Nat → (Fin P0)) (a b c d e f : PE) : (eY a b c d e f).ev (oF P0) env = fY (a.ev (oF P0) env) (b.ev (oF P0) env) (c.ev (oF P0) env) (d.ev (oF P0) env) (e.ev (oF P0) env) (f.ev (oF P0) env) := by
  unfold fY
  rw [← e21_ev env, ← e63_ev env]; rfl
theorem eZ_ev (env : Nat → (Fin P0)) (a b c d e f : PE) : (eZ a b c d e f).ev (oF P0) env = fZ (a.ev (oF P0) env) (b.ev (oF P0) env) (c.ev (oF P0) env) (d.ev (oF P0) env) (e.ev (oF P0) env) (f.ev (oF P0) env) := by
  unfold fZ
  rw [← e21_ev env, ← e3_ev env]; rfl
theorem assocX {x1 y1 x2 y2 x3 y3 : (Fin P0)} (h1 : y1 * y1 = x1 * x1 * x1 + 7) (h2 : y2 * y2 = x2 * x2 * x2 + 7) (h3 : y3 * y3 = x3 * x3 * x3 + 7) :
    fX (fX x1 y1 1 x2 y2 1) (fY x1 y1 1 x2 y2 1) (fZ x1 y1 1 x2 y2 1) x3 y3 1 * fZ x1 y1 1 (fX x2 y2 1 x3 y3 1) (fY x2 y2 1 x3 y3 1) (fZ x2 y2 1 x3 y3 1) =
    fZ (fX x1 y1 1 x2 y2 1) (fY x1 y1 1 x2 y2 1) (fZ x1 y1 1 x2 y2 1) x3 y3 1 * fX x1 y1 1 (fX x2 y2 1 x3 y3 1) (fY x2 y2 1 x3 y3 1) (fZ x2 y2 1 x3 y3 1) := by
  have h := poly_zero (Nat.two_pow_pos _) asX_chk h1 h2 h3
  have e : asX.ev (oF P0) (envK x1 y1 x2 y2 x3 y3) = (eL eX).ev (oF P0) (envK x1 y1 x2 y2 x3 y3) * (eR eZ).ev (oF P0) (envK x1 y1 x2 y2 x3 y3) - (eL eZ).ev (oF P0) (envK x1 y1 x2 y2 x3 y3) * (eR eX).ev (oF P0) (envK x1 y1 x2 y2 x3 y3) := rfl
  rw [e] at h
  simp only [eL, eR, ePQ, eQR, eX_ev, eY_ev, eZ_ev, PE.ev, envK] at h
  have o : (oF P0).one = 1 := rfl
  rw [o] at h
  generalize fX (fX x1 y1 1 x2 y2 1) (fY x1 y1 1 x2 y2 1) (fZ x1 y1 1 x2 y2 1) x3 y3 1 = A at *
  generalize fZ (fX x1 y1 1 x2 y2 1) (fY x1 y1 1 x2 y2 1) (fZ x1 y1 1 x2 y2 1) x3 y3 1 = B at *
  generalize fX x1 y1 1 (fX x2 y2 1 x3 y3 1) (fY x2 y2 1 x3 y3 1) (fZ x2 y2 1 x3 y3 1) = C at *
  generalize fZ x1 y1 1 (fX x2 y2 1 x3 y3 1) (fY x2 y2 1 x3 y3 1) (fZ x2 y2 1 x3 y3 1) = D at *
  grind
theorem assocY {x1 y1 x2 y2 x3 y3 : (Fin P0)} (h1 : y1 * y1 = x1 * x1 * x1 + 7) (h2 : y2 * y2 = x2 * x2 * x2 + 7) (h3 : y3 * y3 = x3 * x3 * x3 + 7) :
    fY (fX x1 y1 1 x2 y2 1) (fY x1 y1 1 x2 y2 1) (fZ x1 y1 1 x2 y2 1) x3 y3 1 * fZ x1 y1 1 (fX x2 y2 1 x3 y3 1) (fY x2 y2 1 x3 y3 1) (fZ x2 y2 1 x3 y3 1) =
    fZ (fX x1 y1 1 x2 y2 1) (fY x1 y1 1 x2 y2 1) (fZ x1 y1 1 x2 y2 1) x3 y3 1 * fY x1 y1 1 (fX x2 y2 1 x3 y3 1) (fY x2 y2 1 x3 y3 1) (fZ x2 y2 1 x3 y3 1) := by
  have h := poly_zero (Nat.two_pow_pos _) asY_chk h1 h2 h3
  have e : asY.ev (oF P0) (envK x1 y1 x2 y2 x3 y3) = (eL eY).ev (oF P0) (envK x1 y1 x2 y2 x3 y3) * (eR eZ).ev (oF P0) (envK x1 y1 x2 y2 x3 y3) - (eL eZ).ev (oF P0) (envK x1 y1 x2 y2 x3 y3) * (eR eY).ev (oF P0) (envK x1 y1 x2 y2 x3 y3) := rfl
  rw [e] at h
  simp only [eL, eR, ePQ, eQR, eX_ev, eY_ev, eZ_ev, PE.ev, envK] at h
  have o : (oF P0).one = 1 := rfl
  rw [o] at h
  generalize fY (fX x1 y1 1 x2 y2 1) (fY x1 y1 1 x2 y2 1) (fZ x1 y1 1 x2 y2 1) x3 y3 1 = A at *
  generalize fZ (fX x1 y1 1 x2 y2 1) (fY x1 y1 1 x2 y2 1) (fZ x1 y1 1 x2 y2 1) x3 y3 1 = B at *
  generalize fY x1 y1 1 (fX x2 y2 1 x3 y3 1) (fY x2 y2 1 x3 y3 1) (fZ x2 y2 1 x3 y3 1) = C at *
  generalize fZ x1 y1 1 (fX x2 y2 1 x3 y3 1) (fY x2 y2 1 x3 y3 1) (fZ x2 y2 1 x3 y3 1) = D at *
  grind
end
end Go.W

namespace Go.W
section
variable {P0 : Nat} [NeZero P0]
theorem g1 {a b c x : (Fin P0)} (h : a - b - c = x) : a = x + b + c := by grind
theorem g2 (k x1 y1 x3 : (Fin P0)) : (k * (x1 - x3) - y1) * (k * (x1 - x3) - y1) = (k * k) * ((x3 - x1) * (x3 - x1)) + (2 * k * y1) * (x3 - x1) + y1 * y1 := by grind
theorem g3 {a b c : (Fin P0)} (h : a - b - c = 0) : c = a - b := by grind
theorem g4 (x1 x2 x3 : (Fin P0)) : (x3 + x1 + x2) * ((x3 - x1) * (x3 - x1)) + (x1 * x1 + x1 * x2 + x2 * x2 - (x3 + x1 + x2) * (x2 - x1)) * (x3 - x1) + (x1 * x1 * x1 + 7) = x3 * x3 * x3 + 7 := by grind
theorem g5 {a b c : (Fin P0)} (h1 : a * a = c) (h2 : b * b = c) : (a + b) * (a - b) = 0 := by grind
theorem g6 {a b : (Fin P0)} (h : a - b = 0) : a = b := by grind
theorem g7 (x1 y1 x2 k : (Fin P0)) : (x2 - x1) * (x1 * x1 + x1 * x2 + x2 * x2 - k * k * (x2 - x1) - 2 * k * y1) = (x2 * x2 * x2 + 7) - (x1 * x1 * x1 + 7) - (k * (x2 - x1)) * (k * (x2 - x1) + 2 * y1) := by grind
theorem g8 (y1 y2 : (Fin P0)) : y2 * y2 - y1 * y1 - (y2 - y1) * (y2 - y1 + 2 * y1) = 0 := by grind
theorem g9 (a i d : (Fin P0)) : a * i * d = a * (d * i) := by grind
theorem g10 (a : (Fin P0)) : a * 1 = a := by grind
theorem g11 (y : (Fin P0)) : (0 - y) * (0 - y) = y * y := by grind
theorem g12 (k d x1 x2 y1 : (Fin P0)) : (k * d) * ((x1 + x1 + x2) * (d * d) - (k * d) * (k * d)) - y1 * (d * d * d) = d * (d * (d * (k * (x1 - (k * k - x1 - x2)) - y1))) := by grind
theorem g13 (C k d x1 x2 : (Fin P0)) : C * ((k * d) * (k * d) - (x1 + x2) * (d * d)) = d * d * (C * (k * k - x1 - x2)) := by grind
theorem g14 (C k d x1 x2 y1 : (Fin P0)) : C * ((k * d) * ((x1 + x1 + x2) * (d * d) - (k * d) * (k * d)) - y1 * (d * d * d)) = d * d * d * (C * (k * (x1 - (k * k - x1 - x2)) - y1)) := by grind
theorem g15 (k d x : (Fin P0)) : d * ((k * d) * (k * d) - (x + x) * (d * d)) = d * (d * d) * (k * k - x - x) := by grind
theorem g16 (k d x y : (Fin P0)) : (k * d) * ((x + x + x) * (d * d) - (k * d) * (k * d)) - y * (d * (d * d)) = d * (d * d) * (k * (x - (k * k - x - x)) - y) := by grind
theorem g17 (a : (Fin P0)) : a = a * 1 := by grind
theorem g18 {a b : (Fin P0)} (h : a + b = 0) : b = 0 - a := by grind
theorem g19 (a b c : (Fin P0)) : a * a * (b * c) = a * a * b * c := by grind
theorem g21 {c d x1 x2 : (Fin P0)} (h : c * x1 * (d * 1) = c * 1 * (d * x2)) : c * d * x1 = c * d * x2 := by grind
theorem g22 {c d y : (Fin P0)} (h : c * 1 * (d * 1) = c * 0 * (d * y)) : c * d = 0 := by grind
theorem g23 {c d y : (Fin P0)} (h : c * y * (d * 0) = c * 1 * (d * 1)) : c * d = 0 := by grind
theorem g24 {a b c : (Fin P0)} (h : a * b = a * c) : a * (b - c) = 0 := by grind
theorem g25 {x y k : (Fin P0)} (hk : k * (2 * y) = 3 * (x * x)) : x * x + x * x + x * x - k * k * (x - x) - 2 * k * y = 0 := by grind
theorem g26 (a i b : (Fin P0)) (h : a * i = 1) : b = i * (a * b) := by grind
theorem g27 (a : (Fin P0)) : a * 0 = 0 := by grind
theorem g30 (a b : (Fin P0)) : a * b = b * a := by grind
end
structure Fld (P0 : Nat) [NeZero P0] (inv : Fin P0 → Fin P0) : Prop where
  inv : ∀ a : (Fin P0), a ≠ 0 → a * inv a = 1
  one : (1 : (Fin P0)) ≠ 0
  two : (2 : (Fin P0)) ≠ 0
  tor : ∀ x y : (Fin P0), y * y = x * x * x + 7 → y ≠ 0
inductive Pt (KK : Type) where
  | inf
  | aff (x y : KK)
  deriving DecidableEq
section
variable {P0 : Nat} [NeZero P0]
theorem gz {x1 y1 x2 y2 : (Fin P0)} (h1 : y1 * y1 = x1 * x1 * x1 + 7) (h2 : y2 * y2 = x2 * x2 * x2 + 7) :
    fZ x1 y1 1 x2 y2 1 = (0 - y2 - y1) * ((x1 + x1 + x2) * ((x2 - x1) * (x2 - x1)) - (0 - y2 - y1) * (0 - y2 - y1)) - y1 * ((x2 - x1) * (x2 - x1) * (x2 - x1)) := by unfold fZ; grind
theorem gxx {x1 y1 x2 y2 : (Fin P0)} (h1 : y1 * y1 = x1 * x1 * x1 + 7) (h2 : y2 * y2 = x2 * x2 * x2 + 7) :
    (x2 - x1) * (x2 - x1) * fX x1 y1 1 x2 y2 1 = fZ x1 y1 1 x2 y2 1 * ((y2 - y1) * (y2 - y1) - (x1 + x2) * ((x2 - x1) * (x2 - x1))) := by unfold fX fZ; grind
theorem gyy {x1 y1 x2 y2 : (Fin P0)} (h1 : y1 * y1 = x1 * x1 * x1 + 7) (h2 : y2 * y2 = x2 * x2 * x2 + 7) :
    (x2 - x1) * (x2 - x1) * (x2 - x1) * fY x1 y1 1 x2 y2 1 = fZ x1 y1 1 x2 y2 1 * ((y2 - y1) * ((x1 + x1 + x2) * ((x2 - x1) * (x2 - x1)) - (y2 - y1) * (y2 - y1)) - y1 * ((x2 - x1) * (x2 - x1) * (x2 - x1))) := by unfold fY fZ; grind
theorem gtz {x y : (Fin P0)} (h1 : y * y = x * x * x + 7) : fZ x y 1 x y 1 = (2 * y) * ((2 * y) * (2 * y)) := by unfold fZ; grind
theorem gtx {x y : (Fin P0)} (h1 : y * y = x * x * x + 7) : fX x y 1 x y 1 = (2 * y) * ((3 * (x * x)) * (3 * (x * x)) - (x + x) * ((2 * y) * (2 * y))) := by unfold fX; grind
theorem gty {x y : (Fin P0)} (h1 : y * y = x * x * x + 7) : fY x y 1 x y 1 = (3 * (x * x)) * ((x + x + x) * ((2 * y) * (2 * y)) - (3 * (x * x)) * (3 * (x * x))) - y * ((2 * y) * ((2 * y) * (2 * y))) := by unfold fY; grind
theorem gox (x y : (Fin P0)) : fX x y 1 x (0 - y) 1 = 0 := by unfold fX; grind
theorem goz (x y : (Fin P0)) : fZ x y 1 x (0 - y) 1 = 0 := by unfold fZ; grind
theorem goy {x y : (Fin P0)} (h1 : y * y = x * x * x + 7) : fY x y 1 x (0 - y) 1 = (3 * (x * x)) * ((x + x + x) * ((2 * y) * (2 * y)) - (3 * (x * x)) * (3 * (x * x))) - y * ((2 * y) * (2 * y) * (2 * y)) := by unfold fY; grind
end
section
variable {P0 : Nat} [NeZero P0] {inv : Fin P0 → Fin P0}
theorem Fld.dom (F : Fld P0 inv) {a b : (Fin P0)} (h : a * b = 0) : a = 0 ∨ b = 0 := by
  by_cases ha : a = 0
  · exact .inl ha
  · right
    have h1 := F.inv a ha
    rw [g26 a (inv a) b h1, h, g27]
theorem Fld.mul_ne (F : Fld P0 inv) {a b : (Fin P0)} (ha : a ≠ 0) (hb : b ≠ 0) : a * b ≠ 0 := fun h => (F.dom h).elim ha hb
theorem Fld.cancel (F : Fld P0 inv) {a b c : (Fin P0)} (ha : a ≠ 0) (h : a * b = a * c) : b = c := by
  rcases F.dom (g24 h) with h1 | h1
  · exact absurd h1 ha
  · exact g6 h1
def On : Pt (Fin P0) → Prop
  | .inf => True
  | .aff x y => y * y = x * x * x + 7
def line (k x1 y1 x2 : (Fin P0)) : Pt (Fin P0) := .aff (k * k - x1 - x2) (k * (x1 - (k * k - x1 - x2)) - y1)
theorem line_on {k x1 y1 x2 : (Fin P0)} (h1 : y1 * y1 = x1 * x1 * x1 + 7) (hE : x1 * x1 + x1 * x2 + x2 * x2 - k * k * (x2 - x1) - 2 * k * y1 = 0) : On (line k x1 y1 x2) := by
  show (k * (x1 - (k * k - x1 - x2)) - y1) * (k * (x1 - (k * k - x1 - x2)) - y1) = (k * k - x1 - x2) * (k * k - x1 - x2) * (k * k - x1 - x2) + 7
  generalize hx : k * k - x1 - x2 = x3
  have hk : k * k = x3 + x1 + x2 := g1 hx
  have e2 := g3 hE
  rw [hk] at e2
  rw [g2, e2, hk, h1]; exact g4 x1 x2 x3
theorem sq_eq (F : Fld P0 inv) {x y1 y2 : (Fin P0)} (h1 : y1 * y1 = x * x * x + 7) (h2 : y2 * y2 = x * x * x + 7) : y1 + y2 = 0 ∨ y1 = y2 := by
  rcases F.dom (g5 h1 h2) with h | h
  · exact .inl h
  · exact .inr (g6 h)
theorem chord_E (F : Fld P0 inv) {x1 y1 x2 y2 k : (Fin P0)} (h1 : y1 * y1 = x1 * x1 * x1 + 7) (h2 : y2 * y2 = x2 * x2 * x2 + 7) (hd : x2 - x1 ≠ 0) (hk : k * (x2 - x1) = y2 - y1) :
    x1 * x1 + x1 * x2 + x2 * x2 - k * k * (x2 - x1) - 2 * k * y1 = 0 := by
  have e := g7 x1 y1 x2 k
  rw [hk, ← h1, ← h2, g8] at e
  exact (F.dom e).resolve_left hd
theorem tan_E {x y k : (Fin P0)} (hk : k * (2 * y) = 3 * (x * x)) : x * x + x * x + x * x - k * k * (x - x) - 2 * k * y = 0 := g25 hk
theorem chord_k (F : Fld P0 inv) {x1 y1 x2 y2 : (Fin P0)} (hd : x2 - x1 ≠ 0) : (y2 - y1) * inv (x2 - x1) * (x2 - x1) = y2 - y1 := by
  rw [g9, F.inv _ hd, g10]
theorem tan_k (F : Fld P0 inv) {x y : (Fin P0)} (hd : 2 * y ≠ 0) : 3 * (x * x) * inv (2 * y) * (2 * y) = 3 * (x * x) := by
  rw [g9, F.inv _ hd, g10]
def pX : Pt (Fin P0) → (Fin P0)
  | .inf => 0
  | .aff x _ => x
def pY : Pt (Fin P0) → (Fin P0)
  | .inf => 1
  | .aff _ y => y
def pZ : Pt (Fin P0) → (Fin P0)
  | .inf => 0
  | .aff _ _ => 1
def Is (c : (Fin P0)) (p : Pt (Fin P0)) (X Y Z : (Fin P0)) : Prop := X = c * pX p ∧ Y = c * pY p ∧ Z = c * pZ p
theorem chord_is (F : Fld P0 inv) {x1 y1 x2 y2 k : (Fin P0)} (h1 : y1 * y1 = x1 * x1 * x1 + 7) (h2 : y2 * y2 = x2 * x2 * x2 + 7) (hd : x2 - x1 ≠ 0) (hk : k * (x2 - x1) = y2 - y1) :
    fZ x1 y1 1 x2 y2 1 ≠ 0 ∧ Is (fZ x1 y1 1 x2 y2 1) (line k x1 y1 x2) (fX x1 y1 1 x2 y2 1) (fY x1 y1 1 x2 y2 1) (fZ x1 y1 1 x2 y2 1) := by
  constructor
  · -- the other point's counterpart
    have h2' : (0 - y2) * (0 - y2) = x2 * x2 * x2 + 7 := by rw [g11, h2]
    have hk' := chord_k F (y1 := y1) (y2 := 0 - y2) hd
    have hon := line_on h1 (chord_E F h1 h2' hd hk')
    generalize (0 - y2 - y1) * inv (x2 - x1) = k' at hk' hon
    have hy := F.tor _ _ hon
    have e : fZ x1 y1 1 x2 y2 1 = (x2 - x1) * ((x2 - x1) * ((x2 - x1) * (k' * (x1 - (k' * k' - x1 - x2)) - y1))) := by
      rw [gz h1 h2, ← hk']; exact g12 _ _ _ _ _
    rw [e]
    exact F.mul_ne hd (F.mul_ne hd (F.mul_ne hd hy))
  · have gx := gxx h1 h2
    have gy := gyy h1 h2
    generalize fX x1 y1 1 x2 y2 1 = A at *
    generalize fY x1 y1 1 x2 y2 1 = B at *
    generalize fZ x1 y1 1 x2 y2 1 = C at *
    have hd2 := F.mul_ne hd hd
    refine ⟨F.cancel hd2 ?_, F.cancel (F.mul_ne hd2 hd) ?_, ?_⟩
    · show (x2 - x1) * (x2 - x1) * A = (x2 - x1) * (x2 - x1) * (C * (k * k - x1 - x2))
      rw [gx, ← hk]; exact g13 _ _ _ _ _
    · show (x2 - x1) * (x2 - x1) * (x2 - x1) * B = (x2 - x1) * (x2 - x1) * (x2 - x1) * (C * (k * (x1 - (k * k - x1 - x2)) - y1))
      rw [gy, ← hk]; exact g14 _ _ _ _ _ _
    · show C = C * 1
      exact g17 _
theorem tan_is (F : Fld P0 inv) {x y k : (Fin P0)} (h1 : y * y = x * x * x + 7) (hk : k * (2 * y) = 3 * (x * x)) :
    fZ x y 1 x y 1 ≠ 0 ∧ Is (fZ x y 1 x y 1) (line k x y x) (fX x y 1 x y 1) (fY x y 1 x y 1) (fZ x y 1 x y 1) := by
  have hy := F.tor _ _ h1
  have h2 := F.mul_ne F.two hy
  have hz := gtz h1
  constructor
  · rw [hz]; exact F.mul_ne h2 (F.mul_ne h2 h2)
  · have gx := gtx h1
    have gy := gty h1
    refine ⟨?_, ?_, ?_⟩
    · show _ = fZ x y 1 x y 1 * (k * k - x - x)
      rw [gx, hz, ← hk]; exact g15 _ _ _
    · show _ = fZ x y 1 x y 1 * (k * (x - (k * k - x - x)) - y)
      rw [gy, hz, ← hk]; exact g16 _ _ _ _
    · show _ = fZ x y 1 x y 1 * 1
      exact g17 _
theorem same_pt (F : Fld P0 inv) {p q : Pt (Fin P0)} {c d X Y Z X' Y' Z' : (Fin P0)} (hc : c ≠ 0) (hd : d ≠ 0) (hp : Is c p X Y Z) (hq : Is d q X' Y' Z') (hx : X * Z' = Z * X') (hy : Y * Z' = Z * Y') : p = q := by
  obtain ⟨rfl, rfl, rfl⟩ := hp
  obtain ⟨rfl, rfl, rfl⟩ := hq
  have hcd := F.mul_ne hc hd
  match p, q, hx, hy with
  | .inf, .inf, _, _ => rfl
  | .inf, .aff x y, hx, hy =>
    simp only [pY, pZ] at hy
    exact absurd (g22 hy) hcd
  | .aff x y, .inf, hx, hy =>
    simp only [pY, pZ] at hy
    exact absurd (g23 hy) hcd
  | .aff x1 y1, .aff x2 y2, hx, hy =>
    simp only [pX, pY, pZ] at hx hy
    have e1 : x1 = x2 := F.cancel hcd (g21 hx)
    have e2 : y1 = y2 := F.cancel hcd (g21 hy)
    rw [e1, e2]
theorem f_left (c X Y Z X' Y' Z' : (Fin P0)) : fX (c * X) (c * Y) (c * Z) X' Y' Z' = c * c * fX X Y Z X' Y' Z' ∧ fY (c * X) (c * Y) (c * Z) X' Y' Z' = c * c * fY X Y Z X' Y' Z' ∧ fZ (c * X) (c * Y) (c * Z) X' Y' Z' = c * c * fZ X Y Z X' Y' Z' := by
  refine ⟨?_, ?_, ?_⟩
  · unfold fX; grind
  · unfold fY; grind
  · unfold fZ; grind
theorem f_right (c X Y Z X' Y' Z' : (Fin P0)) : fX X' Y' Z' (c * X) (c * Y) (c * Z) = c * c * fX X' Y' Z' X Y Z ∧ fY X' Y' Z' (c * X) (c * Y) (c * Z) = c * c * fY X' Y' Z' X Y Z ∧ fZ X' Y' Z' (c * X) (c * Y) (c * Z) = c * c * fZ X' Y' Z' X Y Z := by
  refine ⟨?_, ?_, ?_⟩
  · unfold fX; grind
  · unfold fY; grind
  · unfold fZ; grind
def addP (inv : (Fin P0) → (Fin P0)) : Pt (Fin P0) → Pt (Fin P0) → Pt (Fin P0)
  | .inf, q => q
  | .aff x y, .inf => .aff x y
  | .aff x1 y1, .aff x2 y2 =>
    if x1 = x2 then (if y1 + y2 = 0 then .inf else line (3 * (x1 * x1) * inv (2 * y1)) x1 y1 x1)
    else line ((y2 - y1) * inv (x2 - x1)) x1 y1 x2
theorem addP_aff (x1 y1 x2 y2 : (Fin P0)) : addP inv (.aff x1 y1) (.aff x2 y2) = if x1 = x2 then (if y1 + y2 = 0 then .inf else line (3 * (x1 * x1) * inv (2 * y1)) x1 y1 x1)
    else line ((y2 - y1) * inv (x2 - x1)) x1 y1 x2 := rfl
theorem add_on (F : Fld P0 inv) {p q : Pt (Fin P0)} (hp : On p) (hq : On q) : On (addP inv p q) := by
  match p, q, hp, hq with
  | .inf, q, _, hq => exact hq
  | .aff x y, .inf, hp, _ => exact hp
  | .aff x1 y1, .aff x2 y2, hp, hq =>
    rw [addP_aff]
    split
    · rename_i hx
      split
      · trivial
      · have hy : y1 ≠ 0 := F.tor _ _ hp
        exact line_on hp (tan_E (tan_k F (F.mul_ne F.two hy)))
    · rename_i hx
      have hd : x2 - x1 ≠ 0 := fun h => hx (g6 h).symm
      exact line_on hp (chord_E F hp hq hd (chord_k F hd))
theorem add_is (F : Fld P0 inv) {p q : Pt (Fin P0)} (hp : On p) (hq : On q) : ∃ c, c ≠ 0 ∧
    Is c (addP inv p q) (fX (pX p) (pY p) (pZ p) (pX q) (pY q) (pZ q)) (fY (pX p) (pY p) (pZ p) (pX q) (pY q) (pZ q)) (fZ (pX p) (pY p) (pZ p) (pX q) (pY q) (pZ q)) := by
  match p, q, hp, hq with
  | .inf, .inf, _, _ =>
    refine ⟨1, F.one, ?_, ?_, ?_⟩ <;> simp only [fX, fY, fZ, pX, pY, pZ, addP] <;> grind
  | .inf, .aff x y, _, hq =>
    refine ⟨y, F.tor _ _ hq, ?_, ?_, ?_⟩ <;> simp only [fX, fY, fZ, pX, pY, pZ, addP] <;> grind
  | .aff x y, .inf, hp, _ =>
    refine ⟨y, F.tor _ _ hp, ?_, ?_, ?_⟩ <;> simp only [fX, fY, fZ, pX, pY, pZ, addP] <;> grind
  | .aff x1 y1, .aff x2 y2, hp, hq =>
    rw [addP_aff]
    split
    · rename_i hx
      subst hx
      split
      · rename_i hy
        have e : y2 = 0 - y1 := g18 hy
        subst e
        have hy1 := F.tor _ _ hp
        have hk := tan_k F (x := x1) (F.mul_ne F.two hy1)
        have hon := line_on hp (tan_E hk)
        generalize 3 * (x1 * x1) * inv (2 * y1) = k at hk hon
        have hy3 := F.tor _ _ hon
        have h2 := F.mul_ne F.two hy1
        have e : fY x1 y1 1 x1 (0 - y1) 1 = (2 * y1) * ((2 * y1) * ((2 * y1) * (k * (x1 - (k * k - x1 - x1)) - y1))) := by
          rw [goy hp, ← hk]; exact g12 _ _ _ _ _
        refine ⟨fY x1 y1 1 x1 (0 - y1) 1, by rw [e]; exact F.mul_ne h2 (F.mul_ne h2 (F.mul_ne h2 hy3)), ?_, ?_, ?_⟩
        · show fX x1 y1 1 x1 (0 - y1) 1 = _ * 0
          rw [gox, g27]
        · show _ = fY x1 y1 1 x1 (0 - y1) 1 * 1
          exact g17 _
        · show fZ x1 y1 1 x1 (0 - y1) 1 = _ * 0
          rw [goz, g27]
      · rename_i hy
        have e : y1 = y2 := (sq_eq F hp hq).resolve_left hy
        subst e
        have hy1 := F.tor _ _ hp
        exact ⟨_, tan_is F hp (tan_k F (F.mul_ne F.two hy1))⟩
    · rename_i hx
      have hd : x2 - x1 ≠ 0 := fun h => hx (g6 h).symm
      exact ⟨_, chord_is F hp hq hd (chord_k F hd)⟩
theorem add_comm (F : Fld P0 inv) {p q : Pt (Fin P0)} (hp : On p) (hq : On q) : addP inv p q = addP inv q p := by
  obtain ⟨c, hc, h1⟩ := add_is F hp hq
  obtain ⟨d, hd, h2⟩ := add_is F hq hp
  refine same_pt F hc hd h1 h2 ?_ ?_
  · have a : ∀ X1 Y1 Z1 X2 Y2 Z2 : (Fin P0), fX X1 Y1 Z1 X2 Y2 Z2 = fX X2 Y2 Z2 X1 Y1 Z1 := by intros; unfold fX; grind
    have b : ∀ X1 Y1 Z1 X2 Y2 Z2 : (Fin P0), fZ X1 Y1 Z1 X2 Y2 Z2 = fZ X2 Y2 Z2 X1 Y1 Z1 := by intros; unfold fZ; grind
    rw [a (pX p), b (pX p)]; exact g30 _ _
  · have a : ∀ X1 Y1 Z1 X2 Y2 Z2 : (Fin P0), fY X1 Y1 Z1 X2 Y2 Z2 = fY X2 Y2 Z2 X1 Y1 Z1 := by intros; unfold fY; grind
    have b : ∀ X1 Y1 Z1 X2 Y2 Z2 : (Fin P0), fZ X1 Y1 Z1 X2 Y2 Z2 = fZ X2 Y2 Z2 X1 Y1 Z1 := by intros; unfold fZ; grind
    rw [a (pX p), b (pX p)]; exact g30 _ _
theorem add_inf (p : Pt (Fin P0)) : addP inv p .inf = p := by cases p <;> rfl
theorem add_assoc (F : Fld P0 inv) {p q r : Pt (Fin P0)} (hp : On p) (hq : On q) (hr : On r) : addP inv (addP inv p q) r = addP inv p (addP inv q r) := by
  match p, q, r, hp, hq, hr with
  | .inf, q, r, _, _, _ => rfl
  | .aff x1 y1, .inf, r, _, _, _ => rfl
  | .aff x1 y1, .aff x2 y2, .inf, _, _, _ => rw [add_inf, add_inf]
  | .aff x1 y1, .aff x2 y2, .aff x3 y3, hp, hq, hr =>
    obtain ⟨c1, n1, a1, a2, a3⟩ := add_is F hp hq
    obtain ⟨c2, n2, b1, b2, b3⟩ := add_is F (add_on F hp hq) hr
    obtain ⟨c3, n3, d1, d2, d3⟩ := add_is F hq hr
    obtain ⟨c4, n4, g1, g2, g3⟩ := add_is F hp (add_on F hq hr)
    replace a1 : fX x1 y1 1 x2 y2 1 = _ := a1
    replace a2 : fY x1 y1 1 x2 y2 1 = _ := a2
    replace a3 : fZ x1 y1 1 x2 y2 1 = _ := a3
    replace d1 : fX x2 y2 1 x3 y3 1 = _ := d1
    replace d2 : fY x2 y2 1 x3 y3 1 = _ := d2
    replace d3 : fZ x2 y2 1 x3 y3 1 = _ := d3
    have hX := assocX hp hq hr
    have hY := assocY hp hq hr
    rw [a1, a2, a3, d1, d2, d3] at hX hY
    obtain ⟨l1, l2, l3⟩ := f_left c1 (pX (addP inv (.aff x1 y1) (.aff x2 y2))) (pY (addP inv (.aff x1 y1) (.aff x2 y2))) (pZ (addP inv (.aff x1 y1) (.aff x2 y2))) x3 y3 1
    obtain ⟨r1, r2, r3⟩ := f_right c3 (pX (addP inv (.aff x2 y2) (.aff x3 y3))) (pY (addP inv (.aff x2 y2) (.aff x3 y3))) (pZ (addP inv (.aff x2 y2) (.aff x3 y3))) x1 y1 1
    rw [l1, l3, r1, r3] at hX
    rw [l2, l3, r2, r3] at hY
    have k1 : c1 * c1 * c2 ≠ 0 := F.mul_ne (F.mul_ne n1 n1) n2
    have k2 : c3 * c3 * c4 ≠ 0 := F.mul_ne (F.mul_ne n3 n3) n4
    refine same_pt F k1 k2 (X := c1 * c1 * fX (pX (addP inv (.aff x1 y1) (.aff x2 y2))) (pY (addP inv (.aff x1 y1) (.aff x2 y2))) (pZ (addP inv (.aff x1 y1) (.aff x2 y2))) x3 y3 1) (Y := c1 * c1 * fY (pX (addP inv (.aff x1 y1) (.aff x2 y2))) (pY (addP inv (.aff x1 y1) (.aff x2 y2))) (pZ (addP inv (.aff x1 y1) (.aff x2 y2))) x3 y3 1) (Z := c1 * c1 * fZ (pX (addP inv (.aff x1 y1) (.aff x2 y2))) (pY (addP inv (.aff x1 y1) (.aff x2 y2))) (pZ (addP inv (.aff x1 y1) (.aff x2 y2))) x3 y3 1)
      (X' := c3 * c3 * fX x1 y1 1 (pX (addP inv (.aff x2 y2) (.aff x3 y3))) (pY (addP inv (.aff x2 y2) (.aff x3 y3))) (pZ (addP inv (.aff x2 y2) (.aff x3 y3)))) (Y' := c3 * c3 * fY x1 y1 1 (pX (addP inv (.aff x2 y2) (.aff x3 y3))) (pY (addP inv (.aff x2 y2) (.aff x3 y3))) (pZ (addP inv (.aff x2 y2) (.aff x3 y3)))) (Z' := c3 * c3 * fZ x1 y1 1 (pX (addP inv (.aff x2 y2) (.aff x3 y3))) (pY (addP inv (.aff x2 y2) (.aff x3 y3))) (pZ (addP inv (.aff x2 y2) (.aff x3 y3)))) ?_ ?_ hX hY
    · refine ⟨?_, ?_, ?_⟩
      · rw [show fX (pX (addP inv (.aff x1 y1) (.aff x2 y2))) (pY (addP inv (.aff x1 y1) (.aff x2 y2))) (pZ (addP inv (.aff x1 y1) (.aff x2 y2))) x3 y3 1 = _ from b1]; exact g19 _ _ _
      · rw [show fY (pX (addP inv (.aff x1 y1) (.aff x2 y2))) (pY (addP inv (.aff x1 y1) (.aff x2 y2))) (pZ (addP inv (.aff x1 y1) (.aff x2 y2))) x3 y3 1 = _ from b2]; exact g19 _ _ _
      · rw [show fZ (pX (addP inv (.aff x1 y1) (.aff x2 y2))) (pY (addP inv (.aff x1 y1) (.aff x2 y2))) (pZ (addP inv (.aff x1 y1) (.aff x2 y2))) x3 y3 1 = _ from b3]; exact g19 _ _ _
    · refine ⟨?_, ?_, ?_⟩
      · rw [show fX x1 y1 1 (pX (addP inv (.aff x2 y2) (.aff x3 y3))) (pY (addP inv (.aff x2 y2) (.aff x3 y3))) (pZ (addP inv (.aff x2 y2) (.aff x3 y3))) = _ from g1]; exact g19 _ _ _
      · rw [show fY x1 y1 1 (pX (addP inv (.aff x2 y2) (.aff x3 y3))) (pY (addP inv (.aff x2 y2) (.aff x3 y3))) (pZ (addP inv (.aff x2 y2) (.aff x3 y3))) = _ from g2]; exact g19 _ _ _
      · rw [show fZ x1 y1 1 (pX (addP inv (.aff x2 y2) (.aff x3 y3))) (pY (addP inv (.aff x2 y2) (.aff x3 y3))) (pZ (addP inv (.aff x2 y2) (.aff x3 y3))) = _ from g3]; exact g19 _ _ _
end
end Go.W

namespace Go.W
instance neP : NeZero pP := ⟨by decide⟩
abbrev Kp := Fin pP
def zP (X : Nat) : Kp := Fin.ofNat pP X
theorem prime_pos : 0 < pP ∧ 1 < pP := by decide
theorem fermat {A : Nat} (h : A % pP ≠ 0) : A ^ (pP - 1) % pP = 1 := by
  have := genP.inv h
  rw [show pP - 1 = (pP - 2) + 1 from by have := prime_pos; omega, Nat.pow_succ, Nat.mul_comm]
  exact this
abbrev N3 := Nat × Nat × Nat
end Go.W

namespace Go.W
section
variable {P0 : Nat} [NeZero P0]
theorem j1 (x b : (Fin P0)) : (x + b) * (x + b) - x * x - b * b = 2 * (x * b) := by grind
theorem j2 (k a b z : (Fin P0)) : (k * (2 * b) * (z * z * (z * z))) * (k * (2 * b) * (z * z * (z * z))) - (4 * (a * (z * z) * (b * (z * z * z) * (b * (z * z * z)))) + 4 * (a * (z * z) * (b * (z * z * z) * (b * (z * z * z))))) =
    (k * k - a - a) * ((b * (z * z * z) * z + b * (z * z * z) * z) * (b * (z * z * z) * z + b * (z * z * z) * z)) := by grind
theorem j3 (a z : (Fin P0)) : a * (z * z) * (a * (z * z)) + a * (z * z) * (a * (z * z)) + a * (z * z) * (a * (z * z)) = 3 * (a * a) * (z * z * (z * z)) := by grind
theorem j4 (k a b z : (Fin P0)) : (k * (2 * b) * (z * z * (z * z))) * (4 * (a * (z * z) * (b * (z * z * z) * (b * (z * z * z)))) - (k * k - a - a) * ((b * (z * z * z) * z + b * (z * z * z) * z) * (b * (z * z * z) * z + b * (z * z * z) * z)))
    - 8 * (b * (z * z * z) * (b * (z * z * z)) * (b * (z * z * z) * (b * (z * z * z)))) =
    (k * (a - (k * k - a - a)) - b) * ((b * (z * z * z) * z + b * (z * z * z) * z) * (b * (z * z * z) * z + b * (z * z * z) * z) * (b * (z * z * z) * z + b * (z * z * z) * z)) := by grind
end
def Jr {P0 : Nat} [NeZero P0] (p : Pt (Fin P0)) (x y z : (Fin P0)) : Prop := (z = 0 ∧ p = .inf) ∨ (z ≠ 0 ∧ ∃ a b, p = .aff a b ∧ x = a * (z * z) ∧ y = b * (z * z * z))
section
variable {P0 : Nat} [NeZero P0] {inv : Fin P0 → Fin P0}
end
section
variable {P0 : Nat} [NeZero P0] {inv : Fin P0 → Fin P0}
def twX (x y : (Fin P0)) : (Fin P0) := (x * x + x * x + x * x) * (x * x + x * x + x * x) - (((x + y * y) * (x + y * y) - x * x - y * y * (y * y) + ((x + y * y) * (x + y * y) - x * x - y * y * (y * y))) + ((x + y * y) * (x + y * y) - x * x - y * y * (y * y) + ((x + y * y) * (x + y * y) - x * x - y * y * (y * y))))
def twY (x y : (Fin P0)) : (Fin P0) := (x * x + x * x + x * x) * (((x + y * y) * (x + y * y) - x * x - y * y * (y * y) + ((x + y * y) * (x + y * y) - x * x - y * y * (y * y))) - twX x y) -
  (y * y * (y * y) + y * y * (y * y) + (y * y * (y * y) + y * y * (y * y)) + (y * y * (y * y) + y * y * (y * y) + (y * y * (y * y) + y * y * (y * y))))
def twZ (y z : (Fin P0)) : (Fin P0) := y * z + y * z
def plU (x1 z2 : (Fin P0)) : (Fin P0) := x1 * (z2 * z2)
def plS (y1 z2 : (Fin P0)) : (Fin P0) := y1 * (z2 * z2 * z2)
def plX (u h r : (Fin P0)) : (Fin P0) := r * r - h * h * h - (u * (h * h) + u * (h * h))
end
end Go.W

namespace Go.W
def mp (a b : Nat) : Nat := fmulN 0 a b
def ap (a b : Nat) : Nat := faddN 0 a b
def sp (a b : Nat) : Nat := fsubN 0 a b
structure J3 (p : Pt Kp) (t : N3) : Prop where
  jr : Jr p (zP t.1) (zP t.2.1) (zP t.2.2)
  x : t.1 < pP
  y : t.2.1 < pP
  z : t.2.2 < pP
end Go.W

namespace Go.W
def mv (a b : Value) : Value := num (mp (unnum a) (unnum b))
def av (a b : Value) : Value := num (ap (unnum a) (unnum b))
def sv (a b : Value) : Value := num (sp (unnum a) (unnum b))
section
variable {α : Type}
def m2 (a b : Value) (k : Value → Option α) : Option α := r2 a b (k (mv a b))
def a2 (a b : Value) (k : Value → Option α) : Option α := r2 a b (k (av a b))
def s2 (a b : Value) (k : Value → Option α) : Option α := r2 a b (k (sv a b))
end
end Go.W

namespace Go.W
noncomputable def hide {α : Type} (a : α) : α := Classical.choose (⟨a, rfl⟩ : ∃ x : α, x = a)
theorem hide_eq {α : Type} (a : α) : hide a = a := Classical.choose_spec (⟨a, rfl⟩ : ∃ x : α, x = a)
end Go.W

namespace Go.W
section
variable {P0 : Nat} [NeZero P0]
theorem d1 (x y : Fin P0) : (x * x + (x * x + x * x)) * (x * x + (x * x + x * x)) - (x * ((y + y) * (y + y)) + x * ((y + y) * (y + y))) = twX x y := by unfold twX; grind
theorem d2 (x y : Fin P0) : (x * x + (x * x + x * x)) * (x * ((y + y) * (y + y)) - twX x y) - (y + y) * (y + y) * (y + y) * y = twY x y := by unfold twY; generalize twX x y = w; grind
theorem d3 (y z : Fin P0) : (y + y) * z = twZ y z := by unfold twZ; grind
end
section
variable {P0 : Nat} [NeZero P0]
theorem p1 (x2 z x : Fin P0) : x2 * (z * z) - x = plU x2 z - plU x 1 := by unfold plU; grind
theorem p2 (y2 z y : Fin P0) : y2 * (z * (z * z)) - y = plS y2 z - plS y 1 := by unfold plS; grind
theorem p3 (x h r : Fin P0) : r * r - h * (h * h) - (x * (h * h) + x * (h * h)) = plX (plU x 1) h r := by unfold plX plU; grind
theorem p4 (x y h r w : Fin P0) : r * (x * (h * h) - w) - y * (h * (h * h)) = r * (plU x 1 * (h * h) - w) - plS y 1 * (h * h * h) := by unfold plU plS; grind
end
end Go.W

namespace Go.W
def kB : List CK := [.i .u8]
def bI (f : Nat → List Value) (j : Nat) : Int := toI ((f j).headD (.bool false))
theorem nrm_kB (f : Nat → List Value) (j : Nat) : nrmK kB (f j) = [.int .u8 (bI f j)] := rfl
def aSl (k n : Nat) : Value := .slice (some ⟨1500000 + k, 0, none⟩) n n
noncomputable def eqR (n : Nat) (f : Nat → List Value) (m : Nat) (g : Nat → List Value) : Bool := @decide (n = m ∧ ∀ j, j < n → bI f j = bI g j) (Classical.propDecidable _)
theorem eqR_iff {n m : Nat} {f g : Nat → List Value} : eqR n f m g = true ↔ n = m ∧ ∀ j, j < n → bI f j = bI g j := by
  unfold eqR
  exact ⟨fun h => @of_decide_eq_true _ (Classical.propDecidable _) h, fun h => @decide_eq_true _ (Classical.propDecidable _) h⟩
noncomputable def KbF : List Value → (Nat → Option Blk) → Nat → List (Bool × Value × List (Nat × Blk))
  | [a, b], mm, _ => [((srcB mm kB a).1 && (srcB mm kB b).1 && Nat.ble (srcB mm kB a).2.1 9223372036854775807, .bool (eqR (srcB mm kB a).2.1 (srcB mm kB a).2.2 (srcB mm kB b).2.1 (srcB mm kB b).2.2), [])]
  | _, _, _ => []
theorem pick_one {b : Bool} {v u : Value} {l m : List (Nat × Blk)} (h : pickM [(b, v, l)] = some (u, m)) : b = true ∧ u = v ∧ m = l := by
  simp only [pickM] at h
  obtain ⟨h1, h2⟩ := cond_some.1 h
  cases h2; exact ⟨h1, rfl, rfl⟩
def kbR {α : Type} (n : Nat) (f : Nat → List Value) (m : Nat) (g : Nat → List Value) (i : Int) (next ret out : Option α) : Option α :=
  bif decide (i < (n : Int)) then (req (inR i n) <| req (Nat.blt i.toNat n && true) <| req (inR i m) <| req (Nat.blt i.toNat m && true) <| bif bI f (0 + i.toNat) != bI g (0 + i.toNat) then ret else next) else out
theorem kbR_eq {α : Type} {n : Nat} {f g : Nat → List Value} {k : Nat} (hk : k < n) (next ret out : Option α) : kbR n f n g (k : Int) next ret out = if bI f k = bI g k then next else ret := by
  unfold kbR
  have h1 : inR (k : Int) n = true := by unfold inR; simp only [Bool.and_eq_true, decide_eq_true_eq]; omega
  have h2 : Nat.blt ((k : Int)).toNat n = true := by rw [Nat.blt_eq]; omega
  rw [decide_eq_true (by omega), cond_true, h1, h2, Bool.and_true, req_true rfl, req_true rfl, req_true rfl, req_true rfl, Nat.zero_add, Int.toNat_natCast]
  by_cases h : bI f k = bI g k
  · rw [if_pos h, h, bne_self_eq_false]; rfl
  · rw [if_neg h, bne_iff_ne.2 h]; rfl
theorem kbR_out {α : Type} {n : Nat} {f g : Nat → List Value} (next ret out : Option α) : kbR n f n g (n : Int) next ret out = out := by
  unfold kbR
  rw [decide_eq_false (by omega)]; rfl
theorem first_diff {n : Nat} {f g : Nat → List Value} (h : ¬ ∀ j, j < n → bI f j = bI g j) : ∃ k, k < n ∧ bI f k ≠ bI g k ∧ ∀ j, j < k → bI f j = bI g j := by
  induction n with
  | zero => exact absurd (fun j hj => by omega) h
  | succ n ih =>
    by_cases h1 : ∀ j, j < n → bI f j = bI g j
    · refine ⟨n, by omega, fun e => h (fun j hj => ?_), h1⟩
      rcases Nat.lt_or_ge j n with h2 | h2
      · exact h1 j h2
      · have : j = n := by omega
        rw [this]; exact e
    · obtain ⟨k, h2, h3, h4⟩ := ih h1
      exact ⟨k, by omega, h3, h4⟩
def twF (f : Nat → List Value) : Nat → List Value := fun j => nrmK kB (f (0 + j))
theorem bI_tw (f : Nat → List Value) (j : Nat) : bI (twF f) j = bI f j := by show bI f (0 + j) = bI f j; rw [Nat.zero_add]
def TwnF (e : Nat) : List Value → (Nat → Option Blk) → Nat → List (Bool × Value × List (Nat × Blk))
  | [a], mm, id => [((srcB mm kB a).1 && szOk (srcB mm kB a).2.1 1, .slice (some ⟨nid id 0, 0, none⟩) (srcB mm kB a).2.1 (srcB mm kB a).2.1, [(nid id 0, ⟨.row kB (srcB mm kB a).2.1 (twF (srcB mm kB a).2.2), e, true⟩)])]
  | _, _, _ => []
end Go.W

namespace Go.W
open Go.RowKit (Below)
section
variable {P : Program} {w : World}
def SrcW (w : World) (ks : List CK) (n : Nat) (g : Nat → List Value) (v' : Value) : Prop := ∃ (p : Pl) (e : TypeId), n ≤ p.c ∧ (match p.a with
      | some b => v' = .slice (some ⟨b, p.d, none⟩) n p.c ∧ ∃ cs fz, w.heap[b]? = some (.cells cs e fz) ∧ LP (fun _ _ => False) (rowL ks g 0 n) (cs.toList.drop p.d)
      | none => n = 0 ∧ p.c = 0 ∧ p.d = 0 ∧ Emp v')
def ArgW (w : World) : List Arg → List Value → Prop
  | [], [] => True
  | .pl u :: A, v :: vs => v = u ∧ pl2 u = true ∧ ArgW w A vs
  | .sl ks n g :: A, v :: vs => SrcW w ks n g v ∧ ArgW w A vs
  | _, _ => False
theorem top_mem : ∀ (A : List Arg) (args' : List Value) (k : Nat), ArgW w A args' →
    ∃ (es : Nat → TypeId) (pl : Nat → Option Pl), (∀ i, i < k → pl i = none) ∧
      (∀ i blk, look (cMem es A k) i = some blk → ∃ j p, i = argId j ∧ pl j = some p ∧ PlOk w i blk p) ∧
      (∀ j p, pl j = some p → (look (cMem es A k) (argId j)).isSome = true ∧ ∀ b, p.a = some b → ∃ cs e fz, w.heap[b]? = some (.cells cs e fz)) ∧
      LR (V2 fun i p => ∃ j, i = argId j ∧ pl j = some p) (cArgs A k) args'
  | [], [], k, _ => ⟨fun _ => 0, fun _ => none, fun _ _ => rfl, fun i blk hi => by simp [cMem, look] at hi, fun j p hp => by simp at hp, trivial⟩
  | .pl u :: A, v' :: args', k, hA => by
    obtain ⟨rfl, hp, hA⟩ := hA
    obtain ⟨es, pl, h1, h2, h3, h4⟩ := top_mem A args' (k + 1) hA
    exact ⟨es, pl, fun i hi => h1 i (by omega), h2, h3, (V2_plain hp).2 rfl, h4⟩
  | .sl ks n g :: A, v' :: args', k, hA => by
    obtain ⟨⟨p, e, hc, hm⟩, hA⟩ := hA
    obtain ⟨es, pl, h1, h2, h3, h4⟩ := top_mem A args' (k + 1) hA
    have hcm : cMem (fun j => if j = k then e else es j) A (k + 1) = cMem es A (k + 1) := cMem_congr A (k + 1) (fun j hj => by rw [if_neg (by omega)])
    have hlk : ∀ i, look (cMem (fun j => if j = k then e else es j) (.sl ks n g :: A) k) i = upd (look (cMem es A (k + 1))) (argId k) ⟨.row ks n g, e, false⟩ i := by
      intro i
      rw [cMem, hcm, look_cons, if_pos rfl]
    refine ⟨fun j => if j = k then e else es j, plAt k p pl, ?_, ?_, ?_, ?_, ?_⟩
    · intro i hi
      rw [plAt_ne _ _ (by omega)]; exact h1 i (by omega)
    · intro i blk hi
      rw [hlk] at hi
      by_cases e1 : argId k = i
      · subst e1
        rw [upd_same] at hi
        cases hi
        refine ⟨k, p, rfl, plAt_same _ _ _, rfl, ⟨ks, n, g, rfl⟩, ?_, rfl⟩
        cases hpa : p.a with
        | none =>
          rw [hpa] at hm
          show rowL ks g 0 n = []
          rw [hm.1]; rfl
        | some b =>
          rw [hpa] at hm
          obtain ⟨_, cs, fz, k1, k2⟩ := hm
          refine ⟨cs, fz, k1, ?_⟩
          show LP _ (rowL ks g 0 n) _
          have := (LR_plain (r := V0 fun _ _ => False) (pl := pl0) (fun _ _ hv => V0_plain hv) (rowL_pl ks g n 0)).1 k2
          exact LP_plain (rowL_pl _ _ _ _) this
      · rw [upd_ne _ _ e1] at hi
        obtain ⟨j, p', rfl, k2, k3⟩ := h2 i blk hi
        have hjk : j ≠ k := fun e2 => e1 (by rw [e2])
        exact ⟨j, p', rfl, by rw [plAt_ne _ _ hjk]; exact k2, k3⟩
    · intro j p' hp'
      rw [hlk]
      by_cases e1 : j = k
      · subst e1
        rw [upd_same]
        rw [plAt_same] at hp'
        cases hp'
        refine ⟨rfl, fun b hb => ?_⟩
        rw [hb] at hm
        obtain ⟨_, cs, fz, k1, _⟩ := hm
        exact ⟨cs, e, fz, k1⟩
      · rw [plAt_ne _ _ e1] at hp'
        rw [upd_ne _ _ (by unfold argId; omega)]
        exact h3 j p' hp'
    · refine slice_V2 (q := p) (argId_loose k) ⟨k, rfl, plAt_same _ _ _⟩ hc ?_
      cases hpa : p.a with
      | none => rw [hpa] at hm; exact ⟨hm.1, hm.2.1, hm.2.2.2⟩
      | some b => rw [hpa] at hm; exact hm.1
    · refine LR_mono (fun u u' hu => V2_mono ?_ hu) h4
      rintro i q ⟨j, rfl, hj⟩
      have hjk : j ≠ k := fun e2 => by
        have := h1 k (by omega)
        rw [e2, this] at hj; simp at hj
      exact ⟨j, rfl, by rw [plAt_ne _ _ hjk]; exact hj⟩
  | [], _ :: _, _, hA => hA.elim
  | .pl _ :: _, [], _, hA => hA.elim
  | .sl _ _ _ :: _, [], _, hA => hA.elim
def fnA (C : Cfg) (fuel : Nat) (fn : Func) (c : Code) (args : List Value) (mem : List (Nat × Blk)) (next : Nat) : Option Value := evK C fuel [] c ⟨argSlots 0 args, mem, next⟩ (fun e s => endK C.T fn e s some none) none
theorem law_sound [Laid P] {c : Code} {g : FuncId} {fn : Func} (hf : P.funcs[g]? = some fn) (hb : fn.body = some c) {A : List Arg} {args' : List Value} (hT : ArgW w A args') (hg : GOk (lay P) w) (hlen : A.length ≤ fn.ntmps) {v : Value} (hv : pl2 v = true) (hnt : ∀ vs, v ≠ .tuple vs) {fuel next : Nat}
    (hev0 : ∀ es, ∃ C, CfgOk P C c ∧ C.n = fn.ntmps ∧ fnA C fuel fn c (cArgs A 0) (cMem es A 0) next = some v) (hbt : fn.ntmps ≤ 900000000 := by decide +kernel) : Calls P g args'.toArray w fun e w' => e = .returned v ∧ Below w.heap.size w w' := by
  obtain ⟨es, pl, h1, h2, h3, h4⟩ := top_mem A args' 0 hT
  have hmC := callee_rel hg h2 h3 (Nat.le_trans hlen hbt)
  obtain ⟨C, hC, hn, hev⟩ := hev0 es
  unfold fnA at hev
  rw [evK_eq, oK_some] at hev
  obtain ⟨⟨e, s'⟩, he1, he2⟩ := hev
  refine Calls.mono (fn_mem hC hf hb hn hmC h4 (by rw [cArgs_len]; exact hlen) he1 he2) ?_
  rintro ex w' ⟨R', v', rfl, hvv, hvt, hm'⟩
  have := (V2_plain hv).1 (hvv hnt)
  subst this
  exact ⟨rfl, hm'.below.below fun _ h => h⟩
end
theorem take_rowL {f : Nat → List Value} : ∀ (n lo : Nat) (l : List Value), (∀ i, i < n → l[i]? = some (.int .u8 (bI f (lo + i)))) → l.take n = rowL kB f lo n
  | 0, _, _, _ => rfl
  | n + 1, lo, l, h => by
    cases l with
    | nil => have := h 0 (by omega); simp at this
    | cons x l =>
      have h0 := h 0 (by omega)
      simp only [List.getElem?_cons_zero, Option.some.injEq, Nat.add_zero] at h0
      have ih := take_rowL n (lo + 1) l (fun i hi => by
        have := h (i + 1) (by omega)
        rw [List.getElem?_cons_succ] at this
        rw [this, Nat.add_assoc, Nat.add_comm 1 i])
      rw [List.take_succ_cons, rowL, nrm_kB, ih, h0]; rfl
theorem wf_u8 {x : Int} (h : (Lit.int .u8 x).wf = true) : ∃ n : Nat, n < 256 ∧ x = n := by
  simp only [Lit.wf, decide_eq_true_eq, Bool.and_eq_true] at h
  have h1 : (IntKind.u8.min : Int) = 0 := rfl
  have h2 : (IntKind.u8.max : Int) = 255 := rfl
  rw [h1, h2] at h
  exact ⟨x.toNat, by omega, by omega⟩
section
variable {P : Program} {H : Type} {enc : TypeId × Value → H} {W : World} {base b0 : Nat} {sp : Nat → Bool} {held : Bool} {r : Reach} {t e : TypeId} {v : Value} {d : DataW H} {p : List MemPlace}
open Go.ChangeShapes Go.WideShapes
theorem open_bytes (ht : P.underlying t = some (.slice e)) (he : P.underlying e = some (.int .u8)) (hce : P.cellsOf e = 1) (hv : Value.okWide P W r base t v) (h : DataW.Trod enc P W b0 sp held t v d p) :
    ∃ n f, SrcW W kB n f v ∧ ∀ i, ∃ x : Nat, x < 256 ∧ f i = [.int .u8 (x : Int)] := by
  obtain ⟨a0, len, cap, rfl⟩ := okWide_slice ht hv
  obtain ⟨fuel, hf⟩ := h
  have hv' : Cell.ok P W r base t (.slice a0 len cap) := by
    unfold Value.okWide at hv; rw [ht] at hv
    simp only [Cell.okWide, ht] at hv
    exact hv
  rcases open_ints ht he hce hf with ⟨h1, _⟩ | ⟨a, len', cap', zs, h1, _, hl, _, hz, _, hcell, hwf⟩
  · have h1 : Value.slice a0 len cap = .slice none 0 0 := by simpa [Value.cells] using h1
    cases h1
    exact ⟨0, fun _ => [.int .u8 ((0 : Nat) : Int)], ⟨⟨none, 0, 0⟩, 0, Nat.le_refl _, rfl, rfl, rfl, none, rfl⟩, fun _ => ⟨0, by omega, rfl⟩⟩
  · have h1 : Value.slice a0 len cap = .slice (some a) len' cap' := by simpa [Value.cells] using h1
    cases h1
    unfold Cell.ok at hv'
    rw [ht] at hv'
    obtain ⟨_, _, _, hs, row, cells, hsh, _⟩ := hv'
    have hlz : len ≤ zs.length := by rw [hz]; split <;> omega
    obtain ⟨cs, fz, hb⟩ : ∃ cs fz, W.heap[a.block]? = some (.cells cs row fz) := by
      unfold World.shape? at hsh
      split at hsh
      · rename_i c e1 fz hb
        simp only [Option.some.injEq, Prod.mk.injEq] at hsh
        obtain ⟨rfl, _⟩ := hsh
        exact ⟨c, fz, hb⟩
      · cases hsh
    refine ⟨len, fun i => [.int .u8 (zs.getD i 0)], ⟨⟨some a.block, a.off, cap⟩, row, hl, ?_, cs, fz, hb, ?_⟩, ?_⟩
    · obtain ⟨bl, off, spot⟩ := a
      simp only at hs; subst hs; rfl
    · refine LP_plain (rowL_pl _ _ _ _) ?_
      rw [rowL_len, show len * kB.length = len from Nat.mul_one _]
      refine take_rowL len 0 _ (fun i hi => ?_)
      have := hcell i (by omega)
      unfold World.cell? at this
      rw [block_add, hb] at this
      simp only at this
      split at this
      · cases this
      · rw [List.getElem?_drop, Array.getElem?_toList, Nat.zero_add]
        have eo : (a.add i).off = a.off + i := by unfold Addr.add; split <;> simp_all
        rw [eo] at this; exact this
    · intro i
      by_cases hi : i < zs.length
      · have hm : zs.getD i 0 ∈ zs := by
          simp only [List.getD, List.getElem?_eq_getElem hi, Option.getD_some]; exact List.getElem_mem hi
        obtain ⟨x, hx, e1⟩ := wf_u8 (hwf _ hm)
        exact ⟨x, hx, by simp only [e1]⟩
      · refine ⟨0, by omega, ?_⟩
        have : zs.getD i 0 = 0 := by simp [List.getD, List.getElem?_eq_none (show zs.length ≤ i by omega)]
        simp only [this]; rfl
end
end Go.W

namespace Go.Proofs.Ytkgkdjecmnhdmaa
set_option maxRecDepth 100000
open Go.W
open Go.RowKit (Below)
def kbNt : List Nat := [0, 1, 4, 5]
def kbNi : List Nat := [1500000, 1500001]
def kbSt (n : Nat) (f : Nat → List Value) (m : Nat) (g : Nat → List Value) (e0 e1 : Nat) (i : Int) : St :=
  ⟨[(0, aSl 0 n), (1, aSl 1 m), (4, .bool false), (5, i64 i)], [(1500000, ⟨.row kB n f, e0, false⟩), (1500001, ⟨.row kB m g, e1, false⟩)], 20⟩
def kbC0 : Cfg := ⟨tab, [], 26, []⟩
theorem kbOk0 : CfgOk Try.prog kbC0 (bodyOf Try.f10) := ⟨mixed, tabOk, sums_nil, noL⟩
theorem kb_at : codeAt [1, 1, 0, 1, 0] (bodyOf Try.f10) = some (.loop (loopAt [1, 1, 0, 1, 0] (bodyOf Try.f10))) := by kernel_rfl
theorem kb_r (n : Nat) (f : Nat → List Value) (m : Nat) (g : Nat → List Value) (e0 e1 : Nat) (i : Int) : roundS kbC0 60 [1, 1, 0, 1, 0, 0] (loopAt [1, 1, 0, 1, 0] (bodyOf Try.f10)) kbNt kbNi 20 kbNt kbNi 20 (kbSt n f m g e0 e1 i) =
    kbR n f m g i (some (.normal, kbSt n f m g e0 e1 (IntKind.i64.wrap (i + 1)))) (some (.ret, kbSt n f m g e0 e1 i)) (some (.exit 0, kbSt n f m g e0 e1 i)) := by kernel_rfl
noncomputable def kbC (n : Nat) (f : Nat → List Value) (m : Nat) (g : Nat → List Value) (e0 e1 : Nat) (e : Exit) (i : Int) : Cfg := ⟨tab, [], 26, [([1, 1, 0, 1, 0], atSt kbNt kbNi 20 (kbSt n f m g e0 e1 0) e (kbSt n f m g e0 e1 i))]⟩
theorem kb_ev0 (n : Nat) (f : Nat → List Value) (m : Nat) (g : Nat → List Value) (es : Nat → Nat) (i : Int) (id : Nat) : fnMS (kbC n f m g (es 0) (es 1) (.exit 0) i) 60 Try.f10 (bodyOf Try.f10) (cArgs [.sl kB n f, .sl kB m g] 0) (cMem es [.sl kB n f, .sl kB m g] 0) 0 id =
    bif ((n : Nat) : Int) != ((m : Nat) : Int) then some (.bool false, []) else req (stEq (kbSt n f m g (es 0) (es 1) 0) (kbSt n f m g (es 0) (es 1) 0)) (some (.bool true, [])) := by kernel_rfl
theorem kb_ev1 (n : Nat) (f : Nat → List Value) (m : Nat) (g : Nat → List Value) (es : Nat → Nat) (i : Int) (id : Nat) : fnMS (kbC n f m g (es 0) (es 1) .ret i) 60 Try.f10 (bodyOf Try.f10) (cArgs [.sl kB n f, .sl kB m g] 0) (cMem es [.sl kB n f, .sl kB m g] 0) 0 id =
    bif ((n : Nat) : Int) != ((m : Nat) : Int) then some (.bool false, []) else req (stEq (kbSt n f m g (es 0) (es 1) 0) (kbSt n f m g (es 0) (es 1) 0)) (some (.bool false, [])) := by kernel_rfl
theorem kb_ev2 (n : Nat) (f : Nat → List Value) (m : Nat) (g : Nat → List Value) (es : Nat → Nat) (id : Nat) : fnMS ⟨tab, [], 26, [([1, 1, 0, 1, 0], fun _ => [])]⟩ 60 Try.f10 (bodyOf Try.f10) (cArgs [.sl kB n f, .sl kB m g] 0) (cMem es [.sl kB n f, .sl kB m g] 0) 0 id =
    bif ((n : Nat) : Int) != ((m : Nat) : Int) then some (.bool false, []) else none := by kernel_rfl
theorem kb_msum : MSum Try.prog 10 KbF := by
  intro w0 R fm w hm vs args' hl mm hsub id hlt v l hpick hnew
  match vs, hl, hpick with
  | [a, b], hl, hpick =>
    obtain ⟨hc, rfl, rfl⟩ := pick_one hpick
    simp only [Bool.and_eq_true] at hc
    obtain ⟨⟨ha, hb⟩, hn⟩ := hc
    generalize hqa : srcB mm kB a = qa at ha hn ⊢
    generalize hqb : srcB mm kB b = qb at hb ⊢
    obtain ⟨ok1, n, f⟩ := qa
    obtain ⟨ok2, m, g⟩ := qb
    simp only at ha hb hn ⊢
    subst ha hb
    have hn := Nat.le_of_ble_eq_true hn
    have hA : AOk mm [a, b] [.sl kB n f, .sl kB m g] := ⟨hqa, hqb, trivial⟩
    refine msum_at (c := bodyOf Try.f10) (fuel := 60) (next := 0) Try.func10 (by kernel_rfl) (by kernel_rfl) hm hl hsub hlt hA (by show 2 ≤ Try.f10.ntmps; decide +kernel) (.inl rfl) hnew (fun es => ?_)
    have rounds : ∀ (k : Nat) (e : Exit) (i : Int), n = m → k ≤ n → (∀ j, j < k → bI f j = bI g j) → e ≠ .normal → kbR n f m g (k : Int) (some (.normal, kbSt n f m g (es 0) (es 1) (IntKind.i64.wrap ((k : Int) + 1)))) (some (.ret, kbSt n f m g (es 0) (es 1) (k : Int))) (some (.exit 0, kbSt n f m g (es 0) (es 1) (k : Int))) = some (e, kbSt n f m g (es 0) (es 1) i) →
        LoopOk Try.prog 26 (loopAt [1, 1, 0, 1, 0] (bodyOf Try.f10)) (atSt kbNt kbNi 20 (kbSt n f m g (es 0) (es 1) 0) e (kbSt n f m g (es 0) (es 1) i)) := by
      intro k e i hnm hk hj he hlast
      subst hnm
      refine atSt_ok fun w0 R a W hrel => ?_
      refine loop_rounds (R := R) (C := kbC0) kbOk0 kb_at (m := 60) (nt := kbNt) (ni := kbNi) (et := kbNt) (ei := kbNi) (nx := 20) (ex := 20) (e := e) (sf := kbSt n f n g (es 0) (es 1) i)
        (fun j => kbSt n f n g (es 0) (es 1) (j : Int)) k he ?_ ?_ hrel
      · intro j hjk
        refine (kb_r _ _ _ _ _ _ _).trans ?_
        rw [kbR_eq (by omega), if_pos (hj j hjk), wrap_i64 (by omega)]; rfl
      · exact (kb_r _ _ _ _ _ _ _).trans hlast
    by_cases hnm : n = m
    · subst hnm
      have hne : ((((n : Nat) : Int) != ((n : Nat) : Int)) : Bool) = false := bne_self_eq_false _
      by_cases hall : ∀ j, j < n → bI f j = bI g j
      · refine ⟨kbC n f n g (es 0) (es 1) (.exit 0) (n : Int), ⟨mixed, tabOk, sums_nil, oneL (rounds n (.exit 0) (n : Int) rfl (Nat.le_refl _) hall (by intro h; cases h) (kbR_out _ _ _))⟩, rfl, ?_⟩
        refine (kb_ev0 n f n g es _ id).trans ?_
        rw [hne, cond_false, req_true (stEq_refl rfl), eqR_iff.2 ⟨rfl, hall⟩]
      · obtain ⟨k, h1, h2, h3⟩ := first_diff hall
        refine ⟨kbC n f n g (es 0) (es 1) .ret (k : Int), ⟨mixed, tabOk, sums_nil, oneL (rounds k .ret (k : Int) rfl (by omega) h3 (by intro h; cases h) (by rw [kbR_eq h1, if_neg h2]))⟩, rfl, ?_⟩
        refine (kb_ev1 n f n g es _ id).trans ?_
        have : eqR n f n g = false := by rw [Bool.eq_false_iff, ne_eq, eqR_iff]; exact fun h => hall h.2
        rw [hne, cond_false, req_true (stEq_refl rfl), this]
    · refine ⟨⟨tab, [], 26, [([1, 1, 0, 1, 0], fun _ => [])]⟩, ⟨mixed, tabOk, sums_nil, noneL2⟩, rfl, ?_⟩
      refine (kb_ev2 n f m g es id).trans ?_
      have : eqR n f m g = false := by rw [Bool.eq_false_iff, ne_eq, eqR_iff]; exact fun h => hnm h.1
      rw [show ((((n : Nat) : Int) != ((m : Nat) : Int)) : Bool) = true from by rw [bne_iff_ne]; omega, cond_true, this]
  | [], _, h => simp [KbF, pickM] at h
  | [_], _, h => simp [KbF, pickM] at h
  | _ :: _ :: _ :: _, _, h => simp [KbF, pickM] at h
def twnC : Cfg := ⟨tab, [], 7, []⟩
theorem twnOk : CfgOk Try.prog twnC (bodyOf Try.f7) := ⟨mixed, tabOk, sums_nil, noL⟩
theorem twn_ev (n : Nat) (f : Nat → List Value) (es : Nat → Nat) (id : Nat) : fnMS twnC 60 Try.f7 (bodyOf Try.f7) (cArgs [.sl kB n f] 0) (cMem es [.sl kB n f] 0) 0 id =
    req (Nat.ble n n && true) (req (szOk n 1) (req (Nat.ble n n) (some (.slice (some ⟨nid id 0, 0, none⟩) n n, [(nid id 0, ⟨.row kB n (twF f), 5, true⟩)])))) := by kernel_rfl
theorem twn_msum : MSum Try.prog 7 (TwnF 5) := by
  refine msum_of (fuel := 60) (next := 0) twnOk Try.func7 (by kernel_rfl) (by kernel_rfl) rfl fun vs mm id v l hpick hlt => ?_
  match vs, hpick with
  | [a], hpick =>
    obtain ⟨hc, rfl, rfl⟩ := pick_one hpick
    simp only [Bool.and_eq_true] at hc
    obtain ⟨ha, hs⟩ := hc
    generalize hqa : srcB mm kB a = qa at ha hs ⊢
    obtain ⟨ok1, n, f⟩ := qa
    simp only at ha hs ⊢
    subst ha
    refine ⟨[.sl kB n f], ⟨hqa, trivial⟩, by show 1 ≤ Try.f7.ntmps; decide +kernel, .inr ⟨_, rfl⟩, fun es => ?_⟩
    have hnn : Nat.ble n n = true := by rw [Nat.ble_eq]; exact Nat.le_refl _
    exact (twn_ev n f es id).trans (by rw [hnn, hs]; rfl)
  | [], h => simp [TwnF, pickM] at h
  | _ :: _ :: _, h => simp [TwnF, pickM] at h
end Go.Proofs.Ytkgkdjecmnhdmaa

namespace Go.W
theorem loopE {P : Program} [Laid P] {code : Code} {n : Nat} (C : Nat → Cfg) (N : Nat) (hC : ∀ k, k ≤ N → CfgOk P (C k) code) (hn : ∀ k, (C k).n = n) {p : List Nat} (hp : codeAt p code = some (.loop (loopAt p code))) {m : Nat} {ts : List Nat} {is : Ren} {tx : Nat} {nt et : List Nat} {ni ei : Ren} {nx ex : Nat} (st : Nat → St) {e : Exit} {s0 sf : St} (h0 : s0 = st 0) (he : e ≠ .normal)
    (step : ∀ k, k < N → ∃ s, roundS (C k) m (p ++ [0]) (loopAt p code) nt ni nx et ei ex (st k) = some (.normal, s) ∧ stEq s (st (k + 1)) = true)
    (last : ∃ s, roundS (C N) m (p ++ [0]) (loopAt p code) nt ni nx et ei ex (st N) = some (e, s) ∧ stEq s sf = true) :
    LoopOk P n (loopAt p code) (atSt ts is tx s0 e sf) := by
  refine atSt_ok fun w0 R a w hrel => ?_
  rw [h0] at hrel
  have hx : codeAt (p ++ [0]) code = some (loopAt p code) := by rw [codeAt_app, hp]; rfl
  have key : ∀ j, j ≤ N → ∀ (R : Nat → Pl → Prop) (a : Act) (w : World), Rel w0 n R (st (N - j)).f a w → Code.rounds P (loopAt p code) (fun e' a' w' => e' = e ∧ ∃ R', Rel w0 n R' sf.f a' w') (j + 1) a w := by
    intro j
    induction j with
    | zero =>
      intro _ R a w hr
      rw [rounds_succ]
      obtain ⟨s, h1, h2⟩ := last
      have hs := round_sound (hC N (Nat.le_refl _)) hx h1 (w0 := w0) (R := R) (a := a) (w := w) (by rw [hn]; exact hr)
      rw [hn] at hs
      refine wp_mono hs ?_
      rintro e' a' w' ⟨rfl, R', hr'⟩
      cases e' with
      | normal => exact absurd rfl he
      | _ => exact ⟨rfl, R', hr'.eqv h2⟩
    | succ j ih =>
      intro hj R a w hr
      rw [rounds_succ]
      obtain ⟨s, h1, h2⟩ := step (N - (j + 1)) (by omega)
      have hs := round_sound (hC (N - (j + 1)) (by omega)) hx h1 (w0 := w0) (R := R) (a := a) (w := w) (by rw [hn]; exact hr)
      rw [hn] at hs
      refine wp_mono hs ?_
      rintro e' a' w' ⟨rfl, R', hr'⟩
      refine ih (by omega) R' a' w' ?_
      rw [show N - j = N - (j + 1) + 1 from by omega]
      exact hr'.eqv h2
  exact wp_loop_rounds (N + 1) (key N (Nat.le_refl N) R a w (by rw [Nat.sub_self]; exact hrel))
theorem mNil : memEq [] [] = true := rfl
theorem mRow {a : Nat} {ks : List CK} {n : Nat} {f g : Nat → List Value} {e : TypeId} {o : Bool} {l m : List (Nat × Blk)} (h : ∀ j, j < n → nrmK ks (f j) = nrmK ks (g j)) (h2 : memEq l m = true) : memEq ((a, ⟨.row ks n f, e, o⟩) :: l) ((a, ⟨.row ks n g, e, o⟩) :: m) = true := memEq_cons (cellsEq_rr h) h2
theorem mSame {a : Nat} {c : Cells} {e : TypeId} {o : Bool} {l m : List (Nat × Blk)} (h : vokC c = true) (h2 : memEq l m = true) : memEq ((a, ⟨c, e, o⟩) :: l) ((a, ⟨c, e, o⟩) :: m) = true := memEq_cons (cellsEq_refl h) h2
end Go.W

namespace Go.W
def rotN (X n : Nat) : Nat := (X * 2 ^ (32 - n) % 4294967296) ||| (X / 2 ^ n)
theorem szOk_small {n : Nat} (h : n ≤ 2000000) : szOk n 1 = true := by unfold szOk; rw [Nat.ble_eq]; omega
end Go.W

namespace Go.W
def ad (a b : Nat) : Nat := (a + b) % 4294967296
def ntN (a : Nat) : Nat := 4294967295 ^^^ a
def kL : List Nat := [1116352408, 1899447441, 3049323471, 3921009573, 961987163, 1508970993, 2453635748, 2870763221, 3624381080, 310598401, 607225278, 1426881987, 1925078388, 2162078206, 2614888103, 3248222580, 3835390401, 4022224774, 264347078, 604807628, 770255983, 1249150122, 1555081692, 1996064986, 2554220882, 2821834349, 2952996808, 3210313671, 3336571891, 3584528711, 113926993, 338241895, 666307205, 773529912, 1294757372, 1396182291, 1695183700, 1986661051, 2177026350, 2456956037, 2730485921, 2820302411, 3259730800, 3345764771, 3516065817, 3600352804, 4094571909, 275423344, 430227734, 506948616, 659060556, 883997877, 958139571, 1322822218, 1537002063, 1747873779, 1955562222, 2024104815, 2227730452, 2361852424, 2428436474, 2756734187, 3204031479, 3329325298]
def kN (t : Nat) : Nat := kL.getD t 0
def s0N (x : Nat) : Nat := rotN x 7 ^^^ rotN x 18 ^^^ (x / 2 ^ 3)
def s1N (x : Nat) : Nat := rotN x 17 ^^^ rotN x 19 ^^^ (x / 2 ^ 10)
def S0N (x : Nat) : Nat := rotN x 2 ^^^ rotN x 13 ^^^ rotN x 22
def S1N (x : Nat) : Nat := rotN x 6 ^^^ rotN x 11 ^^^ rotN x 25
def chN (e f g : Nat) : Nat := (e &&& f) ^^^ (ntN e &&& g)
def maN (a b c : Nat) : Nat := (a &&& b) ^^^ (a &&& c) ^^^ (b &&& c)
def wdN (a b c d : Nat) : Nat := ((a * 2 ^ 24 % 4294967296) ||| (b * 2 ^ 16 % 4294967296) ||| (c * 2 ^ 8 % 4294967296)) ||| d
def nxN (w16 w15 w7 w2 : Nat) : Nat := ad (ad (ad (s1N w2) w7) (s0N w15)) w16
def wNew (B : Nat → Nat) (t : Nat) (l : List Nat) : Nat := bif Nat.blt t 16 then wdN (B (4 * t)) (B (4 * t + 1)) (B (4 * t + 2)) (B (4 * t + 3)) else nxN (l.getD 15 0) (l.getD 14 0) (l.getD 6 0) (l.getD 1 0)
def wL (B : Nat → Nat) : Nat → List Nat
  | 0 => []
  | t + 1 => wNew B t (wL B t) :: wL B t
def wT (B : Nat → Nat) (t : Nat) : Nat := wNew B t (wL B t)
structure S8 where
  a : Nat
  b : Nat
  c : Nat
  d : Nat
  e : Nat
  f : Nat
  g : Nat
  h : Nat
def S8.ok (s : S8) : Prop := s.a < 4294967296 ∧ s.b < 4294967296 ∧ s.c < 4294967296 ∧ s.d < 4294967296 ∧ s.e < 4294967296 ∧ s.f < 4294967296 ∧ s.g < 4294967296 ∧ s.h < 4294967296
def t1N (s : S8) (k w : Nat) : Nat := ad (ad (ad (ad s.h (S1N s.e)) (chN s.e s.f s.g)) k) w
def t2N (s : S8) : Nat := ad (S0N s.a) (maN s.a s.b s.c)
def rnd (k w : Nat) (s : S8) : S8 := ⟨ad (t1N s k w) (t2N s), s.a, s.b, s.c, ad s.d (t1N s k w), s.e, s.f, s.g⟩
def rnds (W : Nat → Nat) (s : S8) : Nat → S8
  | 0 => s
  | t + 1 => rnd (kN t) (W t) (rnds W s t)
def adS (s v : S8) : S8 := ⟨ad s.a v.a, ad s.b v.b, ad s.c v.c, ad s.d v.d, ad s.e v.e, ad s.f v.f, ad s.g v.g, ad s.h v.h⟩
theorem mix_ex (s : S8) (B : Nat → Nat) : ∃ x, x = adS s (rnds (wT B) s 64) := ⟨_, rfl⟩
noncomputable def mixN (s : S8) (B : Nat → Nat) : S8 := Classical.choose (mix_ex s B)
noncomputable def hs (s : S8) (B : Nat → Nat) : Nat → S8
  | 0 => s
  | k + 1 => mixN (hs s B k) (fun j => B (64 * k + j))
def S8.at (s : S8) : Nat → Nat
  | 0 => s.a
  | 1 => s.b
  | 2 => s.c
  | 3 => s.d
  | 4 => s.e
  | 5 => s.f
  | 6 => s.g
  | _ => s.h
def h0 : S8 := ⟨1779033703, 3144134277, 1013904242, 2773480762, 1359893119, 2600822924, 528734635, 1541459225⟩
end Go.W

namespace Go.W
def z8 : Value := .int .u8 0
end Go.W

namespace Go.W
def S8.beq (s t : S8) : Bool := Nat.beq s.a t.a && Nat.beq s.b t.b && Nat.beq s.c t.c && Nat.beq s.d t.d && Nat.beq s.e t.e && Nat.beq s.f t.f && Nat.beq s.g t.g && Nat.beq s.h t.h
def sgF (n : Nat) (f : Nat → List Value) : Nat → List Value := segF ⟨0, 0, n, kB, n, f, 0, false, []⟩
theorem bI_sg (n : Nat) (f : Nat → List Value) (j : Nat) : bI (sgF n f) j = bI f j := by show bI f (0 + j) = bI f j; rw [Nat.zero_add]
end Go.W

namespace Go.W
theorem bI_cpy (f : Nat → List Value) (m : Nat) (g : Nat → List Value) (j : Nat) : bI (cpyF f 0 m g) j = if j < m then bI g j else bI f j := by
  by_cases hj : j < m
  · rw [if_pos hj]
    show toI ((bif Nat.ble 0 j && Nat.blt j (0 + m) then g (j - 0) else f j).headD _) = _
    rw [show (Nat.ble 0 j && Nat.blt j (0 + m)) = true from by rw [Bool.and_eq_true, Nat.ble_eq, Nat.blt_eq]; omega, cond_true, Nat.sub_zero]; rfl
  · rw [if_neg hj]
    show toI ((bif Nat.ble 0 j && Nat.blt j (0 + m) then g (j - 0) else f j).headD _) = _
    rw [show (Nat.ble 0 j && Nat.blt j (0 + m)) = false from by rw [Bool.eq_false_iff, ne_eq, Bool.and_eq_true, Nat.ble_eq, Nat.blt_eq]; omega, cond_false]; rfl
theorem ble_of {a b : Nat} (h : a ≤ b) : Nat.ble a b = true := by rw [Nat.ble_eq]; exact h
end Go.W

namespace Go.W
open Go.RowKit (Below)
section
variable {P : Program} [Laid P]
end
def RowW (w : World) (e : TypeId) (ks : List CK) (m : Nat) (f : Nat → List Value) (v : Value) : Prop :=
  (m = 0 ∧ Emp v) ∨ ∃ b d c cs fz, v = .slice (some ⟨b, d, none⟩) m c ∧ m ≤ c ∧ w.heap[b]? = some (.cells cs e fz) ∧ (cs.toList.drop d).take (m * ks.length) = rowL ks f 0 m
section
variable {GL : Glob} {w0 : Wb GL} {R : Nat → Pl → Prop} {fm : Nat → Option Blk} {w : World}
end
inductive ArgF where
  | pl (v : Value)
  | sl (ks : List CK) (n : Nat) (g : Nat → List Value)
  | fm (ks : List CK) (n : Nat) (g : Nat → Nat × (Nat → List Value))
def RcF (w : World) (pl : Nat → Option Pl) (N : Nat) (i : Nat) (p : Pl) : Prop :=
  (∃ j, j < N ∧ i = argId j ∧ pl j = some p) ∨ (∃ b, (∃ cs e fz, w.heap[b]? = some (.cells cs e fz)) ∧ i = 1000000000 + b ∧ p = ⟨some b, 0, 0⟩)
theorem RowW.at {w : World} {e : TypeId} {ks : List CK} {m : Nat} {f : Nat → List Value} {v : Value} (h : RowW w e ks m f v) (pl : Nat → Option Pl) (N : Nat) : RowAt (RcF w pl N) w e ks m f v := by
  rcases h with h | ⟨b, d, c, cs, fz, h1, h2, h3, h4⟩
  · exact .inl h
  · exact .inr ⟨b, d, c, cs, fz, h1, h2, .inr ⟨b, ⟨cs, e, fz, h3⟩, rfl, rfl⟩, h3, h4⟩
section
variable {GL : Glob} {w0 : Wb GL} {R : Nat → Pl → Prop} {fm : Nat → Option Blk} {w : World}
end
section
variable {P : Program} [Laid P]
end
end Go.W

namespace Go.W
theorem iR {i n : Nat} (h : i < n) : inR (i : Int) n = true := by unfold inR; simp only [Bool.and_eq_true, decide_eq_true_eq]; omega
theorem bL {a b : Nat} (h : a < b) : Nat.blt a b = true := by rw [Nat.blt_eq]; exact h
theorem bE {a b : Nat} (h : a ≤ b) : Nat.ble a b = true := by rw [Nat.ble_eq]; exact h
end Go.W

namespace Go.W
def rdR {α : Type} (k n : Nat) (x : Option α) : Option α := req (inR (k : Int) n) (req (Nat.blt k n && true) x)
theorem rdR_eq {α : Type} {k n : Nat} (h : k < n) (x : Option α) : rdR k n x = x := by unfold rdR; rw [iR h, req_true rfl, bL h, req_true (b := true && true) rfl]
def kb4 (n : Nat) : Bool := true && Nat.ble n n && true && Nat.ble n n
theorem kb4_true (n : Nat) : kb4 n = true := by unfold kb4; rw [bE (Nat.le_refl _)]; rfl
end Go.W

namespace Go.W
def nSl (id n : Nat) : Value := .slice (some ⟨nid id 0, 0, none⟩) n n
def rw1 (e id n : Nat) (f : Nat → List Value) : List (Nat × Blk) := [(nid id 0, ⟨.row kB n f, e, true⟩)]
end Go.W

namespace Go.W
theorem nrm_take : ∀ (ks : List CK) (l : List Value), nrmK ks (l.take ks.length) = nrmK ks l
  | [], _ => rfl
  | _ :: _, [] => by rw [List.take_nil]
  | k :: ks, a :: l => by
    show nrm1 k a :: nrmK ks (l.take ks.length) = nrm1 k a :: nrmK ks l
    rw [nrm_take ks l]
theorem lst0_row {ks : List CK} {L : List Value} (off : Nat) : nrmK ks (lstF L off ks.length 0) = nrmK ks (L.drop off) := by
  show nrmK ks ((L.drop (off + 0 * ks.length)).take ks.length) = _
  rw [Nat.zero_mul, Nat.add_zero, nrm_take]
theorem app_row {ks : List CK} {g h : Nat → List Value} {m : Nat} {L : List Value} (hg : ∀ j, j < m → nrmK ks (g j) = nrmK ks (h j)) (hL : nrmK ks L = nrmK ks (h m)) : ∀ j, j < m + 1 → nrmK ks (appF m g (lstF L 0 ks.length) j) = nrmK ks (h j) := by
  intro j hj
  unfold appF
  by_cases h1 : j < m
  · rw [bL h1, cond_true]; exact hg j h1
  · have : j = m := by omega
    subst this
    rw [show Nat.blt j j = false from by rw [Bool.eq_false_iff, ne_eq, Nat.blt_eq]; omega, cond_false, Nat.sub_self, lst0_row, List.drop_zero, hL]
end Go.W

namespace Go.W
open Go.RowKit (Below)
def fnO (C : Cfg) (fuel : Nat) (fn : Func) (c : Code) (args : List Value) (mem : List (Nat × Blk)) (next i0 : Nat) : Option (Value × Option Blk) :=
  evK C fuel [] c ⟨argSlots 0 args, mem, next⟩ (fun e s => endK C.T fn e s (fun v => some (v, look s.mem i0)) none) none
def apart2 (mm : Nat → Option Blk) (b : Nat) (u : Value) : Bool :=
  match u with
  | .slice none _ _ => true
  | .slice (some a) _ _ => !(Nat.beq b a.block) && (match mm a.block with
    | some blk => (match blk.cells with
      | .lst _ => true
      | .row _ _ _ => true
      | _ => false)
    | none => false)
  | .int _ _ => true
  | _ => false
section
variable {GL : Glob} {w0 : Wb GL} {R : Nat → Pl → Prop} {fm : Nat → Option Blk} {w : World}
def RoF (i0 : Nat) (p : Pl) (pl1 : Option Pl) (i : Nat) (q : Pl) : Prop := (i = i0 ∧ q = p) ∨ (i = argId 1 ∧ pl1 = some q)
theorem own_rel (hg : GOk GL w) {i0 : Nat} (hi0 : i0 = argId 0 ∨ i0 = 1000000) {ow : Bool} {p : Pl} {b' : Nat} (hpa : p.a = some b') {ks : List CK} {n : Nat} {f : Nat → List Value} {e : TypeId} {cs : Array Value} {fz : Nat × Nat} (g1 : w.heap[b']? = some (.cells cs e fz)) (g2 : (cs.toList.drop p.d).take (n * ks.length) = rowL ks f 0 n)
    (hfz : ow = true → fz = (0, 0) ∧ p.d + p.c * ks.length ≤ cs.size) (hgl : ∀ x ∈ GL, x.1 ≠ b') {mem1 : List (Nat × Blk)} {pl1 : Option Pl}
    (h1 : (mem1 = [] ∧ pl1 = none) ∨ ∃ ks1 m g e1 p1, mem1 = [(argId 1, ⟨.row ks1 m g, e1, false⟩)] ∧ pl1 = some p1 ∧ (p1.a = some b' → rowL ks1 g 0 m = []) ∧ (match p1.a with
      | some b => ∃ cs fz, w.heap[b]? = some (.cells cs e1 fz) ∧ (cs.toList.drop p1.d).take (m * ks1.length) = rowL ks1 g 0 m
      | none => m = 0)) :
    MRel (⟨w, fun k => ow = true ∧ k = b', RoF i0 p pl1⟩ : Wb GL) (RoF i0 p pl1) (look ((i0, ⟨.row ks n f, e, ow⟩) :: mem1)) w := by
  have hne : i0 ≠ argId 1 := by rcases hi0 with h | h <;> (rw [h]; unfold argId; omega)
  have hlt : i0 < 1000000000 := by
    rcases hi0 with h | h
    · rw [h]; unfold argId; omega
    · omega
  have hrow : LP (RoF i0 p pl1) (rowL ks f 0 n) (cs.toList.drop p.d) := LP_plain (rowL_pl _ _ _ _) (by rw [rowL_len]; exact g2)
  have hmem : ∀ i blk, look ((i0, ⟨.row ks n f, e, ow⟩) :: mem1) i = some blk → (i = i0 ∧ blk = ⟨.row ks n f, e, ow⟩) ∨ (i = argId 1 ∧ ∃ ks1 m g e1 p1, blk = ⟨.row ks1 m g, e1, false⟩ ∧ pl1 = some p1 ∧ (p1.a = some b' → rowL ks1 g 0 m = []) ∧ (match p1.a with
      | some b => ∃ cs fz, w.heap[b]? = some (.cells cs e1 fz) ∧ (cs.toList.drop p1.d).take (m * ks1.length) = rowL ks1 g 0 m
      | none => m = 0)) := by
    intro i blk hi
    rw [look_cons] at hi
    by_cases e1 : i0 = i
    · subst e1; rw [upd_same] at hi; cases hi; exact .inl ⟨rfl, rfl⟩
    · rw [upd_ne _ _ e1] at hi
      rcases h1 with ⟨rfl, _⟩ | ⟨ks1, m, g, e2, p1, rfl, k2, k3⟩
      · simp [look] at hi
      · rw [look_cons] at hi
        by_cases e3 : argId 1 = i
        · subst e3; rw [upd_same] at hi; cases hi; exact .inr ⟨rfl, ks1, m, g, e2, p1, rfl, k2, k3⟩
        · rw [upd_ne _ _ e3] at hi; simp [look] at hi
  refine ⟨BelowX.refl _ _ _ hg (fun x hx h => hgl x hx h.2), ?_, ?_, ?_, ?_, fun _ _ h _ _ => h, ?_, ?_⟩
  · rintro i q q' (⟨rfl, rfl⟩ | ⟨rfl, h2⟩) (⟨h3, rfl⟩ | ⟨h3, h4⟩)
    · rfl
    · exact absurd h3 hne
    · exact absurd h3.symm hne
    · rw [h2] at h4; exact Option.some.inj h4
  · intro i j q q' b hq hq' ha hb hij blk hblk hown blk' hblk'
    rcases hmem i blk hblk with ⟨rfl, rfl⟩ | ⟨rfl, _, _, _, _, _, rfl, _⟩
    · rcases hmem j blk' hblk' with ⟨rfl, rfl⟩ | ⟨rfl, ks1, m, g, e1, p1, rfl, k2, k3, _⟩
      · exact absurd rfl hij
      · have e1 : q = p := by rcases hq with ⟨_, h⟩ | ⟨h, _⟩; exact h; exact absurd h hne
        have e2 : q' = p1 := by
          rcases hq' with ⟨h, _⟩ | ⟨_, h⟩
          · exact absurd h.symm hne
          · rw [k2] at h; exact (Option.some.inj h).symm
        subst e1 e2
        rw [hpa] at ha; cases ha
        exact ⟨rfl, k3 hb⟩
    · simp at hown
  · intro i blk hi
    rcases hmem i blk hi with ⟨rfl, rfl⟩ | ⟨rfl, ks1, m, g, e1, p1, rfl, k2, _, k4⟩
    · refine ⟨p, .inl ⟨rfl, rfl⟩, ?_⟩
      rw [hpa]
      exact ⟨cs, fz, g1, hrow, fun ho => ⟨(hfz ho).1, .inl ⟨ho, rfl⟩, fun _ _ => (hfz ho).2⟩⟩
    · refine ⟨p1, .inr ⟨rfl, k2⟩, ?_⟩
      cases hpa1 : p1.a with
      | none => rw [hpa1] at k4; show rowL ks1 g 0 m = []; rw [k4]; rfl
      | some b =>
        rw [hpa1] at k4
        obtain ⟨cs1, fz1, m1, m2⟩ := k4
        exact ⟨cs1, fz1, m1, LP_plain (rowL_pl _ _ _ _) (by rw [show (Cells.row ks1 m g).list = rowL ks1 g 0 m from rfl, rowL_len]; exact m2), fun ho => by simp at ho⟩
  · rintro i q (⟨rfl, rfl⟩ | ⟨rfl, h2⟩) _
    · rw [look_cons, upd_same]; rfl
    · rw [look_cons, upd_ne _ _ hne]
      rcases h1 with ⟨_, h3⟩ | ⟨ks1, m, g, e2, p1, rfl, _⟩
      · rw [h3] at h2; simp at h2
      · rw [look_cons, upd_same]; rfl
  · rintro i q b (⟨rfl, rfl⟩ | ⟨rfl, h2⟩) hb
    · rw [hpa] at hb; cases hb; exact .inl ⟨cs, e, fz, g1⟩
    · rcases h1 with ⟨_, h3⟩ | ⟨ks1, m, g, e2, p1, _, k2, _, k4⟩
      · rw [h3] at h2; simp at h2
      · rw [k2] at h2; cases h2
        rw [hb] at k4
        obtain ⟨cs1, fz1, m1, _⟩ := k4
        exact .inl ⟨cs1, e2, fz1, m1⟩
  · rintro i q (⟨rfl, rfl⟩ | ⟨rfl, h2⟩) hge
    · omega
    · unfold argId at hge; omega
theorem plain_ans {R' : Nat → Pl → Prop} {v v' : Value} (hv : pl2 v = true) (h1 : (∀ vs, v ≠ .tuple vs) → V2 R' v v') (h2 : ∀ vs, v = .tuple vs → ∃ vs', v' = .tuple vs' ∧ LR (V2 R') vs.toList vs'.toList) : v' = v := by
  by_cases ht : ∃ vs, v = .tuple vs
  · obtain ⟨vs, rfl⟩ := ht
    obtain ⟨vs', rfl, hl⟩ := h2 vs rfl
    have hv : vs.toList.all pl1 = true := hv
    have : vs.toList.all pl2 = true := by
      rw [List.all_eq_true] at hv ⊢
      intro x hx
      have := hv x hx
      unfold pl2; split
      · simp [pl1, pl0] at this
      · exact this
    have := (LR_plain (r := V2 R') (pl := pl2) (fun _ _ h => V2_plain h) this).1 hl
    congr 1
    exact Array.toList_inj.1 this
  · exact (V2_plain hv).1 (h1 fun vs e => ht ⟨vs, e⟩)
end
section
variable {P : Program} [Laid P]
end
end Go.W

namespace Go.W
open Go.RowKit (Below)
def srcW (mm : Nat → Option Blk) (ks : List CK) (e : TypeId) (v : Value) : Bool × Nat × Nat × (Nat → List Value) :=
  match v with
  | .slice (some ⟨b, off, none⟩) n c => (match mm b with
    | some blk => (match blk.cells with
      | .row ks' m f => (loose b && blk.own && Nat.beq blk.elem e && Nat.beq off 0 && Nat.beq n m && ksEq ks' ks && Nat.ble n c, b, n, f)
      | _ => (false, 0, 0, fun _ => []))
    | none => (false, 0, 0, fun _ => []))
  | _ => (false, 0, 0, fun _ => [])
theorem srcW_some {mm : Nat → Option Blk} {ks : List CK} {e : TypeId} {v : Value} {b n : Nat} {f : Nat → List Value} (h : srcW mm ks e v = (true, b, n, f)) : ∃ c, v = .slice (some ⟨b, 0, none⟩) n c ∧ mm b = some ⟨.row ks n f, e, true⟩ ∧ loose b = true ∧ n ≤ c := by
  unfold srcW at h
  split at h
  · rename_i b0 off n0 c
    split at h
    · rename_i blk hb
      obtain ⟨cells, e0, own⟩ := blk
      simp only at h
      split at h
      · rename_i ks' m f'
        simp only [Prod.mk.injEq, Bool.and_eq_true] at h
        obtain ⟨⟨⟨⟨⟨⟨⟨h1, h2⟩, h3⟩, h4⟩, h5⟩, h6⟩, h7⟩, rfl, rfl, rfl⟩ := h
        have h3 := nbeq.1 h3
        have h4 := nbeq.1 h4
        have h5 := nbeq.1 h5
        have h6 := ksEq_eq h6
        subst h2 h3 h4 h5 h6
        exact ⟨c, rfl, hb, h1, Nat.le_of_ble_eq_true h7⟩
      · simp at h
    · simp at h
  · simp at h
section
variable {GL : Glob} {w0 : Wb GL} {R : Nat → Pl → Prop} {fm : Nat → Option Blk} {w : World}
theorem MRel.rerow (h : MRel w0 R fm w) {i : Nat} {ks : List CK} {f f' : Nat → List Value} {e : TypeId} {o : Bool} (hi : fm i = some ⟨.row ks 0 f, e, o⟩) : MRel w0 R (upd fm i ⟨.row ks 0 f', e, o⟩) w := by
  have hx : ∀ j blk, upd fm i ⟨.row ks 0 f', e, o⟩ j = some blk → ∃ blk', fm j = some blk' ∧ blk'.own = blk.own ∧ blk'.cells.list = blk.cells.list := by
    intro j blk hj
    by_cases e1 : i = j
    · subst e1; rw [upd_same] at hj; cases hj; exact ⟨_, hi, rfl, rfl⟩
    · rw [upd_ne _ _ e1] at hj; exact ⟨blk, hj, rfl, rfl⟩
  refine ⟨h.below, h.func, ?_, ?_, ?_, h.anc, fun i1 p1 b1 h1 h2 => (h.there i1 p1 b1 h1 h2).mono (fun s pos hs => by
    have e1 : i ≠ i1 := by
      rintro rfl
      rw [hi] at hs; cases hs
    rw [upd_ne _ _ e1]) rfl, ?_⟩
  · intro i0 j0 p q b h5 h6 ha hb hne blk hblk hown blk' hblk'
    obtain ⟨b1, k1, k2, _⟩ := hx _ _ hblk
    obtain ⟨b2, k3, k4, k5⟩ := hx _ _ hblk'
    have := h.inj _ _ _ _ _ h5 h6 ha hb hne b1 k1 (k2.trans hown) b2 k3
    exact ⟨k4.symm.trans this.1, k5.symm.trans this.2⟩
  · intro j blk hj
    by_cases e1 : i = j
    · subst e1; rw [upd_same] at hj; cases hj
      have h1 : ContOk w0 R w i ⟨.row ks 0 f, e, o⟩ := h.mem i _ hi
      exact h1
    · rw [upd_ne _ _ e1] at hj; exact h.mem j blk hj
  · intro j p hp hlt
    by_cases e1 : i = j
    · subst e1; rw [upd_same]; rfl
    · rw [upd_ne _ _ e1]; exact h.dom j p hp hlt
  · intro j p hp hge
    obtain ⟨h2, h3⟩ := h.fro j p hp hge
    refine ⟨h2, fun k q hk hq blk hblk => ?_⟩
    obtain ⟨b1, k1, k2, _⟩ := hx _ _ hblk
    exact k2 ▸ h3 k q hk hq b1 k1
end
section
variable {GL : Glob} {w0 : Wb GL} {R : Nat → Pl → Prop} {fm : Nat → Option Blk} {w : World}
theorem MRel.recell (h : MRel w0 R fm w) {i : Nat} {ks : List CK} {n : Nat} {f f' : Nat → List Value} {e : TypeId} {o : Bool} (hi : fm i = some ⟨.row ks n f, e, o⟩) (hl : rowL ks f 0 n = rowL ks f' 0 n) : MRel w0 R (upd fm i ⟨.row ks n f', e, o⟩) w := by
  have hx : ∀ j blk, upd fm i ⟨.row ks n f', e, o⟩ j = some blk → ∃ blk', fm j = some blk' ∧ blk'.own = blk.own ∧ blk'.cells.list = blk.cells.list := by
    intro j blk hj
    by_cases e1 : i = j
    · subst e1; rw [upd_same] at hj; cases hj; exact ⟨_, hi, rfl, hl⟩
    · rw [upd_ne _ _ e1] at hj; exact ⟨blk, hj, rfl, rfl⟩
  refine ⟨h.below, h.func, ?_, ?_, ?_, h.anc, fun i1 p1 b1 h1 h2 => (h.there i1 p1 b1 h1 h2).mono (fun s pos hs => by
    have e1 : i ≠ i1 := by
      rintro rfl
      rw [hi] at hs; cases hs
    rw [upd_ne _ _ e1]) rfl, ?_⟩
  · intro i0 j0 p q b h5 h6 ha hb hne blk hblk hown blk' hblk'
    obtain ⟨b1, k1, k2, _⟩ := hx _ _ hblk
    obtain ⟨b2, k3, k4, k5⟩ := hx _ _ hblk'
    have := h.inj _ _ _ _ _ h5 h6 ha hb hne b1 k1 (k2.trans hown) b2 k3
    exact ⟨k4.symm.trans this.1, k5.symm.trans this.2⟩
  · intro j blk hj
    by_cases e1 : i = j
    · subst e1; rw [upd_same] at hj; cases hj
      obtain ⟨p, hp, hc⟩ : ContOk w0 R w i ⟨.row ks n f, e, o⟩ := h.mem i _ hi
      have hl2 : (Cells.row ks n f).list = (Cells.row ks n f').list := hl
      have h1 : ContOk w0 R w i ⟨.row ks n f', e, o⟩ := by
        refine ⟨p, hp, ?_⟩
        cases hpa : p.a with
        | none => rw [hpa] at hc; exact hl2.symm.trans hc
        | some b =>
          rw [hpa] at hc
          obtain ⟨cs, fz, k1, k2, k3⟩ := hc
          exact ⟨cs, fz, k1, hl2 ▸ k2, k3⟩
      exact h1
    · rw [upd_ne _ _ e1] at hj; exact h.mem j blk hj
  · intro j p hp hlt
    by_cases e1 : i = j
    · subst e1; rw [upd_same]; rfl
    · rw [upd_ne _ _ e1]; exact h.dom j p hp hlt
  · intro j p hp hge
    obtain ⟨h2, h3⟩ := h.fro j p hp hge
    refine ⟨h2, fun k q hk hq blk hblk => ?_⟩
    obtain ⟨b1, k1, k2, _⟩ := hx _ _ hblk
    exact k2 ▸ h3 k q hk hq b1 k1
end
section
variable {P : Program} [Laid P]
theorem fnO_split {C : Cfg} {fn : Func} {ex : Exit} {s' : St} {i0 : Nat} {v : Value} {x : Option Blk} (he2 : endK C.T fn ex s' (fun v => some (v, look s'.mem i0)) none = some (v, x)) : endK C.T fn ex s' some none = some v ∧ look s'.mem i0 = x := by
  have key : endK C.T fn ex s' (fun v => some (v, look s'.mem i0)) none = oK (endK C.T fn ex s' some none) (fun v => some (v, look s'.mem i0)) none := by
    unfold endK
    have key : ∀ lr : List ResultVar, resK C.T s' lr (fun vs => oneK vs fun v => some (v, look s'.mem i0)) none = oK (resK C.T s' lr (fun vs => oneK vs some) none) (fun v => some (v, look s'.mem i0)) none := by
      intro lr
      rw [resK_nat (fun o : Option Value => oK o (fun v => some (v, look s'.mem i0)) none)]
      congr 1; funext vs
      exact (oneK_nat (fun o : Option Value => oK o (fun v => some (v, look s'.mem i0)) none) vs some).symm
    cases ex <;> first | exact key _ | rfl
  rw [key, oK_some] at he2
  obtain ⟨v2, h5, h6⟩ := he2
  simp only [Option.some.injEq, Prod.mk.injEq] at h6
  obtain ⟨rfl, h6⟩ := h6
  exact ⟨h5, h6⟩
theorem msum_wr {g : FuncId} {fn : Func} {c : Code} (hf : P.funcs[g]? = some fn) (hname : (fn.name == "runtime.NumGoroutine") = false) (hb : fn.body = some c) {fuel next : Nat}
    {w0 : Wb (lay P)} {R : Nat → Pl → Prop} {fm : Nat → Option Blk} {w : World} (hm : MRel w0 R fm w) {v0 : Value} {args' : List Value} (hl : LR (V2 R) [v0] args') {mm : Nat → Option Blk} (hsub : ∀ b blk, mm b = some blk → fm b = some blk)
    {ks : List CK} {e : TypeId} {i n : Nat} {f f' : Nat → List Value} (h0 : srcW mm ks e v0 = (true, i, n, f)) (hlen : 1 ≤ fn.ntmps) {v : Value} (hv : pl2 v = true)
    (hev : ∃ C, CfgOk P C c ∧ C.n = fn.ntmps ∧ fnO C fuel fn c [.slice (some ⟨argId 0, 0, none⟩) n n] [(argId 0, ⟨.row ks n f, e, true⟩)] next (argId 0) = some (v, some ⟨.row ks n f', e, true⟩))
    (hev0 : n = 0 → ∀ f0 es, ∃ C, CfgOk P C c ∧ C.n = fn.ntmps ∧ fnMS C fuel fn c (cArgs [.sl ks 0 f0] 0) (cMem es [.sl ks 0 f0] 0) next 0 = some (v, [])) (hnt : fn.ntmps ≤ 900000000 := by decide +kernel) :
    Invokes P g args'.toArray w fun v' w' => ∃ R' : Nat → Pl → Prop, (∀ i p, R i p → R' i p) ∧ V2 R' v v' ∧ MRel w0 R' (memF fm [(i, ⟨.row ks n f', e, true⟩)]) w' := by
  obtain ⟨cc, rfl, hbm, hlo, hncc⟩ := srcW_some h0
  have hbf := hsub _ _ hbm
  by_cases hn0 : n = 0
  · subst hn0
    have hsrc : ∃ f0, srcB mm ks (.slice (some ⟨i, 0, none⟩) 0 cc) = (true, 0, f0) := by
      unfold srcB
      simp only [hbm]
      exact ⟨_, by rw [Nat.beq_refl, Nat.ble_eq_true_of_le (Nat.le_refl 0), ksEq_refl, Nat.ble_eq_true_of_le (Nat.zero_le cc)]; rfl⟩
    obtain ⟨f0, hsrc⟩ := hsrc
    have h1 := msum_at (l := []) (id := 0) hf hname hb hm hl hsub (by decide) (A := [.sl ks 0 f0]) ⟨hsrc, trivial⟩ hlen (.inl rfl) nofun (hev0 rfl f0) hnt
    unfold Invokes at h1 ⊢
    revert h1
    split
    · rintro ⟨R', h2, h3, h4⟩
      exact ⟨R', h2, h3, MRel.rerow (f' := f') h4 hbf⟩
    · intro h1
      refine Calls.mono h1 ?_
      intro ex w'
      split
      · rintro ⟨R', h2, h3, h4⟩
        exact ⟨R', h2, h3, MRel.rerow (f' := f') h4 hbf⟩
      · exact id
    · exact id
  have hne : fn.name ≠ "runtime.NumGoroutine" := by simpa using hname
  have hrun : (callFunc g args'.toArray).run P w = .ok (.enter g args'.toArray) w := by simp [callFunc, hf, hne, hb]
  unfold Invokes
  rw [hrun]
  match args', hl with
  | [], hl => exact hl.elim
  | _ :: _ :: _, hl => exact hl.2.elim
  | [v0'], hl =>
  obtain ⟨p, hp, hsl⟩ := V2_slice hl.1
  obtain ⟨_, hcc, ⟨b', hpa, rfl⟩ | ⟨_, hn1, _, _⟩⟩ := SlOk_loose hlo hsl
  rotate_left
  · omega
  obtain ⟨cs, fz, g1, g2, g3, g4⟩ := row_cells hm hbf hp hpa
  obtain ⟨rfl, hge, hroom⟩ := g4 rfl
  have hroom := hroom hlo (by omega)
  have hgl : ∀ x ∈ lay P, x.1 ≠ b' := by
    intro x hx e1
    obtain ⟨fz1, k1⟩ := hm.below.glob.1 x hx
    have k2 := hm.below.glob.2 x hx
    rw [e1] at k1 k2
    rcases hge with h5 | h5
    · exact k2 h5
    · have := heap_lt k1; omega
  obtain ⟨C, hC, hn, hev⟩ := hev
  have hmC := own_rel (i0 := argId 0) (ow := true) (pl1 := none) (mem1 := []) hm.below.gok (.inl rfl) hpa g1 g2 (fun _ => ⟨rfl, hroom⟩) hgl (.inl ⟨rfl, rfl⟩)
  unfold fnO at hev
  rw [evK_eq, oK_some] at hev
  obtain ⟨⟨ex, s'⟩, he1, he2⟩ := hev
  obtain ⟨he3, he4⟩ := fnO_split he2
  refine Calls.mono (fn_mem hC hf hb hn hmC (args := [.slice (some ⟨argId 0, 0, none⟩) n n]) (args' := [.slice (some ⟨b', p.d, none⟩) n p.c]) (And.intro (slice_V2 (q := p) (argId_loose 0) (.inl ⟨rfl, rfl⟩) (by omega) (by rw [hpa])) trivial) hlen he1 he3) ?_
  rintro ex2 w' ⟨R', v', rfl, hvv, hvt, hm'⟩
  show ∃ R2 : Nat → Pl → Prop, _ ∧ _ ∧ _
  have hvv := plain_ans hv hvv hvt
  subst hvv
  refine ⟨R, fun _ _ h => h, (V2_plain hv).2 rfl, ?_⟩
  obtain ⟨p', hp', _⟩ := memOk_row hm' he4
  have hanc := hm'.anc _ _ hp' (by unfold argId; omega) (by unfold argId; omega)
  have epp : p' = p := by
    rcases hanc with ⟨_, h⟩ | ⟨h, _⟩
    · exact h
    · unfold argId at h; omega
  subst epp
  obtain ⟨cs', fz', k1, k2, k3, k4⟩ := row_cells hm' he4 hp' hpa
  obtain ⟨rfl, _, hroom'⟩ := k4 rfl
  have hroom' := hroom' (argId_loose 0) (by omega)
  have hw := hm.write hbf hp hpa rfl g1 hge (c := .row ks n f') (cs := cs') nofun nofun nofun (LP_plain (rowL_pl _ _ _ _) (by rw [show (Cells.row ks n f').list = rowL ks f' 0 n from rfl, rowL_len]; exact k2)) (fun _ _ => hroom')
  have hbl := hm'.below
  refine hw.world ⟨hbl.os, hbl.tape, hbl.output, by simpa [setBlk] using hbl.size, fun k hk => ?_⟩
  have hk2 : k < w.heap.size := by simpa [setBlk] using hk
  by_cases hkb : k = b'
  · subst hkb
    rw [k1]
    exact (setBlk_same (w := w) (o := .cells cs' e (0, 0)) hk2).symm
  · rw [hbl.block k hk2 (fun h => hkb h.2)]
    simp only [setBlk]; rw [Array.getElem?_setIfInBounds_ne (fun h => hkb h.symm)]
end
end Go.W

namespace Go.W
open Go.RowKit (Below)
section
variable {GL : Glob} {w0 : Wb GL} {R : Nat → Pl → Prop} {fm : Nat → Option Blk} {w : World}
theorem MRel.nilRow (h : MRel w0 R fm w) {i : Nat} (hi : fm i = none) (hsm : i < 1000000) (ks : List CK) (f : Nat → List Value) (e : TypeId) :
    MRel w0 (fun j p => R j p ∨ (j = i ∧ p = ⟨none, 0, 0⟩)) (upd fm i ⟨.row ks 0 f, e, true⟩) w :=
  h.view hi hsm (.inr (.inl rfl)) (fun _ h => by simp at h) fun _ _ hp => ⟨_, hp, rfl⟩
end
section
variable {P : Program} [Laid P]
theorem invokes_nil {g : FuncId} {args' : List Value} {w : World} {w0 : Wb (lay P)} {R : Nat → Pl → Prop} {fm : Nat → Option Blk} {id : Nat} (hid : id < 60000) (hfree : fm (nid id 0) = none) {ks : List CK} {e : TypeId} {f : Nat → List Value}
    {v v2 : Value} (hv : ∀ R' : Nat → Pl → Prop, (∀ v', V2 R' (.slice none 0 0) v' → V1 R' (nSl id 0) v') → ∀ v', V2 R' v v' → V2 R' v2 v')
    (h : Invokes P g args'.toArray w fun v' w' => ∃ R' : Nat → Pl → Prop, (∀ i p, R i p → R' i p) ∧ V2 R' v v' ∧ MRel w0 R' (memF fm []) w') :
    Invokes P g args'.toArray w fun v' w' => ∃ R' : Nat → Pl → Prop, (∀ i p, R i p → R' i p) ∧ V2 R' v2 v' ∧ MRel w0 R' (memF fm [(nid id 0, ⟨.row ks 0 f, e, true⟩)]) w' := by
  have step : ∀ v' w', (∃ R' : Nat → Pl → Prop, (∀ i p, R i p → R' i p) ∧ V2 R' v v' ∧ MRel w0 R' (memF fm []) w') → ∃ R' : Nat → Pl → Prop, (∀ i p, R i p → R' i p) ∧ V2 R' v2 v' ∧ MRel w0 R' (memF fm [(nid id 0, ⟨.row ks 0 f, e, true⟩)]) w' := by
    rintro v' w' ⟨R', h1, h2, h3⟩
    have hlo : loose (nid id 0) = true := by unfold loose nid; simp; omega
    refine ⟨_, fun i p hp => .inl (h1 i p hp), hv _ ?_ v' (V2_mono (fun i p hp => .inl hp) h2), MRel.nilRow h3 hfree (by unfold nid; omega) ks f e⟩
    intro u hu
    have : u = .slice none 0 0 := (V2_plain (v := .slice none 0 0) rfl).1 hu
    subst this
    refine ⟨⟨none, 0, 0⟩, .inr ⟨rfl, rfl⟩, ?_⟩
    unfold SlOk
    rw [if_pos hlo]
    exact ⟨rfl, rfl, Nat.le_refl _, rfl, rfl, none, rfl⟩
  unfold Invokes at h ⊢
  revert h
  split
  · exact fun h => step _ _ h
  · intro h
    refine Calls.mono h ?_
    intro ex w'
    split
    · exact fun h => step _ _ h
    · exact fun h => h
  · exact fun h => h
theorem invokes_nilT {g : FuncId} {args' : List Value} {w : World} {w0 : Wb (lay P)} {R : Nat → Pl → Prop} {fm : Nat → Option Blk} {id : Nat} (hid : id < 60000) (hfree : fm (nid id 0) = none) {ks : List CK} {e : TypeId} {f : Nat → List Value} {rest : List Value}
    (h : Invokes P g args'.toArray w fun v' w' => ∃ R' : Nat → Pl → Prop, (∀ i p, R i p → R' i p) ∧ V2 R' (.tuple (.slice none 0 0 :: rest).toArray) v' ∧ MRel w0 R' (memF fm []) w') :
    Invokes P g args'.toArray w fun v' w' => ∃ R' : Nat → Pl → Prop, (∀ i p, R i p → R' i p) ∧ V2 R' (.tuple (nSl id 0 :: rest).toArray) v' ∧ MRel w0 R' (memF fm [(nid id 0, ⟨.row ks 0 f, e, true⟩)]) w' := by
  refine invokes_nil hid hfree ?_ h
  intro R' hR v' hv
  obtain ⟨vs', rfl, hl⟩ := hv
  refine ⟨vs', rfl, ?_⟩
  match hvs : vs'.toList, hl with
  | [], hl => exact hl.elim
  | u :: us, hl => exact ⟨hR u hl.1, hl.2⟩
theorem invokes_eqv {g : FuncId} {args' : List Value} {w : World} {w0 : Wb (lay P)} {R : Nat → Pl → Prop} {fm : Nat → Option Blk} {i : Nat} {ks : List CK} {n : Nat} {e : TypeId} {o : Bool} {f f' : Nat → List Value} (hf : ∀ j, j < n → nrmK ks (f j) = nrmK ks (f' j)) {v : Value}
    (h : Invokes P g args'.toArray w fun v' w' => ∃ R' : Nat → Pl → Prop, (∀ i p, R i p → R' i p) ∧ V2 R' v v' ∧ MRel w0 R' (memF fm [(i, ⟨.row ks n f, e, o⟩)]) w') :
    Invokes P g args'.toArray w fun v' w' => ∃ R' : Nat → Pl → Prop, (∀ i p, R i p → R' i p) ∧ V2 R' v v' ∧ MRel w0 R' (memF fm [(i, ⟨.row ks n f', e, o⟩)]) w' := by
  have step : ∀ v' w', (∃ R' : Nat → Pl → Prop, (∀ i p, R i p → R' i p) ∧ V2 R' v v' ∧ MRel w0 R' (memF fm [(i, ⟨.row ks n f, e, o⟩)]) w') → ∃ R' : Nat → Pl → Prop, (∀ i p, R i p → R' i p) ∧ V2 R' v v' ∧ MRel w0 R' (memF fm [(i, ⟨.row ks n f', e, o⟩)]) w' := by
    rintro v' w' ⟨R', h1, h2, h3⟩
    refine ⟨R', h1, h2, ?_⟩
    have h4 := h3.recell (i := i) (f' := f') (upd_same _ _ _) (rowL_congr ks n 0 fun j _ hj => hf j (by omega))
    have e1 : upd (memF fm [(i, ⟨.row ks n f, e, o⟩)]) i ⟨.row ks n f', e, o⟩ = memF fm [(i, ⟨.row ks n f', e, o⟩)] := by
      funext j
      show upd (upd fm i _) i _ j = upd fm i _ j
      by_cases e2 : i = j
      · subst e2; rw [upd_same, upd_same]
      · rw [upd_ne _ _ e2, upd_ne _ _ e2, upd_ne _ _ e2]
    rw [e1] at h4; exact h4
  unfold Invokes at h ⊢
  revert h
  split
  · exact fun h => step _ _ h
  · intro h
    refine Calls.mono h ?_
    intro ex w'
    split
    · exact fun h => step _ _ h
    · exact fun h => h
  · exact fun h => h
theorem new_any {fm mm : Nat → Option Blk} {i id : Nat} {blk blk' : Blk} (h : ∀ p ∈ [(i, blk)], (nid id 0 ≤ p.1 ∧ p.1 < nid id 8 → fm p.1 = none) ∧ (¬ (nid id 0 ≤ p.1 ∧ p.1 < nid id 8) → (mm p.1).isSome = true)) : ∀ p ∈ [(i, blk')], (nid id 0 ≤ p.1 ∧ p.1 < nid id 8 → fm p.1 = none) ∧ (¬ (nid id 0 ≤ p.1 ∧ p.1 < nid id 8) → (mm p.1).isSome = true) := by
  intro p hp
  rw [List.mem_singleton] at hp
  subst hp
  exact h (i, blk) (List.mem_singleton.2 rfl)
theorem new_free {fm mm : Nat → Option Blk} {id : Nat} {blk : Blk} {l : List (Nat × Blk)} (h : ∀ p ∈ (nid id 0, blk) :: l, (nid id 0 ≤ p.1 ∧ p.1 < nid id 8 → fm p.1 = none) ∧ (¬ (nid id 0 ≤ p.1 ∧ p.1 < nid id 8) → (mm p.1).isSome = true)) : fm (nid id 0) = none :=
  (h _ (List.mem_cons_self ..)).1 ⟨Nat.le_refl _, by unfold nid; omega⟩
end
end Go.W

namespace Go.W
def pkOk (n s : Int) : Prop := 1 ≤ s ∧ s ≤ 7 ∧ 0 ≤ n ∧ n < 2 ^ (8 * s.toNat)
instance (n s : Int) : Decidable (pkOk n s) := by unfold pkOk; infer_instance
noncomputable def pkL (m : Nat) (n s : Int) : Nat := hide (if pkOk n s then m + s.toNat else 0)
noncomputable def pkE (n s : Int) : Int := hide (if pkOk n s then 0 else 1)
def pkY (n s : Int) (k : Nat) : Nat := n.toNat / 2 ^ (8 * (s.toNat - 1 - k)) % 256
def pkJ (m : Nat) (g : Nat → List Value) (n s : Int) (j : Nat) : Int := if j < m then bI g j else ((pkY n s (j - m) : Nat) : Int)
noncomputable def pkR (m : Nat) (g : Nat → List Value) (n s : Int) : Nat → List Value := fun j => [.int .u8 (hide (pkJ m g n s j))]
theorem bI_pk (m : Nat) (g : Nat → List Value) (n s : Int) (j : Nat) : bI (pkR m g n s) j = pkJ m g n s j := by
  show hide _ = _; rw [hide_eq]
theorem nrm_pk (m : Nat) (g : Nat → List Value) (n s : Int) (j : Nat) : nrmK kB (pkR m g n s j) = [.int .u8 (pkJ m g n s j)] := by
  rw [nrm_kB, bI_pk]
noncomputable def PutF (e : Nat) : List Value → (Nat → Option Blk) → Nat → List (Bool × Value × List (Nat × Blk))
  | [b, .int .i64 n, .int .i64 s], mm, id => [((srcB mm kB b).1 && Nat.ble (srcB mm kB b).2.1 900000,
      .tuple #[nSl id (pkL (srcB mm kB b).2.1 n s), i64 (pkE n s)], rw1 e id (pkL (srcB mm kB b).2.1 n s) (pkR (srcB mm kB b).2.1 (srcB mm kB b).2.2 n s))]
  | _, _, _ => []
theorem pkL_ok {m : Nat} {n s : Int} (h : pkOk n s) : pkL m n s = m + s.toNat := by unfold pkL; rw [hide_eq, if_pos h]
theorem pkL_no {m : Nat} {n s : Int} (h : ¬ pkOk n s) : pkL m n s = 0 := by unfold pkL; rw [hide_eq, if_neg h]
theorem pkE_ok {n s : Int} (h : pkOk n s) : pkE n s = 0 := by unfold pkE; rw [hide_eq, if_pos h]
theorem pkE_no {n s : Int} (h : ¬ pkOk n s) : pkE n s = 1 := by unfold pkE; rw [hide_eq, if_neg h]
theorem sh8 {i : Nat} (h : i ≤ 7) : IntKind.u64.wrap (IntKind.i64.wrap (8 * (i : Int))) = ((8 * i : Nat) : Int) := by
  rw [wrap_i64 (by omega), wrap_u64]; omega
theorem shr_n {n : Int} (hn : 0 ≤ n) {k : Nat} (hk : k ≤ 64) : iShr .i64 n ((k : Nat) : Int) = ((n.toNat / 2 ^ k : Nat) : Int) := by
  unfold iShr
  rw [show min ((k : Nat) : Int).toNat IntKind.i64.bits = k from by show min k 64 = k; omega]
  obtain ⟨x, rfl⟩ := Int.eq_ofNat_of_zero_le hn
  rw [Int.fdiv_eq_ediv_of_nonneg _ (Int.le_of_lt (Int.pow_pos (by decide)))]
  show ((x : Int) / 2 ^ k) = ((x / 2 ^ k : Nat) : Int)
  rw [Int.natCast_ediv, Int.natCast_pow]; rfl
theorem byt_n {n : Int} (hn : 0 ≤ n) {i : Nat} (hi : i ≤ 7) : IntKind.u8.wrap (iShr .i64 n (IntKind.u64.wrap (IntKind.i64.wrap (8 * (i : Int))))) = ((n.toNat / 2 ^ (8 * i) % 256 : Nat) : Int) := by
  rw [sh8 hi, shr_n hn (by omega), wrap_u8]; omega
theorem two_pos (k : Nat) : 0 < 2 ^ k := Nat.pow_pos (by decide)
theorem fit_n {n : Int} (hn : 0 ≤ n) {s : Int} (h1 : 1 ≤ s) (h7 : s ≤ 7) : (iShr .i64 n (IntKind.u64.wrap (IntKind.i64.wrap (8 * s))) != 0) = !(decide (pkOk n s)) := by
  obtain ⟨t, rfl⟩ := Int.eq_ofNat_of_zero_le (show 0 ≤ s by omega)
  obtain ⟨x, rfl⟩ := Int.eq_ofNat_of_zero_le hn
  rw [sh8 (by omega), shr_n hn (by omega)]
  have hp := two_pos (8 * t)
  by_cases h : pkOk (x : Int) (t : Int)
  · rw [decide_eq_true h]
    have h2 : (x : Int) < 2 ^ (8 * t) := h.2.2.2
    have h3 : x < 2 ^ (8 * t) := by
      have e : ((2 : Int) ^ (8 * t)) = ((2 ^ (8 * t) : Nat) : Int) := by rw [Int.natCast_pow]; rfl
      rw [e] at h2; exact Int.ofNat_lt.1 h2
    show (((x / 2 ^ (8 * t) : Nat) : Int) != 0) = false
    rw [Nat.div_eq_of_lt h3]; rfl
  · rw [decide_eq_false h]
    show (((x / 2 ^ (8 * t) : Nat) : Int) != 0) = true
    rw [bne_iff_ne]
    intro e
    refine h ⟨h1, h7, hn, ?_⟩
    have e1 : x / 2 ^ (8 * t) = 0 := by omega
    have h3 : x < 2 ^ (8 * t) := by
      rcases Nat.div_eq_zero_iff.1 e1 with h4 | h4
      · omega
      · exact h4
    have e2 : ((2 : Int) ^ (8 * t)) = ((2 ^ (8 * t) : Nat) : Int) := by rw [Int.natCast_pow]; rfl
    show (x : Int) < 2 ^ (8 * t)
    rw [e2]; exact Int.ofNat_lt.2 h3
noncomputable def okY (m : Nat) (f : Nat → List Value) : Bool := hide (@decide (∀ j, j < m → 0 ≤ bI f j ∧ bI f j < 256) (Classical.propDecidable _))
theorem okY_iff {m : Nat} {f : Nat → List Value} : okY m f = true ↔ ∀ j, j < m → 0 ≤ bI f j ∧ bI f j < 256 := by
  unfold okY; rw [hide_eq]
  exact ⟨fun h => @of_decide_eq_true _ (Classical.propDecidable _) h, fun h => @decide_eq_true _ (Classical.propDecidable _) h⟩
def gtE0 (m : Nat) (at' s : Int) : Int := if ¬ (1 ≤ s ∧ s ≤ 7 ∧ 0 ≤ at' ∧ at' ≤ (m : Int)) then 1 else if (m : Int) - at' < s then 7 else 0
def gtV (f : Nat → List Value) (a : Nat) : Nat → Nat
  | 0 => 0
  | k + 1 => gtV f a k * 256 + (bI f (a + k)).toNat
noncomputable def gtE (m : Nat) (at' s : Int) : Int := hide (gtE0 m at' s)
noncomputable def gtN (m : Nat) (f : Nat → List Value) (at' s : Int) : Int := hide (if gtE0 m at' s = 0 then ((gtV f at'.toNat s.toNat : Nat) : Int) else 0)
noncomputable def gtX (m : Nat) (at' s : Int) : Int := hide (if gtE0 m at' s = 0 then at' + s else 0)
noncomputable def GetF : List Value → (Nat → Option Blk) → Nat → List (Bool × Value × List (Nat × Blk))
  | [b, .int .i64 at', .int .i64 s], mm, _ => [((srcB mm kB b).1 && (okY (srcB mm kB b).2.1 (srcB mm kB b).2.2 && Nat.ble (srcB mm kB b).2.1 1000000),
      .tuple #[i64 (gtN (srcB mm kB b).2.1 (srcB mm kB b).2.2 at' s), i64 (gtX (srcB mm kB b).2.1 at' s), i64 (gtE (srcB mm kB b).2.1 at' s)], [])]
  | _, _, _ => []
theorem gtV_congr {f g : Nat → List Value} {a : Nat} : ∀ k, (∀ j, a ≤ j → j < a + k → bI f j = bI g j) → gtV f a k = gtV g a k
  | 0, _ => rfl
  | k + 1, h => by rw [gtV, gtV, gtV_congr k (fun j h1 h2 => h j h1 (by omega)), h (a + k) (by omega) (by omega)]
theorem gtV_lt {m : Nat} {f : Nat → List Value} (h : ∀ j, j < m → 0 ≤ bI f j ∧ bI f j < 256) {a : Nat} : ∀ k, a + k ≤ m → gtV f a k < 2 ^ (8 * k)
  | 0, _ => Nat.lt_of_lt_of_le Nat.zero_lt_one (Nat.le_refl 1)
  | k + 1, hk => by
    have h1 := gtV_lt h (a := a) k (by omega)
    have h2 := h (a + k) (by omega)
    rw [gtV, show 8 * (k + 1) = 8 * k + 8 from by omega, Nat.pow_add]
    have : (2 : Nat) ^ 8 = 256 := by decide
    rw [this]
    have : (gtV f a k + 1) * 256 ≤ 2 ^ (8 * k) * 256 := Nat.mul_le_mul_right _ h1
    omega
noncomputable def ppL (m k : Nat) : Nat := hide (if k ≤ 16384 then m + 4 + k else 0)
noncomputable def ppE (k : Nat) : Int := hide (if k ≤ 16384 then 0 else 4)
def ppJ (m : Nat) (g : Nat → List Value) (k : Nat) (p : Nat → List Value) (j : Nat) : Int := if j < m + 4 then pkJ m g (k : Nat) 4 j else bI p (j - (m + 4))
noncomputable def ppR (m : Nat) (g : Nat → List Value) (k : Nat) (p : Nat → List Value) : Nat → List Value := fun j => [.int .u8 (hide (ppJ m g k p j))]
theorem bI_pp (m : Nat) (g : Nat → List Value) (k : Nat) (p : Nat → List Value) (j : Nat) : bI (ppR m g k p) j = ppJ m g k p j := by
  show hide _ = _; rw [hide_eq]
noncomputable def PtpF (e : Nat) : List Value → (Nat → Option Blk) → Nat → List (Bool × Value × List (Nat × Blk))
  | [b, p], mm, id => [((srcB mm kB b).1 && (srcB mm kB p).1 && Nat.ble (srcB mm kB b).2.1 900000,
      .tuple #[nSl id (ppL (srcB mm kB b).2.1 (srcB mm kB p).2.1), i64 (ppE (srcB mm kB p).2.1)], rw1 e id (ppL (srcB mm kB b).2.1 (srcB mm kB p).2.1) (ppR (srcB mm kB b).2.1 (srcB mm kB b).2.2 (srcB mm kB p).2.1 (srcB mm kB p).2.2))]
  | _, _, _ => []
def gpE0 (m : Nat) (f : Nat → List Value) (at' : Int) : Int :=
  if gtE0 m at' 4 ≠ 0 then gtE0 m at' 4 else if (16384 : Int) < (gtV f at'.toNat 4 : Nat) ∨ (m : Int) - (at' + 4) < (gtV f at'.toNat 4 : Nat) then 7 else 0
noncomputable def gpE (m : Nat) (f : Nat → List Value) (at' : Int) : Int := hide (gpE0 m f at')
noncomputable def gpL (m : Nat) (f : Nat → List Value) (at' : Int) : Nat := hide (if gpE0 m f at' = 0 then gtV f at'.toNat 4 else 0)
noncomputable def gpX (m : Nat) (f : Nat → List Value) (at' : Int) : Int := hide (if gpE0 m f at' = 0 then at' + 4 + ((gtV f at'.toNat 4 : Nat) : Int) else 0)
noncomputable def gpR (f : Nat → List Value) (at' : Int) : Nat → List Value := fun j => [.int .u8 (hide (bI f (at'.toNat + 4 + j)))]
theorem bI_gp (f : Nat → List Value) (at' : Int) (j : Nat) : bI (gpR f at') j = bI f (at'.toNat + 4 + j) := by
  show hide _ = _; rw [hide_eq]
noncomputable def GtpF (e : Nat) : List Value → (Nat → Option Blk) → Nat → List (Bool × Value × List (Nat × Blk))
  | [b, .int .i64 at'], mm, id => [((srcB mm kB b).1 && (okY (srcB mm kB b).2.1 (srcB mm kB b).2.2 && Nat.ble (srcB mm kB b).2.1 1000000),
      .tuple #[nSl id (gpL (srcB mm kB b).2.1 (srcB mm kB b).2.2 at'), i64 (gpX (srcB mm kB b).2.1 (srcB mm kB b).2.2 at'), i64 (gpE (srcB mm kB b).2.1 (srcB mm kB b).2.2 at')],
      rw1 e id (gpL (srcB mm kB b).2.1 (srcB mm kB b).2.2 at') (gpR (srcB mm kB b).2.2 at'))]
  | _, _, _ => []
noncomputable def spF (f : Nat → List Value) : Nat → List Value := fun j => [.int .u8 (hide (IntKind.u8.wrap (bI f j + 101)))]
def spM (f : Nat → List Value) (k : Nat) : Nat → List Value := fun j => [.int .u8 (if j < k then IntKind.u8.wrap (bI f j + 101) else bI f j)]
theorem spM_zero (f : Nat → List Value) {m : Nat} : ∀ j, j < m → nrmK kB (f j) = nrmK kB (spM f 0 j) := fun j _ => by
  rw [nrm_kB, nrm_kB]; congr 2
theorem spM_all (f : Nat → List Value) (m : Nat) : ∀ j, j < m → nrmK kB (spM f m j) = nrmK kB (spF f j) := fun j hj => by
  rw [nrm_kB, nrm_kB]
  show [Value.int .u8 (if j < m then _ else _)] = [Value.int .u8 (hide _)]
  rw [if_pos hj, hide_eq]
theorem bI_upd (f : Nat → List Value) (k : Nat) (x : Int) (j : Nat) : bI (updR f k [.int .u8 x]) j = if j = k then x else bI f j := by
  show toI ((bif Nat.beq j k then [Value.int .u8 x] else f j).headD _) = _
  by_cases h : j = k
  · rw [if_pos h, nbeq.2 h, cond_true]; rfl
  · rw [if_neg h, show Nat.beq j k = false from by rw [Bool.eq_false_iff, ne_eq, nbeq]; exact h, cond_false]; rfl
theorem bI_spM (f : Nat → List Value) (k j : Nat) : bI (spM f k) j = if j < k then IntKind.u8.wrap (bI f j + 101) else bI f j := rfl
theorem spM_step (f : Nat → List Value) (k : Nat) {m : Nat} : ∀ j, j < m → nrmK kB (updR (spM f k) k [.int .u8 (IntKind.u8.wrap (bI (spM f k) k + 101))] j) = nrmK kB (spM f (k + 1) j) := fun j _ => by
  rw [nrm_kB, nrm_kB, bI_upd, bI_spM, bI_spM, bI_spM]
  congr 2
  by_cases h : j = k
  · subst h
    rw [if_pos rfl, if_neg (by omega), if_pos (by omega)]
  · rw [if_neg h]
    by_cases h2 : j < k
    · rw [if_pos h2, if_pos (by omega)]
    · rw [if_neg h2, if_neg (by omega)]
noncomputable def SpoF (e : Nat) : List Value → (Nat → Option Blk) → Nat → List (Bool × Value × List (Nat × Blk))
  | [v], mm, _ => [((srcW mm kB e v).1 && Nat.ble (srcW mm kB e v).2.2.1 1000000, .tuple #[], [((srcW mm kB e v).2.1, ⟨.row kB (srcW mm kB e v).2.2.1 (spF (srcW mm kB e v).2.2.2), e, true⟩)])]
  | _, _, _ => []
end Go.W

namespace Go.Proofs.Ytkgkdjecmnhdmaa
set_option maxRecDepth 100000
open Go.W
def spNt : List Nat := [0, 2]
def spNi : List Nat := [1500000]
def spSt (m : Nat) (g : Nat → List Value) (e0 : Nat) (o : Bool) (i : Int) : St := ⟨[(0, aSl 0 m), (2, i64 i)], [(1500000, ⟨.row kB m g, e0, o⟩)], 4⟩
def spC0 : Cfg := ⟨tab, [], 17, []⟩
theorem spOk0 : CfgOk Try.prog spC0 (bodyOf Try.f11) := ⟨mixed, tabOk, sums_nil, noL⟩
theorem sp_at : codeAt [1, 0] (bodyOf Try.f11) = some (.loop (loopAt [1, 0] (bodyOf Try.f11))) := by kernel_rfl
theorem sp_r (m : Nat) (g : Nat → List Value) (k : Nat) : roundS spC0 60 [1, 0, 0] (loopAt [1, 0] (bodyOf Try.f11)) spNt spNi 4 spNt spNi 4 (spSt m g 5 true (k : Int)) =
    bif decide ((k : Int) < (m : Int)) then rdR k m (rdR k m (some (.normal, spSt m (updR g (0 + k) [.int .u8 (IntKind.u8.wrap (bI g (0 + k) + 101))]) 5 true (IntKind.i64.wrap ((k : Int) + 1)))))
    else some (.exit 0, spSt m g 5 true (k : Int)) := by kernel_rfl
theorem sp_loop {m : Nat} {g : Nat → List Value} (hm : m ≤ 1000000) : LoopOk Try.prog 17 (loopAt [1, 0] (bodyOf Try.f11)) (atSt spNt spNi 4 (spSt m (spM g 0) 5 true 0) (.exit 0) (spSt m (spF g) 5 true (m : Int))) := by
  refine loopE (fun _ => spC0) m (fun _ _ => spOk0) (fun _ => rfl) sp_at (m := 60) (nt := spNt) (ni := spNi) (et := spNt) (ei := spNi) (nx := 4) (ex := 4) (fun k => spSt m (spM g k) 5 true (k : Int)) rfl (by intro h; cases h) ?_ ?_
  · intro k hk
    refine ⟨_, ?_, stEq_mk (sl := [(0, aSl 0 m), (2, i64 ((k + 1 : Nat) : Int))]) rfl (mRow (spM_step g k) mNil)⟩
    refine (sp_r m (spM g k) k).trans ?_
    rw [decide_eq_true (by omega), cond_true, rdR_eq hk, rdR_eq hk, wrap_i64 (by omega), Nat.zero_add]; rfl
  · refine ⟨_, ?_, stEq_mk (sl := [(0, aSl 0 m), (2, i64 (m : Int))]) rfl (mRow (spM_all g m) mNil)⟩
    refine (sp_r m (spM g m) m).trans ?_
    rw [decide_eq_false (by omega), cond_false]; rfl
noncomputable def spC (m : Nat) (g : Nat → List Value) : Cfg := ⟨tab, [], 17, [([1, 0], atSt spNt spNi 4 (spSt m (spM g 0) 5 true 0) (.exit 0) (spSt m (spF g) 5 true (m : Int)))]⟩
theorem sp_ev (m : Nat) (g : Nat → List Value) : fnO (spC m g) 60 Try.f11 (bodyOf Try.f11) [.slice (some ⟨argId 0, 0, none⟩) m m] [(argId 0, ⟨.row kB m g, 5, true⟩)] 0 (argId 0) =
    req (stEq (spSt m g 5 true 0) (spSt m (spM g 0) 5 true 0)) (some (.tuple #[], some ⟨.row kB m (spF g), 5, true⟩)) := by kernel_rfl
theorem sp_at0 (g : Nat → List Value) (e0 : Nat) : roundS spC0 60 [1, 0, 0] (loopAt [1, 0] (bodyOf Try.f11)) spNt spNi 4 spNt spNi 4 (spSt 0 g e0 false 0) = some (.exit 0, spSt 0 g e0 false 0) := by kernel_rfl
theorem sp_loop0 {g : Nat → List Value} {e0 : Nat} : LoopOk Try.prog 17 (loopAt [1, 0] (bodyOf Try.f11)) (atSt spNt spNi 4 (spSt 0 g e0 false 0) (.exit 0) (spSt 0 g e0 false 0)) :=
  loopE (fun _ => spC0) 0 (fun _ _ => spOk0) (fun _ => rfl) sp_at (m := 60) (nt := spNt) (ni := spNi) (et := spNt) (ei := spNi) (nx := 4) (ex := 4) (fun _ => spSt 0 g e0 false 0) rfl (by intro h; cases h) (fun k hk => absurd hk (by omega)) ⟨_, sp_at0 g e0, stEq_refl rfl⟩
noncomputable def spCz (g : Nat → List Value) (e0 : Nat) : Cfg := ⟨tab, [], 17, [([1, 0], atSt spNt spNi 4 (spSt 0 g e0 false 0) (.exit 0) (spSt 0 g e0 false 0))]⟩
theorem sp_evz (g : Nat → List Value) (es : Nat → Nat) : fnMS (spCz g (es 0)) 60 Try.f11 (bodyOf Try.f11) (cArgs [.sl kB 0 g] 0) (cMem es [.sl kB 0 g] 0) 0 0 = req (stEq (spSt 0 g (es 0) false 0) (spSt 0 g (es 0) false 0)) (some (.tuple #[], [])) := by kernel_rfl
theorem spo_msum : MSum Try.prog 11 (SpoF 5) := by
  intro w0 R fm w hm vs args' hl mm hsub id hlt v l hpick hnew
  match vs, hl, hpick with
  | [a], hl, hpick =>
    obtain ⟨hc, rfl, rfl⟩ := pick_one hpick
    simp only [Bool.and_eq_true] at hc
    obtain ⟨ha, hn⟩ := hc
    generalize hqa : srcW mm kB 5 a = qa at ha hn ⊢
    obtain ⟨ok1, i, n, f⟩ := qa
    simp only at ha hn ⊢
    subst ha
    have hn := Nat.le_of_ble_eq_true hn
    refine msum_wr (c := bodyOf Try.f11) (fuel := 60) (next := 0) Try.func11 (by kernel_rfl) (by kernel_rfl) hm hl hsub hqa (by show 1 ≤ Try.f11.ntmps; decide +kernel) rfl ?_ ?_
    · refine ⟨spC n f, ⟨mixed, tabOk, sums_nil, oneL (sp_loop hn)⟩, rfl, ?_⟩
      exact (sp_ev n f).trans (req_true (stEq_mk (sl := [(0, aSl 0 n), (2, i64 0)]) rfl (mRow (spM_zero f) mNil)))
    · intro _ f0 es
      refine ⟨spCz f0 (es 0), ⟨mixed, tabOk, sums_nil, oneL sp_loop0⟩, rfl, ?_⟩
      exact (sp_evz f0 es).trans (req_true (stEq_refl rfl))
  | [], _, h => simp [SpoF, pickM] at h
  | _ :: _ :: _, _, h => simp [SpoF, pickM] at h
end Go.Proofs.Ytkgkdjecmnhdmaa

namespace Go.W
def apB {α : Type} (L : Nat) (x : Option α) : Option α := req (szOk (L + 1) 1) (req (Nat.beq L L && true && true) x)
theorem apB_eq {α : Type} {L : Nat} (h : L ≤ 1000000) (x : Option α) : apB L x = x := by
  unfold apB
  rw [szOk_small (by omega), req_true rfl, Nat.beq_refl, req_true (b := true && true && true) rfl]
theorem pk_step (m : Nat) (g : Nat → List Value) (n s : Int) (k : Nat) : ∀ j, j < m + k + 1 → nrmK kB (appF (m + k) (pkR m g n s) (lstF [.int .u8 ((n.toNat / 2 ^ (8 * (s.toNat - 1 - k)) % 256 : Nat) : Int)] 0 1) j) = nrmK kB (pkR m g n s j) :=
  app_row (ks := kB) (fun _ _ => rfl) (by
    rw [nrm_pk]
    unfold pkJ pkY
    rw [if_neg (by omega), show m + k - m = k from by omega]; rfl)
def pkErr : Option (Value × List (Nat × Blk)) := some (.tuple #[.slice none 0 0, i64 1], [])
theorem pk_tree {n s : Int} (h : pkOk n s) (x : Option (Value × List (Nat × Blk))) : (bif decide (s < 1) then pkErr else bif decide (s > 7) then pkErr else bif decide (n < 0) then pkErr else bif decide (IntKind.u64.wrap (IntKind.i64.wrap (8 * s)) < 0) then none else bif iShr .i64 n (IntKind.u64.wrap (IntKind.i64.wrap (8 * s))) != 0 then pkErr else x) = x := by
  have h1 := h.1
  have h7 := h.2.1
  have hn := h.2.2.1
  rw [decide_eq_false (by omega), decide_eq_false (by omega), decide_eq_false (by omega), fit_n hn h1 h7, decide_eq_true h, decide_eq_false (by rw [wrap_u64]; omega)]
  rfl
theorem pk_treeN {n s : Int} (h : ¬ pkOk n s) (x : Option (Value × List (Nat × Blk))) : (bif decide (s < 1) then pkErr else bif decide (s > 7) then pkErr else bif decide (n < 0) then pkErr else bif decide (IntKind.u64.wrap (IntKind.i64.wrap (8 * s)) < 0) then none else bif iShr .i64 n (IntKind.u64.wrap (IntKind.i64.wrap (8 * s))) != 0 then pkErr else x) = pkErr := by
  by_cases h1 : s < 1
  · rw [decide_eq_true h1, cond_true]
  by_cases h7 : s > 7
  · rw [decide_eq_false h1, decide_eq_true h7]; rfl
  by_cases hn : n < 0
  · rw [decide_eq_false h1, decide_eq_false h7, decide_eq_true hn]; rfl
  rw [decide_eq_false h1, decide_eq_false h7, decide_eq_false hn, fit_n (by omega) (by omega) (by omega), decide_eq_false h, decide_eq_false (by rw [wrap_u64]; omega)]
  rfl
theorem pk_twn (m : Nat) (g : Nat → List Value) (n s : Int) : ∀ j, j < m → nrmK kB (twF (sgF m g) j) = nrmK kB (pkR m g n s j) := fun j hj => by
  rw [nrm_pk, nrm_kB, bI_tw, bI_sg]
  unfold pkJ
  rw [if_pos hj]
theorem iOr_i {a b : Nat} (ha : a < 9223372036854775808) (hb : b < 9223372036854775808) : iOr .i64 (a : Int) (b : Int) = ((a ||| b : Nat) : Int) := by
  have e : (BitVec.ofInt IntKind.i64.bits (a : Int) ||| BitVec.ofInt IntKind.i64.bits (b : Int)).toNat = a ||| b := by
    show (BitVec.ofInt 64 (a : Int) ||| BitVec.ofInt 64 (b : Int)).toNat = a ||| b
    rw [BitVec.toNat_or, BitVec.ofInt_natCast, BitVec.ofInt_natCast, BitVec.toNat_ofNat, BitVec.toNat_ofNat, Nat.mod_eq_of_lt (by omega), Nat.mod_eq_of_lt (by omega)]
  have h : a ||| b < 2 ^ 63 := Nat.or_lt_two_pow (by omega) (by omega)
  unfold iOr
  rw [e, wrap_i64 (by omega)]
theorem or_byt {a c : Nat} (hc : c < 256) : a * 256 ||| c = a * 256 + c := by
  have h := Nat.shiftLeft_add_eq_or_of_lt (i := 8) (b := c) (by omega) a
  rw [Nat.shiftLeft_eq] at h
  exact h.symm
theorem get8 {x c : Nat} (hx : x < 281474976710656) (hc : c < 256) : iOr .i64 (iShl .i64 (x : Int) 8) (IntKind.i64.wrap (c : Int)) = ((x * 256 + c : Nat) : Int) := by
  have e : iShl .i64 (x : Int) 8 = ((x * 256 : Nat) : Int) := by
    unfold iShl
    show IntKind.i64.wrap ((x : Int) * 2 ^ 8) = _
    rw [wrap_i64 (by omega)]; omega
  rw [e, wrap_i64 (by omega), iOr_i (by omega) (by omega), or_byt hc]
def rdI {α : Type} (i : Int) (m : Nat) (x : Option α) : Option α := req (inR i m) (req (Nat.blt i.toNat m && true) x)
theorem rdI_eq {α : Type} {k m : Nat} (h : k < m) (x : Option α) : rdI (k : Int) m x = x := rdR_eq h x
def gtErr (e : Int) : Option (Value × List (Nat × Blk)) := some (.tuple #[i64 0, i64 0, i64 e], [])
def gtT (m : Nat) (a s : Int) (x : Option (Value × List (Nat × Blk))) : Option (Value × List (Nat × Blk)) :=
  bif decide (s < 1) then gtErr 1 else bif decide (s > 7) then gtErr 1 else bif decide (a < 0) then gtErr 1 else bif decide (a > (m : Int)) then gtErr 1 else bif decide (IntKind.i64.wrap ((m : Int) - a) < s) then gtErr 7 else x
theorem gtT_eq {m : Nat} (hm : m ≤ 1000000) (a s : Int) (x : Option (Value × List (Nat × Blk))) : gtT m a s x = if gtE0 m a s = 0 then x else gtErr (gtE0 m a s) := by
  unfold gtT gtE0
  by_cases h1 : s < 1
  · rw [decide_eq_true h1, cond_true, if_pos (show ¬ (1 ≤ s ∧ s ≤ 7 ∧ 0 ≤ a ∧ a ≤ (m : Int)) by omega), if_neg (by decide)]
  by_cases h2 : s > 7
  · rw [decide_eq_false h1, decide_eq_true h2, if_pos (show ¬ (1 ≤ s ∧ s ≤ 7 ∧ 0 ≤ a ∧ a ≤ (m : Int)) by omega), if_neg (by decide)]; rfl
  by_cases h3 : a < 0
  · rw [decide_eq_false h1, decide_eq_false h2, decide_eq_true h3, if_pos (show ¬ (1 ≤ s ∧ s ≤ 7 ∧ 0 ≤ a ∧ a ≤ (m : Int)) by omega), if_neg (by decide)]; rfl
  by_cases h4 : a > (m : Int)
  · rw [decide_eq_false h1, decide_eq_false h2, decide_eq_false h3, decide_eq_true h4, if_pos (show ¬ (1 ≤ s ∧ s ≤ 7 ∧ 0 ≤ a ∧ a ≤ (m : Int)) by omega), if_neg (by decide)]; rfl
  rw [decide_eq_false h1, decide_eq_false h2, decide_eq_false h3, decide_eq_false h4, wrap_i64 (by omega), if_neg (show ¬ ¬ (1 ≤ s ∧ s ≤ 7 ∧ 0 ≤ a ∧ a ≤ (m : Int)) by omega)]
  by_cases h5 : (m : Int) - a < s
  · rw [decide_eq_true h5, if_pos h5, if_neg (by decide)]; rfl
  · rw [decide_eq_false h5, if_neg h5, if_pos rfl]; rfl
theorem gtE0_ok {m : Nat} {a s : Int} (h : gtE0 m a s = 0) : 1 ≤ s ∧ s ≤ 7 ∧ 0 ≤ a ∧ a + s ≤ (m : Int) := by
  unfold gtE0 at h
  split at h
  · simp at h
  · split at h
    · simp at h
    · omega
def ppErr : Option (Value × List (Nat × Blk)) := some (.tuple #[.slice none 0 0, i64 4], [])
def kb3 (k : Nat) : Bool := true && Nat.ble k k && true
theorem kb3_true (k : Nat) : kb3 k = true := by unfold kb3; rw [bE (Nat.le_refl _)]; rfl
def apK {α : Type} (L k : Nat) (x : Option α) : Option α := req (kb3 k) (req (szOk (L + k) 1) (req (Nat.beq L L && true && true) x))
theorem apK_eq {α : Type} {L k : Nat} (h : L + k ≤ 2000000) (x : Option α) : apK L k x = x := by
  unfold apK
  rw [kb3_true, req_true rfl, szOk_small h, req_true rfl, Nat.beq_refl, req_true (b := true && true && true) rfl]
theorem pk_len (k : Nat) (h : k ≤ 16384) : pkOk (k : Int) 4 := ⟨by decide, by decide, by omega, by show (k : Int) < 2 ^ 32; omega⟩
theorem pp_row (m : Nat) (g : Nat → List Value) (k : Nat) (p : Nat → List Value) : ∀ j, j < m + 4 + k → nrmK kB (appF (m + 4) (pkR m (sgF m g) (k : Nat) 4) (sgF k p) j) = nrmK kB (ppR m g k p j) := fun j hj => by
  rw [nrm_kB, nrm_kB, bI_pp]
  unfold ppJ
  have hb : bI (appF (m + 4) (pkR m (sgF m g) (k : Nat) 4) (sgF k p)) j = if j < m + 4 then bI (pkR m (sgF m g) (k : Nat) 4) j else bI (sgF k p) (j - (m + 4)) := by
    by_cases h : j < m + 4
    · rw [if_pos h]
      show toI (List.headD (bif Nat.blt j (m + 4) then _ else _) _) = _
      rw [bL h, cond_true]; rfl
    · rw [if_neg h]
      show toI (List.headD (bif Nat.blt j (m + 4) then _ else _) _) = _
      rw [show Nat.blt j (m + 4) = false from by rw [Bool.eq_false_iff, ne_eq, Nat.blt_eq]; omega, cond_false]; rfl
  rw [hb, bI_sg, bI_pk]
  by_cases h : j < m + 4
  · rw [if_pos h, if_pos h]
    unfold pkJ
    rw [bI_sg]
  · rw [if_neg h, if_neg h]
def sgA (l c m : Nat) (f : Nat → List Value) : Nat → List Value := segF ⟨0, l, c, kB, m, f, 0, false, []⟩
theorem bI_sgA (l c m : Nat) (f : Nat → List Value) (j : Nat) : bI (sgA l c m f) j = bI f (l + j) := rfl
def kbT (l c m : Nat) : Bool := (true && Nat.ble (l + c) m) && (true && Nat.ble c c && true && Nat.ble c (m - l))
theorem kbT_true {l c m : Nat} (h : l + c ≤ m) : kbT l c m = true := by
  unfold kbT
  rw [bE h, bE (Nat.le_refl c), bE (show c ≤ m - l by omega)]; rfl
noncomputable def gtk (m : Nat) (g : Nat → List Value) : Bool := kb4 m && (okY m (sgF m g) && Nat.ble m 1000000)
theorem gtk_true {m : Nat} {g : Nat → List Value} (hm : m ≤ 1000000) (h : ∀ j, j < m → 0 ≤ bI g j ∧ bI g j < 256) : gtk m g = true := by
  unfold gtk
  rw [kb4_true, okY_iff.2 (fun j hj => by rw [bI_sg]; exact h j hj), bE hm]; rfl
def gpErr (e : Int) : Option (Value × List (Nat × Blk)) := some (.tuple #[.slice none 0 0, i64 0, i64 e], [])
def gpS (e m : Nat) (g : Nat → List Value) (X N : Int) (id : Nat) : Option (Value × List (Nat × Blk)) :=
  req (decide (0 ≤ IntKind.i64.wrap (X + N)) && decide (IntKind.i64.wrap (X + N) ≤ (m : Int))) (req (decide (0 ≤ X) && decide (X ≤ (((IntKind.i64.wrap (X + N)).toNat : Nat) : Int))) (req (Nat.ble (IntKind.i64.wrap (X + N)).toNat m)
    (req (kbT X.toNat ((IntKind.i64.wrap (X + N)).toNat - X.toNat) m && szOk ((IntKind.i64.wrap (X + N)).toNat - X.toNat) 1) (req (Nat.ble ((IntKind.i64.wrap (X + N)).toNat - X.toNat) ((IntKind.i64.wrap (X + N)).toNat - X.toNat))
      (some (.tuple #[nSl id ((IntKind.i64.wrap (X + N)).toNat - X.toNat), i64 (IntKind.i64.wrap (X + N)), i64 0], rw1 e id ((IntKind.i64.wrap (X + N)).toNat - X.toNat) (twF (sgA X.toNat ((IntKind.i64.wrap (X + N)).toNat - X.toNat) m g))))))))
theorem gpS_eq {e m : Nat} {g : Nat → List Value} {x n id : Nat} (hm : m ≤ 1000000) (h : x + n ≤ m) : gpS e m g (x : Int) (n : Int) id = some (.tuple #[nSl id n, i64 ((x : Int) + (n : Int)), i64 0], rw1 e id n (twF (sgA x n m g))) := by
  unfold gpS
  rw [wrap_i64 (by omega), show ((x : Int) + (n : Int)).toNat = x + n from by omega, Int.toNat_natCast, show x + n - x = n from by omega, decide_eq_true (by omega), decide_eq_true (by omega), req_true (b := true && true) rfl, decide_eq_true (by omega), decide_eq_true (by omega), req_true (b := true && true) rfl, bE h, req_true rfl, kbT_true h, szOk_small (by omega), req_true (b := true && true) rfl, bE (Nat.le_refl _), req_true rfl]
theorem gp_row (m : Nat) (g : Nat → List Value) (a : Int) (n : Nat) : ∀ j, j < n → nrmK kB (twF (sgA (a.toNat + 4) n m g) j) = nrmK kB (gpR g a j) := fun j _ => by
  rw [nrm_kB, nrm_kB, bI_tw, bI_sgA, bI_gp]
theorem gpE0_ok {m : Nat} {f : Nat → List Value} {a : Int} (h : gpE0 m f a = 0) : gtE0 m a 4 = 0 ∧ (0 ≤ a ∧ a + 4 ≤ (m : Int)) ∧ gtV f a.toNat 4 ≤ 16384 ∧ a.toNat + 4 + gtV f a.toNat 4 ≤ m := by
  unfold gpE0 at h
  split at h
  · rename_i h1; exact absurd h h1
  · rename_i h1
    have h1 : gtE0 m a 4 = 0 := Decidable.not_not.1 h1
    obtain ⟨_, _, h2, h3⟩ := gtE0_ok h1
    split at h
    · simp at h
    · rename_i h4
      exact ⟨h1, ⟨h2, h3⟩, by omega, by omega⟩
theorem gt_hid {m : Nat} {g : Nat → List Value} {a s : Int} (h : gtE0 m a s = 0) : gtE m a s = 0 ∧ gtX m a s = a + s ∧ gtN m g a s = ((gtV g a.toNat s.toNat : Nat) : Int) := by
  unfold gtE gtX gtN
  rw [hide_eq, hide_eq, hide_eq, if_pos h, if_pos h]
  exact ⟨h, rfl, rfl⟩
theorem gtV_sg (m : Nat) (g : Nat → List Value) (a k : Nat) : gtV (sgF m g) a k = gtV g a k := gtV_congr k fun j _ _ => bI_sg m g j
theorem gp_good {e m : Nat} {g : Nat → List Value} {a : Int} (hm : m ≤ 1000000) (hok : gpE0 m g a = 0) (id : Nat) :
    (bif gtE m a 4 != 0 then gpErr (gtE m a 4) else bif decide (gtN m (sgF m g) a 4 > 16384) then gpErr 7 else bif decide (gtN m (sgF m g) a 4 > IntKind.i64.wrap ((m : Int) - gtX m a 4)) then gpErr 7 else gpS e m g (gtX m a 4) (gtN m (sgF m g) a 4) id) =
    some (.tuple #[nSl id (gtV g a.toNat 4), i64 (a + 4 + ((gtV g a.toNat 4 : Nat) : Int)), i64 0], [(nid id 0, ⟨.row kB (gtV g a.toNat 4) (twF (sgA (a.toNat + 4) (gtV g a.toNat 4) m g)), e, true⟩)]) := by
  obtain ⟨h0, ⟨h4, h5⟩, hn, hv⟩ := gpE0_ok hok
  obtain ⟨e1, e2, e3⟩ := gt_hid (g := sgF m g) h0
  rw [gtV_sg, show ((4 : Int).toNat) = 4 from rfl] at e3
  rw [e1, e2, e3, decide_eq_false (by omega), wrap_i64 (by omega), decide_eq_false (by omega), show a + 4 = ((a.toNat + 4 : Nat) : Int) from by omega]
  show gpS e m g ((a.toNat + 4 : Nat) : Int) ((gtV g a.toNat 4 : Nat) : Int) id = _
  rw [gpS_eq hm hv]; rfl
theorem gp_bad {e m : Nat} {g : Nat → List Value} {a : Int} (hm : m ≤ 1000000) (hok : ¬ gpE0 m g a = 0) (id : Nat) :
    (bif gtE m a 4 != 0 then gpErr (gtE m a 4) else bif decide (gtN m (sgF m g) a 4 > 16384) then gpErr 7 else bif decide (gtN m (sgF m g) a 4 > IntKind.i64.wrap ((m : Int) - gtX m a 4)) then gpErr 7 else gpS e m g (gtX m a 4) (gtN m (sgF m g) a 4) id) =
    some (.tuple #[.slice none 0 0, i64 0, i64 (gpE0 m g a)], []) := by
  by_cases h0 : gtE0 m a 4 = 0
  · obtain ⟨e1, e2, e3⟩ := gt_hid (g := sgF m g) h0
    rw [gtV_sg, show ((4 : Int).toNat) = 4 from rfl] at e3
    obtain ⟨_, _, h4, h5⟩ := gtE0_ok h0
    have hx : (16384 : Int) < (gtV g a.toNat 4 : Nat) ∨ (m : Int) - (a + 4) < (gtV g a.toNat 4 : Nat) := by
      refine Decidable.byContradiction fun hx => hok ?_
      unfold gpE0
      rw [if_neg (fun h => h h0), if_neg hx]
    have hE : gpE0 m g a = 7 := by
      unfold gpE0
      rw [if_neg (fun h => h h0), if_pos hx]
    rw [hE, e1, e2, e3, wrap_i64 (by omega)]
    by_cases h6 : (16384 : Int) < (gtV g a.toNat 4 : Nat)
    · rw [decide_eq_true (show ((gtV g a.toNat 4 : Nat) : Int) > 16384 from h6)]; rfl
    · have h7 : (m : Int) - (a + 4) < (gtV g a.toNat 4 : Nat) := hx.resolve_left h6
      rw [decide_eq_false (show ¬ ((gtV g a.toNat 4 : Nat) : Int) > 16384 from h6), decide_eq_true (show ((gtV g a.toNat 4 : Nat) : Int) > (m : Int) - (a + 4) from h7)]; rfl
  · have hE : gpE0 m g a = gtE0 m a 4 := by unfold gpE0; rw [if_pos h0]
    have e1 : gtE m a 4 = gtE0 m a 4 := by unfold gtE; rw [hide_eq]
    rw [hE, e1, show (gtE0 m a 4 != 0) = true from by rw [bne_iff_ne]; exact h0]; rfl
end Go.W

namespace Go.Proofs.Ytkgkdjecmnhdmaa
set_option maxRecDepth 100000
open Go.W
noncomputable def rpuS : Sums := [(7, TwnF 5)]
theorem rpuS_ok : SumsOk Try.prog rpuS := sums_consM twn_msum sums_nil
noncomputable def rpuC0 : Cfg := ⟨tab, rpuS, 46, []⟩
theorem rpu_at : codeAt [1, 1, 1, 0, 1, 0] (bodyOf Try.f9) = some (.loop (loopAt [1, 1, 1, 0, 1, 0] (bodyOf Try.f9))) := by kernel_rfl
def rpuB : Nat := nid 21 0
def rpuNt : List Nat := [1, 8, 9]
def rpuNi : Ren := [(rpuB, nid 36 0)]
def rpuEi : Ren := [(rpuB, rpuB)]
def rpuSt (n : Int) (L : Nat) (F : Nat → List Value) (i : Int) : St := ⟨[(1, i64 n), (8, .slice (some ⟨rpuB, 0, none⟩) L L), (9, i64 i)], [(rpuB, ⟨.row kB L F, 5, true⟩)], 26⟩
theorem rpu_r (n : Int) (L : Nat) (F : Nat → List Value) (i : Int) : roundS rpuC0 60 [1, 1, 1, 0, 1, 0, 0] (loopAt [1, 1, 1, 0, 1, 0] (bodyOf Try.f9)) rpuNt rpuNi 26 rpuNt rpuEi 26 (rpuSt n L F i) =
    bif decide (i ≥ 0) then bif decide (IntKind.u64.wrap (IntKind.i64.wrap (8 * i)) < 0) then none else apB L (some (.normal, rpuSt n (L + 1) (appF L F (lstF [.int .u8 (IntKind.u8.wrap (iShr .i64 n (IntKind.u64.wrap (IntKind.i64.wrap (8 * i)))))] 0 1)) (IntKind.i64.wrap (i - 1))))
    else some (.exit 0, rpuSt n L F i) := by kernel_rfl
theorem rpu_loop {m : Nat} {g : Nat → List Value} {n s : Int} (hm : m ≤ 900000) (hok : pkOk n s) : LoopOk Try.prog 46 (loopAt [1, 1, 1, 0, 1, 0] (bodyOf Try.f9)) (atSt rpuNt rpuEi 26 (rpuSt n m (pkR m g n s) (s - 1)) (.exit 0) (rpuSt n (m + s.toNat) (pkR m g n s) (-1))) := by
  obtain ⟨h1, h7, hn, _⟩ := hok
  refine loopE (fun _ => rpuC0) s.toNat (fun _ _ => ⟨mixed, tabOk, rpuS_ok, noL⟩) (fun _ => rfl) rpu_at (m := 60) (nt := rpuNt) (ni := rpuNi) (et := rpuNt) (ei := rpuEi) (nx := 26) (ex := 26) (fun k => rpuSt n (m + k) (pkR m g n s) (s - 1 - (k : Int))) (by show rpuSt _ _ _ _ = rpuSt _ _ _ _; rw [Nat.add_zero, Int.natCast_zero, Int.sub_zero]) (by intro h; cases h) ?_ ?_
  · intro k hk
    have hi : s - 1 - (k : Int) = ((s.toNat - 1 - k : Nat) : Int) := by omega
    refine ⟨_, ?_, stEq_mk (sl := [(1, i64 n), (8, .slice (some ⟨rpuB, 0, none⟩) (m + k + 1) (m + k + 1)), (9, i64 (s - 1 - ((k + 1 : Nat) : Int)))]) rfl (mRow (pk_step m g n s k) mNil)⟩
    refine (rpu_r n (m + k) _ _).trans ?_
    rw [decide_eq_true (by omega), cond_true, hi, sh8 (by omega), decide_eq_false (by omega), cond_false, apB_eq (by omega), ← sh8 (show s.toNat - 1 - k ≤ 7 by omega), byt_n hn (by omega), wrap_i64 (by omega), show ((s.toNat - 1 - k : Nat) : Int) - 1 = s - 1 - ((k + 1 : Nat) : Int) from by omega]; rfl
  · refine ⟨_, ?_, stEq_refl rfl⟩
    refine (rpu_r n (m + s.toNat) _ _).trans ?_
    rw [show s - 1 - ((s.toNat : Nat) : Int) = -1 from by omega, decide_eq_false (by omega), cond_false]
noncomputable def rpuC (n : Int) (m : Nat) (F : Nat → List Value) (s : Int) (L : Nat) : Cfg := ⟨tab, rpuS, 46, [([1, 1, 1, 0, 1, 0], atSt rpuNt rpuEi 26 (rpuSt n m F (s - 1)) (.exit 0) (rpuSt n L F (-1)))]⟩
theorem rpu_ev (m : Nat) (g : Nat → List Value) (n s : Int) (F : Nat → List Value) (L : Nat) (es : Nat → Nat) (id : Nat) : fnMS (rpuC n m F s L) 60 Try.f9 (bodyOf Try.f9) (cArgs [.sl kB m g, .pl (i64 n), .pl (i64 s)] 0) (cMem es [.sl kB m g, .pl (i64 n), .pl (i64 s)] 0) 0 id =
    bif decide (s < 1) then pkErr else bif decide (s > 7) then pkErr else bif decide (n < 0) then pkErr else bif decide (IntKind.u64.wrap (IntKind.i64.wrap (8 * s)) < 0) then none else bif iShr .i64 n (IntKind.u64.wrap (IntKind.i64.wrap (8 * s))) != 0 then pkErr else
      req (kb4 m && szOk m 1) (req (stEq (rpuSt n m (twF (sgF m g)) (IntKind.i64.wrap (s - 1))) (rpuSt n m F (s - 1))) (req (Nat.ble L L) (some (.tuple #[nSl id L, i64 0], rw1 5 id L F)))) := by kernel_rfl
theorem rpu_evN (m : Nat) (g : Nat → List Value) (n s : Int) (es : Nat → Nat) (id : Nat) : fnMS ⟨tab, rpuS, 46, [([1, 1, 1, 0, 1, 0], fun _ => [])]⟩ 60 Try.f9 (bodyOf Try.f9) (cArgs [.sl kB m g, .pl (i64 n), .pl (i64 s)] 0) (cMem es [.sl kB m g, .pl (i64 n), .pl (i64 s)] 0) 0 id =
    bif decide (s < 1) then pkErr else bif decide (s > 7) then pkErr else bif decide (n < 0) then pkErr else bif decide (IntKind.u64.wrap (IntKind.i64.wrap (8 * s)) < 0) then none else bif iShr .i64 n (IntKind.u64.wrap (IntKind.i64.wrap (8 * s))) != 0 then pkErr else
      req (kb4 m && szOk m 1) none := by kernel_rfl
theorem rpu_msum : MSum Try.prog 9 (PutF 5) := by
  intro w0 R fm w hm vs args' hl mm hsub id hlt v l hpick hnew
  unfold PutF at hpick
  split at hpick
  · rename_i a n s
    obtain ⟨hc, rfl, rfl⟩ := pick_one hpick
    simp only [Bool.and_eq_true] at hc
    obtain ⟨ha, hle⟩ := hc
    generalize hqa : srcB mm kB a = qa at ha hle hnew ⊢
    obtain ⟨ok1, m, g⟩ := qa
    simp only at ha hle hnew ⊢
    subst ha
    have hle := Nat.le_of_ble_eq_true hle
    have hA : AOk mm [a, i64 n, i64 s] [.sl kB m g, .pl (i64 n), .pl (i64 s)] := ⟨hqa, rfl, rfl, rfl, rfl, trivial⟩
    by_cases hok : pkOk n s
    · rw [pkL_ok hok] at hnew ⊢
      rw [pkE_ok hok]
      refine msum_at (c := bodyOf Try.f9) (fuel := 60) (next := 0) Try.func9 (by kernel_rfl) (by kernel_rfl) hm hl hsub hlt hA (by show 3 ≤ Try.f9.ntmps; decide +kernel) (.inr ⟨_, rfl⟩) hnew (fun es => ?_)
      refine ⟨rpuC n m (pkR m g n s) s (m + s.toNat), ⟨mixed, tabOk, rpuS_ok, oneL (rpu_loop hle hok)⟩, rfl, ?_⟩
      refine (rpu_ev m g n s _ _ es id).trans ?_
      rw [pk_tree hok, kb4_true, szOk_small (by omega), req_true (b := true && true) rfl, wrap_i64 (by have := hok.1; have := hok.2.1; omega)]
      refine (req_true (stEq_mk (sl := [(1, i64 n), (8, .slice (some ⟨rpuB, 0, none⟩) m m), (9, i64 (s - 1))]) rfl (mRow (pk_twn m g n s) mNil))).trans ?_
      rw [ble_of (Nat.le_refl _), req_true rfl]
    · rw [pkL_no hok] at hnew ⊢
      rw [pkE_no hok]
      refine invokes_nilT (rest := [i64 1]) hlt (new_free hnew) (msum_at (v := .tuple #[.slice none 0 0, i64 1]) (l := []) (c := bodyOf Try.f9) (fuel := 60) (next := 0) Try.func9 (by kernel_rfl) (by kernel_rfl) hm hl hsub hlt hA (by show 3 ≤ Try.f9.ntmps; decide +kernel) (.inl rfl) nofun (fun es => ?_))
      refine ⟨⟨tab, rpuS, 46, [([1, 1, 1, 0, 1, 0], fun _ => [])]⟩, ⟨mixed, tabOk, rpuS_ok, noneL2⟩, rfl, ?_⟩
      exact (rpu_evN m g n s es id).trans (pk_treeN hok _)
  · simp [pickM] at hpick
def rgtC0 : Cfg := ⟨tab, [], 52, []⟩
theorem rgtOk0 : CfgOk Try.prog rgtC0 (bodyOf Try.f13) := ⟨mixed, tabOk, sums_nil, noL⟩
theorem rgt_at : codeAt [1, 1, 1, 1, 0, 1, 0] (bodyOf Try.f13) = some (.loop (loopAt [1, 1, 1, 1, 0, 1, 0] (bodyOf Try.f13))) := by kernel_rfl
def rgtNt : List Nat := [0, 1, 2, 9, 10]
def rgtNi : Ren := [(1500000, 1500000)]
def rgtSt (m : Nat) (g : Nat → List Value) (e0 : Nat) (a s x : Int) (i : Int) : St := ⟨[(0, aSl 0 m), (1, i64 a), (2, i64 s), (9, i64 x), (10, i64 i)], [(1500000, ⟨.row kB m g, e0, false⟩)], 27⟩
theorem rgt_r (m : Nat) (g : Nat → List Value) (e0 : Nat) (a s x : Int) (i : Int) : roundS rgtC0 60 [1, 1, 1, 1, 0, 1, 0, 0] (loopAt [1, 1, 1, 1, 0, 1, 0] (bodyOf Try.f13)) rgtNt rgtNi 27 rgtNt rgtNi 27 (rgtSt m g e0 a s x i) =
    bif decide (i < s) then rdI (IntKind.i64.wrap (a + i)) m (some (.normal, rgtSt m g e0 a s (iOr .i64 (iShl .i64 x 8) (IntKind.i64.wrap (bI g (0 + (IntKind.i64.wrap (a + i)).toNat)))) (IntKind.i64.wrap (i + 1)))) else some (.exit 0, rgtSt m g e0 a s x i) := by kernel_rfl
theorem rgt_loop {m : Nat} {g : Nat → List Value} {e0 : Nat} {a s : Int} (hm : m ≤ 1000000) (hg : ∀ j, j < m → 0 ≤ bI g j ∧ bI g j < 256) (hok : gtE0 m a s = 0) : LoopOk Try.prog 52 (loopAt [1, 1, 1, 1, 0, 1, 0] (bodyOf Try.f13)) (atSt rgtNt rgtNi 27 (rgtSt m g e0 a s 0 0) (.exit 0) (rgtSt m g e0 a s ((gtV g a.toNat s.toNat : Nat) : Int) s)) := by
  obtain ⟨h1, h7, ha, hs⟩ := gtE0_ok hok
  refine loopE (fun _ => rgtC0) s.toNat (fun _ _ => rgtOk0) (fun _ => rfl) rgt_at (m := 60) (nt := rgtNt) (ni := rgtNi) (et := rgtNt) (ei := rgtNi) (nx := 27) (ex := 27) (fun k => rgtSt m g e0 a s ((gtV g a.toNat k : Nat) : Int) (k : Int)) rfl (by intro h; cases h) ?_ ?_
  · intro k hk
    refine ⟨_, ?_, stEq_refl rfl⟩
    refine (rgt_r m g e0 a s _ _).trans ?_
    have hx : gtV g a.toNat k < 2 ^ (8 * k) := gtV_lt hg (a := a.toNat) k (by omega)
    have hx : gtV g a.toNat k < 281474976710656 := Nat.lt_of_lt_of_le hx (Nat.le_trans (Nat.pow_le_pow_right (by decide) (show 8 * k ≤ 48 by omega)) (by decide))
    have hb := hg (a.toNat + k) (by omega)
    have hc : bI g (a.toNat + k) = (((bI g (a.toNat + k)).toNat : Nat) : Int) := by omega
    rw [decide_eq_true (by omega), cond_true, wrap_i64 (by omega), show a + (k : Int) = ((a.toNat + k : Nat) : Int) from by omega, rdI_eq (by omega), Int.toNat_natCast, Nat.zero_add, hc, get8 hx (by omega), wrap_i64 (by omega)]; rfl
  · refine ⟨_, ?_, stEq_refl rfl⟩
    refine (rgt_r m g e0 a s _ _).trans ?_
    rw [decide_eq_false (by omega), cond_false, show ((s.toNat : Nat) : Int) = s from by omega]
noncomputable def rgtC (m : Nat) (g : Nat → List Value) (e0 : Nat) (a s x : Int) : Cfg := ⟨tab, [], 52, [([1, 1, 1, 1, 0, 1, 0], atSt rgtNt rgtNi 27 (rgtSt m g e0 a s 0 0) (.exit 0) (rgtSt m g e0 a s x s))]⟩
theorem rgt_ev (m : Nat) (g : Nat → List Value) (a s x : Int) (es : Nat → Nat) (id : Nat) : fnMS (rgtC m g (es 0) a s x) 60 Try.f13 (bodyOf Try.f13) (cArgs [.sl kB m g, .pl (i64 a), .pl (i64 s)] 0) (cMem es [.sl kB m g, .pl (i64 a), .pl (i64 s)] 0) 0 id =
    gtT m a s (req (stEq (rgtSt m g (es 0) a s 0 0) (rgtSt m g (es 0) a s 0 0)) (some (.tuple #[i64 x, i64 (IntKind.i64.wrap (a + s)), i64 0], []))) := by kernel_rfl
theorem rgt_evN (m : Nat) (g : Nat → List Value) (a s : Int) (es : Nat → Nat) (id : Nat) : fnMS ⟨tab, [], 52, [([1, 1, 1, 1, 0, 1, 0], fun _ => [])]⟩ 60 Try.f13 (bodyOf Try.f13) (cArgs [.sl kB m g, .pl (i64 a), .pl (i64 s)] 0) (cMem es [.sl kB m g, .pl (i64 a), .pl (i64 s)] 0) 0 id =
    gtT m a s none := by kernel_rfl
theorem rgt_msum : MSum Try.prog 13 GetF := by
  intro w0 R fm w hm vs args' hl mm hsub id hlt v l hpick hnew
  unfold GetF at hpick
  split at hpick
  · rename_i b a s
    obtain ⟨hc, rfl, rfl⟩ := pick_one hpick
    simp only [Bool.and_eq_true] at hc
    obtain ⟨ha, hy, hle⟩ := hc
    generalize hqa : srcB mm kB b = qa at ha hy hle ⊢
    obtain ⟨ok1, m, g⟩ := qa
    simp only at ha hy hle ⊢
    subst ha
    have hle := Nat.le_of_ble_eq_true hle
    have hy := okY_iff.1 hy
    have hA : AOk mm [b, i64 a, i64 s] [.sl kB m g, .pl (i64 a), .pl (i64 s)] := ⟨hqa, rfl, rfl, rfl, rfl, trivial⟩
    refine msum_at (c := bodyOf Try.f13) (fuel := 60) (next := 0) Try.func13 (by kernel_rfl) (by kernel_rfl) hm hl hsub hlt hA (by show 3 ≤ Try.f13.ntmps; decide +kernel) (.inl rfl) nofun (fun es => ?_)
    unfold gtN gtX gtE
    rw [hide_eq, hide_eq, hide_eq]
    by_cases hok : gtE0 m a s = 0
    · refine ⟨rgtC m g (es 0) a s _, ⟨mixed, tabOk, sums_nil, oneL (rgt_loop hle hy hok)⟩, rfl, ?_⟩
      refine (rgt_ev m g a s _ es id).trans ?_
      obtain ⟨h1, h7, h0, hs⟩ := gtE0_ok hok
      rw [gtT_eq hle, if_pos hok, if_pos hok, if_pos hok, hok, req_true (stEq_refl rfl), wrap_i64 (by omega)]
    · refine ⟨⟨tab, [], 52, [([1, 1, 1, 1, 0, 1, 0], fun _ => [])]⟩, ⟨mixed, tabOk, sums_nil, noneL2⟩, rfl, ?_⟩
      refine (rgt_evN m g a s es id).trans ?_
      rw [gtT_eq hle, if_neg hok, if_neg hok, if_neg hok]; rfl
  · simp [pickM] at hpick
noncomputable def rppS : Sums := [(9, PutF 5)]
theorem rppS_ok : SumsOk Try.prog rppS := sums_consM rpu_msum sums_nil
noncomputable def rppC : Cfg := ⟨tab, rppS, 21, []⟩
theorem rppOk : CfgOk Try.prog rppC (bodyOf Try.f15) := ⟨mixed, tabOk, rppS_ok, noL⟩
theorem rpp_ev (m : Nat) (g : Nat → List Value) (k : Nat) (p : Nat → List Value) (es : Nat → Nat) (id : Nat) : fnMS rppC 60 Try.f15 (bodyOf Try.f15) (cArgs [.sl kB m g, .sl kB k p] 0) (cMem es [.sl kB m g, .sl kB k p] 0) 0 id =
    bif decide ((k : Int) > 16384) then ppErr else req (kb4 m && Nat.ble m 900000) (apK (pkL m (k : Nat) 4) k (req (Nat.ble (pkL m (k : Nat) 4 + k) (pkL m (k : Nat) 4 + k))
      (some (.tuple #[nSl id (pkL m (k : Nat) 4 + k), i64 0], rw1 5 id (pkL m (k : Nat) 4 + k) (appF (pkL m (k : Nat) 4) (pkR m (sgF m g) (k : Nat) 4) (sgF k p)))))) := by kernel_rfl
theorem rpp_msum : MSum Try.prog 15 (PtpF 5) := by
  intro w0 R fm w hm vs args' hl mm hsub id hlt v l hpick hnew
  match vs, hl, hpick with
  | [a, b], hl, hpick =>
    obtain ⟨hc, rfl, rfl⟩ := pick_one hpick
    simp only [Bool.and_eq_true] at hc
    obtain ⟨⟨ha, hb⟩, hle⟩ := hc
    generalize hqa : srcB mm kB a = qa at ha hle hnew ⊢
    generalize hqb : srcB mm kB b = qb at hb hnew ⊢
    obtain ⟨ok1, m, g⟩ := qa
    obtain ⟨ok2, k, p⟩ := qb
    simp only at ha hb hle hnew ⊢
    subst ha hb
    have hle := Nat.le_of_ble_eq_true hle
    have hA : AOk mm [a, b] [.sl kB m g, .sl kB k p] := ⟨hqa, hqb, trivial⟩
    unfold ppL at hnew ⊢
    unfold ppE
    rw [hide_eq] at hnew ⊢
    rw [hide_eq]
    by_cases hok : k ≤ 16384
    · rw [if_pos hok] at hnew ⊢
      rw [if_pos hok]
      refine invokes_eqv (pp_row m g k p) ?_
      refine msum_at (c := bodyOf Try.f15) (fuel := 60) (next := 0) Try.func15 (by kernel_rfl) (by kernel_rfl) hm hl hsub hlt hA (by show 2 ≤ Try.f15.ntmps; decide +kernel) (.inr ⟨_, rfl⟩) (new_any hnew) (fun es => ?_)
      refine ⟨rppC, rppOk, rfl, ?_⟩
      refine (rpp_ev m g k p es id).trans ?_
      rw [decide_eq_false (by omega), cond_false, kb4_true, bE hle, req_true (b := true && true) rfl, pkL_ok (pk_len k hok), show ((4 : Int).toNat) = 4 from rfl, apK_eq (by omega), bE (Nat.le_refl _), req_true rfl]; rfl
    · rw [if_neg hok] at hnew ⊢
      rw [if_neg hok]
      refine invokes_nilT (rest := [i64 4]) hlt (new_free hnew) (msum_at (v := .tuple #[.slice none 0 0, i64 4]) (l := []) (c := bodyOf Try.f15) (fuel := 60) (next := 0) Try.func15 (by kernel_rfl) (by kernel_rfl) hm hl hsub hlt hA (by show 2 ≤ Try.f15.ntmps; decide +kernel) (.inl rfl) nofun (fun es => ?_))
      refine ⟨rppC, rppOk, rfl, ?_⟩
      refine (rpp_ev m g k p es id).trans ?_
      rw [decide_eq_true (by omega), cond_true]; rfl
  | [], _, h => simp [PtpF, pickM] at h
  | [_], _, h => simp [PtpF, pickM] at h
  | _ :: _ :: _ :: _, _, h => simp [PtpF, pickM] at h
noncomputable def rgpS : Sums := [(7, TwnF 5), (13, GetF)]
theorem rgpS_ok : SumsOk Try.prog rgpS := sums_consM twn_msum (sums_consM rgt_msum sums_nil)
noncomputable def rgpC : Cfg := ⟨tab, rgpS, 40, []⟩
theorem rgpOk : CfgOk Try.prog rgpC (bodyOf Try.f17) := ⟨mixed, tabOk, rgpS_ok, noL⟩
theorem rgp_ev (m : Nat) (g : Nat → List Value) (a : Int) (es : Nat → Nat) (id : Nat) : fnMS rgpC 60 Try.f17 (bodyOf Try.f17) (cArgs [.sl kB m g, .pl (i64 a)] 0) (cMem es [.sl kB m g, .pl (i64 a)] 0) 0 id =
    req (gtk m g) (bif gtE m a 4 != 0 then gpErr (gtE m a 4) else bif decide (gtN m (sgF m g) a 4 > 16384) then gpErr 7 else bif decide (gtN m (sgF m g) a 4 > IntKind.i64.wrap ((m : Int) - gtX m a 4)) then gpErr 7 else gpS 5 m g (gtX m a 4) (gtN m (sgF m g) a 4) id) := by kernel_rfl
theorem rgp_msum : MSum Try.prog 17 (GtpF 5) := by
  intro w0 R fm w hm vs args' hl mm hsub id hlt v l hpick hnew
  unfold GtpF at hpick
  split at hpick
  · rename_i b a
    obtain ⟨hc, rfl, rfl⟩ := pick_one hpick
    simp only [Bool.and_eq_true] at hc
    obtain ⟨ha, hy, hle⟩ := hc
    generalize hqa : srcB mm kB b = qa at ha hy hle hnew ⊢
    obtain ⟨ok1, m, g⟩ := qa
    simp only at ha hy hle hnew ⊢
    subst ha
    have hle := Nat.le_of_ble_eq_true hle
    have hy := okY_iff.1 hy
    have hA : AOk mm [b, i64 a] [.sl kB m g, .pl (i64 a)] := ⟨hqa, rfl, rfl, trivial⟩
    unfold gpL at hnew ⊢
    unfold gpX gpE
    rw [hide_eq] at hnew ⊢
    rw [hide_eq, hide_eq]
    by_cases hok : gpE0 m g a = 0
    · rw [if_pos hok] at hnew ⊢
      rw [if_pos hok, hok]
      obtain ⟨h0, h4, hn, hv⟩ := gpE0_ok hok
      refine invokes_eqv (gp_row m g a _) ?_
      refine msum_at (c := bodyOf Try.f17) (fuel := 60) (next := 0) Try.func17 (by kernel_rfl) (by kernel_rfl) hm hl hsub hlt hA (by show 2 ≤ Try.f17.ntmps; decide +kernel) (.inr ⟨_, rfl⟩) (new_any hnew) (fun es => ?_)
      refine ⟨rgpC, rgpOk, rfl, ?_⟩
      refine (rgp_ev m g a es id).trans ?_
      rw [gtk_true hle hy, req_true rfl]
      exact gp_good hle hok id
    · rw [if_neg hok] at hnew ⊢
      rw [if_neg hok]
      refine invokes_nilT (rest := [i64 0, i64 (gpE0 m g a)]) hlt (new_free hnew) (msum_at (v := .tuple #[.slice none 0 0, i64 0, i64 (gpE0 m g a)]) (l := []) (c := bodyOf Try.f17) (fuel := 60) (next := 0) Try.func17 (by kernel_rfl) (by kernel_rfl) hm hl hsub hlt hA (by show 2 ≤ Try.f17.ntmps; decide +kernel) (.inl rfl) nofun (fun es => ?_))
      refine ⟨rgpC, rgpOk, rfl, ?_⟩
      refine (rgp_ev m g a es id).trans ?_
      rw [gtk_true hle hy, req_true rfl]
      exact gp_bad hle hok id
  · simp [pickM] at hpick
end Go.Proofs.Ytkgkdjecmnhdmaa

namespace Go.W
open Go.RowKit (Below)
def isNilL : Cells → Bool
  | .lst [] => true
  | _ => false
def ancOk (mem : Nat → Option Blk) (e : TypeId) : Bool :=
  match mem 1400000 with
  | some blk => Nat.beq blk.elem e && isNilL blk.cells
  | none => false
def takK (mem : Nat → Option Blk) (e : TypeId) (v : Value) : Option (Nat × Blk) :=
  match v with
  | .slice (some ⟨j, off, none⟩) m c => oK (mem j) (fun blk => match blk.cells with
    | .row ks n g => bif blk.own && loose j && Nat.blt j 1000000 && Nat.beq off 0 && Nat.ble m c && Nat.beq m n && ancOk mem e then some (m, ⟨.row ks n g, blk.elem, true⟩) else none
    | _ => none) none
  | _ => none
def fnT (C : Cfg) (fuel : Nat) (fn : Func) (c : Code) (args : List Value) (mem : List (Nat × Blk)) (next : Nat) (e : TypeId) : Option (Nat × Blk) :=
  evK C fuel [] c ⟨argSlots 0 args, mem, next⟩ (fun ex s => endK C.T fn ex s (fun v => takK (look s.mem) e v) none) none
theorem takK_some {mem : Nat → Option Blk} {e : TypeId} {v : Value} {m : Nat} {blk : Blk} (h : takK mem e v = some (m, blk)) :
    ∃ j c ks g e2, v = .slice (some ⟨j, 0, none⟩) m c ∧ mem j = some ⟨.row ks m g, e2, true⟩ ∧ blk = ⟨.row ks m g, e2, true⟩ ∧ loose j = true ∧ j < 1000000 ∧ m ≤ c ∧ ∃ o, mem 1400000 = some ⟨.lst [], e, o⟩ := by
  unfold takK at h
  split at h
  · rename_i j off m0 c
    obtain ⟨blk0, hb, h⟩ := oK_some.1 h
    obtain ⟨cells, e2, own⟩ := blk0
    simp only at h
    split at h
    · rename_i ks n g
      obtain ⟨hc, h⟩ := cond_some.1 h
      simp only [Bool.and_eq_true, Nat.blt_eq] at hc
      obtain ⟨⟨⟨⟨⟨⟨h1, h2⟩, h3⟩, h4⟩, h5⟩, h6⟩, h7⟩ := hc
      have h4 := nbeq.1 h4
      have h6 := nbeq.1 h6
      simp only [Option.some.injEq, Prod.mk.injEq] at h
      obtain ⟨rfl, rfl⟩ := h
      subst h1 h4 h6
      refine ⟨j, c, ks, g, e2, rfl, hb, rfl, h2, h3, Nat.le_of_ble_eq_true h5, ?_⟩
      unfold ancOk at h7
      split at h7
      · rename_i blk1 hb1
        obtain ⟨cells1, e1, o1⟩ := blk1
        simp only [Bool.and_eq_true] at h7
        obtain ⟨k1, k2⟩ := h7
        have k1 := nbeq.1 k1
        subst k1
        unfold isNilL at k2
        split at k2
        · exact ⟨o1, hb1⟩
        · simp at k2
      · simp at h7
    · simp at h
  · simp at h
section
variable {GL : Glob} {w0 : Wb GL} {R : Nat → Pl → Prop} {fm : Nat → Option Blk} {w : World}
theorem MRel.swap (h : MRel w0 R fm w) {b : Nat} {e : TypeId} (hfree : ∀ j q blk', R j q → q.a = some b → fm j = some blk' → weak blk') (hnf : ¬ Frz R b) (hge : w0.X b ∨ w0.w.heap.size ≤ b) (hold : ∃ cs fz, w.heap[b]? = some (.cells cs e fz))
    {w' : World} {A : Nat → Pl → Prop} (hb : BelowX (⟨w, fun k => some b = some k, A⟩ : Wb GL) w') (hnew : ∃ cs fz, w'.heap[b]? = some (.cells cs e fz)) : MRel w0 R fm w' := by
  have hsame : ∀ k, k < w.heap.size → k ≠ b → w'.heap[k]? = w.heap[k]? := fun k hk hne => hb.block k hk (fun h => hne (Option.some.inj h).symm)
  obtain ⟨cs1, fz1, ho⟩ := hold
  obtain ⟨cs2, fz2, hn⟩ := hnew
  refine ⟨⟨hb.os.trans h.below.os, hb.tape.trans h.below.tape, hb.output.trans h.below.output, Nat.le_trans h.below.size hb.size, fun k hk hx => ?_, h.below.glob⟩, h.func, h.inj, ?_, h.dom, h.anc, fun i p b2 h1 h2 => ?_, h.fro⟩
  · have hne : k ≠ b := by
      rintro rfl
      rcases hge with h5 | h5
      · exact hx h5
      · omega
    exact (hsame k (Nat.lt_of_lt_of_le hk h.below.size) hne).trans (h.below.block k hk hx)
  · intro i blk hi
    have hm := h.mem i blk hi
    unfold MemOk at hm ⊢
    split at hm
    · exact hm
    · exact hm
    · refine hm.mono (fun _ _ h => h) (fun b2 hb2 => hsame b2 (h.frz_lt hb2) ?_) (fun hown p b2 hp hpa => hsame b2 (h.lt hp hpa) ?_)
      · rintro rfl; exact hnf hb2
      · rintro rfl
        have := (hfree _ _ _ hp hpa hi).1
        rw [hown] at this; simp at this
    · obtain ⟨b2, k1, k2, k3⟩ := hm
      have hne : b2 ≠ b := by rintro rfl; rw [ho] at k2; simp at k2
      exact ⟨b2, k1, by rw [hsame b2 (h.lt k1 rfl) hne]; exact k2, k3⟩
    · obtain ⟨p, k1, k2⟩ := hm
      refine ⟨p, k1, ?_⟩
      cases hpa : p.a with
      | none => rw [hpa] at k2; exact k2
      | some b2 =>
        rw [hpa] at k2
        obtain ⟨cs', fz, k3, k4, k5⟩ := k2
        by_cases hne : b2 = b
        · subst hne
          have hwk := hfree _ _ _ k1 hpa hi
          rw [ho] at k3
          simp only [Option.some.injEq, Obj.cells.injEq] at k3
          exact ⟨cs2, fz2, by rw [← k3.2.1]; exact hn, by rw [hwk.2]; exact LP_nil, fun hown => by rw [hwk.1] at hown; simp at hown⟩
        · exact ⟨cs', fz, by rw [hsame b2 (h.lt k1 hpa) hne]; exact k3, k4, k5⟩
  · by_cases hne : b2 = b
    · subst hne; exact .inl ⟨cs2, e, fz2, hn⟩
    · exact (h.there i p b2 h1 h2).mono (fun _ _ _ => rfl) (hsame b2 (h.lt h1 h2) hne)
theorem apart_nil (hm : MRel w0 R fm w) {mm : Nat → Option Blk} (hsub : ∀ b blk, mm b = some blk → fm b = some blk) {i : Nat} {p : Pl} {blk : Blk} {b' : Nat} (hp : R i p) (hpa : p.a = some b') (hi : fm i = some blk) (hown : blk.own = true)
    {v : Value} {d m c : Nat} (hv : V2 R v (.slice (some ⟨b', d, none⟩) m c)) (hap : apart2 mm i v = true) {ks : List CK} {g : Nat → List Value} (hs : srcB mm ks v = (true, m, g)) : rowL ks g 0 m = [] := by
  by_cases hm0 : m = 0
  · subst hm0; rfl
  unfold apart2 at hap
  split at hap
  · have := (V2_plain (R := R) (v := .slice none _ _) rfl).1 hv
    simp at this
  · rename_i a2 n2 c2
    obtain ⟨b2, off2, sp2⟩ := a2
    have hsp : sp2 = none := by
      cases sp2 with
      | none => rfl
      | some x => simp [srcB] at hs
    subst hsp
    simp only [Bool.and_eq_true, Bool.not_eq_true'] at hap
    obtain ⟨ha1, ha2⟩ := hap
    have hne2 : i ≠ b2 := fun e2 => by rw [e2, Nat.beq_refl] at ha1; simp at ha1
    obtain ⟨q, hq, hsl2⟩ := V2_slice hv
    have hqa : q.a = some b' := by
      cases hlo2 : loose b2 with
      | false =>
        obtain ⟨b3, h5, h6⟩ := SlOk_tight hlo2 hsl2
        simp only [Value.slice.injEq, Option.some.injEq, Addr.mk.injEq] at h6
        rw [h5, h6.1.1]
      | true =>
        obtain ⟨_, _, ⟨b3, h5, h6⟩ | ⟨_, _, _, h6⟩⟩ := SlOk_loose hlo2 hsl2
        · simp only [Value.slice.injEq, Option.some.injEq, Addr.mk.injEq] at h6
          rw [h5, h6.1.1]
        · obtain ⟨a9, h6⟩ := h6
          simp only [Value.slice.injEq] at h6
          exact absurd h6.2.1 hm0
    split at ha2
    · rename_i blk2 hb2
      have hwk := hm.inj _ _ _ _ _ hp hq hpa hqa hne2 _ hi hown blk2 (hsub _ _ hb2)
      obtain ⟨cells2, e2, own2⟩ := blk2
      have hl0 : cells2.list = [] := hwk.2
      have hsrc2 := hs
      unfold srcB at hsrc2
      simp only [hb2] at hsrc2
      simp only at ha2
      split at ha2
      · rename_i l
        have hl0 : l = [] := hl0
        subst hl0
        simp only [Prod.mk.injEq, Bool.and_eq_true, List.length_nil] at hsrc2
        obtain ⟨⟨⟨h5, h6⟩, _⟩, h7, _⟩ := hsrc2
        have h5 := Nat.le_of_ble_eq_true h5
        apply List.length_eq_zero_iff.1
        rw [rowL_len, ← h7]; omega
      · rename_i ks2 m2 f2
        have hl0 : rowL ks2 f2 0 m2 = [] := hl0
        simp only [Prod.mk.injEq, Bool.and_eq_true] at hsrc2
        obtain ⟨⟨⟨⟨_, h5⟩, h6⟩, _⟩, h7, _⟩ := hsrc2
        have h5 := Nat.le_of_ble_eq_true h5
        have h6 := ksEq_eq h6
        subst h6
        have := congrArg List.length hl0
        rw [rowL_len, List.length_nil] at this
        apply List.length_eq_zero_iff.1
        rw [rowL_len]
        have : m * ks2.length ≤ m2 * ks2.length := Nat.mul_le_mul_right _ (by omega)
        omega
      · simp at ha2
    · simp at ha2
  · simp [srcB] at hs
  · simp at hap
theorem args_apart (hm : MRel w0 R fm w) {mm : Nat → Option Blk} (hsub : ∀ b blk, mm b = some blk → fm b = some blk) {i : Nat} {p : Pl} {blk : Blk} {b' : Nat} (hp : R i p) (hpa : p.a = some b') (hi : fm i = some blk) (hown : blk.own = true)
    {es : Nat → TypeId} {Rc : Nat → Pl → Prop} (hfun : ∀ i p p', Rc i p → Rc i p' → p = p') : ∀ (A : List Arg) (vs args' : List Value) (k : Nat), AOk mm vs A → LR (V2 R) vs args' → LR (V2 Rc) (cArgs A k) args' → vs.all (apart2 mm i) = true →
      ∀ j blk' q, look (cMem es A k) j = some blk' → Rc j q → q.a = some b' → blk'.cells.list = []
  | [], _, _, _, _, _, _, _ => fun j blk' q h _ _ => by simp [cMem, look] at h
  | .pl u :: A, [], _, _, hA, _, _, _ => hA.elim
  | .sl _ _ _ :: A, [], _, _, hA, _, _, _ => hA.elim
  | .pl _ :: _, _ :: _, [], _, _, hl, _, _ => hl.elim
  | .sl _ _ _ :: _, _ :: _, [], _, _, hl, _, _ => hl.elim
  | .pl u :: A, v :: vs, v' :: args', k, hA, hl, hc, hap => by
    simp only [List.all_cons, Bool.and_eq_true] at hap
    exact args_apart hm hsub hp hpa hi hown hfun A vs args' (k + 1) hA.2.2 hl.2 hc.2 hap.2
  | .sl ks n g :: A, v :: vs, v' :: args', k, hA, hl, hc, hap => by
    simp only [List.all_cons, Bool.and_eq_true] at hap
    intro j blk' q hj hq hqa
    rw [cMem, look_cons] at hj
    by_cases e1 : argId k = j
    · subst e1
      rw [upd_same] at hj; cases hj
      show rowL ks g 0 n = []
      obtain ⟨q2, hq2, hsl⟩ := V2_slice hc.1
      have := hfun _ _ _ hq hq2; subst this
      obtain ⟨_, hcc, ⟨b3, h5, h6⟩ | ⟨h5, h6, _, _⟩⟩ := SlOk_loose (argId_loose k) hsl
      · rw [hqa] at h5; cases h5
        subst h6
        exact apart_nil hm hsub hp hpa hi hown hl.1 hap.1 hA.1
      · rw [hqa] at h5; simp at h5
    · rw [upd_ne _ _ e1] at hj
      exact args_apart hm hsub hp hpa hi hown hfun A vs args' (k + 1) hA.2 hl.2 hc.2 hap.2 j blk' q hj hq hqa
def RtF (p : Pl) (pl : Nat → Option Pl) (i : Nat) (q : Pl) : Prop := (i = 999999 ∧ q = p) ∨ (i = 1400000 ∧ q = p) ∨ ∃ j, i = argId j ∧ pl j = some q
theorem take_rel (hg : GOk GL w) {es : Nat → TypeId} {pl : Nat → Option Pl} {A : List Arg} (h2 : ∀ i blk, look (cMem es A 1) i = some blk → ∃ j p, i = argId j ∧ pl j = some p ∧ PlOk w i blk p)
    (h3 : ∀ j p, pl j = some p → (look (cMem es A 1) (argId j)).isSome = true ∧ ∀ b, p.a = some b → ∃ cs e fz, w.heap[b]? = some (.cells cs e fz)) (hA : A.length ≤ 900000000)
    {p : Pl} {ks : List CK} {n : Nat} {f : Nat → List Value} {e : TypeId} (hp : match p.a with
      | none => n = 0
      | some b => ∃ cs, w.heap[b]? = some (.cells cs e (0, 0)) ∧ (cs.toList.drop p.d).take (n * ks.length) = rowL ks f 0 n ∧ (p.c ≠ 0 → p.d + p.c * ks.length ≤ cs.size))
    (hap : ∀ j blk' q b, look (cMem es A 1) j = some blk' → RtF p pl j q → q.a = some b → p.a = some b → blk'.cells.list = []) (hgl : ∀ x ∈ GL, p.a ≠ some x.1) :
    MRel (⟨w, fun k => p.a = some k, RtF p pl⟩ : Wb GL) (RtF p pl) (look ((999999, ⟨.row ks n f, e, true⟩) :: (1400000, ⟨.lst [], e, false⟩) :: cMem es A 1)) w := by
  have hid : ∀ j, argId j ≠ 999999 ∧ argId j ≠ 1400000 := fun j => by unfold argId; omega
  have hmem : ∀ i blk, look ((999999, ⟨.row ks n f, e, true⟩) :: (1400000, ⟨.lst [], e, false⟩) :: cMem es A 1) i = some blk → (i = 999999 ∧ blk = ⟨.row ks n f, e, true⟩) ∨ (i = 1400000 ∧ blk = ⟨.lst [], e, false⟩) ∨ (∃ j q, i = argId j ∧ pl j = some q ∧ look (cMem es A 1) i = some blk ∧ PlOk w i blk q) := by
    intro i blk hi
    rw [look_cons] at hi
    by_cases e1 : 999999 = i
    · subst e1; rw [upd_same] at hi; cases hi; exact .inl ⟨rfl, rfl⟩
    rw [upd_ne _ _ e1, look_cons] at hi
    by_cases e2 : 1400000 = i
    · subst e2; rw [upd_same] at hi; cases hi; exact .inr (.inl ⟨rfl, rfl⟩)
    rw [upd_ne _ _ e2] at hi
    obtain ⟨j, q, h5, h6, h7⟩ := h2 i blk hi
    exact .inr (.inr ⟨j, q, h5, h6, hi, h7⟩)
  have hfun : ∀ i q q', RtF p pl i q → RtF p pl i q' → q = q' := by
    rintro i q q' (⟨rfl, rfl⟩ | ⟨rfl, rfl⟩ | ⟨j, rfl, hj⟩) (⟨h5, rfl⟩ | ⟨h5, rfl⟩ | ⟨j', h5, hj'⟩)
    · rfl
    · omega
    · exact absurd h5.symm (hid _).1
    · omega
    · rfl
    · exact absurd h5.symm (hid _).2
    · exact absurd h5 (hid _).1
    · exact absurd h5 (hid _).2
    · have : j = j' := by unfold argId at h5; omega
      subst this
      rw [hj] at hj'; exact Option.some.inj hj'
  refine ⟨BelowX.refl _ _ _ hg (fun x hx h => hgl x hx h), hfun, ?_, ?_, ?_, fun _ _ h _ _ => h, ?_, ?_⟩
  · intro i j q q' b hq hq' ha hb hne blk hblk hown blk' hblk'
    rcases hmem i blk hblk with ⟨rfl, rfl⟩ | ⟨rfl, rfl⟩ | ⟨j1, q1, rfl, _, _, k⟩
    · have := hfun _ _ _ hq (.inl ⟨rfl, rfl⟩); subst this
      rcases hmem j blk' hblk' with ⟨rfl, rfl⟩ | ⟨rfl, rfl⟩ | ⟨j1, q1, rfl, h5, h6, k⟩
      · exact absurd rfl hne
      · exact ⟨rfl, rfl⟩
      · exact ⟨k.1, hap _ _ _ _ h6 hq' hb ha⟩
    · simp at hown
    · rw [k.1] at hown; simp at hown
  · intro i blk hi
    rcases hmem i blk hi with ⟨rfl, rfl⟩ | ⟨rfl, rfl⟩ | ⟨j, q, rfl, k2, _, k3, ⟨ks1, n1, g1, k4⟩, k5, _⟩
    · refine ⟨p, .inl ⟨rfl, rfl⟩, ?_⟩
      cases hpa : p.a with
      | none => rw [hpa] at hp; show rowL ks f 0 n = []; rw [hp]; rfl
      | some b =>
        rw [hpa] at hp
        obtain ⟨cs, m1, m2, m3⟩ := hp
        exact ⟨cs, (0, 0), m1, LP_plain (rowL_pl _ _ _ _) (by rw [show (Cells.row ks n f).list = rowL ks f 0 n from rfl, rowL_len]; exact m2), fun _ => ⟨rfl, .inl rfl, fun _ => m3⟩⟩
    · refine ⟨p, .inr (.inl ⟨rfl, rfl⟩), ?_⟩
      cases hpa : p.a with
      | none => rfl
      | some b =>
        rw [hpa] at hp
        obtain ⟨cs, m1, m2, m3⟩ := hp
        exact ⟨cs, (0, 0), m1, LP_nil, fun ho => by simp at ho⟩
    · have hc : ContOk (⟨w, fun k => p.a = some k, RtF p pl⟩ : Wb GL) (RtF p pl) w (argId j) blk := by
        refine ⟨q, .inr (.inr ⟨j, rfl, k2⟩), ?_⟩
        cases hqa : q.a with
        | none => rw [hqa] at k5; exact k5
        | some b =>
          rw [hqa] at k5
          obtain ⟨cs, fz, m1, m2⟩ := k5
          exact ⟨cs, fz, m1, LP_mono (fun _ _ h => h.elim) m2, fun ho => by rw [k3] at ho; simp at ho⟩
      unfold MemOk
      rw [k4]; exact hc
  · rintro i q (⟨rfl, rfl⟩ | ⟨rfl, rfl⟩ | ⟨j, rfl, hj⟩) _
    · rw [look_cons, upd_same]; rfl
    · rw [look_cons, upd_ne _ _ (by omega), look_cons, upd_same]; rfl
    · rw [look_cons, upd_ne _ _ (Ne.symm (hid j).1), look_cons, upd_ne _ _ (Ne.symm (hid j).2)]
      exact (h3 j q hj).1
  · have hthere : ∀ b, p.a = some b → ∃ cs e fz, w.heap[b]? = some (.cells cs e fz) := fun b hb => by
      rw [hb] at hp
      obtain ⟨cs, m1, _⟩ := hp
      exact ⟨cs, e, (0, 0), m1⟩
    rintro i q b (⟨rfl, rfl⟩ | ⟨rfl, rfl⟩ | ⟨j, rfl, hj⟩) hb
    · exact .inl (hthere b hb)
    · exact .inl (hthere b hb)
    · exact .inl ((h3 j q hj).2 b hb)
  · rintro i q (⟨rfl, rfl⟩ | ⟨rfl, rfl⟩ | ⟨j, rfl, hj⟩) hge
    · omega
    · omega
    · have := cMem_lt A 1 j (h3 j q hj).1
      unfold argId at hge; omega
end
section
variable {P : Program} [Laid P]
theorem msum_take {g : FuncId} {fn : Func} {c : Code} (hf : P.funcs[g]? = some fn) (hname : (fn.name == "runtime.NumGoroutine") = false) (hb : fn.body = some c) {fuel next : Nat}
    {w0 : Wb (lay P)} {R : Nat → Pl → Prop} {fm : Nat → Option Blk} {w : World} (hm : MRel w0 R fm w) {v0 : Value} {vs args' : List Value} (hl : LR (V2 R) (v0 :: vs) args') {mm : Nat → Option Blk} (hsub : ∀ b blk, mm b = some blk → fm b = some blk) {id : Nat} (hlt : id < 60000)
    {ks : List CK} {e : TypeId} {i n : Nat} {f : Nat → List Value} (h0 : srcW mm ks e v0 = (true, i, n, f)) {A : List Arg} (hA : AOk mm vs A) (hap : vs.all (apart2 mm i) = true) (hlen : A.length + 1 ≤ fn.ntmps) {m : Nat} {blk : Blk} (hnew : fm (nid id 0) = none)
    (hev0 : ∀ es, ∃ C, CfgOk P C c ∧ C.n = fn.ntmps ∧ fnT C fuel fn c (.slice (some ⟨999999, 0, none⟩) n n :: cArgs A 1) ((999999, ⟨.row ks n f, e, true⟩) :: (1400000, ⟨.lst [], e, false⟩) :: cMem es A 1) next e = some (m, blk)) (hnt : fn.ntmps ≤ 900000000 := by decide +kernel) :
    Invokes P g args'.toArray w fun v' w' => ∃ R' : Nat → Pl → Prop, (∀ i p, R i p → R' i p) ∧ V2 R' (.slice (some ⟨nid id 0, 0, none⟩) m m) v' ∧ MRel w0 R' (memF fm [(nid id 0, blk), (i, ⟨.lst [], e, false⟩)]) w' := by
  have hne : fn.name ≠ "runtime.NumGoroutine" := by simpa using hname
  have hrun : (callFunc g args'.toArray).run P w = .ok (.enter g args'.toArray) w := by simp [callFunc, hf, hne, hb]
  unfold Invokes
  rw [hrun]
  obtain ⟨cc, rfl, hbm, hlo, hncc⟩ := srcW_some h0
  have hbf := hsub _ _ hbm
  match args', hl with
  | [], hl => exact hl.elim
  | v0' :: args1', hl =>
  obtain ⟨es, pl, h1, h2, h3, h4⟩ := callee_mem hm A vs args1' 1 (AOk_mono hsub hA) hl.2
  obtain ⟨p, hp, hsl⟩ := V2_slice hl.1
  obtain ⟨_, hcc, hcase⟩ := SlOk_loose hlo hsl
  have hcont : match p.a with
      | none => n = 0
      | some b => ∃ cs, w.heap[b]? = some (.cells cs e (0, 0)) ∧ (cs.toList.drop p.d).take (n * ks.length) = rowL ks f 0 n ∧ (p.c ≠ 0 → p.d + p.c * ks.length ≤ cs.size) := by
    rcases hcase with ⟨b', hpa, _⟩ | ⟨hpa, hn0, _, _⟩
    · rw [hpa]
      obtain ⟨cs, fz, g1, g2, g3, g4⟩ := row_cells hm hbf hp hpa
      obtain ⟨rfl, _, hroom⟩ := g4 rfl
      exact ⟨cs, g1, g2, fun hc => hroom hlo hc⟩
    · rw [hpa]; exact hn0
  have hfun : ∀ i q q', RtF p pl i q → RtF p pl i q' → q = q' := by
    rintro i q q' (⟨rfl, rfl⟩ | ⟨rfl, rfl⟩ | ⟨j, rfl, hj⟩) (⟨h5, rfl⟩ | ⟨h5, rfl⟩ | ⟨j', h5, hj'⟩) <;> first | rfl | (unfold argId at h5; omega) | omega | skip
    have : j = j' := by unfold argId at h5; omega
    subst this
    rw [hj] at hj'; exact Option.some.inj hj'
  have hargs1 : LR (V2 (RtF p pl)) (cArgs A 1) args1' := LR_mono (fun _ _ hu => V2_mono (fun i q hq => .inr (.inr hq)) hu) h4
  have hown : ∀ b, p.a = some b → w0.X b ∨ w0.w.heap.size ≤ b := fun b hpa => hm.ownX hp hpa hbf rfl
  have hgl : ∀ x ∈ lay P, p.a ≠ some x.1 := by
    intro x hx e1
    obtain ⟨fz1, k1⟩ := hm.below.glob.1 x hx
    have k2 := hm.below.glob.2 x hx
    rcases hown _ e1 with h5 | h5
    · exact k2 h5
    · have := heap_lt k1; omega
  have hapa : ∀ j blk' q b, look (cMem es A 1) j = some blk' → RtF p pl j q → q.a = some b → p.a = some b → blk'.cells.list = [] := fun j blk' q b hj hq hqa hpa => args_apart hm hsub hp hpa hbf rfl hfun A vs args1' 1 hA hl.2 hargs1 hap j blk' q hj hq hqa
  have hmC := take_rel hm.below.gok h2 h3 (by omega) hcont hapa hgl
  obtain ⟨C, hC, hn, hev⟩ := hev0 es
  unfold fnT at hev
  rw [evK_eq, oK_some] at hev
  obtain ⟨⟨ex, s'⟩, he1, he2⟩ := hev
  obtain ⟨vC, he3, he4⟩ : ∃ vC, endK C.T fn ex s' some none = some vC ∧ takK (look s'.mem) e vC = some (m, blk) := by
    have key : endK C.T fn ex s' (fun v => takK (look s'.mem) e v) none = oK (endK C.T fn ex s' some none) (fun v => takK (look s'.mem) e v) none := by
      unfold endK
      have key : ∀ lr : List ResultVar, resK C.T s' lr (fun vs => oneK vs fun v => takK (look s'.mem) e v) none = oK (resK C.T s' lr (fun vs => oneK vs some) none) (fun v => takK (look s'.mem) e v) none := by
        intro lr
        rw [resK_nat (fun o : Option Value => oK o (fun v => takK (look s'.mem) e v) none)]
        congr 1; funext vs
        exact (oneK_nat (fun o : Option Value => oK o (fun v => takK (look s'.mem) e v) none) vs some).symm
      cases ex <;> first | exact key _ | rfl
    simp only at he2
    rw [key] at he2
    exact oK_some.1 he2
  have hv0 : V2 (RtF p pl) (.slice (some ⟨999999, 0, none⟩) n n) v0' := by
    refine slice_V2 (q := p) rfl (.inl ⟨rfl, rfl⟩) (by omega) ?_
    rcases hcase with ⟨b', hpa, hv⟩ | ⟨hpa, hn0, hc0, hv⟩
    · rw [hpa]; exact hv
    · rw [hpa]; exact ⟨hn0, hc0, hv⟩
  refine Calls.mono (fn_mem hC hf hb hn hmC (args := .slice (some ⟨999999, 0, none⟩) n n :: cArgs A 1) (args' := v0' :: args1') (And.intro hv0 hargs1) (by rw [List.length_cons, cArgs_len]; exact hlen) he1 he3) ?_
  rintro ex2 w' ⟨R', v', rfl, hvv, hvt, hm'⟩
  show ∃ R2 : Nat → Pl → Prop, _ ∧ _ ∧ _
  obtain ⟨j, c0, ks2, g2, e2, rfl, hj, rfl, hloj, hjm, hmc, o, hanc⟩ := takK_some he4
  have hvv := hvv nofun
  -- the caller's memory, without the row
  have hm2 : MRel w0 R (upd fm i ⟨.lst [], e, false⟩) w' := by
    have hmf := hm.forget hbf nofun nofun
    cases hpa : p.a with
    | none =>
      refine hmf.world ?_
      have := hm'.below.below (fun k hk => by rw [hpa] at hk; simp at hk)
      exact this
    | some b =>
      rw [hpa] at hcont
      obtain ⟨cs, g1, _, _⟩ := hcont
      have hb2 := hm'.below
      simp only [hpa] at hb2
      refine hmf.swap (forget_free hm hbf rfl hp hpa e) (fun hfz => ?_) (hown b hpa) ⟨cs, (0, 0), g1⟩ hb2 ?_
      · have := hm.frz_own hfz hp hpa hbf; simp at this
      · obtain ⟨p', hp', hc⟩ := memOk_lst hm' hanc
        have hanc2 := hm'.anc _ _ hp' (by omega) (by omega)
        have epp : p' = p := by
          rcases hanc2 with ⟨h, _⟩ | ⟨_, h⟩ | ⟨j, h, _⟩
          · omega
          · exact h
          · unfold argId at h; omega
        subst epp
        rw [hpa] at hc
        obtain ⟨cs2, fz2, k1, _⟩ := hc
        exact ⟨cs2, fz2, k1⟩
  have hin : i ≠ nid id 0 := by rintro rfl; rw [hnew] at hbf; simp at hbf
  have hnone : upd fm i ⟨.lst [], e, false⟩ (nid id 0) = none := by rw [upd_ne _ _ hin]; exact hnew
  obtain ⟨q, hq, hslq⟩ := V2_slice hvv
  obtain ⟨q', hq', hcq⟩ := memOk_row hm' hj
  have := hm'.func _ _ _ hq hq'; subst this
  obtain ⟨_, hcc2, hcaseq⟩ := SlOk_loose hloj hslq
  refine ⟨fun i2 q2 => R i2 q2 ∨ (i2 = nid id 0 ∧ q2 = q), fun _ _ h => .inl h, slice_V2 (nid_loose hlt (by omega)) (.inr ⟨rfl, rfl⟩) (show m ≤ q.c by omega) ?_, ?_⟩
  · rcases hcaseq with ⟨b, hqa, hv'⟩ | ⟨hqa, hm0, hc0, hv'⟩
    · rw [hqa]; exact hv'
    · rw [hqa]; exact ⟨hm0, hc0, hv'⟩
  show MRel w0 _ (upd (upd fm i ⟨.lst [], e, false⟩) (nid id 0) _) w'
  cases hqa : q.a with
  | none =>
    rw [hqa] at hcq
    have hcq : rowL ks2 g2 0 m = [] := hcq
    refine hm2.view (q := q) hnone (nid_lt hlt (by omega)) (.inr (.inl hqa)) (fun b hb => by rw [hqa] at hb; simp at hb) ?_
    intro R3 _ hR
    refine ⟨q, hR, ?_⟩
    rw [hqa]; exact hcq
  | some b =>
    rw [hqa] at hcq
    obtain ⟨cs, fz, k1, k2, k3⟩ := hcq
    obtain ⟨rfl, hX, hroom⟩ := k3 rfl
    have hfree : ∀ j q blk', R j q → q.a = some b → upd fm i ⟨.lst [], e, false⟩ j = some blk' → weak blk' := by
      rcases hX with hX | hX
      · exact forget_free hm hbf rfl hp hX e
      · intro j q blk' h5 h6
        have := hm.lt h5 h6
        have hX : w.heap.size ≤ b := hX
        omega
    have hnf : ¬ Frz R b := by
      intro hfz
      rcases hX with hX | hX
      · have := hm.frz_own hfz hp hX hbf; simp at this
      · have := hm.frz_lt hfz
        have hX : w.heap.size ≤ b := hX
        omega
    have hge : w0.X b ∨ w0.w.heap.size ≤ b := by
      rcases hX with hX | hX
      · exact hown b hX
      · exact .inr (Nat.le_trans hm.below.size hX)
    refine hm2.rename hnone (nid_lt hlt (by omega)) hfree hnf hqa k1 hge nofun nofun nofun ?_ ?_
    · have k2 : LP R' (rowL ks2 g2 0 m) (cs.toList.drop q.d) := k2
      have := (LR_plain (r := V0 R') (pl := pl0) (fun _ _ hv => V0_plain hv) (rowL_pl ks2 g2 m 0)).1 k2
      exact LP_plain (rowL_pl _ _ _ _) this
    · exact fun _ hc => hroom hloj hc
end
end Go.W

namespace Go.W
def IszF : List Value → Option (Bool × Value)
  | [.int .i64 s] => some (true, .bool (bif decide (1 ≤ s) then decide (s ≤ 7) else false))
  | _ => none
def mkC (a b : Int) : Bool := decide (a ≤ b) && decide (0 ≤ a) && szOk b.toNat 1 && true && true && true && true && true
theorem mkC_true {a : Nat} {k : Int} (hk : 0 ≤ k) (h : a + k ≤ 2000000) : mkC (a : Int) (IntKind.i64.wrap ((a : Int) + k)) = true := by
  unfold mkC
  rw [wrap_i64 (by omega), decide_eq_true (by omega), decide_eq_true (by omega), szOk_small (by omega)]; rfl
def cpR (m : Nat) (g : Nat → List Value) : Nat → List Value := cpyF (fun _ => [z8]) 0 (min m m) (sgF m g)
theorem bI_cp {m : Nat} {g : Nat → List Value} {j : Nat} (h : j < m) : bI (cpR m g) j = bI g j := by
  unfold cpR
  rw [bI_cpy, Nat.min_self, if_pos h, bI_sg]
def CopF (e : Nat) : List Value → (Nat → Option Blk) → Nat → List (Bool × Value × List (Nat × Blk))
  | [b, .int .i64 k], mm, id => [((srcB mm kB b).1 && (Nat.ble (srcB mm kB b).2.1 1000000 && (decide (0 ≤ k) && decide (k ≤ 1000000))), nSl id (srcB mm kB b).2.1, rw1 e id (srcB mm kB b).2.1 (cpR (srcB mm kB b).2.1 (srcB mm kB b).2.2))]
  | _, _, _ => []
noncomputable def pkB (n s : Int) : Bool := hide (decide (pkOk n s))
theorem pkB_iff {n s : Int} : pkB n s = true ↔ pkOk n s := by unfold pkB; rw [hide_eq, decide_eq_true_eq]
noncomputable def LaiF (e : Nat) : List Value → (Nat → Option Blk) → Nat → List (Bool × Value × List (Nat × Blk))
  | [b, .int .i64 n, .int .i64 s], mm, id => [((srcW mm kB e b).1 && (Nat.ble (srcW mm kB e b).2.2.1 900000 && pkB n s), nSl id ((srcW mm kB e b).2.2.1 + s.toNat),
      [(nid id 0, ⟨.row kB ((srcW mm kB e b).2.2.1 + s.toNat) (pkR (srcW mm kB e b).2.2.1 (srcW mm kB e b).2.2.2 n s), e, true⟩), ((srcW mm kB e b).2.1, ⟨.lst [], e, false⟩)])]
  | _, _, _ => []
theorem sh8i {i : Nat} (h : i ≤ 7) : IntKind.i64.wrap (8 * (i : Int)) = ((8 * i : Nat) : Int) := by rw [wrap_i64 (by omega)]; omega
theorem byt_i {n : Int} (hn : 0 ≤ n) {i : Nat} (hi : i ≤ 7) : IntKind.u8.wrap (iShr .i64 n (IntKind.i64.wrap (8 * (i : Int)))) = ((n.toNat / 2 ^ (8 * i) % 256 : Nat) : Int) := by
  rw [sh8i hi, shr_n hn (by omega), wrap_u8]; omega
theorem pk_id (m : Nat) (g : Nat → List Value) (n s : Int) : ∀ j, j < m → nrmK kB (g j) = nrmK kB (pkR m g n s j) := fun j hj => by
  rw [nrm_pk, nrm_kB]
  unfold pkJ
  rw [if_pos hj]
def iszB (s : Int) : Bool := bif decide (1 ≤ s) then decide (s ≤ 7) else false
theorem iszB_iff {s : Int} : iszB s = true ↔ 1 ≤ s ∧ s ≤ 7 := by
  unfold iszB
  by_cases h : 1 ≤ s
  · rw [decide_eq_true h, cond_true, decide_eq_true_eq]; omega
  · rw [decide_eq_false h, cond_false]
    exact ⟨fun h => by simp at h, fun h2 => absurd h2.1 h⟩
def kw (m : Nat) : Bool := true && Nat.beq m m && true && Nat.ble m m
theorem kw_true (m : Nat) : kw m = true := by unfold kw; rw [Nat.beq_refl, bE (Nat.le_refl _)]; rfl
def pkT (n s : Int) (x : Option (Value × List (Nat × Blk))) : Option (Value × List (Nat × Blk)) :=
  bif !(iszB s) then pkErr else bif decide (n < 0) then pkErr else bif decide (IntKind.i64.wrap (8 * s) < 0) then none else bif decide (iShr .i64 n (IntKind.i64.wrap (8 * s)) > 0) then pkErr else x
theorem fit_g {n : Int} (hn : 0 ≤ n) {s : Int} (h1 : 1 ≤ s) (h7 : s ≤ 7) : decide (iShr .i64 n (IntKind.i64.wrap (8 * s)) > 0) = !(decide (pkOk n s)) := by
  rw [← fit_n hn h1 h7]
  obtain ⟨t, rfl⟩ := Int.eq_ofNat_of_zero_le (show 0 ≤ s by omega)
  rw [sh8 (by omega), sh8i (by omega), shr_n hn (by omega)]
  generalize n.toNat / 2 ^ (8 * t) = x
  by_cases h : x = 0
  · rw [h]; rfl
  · rw [decide_eq_true (by omega)]
    symm
    rw [bne_iff_ne]; omega
theorem pkT_eq (n s : Int) (x : Option (Value × List (Nat × Blk))) : pkT n s x = if pkOk n s then x else pkErr := by
  unfold pkT
  by_cases hs : 1 ≤ s ∧ s ≤ 7
  · rw [iszB_iff.2 hs, Bool.not_true, cond_false]
    by_cases hn : n < 0
    · rw [decide_eq_true hn, cond_true, if_neg (fun h : pkOk n s => by have := h.2.2.1; omega)]
    · rw [decide_eq_false hn, cond_false, decide_eq_false (by rw [wrap_i64 (by omega)]; omega), cond_false, fit_g (by omega) hs.1 hs.2]
      by_cases hok : pkOk n s
      · rw [decide_eq_true hok, if_pos hok]; rfl
      · rw [decide_eq_false hok, if_neg hok]; rfl
  · rw [show iszB s = false from by rw [Bool.eq_false_iff, ne_eq, iszB_iff]; exact hs, Bool.not_false, cond_true, if_neg (fun h : pkOk n s => hs ⟨h.1, h.2.1⟩)]
theorem pk_cp (m : Nat) (g : Nat → List Value) (n s : Int) (L : Nat) : ∀ j, j < L → nrmK kB (pkR m (cpR m (sgF m g)) n s j) = nrmK kB (pkR m g n s j) := fun j _ => by
  rw [nrm_pk, nrm_pk]
  unfold pkJ
  by_cases h : j < m
  · rw [if_pos h, if_pos h, bI_cp h, bI_sg]
  · rw [if_neg h, if_neg h]
def gtT2 (m : Nat) (a s : Int) (x : Option (Value × List (Nat × Blk))) : Option (Value × List (Nat × Blk)) :=
  bif !(iszB s) then gtErr 1 else bif decide (a < 0) then gtErr 1 else bif decide (a > (m : Int)) then gtErr 1 else bif decide (s > IntKind.i64.wrap ((m : Int) - a)) then gtErr 7 else x
theorem gtT2_eq {m : Nat} (hm : m ≤ 1000000) (a s : Int) (x : Option (Value × List (Nat × Blk))) : gtT2 m a s x = if gtE0 m a s = 0 then x else gtErr (gtE0 m a s) := by
  rw [← gtT_eq hm a s x]
  unfold gtT2 gtT
  by_cases h1 : s < 1
  · rw [show iszB s = false from by rw [Bool.eq_false_iff, ne_eq, iszB_iff]; omega, decide_eq_true h1]; rfl
  by_cases h2 : s > 7
  · rw [show iszB s = false from by rw [Bool.eq_false_iff, ne_eq, iszB_iff]; omega, decide_eq_false h1, decide_eq_true h2]; rfl
  rw [iszB_iff.2 (by omega), decide_eq_false h1, decide_eq_false h2]; rfl
def paT {α : Type} (m : Nat) (X Y : Int) (x : Option α) : Option α :=
  req (decide (0 ≤ Y) && decide (Y ≤ (m : Int))) (req (decide (0 ≤ X) && decide (X ≤ ((Y.toNat : Nat) : Int))) (req (Nat.ble Y.toNat m) x))
theorem paT_eq {α : Type} {m : Nat} {X Y : Int} (h0 : 0 ≤ X) (h1 : X ≤ Y) (h2 : Y ≤ (m : Int)) (x : Option α) : paT m X Y x = x := by
  unfold paT
  rw [decide_eq_true (by omega), decide_eq_true (by omega), req_true (b := true && true) rfl, decide_eq_true (by omega), decide_eq_true (by omega), req_true (b := true && true) rfl, bE (by omega), req_true rfl]
def rdT {α : Type} (i : Int) (l c m : Nat) (x : Option α) : Option α := req (inR i c) (req (true && Nat.ble (l + c) m) (req (Nat.blt i.toNat c && true) x))
theorem rdT_eq {α : Type} {k l c m : Nat} (h : k < c) (h2 : l + c ≤ m) (x : Option α) : rdT (k : Int) l c m x = x := by
  have := rdI_eq h x
  unfold rdI at this
  unfold rdT
  rw [bE h2, req_true (b := true && true) rfl]; exact this
theorem pp_cp (m : Nat) (g : Nat → List Value) (k : Nat) (p : Nat → List Value) : ∀ j, j < m + 4 + k → nrmK kB (appF (m + 4) (pkR m (cpR m (sgF m g)) (k : Nat) 4) (sgF k p) j) = nrmK kB (ppR m g k p j) := fun j hj => by
  rw [← pp_row m g k p j hj]
  unfold appF
  by_cases h : j < m + 4
  · rw [bL h, cond_true, cond_true, pk_cp m g _ _ (m + 4) j h, nrm_pk, nrm_pk]
    unfold pkJ
    rw [bI_sg]
  · rw [show Nat.blt j (m + 4) = false from by rw [Bool.eq_false_iff, ne_eq, Nat.blt_eq]; omega, cond_false, cond_false]
def gpC (e m : Nat) (g : Nat → List Value) (X N : Int) (id : Nat) : Option (Value × List (Nat × Blk)) :=
  paT m X (IntKind.i64.wrap (X + N))
    (req (kbT X.toNat ((IntKind.i64.wrap (X + N)).toNat - X.toNat) m && (Nat.ble ((IntKind.i64.wrap (X + N)).toNat - X.toNat) 1000000 && (decide ((0 : Int) ≤ 0) && decide ((0 : Int) ≤ 1000000)))) (req (Nat.ble ((IntKind.i64.wrap (X + N)).toNat - X.toNat) ((IntKind.i64.wrap (X + N)).toNat - X.toNat))
      (some (.tuple #[nSl id ((IntKind.i64.wrap (X + N)).toNat - X.toNat), i64 (IntKind.i64.wrap (X + N)), i64 0], rw1 e id ((IntKind.i64.wrap (X + N)).toNat - X.toNat) (cpR ((IntKind.i64.wrap (X + N)).toNat - X.toNat) (sgA X.toNat ((IntKind.i64.wrap (X + N)).toNat - X.toNat) m g))))))
theorem gpC_eq {e m : Nat} {g : Nat → List Value} {x n id : Nat} (hm : m ≤ 1000000) (h : x + n ≤ m) : gpC e m g (x : Int) (n : Int) id = some (.tuple #[nSl id n, i64 ((x : Int) + (n : Int)), i64 0], rw1 e id n (cpR n (sgA x n m g))) := by
  unfold gpC
  rw [wrap_i64 (by omega), paT_eq (by omega) (by omega) (by omega), show ((x : Int) + (n : Int)).toNat = x + n from by omega, Int.toNat_natCast, show x + n - x = n from by omega, kbT_true h, bE (show n ≤ 1000000 by omega), req_true (b := true && (true && (decide ((0 : Int) ≤ 0) && decide ((0 : Int) ≤ 1000000)))) rfl, bE (Nat.le_refl _), req_true rfl]
theorem gp_cp (m : Nat) (g : Nat → List Value) (a : Int) (n : Nat) : ∀ j, j < n → nrmK kB (cpR n (sgA (a.toNat + 4) n m g) j) = nrmK kB (gpR g a j) := fun j h => by
  rw [nrm_kB, nrm_kB, bI_cp h, bI_sgA, bI_gp]
noncomputable def gpT (e m : Nat) (g : Nat → List Value) (a : Int) (id : Nat) : Option (Value × List (Nat × Blk)) :=
  bif gtE m a 4 != 0 then gpErr (gtE m a 4) else bif decide (gtN m (sgF m g) a 4 > 16384) then gpErr 7 else bif decide (gtN m (sgF m g) a 4 > IntKind.i64.wrap ((m : Int) - gtX m a 4)) then gpErr 7 else gpC e m g (gtX m a 4) (gtN m (sgF m g) a 4) id
theorem gpT_good {e m : Nat} {g : Nat → List Value} {a : Int} (hm : m ≤ 1000000) (hok : gpE0 m g a = 0) (id : Nat) :
    gpT e m g a id = some (.tuple #[nSl id (gtV g a.toNat 4), i64 (a + 4 + ((gtV g a.toNat 4 : Nat) : Int)), i64 0], [(nid id 0, ⟨.row kB (gtV g a.toNat 4) (cpR (gtV g a.toNat 4) (sgA (a.toNat + 4) (gtV g a.toNat 4) m g)), e, true⟩)]) := by
  obtain ⟨h0, ⟨h4, h5⟩, hn, hv⟩ := gpE0_ok hok
  obtain ⟨e1, e2, e3⟩ := gt_hid (g := sgF m g) h0
  rw [gtV_sg, show ((4 : Int).toNat) = 4 from rfl] at e3
  unfold gpT
  rw [e1, e2, e3, decide_eq_false (by omega), wrap_i64 (by omega), decide_eq_false (by omega), show a + 4 = ((a.toNat + 4 : Nat) : Int) from by omega]
  show gpC e m g ((a.toNat + 4 : Nat) : Int) ((gtV g a.toNat 4 : Nat) : Int) id = _
  rw [gpC_eq hm hv]; rfl
theorem gpT_bad {e m : Nat} {g : Nat → List Value} {a : Int} (hm : m ≤ 1000000) (hok : ¬ gpE0 m g a = 0) (id : Nat) : gpT e m g a id = some (.tuple #[.slice none 0 0, i64 0, i64 (gpE0 m g a)], []) := by
  rw [← gp_bad (e := e) hm hok id]
  unfold gpT
  by_cases h0 : gtE0 m a 4 = 0
  · obtain ⟨e1, e2, e3⟩ := gt_hid (g := sgF m g) h0
    rw [gtV_sg, show ((4 : Int).toNat) = 4 from rfl] at e3
    obtain ⟨_, _, h4, h5⟩ := gtE0_ok h0
    have hx : (16384 : Int) < (gtV g a.toNat 4 : Nat) ∨ (m : Int) - (a + 4) < (gtV g a.toNat 4 : Nat) := by
      refine Decidable.byContradiction fun hx => hok ?_
      unfold gpE0
      rw [if_neg (fun h => h h0), if_neg hx]
    rw [e1, e2, e3, wrap_i64 (show -9223372036854775808 ≤ (m : Int) - (a + 4) ∧ (m : Int) - (a + 4) < 9223372036854775808 by omega)]
    by_cases h6 : (16384 : Int) < (gtV g a.toNat 4 : Nat)
    · rw [decide_eq_true (show ((gtV g a.toNat 4 : Nat) : Int) > 16384 from h6)]; rfl
    · have h7 : (m : Int) - (a + 4) < (gtV g a.toNat 4 : Nat) := hx.resolve_left h6
      rw [decide_eq_true (show ((gtV g a.toNat 4 : Nat) : Int) > (m : Int) - (a + 4) from h7)]; rfl
  · have e1 : gtE m a 4 = gtE0 m a 4 := by unfold gtE; rw [hide_eq]
    rw [e1, show (gtE0 m a 4 != 0) = true from by rw [bne_iff_ne]; exact h0]; rfl
end Go.W
