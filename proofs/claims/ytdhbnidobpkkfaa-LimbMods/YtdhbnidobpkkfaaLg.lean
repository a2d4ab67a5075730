/-
  The document's own answers, package limb: products, and what is left.
-/
import Derived.Test.YtdhbnidobpkkfaaLf
namespace Go.Proofs.Ytdhbnidobpkkfaa
open Go.W
open Go.RowKit (Below)

def rmNt : List Nat := [2, 3, 4, 5, 6, 7]
def rmNi : List Nat := [0, 1, 2, 3, 4]
def rmSt (x0 x1 x2 x3 y0 y1 y2 y3 : Nat) (o : List Value) (k : Int) : St :=
  ⟨[(2, ptr 0), (3, ptr 1), (4, ptr 2), (5, ptr 3), (6, ptr 4), (7, i64 k)],
   [(0, ⟨[u64 x0, u64 x1, u64 x2, u64 x3], 24, true⟩), (1, ⟨[u64 y0, u64 y1, u64 y2, u64 y3], 24, true⟩), (2, ⟨[u64 0, u64 0, u64 0, u64 0], 24, true⟩), (3, ⟨[u64 0, u64 0, u64 0, u64 0], 24, true⟩),
    (4, ⟨o, 49, true⟩)], 6⟩
def rmC0 : Cfg := ⟨tab, [(29, Mul64F), (26, Add64F)], 81, []⟩
theorem rmOk0 : CfgOk Try.prog rmC0 (bodyOf Try.f14) := ⟨mixed, tabOk, sums_cons Mul64_sum (sums_cons Add64_sum sums_nil), noL⟩
theorem rm_at : codeAt [1, 1, 0, 1, 0] (bodyOf Try.f14) = some (.loop (loopAt [1, 1, 0, 1, 0] (bodyOf Try.f14))) := by kernel_rfl
theorem rm_r0 (x0 x1 x2 x3 y0 y1 y2 y3 X : Nat) : roundS rmC0 100 [1, 1, 0, 1, 0, 0] (loopAt [1, 1, 0, 1, 0] (bodyOf Try.f14)) rmNt rmNi 6 rmNt rmNi 6 (rmSt x0 x1 x2 x3 y0 y1 y2 y3 (digL X) 0) =
    mrowL 0 X x0 y0 y1 y2 y3 (fun o => some (.normal, rmSt x0 x1 x2 x3 y0 y1 y2 y3 o 1)) := by kernel_rfl
theorem rm_r1 (x0 x1 x2 x3 y0 y1 y2 y3 X : Nat) : roundS rmC0 100 [1, 1, 0, 1, 0, 0] (loopAt [1, 1, 0, 1, 0] (bodyOf Try.f14)) rmNt rmNi 6 rmNt rmNi 6 (rmSt x0 x1 x2 x3 y0 y1 y2 y3 (digL X) 1) =
    mrowL 1 X x1 y0 y1 y2 y3 (fun o => some (.normal, rmSt x0 x1 x2 x3 y0 y1 y2 y3 o 2)) := by kernel_rfl
theorem rm_r2 (x0 x1 x2 x3 y0 y1 y2 y3 X : Nat) : roundS rmC0 100 [1, 1, 0, 1, 0, 0] (loopAt [1, 1, 0, 1, 0] (bodyOf Try.f14)) rmNt rmNi 6 rmNt rmNi 6 (rmSt x0 x1 x2 x3 y0 y1 y2 y3 (digL X) 2) =
    mrowL 2 X x2 y0 y1 y2 y3 (fun o => some (.normal, rmSt x0 x1 x2 x3 y0 y1 y2 y3 o 3)) := by kernel_rfl
theorem rm_r3 (x0 x1 x2 x3 y0 y1 y2 y3 X : Nat) : roundS rmC0 100 [1, 1, 0, 1, 0, 0] (loopAt [1, 1, 0, 1, 0] (bodyOf Try.f14)) rmNt rmNi 6 rmNt rmNi 6 (rmSt x0 x1 x2 x3 y0 y1 y2 y3 (digL X) 3) =
    mrowL 3 X x3 y0 y1 y2 y3 (fun o => some (.normal, rmSt x0 x1 x2 x3 y0 y1 y2 y3 o 4)) := by kernel_rfl
theorem rm_r4 (x0 x1 x2 x3 y0 y1 y2 y3 X : Nat) : roundS rmC0 100 [1, 1, 0, 1, 0, 0] (loopAt [1, 1, 0, 1, 0] (bodyOf Try.f14)) rmNt rmNi 6 rmNt rmNi 6 (rmSt x0 x1 x2 x3 y0 y1 y2 y3 (digL X) 4) =
    some (.exit 0, rmSt x0 x1 x2 x3 y0 y1 y2 y3 (digL X) 4) := by kernel_rfl

def rmC (x0 x1 x2 x3 y0 y1 y2 y3 X : Nat) : Cfg := ⟨tab, [], 81, [([1, 1, 0, 1, 0], atSt rmNt rmNi 6 (rmSt x0 x1 x2 x3 y0 y1 y2 y3 (digL 0) 0) (.exit 0) (rmSt x0 x1 x2 x3 y0 y1 y2 y3 (digL X) 4))]⟩
theorem MulR_ev (x0 x1 x2 x3 y0 y1 y2 y3 X : Nat) : fnS (rmC x0 x1 x2 x3 y0 y1 y2 y3 X) 60 Try.f14 (bodyOf Try.f14) [numd x0 x1 x2 x3, numd y0 y1 y2 y3] =
    req (stEq (rmSt x0 x1 x2 x3 y0 y1 y2 y3 (digL 0) 0) (rmSt x0 x1 x2 x3 y0 y1 y2 y3 (digL 0) 0)) (some (.tuple #[numd (dig X 0) (dig X 1) (dig X 2) (dig X 3), numd (dig X 4) (dig X 5) (dig X 6) (dig X 7)])) := by kernel_rfl
theorem MulR_sum : Sum Try.prog 14 MulF := by
  intro args v h
  obtain ⟨X, Y, hX, hY, rfl, rfl⟩ := arg2 (f := fun x y => mulV (unnum x) (unnum y)) h
  obtain ⟨x0, x1, x2, x3, h0, h1, h2, h3, e1, e2⟩ := digits hX
  obtain ⟨y0, y1, y2, y3, k0, k1, k2, k3, e3, e4⟩ := digits hY
  obtain ⟨X1, X2, X3, X4, z0, z1, z2, z3, n0, n1, n2, n3, hv⟩ := mul_mrows h0 h1 h2 h3 hY
  rw [e3] at n0 n1 n2 n3
  have hL : LoopOk Try.prog 81 (loopAt [1, 1, 0, 1, 0] (bodyOf Try.f14)) (atSt rmNt rmNi 6 (rmSt x0 x1 x2 x3 y0 y1 y2 y3 (digL 0) 0) (.exit 0) (rmSt x0 x1 x2 x3 y0 y1 y2 y3 (digL X4) 4)) := by
    refine atSt_ok fun w0 R a w hrel => ?_
    refine loop_rounds (C := rmC0) rmOk0 rm_at (m := 100) (nt := rmNt) (ni := rmNi) (et := rmNt) (ei := rmNi) (nx := 6) (ex := 6) (e := .exit 0) (sf := rmSt x0 x1 x2 x3 y0 y1 y2 y3 (digL X4) 4)
      (fun k => match k with | 0 => rmSt x0 x1 x2 x3 y0 y1 y2 y3 (digL 0) 0 | 1 => rmSt x0 x1 x2 x3 y0 y1 y2 y3 (digL X1) 1 | 2 => rmSt x0 x1 x2 x3 y0 y1 y2 y3 (digL X2) 2 | 3 => rmSt x0 x1 x2 x3 y0 y1 y2 y3 (digL X3) 3 | _ => rmSt x0 x1 x2 x3 y0 y1 y2 y3 (digL X4) 4) 4 (by intro h; cases h) ?_ ?_ hrel
    · intro k hk
      match k, hk with
      | 0, _ => exact (rm_r0 x0 x1 x2 x3 y0 y1 y2 y3 0).trans (by rw [mrowL_eq (by omega) z0 h0 k0 k1 k2 k3, n0]; rfl)
      | 1, _ => exact (rm_r1 x0 x1 x2 x3 y0 y1 y2 y3 X1).trans (by rw [mrowL_eq (by omega) z1 h1 k0 k1 k2 k3, n1]; rfl)
      | 2, _ => exact (rm_r2 x0 x1 x2 x3 y0 y1 y2 y3 X2).trans (by rw [mrowL_eq (by omega) z2 h2 k0 k1 k2 k3, n2]; rfl)
      | 3, _ => exact (rm_r3 x0 x1 x2 x3 y0 y1 y2 y3 X3).trans (by rw [mrowL_eq (by omega) z3 h3 k0 k1 k2 k3, n3]; rfl)
    · exact rm_r4 x0 x1 x2 x3 y0 y1 y2 y3 X4
  have hOk : CfgOk Try.prog (rmC x0 x1 x2 x3 y0 y1 y2 y3 X4) (bodyOf Try.f14) := ⟨mixed, tabOk, sums_nil, oneL hL⟩
  refine sum_at hOk Try.func14 (by kernel_rfl) (by kernel_rfl) rfl (fuel := 60) (by show 2 ≤ Try.f14.ntmps; decide +kernel) ?_ rfl
  rw [unnum_lt hX, unnum_lt hY, e2, e4, MulR_ev, req_true (stEq_refl rfl), hv, e1]

end Go.Proofs.Ytdhbnidobpkkfaa
