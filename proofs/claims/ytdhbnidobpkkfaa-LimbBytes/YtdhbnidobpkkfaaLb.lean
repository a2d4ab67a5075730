/-
  Contracts of package limb, second part: products.
-/
import Derived.Test.YtdhbnidobpkkfaaLa
import Derived.Test.YtdhbnidobpkkfaaM4b
namespace Go.Proofs.Ytdhbnidobpkkfaa
open Go.W
open Go.RowKit (Below)

def Mul64C : Cfg := ⟨tab, [], 51, []⟩
theorem Mul64Ok : CfgOk Try.prog Mul64C (bodyOf Try.f29) := ⟨mixed, tabOk, sums_nil, noL⟩
theorem Mul64_ev (x y : Nat) : fnS Mul64C 60 Try.f29 (bodyOf Try.f29) [u64 x, u64 y] = Mul64T x y := by kernel_rfl
theorem Mul64_sum : Sum Try.prog 29 Mul64F := by
  refine sum_of Mul64Ok Try.func29 (by kernel_rfl) (by kernel_rfl) rfl (fuel := 60) fun args v h _ => ?_
  obtain ⟨x, y, hx, hy, rfl, rfl⟩ := argU2 (f := fun x y => mul64V (intN x) (intN y)) h
  refine ⟨by show 2 ≤ Try.f29.ntmps; decide +kernel, ?_, rfl⟩
  rw [Mul64_ev, Mul64T_eq hx hy]; rfl

def mulAddC : Cfg := ⟨tab, [(29, Mul64F), (26, Add64F)], 36, []⟩
theorem mulAddOk : CfgOk Try.prog mulAddC (bodyOf Try.f32) := ⟨mixed, tabOk, sums_cons Mul64_sum (sums_cons Add64_sum sums_nil), noL⟩
theorem mulAdd_ev (x y c d : Nat) : fnS mulAddC 60 Try.f32 (bodyOf Try.f32) [u64 x, u64 y, u64 c, u64 d] = mulAddT x y c d := by kernel_rfl
theorem mulAdd_sum : Sum Try.prog 32 mulAddF := by
  refine sum_of mulAddOk Try.func32 (by kernel_rfl) (by kernel_rfl) rfl (fuel := 60) fun args v h _ => ?_
  obtain ⟨x, y, c, d, hx, hy, hc, hd, rfl, rfl⟩ := argU4 (f := fun x y c d => mulAddV (intN x) (intN y) (intN c) (intN d)) h
  refine ⟨by show 4 ≤ Try.f32.ntmps; decide +kernel, ?_, rfl⟩
  rw [mulAdd_ev, mulAddT_eq hx hy hc hd]; rfl

def addRowC : Cfg := ⟨tab, [(32, mulAddF)], 58, []⟩
theorem addRowOk : CfgOk Try.prog addRowC (bodyOf Try.f28) := ⟨mixed, tabOk, sums_cons mulAdd_sum sums_nil, noL⟩
theorem addRow_ev (s0 s1 s2 s3 d b0 b1 b2 b3 : Nat) : fnS addRowC 60 Try.f28 (bodyOf Try.f28) [u64 s0, u64 s1, u64 s2, u64 s3, u64 d, numd b0 b1 b2 b3] = row5T s0 s1 s2 s3 d b0 b1 b2 b3 := by kernel_rfl
theorem addRow_sum : Sum Try.prog 28 row5F := by
  refine sum_of addRowOk Try.func28 (by kernel_rfl) (by kernel_rfl) rfl (fuel := 60) fun args v h _ => ?_
  unfold row5F at h
  split at h
  · simp only [Option.some.injEq, Prod.mk.injEq] at h
    obtain ⟨h1, rfl⟩ := h
    obtain ⟨x0, x1, x2, x3, y, Y, l0, l1, l2, l3, l4, l5, rfl, rfl, rfl, rfl, rfl, rfl⟩ := r5P_some h1
    obtain ⟨y0, y1, y2, y3, m0, m1, m2, m3, e3, e4⟩ := digits l5
    refine ⟨by show 6 ≤ Try.f28.ntmps; decide +kernel, ?_, rfl⟩
    rw [e4]
    exact (addRow_ev _ _ _ _ _ _ _ _ _).trans (row5T_eq l4 m0 m1 m2 m3 l0 l1 l2 l3)
  · simp at h

def MulC : Cfg := ⟨tab, [(28, row5F)], 76, []⟩
theorem MulOk : CfgOk Try.prog MulC (bodyOf Try.f13) := ⟨mixed, tabOk, sums_cons addRow_sum sums_nil, noL⟩
theorem Mul_ev (x0 x1 x2 x3 y0 y1 y2 y3 : Nat) : fnS MulC 60 Try.f13 (bodyOf Try.f13) [numd x0 x1 x2 x3, numd y0 y1 y2 y3] = mul5 (numd y0 y1 y2 y3) x0 x1 x2 x3 := by kernel_rfl
theorem Mul_sum : Sum Try.prog 13 MulF := by
  refine sum_of MulOk Try.func13 (by kernel_rfl) (by kernel_rfl) rfl (fuel := 60) fun args v h _ => ?_
  obtain ⟨X, Y, hX, hY, rfl, rfl⟩ := arg2 (f := fun x y => mulV (unnum x) (unnum y)) h
  obtain ⟨x0, x1, x2, x3, h0, h1, h2, h3, e1, e2⟩ := digits hX
  obtain ⟨y0, y1, y2, y3, k0, k1, k2, k3, e3, e4⟩ := digits hY
  refine ⟨by show 2 ≤ Try.f13.ntmps; decide +kernel, ?_, rfl⟩
  have key := mul5_eq h0 h1 h2 h3 hY
  rw [unnum_lt hX, unnum_lt hY, e2, e4]
  rw [e4, ← e1] at key
  exact (Mul_ev _ _ _ _ _ _ _ _).trans key

end Go.Proofs.Ytdhbnidobpkkfaa
