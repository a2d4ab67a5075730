/-
  Contracts of package limb, second part: products.
-/
import Derived.Test.YtecicpafamjjeaaLa
import Derived.Test.YtecicpafamjjeaaM4
namespace Go.Proofs.Ytecicpafamjjeaa
open Go.W
open Go.RowKit (Below)

def Mul64C : Cfg := ⟨tab, [], 51, []⟩
theorem Mul64Ok : CfgOk Try.prog Mul64C (bodyOf Try.f29) := ⟨mixed, tabOk, sums_nil, noL⟩
theorem Mul64_ev (x y : Nat) : fnS Mul64C 60 Try.f29 (bodyOf Try.f29) [u64 x, u64 y] = Mul64T x y := by kernel_rfl
theorem Mul64_sum : Sum Try.prog 29 Mul64F := by
  refine sum_of Mul64Ok Try.func29 (by kernel_rfl) (by kernel_rfl) rfl (fuel := 60) fun args v h _ => ?_
  obtain ⟨x, y, hx, hy, rfl, rfl⟩ := argU2 (f := fun x y => mul64V (intN x) (intN y)) h
  refine ⟨by show 2 ≤ Try.f29.ntmps; decide +kernel, ?_, rfl⟩
  rw [Mul64_ev, Mul64T_eq hx hy]; rfl

def mulAddC : Cfg := ⟨tab, [(29, Mul64F), (26, Add64F)], 36, []⟩
theorem mulAddOk : CfgOk Try.prog mulAddC (bodyOf Try.f32) := ⟨mixed, tabOk, sums_cons Mul64_sum (sums_cons Add64_sum sums_nil), noL⟩
theorem mulAdd_ev (x y c d : Nat) : fnS mulAddC 60 Try.f32 (bodyOf Try.f32) [u64 x, u64 y, u64 c, u64 d] = mulAddT x y c d := by kernel_rfl
theorem mulAdd_sum : Sum Try.prog 32 mulAddF := by
  refine sum_of mulAddOk Try.func32 (by kernel_rfl) (by kernel_rfl) rfl (fuel := 60) fun args v h _ => ?_
  obtain ⟨x, y, c, d, hx, hy, hc, hd, rfl, rfl⟩ := argU4 (f := fun x y c d => mulAddV (intN x) (intN y) (intN c) (intN d)) h
  refine ⟨by show 4 ≤ Try.f32.ntmps; decide +kernel, ?_, rfl⟩
  rw [mulAdd_ev, mulAddT_eq hx hy hc hd]; rfl

def addRowC : Cfg := ⟨tab, [(32, mulAddF)], 38, []⟩
theorem addRowOk : CfgOk Try.prog addRowC (bodyOf Try.f28) := ⟨mixed, tabOk, sums_cons mulAdd_sum sums_nil, noL⟩
theorem addRow_ev0 (s0 s1 s2 s3 s4 s5 s6 s7 d b0 b1 b2 b3 : Nat) : fnS addRowC 60 Try.f28 (bodyOf Try.f28) [numd8 s0 s1 s2 s3 s4 s5 s6 s7, u64 d, numd b0 b1 b2 b3, i64 0] = addRowT 0 s0 s1 s2 s3 s4 s5 s6 s7 d b0 b1 b2 b3 := by kernel_rfl
theorem addRow_ev1 (s0 s1 s2 s3 s4 s5 s6 s7 d b0 b1 b2 b3 : Nat) : fnS addRowC 60 Try.f28 (bodyOf Try.f28) [numd8 s0 s1 s2 s3 s4 s5 s6 s7, u64 d, numd b0 b1 b2 b3, i64 1] = addRowT 1 s0 s1 s2 s3 s4 s5 s6 s7 d b0 b1 b2 b3 := by kernel_rfl
theorem addRow_ev2 (s0 s1 s2 s3 s4 s5 s6 s7 d b0 b1 b2 b3 : Nat) : fnS addRowC 60 Try.f28 (bodyOf Try.f28) [numd8 s0 s1 s2 s3 s4 s5 s6 s7, u64 d, numd b0 b1 b2 b3, i64 2] = addRowT 2 s0 s1 s2 s3 s4 s5 s6 s7 d b0 b1 b2 b3 := by kernel_rfl
theorem addRow_ev3 (s0 s1 s2 s3 s4 s5 s6 s7 d b0 b1 b2 b3 : Nat) : fnS addRowC 60 Try.f28 (bodyOf Try.f28) [numd8 s0 s1 s2 s3 s4 s5 s6 s7, u64 d, numd b0 b1 b2 b3, i64 3] = addRowT 3 s0 s1 s2 s3 s4 s5 s6 s7 d b0 b1 b2 b3 := by kernel_rfl
theorem addRow_sum : Sum Try.prog 28 addRowF := by
  refine sum_of addRowOk Try.func28 (by kernel_rfl) (by kernel_rfl) rfl (fuel := 60) fun args v h _ => ?_
  unfold addRowF at h
  split at h
  · rename_i s d b k
    simp only [Option.some.injEq, Prod.mk.injEq, addRowP, Bool.and_eq_true, decide_eq_true_eq, Nat.ble_eq] at h
    obtain ⟨⟨⟨⟨⟨⟨h1, h2⟩, h3⟩, h4⟩, h5⟩, h6⟩, rfl⟩ := h
    obtain ⟨K, rfl⟩ := Int.eq_ofNat_of_zero_le h6
    rw [Int.toNat_natCast] at h4 h5 ⊢
    obtain ⟨s0, s1, s2, s3, s4, s5, s6, s7, k0, k1, k2, k3, k4, k5, k6, k7, rfl⟩ := isNums8_some h1
    obtain ⟨x, hx, rfl⟩ := isU64_some h2
    obtain ⟨Y, hY, rfl⟩ := isNum_some h3
    obtain ⟨y0, y1, y2, y3, m0, m1, m2, m3, e3, e4⟩ := digits hY
    refine ⟨by show 4 ≤ Try.f28.ntmps; decide +kernel, ?_, rfl⟩
    have key := addRowT_eq h4 k0 k1 k2 k3 k4 k5 k6 k7 hx m0 m1 m2 m3 h5
    rw [unnum_lt hY, e4, unnum_numd8, intN_u64, e3, ← key]
    match K, h4 with
    | 0, _ => exact addRow_ev0 _ _ _ _ _ _ _ _ _ _ _ _ _
    | 1, _ => exact addRow_ev1 _ _ _ _ _ _ _ _ _ _ _ _ _
    | 2, _ => exact addRow_ev2 _ _ _ _ _ _ _ _ _ _ _ _ _
    | 3, _ => exact addRow_ev3 _ _ _ _ _ _ _ _ _ _ _ _ _
  · simp at h

def mulNt : List Nat := [2, 3, 4, 5, 6, 8]
def mulNi : List Nat := [0, 1, 2, 3, 4]
def mulSt (x0 x1 x2 x3 y0 y1 y2 y3 X : Nat) (k : Int) : St :=
  ⟨[(2, ptr 0), (3, ptr 1), (4, ptr 2), (5, ptr 3), (6, ptr 4), (8, i64 k)],
   [(0, ⟨[u64 x0, u64 x1, u64 x2, u64 x3], 24, true⟩), (1, ⟨[u64 y0, u64 y1, u64 y2, u64 y3], 24, true⟩), (2, ⟨[u64 0, u64 0, u64 0, u64 0], 24, true⟩), (3, ⟨[u64 0, u64 0, u64 0, u64 0], 24, true⟩),
    (4, ⟨[u64 (dig X 0), u64 (dig X 1), u64 (dig X 2), u64 (dig X 3), u64 (dig X 4), u64 (dig X 5), u64 (dig X 6), u64 (dig X 7)], 47, true⟩)], 6⟩

def MulC0 : Cfg := ⟨tab, [(28, addRowF)], 27, []⟩
theorem MulOk0 : CfgOk Try.prog MulC0 (bodyOf Try.f13) := ⟨mixed, tabOk, sums_cons addRow_sum sums_nil, noL⟩
theorem mulB_at : codeAt [1, 1, 0, 1, 0] (bodyOf Try.f13) = some (.loop (loopAt [1, 1, 0, 1, 0] (bodyOf Try.f13))) := by kernel_rfl
theorem mul_r0 (x0 x1 x2 x3 y0 y1 y2 y3 X : Nat) : roundS MulC0 40 [1, 1, 0, 1, 0, 0] (loopAt [1, 1, 0, 1, 0] (bodyOf Try.f13)) mulNt mulNi 6 mulNt mulNi 6 (mulSt x0 x1 x2 x3 y0 y1 y2 y3 X 0) =
    req (rowQ (num8 X) x0 (numd y0 y1 y2 y3) 0) (some (.normal, mulSt x0 x1 x2 x3 y0 y1 y2 y3 (rowN (num8 X) x0 (numd y0 y1 y2 y3) 0) 1)) := by kernel_rfl
theorem mul_r1 (x0 x1 x2 x3 y0 y1 y2 y3 X : Nat) : roundS MulC0 40 [1, 1, 0, 1, 0, 0] (loopAt [1, 1, 0, 1, 0] (bodyOf Try.f13)) mulNt mulNi 6 mulNt mulNi 6 (mulSt x0 x1 x2 x3 y0 y1 y2 y3 X 1) =
    req (rowQ (num8 X) x1 (numd y0 y1 y2 y3) 1) (some (.normal, mulSt x0 x1 x2 x3 y0 y1 y2 y3 (rowN (num8 X) x1 (numd y0 y1 y2 y3) 1) 2)) := by kernel_rfl
theorem mul_r2 (x0 x1 x2 x3 y0 y1 y2 y3 X : Nat) : roundS MulC0 40 [1, 1, 0, 1, 0, 0] (loopAt [1, 1, 0, 1, 0] (bodyOf Try.f13)) mulNt mulNi 6 mulNt mulNi 6 (mulSt x0 x1 x2 x3 y0 y1 y2 y3 X 2) =
    req (rowQ (num8 X) x2 (numd y0 y1 y2 y3) 2) (some (.normal, mulSt x0 x1 x2 x3 y0 y1 y2 y3 (rowN (num8 X) x2 (numd y0 y1 y2 y3) 2) 3)) := by kernel_rfl
theorem mul_r3 (x0 x1 x2 x3 y0 y1 y2 y3 X : Nat) : roundS MulC0 40 [1, 1, 0, 1, 0, 0] (loopAt [1, 1, 0, 1, 0] (bodyOf Try.f13)) mulNt mulNi 6 mulNt mulNi 6 (mulSt x0 x1 x2 x3 y0 y1 y2 y3 X 3) =
    req (rowQ (num8 X) x3 (numd y0 y1 y2 y3) 3) (some (.normal, mulSt x0 x1 x2 x3 y0 y1 y2 y3 (rowN (num8 X) x3 (numd y0 y1 y2 y3) 3) 4)) := by kernel_rfl
theorem mul_r4 (x0 x1 x2 x3 y0 y1 y2 y3 X : Nat) : roundS MulC0 40 [1, 1, 0, 1, 0, 0] (loopAt [1, 1, 0, 1, 0] (bodyOf Try.f13)) mulNt mulNi 6 mulNt mulNi 6 (mulSt x0 x1 x2 x3 y0 y1 y2 y3 X 4) =
    some (.exit 0, mulSt x0 x1 x2 x3 y0 y1 y2 y3 X 4) := by kernel_rfl

def MulC (x0 x1 x2 x3 y0 y1 y2 y3 X : Nat) : Cfg := ⟨tab, [(28, addRowF)], 27, [([1, 1, 0, 1, 0], atSt mulNt mulNi 6 (mulSt x0 x1 x2 x3 y0 y1 y2 y3 0 0) (.exit 0) (mulSt x0 x1 x2 x3 y0 y1 y2 y3 X 4))]⟩
theorem Mul_ev (x0 x1 x2 x3 y0 y1 y2 y3 X : Nat) : fnS (MulC x0 x1 x2 x3 y0 y1 y2 y3 X) 60 Try.f13 (bodyOf Try.f13) [numd x0 x1 x2 x3, numd y0 y1 y2 y3] =
    req (stEq (mulSt x0 x1 x2 x3 y0 y1 y2 y3 0 0) (mulSt x0 x1 x2 x3 y0 y1 y2 y3 0 0)) (some (.tuple #[numd (dig X 0) (dig X 1) (dig X 2) (dig X 3), numd (dig X 4) (dig X 5) (dig X 6) (dig X 7)])) := by kernel_rfl
theorem Mul_sum : Sum Try.prog 13 MulF := by
  intro args v h
  obtain ⟨X, Y, hX, hY, rfl, rfl⟩ := arg2 (f := fun x y => mulV (unnum x) (unnum y)) h
  obtain ⟨x0, x1, x2, x3, h0, h1, h2, h3, e1, e2⟩ := digits hX
  obtain ⟨y0, y1, y2, y3, k0, k1, k2, k3, e3, e4⟩ := digits hY
  obtain ⟨X1, X2, X3, X4, q0, n0, q1, n1, q2, n2, q3, n3, hv⟩ := mul_rows h0 h1 h2 h3 hY
  rw [e4] at q0 n0 q1 n1 q2 n2 q3 n3
  have hL : LoopOk Try.prog 27 (loopAt [1, 1, 0, 1, 0] (bodyOf Try.f13)) (atSt mulNt mulNi 6 (mulSt x0 x1 x2 x3 y0 y1 y2 y3 0 0) (.exit 0) (mulSt x0 x1 x2 x3 y0 y1 y2 y3 X4 4)) := by
    refine atSt_ok fun w0 R a w hrel => ?_
    refine loop_rounds (C := MulC0) MulOk0 mulB_at (m := 40) (nt := mulNt) (ni := mulNi) (et := mulNt) (ei := mulNi) (nx := 6) (ex := 6) (e := .exit 0) (sf := mulSt x0 x1 x2 x3 y0 y1 y2 y3 X4 4)
      (fun k => match k with | 0 => mulSt x0 x1 x2 x3 y0 y1 y2 y3 0 0 | 1 => mulSt x0 x1 x2 x3 y0 y1 y2 y3 X1 1 | 2 => mulSt x0 x1 x2 x3 y0 y1 y2 y3 X2 2 | 3 => mulSt x0 x1 x2 x3 y0 y1 y2 y3 X3 3 | _ => mulSt x0 x1 x2 x3 y0 y1 y2 y3 X4 4) 4 (by intro h; cases h) ?_ ?_ hrel
    · intro k hk
      match k, hk with
      | 0, _ => exact (mul_r0 x0 x1 x2 x3 y0 y1 y2 y3 0).trans (by rw [req_true q0, n0]; rfl)
      | 1, _ => exact (mul_r1 x0 x1 x2 x3 y0 y1 y2 y3 X1).trans (by rw [req_true q1, n1]; rfl)
      | 2, _ => exact (mul_r2 x0 x1 x2 x3 y0 y1 y2 y3 X2).trans (by rw [req_true q2, n2]; rfl)
      | 3, _ => exact (mul_r3 x0 x1 x2 x3 y0 y1 y2 y3 X3).trans (by rw [req_true q3, n3]; rfl)
    · exact mul_r4 x0 x1 x2 x3 y0 y1 y2 y3 X4
  have hOk : CfgOk Try.prog (MulC x0 x1 x2 x3 y0 y1 y2 y3 X4) (bodyOf Try.f13) := ⟨mixed, tabOk, sums_cons addRow_sum sums_nil, oneL hL⟩
  refine sum_at hOk Try.func13 (by kernel_rfl) (by kernel_rfl) rfl (fuel := 60) (by show 2 ≤ Try.f13.ntmps; decide +kernel) ?_ rfl
  rw [unnum_lt hX, unnum_lt hY, e2, e4, Mul_ev, req_true (stEq_refl rfl), hv, e1]

end Go.Proofs.Ytecicpafamjjeaa
