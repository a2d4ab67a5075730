/-
  Several texts in one.
-/
import Derived.Test.YtafeeiodgfgepaaGreatDoorSa
import Derived.Test.YtafeeiodgfgepaaGreatDoorEb
import Derived.Test.YtafeeiodgfgepaaGreatDoorEc
/-
  The document's own answers, package limb: what the engine says of their texts.
-/
namespace Go.Proofs.YtafeeiodgfgepaaGreatDoor
set_option maxRecDepth 100000
open Go.W
open Go.RowKit (Below)
def AddRC : Cfg := ⟨tab, [(103, Add64F)], 28, []⟩
theorem AddROk : CfgOk Tryz.prog AddRC (bodyOf Tryz.f78) := ⟨mixed, tabOk, sums_cons Add64_sum sums_nil, noL⟩
theorem AddR_ev (x0 x1 x2 x3 y0 y1 y2 y3 : Nat) : fnS AddRC 60 Tryz.f78 (bodyOf Tryz.f78) [numd x0 x1 x2 x3, numd y0 y1 y2 y3] = AddT x0 x1 x2 x3 y0 y1 y2 y3 := by kernel_rfl
theorem AddR_sum : Sum Tryz.prog 78 AddF := by
  refine sum_of AddROk Tryz.func78 (by kernel_rfl) (by kernel_rfl) rfl (fuel := 60) fun args v h _ => ?_
  obtain ⟨X, Y, hX, hY, rfl, rfl⟩ := arg2 (f := fun x y => addV (unnum x) (unnum y)) h
  refine ⟨by show 2 ≤ Tryz.f78.ntmps; decide +kernel, ?_, rfl⟩
  obtain ⟨x0, x1, x2, x3, h0, h1, h2, h3, e1, e2⟩ := digits hX
  obtain ⟨y0, y1, y2, y3, k0, k1, k2, k3, e3, e4⟩ := digits hY
  rw [unnum_lt hX, unnum_lt hY, e2, e4, AddR_ev, AddT_eq h0 h1 h2 h3 k0 k1 k2 k3, e1, e3]
def SubRC : Cfg := ⟨tab, [(70, Sub64F)], 28, []⟩
theorem SubROk : CfgOk Tryz.prog SubRC (bodyOf Tryz.f45) := ⟨mixed, tabOk, sums_cons Sub64_sum sums_nil, noL⟩
theorem SubR_ev (x0 x1 x2 x3 y0 y1 y2 y3 : Nat) : fnS SubRC 60 Tryz.f45 (bodyOf Tryz.f45) [numd x0 x1 x2 x3, numd y0 y1 y2 y3] = SubT x0 x1 x2 x3 y0 y1 y2 y3 := by kernel_rfl
theorem SubR_sum : Sum Tryz.prog 45 SubF := by
  refine sum_of SubROk Tryz.func45 (by kernel_rfl) (by kernel_rfl) rfl (fuel := 60) fun args v h _ => ?_
  obtain ⟨X, Y, hX, hY, rfl, rfl⟩ := arg2 (f := fun x y => subV (unnum x) (unnum y)) h
  refine ⟨by show 2 ≤ Tryz.f45.ntmps; decide +kernel, ?_, rfl⟩
  obtain ⟨x0, x1, x2, x3, h0, h1, h2, h3, e1, e2⟩ := digits hX
  obtain ⟨y0, y1, y2, y3, k0, k1, k2, k3, e3, e4⟩ := digits hY
  rw [unnum_lt hX, unnum_lt hY, e2, e4, SubR_ev, SubT_eq h0 h1 h2 h3 k0 k1 k2 k3, e1, e3]
def CmpRC : Cfg := ⟨tab, [(45, SubF)], 18, []⟩
theorem CmpROk : CfgOk Tryz.prog CmpRC (bodyOf Tryz.f17) := ⟨mixed, tabOk, sums_cons SubR_sum sums_nil, noL⟩
theorem CmpR_ev (A B : Nat) : fnS CmpRC 60 Tryz.f17 (bodyOf Tryz.f17) [num A, num B] = CmpRT (num A) (num B) := by kernel_rfl
theorem CmpR_sum : Sum Tryz.prog 17 CmpF := by
  refine sum_of CmpROk Tryz.func17 (by kernel_rfl) (by kernel_rfl) rfl (fuel := 60) fun args v h _ => ?_
  obtain ⟨X, Y, hX, hY, rfl, rfl⟩ := arg2 (f := fun x y => i64 (cmpI (unnum x) (unnum y))) h
  refine ⟨by show 2 ≤ Tryz.f17.ntmps; decide +kernel, ?_, rfl⟩
  rw [unnum_lt hX, unnum_lt hY, CmpR_ev, CmpRT_eq hX hY]
def bitOfR (v : Value) (r : Int) : Option Value :=
  binK tab .shr 22 v (.int .u64 (IntKind.u64.wrap r)) (fun u => binK tab .and 22 u (.int .u64 1) (fun z => intK z (fun _ n => some (i64 (IntKind.i64.wrap n))) none) none) none
def BitRT (a0 a1 a2 a3 : Nat) (i : Int) : Option Value :=
  bif decide (i < 0) then some (i64 0) else bif decide (i > 255) then some (i64 0) else
    bif inR (IntKind.i64.wrap (i.tdiv 64)) 4 then oK ([u64 a0, u64 a1, u64 a2, u64 a3][0 + (IntKind.i64.wrap (i.tdiv 64)).toNat * 1]?) (fun v => bitOfR v (i.tmod 64)) none else none
def BitRC : Cfg := ⟨tab, [], 21, []⟩
theorem BitROk : CfgOk Tryz.prog BitRC (bodyOf Tryz.f90) := ⟨mixed, tabOk, sums_nil, noL⟩
theorem BitR_ev (a0 a1 a2 a3 : Nat) (i : Int) : fnS BitRC 60 Tryz.f90 (bodyOf Tryz.f90) [numd a0 a1 a2 a3, i64 i] = BitRT a0 a1 a2 a3 i := by kernel_rfl
theorem bitOfR_eq {a r : Nat} (ha : a < 18446744073709551616) (hr : r < 64) : bitOfR (u64 a) (r : Int) = some (i64 ((a / 2 ^ r % 2 : Nat) : Int)) := by
  rw [← u64_bit ha hr]
  have e : IntKind.u64.wrap (r : Int) = (r : Int) := by rw [wrap_u64]; omega
  have hn : decide ((r : Int) < 0) = false := decide_eq_false (by omega)
  unfold bitOfR u64
  rw [e]
  simp only [binK, intK, binI, hn, cond_false, decide_true, cond_true]
  rfl
theorem BitRT_eq {a b c d : Nat} (ha : a < 18446744073709551616) (hb : b < 18446744073709551616) (hc : c < 18446744073709551616) (hd : d < 18446744073709551616) (i : Int) : BitRT a b c d i = some (i64 (bitI (hor a b c d) i)) := by
  unfold BitRT
  by_cases h0 : i < 0
  · rw [decide_eq_true h0, cond_true]
    unfold bitI; rw [if_neg (by omega)]
  · rw [decide_eq_false h0, cond_false]
    by_cases h1 : i > 255
    · rw [decide_eq_true h1, cond_true]
      unfold bitI; rw [if_neg (by omega)]
    · rw [decide_eq_false h1, cond_false]
      obtain ⟨n, rfl⟩ := Int.eq_ofNat_of_zero_le (by omega : 0 ≤ i)
      have e1 : (n : Int).tdiv 64 = ((n / 64 : Nat) : Int) := by rw [Int.tdiv_eq_ediv_of_nonneg (by omega)]; omega
      have e2 : (n : Int).tmod 64 = ((n % 64 : Nat) : Int) := by rw [Int.tmod_eq_emod_of_nonneg (by omega)]; omega
      have hq : n / 64 < 4 := by omega
      have hr : n % 64 < 64 := Nat.mod_lt _ (by decide)
      rw [e1, e2, wrap_i64 (by omega)]
      have hin : inR ((n / 64 : Nat) : Int) 4 = true := by simp only [inR, Bool.and_eq_true, decide_eq_true_eq]; omega
      rw [hin, cond_true, Int.toNat_natCast, bitI_nat (by omega), show n = 64 * (n / 64) + n % 64 from by omega, hor_bit ha hb hc _ _ hr hq]
      rw [← show n = 64 * (n / 64) + n % 64 from by omega, Nat.zero_add, Nat.mul_one]
      generalize n / 64 = q at hq
      match q, hq with
      | 0, _ => exact bitOfR_eq ha hr
      | 1, _ => exact bitOfR_eq hb hr
      | 2, _ => exact bitOfR_eq hc hr
      | 3, _ => exact bitOfR_eq hd hr
theorem BitR_sum : Sum Tryz.prog 90 BitF := by
  refine sum_of BitROk Tryz.func90 (by kernel_rfl) (by kernel_rfl) rfl (fuel := 60) fun args v h _ => ?_
  unfold BitF at h
  split at h
  · simp only [Option.some.injEq, Prod.mk.injEq] at h
    obtain ⟨h1, rfl⟩ := h
    obtain ⟨X, hX, rfl⟩ := isNum_some h1
    refine ⟨by show 2 ≤ Tryz.f90.ntmps; decide +kernel, ?_, rfl⟩
    obtain ⟨x0, x1, x2, x3, h0, h1, h2, h3, e1, e2⟩ := digits hX
    rw [unnum_lt hX, e2, e1]
    exact (BitR_ev _ _ _ _ _).trans (BitRT_eq h0 h1 h2 h3 _)
  · simp at h
end Go.Proofs.YtafeeiodgfgepaaGreatDoor
/-
  The document's own answers, package limb: lengths.
-/
namespace Go.Proofs.YtafeeiodgfgepaaGreatDoor
set_option maxRecDepth 100000
open Go.W
open Go.RowKit (Below)
end Go.Proofs.YtafeeiodgfgepaaGreatDoor
/-
  The document's own answers, package limb: products, and what is left.
-/
namespace Go.Proofs.YtafeeiodgfgepaaGreatDoor
set_option maxRecDepth 100000
open Go.W
open Go.RowKit (Below)
def rmNt : List Nat := [2, 3, 4, 5, 6, 7]
def rmNi : List Nat := [0, 1, 2, 3, 4]
def rmSt (x0 x1 x2 x3 y0 y1 y2 y3 : Nat) (o : List Value) (k : Int) : St :=
  ⟨[(2, ptr 0), (3, ptr 1), (4, ptr 2), (5, ptr 3), (6, ptr 4), (7, i64 k)],
   [(0, ⟨[u64 x0, u64 x1, u64 x2, u64 x3], 24, true⟩), (1, ⟨[u64 y0, u64 y1, u64 y2, u64 y3], 24, true⟩), (2, ⟨[u64 0, u64 0, u64 0, u64 0], 24, true⟩), (3, ⟨[u64 0, u64 0, u64 0, u64 0], 24, true⟩),
    (4, ⟨o, 111, true⟩)], 6⟩
def rmC0 : Cfg := ⟨tab, [(72, Mul64F), (103, Add64F)], 81, []⟩
theorem rmOk0 : CfgOk Tryz.prog rmC0 (bodyOf Tryz.f76) := ⟨mixed, tabOk, sums_cons Mul64_sum (sums_cons Add64_sum sums_nil), noL⟩
theorem rm_at : codeAt [1, 1, 0, 1, 0] (bodyOf Tryz.f76) = some (.loop (loopAt [1, 1, 0, 1, 0] (bodyOf Tryz.f76))) := by kernel_rfl
theorem rm_r0 (x0 x1 x2 x3 y0 y1 y2 y3 X : Nat) : roundS rmC0 100 [1, 1, 0, 1, 0, 0] (loopAt [1, 1, 0, 1, 0] (bodyOf Tryz.f76)) rmNt rmNi 6 rmNt rmNi 6 (rmSt x0 x1 x2 x3 y0 y1 y2 y3 (digL X) 0) =
    mrowL 0 X x0 y0 y1 y2 y3 (fun o => some (.normal, rmSt x0 x1 x2 x3 y0 y1 y2 y3 o 1)) := by kernel_rfl
theorem rm_r1 (x0 x1 x2 x3 y0 y1 y2 y3 X : Nat) : roundS rmC0 100 [1, 1, 0, 1, 0, 0] (loopAt [1, 1, 0, 1, 0] (bodyOf Tryz.f76)) rmNt rmNi 6 rmNt rmNi 6 (rmSt x0 x1 x2 x3 y0 y1 y2 y3 (digL X) 1) =
    mrowL 1 X x1 y0 y1 y2 y3 (fun o => some (.normal, rmSt x0 x1 x2 x3 y0 y1 y2 y3 o 2)) := by kernel_rfl
theorem rm_r2 (x0 x1 x2 x3 y0 y1 y2 y3 X : Nat) : roundS rmC0 100 [1, 1, 0, 1, 0, 0] (loopAt [1, 1, 0, 1, 0] (bodyOf Tryz.f76)) rmNt rmNi 6 rmNt rmNi 6 (rmSt x0 x1 x2 x3 y0 y1 y2 y3 (digL X) 2) =
    mrowL 2 X x2 y0 y1 y2 y3 (fun o => some (.normal, rmSt x0 x1 x2 x3 y0 y1 y2 y3 o 3)) := by kernel_rfl
theorem rm_r3 (x0 x1 x2 x3 y0 y1 y2 y3 X : Nat) : roundS rmC0 100 [1, 1, 0, 1, 0, 0] (loopAt [1, 1, 0, 1, 0] (bodyOf Tryz.f76)) rmNt rmNi 6 rmNt rmNi 6 (rmSt x0 x1 x2 x3 y0 y1 y2 y3 (digL X) 3) =
    mrowL 3 X x3 y0 y1 y2 y3 (fun o => some (.normal, rmSt x0 x1 x2 x3 y0 y1 y2 y3 o 4)) := by kernel_rfl
theorem rm_r4 (x0 x1 x2 x3 y0 y1 y2 y3 X : Nat) : roundS rmC0 100 [1, 1, 0, 1, 0, 0] (loopAt [1, 1, 0, 1, 0] (bodyOf Tryz.f76)) rmNt rmNi 6 rmNt rmNi 6 (rmSt x0 x1 x2 x3 y0 y1 y2 y3 (digL X) 4) =
    some (.exit 0, rmSt x0 x1 x2 x3 y0 y1 y2 y3 (digL X) 4) := by kernel_rfl
noncomputable def rmC (x0 x1 x2 x3 y0 y1 y2 y3 X : Nat) : Cfg := ⟨tab, [], 81, [([1, 1, 0, 1, 0], atSt rmNt rmNi 6 (rmSt x0 x1 x2 x3 y0 y1 y2 y3 (digL 0) 0) (.exit 0) (rmSt x0 x1 x2 x3 y0 y1 y2 y3 (digL X) 4))]⟩
theorem MulR_ev (x0 x1 x2 x3 y0 y1 y2 y3 X : Nat) : fnS (rmC x0 x1 x2 x3 y0 y1 y2 y3 X) 60 Tryz.f76 (bodyOf Tryz.f76) [numd x0 x1 x2 x3, numd y0 y1 y2 y3] =
    req (stEq (rmSt x0 x1 x2 x3 y0 y1 y2 y3 (digL 0) 0) (rmSt x0 x1 x2 x3 y0 y1 y2 y3 (digL 0) 0)) (some (.tuple #[numd (dig X 0) (dig X 1) (dig X 2) (dig X 3), numd (dig X 4) (dig X 5) (dig X 6) (dig X 7)])) := by kernel_rfl
theorem MulR_sum : Sum Tryz.prog 76 MulF := by
  intro args v h
  obtain ⟨X, Y, hX, hY, rfl, rfl⟩ := arg2 (f := fun x y => mulV (unnum x) (unnum y)) h
  obtain ⟨x0, x1, x2, x3, h0, h1, h2, h3, e1, e2⟩ := digits hX
  obtain ⟨y0, y1, y2, y3, k0, k1, k2, k3, e3, e4⟩ := digits hY
  obtain ⟨X1, X2, X3, X4, z0, z1, z2, z3, n0, n1, n2, n3, hv⟩ := mul_mrows h0 h1 h2 h3 hY
  rw [e3] at n0 n1 n2 n3
  have hL : LoopOk Tryz.prog 81 (loopAt [1, 1, 0, 1, 0] (bodyOf Tryz.f76)) (atSt rmNt rmNi 6 (rmSt x0 x1 x2 x3 y0 y1 y2 y3 (digL 0) 0) (.exit 0) (rmSt x0 x1 x2 x3 y0 y1 y2 y3 (digL X4) 4)) := by
    refine atSt_ok fun w0 R a w hrel => ?_
    refine loop_rounds (C := rmC0) rmOk0 rm_at (m := 100) (nt := rmNt) (ni := rmNi) (et := rmNt) (ei := rmNi) (nx := 6) (ex := 6) (e := .exit 0) (sf := rmSt x0 x1 x2 x3 y0 y1 y2 y3 (digL X4) 4)
      (fun k => match k with | 0 => rmSt x0 x1 x2 x3 y0 y1 y2 y3 (digL 0) 0 | 1 => rmSt x0 x1 x2 x3 y0 y1 y2 y3 (digL X1) 1 | 2 => rmSt x0 x1 x2 x3 y0 y1 y2 y3 (digL X2) 2 | 3 => rmSt x0 x1 x2 x3 y0 y1 y2 y3 (digL X3) 3 | _ => rmSt x0 x1 x2 x3 y0 y1 y2 y3 (digL X4) 4) 4 (by intro h; cases h) ?_ ?_ hrel
    · intro k hk
      match k, hk with
      | 0, _ => exact (rm_r0 x0 x1 x2 x3 y0 y1 y2 y3 0).trans (by rw [mrowL_eq (by omega) z0 h0 k0 k1 k2 k3, n0]; rfl)
      | 1, _ => exact (rm_r1 x0 x1 x2 x3 y0 y1 y2 y3 X1).trans (by rw [mrowL_eq (by omega) z1 h1 k0 k1 k2 k3, n1]; rfl)
      | 2, _ => exact (rm_r2 x0 x1 x2 x3 y0 y1 y2 y3 X2).trans (by rw [mrowL_eq (by omega) z2 h2 k0 k1 k2 k3, n2]; rfl)
      | 3, _ => exact (rm_r3 x0 x1 x2 x3 y0 y1 y2 y3 X3).trans (by rw [mrowL_eq (by omega) z3 h3 k0 k1 k2 k3, n3]; rfl)
    · exact rm_r4 x0 x1 x2 x3 y0 y1 y2 y3 X4
  have hOk : CfgOk Tryz.prog (rmC x0 x1 x2 x3 y0 y1 y2 y3 X4) (bodyOf Tryz.f76) := ⟨mixed, tabOk, sums_nil, oneL hL⟩
  refine sum_at hOk Tryz.func76 (by kernel_rfl) (by kernel_rfl) rfl (fuel := 60) (by show 2 ≤ Tryz.f76.ntmps; decide +kernel) ?_ rfl
  rw [unnum_lt hX, unnum_lt hY, e2, e4, MulR_ev, req_true (stEq_refl rfl), hv, e1]
end Go.Proofs.YtafeeiodgfgepaaGreatDoor
/-
  The document's own answers, package field: what the engine says of their texts.
-/
namespace Go.Proofs.YtafeeiodgfgepaaGreatDoor
set_option maxRecDepth 100000
open Go.W
open Go.RowKit (Below)
def smallC : Cfg := ⟨tab, [], 7, []⟩
theorem smallOk : CfgOk Tryz.prog smallC (bodyOf Tryz.f46) := ⟨mixed, tabOk, sums_nil, noL⟩
theorem small_ev (w : Int) : fnS smallC 60 Tryz.f46 (bodyOf Tryz.f46) [i64 w] = smallT w := by kernel_rfl
theorem small_sum : Sum Tryz.prog 46 SmallF := by
  refine sum_of smallOk Tryz.func46 (by kernel_rfl) (by kernel_rfl) rfl (fuel := 60) fun args v h _ => ?_
  unfold SmallF at h
  split at h
  · simp only [Option.some.injEq, Prod.mk.injEq, true_and] at h
    subst h
    exact ⟨by show 1 ≤ Tryz.f46.ntmps; decide +kernel, (small_ev _).trans (smallT_eq _), rfl⟩
  · simp at h
def PrimeRC : Cfg := ⟨tab, [(46, SmallF), (45, SubF)], 20, []⟩
theorem PrimeROk : CfgOk Tryz.prog PrimeRC (bodyOf Tryz.f18) := ⟨mixed, tabOk, sums_cons small_sum (sums_cons SubR_sum sums_nil), noL⟩
theorem PrimeR_ev (w : Int) : fnS PrimeRC 60 Tryz.f18 (bodyOf Tryz.f18) [i64 w] = PrimeRT w := by kernel_rfl
theorem PrimeR_sum : Sum Tryz.prog 18 PrimeF := by
  refine sum_of PrimeROk Tryz.func18 (by kernel_rfl) (by kernel_rfl) rfl (fuel := 60) fun args v h _ => ?_
  unfold PrimeF at h
  split at h
  · simp only [Option.some.injEq, Prod.mk.injEq, true_and] at h
    subst h
    exact ⟨by show 1 ≤ Tryz.f18.ntmps; decide +kernel, (PrimeR_ev _).trans (PrimeRT_eq _), rfl⟩
  · simp at h
def okC : Cfg := ⟨tab, [], 9, []⟩
theorem okOk : CfgOk Tryz.prog okC (bodyOf Tryz.f75) := ⟨mixed, tabOk, sums_nil, noL⟩
theorem ok_ev (w : Int) : fnS okC 60 Tryz.f75 (bodyOf Tryz.f75) [i64 w] = okT w := by kernel_rfl
theorem ok_sum : Sum Tryz.prog 75 okF := by
  refine sum_of okOk Tryz.func75 (by kernel_rfl) (by kernel_rfl) rfl (fuel := 60) fun args v h _ => ?_
  unfold okF at h
  split at h
  · simp only [Option.some.injEq, Prod.mk.injEq, true_and] at h
    subst h
    exact ⟨by show 1 ≤ Tryz.f75.ntmps; decide +kernel, (ok_ev _).trans (okT_eq _), rfl⟩
  · simp at h
def fdNt : List Nat := [0, 4, 5, 6]
def fdNi : List Nat := [0, 1, 2]
def fdSt (w : Int) (lo hi : List Value) : St :=
  ⟨[(0, i64 w), (4, ptr 0), (5, ptr 1), (6, ptr 2)], [(0, ⟨lo, 24, true⟩), (1, ⟨hi, 24, true⟩), (2, ⟨[u64 0, u64 0, u64 0, u64 0], 24, true⟩)], 3⟩
def fdC0 : Cfg := ⟨tab, [(46, SmallF), (76, MulF), (78, AddF)], 48, []⟩
theorem fdOk0 : CfgOk Tryz.prog fdC0 (bodyOf Tryz.f77) := ⟨mixed, tabOk, sums_cons small_sum (sums_cons MulR_sum (sums_cons AddR_sum sums_nil)), noL⟩
theorem fd_at : codeAt [1, 0, 0] (bodyOf Tryz.f77) = some (.loop (loopAt [1, 0, 0] (bodyOf Tryz.f77))) := by kernel_rfl
theorem fd_r (w : Int) (lo hi : Nat) : roundS fdC0 60 [1, 0, 0, 0] (loopAt [1, 0, 0] (bodyOf Tryz.f77)) fdNt fdNi 3 fdNt fdNi 3 (fdSt w (cells4 lo) (cells4 hi)) =
    fdR (num lo) (num hi) (num (smallN w)) (fun x y => some (.normal, fdSt w (cells4 x) (cells4 y))) (some (.exit 0, fdSt w (cells4 lo) (cells4 hi))) := by kernel_rfl
noncomputable def fdC (w : Int) (lo hi L : Nat) : Cfg := ⟨tab, [(18, PrimeF), (17, CmpF), (45, SubF)], 48,
  [([1, 0, 0], atSt fdNt fdNi 3 (fdSt w (cells4 lo) (cells4 hi)) (.exit 0) (fdSt w (cells4 L) (cells4 0)))]⟩
theorem fold_ev (w : Int) (lo hi L : Nat) : fnS (fdC w lo hi L) 60 Tryz.f77 (bodyOf Tryz.f77) [i64 w, num lo, num hi] =
    req (stEq (fdSt w (cells4 lo) (cells4 hi)) (fdSt w (cells4 lo) (cells4 hi))) (foldEnd (num L) (num (primeN w))) := by kernel_rfl
theorem fold_sum : Sum Tryz.prog 77 FoldF := by
  intro args v h
  unfold FoldF at h
  split at h
  · rename_i w lo0 hi0
    simp only [Option.some.injEq, Prod.mk.injEq, Bool.and_eq_true] at h
    obtain ⟨⟨⟨hw, h1⟩, h2⟩, rfl⟩ := h
    obtain ⟨lo, hlo, rfl⟩ := isNum_some h1
    obtain ⟨hi, hhi, rfl⟩ := isNum_some h2
    rw [unnum_lt hlo, unnum_lt hhi]
    obtain ⟨hp, hp2, hs, _⟩ := primeN_small hw
    obtain ⟨n, hn, hne⟩ := fdK_first hlo hhi hs
    have hlt := fdK_lt hlo hhi hs
    have hL : LoopOk Tryz.prog 48 (loopAt [1, 0, 0] (bodyOf Tryz.f77)) (atSt fdNt fdNi 3 (fdSt w (cells4 lo) (cells4 hi)) (.exit 0) (fdSt w (cells4 (fdK (smallN w) lo hi n).1) (cells4 0))) := by
      refine atSt_ok fun w0 R a W hrel => ?_
      refine loop_rounds (R := R) (C := fdC0) fdOk0 fd_at (m := 60) (nt := fdNt) (ni := fdNi) (et := fdNt) (ei := fdNi) (nx := 3) (ex := 3) (e := .exit 0) (sf := fdSt w (cells4 (fdK (smallN w) lo hi n).1) (cells4 0))
        (fun k => fdSt w (cells4 (fdK (smallN w) lo hi k).1) (cells4 (fdK (smallN w) lo hi k).2)) n (by intro h; cases h) ?_ ?_ hrel
      · intro k hk
        exact (fd_r _ _ _).trans (fdR_eq (hlt k).1 (hlt k).2 hs (hne k hk) (fun x y => some (Exit.normal, fdSt w x y)) _)
      · refine (fd_r _ _ _).trans ?_
        rw [hn, fdR_out]
    have hOk : CfgOk Tryz.prog (fdC w lo hi (fdK (smallN w) lo hi n).1) (bodyOf Tryz.f77) := ⟨mixed, tabOk, sums_cons PrimeR_sum (sums_cons CmpR_sum (sums_cons SubR_sum sums_nil)), oneL hL⟩
    refine sum_at hOk Tryz.func77 (by kernel_rfl) (by kernel_rfl) rfl (fuel := 60) (by show 3 ≤ Tryz.f77.ntmps; decide +kernel) ?_ rfl
    refine (fold_ev w lo hi _).trans ?_
    rw [req_true (stEq_refl rfl), foldEnd_eq (hlt n).1 hp2, fold_last hp hlo hhi hs hn]
    rfl
  · simp at h
def RedRC : Cfg := ⟨tab, [(75, okF), (77, FoldF)], 13, []⟩
theorem RedROk : CfgOk Tryz.prog RedRC (bodyOf Tryz.f79) := ⟨mixed, tabOk, sums_cons ok_sum (sums_cons fold_sum sums_nil), noL⟩
theorem RedR_ev (w : Int) (A : Nat) : fnS RedRC 60 Tryz.f79 (bodyOf Tryz.f79) [i64 w, num A] = RedRT w (num A) := by kernel_rfl
theorem RedR_sum : Sum Tryz.prog 79 RedF := by
  refine sum_of RedROk Tryz.func79 (by kernel_rfl) (by kernel_rfl) rfl (fuel := 60) fun args v h _ => ?_
  unfold RedF at h
  split at h
  · simp only [Option.some.injEq, Prod.mk.injEq] at h
    obtain ⟨h1, rfl⟩ := h
    obtain ⟨A, hA, rfl⟩ := isNum_some h1
    exact ⟨by show 2 ≤ Tryz.f79.ntmps; decide +kernel, (RedR_ev _ _).trans (by rw [RedRT_eq hA, unnum_lt hA]), rfl⟩
  · simp at h
def FAddRC : Cfg := ⟨tab, [(75, okF), (77, FoldF), (79, RedF), (78, AddF)], 28, []⟩
theorem FAddROk : CfgOk Tryz.prog FAddRC (bodyOf Tryz.f48) := ⟨mixed, tabOk, sums_cons ok_sum (sums_cons fold_sum (sums_cons RedR_sum (sums_cons AddR_sum sums_nil))), noL⟩
theorem FAddR_ev (w : Int) (A B : Nat) : fnS FAddRC 60 Tryz.f48 (bodyOf Tryz.f48) [i64 w, num A, num B] = FAddRT w (num A) (num B) := by kernel_rfl
theorem FAddR_sum : Sum Tryz.prog 48 FAddF := by
  refine sum_of FAddROk Tryz.func48 (by kernel_rfl) (by kernel_rfl) rfl (fuel := 60) fun args v h _ => ?_
  unfold FAddF at h
  split at h
  · simp only [Option.some.injEq, Prod.mk.injEq, Bool.and_eq_true] at h
    obtain ⟨⟨h1, h2⟩, rfl⟩ := h
    obtain ⟨A, hA, rfl⟩ := isNum_some h1
    obtain ⟨B, hB, rfl⟩ := isNum_some h2
    exact ⟨by show 3 ≤ Tryz.f48.ntmps; decide +kernel, (FAddR_ev _ _ _).trans (by rw [FAddRT_eq hA hB, unnum_lt hA, unnum_lt hB]), rfl⟩
  · simp at h
def FSubRC : Cfg := ⟨tab, [(75, okF), (18, PrimeF), (79, RedF), (45, SubF), (48, FAddF)], 26, []⟩
theorem FSubROk : CfgOk Tryz.prog FSubRC (bodyOf Tryz.f53) := ⟨mixed, tabOk, sums_cons ok_sum (sums_cons PrimeR_sum (sums_cons RedR_sum (sums_cons SubR_sum (sums_cons FAddR_sum sums_nil)))), noL⟩
theorem FSubR_ev (w : Int) (A B : Nat) : fnS FSubRC 60 Tryz.f53 (bodyOf Tryz.f53) [i64 w, num A, num B] = FSubRT w (num A) (num B) := by kernel_rfl
theorem FSubR_sum : Sum Tryz.prog 53 FSubF := by
  refine sum_of FSubROk Tryz.func53 (by kernel_rfl) (by kernel_rfl) rfl (fuel := 60) fun args v h _ => ?_
  unfold FSubF at h
  split at h
  · simp only [Option.some.injEq, Prod.mk.injEq, Bool.and_eq_true] at h
    obtain ⟨⟨h1, h2⟩, rfl⟩ := h
    obtain ⟨A, hA, rfl⟩ := isNum_some h1
    obtain ⟨B, hB, rfl⟩ := isNum_some h2
    exact ⟨by show 3 ≤ Tryz.f53.ntmps; decide +kernel, (FSubR_ev _ _ _).trans (by rw [FSubRT_eq hA hB, unnum_lt hA, unnum_lt hB]), rfl⟩
  · simp at h
def FMulRC : Cfg := ⟨tab, [(75, okF), (77, FoldF), (76, MulF)], 23, []⟩
theorem FMulROk : CfgOk Tryz.prog FMulRC (bodyOf Tryz.f47) := ⟨mixed, tabOk, sums_cons ok_sum (sums_cons fold_sum (sums_cons MulR_sum sums_nil)), noL⟩
theorem FMulR_ev (w : Int) (A B : Nat) : fnS FMulRC 60 Tryz.f47 (bodyOf Tryz.f47) [i64 w, num A, num B] = FMulRT w (num A) (num B) := by kernel_rfl
theorem FMulR_sum : Sum Tryz.prog 47 FMulF := by
  refine sum_of FMulROk Tryz.func47 (by kernel_rfl) (by kernel_rfl) rfl (fuel := 60) fun args v h _ => ?_
  unfold FMulF at h
  split at h
  · simp only [Option.some.injEq, Prod.mk.injEq, Bool.and_eq_true] at h
    obtain ⟨⟨h1, h2⟩, rfl⟩ := h
    obtain ⟨A, hA, rfl⟩ := isNum_some h1
    obtain ⟨B, hB, rfl⟩ := isNum_some h2
    exact ⟨by show 3 ≤ Tryz.f47.ntmps; decide +kernel, (FMulR_ev _ _ _).trans (by rw [FMulRT_eq hA hB, unnum_lt hA, unnum_lt hB]), rfl⟩
  · simp at h
def poNt : List Nat := [0, 4, 5, 6, 7, 8]
def poNi : List Nat := [0, 1, 2, 7]
def poSt (w : Int) (A E O : Nat) (i : Int) : St :=
  ⟨[(0, i64 w), (4, ptr 0), (5, ptr 1), (6, ptr 2), (7, ptr 7), (8, i64 i)], [(0, ⟨cells4 A, 24, true⟩), (1, ⟨cells4 E, 24, true⟩), (2, ⟨[u64 0, u64 0, u64 0, u64 0], 24, true⟩), (7, ⟨cells4 O, 24, true⟩)], 10⟩
def poC0 : Cfg := ⟨tab, [(47, FMulF), (90, BitF)], 31, []⟩
theorem poOk0 : CfgOk Tryz.prog poC0 (bodyOf Tryz.f108) := ⟨mixed, tabOk, sums_cons FMulR_sum (sums_cons BitR_sum sums_nil), noL⟩
theorem po_at : codeAt [1, 1, 1, 0, 1, 0] (bodyOf Tryz.f108) = some (.loop (loopAt [1, 1, 1, 0, 1, 0] (bodyOf Tryz.f108))) := by kernel_rfl
theorem po_r (w : Int) (A E O : Nat) (i : Int) : roundS poC0 60 [1, 1, 1, 0, 1, 0, 0] (loopAt [1, 1, 1, 0, 1, 0] (bodyOf Tryz.f108)) poNt poNi 10 poNt poNi 10 (poSt w A E O i) =
    bif decide (i ≥ 0) then powR w (num A) (num E) (num O) i (fun o => some (.normal, poSt w A E o (IntKind.i64.wrap (i - 1)))) else some (.exit 0, poSt w A E O i) := by kernel_rfl
noncomputable def poC (w : Int) (A E O : Nat) : Cfg := ⟨tab, [(75, okF)], 31, [([1, 1, 1, 0, 1, 0], atSt poNt poNi 10 (poSt w A E 1 255) (.exit 0) (poSt w A E O (-1)))]⟩
theorem PowR_ev (w : Int) (A E O : Nat) : fnS (poC w A E O) 60 Tryz.f108 (bodyOf Tryz.f108) [i64 w, num A, num E] =
    bif !(okW w) then some (num 0) else req (stEq (poSt w A E 1 255) (poSt w A E 1 255)) (some (num O)) := by kernel_rfl
theorem noneL {C : Code} {n : Nat} {p : List Nat} : ∀ q F, lookP [(p, fun _ : St => ([] : List (Bool × Exit × St)))] q = some F → LoopOk Tryz.prog n (loopAt q C) F := by
  refine oneL ?_
  intro w0 R s a w hrel e' s' hp
  simp [pickL] at hp
def poC1 : Cfg := ⟨tab, [(75, okF)], 31, [([1, 1, 1, 0, 1, 0], fun _ => [])]⟩
theorem PowR_ev0 (w : Int) (A E : Nat) : fnS poC1 60 Tryz.f108 (bodyOf Tryz.f108) [i64 w, num A, num E] = bif !(okW w) then some (num 0) else none := by kernel_rfl
theorem PowR_sum : Sum Tryz.prog 108 PowF := by
  intro args v h
  unfold PowF at h
  split at h
  · rename_i w a0 e0
    simp only [Option.some.injEq, Prod.mk.injEq, Bool.and_eq_true] at h
    obtain ⟨⟨h1, h2⟩, rfl⟩ := h
    obtain ⟨A, hA, rfl⟩ := isNum_some h1
    obtain ⟨E, hE, rfl⟩ := isNum_some h2
    rw [unnum_lt hA, unnum_lt hE]
    by_cases hw : okW w = true
    · obtain ⟨_, hp, _, hp2⟩ := primeN_small hw
      have hL : LoopOk Tryz.prog 31 (loopAt [1, 1, 1, 0, 1, 0] (bodyOf Tryz.f108)) (atSt poNt poNi 10 (poSt w A E 1 255) (.exit 0) (poSt w A E (pwM A E (primeN w) 256) (-1))) := by
        refine atSt_ok fun w0 R a W hrel => ?_
        refine loop_rounds (R := R) (C := poC0) poOk0 po_at (m := 60) (nt := poNt) (ni := poNi) (et := poNt) (ei := poNi) (nx := 10) (ex := 10) (e := .exit 0) (sf := poSt w A E (pwM A E (primeN w) 256) (-1))
          (fun k => poSt w A E (pwM A E (primeN w) k) (255 - (k : Int))) 256 (by intro h; cases h) ?_ ?_ ?_
        · intro k hk
          refine (po_r _ _ _ _ _).trans ?_
          rw [decide_eq_true (by omega), cond_true, powR_eq hw hA hE hk, wrap_i64 (by omega), show (255 - (k : Int) - 1) = 255 - ((k + 1 : Nat) : Int) from by omega]
        · exact (po_r _ _ _ _ _).trans rfl
        · have : poSt w A E (pwM A E (primeN w) 0) (255 - ((0 : Nat) : Int)) = poSt w A E 1 255 := by rw [pwM_zero hE (by omega)]; rfl
          rw [this]; exact hrel
      have hOk : CfgOk Tryz.prog (poC w A E (pwM A E (primeN w) 256)) (bodyOf Tryz.f108) := ⟨mixed, tabOk, sums_cons ok_sum sums_nil, oneL hL⟩
      refine sum_at hOk Tryz.func108 (by kernel_rfl) (by kernel_rfl) rfl (fuel := 60) (by show 3 ≤ Tryz.f108.ntmps; decide +kernel) ?_ rfl
      refine (PowR_ev w A E _).trans ?_
      rw [req_true (stEq_refl rfl), pwM_last, hw]
      rw [powN_ok hw hE]; rfl
    · have hw' : okW w = false := Bool.eq_false_iff.2 hw
      have hOk : CfgOk Tryz.prog poC1 (bodyOf Tryz.f108) := ⟨mixed, tabOk, sums_cons ok_sum sums_nil, noneL⟩
      refine sum_at hOk Tryz.func108 (by kernel_rfl) (by kernel_rfl) rfl (fuel := 60) (by show 3 ≤ Tryz.f108.ntmps; decide +kernel) ?_ rfl
      refine (PowR_ev0 w A E).trans ?_
      rw [hw', powN_no hw]; rfl
  · simp at h
def InvRC : Cfg := ⟨tab, [(18, PrimeF), (45, SubF), (108, PowF)], 18, []⟩
theorem InvROk : CfgOk Tryz.prog InvRC (bodyOf Tryz.f87) := ⟨mixed, tabOk, sums_cons PrimeR_sum (sums_cons SubR_sum (sums_cons PowR_sum sums_nil)), noL⟩
theorem InvR_ev (w : Int) (A : Nat) : fnS InvRC 60 Tryz.f87 (bodyOf Tryz.f87) [i64 w, num A] = InvRT w (num A) (num 2) := by kernel_rfl
theorem InvR_sum : Sum Tryz.prog 87 InvF := by
  refine sum_of InvROk Tryz.func87 (by kernel_rfl) (by kernel_rfl) rfl (fuel := 60) fun args v h _ => ?_
  unfold InvF at h
  split at h
  · simp only [Option.some.injEq, Prod.mk.injEq] at h
    obtain ⟨h1, rfl⟩ := h
    obtain ⟨A, hA, rfl⟩ := isNum_some h1
    exact ⟨by show 2 ≤ Tryz.f87.ntmps; decide +kernel, (InvR_ev _ _).trans (by rw [InvRT_eq hA, unnum_lt hA]), rfl⟩
  · simp at h
end Go.Proofs.YtafeeiodgfgepaaGreatDoor
/-
  The document's own answers, package field: roots; which.
-/
namespace Go.Proofs.YtafeeiodgfgepaaGreatDoor
set_option maxRecDepth 100000
open Go.W
open Go.RowKit (Below)
def OfRC : Cfg := ⟨tab, [], 25, []⟩
theorem OfROk : CfgOk Tryz.prog OfRC (bodyOf Tryz.f85) := ⟨mixed, tabOk, sums_nil, noL⟩
theorem OfR_ev (a0 a1 a2 a3 a4 a5 a6 a7 b0 b1 b2 b3 b4 b5 b6 b7 c0 c1 c2 c3 c4 c5 c6 c7 d0 d1 d2 d3 d4 d5 d6 d7 : Nat) : fnS OfRC 100 Tryz.f85 (bodyOf Tryz.f85) [by32 a0 a1 a2 a3 a4 a5 a6 a7 b0 b1 b2 b3 b4 b5 b6 b7 c0 c1 c2 c3 c4 c5 c6 c7 d0 d1 d2 d3 d4 d5 d6 d7] = OfRT a0 a1 a2 a3 a4 a5 a6 a7 b0 b1 b2 b3 b4 b5 b6 b7 c0 c1 c2 c3 c4 c5 c6 c7 d0 d1 d2 d3 d4 d5 d6 d7 := by kernel_rfl
theorem OfR_sum : Sum Tryz.prog 85 OfF := by
  refine sum_of OfROk Tryz.func85 (by kernel_rfl) (by kernel_rfl) rfl (fuel := 100) fun args v h _ => ?_
  unfold OfF at h
  split at h
  · simp only [Option.some.injEq, Prod.mk.injEq] at h
    obtain ⟨h1, rfl⟩ := h
    obtain ⟨X, hX, rfl, h2⟩ := isB32_some h1
    refine ⟨by show 1 ≤ Tryz.f85.ntmps; decide +kernel, ?_, rfl⟩
    rw [h2]
    obtain ⟨a, b, c, d, k0, k1, k2, k3, e1, e2⟩ := digits hX
    rw [e2, e1, bytesV_by32 k0 k1 k2]
    refine (OfR_ev (d / 2 ^ 56 % 256) (d / 2 ^ 48 % 256) (d / 2 ^ 40 % 256) (d / 2 ^ 32 % 256) (d / 2 ^ 24 % 256) (d / 2 ^ 16 % 256) (d / 2 ^ 8 % 256) (d % 256) (c / 2 ^ 56 % 256) (c / 2 ^ 48 % 256) (c / 2 ^ 40 % 256) (c / 2 ^ 32 % 256) (c / 2 ^ 24 % 256) (c / 2 ^ 16 % 256) (c / 2 ^ 8 % 256) (c % 256) (b / 2 ^ 56 % 256) (b / 2 ^ 48 % 256) (b / 2 ^ 40 % 256) (b / 2 ^ 32 % 256) (b / 2 ^ 24 % 256) (b / 2 ^ 16 % 256) (b / 2 ^ 8 % 256) (b % 256) (a / 2 ^ 56 % 256) (a / 2 ^ 48 % 256) (a / 2 ^ 40 % 256) (a / 2 ^ 32 % 256) (a / 2 ^ 24 % 256) (a / 2 ^ 16 % 256) (a / 2 ^ 8 % 256) (a % 256)).trans ?_
    unfold OfRT
    rw [of8R_dig k0, of8R_dig k1, of8R_dig k2, of8R_dig k3]
    rfl
  · simp at h
end Go.Proofs.YtafeeiodgfgepaaGreatDoor
