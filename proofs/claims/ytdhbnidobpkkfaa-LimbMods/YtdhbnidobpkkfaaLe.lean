/-
  The document's own answers, package limb: what the engine says of their texts.
-/
import Derived.Test.YtdhbnidobpkkfaaLd
import Derived.Test.YtdhbnidobpkkfaaM10
namespace Go.Proofs.Ytdhbnidobpkkfaa
open Go.W
open Go.RowKit (Below)

def AddRC : Cfg := ⟨tab, [(26, Add64F)], 28, []⟩
theorem AddROk : CfgOk Try.prog AddRC (bodyOf Try.f10) := ⟨mixed, tabOk, sums_cons Add64_sum sums_nil, noL⟩
theorem AddR_ev (x0 x1 x2 x3 y0 y1 y2 y3 : Nat) : fnS AddRC 60 Try.f10 (bodyOf Try.f10) [numd x0 x1 x2 x3, numd y0 y1 y2 y3] = AddT x0 x1 x2 x3 y0 y1 y2 y3 := by kernel_rfl
theorem AddR_sum : Sum Try.prog 10 AddF := by
  refine sum_of AddROk Try.func10 (by kernel_rfl) (by kernel_rfl) rfl (fuel := 60) fun args v h _ => ?_
  obtain ⟨X, Y, hX, hY, rfl, rfl⟩ := arg2 (f := fun x y => addV (unnum x) (unnum y)) h
  refine ⟨by show 2 ≤ Try.f10.ntmps; decide +kernel, ?_, rfl⟩
  obtain ⟨x0, x1, x2, x3, h0, h1, h2, h3, e1, e2⟩ := digits hX
  obtain ⟨y0, y1, y2, y3, k0, k1, k2, k3, e3, e4⟩ := digits hY
  rw [unnum_lt hX, unnum_lt hY, e2, e4, AddR_ev, AddT_eq h0 h1 h2 h3 k0 k1 k2 k3, e1, e3]

def SubRC : Cfg := ⟨tab, [(27, Sub64F)], 28, []⟩
theorem SubROk : CfgOk Try.prog SubRC (bodyOf Try.f12) := ⟨mixed, tabOk, sums_cons Sub64_sum sums_nil, noL⟩
theorem SubR_ev (x0 x1 x2 x3 y0 y1 y2 y3 : Nat) : fnS SubRC 60 Try.f12 (bodyOf Try.f12) [numd x0 x1 x2 x3, numd y0 y1 y2 y3] = SubT x0 x1 x2 x3 y0 y1 y2 y3 := by kernel_rfl
theorem SubR_sum : Sum Try.prog 12 SubF := by
  refine sum_of SubROk Try.func12 (by kernel_rfl) (by kernel_rfl) rfl (fuel := 60) fun args v h _ => ?_
  obtain ⟨X, Y, hX, hY, rfl, rfl⟩ := arg2 (f := fun x y => subV (unnum x) (unnum y)) h
  refine ⟨by show 2 ≤ Try.f12.ntmps; decide +kernel, ?_, rfl⟩
  obtain ⟨x0, x1, x2, x3, h0, h1, h2, h3, e1, e2⟩ := digits hX
  obtain ⟨y0, y1, y2, y3, k0, k1, k2, k3, e3, e4⟩ := digits hY
  rw [unnum_lt hX, unnum_lt hY, e2, e4, SubR_ev, SubT_eq h0 h1 h2 h3 k0 k1 k2 k3, e1, e3]

def CmpRC : Cfg := ⟨tab, [(12, SubF)], 18, []⟩
theorem CmpROk : CfgOk Try.prog CmpRC (bodyOf Try.f16) := ⟨mixed, tabOk, sums_cons SubR_sum sums_nil, noL⟩
theorem CmpR_ev (A B : Nat) : fnS CmpRC 60 Try.f16 (bodyOf Try.f16) [num A, num B] = CmpRT (num A) (num B) := by kernel_rfl
theorem CmpR_sum : Sum Try.prog 16 CmpF := by
  refine sum_of CmpROk Try.func16 (by kernel_rfl) (by kernel_rfl) rfl (fuel := 60) fun args v h _ => ?_
  obtain ⟨X, Y, hX, hY, rfl, rfl⟩ := arg2 (f := fun x y => i64 (cmpI (unnum x) (unnum y))) h
  refine ⟨by show 2 ≤ Try.f16.ntmps; decide +kernel, ?_, rfl⟩
  rw [unnum_lt hX, unnum_lt hY, CmpR_ev, CmpRT_eq hX hY]

def bitOfR (v : Value) (r : Int) : Option Value :=
  binK tab .shr 22 v (.int .u64 (IntKind.u64.wrap r)) (fun u => binK tab .and 22 u (.int .u64 1) (fun z => intK z (fun _ n => some (i64 (IntKind.i64.wrap n))) none) none) none
def BitRT (a0 a1 a2 a3 : Nat) (i : Int) : Option Value :=
  bif decide (i < 0) then some (i64 0) else bif decide (i > 255) then some (i64 0) else
    bif inR (IntKind.i64.wrap (i.tdiv 64)) 4 then oK ([u64 a0, u64 a1, u64 a2, u64 a3][0 + (IntKind.i64.wrap (i.tdiv 64)).toNat * 1]?) (fun v => bitOfR v (i.tmod 64)) none else none
def BitRC : Cfg := ⟨tab, [], 21, []⟩
theorem BitROk : CfgOk Try.prog BitRC (bodyOf Try.f18) := ⟨mixed, tabOk, sums_nil, noL⟩
theorem BitR_ev (a0 a1 a2 a3 : Nat) (i : Int) : fnS BitRC 60 Try.f18 (bodyOf Try.f18) [numd a0 a1 a2 a3, i64 i] = BitRT a0 a1 a2 a3 i := by kernel_rfl

theorem bitOfR_eq {a r : Nat} (ha : a < 18446744073709551616) (hr : r < 64) : bitOfR (u64 a) (r : Int) = some (i64 ((a / 2 ^ r % 2 : Nat) : Int)) := by
  rw [← u64_bit ha hr]
  have e : IntKind.u64.wrap (r : Int) = (r : Int) := by rw [wrap_u64]; omega
  have hn : decide ((r : Int) < 0) = false := decide_eq_false (by omega)
  unfold bitOfR u64
  rw [e]
  simp only [binK, intK, binI, hn, cond_false, decide_true, cond_true]
  rfl

theorem BitRT_eq {a b c d : Nat} (ha : a < 18446744073709551616) (hb : b < 18446744073709551616) (hc : c < 18446744073709551616) (hd : d < 18446744073709551616) (i : Int) : BitRT a b c d i = some (i64 (bitI (hor a b c d) i)) := by
  unfold BitRT
  by_cases h0 : i < 0
  · rw [decide_eq_true h0, cond_true]
    unfold bitI; rw [if_neg (by omega)]
  · rw [decide_eq_false h0, cond_false]
    by_cases h1 : i > 255
    · rw [decide_eq_true h1, cond_true]
      unfold bitI; rw [if_neg (by omega)]
    · rw [decide_eq_false h1, cond_false]
      obtain ⟨n, rfl⟩ := Int.eq_ofNat_of_zero_le (by omega : 0 ≤ i)
      have e1 : (n : Int).tdiv 64 = ((n / 64 : Nat) : Int) := by rw [Int.tdiv_eq_ediv_of_nonneg (by omega)]; omega
      have e2 : (n : Int).tmod 64 = ((n % 64 : Nat) : Int) := by rw [Int.tmod_eq_emod_of_nonneg (by omega)]; omega
      have hq : n / 64 < 4 := by omega
      have hr : n % 64 < 64 := Nat.mod_lt _ (by decide)
      rw [e1, e2, wrap_i64 (by omega)]
      have hin : inR ((n / 64 : Nat) : Int) 4 = true := by simp only [inR, Bool.and_eq_true, decide_eq_true_eq]; omega
      rw [hin, cond_true, Int.toNat_natCast, bitI_nat (by omega), show n = 64 * (n / 64) + n % 64 from by omega, hor_bit ha hb hc _ _ hr hq]
      rw [← show n = 64 * (n / 64) + n % 64 from by omega, Nat.zero_add, Nat.mul_one]
      generalize n / 64 = q at hq
      match q, hq with
      | 0, _ => exact bitOfR_eq ha hr
      | 1, _ => exact bitOfR_eq hb hr
      | 2, _ => exact bitOfR_eq hc hr
      | 3, _ => exact bitOfR_eq hd hr

theorem BitR_sum : Sum Try.prog 18 BitF := by
  refine sum_of BitROk Try.func18 (by kernel_rfl) (by kernel_rfl) rfl (fuel := 60) fun args v h _ => ?_
  unfold BitF at h
  split at h
  · simp only [Option.some.injEq, Prod.mk.injEq] at h
    obtain ⟨h1, rfl⟩ := h
    obtain ⟨X, hX, rfl⟩ := isNum_some h1
    refine ⟨by show 2 ≤ Try.f18.ntmps; decide +kernel, ?_, rfl⟩
    obtain ⟨x0, x1, x2, x3, h0, h1, h2, h3, e1, e2⟩ := digits hX
    rw [unnum_lt hX, e2, e1]
    exact (BitR_ev _ _ _ _ _).trans (BitRT_eq h0 h1 h2 h3 _)
  · simp at h

end Go.Proofs.Ytdhbnidobpkkfaa
