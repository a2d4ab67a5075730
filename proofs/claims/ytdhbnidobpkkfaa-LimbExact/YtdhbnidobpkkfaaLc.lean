/-
  Contracts of package limb, third part: bits, and what is left.
-/
import Derived.Test.YtdhbnidobpkkfaaLb
import Derived.Test.YtdhbnidobpkkfaaM5
namespace Go.Proofs.Ytdhbnidobpkkfaa
open Go.W
open Go.RowKit (Below)

def bitOf (v : Value) (r : Int) : Option Value :=
  binK tab .shr 22 v (.int .i64 r) (fun u => binK tab .and 22 u (.int .u64 1) (fun z => intK z (fun _ n => some (i64 (IntKind.i64.wrap n))) none) none) none
def BitT (a0 a1 a2 a3 : Nat) (i : Int) : Option Value :=
  bif decide (i < 0) then some (i64 0) else bif decide (i > 255) then some (i64 0) else
    bif inR (IntKind.i64.wrap (i.tdiv 64)) 4 then oK ([u64 a0, u64 a1, u64 a2, u64 a3][0 + (IntKind.i64.wrap (i.tdiv 64)).toNat * 1]?) (fun v => bitOf v (i.tmod 64)) none else none
def BitC : Cfg := ⟨tab, [], 20, []⟩
theorem BitOk : CfgOk Try.prog BitC (bodyOf Try.f17) := ⟨mixed, tabOk, sums_nil, noL⟩
theorem Bit_ev (a0 a1 a2 a3 : Nat) (i : Int) : fnS BitC 60 Try.f17 (bodyOf Try.f17) [numd a0 a1 a2 a3, i64 i] = BitT a0 a1 a2 a3 i := by kernel_rfl

theorem bitOf_eq {a r : Nat} (ha : a < 18446744073709551616) (hr : r < 64) : bitOf (u64 a) (r : Int) = some (i64 ((a / 2 ^ r % 2 : Nat) : Int)) := by
  rw [← u64_bit ha hr]
  have hn : decide ((r : Int) < 0) = false := decide_eq_false (by omega)
  unfold bitOf u64
  simp only [binK, intK, binI, hn, cond_false, decide_true, cond_true]
  rfl

theorem BitT_eq {a b c d : Nat} (ha : a < 18446744073709551616) (hb : b < 18446744073709551616) (hc : c < 18446744073709551616) (hd : d < 18446744073709551616) (i : Int) : BitT a b c d i = some (i64 (bitI (hor a b c d) i)) := by
  unfold BitT
  by_cases h0 : i < 0
  · rw [decide_eq_true h0, cond_true]
    unfold bitI; rw [if_neg (by omega)]
  · rw [decide_eq_false h0, cond_false]
    by_cases h1 : i > 255
    · rw [decide_eq_true h1, cond_true]
      unfold bitI; rw [if_neg (by omega)]
    · rw [decide_eq_false h1, cond_false]
      obtain ⟨n, rfl⟩ := Int.eq_ofNat_of_zero_le (by omega : 0 ≤ i)
      have e1 : (n : Int).tdiv 64 = ((n / 64 : Nat) : Int) := by rw [Int.tdiv_eq_ediv_of_nonneg (by omega)]; omega
      have e2 : (n : Int).tmod 64 = ((n % 64 : Nat) : Int) := by rw [Int.tmod_eq_emod_of_nonneg (by omega)]; omega
      have hq : n / 64 < 4 := by omega
      have hr : n % 64 < 64 := Nat.mod_lt _ (by decide)
      rw [e1, e2, wrap_i64 (by omega)]
      have hin : inR ((n / 64 : Nat) : Int) 4 = true := by simp only [inR, Bool.and_eq_true, decide_eq_true_eq]; omega
      rw [hin, cond_true, Int.toNat_natCast, bitI_nat (by omega), show n = 64 * (n / 64) + n % 64 from by omega, hor_bit ha hb hc _ _ hr hq]
      rw [← show n = 64 * (n / 64) + n % 64 from by omega, Nat.zero_add, Nat.mul_one]
      generalize n / 64 = q at hq
      match q, hq with
      | 0, _ => exact bitOf_eq ha hr
      | 1, _ => exact bitOf_eq hb hr
      | 2, _ => exact bitOf_eq hc hr
      | 3, _ => exact bitOf_eq hd hr

theorem Bit_sum : Sum Try.prog 17 BitF := by
  refine sum_of BitOk Try.func17 (by kernel_rfl) (by kernel_rfl) rfl (fuel := 60) fun args v h _ => ?_
  unfold BitF at h
  split at h
  · simp only [Option.some.injEq, Prod.mk.injEq] at h
    obtain ⟨h1, rfl⟩ := h
    obtain ⟨X, hX, rfl⟩ := isNum_some h1
    refine ⟨by show 2 ≤ Try.f17.ntmps; decide +kernel, ?_, rfl⟩
    obtain ⟨x0, x1, x2, x3, h0, h1, h2, h3, e1, e2⟩ := digits hX
    rw [unnum_lt hX, e2, e1]
    exact (Bit_ev _ _ _ _ _).trans (BitT_eq h0 h1 h2 h3 _)
  · simp at h

def takeBitC : Cfg := ⟨tab, [(9, AddF), (11, SubF)], 36, []⟩
theorem takeBitOk : CfgOk Try.prog takeBitC (bodyOf Try.f33) := ⟨mixed, tabOk, sums_cons Add_sum (sums_cons Sub_sum sums_nil), noL⟩
theorem takeBit_ev (l0 l1 l2 l3 : Nat) (b : Int) (m0 m1 m2 m3 : Nat) : fnS takeBitC 60 Try.f33 (bodyOf Try.f33) [numd l0 l1 l2 l3, .int .u64 b, numd m0 m1 m2 m3] =
    takeBitT (numd l0 l1 l2 l3) b (numd m0 m1 m2 m3) := by kernel_rfl
theorem takeBit_sum : Sum Try.prog 33 takeBitF := by
  refine sum_of takeBitOk Try.func33 (by kernel_rfl) (by kernel_rfl) rfl (fuel := 60) fun args v h _ => ?_
  unfold takeBitF at h
  split at h
  · simp only [Option.some.injEq, Prod.mk.injEq] at h
    obtain ⟨h1, rfl⟩ := h
    obtain ⟨L, b, M, rfl, rfl, rfl, hb, hL, hM⟩ := tbP_some h1
    refine ⟨by show 3 ≤ Try.f33.ntmps; decide +kernel, ?_, rfl⟩
    have hL' : L < 2 ^ 256 := by omega
    rw [unnum_lt hL', unnum_lt hM, Int.toNat_natCast]
    obtain ⟨x0, x1, x2, x3, h0, h1, h2, h3, e1, e2⟩ := digits hL'
    obtain ⟨y0, y1, y2, y3, k0, k1, k2, k3, e3, e4⟩ := digits hM
    rw [← takeBitT_eq hL hM hb, e2, e4]
    exact takeBit_ev _ _ _ _ _ _ _ _ _
  · simp at h

def tbsNt : List Nat := [3, 4, 5, 6, 7]
def tbsNi : List Nat := [0, 1, 2, 3]
def tbsSt (L a0 a1 a2 a3 m0 m1 m2 m3 : Nat) (i : Int) : St :=
  ⟨[(3, ptr 0), (4, ptr 1), (5, ptr 2), (6, ptr 3), (7, i64 i)],
   [(0, ⟨[u64 (dig L 0), u64 (dig L 1), u64 (dig L 2), u64 (dig L 3)], 24, true⟩), (1, ⟨[u64 a0, u64 a1, u64 a2, u64 a3], 24, true⟩), (2, ⟨[u64 m0, u64 m1, u64 m2, u64 m3], 24, true⟩),
    (3, ⟨[u64 0, u64 0, u64 0, u64 0], 24, true⟩)], 5⟩
def tbsC0 : Cfg := ⟨tab, [(17, BitF), (33, takeBitF)], 20, []⟩
theorem tbsOk0 : CfgOk Try.prog tbsC0 (bodyOf Try.f31) := ⟨mixed, tabOk, sums_cons Bit_sum (sums_cons takeBit_sum sums_nil), noL⟩
theorem tbs_at : codeAt [1, 0, 1, 0] (bodyOf Try.f31) = some (.loop (loopAt [1, 0, 1, 0] (bodyOf Try.f31))) := by kernel_rfl
theorem tbs_r (L a0 a1 a2 a3 m0 m1 m2 m3 : Nat) (i : Int) : roundS tbsC0 40 [1, 0, 1, 0, 0] (loopAt [1, 0, 1, 0] (bodyOf Try.f31)) tbsNt tbsNi 5 tbsNt tbsNi 5 (tbsSt L a0 a1 a2 a3 m0 m1 m2 m3 i) =
    bif decide (i ≥ 0) then (req (isNum (numd a0 a1 a2 a3)) <| req (tbP (num L) (IntKind.u64.wrap (bitI (unnum (numd a0 a1 a2 a3)) i)) (numd m0 m1 m2 m3)) <|
      some (.normal, tbsSt (tbN (unnum (num L)) (IntKind.u64.wrap (bitI (unnum (numd a0 a1 a2 a3)) i)).toNat (unnum (numd m0 m1 m2 m3))) a0 a1 a2 a3 m0 m1 m2 m3 (IntKind.i64.wrap (i - 1))))
    else some (.exit 0, tbsSt L a0 a1 a2 a3 m0 m1 m2 m3 i) := by kernel_rfl

def tbsC (L a0 a1 a2 a3 m0 m1 m2 m3 L' : Nat) : Cfg := ⟨tab, [], 20, [([1, 0, 1, 0], atSt tbsNt tbsNi 5 (tbsSt L a0 a1 a2 a3 m0 m1 m2 m3 255) (.exit 0) (tbsSt L' a0 a1 a2 a3 m0 m1 m2 m3 (-1)))]⟩
theorem takeBits_ev (L a0 a1 a2 a3 m0 m1 m2 m3 L' : Nat) : fnS (tbsC L a0 a1 a2 a3 m0 m1 m2 m3 L') 60 Try.f31 (bodyOf Try.f31) [num L, numd a0 a1 a2 a3, numd m0 m1 m2 m3] =
    req (stEq (tbsSt L a0 a1 a2 a3 m0 m1 m2 m3 255) (tbsSt L a0 a1 a2 a3 m0 m1 m2 m3 255)) (some (num L')) := by kernel_rfl

theorem takeBits_sum : Sum Try.prog 31 takeBitsF := by
  intro args v h
  unfold takeBitsF at h
  split at h
  · simp only [Option.some.injEq, Prod.mk.injEq, tbsP, Bool.and_eq_true] at h
    obtain ⟨⟨⟨⟨h1, h2⟩, h3⟩, h4⟩, rfl⟩ := h
    obtain ⟨L, hL, rfl⟩ := isNum_some h1
    obtain ⟨A, hA, rfl⟩ := isNum_some h2
    obtain ⟨M, hM, rfl⟩ := isNum_some h3
    rw [unnum_lt hL, unnum_lt hM, Nat.blt_eq] at h4
    rw [unnum_lt hL, unnum_lt hA, unnum_lt hM]
    obtain ⟨a0, a1, a2, a3, p0, p1, p2, p3, e1, e2⟩ := digits hA
    obtain ⟨m0, m1, m2, m3, q0, q1, q2, q3, e3, e4⟩ := digits hM
    have hL : LoopOk Try.prog 20 (loopAt [1, 0, 1, 0] (bodyOf Try.f31)) (atSt tbsNt tbsNi 5 (tbsSt L a0 a1 a2 a3 m0 m1 m2 m3 255) (.exit 0) (tbsSt (tbK L A M 256) a0 a1 a2 a3 m0 m1 m2 m3 (-1))) := by
      refine atSt_ok fun w0 R a w hrel => ?_
      refine loop_rounds (R := R) (C := tbsC0) tbsOk0 tbs_at (m := 40) (nt := tbsNt) (ni := tbsNi) (et := tbsNt) (ei := tbsNi) (nx := 5) (ex := 5) (e := .exit 0) (sf := tbsSt (tbK L A M 256) a0 a1 a2 a3 m0 m1 m2 m3 (-1))
        (fun k => tbsSt (tbK L A M k) a0 a1 a2 a3 m0 m1 m2 m3 (255 - (k : Int))) 256 (by intro h; cases h) ?_ ?_ ?_
      · intro k hk
        refine (tbs_r _ _ _ _ _ _ _ _ _ _).trans ?_
        have hd : decide (255 - (k : Int) ≥ 0) = true := decide_eq_true (by omega)
        rw [hd, cond_true, ← e2, ← e4, isNum_num, req_true rfl, unnum_lt hA, unnum_lt hM]
        have hi : (255 - (k : Int)) = ((255 - k : Nat) : Int) := by omega
        rw [hi, bit_u64 (by omega), req_true (tbP_true (bitN_le _ _) (tbK_lt (by omega)) hM), Int.toNat_natCast, unnum_lt (Nat.lt_trans (tbK_lt (by omega : 0 < M)) hM), tbK_succ hk, wrap_i64 (by omega)]
        rw [show (((255 - k : Nat) : Int) - 1) = 255 - ((k + 1 : Nat) : Int) from by omega]
      · refine (tbs_r _ _ _ _ _ _ _ _ _ _).trans ?_
        have hd : decide (255 - ((256 : Nat) : Int) ≥ 0) = false := by decide
        rw [hd]; rfl
      · have : tbsSt (tbK L A M 0) a0 a1 a2 a3 m0 m1 m2 m3 (255 - ((0 : Nat) : Int)) = tbsSt L a0 a1 a2 a3 m0 m1 m2 m3 255 := by rw [tbK_zero hA h4]; rfl
        rw [this]; exact hrel
    have hOk : CfgOk Try.prog (tbsC L a0 a1 a2 a3 m0 m1 m2 m3 (tbK L A M 256)) (bodyOf Try.f31) := ⟨mixed, tabOk, sums_nil, oneL hL⟩
    refine sum_at hOk Try.func31 (by kernel_rfl) (by kernel_rfl) rfl (fuel := 60) (by show 3 ≤ Try.f31.ntmps; decide +kernel) ?_ rfl
    rw [e2, e4, takeBits_ev, req_true (stEq_refl rfl), tbK_last]
  · simp at h

def ModC : Cfg := ⟨tab, [(15, CmpF), (31, takeBitsF)], 26, []⟩
theorem ModOk : CfgOk Try.prog ModC (bodyOf Try.f22) := ⟨mixed, tabOk, sums_cons Cmp_sum (sums_cons takeBits_sum sums_nil), noL⟩
theorem Mod_ev (h0 h1 h2 h3 l0 l1 l2 l3 m0 m1 m2 m3 : Nat) : fnS ModC 60 Try.f22 (bodyOf Try.f22) [numd h0 h1 h2 h3, numd l0 l1 l2 l3, numd m0 m1 m2 m3] =
    ModT (numd h0 h1 h2 h3) (numd l0 l1 l2 l3) (numd m0 m1 m2 m3) (eqL [u64 m0, u64 m1, u64 m2, u64 m3] [u64 0, u64 0, u64 0, u64 0]) := by kernel_rfl
theorem Mod_sum : Sum Try.prog 22 ModF := by
  refine sum_of ModOk Try.func22 (by kernel_rfl) (by kernel_rfl) rfl (fuel := 60) fun args v h _ => ?_
  obtain ⟨H, L, M, hH, hL, hM, rfl, rfl⟩ := arg3 (f := fun x y z => modV (unnum x) (unnum y) (unnum z)) h
  refine ⟨by show 3 ≤ Try.f22.ntmps; decide +kernel, ?_, rfl⟩
  rw [unnum_lt hH, unnum_lt hL, unnum_lt hM, ← ModT_eq hH hL hM]
  have e0 := eq_num M 0
  obtain ⟨h0, h1, h2, h3, _, _, _, _, _, e2⟩ := digits hH
  obtain ⟨l0, l1, l2, l3, _, _, _, _, _, e4⟩ := digits hL
  obtain ⟨m0, m1, m2, m3, _, _, _, _, _, e6⟩ := digits hM
  rw [← e0, e2, e4, e6]
  exact Mod_ev _ _ _ _ _ _ _ _ _ _ _ _

def wakesC : Cfg := ⟨tab, [(13, MulF), (22, ModF)], 35, []⟩
theorem wakesOk : CfgOk Try.prog wakesC (bodyOf Try.f21) := ⟨mixed, tabOk, sums_cons Mul_sum (sums_cons Mod_sum sums_nil), noL⟩
theorem wakes_ev : fnS wakesC 60 Try.f21 (bodyOf Try.f21) [] = some (.bool true) := by kernel_rfl
def wakesF : List Value → Option (Bool × Value)
  | [] => some (true, .bool true)
  | _ => none
theorem wakes_sum : Sum Try.prog 21 wakesF := by
  refine sum_of wakesOk Try.func21 (by kernel_rfl) (by kernel_rfl) rfl (fuel := 60) fun args v h _ => ?_
  unfold wakesF at h
  split at h
  · simp only [Option.some.injEq, Prod.mk.injEq, true_and] at h
    subst h
    exact ⟨Nat.zero_le _, wakes_ev, rfl⟩
  · simp at h

end Go.Proofs.Ytdhbnidobpkkfaa
