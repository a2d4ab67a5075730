/-
  Several texts in one.
-/
import Derived.Test.YtafeeiodgfgepaaDoorSa
import Derived.Test.YtafeeiodgfgepaaDoorEc
/-
  Contracts of package field, first part: primes, sums, differences.
-/
namespace Go.Proofs.YtafeeiodgfgepaaDoor
set_option maxRecDepth 100000
open Go.W
open Go.RowKit (Below)
def PrimeC : Cfg := ⟨tab, [], 11, []⟩
theorem PrimeOk : CfgOk Tryd.prog PrimeC (bodyOf Tryd.f9) := ⟨mixed, tabOk, sums_nil, noL⟩
theorem Prime_ev (w : Int) : fnS PrimeC 60 Tryd.f9 (bodyOf Tryd.f9) [i64 w] = PrimeT w := by kernel_rfl
theorem Prime_sum : Sum Tryd.prog 9 PrimeF := by
  refine sum_of PrimeOk Tryd.func9 (by kernel_rfl) (by kernel_rfl) rfl (fuel := 60) fun args v h _ => ?_
  unfold PrimeF at h
  split at h
  · simp only [Option.some.injEq, Prod.mk.injEq, true_and] at h
    subst h
    exact ⟨by show 1 ≤ Tryd.f9.ntmps; decide +kernel, (Prime_ev _).trans (PrimeT_eq _), rfl⟩
  · simp at h
def gapC : Cfg := ⟨tab, [], 7, []⟩
theorem gapOk : CfgOk Tryd.prog gapC (bodyOf Tryd.f34) := ⟨mixed, tabOk, sums_nil, noL⟩
theorem gap_ev (w : Int) : fnS gapC 60 Tryd.f34 (bodyOf Tryd.f34) [i64 w] = gapT w := by kernel_rfl
theorem gap_sum : Sum Tryd.prog 34 GapF := by
  refine sum_of gapOk Tryd.func34 (by kernel_rfl) (by kernel_rfl) rfl (fuel := 60) fun args v h _ => ?_
  unfold GapF at h
  split at h
  · simp only [Option.some.injEq, Prod.mk.injEq, true_and] at h
    subst h
    exact ⟨by show 1 ≤ Tryd.f34.ntmps; decide +kernel, (gap_ev _).trans (gapT_eq _), rfl⟩
  · simp at h
def knownC : Cfg := ⟨tab, [], 9, []⟩
theorem knownOk : CfgOk Tryd.prog knownC (bodyOf Tryd.f32) := ⟨mixed, tabOk, sums_nil, noL⟩
theorem known_ev (w : Int) : fnS knownC 60 Tryd.f32 (bodyOf Tryd.f32) [i64 w] = okT w := by kernel_rfl
theorem known_sum : Sum Tryd.prog 32 okF := by
  refine sum_of knownOk Tryd.func32 (by kernel_rfl) (by kernel_rfl) rfl (fuel := 60) fun args v h _ => ?_
  unfold okF at h
  split at h
  · simp only [Option.some.injEq, Prod.mk.injEq, true_and] at h
    subst h
    exact ⟨by show 1 ≤ Tryd.f32.ntmps; decide +kernel, (known_ev _).trans (okT_eq _), rfl⟩
  · simp at h
def lowerC : Cfg := ⟨tab, [(9, PrimeF), (33, SubF)], 18, []⟩
theorem lowerOk : CfgOk Tryd.prog lowerC (bodyOf Tryd.f35) := ⟨mixed, tabOk, sums_cons Prime_sum (sums_cons Sub_sum sums_nil), noL⟩
theorem lower_ev (w : Int) (A : Nat) : fnS lowerC 60 Tryd.f35 (bodyOf Tryd.f35) [i64 w, num A] = lowT w (num A) := by kernel_rfl
theorem lower_sum : Sum Tryd.prog 35 LowF := by
  refine sum_of lowerOk Tryd.func35 (by kernel_rfl) (by kernel_rfl) rfl (fuel := 60) fun args v h _ => ?_
  unfold LowF at h
  split at h
  · simp only [Option.some.injEq, Prod.mk.injEq, Bool.and_eq_true] at h
    obtain ⟨⟨hw, h1⟩, rfl⟩ := h
    obtain ⟨A, hA, rfl⟩ := isNum_some h1
    exact ⟨by show 2 ≤ Tryd.f35.ntmps; decide +kernel, (lower_ev _ _).trans (by rw [lowT_eq hw hA, unnum_lt hA]), rfl⟩
  · simp at h
def upNt : List Nat := [0, 6, 7, 8]
def upNi : List Nat := [2, 9]
def upSt (w : Int) (s : List Value) (c : Nat) : St :=
  ⟨[(0, i64 w), (6, ptr 2), (7, ptr 9), (8, u64 c)], [(2, ⟨[u64 0, u64 0, u64 0, u64 0], 24, true⟩), (9, ⟨s, 24, true⟩)], 12⟩
noncomputable def upC0 : Cfg := ⟨tab, [(53, AddF), (34, GapF)], 25, []⟩
theorem upOk0 : CfgOk Tryd.prog upC0 (bodyOf Tryd.f54) := ⟨mixed, tabOk, sums_cons Add_sum (sums_cons gap_sum sums_nil), noL⟩
theorem up_at : codeAt [1, 1, 0, 0] (bodyOf Tryd.f54) = some (.loop (loopAt [1, 1, 0, 0] (bodyOf Tryd.f54))) := by kernel_rfl
theorem up_r (w : Int) (T c : Nat) : roundS upC0 60 [1, 1, 0, 0, 0] (loopAt [1, 1, 0, 0] (bodyOf Tryd.f54)) upNt upNi 12 upNt upNi 12 (upSt w (cells4 T) c) =
    upR (num T) (num (hideN (gapN w))) c (fun t d => some (.normal, upSt w (cells4 t) d)) (some (.exit 0, upSt w (cells4 T) c)) := by kernel_rfl
noncomputable def upC (w : Int) (T c L : Nat) : Cfg := ⟨tab, [(53, AddF)], 25, [([1, 1, 0, 0], atSt upNt upNi 12 (upSt w (cells4 T) c) (.exit 0) (upSt w (cells4 L) 0))]⟩
theorem addUp_ev (w : Int) (A B T c L : Nat) : fnS (upC w T c L) 60 Tryd.f54 (bodyOf Tryd.f54) [i64 w, num A, num B] =
    r2 (num A) (num B) (req (stEq (upSt w (cells4 (unnum (num A) + unnum (num B))) ((unnum (num A) + unnum (num B)) / 2 ^ 256)) (upSt w (cells4 T) c)) (some (num L))) := by kernel_rfl
theorem addUp_sum : Sum Tryd.prog 54 AddUpF := by
  intro args v h
  unfold AddUpF at h
  split at h
  · rename_i w a0 b0
    simp only [Option.some.injEq, Prod.mk.injEq, Bool.and_eq_true] at h
    obtain ⟨⟨⟨hw, h1⟩, h2⟩, rfl⟩ := h
    obtain ⟨A, hA, rfl⟩ := isNum_some h1
    obtain ⟨B, hB, rfl⟩ := isNum_some h2
    rw [unnum_lt hA, unnum_lt hB]
    obtain ⟨_, _, hs, _⟩ := primeN_small hw
    rw [← gap_small hw] at hs
    obtain ⟨n, hn, hlt, hne⟩ := up_first hs (show A + B < 2 ^ 256 + 2 ^ 256 by omega)
    have hL : LoopOk Tryd.prog 25 (loopAt [1, 1, 0, 0] (bodyOf Tryd.f54)) (atSt upNt upNi 12 (upSt w (cells4 (A + B)) ((A + B) / 2 ^ 256)) (.exit 0) (upSt w (cells4 (upN (gapN w) (A + B))) 0)) := by
      refine atSt_ok fun w0 R a W hrel => ?_
      refine loop_rounds (R := R) (C := upC0) upOk0 up_at (m := 60) (nt := upNt) (ni := upNi) (et := upNt) (ei := upNi) (nx := 12) (ex := 12) (e := .exit 0) (sf := upSt w (cells4 (upN (gapN w) (A + B))) 0)
        (fun k => upSt w (cells4 (upS (gapN w) (A + B) k)) (upS (gapN w) (A + B) k / 2 ^ 256)) n (by intro h; cases h) ?_ ?_ hrel
      · intro k hk
        refine (up_r _ _ _).trans ?_
        rw [hideN_eq]
        exact (upR_eq hs (hne k hk) (fun t d => some (Exit.normal, upSt w (cells4 t) d)) _)
      · refine (up_r _ _ _).trans ?_
        rw [hn, Nat.div_eq_of_lt hlt, upR_out]
    have hOk : CfgOk Tryd.prog (upC w (A + B) ((A + B) / 2 ^ 256) (upN (gapN w) (A + B))) (bodyOf Tryd.f54) := ⟨mixed, tabOk, sums_cons Add_sum sums_nil, oneL hL⟩
    refine sum_at hOk Tryd.func54 (by kernel_rfl) (by kernel_rfl) rfl (fuel := 60) (by show 3 ≤ Tryd.f54.ntmps; decide +kernel) ?_ rfl
    refine (addUp_ev w A B _ _ _).trans ?_
    rw [r2_num, unnum_lt hA, unnum_lt hB, req_true (stEq_refl rfl)]
  · simp at h
def FAddT (w : Int) (a b : Value) : Option Value :=
  bif !(okW w) then some (num 0) else req (okW w && isNum a && isNum b) <| req (okW w && isNum (num (upN (gapN w) (unnum a + unnum b)))) <| some (num (unnum (num (upN (gapN w) (unnum a + unnum b))) % primeN w))
theorem FAddT_eq {w : Int} {A B : Nat} (hA : A < 2 ^ 256) (hB : B < 2 ^ 256) : FAddT w (num A) (num B) = some (num (faddN w A B)) := by
  unfold FAddT faddN redN
  by_cases h : okW w = true
  · obtain ⟨hp, _, hs, _⟩ := primeN_small h
    rw [← gap_small h] at hs hp
    obtain ⟨_, _, hlt, _⟩ := up_first hs (show A + B < 2 ^ 256 + 2 ^ 256 by omega)
    rw [h, isNum_num, isNum_num, isNum_num, unnum_lt hA, unnum_lt hB, unnum_lt hlt, if_pos rfl, up_mod hp hs (by omega)]; rfl
  · rw [if_neg h, show okW w = false from Bool.eq_false_iff.2 h]; rfl
def FAddC : Cfg := ⟨tab, [(32, okF), (54, AddUpF), (35, LowF)], 17, []⟩
theorem FAddOk : CfgOk Tryd.prog FAddC (bodyOf Tryd.f66) := ⟨mixed, tabOk, sums_cons known_sum (sums_cons addUp_sum (sums_cons lower_sum sums_nil)), noL⟩
theorem FAdd_ev (w : Int) (A B : Nat) : fnS FAddC 60 Tryd.f66 (bodyOf Tryd.f66) [i64 w, num A, num B] = FAddT w (num A) (num B) := by kernel_rfl
theorem FAdd_sum : Sum Tryd.prog 66 FAddF := by
  refine sum_of FAddOk Tryd.func66 (by kernel_rfl) (by kernel_rfl) rfl (fuel := 60) fun args v h _ => ?_
  unfold FAddF at h
  split at h
  · simp only [Option.some.injEq, Prod.mk.injEq, Bool.and_eq_true] at h
    obtain ⟨⟨h1, h2⟩, rfl⟩ := h
    obtain ⟨A, hA, rfl⟩ := isNum_some h1
    obtain ⟨B, hB, rfl⟩ := isNum_some h2
    exact ⟨by show 3 ≤ Tryd.f66.ntmps; decide +kernel, (FAdd_ev _ _ _).trans (by rw [FAddT_eq hA hB, unnum_lt hA, unnum_lt hB]), rfl⟩
  · simp at h
def dnNt : List Nat := [0, 6, 7, 8]
def dnNi : List Nat := [2, 12]
def dnSt (w : Int) (s : List Value) (c : Nat) : St :=
  ⟨[(0, i64 w), (6, ptr 2), (7, ptr 12), (8, u64 c)], [(2, ⟨[u64 0, u64 0, u64 0, u64 0], 24, true⟩), (12, ⟨s, 24, true⟩)], 15⟩
noncomputable def dnC0 : Cfg := ⟨tab, [(33, SubF), (34, GapF)], 31, []⟩
theorem dnOk0 : CfgOk Tryd.prog dnC0 (bodyOf Tryd.f15) := ⟨mixed, tabOk, sums_cons Sub_sum (sums_cons gap_sum sums_nil), noL⟩
theorem dn_at : codeAt [1, 1, 1, 0, 0] (bodyOf Tryd.f15) = some (.loop (loopAt [1, 1, 1, 0, 0] (bodyOf Tryd.f15))) := by kernel_rfl
theorem dn_r (w : Int) (T c : Nat) : roundS dnC0 60 [1, 1, 1, 0, 0, 0] (loopAt [1, 1, 1, 0, 0] (bodyOf Tryd.f15)) dnNt dnNi 15 dnNt dnNi 15 (dnSt w (cells4 T) c) =
    dnR (num T) (num (hideN (gapN w))) c (fun t d => some (.normal, dnSt w (cells4 t) d)) (some (.exit 0, dnSt w (cells4 T) c)) := by kernel_rfl
noncomputable def dnC (w : Int) (T c L : Nat) : Cfg := ⟨tab, [(32, okF), (33, SubF), (35, LowF)], 31, [([1, 1, 1, 0, 0], atSt dnNt dnNi 15 (dnSt w (cells4 T) c) (.exit 0) (dnSt w (cells4 L) 0))]⟩
theorem FSub_ev (w : Int) (A B T c L : Nat) : fnS (dnC w T c L) 60 Tryd.f15 (bodyOf Tryd.f15) [i64 w, num A, num B] =
    bif !(okW w) then some (num 0) else r2 (num A) (num B) (req (stEq (dnSt w (cells4 (2 ^ 256 + unnum (num A) - unnum (num B))) (if unnum (num A) < unnum (num B) then 1 else 0)) (dnSt w (cells4 T) c)) (req (okW w && isNum (num L)) (some (num (unnum (num L) % primeN w))))) := by kernel_rfl
def dnC1 : Cfg := ⟨tab, [(32, okF), (33, SubF)], 31, [([1, 1, 1, 0, 0], fun _ => [])]⟩
theorem FSub_ev0 (w : Int) (A B : Nat) : fnS dnC1 60 Tryd.f15 (bodyOf Tryd.f15) [i64 w, num A, num B] = bif !(okW w) then some (num 0) else r2 (num A) (num B) none := by kernel_rfl
theorem FSub_sum : Sum Tryd.prog 15 FSubF := by
  intro args v h
  unfold FSubF at h
  split at h
  · rename_i w a0 b0
    simp only [Option.some.injEq, Prod.mk.injEq, Bool.and_eq_true] at h
    obtain ⟨⟨h1, h2⟩, rfl⟩ := h
    obtain ⟨A, hA, rfl⟩ := isNum_some h1
    obtain ⟨B, hB, rfl⟩ := isNum_some h2
    rw [unnum_lt hA, unnum_lt hB]
    by_cases hw : okW w = true
    · obtain ⟨hp, _, hs, _⟩ := primeN_small hw
      rw [← gap_small hw] at hs hp
      obtain ⟨n, hn0, hn, hne⟩ := dn_first hs hA hB
      have hlt := dn_lt hs hA hB
      have hL : LoopOk Tryd.prog 31 (loopAt [1, 1, 1, 0, 0] (bodyOf Tryd.f15)) (atSt dnNt dnNi 15 (dnSt w (cells4 (2 ^ 256 + A - B)) (if A < B then 1 else 0)) (.exit 0) (dnSt w (cells4 (dnN (gapN w) A B)) 0)) := by
        refine atSt_ok fun w0 R a W hrel => ?_
        refine loop_rounds (R := R) (C := dnC0) dnOk0 dn_at (m := 60) (nt := dnNt) (ni := dnNi) (et := dnNt) (ei := dnNi) (nx := 15) (ex := 15) (e := .exit 0) (sf := dnSt w (cells4 (dnN (gapN w) A B)) 0)
          (fun k => dnSt w (cells4 (dnS (gapN w) A B k).1) (dnS (gapN w) A B k).2) n (by intro h; cases h) ?_ ?_ hrel
        · intro k hk
          refine (dn_r _ _ _).trans ?_
          rw [hideN_eq]
          exact (dnR_eq hs (hne k hk) (fun t d => some (Exit.normal, dnSt w (cells4 t) d)) _)
        · refine (dn_r _ _ _).trans ?_
          rw [hn0, ← hn, cells4_mod]; rfl
      have hOk : CfgOk Tryd.prog (dnC w (2 ^ 256 + A - B) (if A < B then 1 else 0) (dnN (gapN w) A B)) (bodyOf Tryd.f15) := ⟨mixed, tabOk, sums_cons known_sum (sums_cons Sub_sum (sums_cons lower_sum sums_nil)), oneL hL⟩
      refine sum_at hOk Tryd.func15 (by kernel_rfl) (by kernel_rfl) rfl (fuel := 60) (by show 3 ≤ Tryd.f15.ntmps; decide +kernel) ?_ rfl
      refine (FSub_ev w A B _ _ _).trans ?_
      rw [r2_num, unnum_lt hA, unnum_lt hB, req_true (stEq_refl rfl), hw, isNum_num, req_true (b := true && true) rfl, unnum_lt hlt, dn_mod hp hs hA hB]
      unfold fsubN; rw [redN_ok hw]; rfl
    · have hw' : okW w = false := Bool.eq_false_iff.2 hw
      have hOk : CfgOk Tryd.prog dnC1 (bodyOf Tryd.f15) := ⟨mixed, tabOk, sums_cons known_sum (sums_cons Sub_sum sums_nil), noneL2⟩
      refine sum_at hOk Tryd.func15 (by kernel_rfl) (by kernel_rfl) rfl (fuel := 60) (by show 3 ≤ Tryd.f15.ntmps; decide +kernel) ?_ rfl
      refine (FSub_ev0 w A B).trans ?_
      unfold fsubN; rw [hw', redN_no hw]; rfl
  · simp at h
end Go.Proofs.YtafeeiodgfgepaaDoor
/-
  Contracts of package field, second part: products.
-/
namespace Go.Proofs.YtafeeiodgfgepaaDoor
set_option maxRecDepth 100000
open Go.W
open Go.RowKit (Below)
def fnNt : List Nat := [2, 3, 4]
def fnNi : List Nat := [0, 1, 2]
def fnSt (lo hi : List Value) : St :=
  ⟨[(2, ptr 0), (3, ptr 1), (4, ptr 2)], [(0, ⟨lo, 24, true⟩), (1, ⟨hi, 24, true⟩), (2, ⟨[u64 0, u64 0, u64 0, u64 0], 24, true⟩)], 3⟩
noncomputable def fnC0 : Cfg := ⟨tab, [(34, GapF), (36, MulF), (53, AddF)], 33, []⟩
theorem fnOk0 : CfgOk Tryd.prog fnC0 (bodyOf Tryd.f38) := ⟨mixed, tabOk, sums_cons gap_sum (sums_cons Mul_sum (sums_cons Add_sum sums_nil)), noL⟩
theorem fn_at : codeAt [1, 0, 0] (bodyOf Tryd.f38) = some (.loop (loopAt [1, 0, 0] (bodyOf Tryd.f38))) := by kernel_rfl
theorem fn_r (lo hi : Nat) : roundS fnC0 60 [1, 0, 0, 0] (loopAt [1, 0, 0] (bodyOf Tryd.f38)) fnNt fnNi 3 fnNt fnNi 3 (fnSt (cells4 lo) (cells4 hi)) =
    fdR (num lo) (num hi) (num (hideN (gapN 1))) (fun x y => some (.normal, fnSt (cells4 x) (cells4 y))) (some (.exit 0, fnSt (cells4 lo) (cells4 hi))) := by kernel_rfl
noncomputable def fnC (lo hi L : Nat) : Cfg := ⟨tab, [], 33, [([1, 0, 0], atSt fnNt fnNi 3 (fnSt (cells4 lo) (cells4 hi)) (.exit 0) (fnSt (cells4 L) (cells4 0)))]⟩
theorem foldN_ev (lo hi L : Nat) : fnS (fnC lo hi L) 60 Tryd.f38 (bodyOf Tryd.f38) [num lo, num hi] =
    req (stEq (fnSt (cells4 lo) (cells4 hi)) (fnSt (cells4 lo) (cells4 hi))) (some (num L)) := by kernel_rfl
theorem foldN_sum : Sum Tryd.prog 38 FoldNF := by
  intro args v h
  obtain ⟨lo, hi, hlo, hhi, rfl, rfl⟩ := arg2 (f := fun x y => num (fdGo sN 4 (unnum x) (unnum y))) h
  rw [unnum_lt hlo, unnum_lt hhi]
  have hs : sN < 2 ^ 129 := by decide
  obtain ⟨n, hn, hne⟩ := fdK_first hlo hhi hs
  have hlt := fdK_lt hlo hhi hs
  rw [fdGo_at hlo hhi hn hne]
  have hL : LoopOk Tryd.prog 33 (loopAt [1, 0, 0] (bodyOf Tryd.f38)) (atSt fnNt fnNi 3 (fnSt (cells4 lo) (cells4 hi)) (.exit 0) (fnSt (cells4 (fdK sN lo hi n).1) (cells4 0))) := by
    refine atSt_ok fun w0 R a W hrel => ?_
    refine loop_rounds (R := R) (C := fnC0) fnOk0 fn_at (m := 60) (nt := fnNt) (ni := fnNi) (et := fnNt) (ei := fnNi) (nx := 3) (ex := 3) (e := .exit 0) (sf := fnSt (cells4 (fdK sN lo hi n).1) (cells4 0))
      (fun k => fnSt (cells4 (fdK sN lo hi k).1) (cells4 (fdK sN lo hi k).2)) n (by intro h; cases h) ?_ ?_ hrel
    · intro k hk
      refine (fn_r _ _).trans ?_
      rw [hideN_eq, show gapN 1 = sN from rfl]
      exact (fdR_eq (hlt k).1 (hlt k).2 hs (hne k hk) (fun x y => some (Exit.normal, fnSt x y)) _)
    · refine (fn_r _ _).trans ?_
      rw [hn, fdR_out]
  have hOk : CfgOk Tryd.prog (fnC lo hi (fdK sN lo hi n).1) (bodyOf Tryd.f38) := ⟨mixed, tabOk, sums_nil, oneL hL⟩
  refine sum_at hOk Tryd.func38 (by kernel_rfl) (by kernel_rfl) rfl (fuel := 60) (by show 2 ≤ Tryd.f38.ntmps; decide +kernel) ?_ rfl
  refine (foldN_ev lo hi _).trans ?_
  rw [req_true (stEq_refl rfl)]
noncomputable def fpC : Cfg := ⟨tab, [(52, Mul64H), (53, AddF), (54, AddUpF)], 75, []⟩
theorem fpOk : CfgOk Tryd.prog fpC (bodyOf Tryd.f37) := ⟨mixed, tabOk, sums_cons (Mul64H_eq ▸ Mul64_sum) (sums_cons Add_sum (sums_cons addUp_sum sums_nil)), noL⟩
theorem foldP_ev (L h0 h1 h2 h3 : Nat) : fnS fpC 60 Tryd.f37 (bodyOf Tryd.f37) [num L, numd h0 h1 h2 h3] = fpT (num L) h0 h1 h2 h3 := by kernel_rfl
theorem foldP_sum : Sum Tryd.prog 37 FoldPF := by
  refine sum_of fpOk Tryd.func37 (by kernel_rfl) (by kernel_rfl) rfl (fuel := 60) fun args v h _ => ?_
  obtain ⟨lo, hi, hlo, hhi, rfl, rfl⟩ := arg2 (f := fun x y => num (fpN (unnum x) (unnum y))) h
  refine ⟨by show 2 ≤ Tryd.f37.ntmps; decide +kernel, ?_, rfl⟩
  obtain ⟨y0, y1, y2, y3, k0, k1, k2, k3, e3, e4⟩ := digits hhi
  rw [unnum_lt hlo, unnum_lt hhi, e4]
  refine (foldP_ev _ _ _ _ _).trans ?_
  rw [fpT_eq hlo k0 k1 k2 k3, e3]
def FMulT (w : Int) (a b : Value) : Option Value := r2 a b <|
  bif w == 0 then (r2 (mL a b) (mH a b) <| req (okW w && isNum (num (fpN (unnum (mL a b)) (unnum (mH a b))))) <| some (num (unnum (num (fpN (unnum (mL a b)) (unnum (mH a b)))) % primeN w)))
  else bif w == 1 then (r2 (mL a b) (mH a b) <| req (okW w && isNum (num (fdGo sN 4 (unnum (mL a b)) (unnum (mH a b))))) <| some (num (unnum (num (fdGo sN 4 (unnum (mL a b)) (unnum (mH a b)))) % primeN w)))
  else some (num 0)
theorem FMulT_eq {w : Int} {A B : Nat} (hA : A < 2 ^ 256) (hB : B < 2 ^ 256) : FMulT w (num A) (num B) = some (num (fmulN w A B)) := by
  unfold FMulT fmulN
  have hAB : A * B < 2 ^ 256 * 2 ^ 256 := Nat.mul_lt_mul'' hA hB
  have hH : A * B / 2 ^ 256 < 2 ^ 256 := Nat.div_lt_of_lt_mul hAB
  have hLo : A * B % 2 ^ 256 < 2 ^ 256 := Nat.mod_lt _ (by decide)
  have hz : A * B / 2 ^ 256 * 2 ^ 256 + A * B % 2 ^ 256 = A * B := by rw [Nat.mul_comm]; exact Nat.div_add_mod _ _
  rw [r2_num, mL_num, mH_num hA hB, r2_num, unnum_num, unnum_lt hH]
  by_cases h0 : w = 0
  · subst h0
    obtain ⟨h1, h2⟩ := fp_mod hLo hH
    rw [hz] at h2
    rw [show ((0 : Int) == 0) = true from rfl, cond_true, isNum_num, unnum_lt h1, redN_ok ok0, prime0, h2, req_true (b := okW 0 && true) rfl]
  · rw [show (w == 0) = false from beq_eq_false_iff_ne.2 h0]
    by_cases h1 : w = 1
    · subst h1
      obtain ⟨h1, h2⟩ := fdGo_mod hLo hH
      rw [hz] at h2
      rw [show ((1 : Int) == 1) = true from rfl, cond_false, cond_true, r2_num, isNum_num, unnum_lt h1, redN_ok (w := 1) rfl, show primeN 1 = pN from rfl, h2, req_true (b := okW 1 && true) rfl]
    · rw [show (w == 1) = false from beq_eq_false_iff_ne.2 h1, redN_no (by rw [okW_iff]; omega), cond_false, cond_false]
def FMulC : Cfg := ⟨tab, [(36, MulF), (37, FoldPF), (38, FoldNF), (35, LowF)], 31, []⟩
theorem FMulOk : CfgOk Tryd.prog FMulC (bodyOf Tryd.f16) := ⟨mixed, tabOk, sums_cons Mul_sum (sums_cons foldP_sum (sums_cons foldN_sum (sums_cons lower_sum sums_nil))), noL⟩
theorem FMul_ev (w : Int) (A B : Nat) : fnS FMulC 60 Tryd.f16 (bodyOf Tryd.f16) [i64 w, num A, num B] = FMulT w (num A) (num B) := by kernel_rfl
theorem FMul_sum : Sum Tryd.prog 16 FMulF := by
  refine sum_of FMulOk Tryd.func16 (by kernel_rfl) (by kernel_rfl) rfl (fuel := 60) fun args v h _ => ?_
  unfold FMulF at h
  split at h
  · simp only [Option.some.injEq, Prod.mk.injEq, Bool.and_eq_true] at h
    obtain ⟨⟨h1, h2⟩, rfl⟩ := h
    obtain ⟨A, hA, rfl⟩ := isNum_some h1
    obtain ⟨B, hB, rfl⟩ := isNum_some h2
    exact ⟨by show 3 ≤ Tryd.f16.ntmps; decide +kernel, (FMul_ev _ _ _).trans (by rw [FMulT_eq hA hB, unnum_lt hA, unnum_lt hB]), rfl⟩
  · simp at h
end Go.Proofs.YtafeeiodgfgepaaDoor
/-
  Contracts of package field, third part: powers, inverses, roots, reading.
-/
namespace Go.Proofs.YtafeeiodgfgepaaDoor
set_option maxRecDepth 100000
open Go.W
open Go.RowKit (Below)
def pwNt : List Nat := [0, 4, 5, 6, 7, 8]
def pwNi : List Nat := [0, 1, 2, 7]
def pwSt (w : Int) (A E O : Nat) (i : Int) : St :=
  ⟨[(0, i64 w), (4, ptr 0), (5, ptr 1), (6, ptr 2), (7, ptr 7), (8, i64 i)], [(0, ⟨cells4 A, 24, true⟩), (1, ⟨cells4 E, 24, true⟩), (2, ⟨[u64 0, u64 0, u64 0, u64 0], 24, true⟩), (7, ⟨cells4 O, 24, true⟩)], 13⟩
def pwC0 : Cfg := ⟨tab, [(16, FMulF), (26, BitF)], 34, []⟩
theorem pwOk0 : CfgOk Tryd.prog pwC0 (bodyOf Tryd.f67) := ⟨mixed, tabOk, sums_cons FMul_sum (sums_cons Bit_sum sums_nil), noL⟩
theorem pw_at : codeAt [1, 1, 1, 0, 1, 0] (bodyOf Tryd.f67) = some (.loop (loopAt [1, 1, 1, 0, 1, 0] (bodyOf Tryd.f67))) := by kernel_rfl
theorem pw_r (w : Int) (A E O : Nat) (i : Int) : roundS pwC0 60 [1, 1, 1, 0, 1, 0, 0] (loopAt [1, 1, 1, 0, 1, 0] (bodyOf Tryd.f67)) pwNt pwNi 13 pwNt pwNi 13 (pwSt w A E O i) =
    bif decide (i ≥ 0) then powR w (num A) (num E) (num O) i (fun o => some (.normal, pwSt w A E o (IntKind.i64.wrap (i - 1)))) else some (.exit 0, pwSt w A E O i) := by kernel_rfl
noncomputable def pwC (w : Int) (A E O : Nat) (i : Int) : Cfg := ⟨tab, [(32, okF), (39, LenF)], 34, [([1, 1, 1, 0, 1, 0], atSt pwNt pwNi 13 (pwSt w A E 1 i) (.exit 0) (pwSt w A E O (-1)))]⟩
theorem Pow_ev (w : Int) (A E O : Nat) (i : Int) : fnS (pwC w A E O i) 60 Tryd.f67 (bodyOf Tryd.f67) [i64 w, num A, num E] =
    bif !(okW w) then some (num 0) else req (isNum (num E)) (req (stEq (pwSt w A E 1 (IntKind.i64.wrap (((bitLen (unnum (num E)) : Nat) : Int) - 1))) (pwSt w A E 1 i)) (some (num O))) := by kernel_rfl
def pwC1 : Cfg := ⟨tab, [(32, okF), (39, LenF)], 34, [([1, 1, 1, 0, 1, 0], fun _ => [])]⟩
theorem Pow_ev0 (w : Int) (A E : Nat) : fnS pwC1 60 Tryd.f67 (bodyOf Tryd.f67) [i64 w, num A, num E] = bif !(okW w) then some (num 0) else req (isNum (num E)) none := by kernel_rfl
theorem Pow_sum : Sum Tryd.prog 67 PowF := by
  intro args v h
  unfold PowF at h
  split at h
  · rename_i w a0 e0
    simp only [Option.some.injEq, Prod.mk.injEq, Bool.and_eq_true] at h
    obtain ⟨⟨h1, h2⟩, rfl⟩ := h
    obtain ⟨A, hA, rfl⟩ := isNum_some h1
    obtain ⟨E, hE, rfl⟩ := isNum_some h2
    rw [unnum_lt hA, unnum_lt hE]
    by_cases hw : okW w = true
    · obtain ⟨_, hp, _, hp2⟩ := primeN_small hw
      have hl : bitLen E ≤ 256 := bitLen_lt hE
      have hE2 : E < 2 ^ bitLen E := (bitLen_spec E).1
      have hL : LoopOk Tryd.prog 34 (loopAt [1, 1, 1, 0, 1, 0] (bodyOf Tryd.f67)) (atSt pwNt pwNi 13 (pwSt w A E 1 ((bitLen E : Int) - 1)) (.exit 0) (pwSt w A E (pwM A E (primeN w) 256) (-1))) := by
        refine atSt_ok fun w0 R a W hrel => ?_
        refine loop_rounds (R := R) (C := pwC0) pwOk0 pw_at (m := 60) (nt := pwNt) (ni := pwNi) (et := pwNt) (ei := pwNi) (nx := 13) (ex := 13) (e := .exit 0) (sf := pwSt w A E (pwM A E (primeN w) 256) (-1))
          (fun k => pwSt w A E (pwM A E (primeN w) (256 - bitLen E + k)) ((bitLen E : Int) - 1 - (k : Int))) (bitLen E) (by intro h; cases h) ?_ ?_ ?_
        · intro k hk
          refine (pw_r _ _ _ _ _).trans ?_
          have e : (bitLen E : Int) - 1 - (k : Int) = 255 - ((256 - bitLen E + k : Nat) : Int) := by omega
          rw [decide_eq_true (by omega), cond_true, e, powR_eq hw hA hE (by omega), wrap_i64 (by omega)]
          congr 3
          omega
        · refine (pw_r _ _ _ _ _).trans ?_
          have e : (bitLen E : Int) - 1 - ((bitLen E : Nat) : Int) = -1 := by omega
          rw [e, show 256 - bitLen E + bitLen E = 256 from by omega]; rfl
        · have : pwM A E (primeN w) (256 - bitLen E + 0) = 1 := by
            unfold pwM
            rw [show 256 - (256 - bitLen E + 0) = bitLen E from by omega, Nat.div_eq_of_lt hE2, Nat.pow_zero, Nat.mod_eq_of_lt (by omega)]
          rw [this, show (bitLen E : Int) - 1 - ((0 : Nat) : Int) = (bitLen E : Int) - 1 from by omega]; exact hrel
      have hOk : CfgOk Tryd.prog (pwC w A E (pwM A E (primeN w) 256) ((bitLen E : Int) - 1)) (bodyOf Tryd.f67) := ⟨mixed, tabOk, sums_cons known_sum (sums_cons Len_sum sums_nil), oneL hL⟩
      refine sum_at hOk Tryd.func67 (by kernel_rfl) (by kernel_rfl) rfl (fuel := 60) (by show 3 ≤ Tryd.f67.ntmps; decide +kernel) ?_ rfl
      refine (Pow_ev w A E _ _).trans ?_
      rw [isNum_num, req_true rfl, unnum_lt hE, wrap_i64 (by omega), req_true (stEq_refl rfl), pwM_last, hw, powN_ok hw hE]; rfl
    · have hw' : okW w = false := Bool.eq_false_iff.2 hw
      have hOk : CfgOk Tryd.prog pwC1 (bodyOf Tryd.f67) := ⟨mixed, tabOk, sums_cons known_sum (sums_cons Len_sum sums_nil), noneL2⟩
      refine sum_at hOk Tryd.func67 (by kernel_rfl) (by kernel_rfl) rfl (fuel := 60) (by show 3 ≤ Tryd.f67.ntmps; decide +kernel) ?_ rfl
      refine (Pow_ev0 w A E).trans ?_
      rw [hw', powN_no hw]; rfl
  · simp at h
def InvC : Cfg := ⟨tab, [(9, PrimeF), (33, SubF), (67, PowF)], 18, []⟩
theorem InvOk : CfgOk Tryd.prog InvC (bodyOf Tryd.f61) := ⟨mixed, tabOk, sums_cons Prime_sum (sums_cons Sub_sum (sums_cons Pow_sum sums_nil)), noL⟩
theorem Inv_ev (w : Int) (A : Nat) : fnS InvC 60 Tryd.f61 (bodyOf Tryd.f61) [i64 w, num A] = InvRT w (num A) (num 2) := by kernel_rfl
theorem Inv_sum : Sum Tryd.prog 61 InvF := by
  refine sum_of InvOk Tryd.func61 (by kernel_rfl) (by kernel_rfl) rfl (fuel := 60) fun args v h _ => ?_
  unfold InvF at h
  split at h
  · simp only [Option.some.injEq, Prod.mk.injEq] at h
    obtain ⟨h1, rfl⟩ := h
    obtain ⟨A, hA, rfl⟩ := isNum_some h1
    exact ⟨by show 2 ≤ Tryd.f61.ntmps; decide +kernel, (Inv_ev _ _).trans (by rw [InvRT_eq hA, unnum_lt hA]), rfl⟩
  · simp at h
end Go.Proofs.YtafeeiodgfgepaaDoor
