/-
  Several texts in one.
-/
import Derived.Test.YtbklbmiddacaiaaSc
import Derived.Test.YtbklbmiddacaiaaSb
import Derived.Test.YtbklbmiddacaiaaEi
import Derived.Test.YtbklbmiddacaiaaSq
/-
  Package poly: one product, sum, difference, inverse.
-/
namespace Go.Proofs.Ytbklbmiddacaiaa
set_option maxRecDepth 100000
open Go.W

def paC : Cfg := ⟨tab, [(31, FAddF)], 8, []⟩
theorem pa_ev (A B : Nat) : fnS paC 60 Try.f37 (bodyOf Try.f37) [num A, num B] = r2 (num A) (num B) (some (num (faddN 1 (unnum (num A)) (unnum (num B))))) := by kernel_rfl
theorem pa_sum : Sum Try.prog 37 PAddF := by
  refine sum_of (C := paC) (c := bodyOf Try.f37) ⟨mixed, tabOk, sums_cons FAdd_sum sums_nil, noL⟩ Try.func37 (by kernel_rfl) (by kernel_rfl) rfl (fuel := 60) fun args v h _ => ?_
  obtain ⟨a, b, ha, hb, rfl, rfl⟩ := arg2 (f := fun x y => num (nAdd (unnum x) (unnum y))) h
  exact ⟨by show 2 ≤ Try.f37.ntmps; decide +kernel, (pa_ev _ _).trans (by rw [r2_num, nAdd_def]), rfl⟩

def psC : Cfg := ⟨tab, [(103, FSubF)], 8, []⟩
theorem ps_ev (A B : Nat) : fnS psC 60 Try.f70 (bodyOf Try.f70) [num A, num B] = r2 (num A) (num B) (some (num (fsubN 1 (unnum (num A)) (unnum (num B))))) := by kernel_rfl
theorem ps_sum : Sum Try.prog 70 PSubF := by
  refine sum_of (C := psC) (c := bodyOf Try.f70) ⟨mixed, tabOk, sums_cons FSub_sum sums_nil, noL⟩ Try.func70 (by kernel_rfl) (by kernel_rfl) rfl (fuel := 60) fun args v h _ => ?_
  obtain ⟨a, b, ha, hb, rfl, rfl⟩ := arg2 (f := fun x y => num (nSub (unnum x) (unnum y))) h
  exact ⟨by show 2 ≤ Try.f70.ntmps; decide +kernel, (ps_ev _ _).trans (by rw [r2_num, nSub_def]), rfl⟩

def pmC : Cfg := ⟨tab, [(67, FMulF)], 8, []⟩
theorem pm_ev (A B : Nat) : fnS pmC 60 Try.f38 (bodyOf Try.f38) [num A, num B] = r2 (num A) (num B) (some (num (fmulN 1 (unnum (num A)) (unnum (num B))))) := by kernel_rfl
theorem pm_sum : Sum Try.prog 38 PMulF := by
  refine sum_of (C := pmC) (c := bodyOf Try.f38) ⟨mixed, tabOk, sums_cons FMul_sum sums_nil, noL⟩ Try.func38 (by kernel_rfl) (by kernel_rfl) rfl (fuel := 60) fun args v h _ => ?_
  obtain ⟨a, b, ha, hb, rfl, rfl⟩ := arg2 (f := fun x y => num (nMul (unnum x) (unnum y))) h
  exact ⟨by show 2 ≤ Try.f38.ntmps; decide +kernel, (pm_ev _ _).trans (by rw [r2_num, nMul_def]), rfl⟩

def piC : Cfg := ⟨tab, [(75, InvF)], 5, []⟩
theorem pi_ev (A : Nat) : fnS piC 60 Try.f49 (bodyOf Try.f49) [num A] = req (isNum (num A)) (some (num (powN 1 (unnum (num A)) (primeN 1 - 2)))) := by kernel_rfl
theorem pi_sum : Sum Try.prog 49 PInvF := by
  refine sum_of (C := piC) (c := bodyOf Try.f49) ⟨mixed, tabOk, sums_cons Inv_sum sums_nil, noL⟩ Try.func49 (by kernel_rfl) (by kernel_rfl) rfl (fuel := 60) fun args v h _ => ?_
  obtain ⟨a, ha, rfl, rfl⟩ := arg1 (f := fun x => num (nInv (unnum x))) h
  exact ⟨by show 1 ≤ Try.f49.ntmps; decide +kernel, (pi_ev _).trans (by rw [isNum_num, req_true rfl, nInv_def]), rfl⟩

def raaC : Cfg := ⟨tab, [(68, FAddF)], 8, []⟩
theorem ra_ev (A B : Nat) : fnS raaC 60 Try.f39 (bodyOf Try.f39) [num A, num B] = r2 (num A) (num B) (some (num (faddN 1 (unnum (num A)) (unnum (num B))))) := by kernel_rfl
theorem ra_sum : Sum Try.prog 39 PAddF := by
  refine sum_of (C := raaC) (c := bodyOf Try.f39) ⟨mixed, tabOk, sums_cons FAddR_sum sums_nil, noL⟩ Try.func39 (by kernel_rfl) (by kernel_rfl) rfl (fuel := 60) fun args v h _ => ?_
  obtain ⟨a, b, ha, hb, rfl, rfl⟩ := arg2 (f := fun x y => num (nAdd (unnum x) (unnum y))) h
  exact ⟨by show 2 ≤ Try.f39.ntmps; decide +kernel, (ra_ev _ _).trans (by rw [r2_num, nAdd_def]), rfl⟩

def rssC : Cfg := ⟨tab, [(71, FSubF)], 8, []⟩
theorem rs_ev (A B : Nat) : fnS rssC 60 Try.f43 (bodyOf Try.f43) [num A, num B] = r2 (num A) (num B) (some (num (fsubN 1 (unnum (num A)) (unnum (num B))))) := by kernel_rfl
theorem rs_sum : Sum Try.prog 43 PSubF := by
  refine sum_of (C := rssC) (c := bodyOf Try.f43) ⟨mixed, tabOk, sums_cons FSubR_sum sums_nil, noL⟩ Try.func43 (by kernel_rfl) (by kernel_rfl) rfl (fuel := 60) fun args v h _ => ?_
  obtain ⟨a, b, ha, hb, rfl, rfl⟩ := arg2 (f := fun x y => num (nSub (unnum x) (unnum y))) h
  exact ⟨by show 2 ≤ Try.f43.ntmps; decide +kernel, (rs_ev _ _).trans (by rw [r2_num, nSub_def]), rfl⟩

def rmmC : Cfg := ⟨tab, [(69, FMulF)], 8, []⟩
theorem rm_ev (A B : Nat) : fnS rmmC 60 Try.f40 (bodyOf Try.f40) [num A, num B] = r2 (num A) (num B) (some (num (fmulN 1 (unnum (num A)) (unnum (num B))))) := by kernel_rfl
theorem rm_sum : Sum Try.prog 40 PMulF := by
  refine sum_of (C := rmmC) (c := bodyOf Try.f40) ⟨mixed, tabOk, sums_cons FMulR_sum sums_nil, noL⟩ Try.func40 (by kernel_rfl) (by kernel_rfl) rfl (fuel := 60) fun args v h _ => ?_
  obtain ⟨a, b, ha, hb, rfl, rfl⟩ := arg2 (f := fun x y => num (nMul (unnum x) (unnum y))) h
  exact ⟨by show 2 ≤ Try.f40.ntmps; decide +kernel, (rm_ev _ _).trans (by rw [r2_num, nMul_def]), rfl⟩

end Go.Proofs.Ytbklbmiddacaiaa

/-
  Package poly: what a polynomial is worth.
-/
namespace Go.Proofs.Ytbklbmiddacaiaa
set_option maxRecDepth 100000
open Go.W

noncomputable def evS : Sums := [(38, PMulF), (37, PAddF)]
theorem evS_ok : SumsOk Try.prog evS := sums_cons pm_sum (sums_cons pa_sum sums_nil)
noncomputable def evC0 : Cfg := ⟨tab, evS, 23, []⟩
theorem ev_at : codeAt [1, 1, 0, 1, 0] (bodyOf Try.f10) = some (.loop (loopAt [1, 1, 0, 1, 0] (bodyOf Try.f10))) := by kernel_rfl
def evNt : List Nat := [0, 3, 4, 5, 6]
def evNi : List Nat := [0, 1, 2, 1500000]
def evSt (n : Nat) (f : Nat → List Value) (e0 X Y : Nat) (i : Int) : St :=
  ⟨[(0, aSl 0 n), (3, ptr 0), (4, ptr 1), (5, ptr 2), (6, i64 i)], [(0, ⟨cells4 X, 25, true⟩), (1, ⟨[u64 0, u64 0, u64 0, u64 0], 25, true⟩), (2, ⟨cells4 Y, 25, true⟩), (1500000, ⟨.row kN4 n f, e0, false⟩)], 7⟩
theorem ev_r (n : Nat) (V : Nat → Nat) (e0 X Y k : Nat) : roundS evC0 60 [1, 1, 0, 1, 0, 0] (loopAt [1, 1, 0, 1, 0] (bodyOf Try.f10)) evNt evNi 7 evNt evNi 7 (evSt n (nmF V) e0 X Y (k : Int)) =
    bif decide ((k : Int) ≥ 0) then r2 (num Y) (num X) (req (inR (k : Int) n) (req (Nat.blt k n && true) (r2 (num (nMul (unnum (num Y)) (unnum (num X)))) (num (V (0 + k)))
      (some (.normal, evSt n (nmF V) e0 X (nAdd (unnum (num (nMul (unnum (num Y)) (unnum (num X))))) (unnum (num (V (0 + k))))) (IntKind.i64.wrap ((k : Int) - 1)))))))
    else some (.exit 0, evSt n (nmF V) e0 X Y (k : Int)) := by kernel_rfl
theorem ev_r0 (n : Nat) (V : Nat → Nat) (e0 X Y : Nat) : roundS evC0 60 [1, 1, 0, 1, 0, 0] (loopAt [1, 1, 0, 1, 0] (bodyOf Try.f10)) evNt evNi 7 evNt evNi 7 (evSt n (nmF V) e0 X Y (-1)) = some (.exit 0, evSt n (nmF V) e0 X Y (-1)) := by kernel_rfl
theorem ev_loop {n : Nat} {V : Nat → Nat} {e0 X : Nat} (hn : n ≤ 1000) (hV : ∀ j, j < n → V j < 2 ^ 256) (hX : X < 2 ^ 256) : LoopOk Try.prog 23 (loopAt [1, 1, 0, 1, 0] (bodyOf Try.f10)) (atSt evNt evNi 7 (evSt n (nmF V) e0 X 0 ((n : Int) - 1)) (.exit 0) (evSt n (nmF V) e0 X (evN V n X) (-1))) := by
  refine loopE (fun _ => evC0) n (fun _ _ => ⟨mixed, tabOk, evS_ok, noL⟩) (fun _ => rfl) ev_at (m := 60) (nt := evNt) (ni := evNi) (et := evNt) (ei := evNi) (nx := 7) (ex := 7) (fun k => evSt n (nmF V) e0 X (hvN V X n k) ((n : Int) - 1 - (k : Int))) (by rw [show (n : Int) - 1 - ((0 : Nat) : Int) = (n : Int) - 1 from by omega]; rfl) (by intro h; cases h) ?_ ?_
  · intro k hk
    refine ⟨_, ?_, stEq_refl rfl⟩
    have e : (n : Int) - 1 - (k : Int) = ((n - 1 - k : Nat) : Int) := by omega
    simp only [e]
    refine (ev_r n V e0 X _ _).trans ?_
    have hp := hvN_p V X n k
    rw [decide_eq_true (by omega), cond_true, r2_num, iR (by omega), req_true rfl, bL (by omega), req_true (b := true && true) rfl, r2_num, uN hp, unnum_lt hX, uN (nMul_p _ _), Nat.zero_add, unnum_lt (hV _ (by omega)), wrap_i64 (by omega), show ((n - 1 - k : Nat) : Int) - 1 = (n : Int) - 1 - ((k + 1 : Nat) : Int) from by omega]
    rfl
  · refine ⟨_, ?_, stEq_refl rfl⟩
    simp only [show (n : Int) - 1 - ((n : Nat) : Int) = -1 from by omega]
    rw [← evN_def]
    exact ev_r0 n V e0 X _
noncomputable def evC (n : Nat) (V : Nat → Nat) (e0 X Y : Nat) : Cfg := ⟨tab, evS, 23, [([1, 1, 0, 1, 0], atSt evNt evNi 7 (evSt n (nmF V) e0 X 0 ((n : Int) - 1)) (.exit 0) (evSt n (nmF V) e0 X Y (-1)))]⟩
theorem ev_ev (n : Nat) (f : Nat → List Value) (V : Nat → Nat) (X Y : Nat) (es : Nat → Nat) (id : Nat) : fnMS (evC n V (es 0) X Y) 60 Try.f10 (bodyOf Try.f10) (cArgs [.sl kN4 n f, .pl (num X)] 0) (cMem es [.sl kN4 n f, .pl (num X)] 0) 0 id =
    req (stEq (evSt n f (es 0) X 0 (IntKind.i64.wrap ((n : Int) - 1))) (evSt n (nmF V) (es 0) X 0 ((n : Int) - 1))) (some (num Y, [])) := by kernel_rfl
theorem ev_msum : MSum Try.prog 10 EvF := by
  intro w0 R fm w hm vs args' hl mm hsub id hlt v l hpick hnew
  match vs, hl, hpick with
  | [a, x], hl, hpick =>
    obtain ⟨hc, rfl, rfl⟩ := pick_one hpick
    simp only [Bool.and_eq_true] at hc
    obtain ⟨⟨ha, hn⟩, hx⟩ := hc
    generalize hqa : srcB mm kN4 a = qa at ha hn ⊢
    obtain ⟨ok1, n, f⟩ := qa
    simp only at ha hn ⊢
    subst ha
    obtain ⟨X, hX, rfl⟩ := isNum_some hx
    rw [unnum_lt hX]
    have hn1 := (okV_iff.1 hn).1
    refine msum_at (c := bodyOf Try.f10) (fuel := 60) (next := 0) Try.func10 (by kernel_rfl) (by kernel_rfl) hm hl hsub hlt (A := [.sl kN4 n f, .pl (num X)]) ⟨hqa, rfl, rfl, trivial⟩ (by show 2 ≤ Try.f10.ntmps; decide +kernel) (.inl rfl) hnew (fun es => ?_)
    refine ⟨evC n (nA f) (es 0) X (evN (nA f) n X), ⟨mixed, tabOk, evS_ok, oneL (ev_loop hn1 (fun j hj => (el_num hn hj).2) hX)⟩, rfl, ?_⟩
    refine (ev_ev n f _ X _ es id).trans ?_
    rw [wrap_i64 (by omega)]
    exact req_true (stEq_mk rfl (mSame rfl (mSame rfl (mSame rfl (mRow (row_nm hn) mNil)))))
  | [], _, h => simp [EvF, pickM] at h
  | [_], _, h => simp [EvF, pickM] at h
  | _ :: _ :: _ :: _, _, h => simp [EvF, pickM] at h

end Go.Proofs.Ytbklbmiddacaiaa

/-
  Package poly: one weight; what is wrong with places.
-/
namespace Go.Proofs.Ytbklbmiddacaiaa
set_option maxRecDepth 100000
open Go.W

noncomputable def wtS : Sums := [(38, PMulF), (70, PSubF), (49, PInvF)]
theorem wtS_ok : SumsOk Try.prog wtS := sums_cons pm_sum (sums_cons ps_sum (sums_cons pi_sum sums_nil))
noncomputable def wtC0 : Cfg := ⟨tab, wtS, 37, []⟩
theorem wt_at : codeAt [1, 1, 0, 1, 0] (bodyOf Try.f42) = some (.loop (loopAt [1, 1, 0, 1, 0] (bodyOf Try.f42))) := by kernel_rfl
def wtNt : List Nat := [0, 1, 4, 5, 6, 11, 12, 13]
def wtNi : List Nat := [0, 3, 4, 1500000]
def wtSt (n : Nat) (f : Nat → List Value) (e0 : Nat) (i : Int) (A B : Nat) (k : Int) : St :=
  ⟨[(0, aSl 0 n), (1, i64 i), (4, ptr 0), (5, ptr 3), (6, ptr 4), (11, aSl 0 n), (12, i64 (n : Nat)), (13, i64 k)], [(0, ⟨cells4 0, 25, true⟩), (3, ⟨cells4 A, 25, true⟩), (4, ⟨cells4 B, 25, true⟩), (1500000, ⟨.row kN4 n f, e0, false⟩)], 10⟩
theorem wt_r (n : Nat) (V : Nat → Nat) (e0 i A B k : Nat) : roundS wtC0 60 [1, 1, 0, 1, 0, 0] (loopAt [1, 1, 0, 1, 0] (bodyOf Try.f42)) wtNt wtNi 10 wtNt wtNi 10 (wtSt n (nmF V) e0 (i : Int) A B (k : Int)) =
    bif decide ((k : Int) < (n : Int)) then rdR k n (bif (k : Int) != (i : Int) then r2 (num A) (num (V (0 + k))) (rdR i n (r2 (num (V (0 + k))) (num (V (0 + i))) (r2 (num B) (num (vS (num (V (0 + k))) (num (V (0 + i)))))
        (some (.normal, wtSt n (nmF V) e0 (i : Int) (vM (num A) (num (V (0 + k)))) (vM (num B) (num (vS (num (V (0 + k))) (num (V (0 + i)))))) (IntKind.i64.wrap ((k : Int) + 1)))))))
      else some (.normal, wtSt n (nmF V) e0 (i : Int) A B (IntKind.i64.wrap ((k : Int) + 1))))
    else some (.exit 0, wtSt n (nmF V) e0 (i : Int) A B (k : Int)) := by kernel_rfl
theorem wt_loop {n : Nat} {V : Nat → Nat} {e0 i : Nat} (hn : n ≤ 1000) (hi : i < n) (hV : ∀ j, j < n → V j < 2 ^ 256) : LoopOk Try.prog 37 (loopAt [1, 1, 0, 1, 0] (bodyOf Try.f42)) (atSt wtNt wtNi 10 (wtSt n (nmF V) e0 (i : Int) 1 1 0) (.exit 0) (wtSt n (nmF V) e0 (i : Int) (wtA V i n) (wtB V i n) (n : Int))) := by
  refine loopE (fun _ => wtC0) n (fun _ _ => ⟨mixed, tabOk, wtS_ok, noL⟩) (fun _ => rfl) wt_at (m := 60) (nt := wtNt) (ni := wtNi) (et := wtNt) (ei := wtNi) (nx := 10) (ex := 10) (fun k => wtSt n (nmF V) e0 (i : Int) (wtA V i k) (wtB V i k) (k : Int)) rfl (by intro h; cases h) ?_ ?_
  · intro k hk
    refine ⟨_, ?_, stEq_refl rfl⟩
    refine (wt_r n V e0 i _ _ k).trans ?_
    have a := wtA_l V i k
    have b := wtB_l V i k
    rw [decide_eq_true (by omega), cond_true, rdR_eq hk, wrap_i64 (by omega), Nat.zero_add, Nat.zero_add]
    by_cases h : k = i
    · subst h
      rw [show ((k : Int) != (k : Int)) = false from bne_self_eq_false _, cond_false]
      simp only [wtA, wtB, if_true]; rfl
    · rw [show ((k : Int) != (i : Int)) = true from by rw [bne_iff_ne]; omega, cond_true, r2_num, rdR_eq hi, r2_num, r2_num, vS_num (hV k hk) (hV i hi), vM_num a (hV k hk), vM_num b (nSub_l _ _)]
      simp only [wtA, wtB, if_neg h]; rfl
  · refine ⟨_, ?_, stEq_refl rfl⟩
    refine (wt_r n V e0 i _ _ n).trans ?_
    rw [decide_eq_false (by omega), cond_false]
noncomputable def wtC (n : Nat) (V : Nat → Nat) (e0 : Nat) (i : Int) (A B : Nat) : Cfg := ⟨tab, wtS, 37, [([1, 1, 0, 1, 0], atSt wtNt wtNi 10 (wtSt n (nmF V) e0 i 1 1 0) (.exit 0) (wtSt n (nmF V) e0 i A B (n : Int)))]⟩
theorem wt_ev (n : Nat) (f : Nat → List Value) (V : Nat → Nat) (i : Int) (A B : Nat) (es : Nat → Nat) (id : Nat) : fnMS (wtC n V (es 0) i A B) 60 Try.f42 (bodyOf Try.f42) (cArgs [.sl kN4 n f, .pl (i64 i)] 0) (cMem es [.sl kN4 n f, .pl (i64 i)] 0) 0 id =
    req (stEq (wtSt n f (es 0) i 1 1 0) (wtSt n (nmF V) (es 0) i 1 1 0)) (req (isNum (num B)) (r2 (num A) (num (vI (num B))) (some (num (vM (num A) (num (vI (num B)))), [])))) := by kernel_rfl
theorem wt_msum : MSum Try.prog 42 WtF := by
  intro w0 R fm w hm vs args' hl mm hsub id hlt v l hpick hnew
  unfold WtF at hpick
  split at hpick
  · rename_i a i
    obtain ⟨hc, rfl, rfl⟩ := pick_one hpick
    simp only [Bool.and_eq_true] at hc
    obtain ⟨⟨ha, hn⟩, hx⟩ := hc
    generalize hqa : srcB mm kN4 a = qa at ha hn hx ⊢
    obtain ⟨ok1, n, f⟩ := qa
    simp only at ha hn hx ⊢
    subst ha
    have hn1 := (okV_iff.1 hn).1
    obtain ⟨k, rfl, hk⟩ : ∃ k : Nat, i = (k : Int) ∧ k < n := by
      unfold inR at hx
      simp only [Bool.and_eq_true, decide_eq_true_eq] at hx
      exact ⟨i.toNat, by omega, by omega⟩
    refine msum_at (c := bodyOf Try.f42) (fuel := 60) (next := 0) Try.func42 (by kernel_rfl) (by kernel_rfl) hm hl hsub hlt (A := [.sl kN4 n f, .pl (i64 (k : Int))]) ⟨hqa, rfl, rfl, trivial⟩ (by show 2 ≤ Try.f42.ntmps; decide +kernel) (.inl rfl) hnew (fun es => ?_)
    refine ⟨wtC n (nA f) (es 0) (k : Int) (wtA (nA f) k n) (wtB (nA f) k n), ⟨mixed, tabOk, wtS_ok, oneL (wt_loop hn1 hk (fun j hj => (el_num hn hj).2))⟩, rfl, ?_⟩
    refine (wt_ev n f _ _ _ _ es id).trans ?_
    refine (req_true (stEq_mk rfl (mSame rfl (mSame rfl (mSame rfl (mRow (row_nm hn) mNil)))))).trans ?_
    rw [isNum_num, req_true rfl, r2_num, vI_num (wtB_l _ _ _), vM_num (wtA_l _ _ _) (nInv_l _), Int.toNat_natCast, wtN_def]
  · simp [pickM] at hpick

noncomputable def ckS : Sums := [(70, PSubF)]
theorem ckS_ok : SumsOk Try.prog ckS := sums_cons ps_sum sums_nil
noncomputable def ckC0 : Cfg := ⟨tab, ckS, 37, []⟩
theorem ck_at : codeAt [1, 1, 0, 1, 0] (bodyOf Try.f41) = some (.loop (loopAt [1, 1, 0, 1, 0] (bodyOf Try.f41))) := by kernel_rfl
theorem ck_at2 : codeAt [1, 1, 0, 1, 0, 0, 1, 1, 0, 0, 1, 1, 0] (bodyOf Try.f41) = some (.loop (loopAt [1, 1, 0, 1, 0, 0, 1, 1, 0, 0, 1, 1, 0] (bodyOf Try.f41))) := by kernel_rfl
def ckNt : List Nat := [0, 2, 15, 16, 17]
def ckNi : List Nat := [1500000]
def ckSt (n : Nat) (f : Nat → List Value) (e0 : Nat) (r k : Int) : St :=
  ⟨[(0, aSl 0 n), (2, i64 r), (15, aSl 0 n), (16, i64 (n : Nat)), (17, i64 k)], [(1500000, ⟨.row kN4 n f, e0, false⟩)], 20⟩
def cjNt : List Nat := [0, 2, 4, 15, 16, 17, 24, 25, 26]
def cjNi : List Nat := [24, nid 29 0, 1500000]
def cjSt (n : Nat) (V : Nat → Nat) (e0 k : Nat) (r j : Int) : St :=
  ⟨[(0, aSl 0 n), (2, i64 r), (4, ptr 24), (15, aSl 0 n), (16, i64 (n : Nat)), (17, i64 (k : Nat)), (24, .slice (some ⟨nid 29 0, 0, none⟩) k n), (25, i64 (k : Nat)), (26, i64 j)],
   [(24, ⟨cells4 (V (0 + k)), 25, true⟩), (nid 29 0, ⟨.tail 1500000 0 k 4, 25, false⟩), (1500000, ⟨.row kN4 n (nmF V), e0, false⟩)], 32⟩
theorem cj_r (n : Nat) (V : Nat → Nat) (e0 k j : Nat) : roundS ckC0 60 [1, 1, 0, 1, 0, 0, 1, 1, 0, 0, 1, 1, 0, 0] (loopAt [1, 1, 0, 1, 0, 0, 1, 1, 0, 0, 1, 1, 0] (bodyOf Try.f41)) cjNt cjNi 32 cjNt cjNi 32 (cjSt n V e0 k 0 (j : Int)) =
    bif decide ((j : Int) < (k : Int)) then req (inR (j : Int) k) (req (Nat.ble (0 + k) n) (req (Nat.blt j k && true) (r2 (num (V (0 + k))) (num (V (0 + j))) (bif eqV (num (vS (num (V (0 + k))) (num (V (0 + j))))) (num 0) then some (.ret, cjSt n V e0 k 6 (j : Int)) else some (.normal, cjSt n V e0 k 0 (IntKind.i64.wrap ((j : Int) + 1))))))) 
    else some (.exit 2, cjSt n V e0 k 0 (j : Int)) := by kernel_rfl
theorem cj_step {n : Nat} {V : Nat → Nat} {e0 k j : Nat} (hn : n ≤ 1000) (hV : ∀ j, j < n → V j < 2 ^ 256) (hk : k < n) (hj : j < k) : roundS ckC0 60 [1, 1, 0, 1, 0, 0, 1, 1, 0, 0, 1, 1, 0, 0] (loopAt [1, 1, 0, 1, 0, 0, 1, 1, 0, 0, 1, 1, 0] (bodyOf Try.f41)) cjNt cjNi 32 cjNt cjNi 32 (cjSt n V e0 k 0 (j : Int)) =
    if nSub (V k) (V j) = 0 then some (.ret, cjSt n V e0 k 6 (j : Int)) else some (.normal, cjSt n V e0 k 0 ((j + 1 : Nat) : Int)) := by
  refine (cj_r n V e0 k j).trans ?_
  rw [decide_eq_true (by omega), cond_true, iR hj, req_true rfl, bE (by omega), req_true rfl, bL hj, req_true (b := true && true) rfl, r2_num, Nat.zero_add, Nat.zero_add, vS_num (hV k hk) (hV j (by omega)), eqV_num, Nat.mod_eq_of_lt (nSub_l _ _), wrap_i64 (by omega)]
  by_cases h : nSub (V k) (V j) = 0
  · rw [if_pos h, h]; rfl
  · rw [if_neg h, decide_eq_false (by simpa using h)]; rfl
theorem cj_ok {n : Nat} {V : Nat → Nat} {e0 k : Nat} (hn : n ≤ 1000) (hV : ∀ j, j < n → V j < 2 ^ 256) (hk : k < n) (hb : ¬ Bad V k) : LoopOk Try.prog 37 (loopAt [1, 1, 0, 1, 0, 0, 1, 1, 0, 0, 1, 1, 0] (bodyOf Try.f41)) (atSt cjNt cjNi 32 (cjSt n V e0 k 0 0) (.exit 2) (cjSt n V e0 k 0 (k : Int))) := by
  refine loopE (fun _ => ckC0) k (fun _ _ => ⟨mixed, tabOk, ckS_ok, noL⟩) (fun _ => rfl) ck_at2 (m := 60) (nt := cjNt) (ni := cjNi) (et := cjNt) (ei := cjNi) (nx := 32) (ex := 32) (fun j => cjSt n V e0 k 0 (j : Int)) rfl (by intro h; cases h) ?_ ?_
  · intro j hj
    refine ⟨_, (cj_step hn hV hk hj).trans (if_neg fun e => hb ⟨j, hj, e⟩), stEq_refl rfl⟩
  · refine ⟨_, ?_, stEq_refl rfl⟩
    refine (cj_r n V e0 k k).trans ?_
    rw [decide_eq_false (by omega), cond_false]
theorem cj_bad {n : Nat} {V : Nat → Nat} {e0 k j : Nat} (hn : n ≤ 1000) (hV : ∀ j, j < n → V j < 2 ^ 256) (hk : k < n) (hj : j < k) (he : nSub (V k) (V j) = 0) (hlo : ∀ i, i < j → ¬ nSub (V k) (V i) = 0) : LoopOk Try.prog 37 (loopAt [1, 1, 0, 1, 0, 0, 1, 1, 0, 0, 1, 1, 0] (bodyOf Try.f41)) (atSt cjNt cjNi 32 (cjSt n V e0 k 0 0) .ret (cjSt n V e0 k 6 (j : Int))) := by
  refine loopE (fun _ => ckC0) j (fun _ _ => ⟨mixed, tabOk, ckS_ok, noL⟩) (fun _ => rfl) ck_at2 (m := 60) (nt := cjNt) (ni := cjNi) (et := cjNt) (ei := cjNi) (nx := 32) (ex := 32) (fun j => cjSt n V e0 k 0 (j : Int)) rfl (by intro h; cases h) ?_ ?_
  · intro i hi
    exact ⟨_, (cj_step hn hV hk (by omega)).trans (if_neg (hlo i hi)), stEq_refl rfl⟩
  · exact ⟨_, (cj_step hn hV hk hj).trans (if_pos he), stEq_refl rfl⟩
noncomputable def ckC1 : Cfg := ⟨tab, ckS, 37, [([1, 1, 0, 1, 0, 0, 1, 1, 0, 0, 1, 1, 0], fun _ => [])]⟩
noncomputable def ckCk (n : Nat) (V : Nat → Nat) (e0 k : Nat) (e : Exit) (r : Int) (j : Nat) : Cfg := ⟨tab, ckS, 37, [([1, 1, 0, 1, 0, 0, 1, 1, 0, 0, 1, 1, 0], atSt cjNt cjNi 32 (cjSt n V e0 k 0 0) e (cjSt n V e0 k r (j : Int)))]⟩
def ckQ (n k : Nat) : Bool := decide ((0 : Int) ≤ (k : Int)) && decide ((k : Int) ≤ (n : Int))
theorem ck_r (n : Nat) (V : Nat → Nat) (e0 k : Nat) : roundS (ckCk n V e0 k (.exit 2) 0 k) 60 [1, 1, 0, 1, 0, 0] (loopAt [1, 1, 0, 1, 0] (bodyOf Try.f41)) ckNt ckNi 20 ckNt ckNi 20 (ckSt n (nmF V) e0 0 (k : Int)) =
    bif decide ((k : Int) < (n : Int)) then rdR k n (req (ckQ n k) (req (Nat.ble k n) (req (stEq (cjSt n V e0 k 0 0) (cjSt n V e0 k 0 0)) (some (.normal, ckSt n (nmF V) e0 0 (IntKind.i64.wrap ((k : Int) + 1)))))))
    else some (.exit 0, ckSt n (nmF V) e0 0 (k : Int)) := by kernel_rfl
theorem ck_rb (n : Nat) (V : Nat → Nat) (e0 k j : Nat) : roundS (ckCk n V e0 k .ret 6 j) 60 [1, 1, 0, 1, 0, 0] (loopAt [1, 1, 0, 1, 0] (bodyOf Try.f41)) ckNt ckNi 20 ckNt ckNi 20 (ckSt n (nmF V) e0 0 (k : Int)) =
    bif decide ((k : Int) < (n : Int)) then rdR k n (req (ckQ n k) (req (Nat.ble k n) (req (stEq (cjSt n V e0 k 0 0) (cjSt n V e0 k 0 0)) (some (.ret, ckSt n (nmF V) e0 6 (k : Int))))))
    else some (.exit 0, ckSt n (nmF V) e0 0 (k : Int)) := by kernel_rfl
theorem ckQ_true {n k : Nat} (h : k ≤ n) : ckQ n k = true := by
  unfold ckQ
  rw [Bool.and_eq_true, decide_eq_true_eq, decide_eq_true_eq]; omega
theorem ck_rok {n : Nat} {V : Nat → Nat} {e0 k : Nat} (hn : n ≤ 1000) (hk : k < n) : roundS (ckCk n V e0 k (.exit 2) 0 k) 60 [1, 1, 0, 1, 0, 0] (loopAt [1, 1, 0, 1, 0] (bodyOf Try.f41)) ckNt ckNi 20 ckNt ckNi 20 (ckSt n (nmF V) e0 0 (k : Int)) = some (.normal, ckSt n (nmF V) e0 0 ((k + 1 : Nat) : Int)) := by
  refine (ck_r n V e0 k).trans ?_
  rw [decide_eq_true (by omega), cond_true, rdR_eq hk, ckQ_true (by omega), req_true rfl, bE (by omega), req_true rfl, req_true (stEq_refl rfl), wrap_i64 (by omega)]; rfl
theorem ck_out (n : Nat) (V : Nat → Nat) (e0 k : Nat) : roundS ckC1 60 [1, 1, 0, 1, 0, 0] (loopAt [1, 1, 0, 1, 0] (bodyOf Try.f41)) ckNt ckNi 20 ckNt ckNi 20 (ckSt n (nmF V) e0 0 (k : Int)) =
    bif decide ((k : Int) < (n : Int)) then rdR k n (req (ckQ n k) (req (Nat.ble k n) none)) else some (.exit 0, ckSt n (nmF V) e0 0 (k : Int)) := by kernel_rfl
theorem ck_ok {n : Nat} {V : Nat → Nat} {e0 : Nat} (hn : n ≤ 1000) (hV : ∀ j, j < n → V j < 2 ^ 256) (hb : ∀ i, i < n → ¬ Bad V i) : LoopOk Try.prog 37 (loopAt [1, 1, 0, 1, 0] (bodyOf Try.f41)) (atSt ckNt ckNi 20 (ckSt n (nmF V) e0 0 0) (.exit 0) (ckSt n (nmF V) e0 0 (n : Int))) := by
  refine loopE (fun k => if k < n then ckCk n V e0 k (.exit 2) 0 k else ckC1) n ?_ (fun k => by by_cases h : k < n <;> simp only [h, if_true, if_false] <;> rfl) ck_at (m := 60) (nt := ckNt) (ni := ckNi) (et := ckNt) (ei := ckNi) (nx := 20) (ex := 20) (fun k => ckSt n (nmF V) e0 0 (k : Int)) rfl (by intro h; cases h) ?_ ?_
  · intro k _
    by_cases h : k < n
    · rw [if_pos h]
      exact ⟨mixed, tabOk, ckS_ok, oneL (cj_ok hn hV h (hb k h))⟩
    · rw [if_neg h]; exact ⟨mixed, tabOk, ckS_ok, noneL2⟩
  · intro k hk
    rw [if_pos hk]
    exact ⟨_, ck_rok hn hk, stEq_refl rfl⟩
  · rw [if_neg (by omega)]
    refine ⟨_, ?_, stEq_refl rfl⟩
    refine (ck_out n V e0 n).trans ?_
    rw [decide_eq_false (by omega), cond_false]
theorem ck_bad {n : Nat} {V : Nat → Nat} {e0 k j : Nat} (hn : n ≤ 1000) (hV : ∀ j, j < n → V j < 2 ^ 256) (hk : k < n) (hb : ∀ i, i < k → ¬ Bad V i) (hj : j < k) (he : nSub (V k) (V j) = 0) (hlo : ∀ i, i < j → ¬ nSub (V k) (V i) = 0) : LoopOk Try.prog 37 (loopAt [1, 1, 0, 1, 0] (bodyOf Try.f41)) (atSt ckNt ckNi 20 (ckSt n (nmF V) e0 0 0) .ret (ckSt n (nmF V) e0 6 (k : Int))) := by
  refine loopE (fun i => if i < k then ckCk n V e0 i (.exit 2) 0 i else ckCk n V e0 k .ret 6 j) k ?_ (fun i => by by_cases h : i < k <;> simp only [h, if_true, if_false] <;> rfl) ck_at (m := 60) (nt := ckNt) (ni := ckNi) (et := ckNt) (ei := ckNi) (nx := 20) (ex := 20) (fun k => ckSt n (nmF V) e0 0 (k : Int)) rfl (by intro h; cases h) ?_ ?_
  · intro i _
    by_cases h : i < k
    · rw [if_pos h]
      exact ⟨mixed, tabOk, ckS_ok, oneL (cj_ok hn hV (by omega) (hb i h))⟩
    · rw [if_neg h]; exact ⟨mixed, tabOk, ckS_ok, oneL (cj_bad hn hV hk hj he hlo)⟩
  · intro i hi
    rw [if_pos hi]
    exact ⟨_, ck_rok hn (by omega), stEq_refl rfl⟩
  · rw [if_neg (by omega)]
    refine ⟨_, ?_, stEq_refl rfl⟩
    refine (ck_rb n V e0 k j).trans ?_
    rw [decide_eq_true (by omega), cond_true, rdR_eq hk, ckQ_true (by omega), req_true rfl, bE (by omega), req_true rfl, req_true (stEq_refl rfl)]
noncomputable def ckC (n : Nat) (V : Nat → Nat) (e0 : Nat) (e : Exit) (r : Int) (k : Nat) : Cfg := ⟨tab, ckS, 37, [([1, 1, 0, 1, 0], atSt ckNt ckNi 20 (ckSt n (nmF V) e0 0 0) e (ckSt n (nmF V) e0 r (k : Int)))]⟩
def ckT {α : Type} (n : Nat) (k : Option α) (no : Option α) : Option α := bif ((n : Nat) : Int) == 0 then no else bif decide (((n : Nat) : Int) > 64) then no else k
theorem ckT_in {α : Type} {n : Nat} (h0 : n ≠ 0) (h1 : n ≤ 64) (k no : Option α) : ckT n k no = k := by
  unfold ckT
  rw [show (((n : Nat) : Int) == 0) = false from by rw [beq_eq_false_iff_ne]; omega, decide_eq_false (by omega)]; rfl
theorem ckT_out {α : Type} {n : Nat} (h : n = 0 ∨ 64 < n) (k no : Option α) : ckT n k no = no := by
  unfold ckT
  rcases h with h | h
  · subst h; rfl
  · rw [show (((n : Nat) : Int) == 0) = false from by rw [beq_eq_false_iff_ne]; omega, decide_eq_true (by omega)]; rfl
theorem ck_ev (n : Nat) (f : Nat → List Value) (V : Nat → Nat) (k : Nat) (es : Nat → Nat) (id : Nat) : fnMS (ckC n V (es 0) (.exit 0) 0 k) 60 Try.f41 (bodyOf Try.f41) (cArgs [.sl kN4 n f] 0) (cMem es [.sl kN4 n f] 0) 0 id =
    ckT n (req (stEq (ckSt n f (es 0) 0 0) (ckSt n (nmF V) (es 0) 0 0)) (some (i64 0, []))) (some (i64 4, [])) := by kernel_rfl
theorem ck_evb (n : Nat) (f : Nat → List Value) (V : Nat → Nat) (k : Nat) (es : Nat → Nat) (id : Nat) : fnMS (ckC n V (es 0) .ret 6 k) 60 Try.f41 (bodyOf Try.f41) (cArgs [.sl kN4 n f] 0) (cMem es [.sl kN4 n f] 0) 0 id =
    ckT n (req (stEq (ckSt n f (es 0) 0 0) (ckSt n (nmF V) (es 0) 0 0)) (some (i64 6, []))) (some (i64 4, [])) := by kernel_rfl
theorem ck_evn (n : Nat) (f : Nat → List Value) (es : Nat → Nat) (id : Nat) : fnMS ⟨tab, ckS, 37, [([1, 1, 0, 1, 0], fun _ => [])]⟩ 60 Try.f41 (bodyOf Try.f41) (cArgs [.sl kN4 n f] 0) (cMem es [.sl kN4 n f] 0) 0 id =
    ckT n none (some (i64 4, [])) := by kernel_rfl
theorem ck_msum : MSum Try.prog 41 CkpF := by
  intro w0 R fm w hm vs args' hl mm hsub id hlt v l hpick hnew
  match vs, hl, hpick with
  | [a], hl, hpick =>
    obtain ⟨hc, rfl, rfl⟩ := pick_one hpick
    simp only [Bool.and_eq_true] at hc
    obtain ⟨ha, hn⟩ := hc
    generalize hqa : srcB mm kN4 a = qa at ha hn ⊢
    obtain ⟨ok1, n, f⟩ := qa
    simp only at ha hn ⊢
    subst ha
    have hn1 := (okV_iff.1 hn).1
    have hV : ∀ j, j < n → nA f j < 2 ^ 256 := fun j hj => (el_num hn hj).2
    refine msum_at (c := bodyOf Try.f41) (fuel := 60) (next := 0) Try.func41 (by kernel_rfl) (by kernel_rfl) hm hl hsub hlt (A := [.sl kN4 n f]) ⟨hqa, trivial⟩ (by show 1 ≤ Try.f41.ntmps; decide +kernel) (.inl rfl) hnew (fun es => ?_)
    by_cases h1 : n = 0 ∨ 64 < n
    · refine ⟨⟨tab, ckS, 37, [([1, 1, 0, 1, 0], fun _ => [])]⟩, ⟨mixed, tabOk, ckS_ok, noneL2⟩, rfl, ?_⟩
      exact (ck_evn n f es id).trans (by rw [ckT_out h1, ckN_len h1])
    · by_cases h2 : ∃ i, i < n ∧ Bad (nA f) i
      · obtain ⟨k, hk, ⟨j', hj', e'⟩, hlo⟩ := first_bad h2
        obtain ⟨j, hj, e, hlo2⟩ := first_bad (P := fun j => nSub (nA f k) (nA f j) = 0) ⟨j', hj', e'⟩
        refine ⟨ckC n (nA f) (es 0) .ret 6 k, ⟨mixed, tabOk, ckS_ok, oneL (ck_bad hn1 hV hk hlo hj e hlo2)⟩, rfl, ?_⟩
        refine (ck_evb n f _ k es id).trans ?_
        rw [ckT_in (by omega) (by omega), ckN_bad (by omega) (by omega) h2]
        exact req_true (stEq_mk rfl (mRow (row_nm hn) mNil))
      · have h3 : ∀ i, i < n → ¬ Bad (nA f) i := fun i hi hb => h2 ⟨i, hi, hb⟩
        refine ⟨ckC n (nA f) (es 0) (.exit 0) 0 n, ⟨mixed, tabOk, ckS_ok, oneL (ck_ok hn1 hV h3)⟩, rfl, ?_⟩
        refine (ck_ev n f _ n es id).trans ?_
        rw [ckT_in (by omega) (by omega), ckN_ok (by omega) (by omega) h3]
        exact req_true (stEq_mk rfl (mRow (row_nm hn) mNil))
  | [], _, h => simp [CkpF, pickM] at h
  | _ :: _ :: _, _, h => simp [CkpF, pickM] at h

end Go.Proofs.Ytbklbmiddacaiaa

/-
  Package poly: the places of shares; all weights; what shares tell at 0.
-/
namespace Go.Proofs.Ytbklbmiddacaiaa
set_option maxRecDepth 100000
open Go.W

def plC0 : Cfg := ⟨tab, [], 24, []⟩
theorem pl_at : codeAt [1, 1, 0, 1, 0] (bodyOf Try.f45) = some (.loop (loopAt [1, 1, 0, 1, 0] (bodyOf Try.f45))) := by kernel_rfl
def plNt : List Nat := [0, 3, 9, 10, 11]
def plB : Nat := nid 4 0
def plNi : List Nat := [plB, 1500000]
def plSt (n : Nat) (f : Nat → List Value) (e0 m : Nat) (g : Nat → List Value) (k : Int) : St :=
  ⟨[(0, aSl 0 n), (3, .slice (some ⟨plB, 0, none⟩) m m), (9, .slice (some ⟨plB, 0, none⟩) m m), (10, i64 (m : Nat)), (11, i64 k)], [(plB, ⟨.row kN4 m g, 25, true⟩), (1500000, ⟨.row kN8 n f, e0, false⟩)], 9⟩
theorem pl_r (n : Nat) (V : Nat → Nat × Nat) (e0 m : Nat) (g : Nat → List Value) (k : Nat) : roundS plC0 60 [1, 1, 0, 1, 0, 0] (loopAt [1, 1, 0, 1, 0] (bodyOf Try.f45)) plNt plNi 9 plNt plNi 9 (plSt n (shF V) e0 m g (k : Int)) =
    bif decide ((k : Int) < (m : Int)) then rdR k n (rdR k m (some (.normal, plSt n (shF V) e0 m (updR g (0 + k) (cells4 (V (0 + k)).1)) (IntKind.i64.wrap ((k : Int) + 1)))))
    else some (.exit 0, plSt n (shF V) e0 m g (k : Int)) := by kernel_rfl
theorem pl_loop {n : Nat} {V : Nat → Nat × Nat} {e0 m : Nat} (hm : m ≤ n) (hn : n ≤ 1000) : LoopOk Try.prog 24 (loopAt [1, 1, 0, 1, 0] (bodyOf Try.f45)) (atSt plNt plNi 9 (plSt n (shF V) e0 m (nmF (filN (fun j => (V j).1) 0)) 0) (.exit 0) (plSt n (shF V) e0 m (nmF (fun j => (V j).1)) (m : Int))) := by
  refine loopE (fun _ => plC0) m (fun _ _ => ⟨mixed, tabOk, sums_nil, noL⟩) (fun _ => rfl) pl_at (m := 60) (nt := plNt) (ni := plNi) (et := plNt) (ei := plNi) (nx := 9) (ex := 9) (fun k => plSt n (shF V) e0 m (nmF (filN (fun j => (V j).1) k)) (k : Int)) rfl (by intro h; cases h) ?_ ?_
  · intro k hk
    refine ⟨plSt n (shF V) e0 m (updR (nmF (filN (fun j => (V j).1) k)) k (cells4 (V k).1)) ((k + 1 : Nat) : Int), ?_, stEq_mk rfl (mRow (fil_row (fun j => (V j).1) k) (mSame rfl mNil))⟩
    refine (pl_r n V e0 m _ k).trans ?_
    rw [decide_eq_true (by omega), cond_true, rdR_eq (by omega), rdR_eq hk, wrap_i64 (by omega), Nat.zero_add]; rfl
  · refine ⟨plSt n (shF V) e0 m (nmF (filN (fun j => (V j).1) m)) (m : Int), ?_, stEq_mk rfl (mRow (fil_all fun j => (V j).1) (mSame rfl mNil))⟩
    refine (pl_r n V e0 m _ m).trans ?_
    rw [decide_eq_false (by omega), cond_false]
noncomputable def plC (n : Nat) (V : Nat → Nat × Nat) (e0 m : Nat) : Cfg := ⟨tab, [], 24, [([1, 1, 0, 1, 0], atSt plNt plNi 9 (plSt n (shF V) e0 m (nmF (filN (fun j => (V j).1) 0)) 0) (.exit 0) (plSt n (shF V) e0 m (nmF (fun j => (V j).1)) (m : Int)))]⟩
theorem pl_ev (n : Nat) (f : Nat → List Value) (V : Nat → Nat × Nat) (es : Nat → Nat) (id : Nat) : fnMS (plC n V (es 0) (plM n)) 60 Try.f45 (bodyOf Try.f45) (cArgs [.sl kN8 n f] 0) (cMem es [.sl kN8 n f] 0) 0 id =
    req (mk4 (plI n)) (req (stEq (plSt n f (es 0) (plM n) (fun _ => [u64 0, u64 0, u64 0, u64 0]) 0) (plSt n (shF V) (es 0) (plM n) (nmF (filN (fun j => (V j).1) 0)) 0)) (req (Nat.ble (plM n) (plM n)) (some (nSl id (plM n), rw4 25 id (plM n) (nmF (fun j => (V j).1)))))) := by kernel_rfl
theorem pl_msum : MSum Try.prog 45 (PlaF 25) := by
  intro w0 R fm w hm vs args' hl mm hsub id hlt v l hpick hnew
  match vs, hl, hpick with
  | [a], hl, hpick =>
    obtain ⟨hc, rfl, rfl⟩ := pick_one hpick
    simp only [Bool.and_eq_true] at hc
    obtain ⟨ha, hn⟩ := hc
    generalize hqa : srcB mm kN8 a = qa at ha hn hnew ⊢
    obtain ⟨ok1, n, f⟩ := qa
    simp only at ha hn hnew ⊢
    subst ha
    have hn1 := (okS_iff.1 hn).1
    have hp := plM_eq n
    refine msum_at (c := bodyOf Try.f45) (fuel := 60) (next := 0) Try.func45 (by kernel_rfl) (by kernel_rfl) hm hl hsub hlt (A := [.sl kN8 n f]) ⟨hqa, trivial⟩ (by show 1 ≤ Try.f45.ntmps; decide +kernel) (.inr ⟨_, rfl⟩) hnew (fun es => ?_)
    refine ⟨plC n (sA f) (es 0) (plM n), ⟨mixed, tabOk, sums_nil, oneL (pl_loop (by omega) hn1)⟩, rfl, ?_⟩
    refine (pl_ev n f _ es id).trans ?_
    rw [plI_eq, mk4_true (by omega), req_true rfl]
    refine (req_true (stEq_mk rfl (mRow (fil_zero _) (mRow (row_sh hn) mNil)))).trans ?_
    rw [bE (Nat.le_refl _), req_true rfl]; rfl
  | [], _, h => simp [PlaF, pickM] at h
  | _ :: _ :: _, _, h => simp [PlaF, pickM] at h

noncomputable def wsS : Sums := [(41, CkpF), (42, WtF)]
theorem wsS_ok : SumsOk Try.prog wsS := sums_consM ck_msum (sums_consM wt_msum sums_nil)
noncomputable def wsC0 : Cfg := ⟨tab, wsS, 28, []⟩
theorem ws_at : codeAt [1, 1, 1, 0, 1, 0] (bodyOf Try.f13) = some (.loop (loopAt [1, 1, 1, 0, 1, 0] (bodyOf Try.f13))) := by kernel_rfl
def wsNt : List Nat := [0, 5, 15, 16, 17]
def wsB : Nat := nid 9 0
def wsNi : List Nat := [wsB, 1500000]
def wsSt (n : Nat) (f : Nat → List Value) (e0 : Nat) (g : Nat → List Value) (k : Int) : St :=
  ⟨[(0, aSl 0 n), (5, .slice (some ⟨wsB, 0, none⟩) n n), (15, aSl 0 n), (16, i64 (n : Nat)), (17, i64 k)], [(wsB, ⟨.row kN4 n g, 25, true⟩), (1500000, ⟨.row kN4 n f, e0, false⟩)], 14⟩
theorem ws_r (n : Nat) (f : Nat → List Value) (e0 : Nat) (g : Nat → List Value) (k : Nat) : roundS wsC0 60 [1, 1, 1, 0, 1, 0, 0] (loopAt [1, 1, 1, 0, 1, 0] (bodyOf Try.f13)) wsNt wsNi 14 wsNt wsNi 14 (wsSt n f e0 g (k : Int)) =
    bif decide ((k : Int) < (n : Int)) then req (kb4 n && okV n (sg4 n f) && inR (k : Int) n) (rdR k n (some (.normal, wsSt n f e0 (updR g (0 + k) (cells4 (wtN (nA (sg4 n f)) n k))) (IntKind.i64.wrap ((k : Int) + 1)))))
    else some (.exit 0, wsSt n f e0 g (k : Int)) := by kernel_rfl
theorem ws_loop {n : Nat} {f : Nat → List Value} {e0 : Nat} (hn : okV n f = true) : LoopOk Try.prog 28 (loopAt [1, 1, 1, 0, 1, 0] (bodyOf Try.f13)) (atSt wsNt wsNi 14 (wsSt n f e0 (nmF (filN (wtN (nA f) n) 0)) 0) (.exit 0) (wsSt n f e0 (nmF (wtN (nA f) n)) (n : Int))) := by
  have hn1 := (okV_iff.1 hn).1
  refine loopE (fun _ => wsC0) n (fun _ _ => ⟨mixed, tabOk, wsS_ok, noL⟩) (fun _ => rfl) ws_at (m := 60) (nt := wsNt) (ni := wsNi) (et := wsNt) (ei := wsNi) (nx := 14) (ex := 14) (fun k => wsSt n f e0 (nmF (filN (wtN (nA f) n) k)) (k : Int)) rfl (by intro h; cases h) ?_ ?_
  · intro k hk
    refine ⟨wsSt n f e0 (updR (nmF (filN (wtN (nA f) n) k)) k (cells4 (wtN (nA f) n k))) ((k + 1 : Nat) : Int), ?_, stEq_mk rfl (mRow (fil_row _ k) (mSame rfl mNil))⟩
    refine (ws_r n f e0 _ k).trans ?_
    rw [decide_eq_true (by omega), cond_true, kb4_true, okV_sg, hn, iR hk, req_true (b := true && true && true) rfl, rdR_eq hk, wrap_i64 (by omega), Nat.zero_add, nA_sg]; rfl
  · refine ⟨wsSt n f e0 (nmF (filN (wtN (nA f) n) n)) (n : Int), ?_, stEq_mk rfl (mRow (fil_all _) (mSame rfl mNil))⟩
    refine (ws_r n f e0 _ n).trans ?_
    rw [decide_eq_false (by omega), cond_false]
noncomputable def wsC (n : Nat) (f : Nat → List Value) (e0 : Nat) (W : Nat → Nat) : Cfg := ⟨tab, wsS, 28, [([1, 1, 1, 0, 1, 0], atSt wsNt wsNi 14 (wsSt n f e0 (nmF (filN W 0)) 0) (.exit 0) (wsSt n f e0 (nmF W) (n : Int)))]⟩
theorem ws_ev (n : Nat) (f : Nat → List Value) (W : Nat → Nat) (es : Nat → Nat) (id : Nat) : fnMS (wsC n f (es 0) W) 60 Try.f13 (bodyOf Try.f13) (cArgs [.sl kN4 n f] 0) (cMem es [.sl kN4 n f] 0) 0 id =
    req (kb4 n && okV n (sg4 n f)) (bif ckN (nA (sg4 n f)) n != 0 then some (.tuple #[.slice none 0 0, i64 (ckN (nA (sg4 n f)) n)], []) else
      req (mk4 (n : Int)) (req (stEq (wsSt n f (es 0) (fun _ => [u64 0, u64 0, u64 0, u64 0]) 0) (wsSt n f (es 0) (nmF (filN W 0)) 0)) (req (Nat.ble n n) (some (.tuple #[nSl id n, i64 0], rw4 25 id n (nmF W)))))) := by kernel_rfl
theorem ws_msum : MSum Try.prog 13 (WsF 25) := by
  intro w0 R fm w hm vs args' hl mm hsub id hlt v l hpick hnew
  match vs, hl, hpick with
  | [a], hl, hpick =>
    simp only [WsF, pickM] at hpick
    generalize hqa : srcB mm kN4 a = qa at hpick
    obtain ⟨ok1, n, f⟩ := qa
    simp only at hpick
    cases ok1 with
    | false => simp at hpick
    | true =>
    cases hn : okV n f with
    | false => rw [hn] at hpick; simp at hpick
    | true =>
    rw [hn, Bool.true_and, Bool.true_and, Bool.true_and] at hpick
    have hn1 := (okV_iff.1 hn).1
    by_cases h : ckN (nA f) n = 0
    · rw [h, show ((0 : Int) != 0) = false from rfl, show ((0 : Int) == 0) = true from rfl, cond_false, cond_true] at hpick
      simp only [Option.some.injEq, Prod.mk.injEq] at hpick
      obtain ⟨rfl, rfl⟩ := hpick
      refine msum_at (c := bodyOf Try.f13) (fuel := 60) (next := 0) Try.func13 (by kernel_rfl) (by kernel_rfl) hm hl hsub hlt (A := [.sl kN4 n f]) ⟨hqa, trivial⟩ (by show 1 ≤ Try.f13.ntmps; decide +kernel) (.inr ⟨_, rfl⟩) hnew (fun es => ?_)
      refine ⟨wsC n f (es 0) (wtN (nA f) n), ⟨mixed, tabOk, wsS_ok, oneL (ws_loop hn)⟩, rfl, ?_⟩
      refine (ws_ev n f _ es id).trans ?_
      rw [kb4_true, okV_sg, hn, req_true (b := true && true) rfl, nA_sg, h, show ((0 : Int) != 0) = false from rfl, cond_false, mk4_true (by omega), req_true rfl]
      refine (req_true (stEq_mk rfl (mRow (fil_zero _) (mSame rfl mNil)))).trans ?_
      rw [bE (Nat.le_refl _), req_true rfl]
    · rw [show (ckN (nA f) n != 0) = true from by rw [bne_iff_ne]; exact h, cond_true] at hpick
      simp only [Option.some.injEq, Prod.mk.injEq] at hpick
      obtain ⟨rfl, rfl⟩ := hpick
      refine msum_at (c := bodyOf Try.f13) (fuel := 60) (next := 0) Try.func13 (by kernel_rfl) (by kernel_rfl) hm hl hsub hlt (A := [.sl kN4 n f]) ⟨hqa, trivial⟩ (by show 1 ≤ Try.f13.ntmps; decide +kernel) (.inl rfl) hnew (fun es => ?_)
      refine ⟨wsC n f (es 0) (wtN (nA f) n), ⟨mixed, tabOk, wsS_ok, oneL (ws_loop hn)⟩, rfl, ?_⟩
      refine (ws_ev n f _ es id).trans ?_
      rw [kb4_true, okV_sg, hn, req_true (b := true && true) rfl, nA_sg, show (ckN (nA f) n != 0) = true from by rw [bne_iff_ne]; exact h, cond_true]
  | [], _, h => simp [WsF, pickM] at h
  | _ :: _ :: _, _, h => simp [WsF, pickM] at h

noncomputable def zeS : Sums := [(45, PlaF 25), (13, WsF 25), (38, PMulF), (37, PAddF)]
theorem zeS_ok : SumsOk Try.prog zeS := sums_consM pl_msum (sums_consM ws_msum (sums_cons pm_sum (sums_cons pa_sum sums_nil)))
noncomputable def zeC0 : Cfg := ⟨tab, zeS, 37, []⟩
theorem ze_at : codeAt [1, 1, 1, 1, 0, 1, 0] (bodyOf Try.f15) = some (.loop (loopAt [1, 1, 1, 1, 0, 1, 0] (bodyOf Try.f15))) := by kernel_rfl
def zeNt : List Nat := [0, 2, 4, 6, 19, 20, 21]
def zeB : Nat := nid 4 0
def zeNi : List Nat := [0, 12, zeB, 1500000]
def zeSt (n : Nat) (f : Nat → List Value) (e0 m : Nat) (g : Nat → List Value) (Y : Nat) (k : Int) : St :=
  ⟨[(0, aSl 0 n), (2, ptr 0), (4, .slice (some ⟨zeB, 0, none⟩) m m), (6, ptr 12), (19, aSl 0 n), (20, i64 (n : Nat)), (21, i64 k)], [(0, ⟨cells4 0, 25, true⟩), (12, ⟨cells4 Y, 25, true⟩), (zeB, ⟨.row kN4 m g, 25, true⟩), (1500000, ⟨.row kN8 n f, e0, false⟩)], 16⟩
theorem ze_r (n : Nat) (V : Nat → Nat × Nat) (e0 m : Nat) (W : Nat → Nat) (Y k : Nat) : roundS zeC0 60 [1, 1, 1, 1, 0, 1, 0, 0] (loopAt [1, 1, 1, 1, 0, 1, 0] (bodyOf Try.f15)) zeNt zeNi 16 zeNt zeNi 16 (zeSt n (shF V) e0 m (nmF W) Y (k : Int)) =
    bif decide ((k : Int) < (n : Int)) then rdR k n (rdR k m (r2 (num (V (0 + k)).2) (num (W (0 + k))) (r2 (num Y) (num (vM (num (V (0 + k)).2) (num (W (0 + k))))) (some (.normal, zeSt n (shF V) e0 m (nmF W) (vA (num Y) (num (vM (num (V (0 + k)).2) (num (W (0 + k)))))) (IntKind.i64.wrap ((k : Int) + 1)))))))
    else some (.exit 0, zeSt n (shF V) e0 m (nmF W) Y (k : Int)) := by kernel_rfl
theorem ze_loop {n : Nat} {V : Nat → Nat × Nat} {e0 : Nat} {W : Nat → Nat} (hn : n ≤ 1000) (hV : ∀ j, j < n → (V j).2 < 2 ^ 256) (hW : ∀ j, j < n → W j < 2 ^ 256) : LoopOk Try.prog 37 (loopAt [1, 1, 1, 1, 0, 1, 0] (bodyOf Try.f15)) (atSt zeNt zeNi 16 (zeSt n (shF V) e0 n (nmF W) 0 0) (.exit 0) (zeSt n (shF V) e0 n (nmF W) (zsN (fun j => (V j).2) W n) (n : Int))) := by
  refine loopE (fun _ => zeC0) n (fun _ _ => ⟨mixed, tabOk, zeS_ok, noL⟩) (fun _ => rfl) ze_at (m := 60) (nt := zeNt) (ni := zeNi) (et := zeNt) (ei := zeNi) (nx := 16) (ex := 16) (fun k => zeSt n (shF V) e0 n (nmF W) (zsN (fun j => (V j).2) W k) (k : Int)) rfl (by intro h; cases h) ?_ ?_
  · intro k hk
    refine ⟨_, ?_, stEq_refl rfl⟩
    refine (ze_r n V e0 n W _ k).trans ?_
    rw [decide_eq_true (by omega), cond_true, rdR_eq hk, rdR_eq hk, r2_num, r2_num, wrap_i64 (by omega), Nat.zero_add, vM_num (hV k hk) (hW k hk), vA_num (p_lt (zsN_p _ _ _)) (nMul_l _ _)]; rfl
  · refine ⟨_, ?_, stEq_refl rfl⟩
    refine (ze_r n V e0 n W _ n).trans ?_
    rw [decide_eq_false (by omega), cond_false]
noncomputable def zeC (n : Nat) (V : Nat → Nat × Nat) (e0 m : Nat) (W : Nat → Nat) (Z : Nat) : Cfg := ⟨tab, zeS, 37, [([1, 1, 1, 1, 0, 1, 0], atSt zeNt zeNi 16 (zeSt n (shF V) e0 m (nmF W) 0 0) (.exit 0) (zeSt n (shF V) e0 m (nmF W) Z (n : Int)))]⟩
noncomputable def zeP (n : Nat) (f : Nat → List Value) : Nat → Nat := nA (sg4 (plM n) (nmF (xA (sg8 n f))))
noncomputable def zeO (n : Nat) (f : Nat → List Value) : Bool := kb4 (plM n) && okV (plM n) (sg4 (plM n) (nmF (xA (sg8 n f))))
theorem ze_ev (n : Nat) (f : Nat → List Value) (V : Nat → Nat × Nat) (W : Nat → Nat) (Z : Nat) (es : Nat → Nat) (id : Nat) : fnMS (zeC n V (es 0) (plM n) W Z) 60 Try.f15 (bodyOf Try.f15) (cArgs [.sl kN8 n f] 0) (cMem es [.sl kN8 n f] 0) 0 id =
    req (kb4 n && okS n (sg8 n f)) (bif zeO n f && (ckN (zeP n f) (plM n) != 0) then (bif ckN (zeP n f) (plM n) != 0 then some (.tuple #[num 0, i64 (ckN (zeP n f) (plM n))], []) else none) else
      req (zeO n f && (ckN (zeP n f) (plM n) == 0)) (req (stEq (zeSt n f (es 0) (plM n) (nmF (wtN (zeP n f) (plM n))) 0 0) (zeSt n (shF V) (es 0) (plM n) (nmF W) 0 0)) (some (.tuple #[num Z, i64 0], [])))) := by kernel_rfl
theorem ze_ev' (n : Nat) (f : Nat → List Value) (V : Nat → Nat × Nat) (W : Nat → Nat) (Z : Nat) (es : Nat → Nat) (id : Nat) : fnMS (zeC n V (es 0) n W Z) 60 Try.f15 (bodyOf Try.f15) (cArgs [.sl kN8 n f] 0) (cMem es [.sl kN8 n f] 0) 0 id =
    req (kb4 n && okS n (sg8 n f)) (bif zeO n f && (ckN (zeP n f) (plM n) != 0) then (bif ckN (zeP n f) (plM n) != 0 then some (.tuple #[num 0, i64 (ckN (zeP n f) (plM n))], []) else none) else
      req (zeO n f && (ckN (zeP n f) (plM n) == 0)) (req (stEq (zeSt n f (es 0) (plM n) (nmF (wtN (zeP n f) (plM n))) 0 0) (zeSt n (shF V) (es 0) n (nmF W) 0 0)) (some (.tuple #[num Z, i64 0], [])))) := by kernel_rfl
theorem ze_msum : MSum Try.prog 15 ZeF := by
  intro w0 R fm w hm vs args' hl mm hsub id hlt v l hpick hnew
  match vs, hl, hpick with
  | [a], hl, hpick =>
    obtain ⟨hc, rfl, rfl⟩ := pick_one hpick
    simp only [Bool.and_eq_true] at hc
    obtain ⟨ha, hn⟩ := hc
    generalize hqa : srcB mm kN8 a = qa at ha hn hnew ⊢
    obtain ⟨ok1, n, f⟩ := qa
    simp only at ha hn hnew ⊢
    subst ha
    have hn1 := (okS_iff.1 hn).1
    have hp := plM_eq n
    have hO : zeO n f = true := by
      unfold zeO
      rw [kb4_true, okV_sg, okV_nm (by omega)]; rfl
    have hX : ∀ j, j < plM n → zeP n f j = xA f j := fun j hj => by
      have hj2 : j < n := by omega
      unfold zeP
      rw [nA_sg, show xA (sg8 n f) = xA f from funext fun j => congrArg Prod.fst (congrFun (sA_sg n f) j), nA_nm (el8_num hn hj2).2.1]
    have hck : ckN (zeP n f) (plM n) = ckN (xA f) n := by rw [ckN_congr hX, ckN_plM]
    refine msum_at (c := bodyOf Try.f15) (fuel := 60) (next := 0) Try.func15 (by kernel_rfl) (by kernel_rfl) hm hl hsub hlt (A := [.sl kN8 n f]) ⟨hqa, trivial⟩ (by show 1 ≤ Try.f15.ntmps; decide +kernel) (.inl rfl) hnew (fun es => ?_)
    by_cases h : ckN (xA f) n = 0
    · obtain ⟨h1, h2, h3⟩ := ckN_zero h
      have hpn : plM n = n := by omega
      refine ⟨zeC n (sA f) (es 0) (plM n) (wtN (xA f) n) (zsN (yA f) (wtN (xA f) n) n), ⟨mixed, tabOk, zeS_ok, oneL (by rw [hpn]; exact ze_loop hn1 (fun j hj => (el8_num hn hj).2.2.2) (fun j _ => wtN_l _ _ _))⟩, rfl, ?_⟩
      refine (ze_ev n f _ _ _ es id).trans ?_
      rw [kb4_true, okS_sg, hn, req_true (b := true && true) rfl, hck, h, hO, show (true && ((0 : Int) != 0)) = false from rfl, cond_false, req_true (b := true && ((0 : Int) == 0)) rfl, zeN_ok h]
      refine req_true (stEq_mk rfl (mSame rfl (mSame rfl (mRow ?_ (mRow (row_sh hn) mNil)))))
      intro j hj
      show nrmK kN4 (nmL _) = nrmK kN4 (nmL _)
      rw [hpn] at hX hj ⊢
      rw [wtN_congr hj hX]
    · have hne : (ckN (xA f) n != 0) = true := by rw [bne_iff_ne]; exact h
      refine ⟨zeC n (sA f) (es 0) n (wtN (xA f) n) (zsN (yA f) (wtN (xA f) n) n), ⟨mixed, tabOk, zeS_ok, oneL (ze_loop hn1 (fun j hj => (el8_num hn hj).2.2.2) (fun j _ => wtN_l _ _ _))⟩, rfl, ?_⟩
      refine (ze_ev' n f _ _ _ es id).trans ?_
      rw [kb4_true, okS_sg, hn, req_true (b := true && true) rfl, hck, hO, hne, show (true && true) = true from rfl, cond_true, cond_true, zeN_no h]
  | [], _, h => simp [ZeF, pickM] at h
  | _ :: _ :: _, _, h => simp [ZeF, pickM] at h

end Go.Proofs.Ytbklbmiddacaiaa

/-
  What wakes the statements of layer 6.
-/
namespace Go.Proofs.Ytbklbmiddacaiaa
set_option maxRecDepth 100000
open Go.W

noncomputable def wk6C : Cfg := ⟨tab, [(15, ZeF)], 21, []⟩
theorem wk6Ok : CfgOk Try.prog wk6C (bodyOf Try.f19) := ⟨mixed, tabOk, sums_consM ze_msum sums_nil, noL⟩
theorem wk6_ev : fnS wk6C 60 Try.f19 (bodyOf Try.f19) [] = req (true && okS 2 wk6F) (bif ckN (xA wk6F) 2 == 0 then some (.bool (eqV (num (zeN (xA wk6F) (yA wk6F) 2)) (num 2))) else some (.bool false)) := by kernel_rfl
theorem wk6_sum : Sum Try.prog 19 Wk6F := by
  refine sum_of wk6Ok Try.func19 (by kernel_rfl) (by kernel_rfl) rfl (fuel := 60) fun args v h _ => ?_
  unfold Wk6F at h
  split at h
  · simp only [Option.some.injEq, Prod.mk.injEq, true_and] at h
    subst h
    exact ⟨by show 0 ≤ Try.f19.ntmps; exact Nat.zero_le _, wk6_ev.trans (by rw [wk6_ok, req_true (b := true && true) rfl, wk6_ck, wk6_ze]; rfl), rfl⟩
  · simp at h

end Go.Proofs.Ytbklbmiddacaiaa

/-
  Package poly: the polynomial through shares.
-/
namespace Go.Proofs.Ytbklbmiddacaiaa
set_option maxRecDepth 100000
open Go.W

noncomputable def vaS : Sums := [(38, PMulF), (70, PSubF)]
theorem vaS_ok : SumsOk Try.prog vaS := sums_cons pm_sum (sums_cons ps_sum sums_nil)
noncomputable def vaC0 : Cfg := ⟨tab, vaS, 53, []⟩
theorem va_at : codeAt [1, 1, 1, 0, 1, 0] (bodyOf Try.f47) = some (.loop (loopAt [1, 1, 1, 0, 1, 0] (bodyOf Try.f47))) := by kernel_rfl
theorem vb_at : codeAt [1, 1, 1, 0, 1, 0, 0, 1, 1, 0, 0, 1, 0, 1, 0] (bodyOf Try.f47) = some (.loop (loopAt [1, 1, 1, 0, 1, 0, 0, 1, 1, 0, 0, 1, 0, 1, 0] (bodyOf Try.f47))) := by kernel_rfl
def vaB : Nat := nid 4 0
def vaNt : List Nat := [0, 3, 14, 15, 16]
def vaNi : List Nat := [vaB, 1500000]
def vaSt (n : Nat) (f : Nat → List Value) (e0 q : Nat) (g : Nat → List Value) (i : Int) : St :=
  ⟨[(0, aSl 0 n), (3, .slice (some ⟨vaB, 0, none⟩) q q), (14, aSl 0 n), (15, i64 (n : Nat)), (16, i64 i)], [(vaB, ⟨.row kN4 q g, 25, true⟩), (1500000, ⟨.row kN4 n f, e0, false⟩)], 13⟩
def vbNt : List Nat := [0, 3, 5, 6, 14, 15, 16]
def vbNi : List Nat := [17, vaB, 1500000]
def vbSt (n : Nat) (f : Nat → List Value) (e0 q : Nat) (g : Nat → List Value) (x : Nat) (i k : Int) : St :=
  ⟨[(0, aSl 0 n), (3, .slice (some ⟨vaB, 0, none⟩) q q), (5, ptr 17), (6, i64 k), (14, aSl 0 n), (15, i64 (n : Nat)), (16, i64 i)], [(17, ⟨cells4 x, 25, true⟩), (vaB, ⟨.row kN4 q g, 25, true⟩), (1500000, ⟨.row kN4 n f, e0, false⟩)], 23⟩
theorem vb_r (n : Nat) (f : Nat → List Value) (e0 q : Nat) (V : Nat → Nat) (x : Nat) (i : Int) (k : Nat) : roundS vaC0 60 [1, 1, 1, 0, 1, 0, 0, 1, 1, 0, 0, 1, 0, 1, 0, 0] (loopAt [1, 1, 1, 0, 1, 0, 0, 1, 1, 0, 0, 1, 0, 1, 0] (bodyOf Try.f47)) vbNt vbNi 23 vbNt vbNi 23 (vbSt n f e0 q (nmF V) x i (k : Int)) =
    bif decide ((k : Int) > 0) then rdI (IntKind.i64.wrap ((k : Int) - 1)) q (rdR k q (r2 (num (V (0 + k))) (num x) (r2 (num (V (0 + (IntKind.i64.wrap ((k : Int) - 1)).toNat))) (num (vM (num (V (0 + k))) (num x))) (rdR k q
      (some (.normal, vbSt n f e0 q (updR (nmF V) (0 + k) (cells4 (vS (num (V (0 + (IntKind.i64.wrap ((k : Int) - 1)).toNat))) (num (vM (num (V (0 + k))) (num x)))))) x i (IntKind.i64.wrap ((k : Int) - 1))))))))
    else some (.exit 2, vbSt n f e0 q (nmF V) x i (k : Int)) := by kernel_rfl
theorem vb_loop {n : Nat} {f : Nat → List Value} {e0 q : Nat} {V : Nat → Nat} {x i : Nat} (hq : i + 1 < q) (hn : q ≤ 2000) (hx : x < 2 ^ 256) (hV : ∀ k, V k < 2 ^ 256) : LoopOk Try.prog 53 (loopAt [1, 1, 1, 0, 1, 0, 0, 1, 1, 0, 0, 1, 0, 1, 0] (bodyOf Try.f47)) (atSt vbNt vbNi 23 (vbSt n f e0 q (nmF (vbN V x i 0)) x (i : Int) ((i + 1 : Nat) : Int)) (.exit 2) (vbSt n f e0 q (nmF (vbN V x i (i + 1))) x (i : Int) 0)) := by
  refine loopE (fun _ => vaC0) (i + 1) (fun _ _ => ⟨mixed, tabOk, vaS_ok, noL⟩) (fun _ => rfl) vb_at (m := 60) (nt := vbNt) (ni := vbNi) (et := vbNt) (ei := vbNi) (nx := 23) (ex := 23) (fun j => vbSt n f e0 q (nmF (vbN V x i j)) x (i : Int) ((i + 1 - j : Nat) : Int)) rfl (by intro h; cases h) ?_ ?_
  · intro j hj
    refine ⟨vbSt n f e0 q (updR (nmF (vbN V x i j)) (i + 1 - j) (cells4 (nSub (V (i - j)) (nMul (V (i + 1 - j)) x)))) x (i : Int) ((i + 1 - (j + 1) : Nat) : Int), ?_, stEq_mk rfl (mSame rfl (mRow (vb_row (by omega)) (mSame rfl mNil)))⟩
    refine (vb_r n f e0 q _ x (i : Int) (i + 1 - j)).trans ?_
    have e : IntKind.i64.wrap (((i + 1 - j : Nat) : Int) - 1) = ((i - j : Nat) : Int) := by rw [wrap_i64 (by omega)]; omega
    have h1 : vbN V x i j (i + 1 - j) = V (i + 1 - j) := by unfold vbN; rw [if_neg (by omega)]
    have h2 : vbN V x i j (i - j) = V (i - j) := by unfold vbN; rw [if_neg (by omega)]
    rw [decide_eq_true (by omega), cond_true, e, rdI_eq rfl (by omega), rdR_eq (by omega), r2_num, r2_num, rdR_eq (by omega), Int.toNat_natCast, Nat.zero_add, Nat.zero_add, h1, h2, vM_num (hV _) hx, vS_num (hV _) (nMul_l _ _), show i + 1 - (j + 1) = i - j from by omega]
  · refine ⟨_, ?_, stEq_refl rfl⟩
    simp only [Nat.sub_self]
    exact vb_r n f e0 q _ x (i : Int) 0
noncomputable def vaCk (n : Nat) (f : Nat → List Value) (e0 q : Nat) (V : Nat → Nat) (x i : Nat) : Cfg := ⟨tab, vaS, 53, [([1, 1, 1, 0, 1, 0, 0, 1, 1, 0, 0, 1, 0, 1, 0], atSt vbNt vbNi 23 (vbSt n f e0 q (nmF (vbN V x i 0)) x (i : Int) ((i + 1 : Nat) : Int)) (.exit 2) (vbSt n f e0 q (nmF (vbN V x i (i + 1))) x (i : Int) 0))]⟩
noncomputable def vaC1 : Cfg := ⟨tab, vaS, 53, [([1, 1, 1, 0, 1, 0, 0, 1, 1, 0, 0, 1, 0, 1, 0], fun _ => [])]⟩
theorem va_r (n : Nat) (X : Nat → Nat) (e0 q : Nat) (V : Nat → Nat) (x i : Nat) : roundS (vaCk n (nmF X) e0 q V x i) 60 [1, 1, 1, 0, 1, 0, 0] (loopAt [1, 1, 1, 0, 1, 0] (bodyOf Try.f47)) vaNt vaNi 13 vaNt vaNi 13 (vaSt n (nmF X) e0 q (nmF V) (i : Int)) =
    bif decide ((i : Int) < (n : Int)) then rdR i n (req (stEq (vbSt n (nmF X) e0 q (nmF V) (X (0 + i)) (i : Int) (IntKind.i64.wrap ((i : Int) + 1))) (vbSt n (nmF X) e0 q (nmF (vbN V x i 0)) x (i : Int) ((i + 1 : Nat) : Int)))
      (req (inR 0 q) (req (Nat.blt 0 q && true) (r2 (num (vbN V x i (i + 1) 0)) (num x) (r2 (num 0) (num (vM (num (vbN V x i (i + 1) 0)) (num x))) (req (inR 0 q) (req (Nat.blt 0 q && true) (some (.normal, vaSt n (nmF X) e0 q (updR (nmF (vbN V x i (i + 1))) 0 (cells4 (vS (num 0) (num (vM (num (vbN V x i (i + 1) 0)) (num x)))))) (IntKind.i64.wrap ((i : Int) + 1)))))))))))
    else some (.exit 0, vaSt n (nmF X) e0 q (nmF V) (i : Int)) := by kernel_rfl
theorem va_out (n : Nat) (X : Nat → Nat) (e0 q : Nat) (V : Nat → Nat) (i : Nat) : roundS vaC1 60 [1, 1, 1, 0, 1, 0, 0] (loopAt [1, 1, 1, 0, 1, 0] (bodyOf Try.f47)) vaNt vaNi 13 vaNt vaNi 13 (vaSt n (nmF X) e0 q (nmF V) (i : Int)) =
    bif decide ((i : Int) < (n : Int)) then rdR i n none else some (.exit 0, vaSt n (nmF X) e0 q (nmF V) (i : Int)) := by kernel_rfl
theorem va_loop {n : Nat} {X : Nat → Nat} {e0 : Nat} (hn : n ≤ 1000) (hX : ∀ j, j < n → X j < 2 ^ 256) : LoopOk Try.prog 53 (loopAt [1, 1, 1, 0, 1, 0] (bodyOf Try.f47)) (atSt vaNt vaNi 13 (vaSt n (nmF X) e0 (n + 1) (nmF (vaN X 0)) 0) (.exit 0) (vaSt n (nmF X) e0 (n + 1) (nmF (vaN X n)) (n : Int))) := by
  refine loopE (fun i => if i < n then vaCk n (nmF X) e0 (n + 1) (vaN X i) (X i) i else vaC1) n ?_ (fun k => by by_cases h : k < n <;> simp only [h, if_true, if_false] <;> rfl) va_at (m := 60) (nt := vaNt) (ni := vaNi) (et := vaNt) (ei := vaNi) (nx := 13) (ex := 13) (fun i => vaSt n (nmF X) e0 (n + 1) (nmF (vaN X i)) (i : Int)) rfl (by intro h; cases h) ?_ ?_
  · intro k _
    by_cases h : k < n
    · rw [if_pos h]; exact ⟨mixed, tabOk, vaS_ok, oneL (vb_loop (by omega) (by omega) (hX k h) (vaN_l X k))⟩
    · rw [if_neg h]; exact ⟨mixed, tabOk, vaS_ok, noneL2⟩
  · intro i hi
    rw [if_pos hi]
    refine ⟨vaSt n (nmF X) e0 (n + 1) (updR (nmF (vbN (vaN X i) (X i) i (i + 1))) 0 (cells4 (nSub 0 (nMul (vaN X i 0) (X i))))) ((i + 1 : Nat) : Int), ?_, stEq_mk rfl (mRow va_row (mSame rfl mNil))⟩
    refine (va_r n X e0 (n + 1) _ _ i).trans ?_
    have e : vbN (vaN X i) (X i) i (i + 1) 0 = vaN X i 0 := by unfold vbN; rw [if_neg (by omega)]
    rw [decide_eq_true (by omega), cond_true, rdR_eq hi, wrap_i64 (by omega), Nat.zero_add]
    refine (req_true (stEq_mk rfl (mSame rfl (mRow (fun k _ => by show nrmK kN4 (nmL _) = nrmK kN4 (nmL _); rw [vbN_zero]) (mSame rfl mNil))))).trans ?_
    rw [show inR 0 (n + 1) = true from iR (i := 0) (by omega), req_true rfl, bL (by omega), req_true (b := true && true) rfl, r2_num, r2_num, req_true rfl, req_true (b := true && true) rfl, e, vM_num (vaN_l _ _ _) (hX i hi), vS_num (by decide) (nMul_l _ _)]; rfl
  · rw [if_neg (by omega)]
    refine ⟨_, ?_, stEq_refl rfl⟩
    refine (va_out n X e0 (n + 1) _ n).trans ?_
    rw [decide_eq_false (by omega), cond_false]
noncomputable def vaC (n : Nat) (X : Nat → Nat) (e0 q : Nat) : Cfg := ⟨tab, vaS, 53, [([1, 1, 1, 0, 1, 0], atSt vaNt vaNi 13 (vaSt n (nmF X) e0 q (nmF (vaN X 0)) 0) (.exit 0) (vaSt n (nmF X) e0 q (nmF (vaN X n)) (n : Int)))]⟩
theorem va_ev (n : Nat) (f : Nat → List Value) (X : Nat → Nat) (es : Nat → Nat) (id : Nat) : fnMS (vaC n X (es 0) (vaL n)) 60 Try.f47 (bodyOf Try.f47) (cArgs [.sl kN4 n f] 0) (cMem es [.sl kN4 n f] 0) 0 id =
    req (mk4 (IntKind.i64.wrap ((n : Int) + 1))) (req (inR 0 (vaL n)) (req (Nat.blt 0 (vaL n) && true) (req (stEq (vaSt n f (es 0) (vaL n) (updR (fun _ => [u64 0, u64 0, u64 0, u64 0]) 0 (cells4 1)) 0) (vaSt n (nmF X) (es 0) (vaL n) (nmF (vaN X 0)) 0)) (req (Nat.ble (vaL n) (vaL n)) (some (nSl id (vaL n), rw4 25 id (vaL n) (nmF (vaN X n)))))))) := by kernel_rfl
theorem va_msum : MSum Try.prog 47 (VaF 25) := by
  intro w0 R fm w hm vs args' hl mm hsub id hlt v l hpick hnew
  match vs, hl, hpick with
  | [a], hl, hpick =>
    obtain ⟨hc, rfl, rfl⟩ := pick_one hpick
    simp only [Bool.and_eq_true] at hc
    obtain ⟨ha, hn⟩ := hc
    generalize hqa : srcB mm kN4 a = qa at ha hn hnew ⊢
    obtain ⟨ok1, n, f⟩ := qa
    simp only at ha hn hnew ⊢
    subst ha
    have hn1 := (okV_iff.1 hn).1
    have hp := vaL_eq hn1
    refine msum_at (c := bodyOf Try.f47) (fuel := 60) (next := 0) Try.func47 (by kernel_rfl) (by kernel_rfl) hm hl hsub hlt (A := [.sl kN4 n f]) ⟨hqa, trivial⟩ (by show 1 ≤ Try.f47.ntmps; decide +kernel) (.inr ⟨_, rfl⟩) hnew (fun es => ?_)
    refine ⟨vaC n (nA f) (es 0) (vaL n), ⟨mixed, tabOk, vaS_ok, oneL (by rw [hp]; exact va_loop hn1 (fun j hj => (el_num hn hj).2))⟩, rfl, ?_⟩
    refine (va_ev n f _ es id).trans ?_
    rw [wrap_i64 (by omega), show (n : Int) + 1 = ((n + 1 : Nat) : Int) from by omega, mk4_true (by omega), req_true rfl, hp, show inR 0 (n + 1) = true from iR (i := 0) (by omega), req_true rfl, bL (by omega), req_true (b := true && true) rfl]
    refine (req_true (stEq_mk rfl (mRow va_start (mRow (row_nm hn) mNil)))).trans ?_
    rw [bE (Nat.le_refl _), req_true rfl]
  | [], _, h => simp [VaF, pickM] at h
  | _ :: _ :: _, _, h => simp [VaF, pickM] at h

noncomputable def woS : Sums := [(38, PMulF), (37, PAddF)]
theorem woS_ok : SumsOk Try.prog woS := sums_cons pm_sum (sums_cons pa_sum sums_nil)
noncomputable def woC0 : Cfg := ⟨tab, woS, 33, []⟩
theorem wo_at : codeAt [1, 1, 1, 0, 1, 0] (bodyOf Try.f48) = some (.loop (loopAt [1, 1, 1, 0, 1, 0] (bodyOf Try.f48))) := by kernel_rfl
def woB : Nat := nid 5 0
def woNt : List Nat := [0, 3, 5, 6, 7]
def woNi : List Nat := [0, 7, woB, 1500000]
def woSt (m : Nat) (f : Nat → List Value) (e0 q : Nat) (g : Nat → List Value) (a C : Nat) (k : Int) : St :=
  ⟨[(0, aSl 0 m), (3, ptr 0), (5, .slice (some ⟨woB, 0, none⟩) q q), (6, ptr 7), (7, i64 k)], [(0, ⟨cells4 a, 25, true⟩), (7, ⟨cells4 C, 25, true⟩), (woB, ⟨.row kN4 q g, 25, true⟩), (1500000, ⟨.row kN4 m f, e0, false⟩)], 12⟩
theorem wo_r (m : Nat) (V : Nat → Nat) (e0 q : Nat) (g : Nat → List Value) (a C k : Nat) : roundS woC0 60 [1, 1, 1, 0, 1, 0, 0] (loopAt [1, 1, 1, 0, 1, 0] (bodyOf Try.f48)) woNt woNi 12 woNt woNi 12 (woSt m (nmF V) e0 q g a C (k : Int)) =
    bif decide ((k : Int) ≥ 0) then rdI (IntKind.i64.wrap ((k : Int) + 1)) m (r2 (num C) (num a) (r2 (num (V (0 + (IntKind.i64.wrap ((k : Int) + 1)).toNat))) (num (vM (num C) (num a))) (rdR k q
      (some (.normal, woSt m (nmF V) e0 q (updR g (0 + k) (cells4 (vA (num (V (0 + (IntKind.i64.wrap ((k : Int) + 1)).toNat))) (num (vM (num C) (num a)))))) a (vA (num (V (0 + (IntKind.i64.wrap ((k : Int) + 1)).toNat))) (num (vM (num C) (num a)))) (IntKind.i64.wrap ((k : Int) - 1)))))))
    else some (.exit 0, woSt m (nmF V) e0 q g a C (k : Int)) := by kernel_rfl
theorem wo_r0 (m : Nat) (V : Nat → Nat) (e0 q : Nat) (g : Nat → List Value) (a C : Nat) : roundS woC0 60 [1, 1, 1, 0, 1, 0, 0] (loopAt [1, 1, 1, 0, 1, 0] (bodyOf Try.f48)) woNt woNi 12 woNt woNi 12 (woSt m (nmF V) e0 q g a C (-1)) = some (.exit 0, woSt m (nmF V) e0 q g a C (-1)) := by kernel_rfl
theorem wo_loop {n : Nat} {V : Nat → Nat} {e0 a : Nat} (hn : n ≤ 1000) (hV : ∀ j, j < n + 1 → V j < 2 ^ 256) (ha : a < 2 ^ 256) : LoopOk Try.prog 33 (loopAt [1, 1, 1, 0, 1, 0] (bodyOf Try.f48)) (atSt woNt woNi 12 (woSt (n + 1) (nmF V) e0 n (nmF (wbN V n a 0)) a 0 ((n : Int) - 1)) (.exit 0) (woSt (n + 1) (nmF V) e0 n (nmF (woN V n a)) a (cyN V a n n) (-1))) := by
  refine loopE (fun _ => woC0) n (fun _ _ => ⟨mixed, tabOk, woS_ok, noL⟩) (fun _ => rfl) wo_at (m := 60) (nt := woNt) (ni := woNi) (et := woNt) (ei := woNi) (nx := 12) (ex := 12) (fun j => woSt (n + 1) (nmF V) e0 n (nmF (wbN V n a j)) a (cyN V a n j) ((n : Int) - 1 - (j : Int))) (by rw [show (n : Int) - 1 - ((0 : Nat) : Int) = (n : Int) - 1 from by omega]; rfl) (by intro h; cases h) ?_ ?_
  · intro j hj
    refine ⟨woSt (n + 1) (nmF V) e0 n (updR (nmF (wbN V n a j)) (n - 1 - j) (cells4 (cyN V a n (j + 1)))) a (cyN V a n (j + 1)) ((n : Int) - 1 - ((j + 1 : Nat) : Int)), ?_, stEq_mk rfl (mSame rfl (mSame rfl (mRow (wb_row hj) (mSame rfl mNil))))⟩
    have e : (n : Int) - 1 - (j : Int) = ((n - 1 - j : Nat) : Int) := by omega
    simp only [e]
    refine (wo_r (n + 1) V e0 n _ a _ (n - 1 - j)).trans ?_
    have e1 : IntKind.i64.wrap (((n - 1 - j : Nat) : Int) + 1) = ((n - j : Nat) : Int) := by rw [wrap_i64 (by omega)]; omega
    rw [decide_eq_true (by omega), cond_true, e1, rdI_eq rfl (by omega), r2_num, r2_num, rdR_eq (by omega), Int.toNat_natCast, Nat.zero_add, Nat.zero_add, vM_num (p_lt (cyN_p _ _ _ _)) ha, vA_num (hV _ (by omega)) (nMul_l _ _), wrap_i64 (by omega), show ((n - 1 - j : Nat) : Int) - 1 = (n : Int) - 1 - ((j + 1 : Nat) : Int) from by omega]; rfl
  · refine ⟨woSt (n + 1) (nmF V) e0 n (nmF (wbN V n a n)) a (cyN V a n n) (-1), ?_, stEq_mk rfl (mSame rfl (mSame rfl (mRow wb_all (mSame rfl mNil))))⟩
    simp only [show (n : Int) - 1 - ((n : Nat) : Int) = -1 from by omega]
    exact wo_r0 (n + 1) V e0 n _ a _
noncomputable def woC (m : Nat) (V : Nat → Nat) (e0 q a n C : Nat) : Cfg := ⟨tab, woS, 33, [([1, 1, 1, 0, 1, 0], atSt woNt woNi 12 (woSt m (nmF V) e0 q (nmF (wbN V n a 0)) a 0 ((n : Int) - 1)) (.exit 0) (woSt m (nmF V) e0 q (nmF (woN V n a)) a C (-1)))]⟩
theorem wo_ev (m : Nat) (f : Nat → List Value) (V : Nat → Nat) (a n C : Nat) (es : Nat → Nat) (id : Nat) : fnMS (woC m V (es 0) (woL m) a n C) 60 Try.f48 (bodyOf Try.f48) (cArgs [.sl kN4 m f, .pl (num a)] 0) (cMem es [.sl kN4 m f, .pl (num a)] 0) 0 id =
    req (mk4 (IntKind.i64.wrap ((m : Int) - 1))) (req (stEq (woSt m f (es 0) (woL m) (fun _ => [u64 0, u64 0, u64 0, u64 0]) a 0 (IntKind.i64.wrap ((woL m : Int) - 1))) (woSt m (nmF V) (es 0) (woL m) (nmF (wbN V n a 0)) a 0 ((n : Int) - 1))) (req (Nat.ble (woL m) (woL m)) (some (nSl id (woL m), rw4 25 id (woL m) (nmF (woN V n a)))))) := by kernel_rfl
theorem wo_msum : MSum Try.prog 48 (WoF 25) := by
  intro w0 R fm w hm vs args' hl mm hsub id hlt v l hpick hnew
  match vs, hl, hpick with
  | [a, x], hl, hpick =>
    obtain ⟨hc, rfl, rfl⟩ := pick_one hpick
    simp only [Bool.and_eq_true] at hc
    obtain ⟨⟨⟨ha, hn⟩, hx⟩, h1⟩ := hc
    generalize hqa : srcB mm kN4 a = qa at ha hn h1 hnew ⊢
    obtain ⟨ok1, m, f⟩ := qa
    simp only at ha hn h1 hnew ⊢
    subst ha
    obtain ⟨X, hX, rfl⟩ := isNum_some hx
    have h1 := Nat.le_of_ble_eq_true h1
    obtain ⟨n, rfl⟩ : ∃ n, m = n + 1 := ⟨m - 1, by omega⟩
    have hn1 := (okV_iff.1 hn).1
    have hp : woL (n + 1) = n := woL_eq (m := n + 1) (by omega)
    rw [unnum_lt hX] at hnew ⊢
    refine msum_at (c := bodyOf Try.f48) (fuel := 60) (next := 0) Try.func48 (by kernel_rfl) (by kernel_rfl) hm hl hsub hlt (A := [.sl kN4 (n + 1) f, .pl (num X)]) ⟨hqa, rfl, rfl, trivial⟩ (by show 2 ≤ Try.f48.ntmps; decide +kernel) (.inr ⟨_, rfl⟩) hnew (fun es => ?_)
    refine ⟨woC (n + 1) (nA f) (es 0) (woL (n + 1)) X n (cyN (nA f) X n n), ⟨mixed, tabOk, woS_ok, oneL (by rw [hp]; exact wo_loop (by omega) (fun j hj => (el_num hn hj).2) hX)⟩, rfl, ?_⟩
    refine (wo_ev (n + 1) f _ X n _ es id).trans ?_
    rw [wrap_i64 (by omega), show ((n + 1 : Nat) : Int) - 1 = ((n : Nat) : Int) from by omega, mk4_true (by omega), req_true rfl, hp, wrap_i64 (by omega)]
    refine (req_true (stEq_mk rfl (mSame rfl (mSame rfl (mRow wb_start (mRow (row_nm hn) mNil)))))).trans ?_
    rw [bE (Nat.le_refl _), req_true rfl]; rfl
  | [], _, h => simp [WoF, pickM] at h
  | [_], _, h => simp [WoF, pickM] at h
  | _ :: _ :: _ :: _, _, h => simp [WoF, pickM] at h

noncomputable def thS : Sums := [(45, PlaF 25), (41, CkpF), (47, VaF 25), (48, WoF 25), (10, EvF), (49, PInvF), (38, PMulF), (37, PAddF)]
theorem thS_ok : SumsOk Try.prog thS := sums_consM pl_msum (sums_consM ck_msum (sums_consM va_msum (sums_consM wo_msum (sums_consM ev_msum (sums_cons pi_sum (sums_cons pm_sum (sums_cons pa_sum sums_nil)))))))
noncomputable def thC0 : Cfg := ⟨tab, thS, 65, []⟩
theorem th_at : codeAt [1, 1, 1, 1, 1, 0, 1, 0] (bodyOf Try.f17) = some (.loop (loopAt [1, 1, 1, 1, 1, 0, 1, 0] (bodyOf Try.f17))) := by kernel_rfl
theorem ti_at : codeAt [1, 1, 1, 1, 1, 0, 1, 0, 0, 1, 1, 0, 0, 1, 1, 1, 1, 0] (bodyOf Try.f17) = some (.loop (loopAt [1, 1, 1, 1, 1, 0, 1, 0, 0, 1, 1, 0, 0, 1, 1, 1, 1, 0] (bodyOf Try.f17))) := by kernel_rfl
def thA : Nat := nid 11 0
def thB : Nat := nid 15 0
def thD : Nat := nid 28 0
def thNt : List Nat := [0, 6, 7, 25, 26, 27]
def thNi : List Nat := [thA, thB, 1500000]
def thSt (n : Nat) (f : Nat → List Value) (e0 q : Nat) (A : Nat → Nat) (g : Nat → List Value) (i : Int) : St :=
  ⟨[(0, aSl 0 n), (6, .slice (some ⟨thA, 0, none⟩) q q), (7, .slice (some ⟨thB, 0, none⟩) n n), (25, aSl 0 n), (26, i64 (n : Nat)), (27, i64 i)], [(thA, ⟨.row kN4 q (nmF A), 25, true⟩), (thB, ⟨.row kN4 n g, 25, true⟩), (1500000, ⟨.row kN8 n f, e0, false⟩)], 20⟩
def tiNt : List Nat := [0, 6, 7, 10, 11, 25, 26, 27, 43, 44, 45]
def tiNi : List Nat := [38, thA, thB, thD, 1500000]
def tiSt (n : Nat) (f : Nat → List Value) (e0 q : Nat) (A P : Nat → Nat) (T : Nat) (g : Nat → List Value) (i k : Int) : St :=
  ⟨[(0, aSl 0 n), (6, .slice (some ⟨thA, 0, none⟩) q q), (7, .slice (some ⟨thB, 0, none⟩) n n), (10, .slice (some ⟨thD, 0, none⟩) (q - 1) (q - 1)), (11, ptr 38), (25, aSl 0 n), (26, i64 (n : Nat)), (27, i64 i), (43, .slice (some ⟨thB, 0, none⟩) n n), (44, i64 (n : Nat)), (45, i64 k)],
   [(38, ⟨cells4 T, 25, true⟩), (thA, ⟨.row kN4 q (nmF A), 25, true⟩), (thB, ⟨.row kN4 n g, 25, true⟩), (thD, ⟨.row kN4 (q - 1) (nmF P), 25, true⟩), (1500000, ⟨.row kN8 n f, e0, false⟩)], 43⟩
theorem ti_r (n : Nat) (f : Nat → List Value) (e0 q : Nat) (A P : Nat → Nat) (T : Nat) (U : Nat → Nat) (i : Int) (k : Nat) : roundS thC0 60 [1, 1, 1, 1, 1, 0, 1, 0, 0, 1, 1, 0, 0, 1, 1, 1, 1, 0, 0] (loopAt [1, 1, 1, 1, 1, 0, 1, 0, 0, 1, 1, 0, 0, 1, 1, 1, 1, 0] (bodyOf Try.f17)) tiNt tiNi 43 tiNt tiNi 43 (tiSt n f e0 q A P T (nmF U) i (k : Int)) =
    bif decide ((k : Int) < (n : Int)) then rdR k n (rdR k (q - 1) (r2 (num T) (num (P (0 + k))) (r2 (num (U (0 + k))) (num (vM (num T) (num (P (0 + k))))) (rdR k n
      (some (.normal, tiSt n f e0 q A P T (updR (nmF U) (0 + k) (cells4 (vA (num (U (0 + k))) (num (vM (num T) (num (P (0 + k)))))))) i (IntKind.i64.wrap ((k : Int) + 1))))))))
    else some (.exit 2, tiSt n f e0 q A P T (nmF U) i (k : Int)) := by kernel_rfl
theorem ti_loop {n : Nat} {f : Nat → List Value} {e0 : Nat} {A P : Nat → Nat} {T : Nat} {U : Nat → Nat} {i : Int} (hn : n ≤ 1000) (hP : ∀ k, P k < 2 ^ 256) (hT : T < 2 ^ 256) (hU : ∀ k, U k < 2 ^ 256) : LoopOk Try.prog 65 (loopAt [1, 1, 1, 1, 1, 0, 1, 0, 0, 1, 1, 0, 0, 1, 1, 1, 1, 0] (bodyOf Try.f17)) (atSt tiNt tiNi 43 (tiSt n f e0 (n + 1) A P T (nmF (tcN U P T 0)) i 0) (.exit 2) (tiSt n f e0 (n + 1) A P T (nmF (tcN U P T n)) i (n : Int))) := by
  refine loopE (fun _ => thC0) n (fun _ _ => ⟨mixed, tabOk, thS_ok, noL⟩) (fun _ => rfl) ti_at (m := 60) (nt := tiNt) (ni := tiNi) (et := tiNt) (ei := tiNi) (nx := 43) (ex := 43) (fun j => tiSt n f e0 (n + 1) A P T (nmF (tcN U P T j)) i (j : Int)) rfl (by intro h; cases h) ?_ ?_
  · intro j hj
    refine ⟨tiSt n f e0 (n + 1) A P T (updR (nmF (tcN U P T j)) j (cells4 (nAdd (U j) (nMul T (P j))))) i ((j + 1 : Nat) : Int), ?_, stEq_mk rfl (mSame rfl (mSame rfl (mRow tc_row (mSame rfl (mSame rfl mNil)))))⟩
    refine (ti_r n f e0 (n + 1) A P T _ i j).trans ?_
    have e : tcN U P T j j = U j := by unfold tcN; rw [if_neg (by omega)]
    rw [decide_eq_true (by omega), cond_true, rdR_eq hj, rdR_eq (show j < n + 1 - 1 by omega), r2_num, r2_num, rdR_eq hj, Nat.zero_add, e, vM_num hT (hP j), vA_num (hU j) (nMul_l _ _), wrap_i64 (by omega)]; rfl
  · refine ⟨_, ?_, stEq_refl rfl⟩
    refine (ti_r n f e0 (n + 1) A P T _ i n).trans ?_
    rw [decide_eq_false (by omega), cond_false]
noncomputable def thCk (n : Nat) (f : Nat → List Value) (e0 q : Nat) (A P : Nat → Nat) (T : Nat) (U : Nat → Nat) (i : Int) : Cfg := ⟨tab, thS, 65, [([1, 1, 1, 1, 1, 0, 1, 0, 0, 1, 1, 0, 0, 1, 1, 1, 1, 0], atSt tiNt tiNi 43 (tiSt n f e0 q A P T (nmF (tcN U P T 0)) i 0) (.exit 2) (tiSt n f e0 q A P T (nmF (tcN U P T n)) i (n : Int)))]⟩
noncomputable def thC1 : Cfg := ⟨tab, thS, 65, [([1, 1, 1, 1, 1, 0, 1, 0, 0, 1, 1, 0, 0, 1, 1, 1, 1, 0], fun _ => [])]⟩
noncomputable def thW (q : Nat) (A : Nat → Nat) (x : Nat) : Nat → Nat := woN (nA (sg4 q (nmF A))) (q - 1) (unnum (num x))
noncomputable def thq {α : Type} (q : Nat) (A : Nat → Nat) (x y : Nat) (k : Nat → Option α) : Option α := req (kb4 q && okV q (sg4 q (nmF A)) && isNum (num x) && Nat.ble 1 q) (evq (q - 1) (nmF (thW q A x)) (num x) fun E => req (isNum (num E)) (r2 (num y) (num (vI (num E))) (k (vM (num y) (num (vI (num E)))))))
theorem th_r (n : Nat) (V : Nat → Nat × Nat) (e0 q : Nat) (A P : Nat → Nat) (T : Nat) (U : Nat → Nat) (g : Nat → List Value) (i : Nat) : roundS (thCk n (shF V) e0 q A P T U (i : Int)) 60 [1, 1, 1, 1, 1, 0, 1, 0, 0] (loopAt [1, 1, 1, 1, 1, 0, 1, 0] (bodyOf Try.f17)) thNt thNi 20 thNt thNi 20 (thSt n (shF V) e0 q A g (i : Int)) =
    bif decide ((i : Int) < (n : Int)) then rdR i n (thq q A (V (0 + i)).1 (V (0 + i)).2 fun T0 => req (stEq (tiSt n (shF V) e0 q A (thW q A (V (0 + i)).1) T0 g (i : Int) 0) (tiSt n (shF V) e0 q A P T (nmF (tcN U P T 0)) (i : Int) 0)) (some (.normal, thSt n (shF V) e0 q A (nmF (tcN U P T n)) (IntKind.i64.wrap ((i : Int) + 1)))))
    else some (.exit 0, thSt n (shF V) e0 q A g (i : Int)) := by kernel_rfl
theorem th_out (n : Nat) (V : Nat → Nat × Nat) (e0 q : Nat) (A : Nat → Nat) (g : Nat → List Value) (i : Nat) : roundS thC1 60 [1, 1, 1, 1, 1, 0, 1, 0, 0] (loopAt [1, 1, 1, 1, 1, 0, 1, 0] (bodyOf Try.f17)) thNt thNi 20 thNt thNi 20 (thSt n (shF V) e0 q A g (i : Int)) =
    bif decide ((i : Int) < (n : Int)) then rdR i n (thq q A (V (0 + i)).1 (V (0 + i)).2 fun _ => none) else some (.exit 0, thSt n (shF V) e0 q A g (i : Int)) := by kernel_rfl
theorem thW_eq {n : Nat} {A : Nat → Nat} {x : Nat} (hA : ∀ k, A k < 2 ^ 256) (hx : x < 2 ^ 256) : thW (n + 1) A x = woN A n x := by
  unfold thW
  rw [nA_sg, unnum_lt hx]
  exact woN_congr (fun j _ => nA_nm (hA j)) x
theorem thq_eq {α : Type} {n : Nat} {A : Nat → Nat} {x y : Nat} (hn : n ≤ 900) (hA : ∀ k, A k < 2 ^ 256) (hx : x < 2 ^ 256) (hy : y < 2 ^ 256) (k : Nat → Option α) : thq (n + 1) A x y k = k (nMul y (nInv (evN (woN A n x) n x))) := by
  unfold thq
  rw [kb4_true, okV_sg, okV_nm (by omega), isNum_num, bE (by omega), req_true (b := true && true && true && true) rfl, thW_eq hA hx, show n + 1 - 1 = n from rfl, evq_nm (by omega) (fun j _ => woN_l _ _ _ j) hx, isNum_num, req_true rfl, r2_num, vI_num (evN_l _ _ _), vM_num hy (nInv_l _)]
theorem th_loop {n : Nat} {V : Nat → Nat × Nat} {e0 : Nat} {A : Nat → Nat} (hn : n ≤ 900) (hA : ∀ k, A k < 2 ^ 256) (hV : ∀ j, j < n → (V j).1 < 2 ^ 256 ∧ (V j).2 < 2 ^ 256) : LoopOk Try.prog 65 (loopAt [1, 1, 1, 1, 1, 0, 1, 0] (bodyOf Try.f17)) (atSt thNt thNi 20 (thSt n (shF V) e0 (n + 1) A (nmF (thN A (sX V) (sY V) n 0)) 0) (.exit 0) (thSt n (shF V) e0 (n + 1) A (nmF (thN A (sX V) (sY V) n n)) (n : Int))) := by
  refine loopE (fun i => if i < n then thCk n (shF V) e0 (n + 1) A (woN A n (sX V i)) (tmN A (sX V) (sY V) n i) (thN A (sX V) (sY V) n i) (i : Int) else thC1) n ?_ (fun k => by by_cases h : k < n <;> simp only [h, if_true, if_false] <;> rfl) th_at (m := 60) (nt := thNt) (ni := thNi) (et := thNt) (ei := thNi) (nx := 20) (ex := 20) (fun i => thSt n (shF V) e0 (n + 1) A (nmF (thN A (sX V) (sY V) n i)) (i : Int)) rfl (by intro h; cases h) ?_ ?_
  · intro k _
    by_cases h : k < n
    · rw [if_pos h]; exact ⟨mixed, tabOk, thS_ok, oneL (ti_loop (by omega) (woN_l _ _ _) (nMul_l _ _) (fun k => p_lt (thN_p _ _ _ _ _ k)))⟩
    · rw [if_neg h]; exact ⟨mixed, tabOk, thS_ok, noneL2⟩
  · intro i hi
    rw [if_pos hi]
    refine ⟨thSt n (shF V) e0 (n + 1) A (nmF (tcN (thN A (sX V) (sY V) n i) (woN A n (sX V i)) (tmN A (sX V) (sY V) n i) n)) ((i + 1 : Nat) : Int), ?_, stEq_mk rfl (mSame rfl (mRow tc_all (mSame rfl mNil)))⟩
    refine (th_r n V e0 (n + 1) A _ _ _ _ i).trans ?_
    rw [decide_eq_true (by omega), cond_true, rdR_eq hi, Nat.zero_add, thq_eq hn hA (hV i hi).1 (hV i hi).2, thW_eq hA (hV i hi).1, wrap_i64 (by omega)]
    refine (req_true (stEq_mk rfl (mSame rfl (mSame rfl (mRow (fun k _ => by show nrmK kN4 (nmL _) = nrmK kN4 (nmL _); rw [tc_start]) (mSame rfl (mSame rfl mNil))))))).trans ?_
    rfl
  · rw [if_neg (by omega)]
    refine ⟨_, ?_, stEq_refl rfl⟩
    refine (th_out n V e0 (n + 1) A _ n).trans ?_
    rw [decide_eq_false (by omega), cond_false]
noncomputable def thC (n : Nat) (V : Nat → Nat × Nat) (e0 q : Nat) (A B C : Nat → Nat) : Cfg := ⟨tab, thS, 65, [([1, 1, 1, 1, 1, 0, 1, 0], atSt thNt thNi 20 (thSt n (shF V) e0 q A (nmF B) 0) (.exit 0) (thSt n (shF V) e0 q A (nmF C) (n : Int)))]⟩
theorem th_ev (n : Nat) (f : Nat → List Value) (V : Nat → Nat × Nat) (q : Nat) (A B C : Nat → Nat) (es : Nat → Nat) (id : Nat) : fnMS (thC n V (es 0) q A B C) 60 Try.f17 (bodyOf Try.f17) (cArgs [.sl kN8 n f] 0) (cMem es [.sl kN8 n f] 0) 0 id =
    req (kb4 n && okS n (sg8 n f)) (req (zeO n f) (bif ckN (zeP n f) (plM n) != 0 then some (.tuple #[.slice none 0 0, i64 (ckN (zeP n f) (plM n))], []) else
      req (zeO n f) (req (mk4 (n : Int)) (req (stEq (thSt n f (es 0) (plM n + 1) (vaN (zeP n f) (plM n)) (fun _ => [u64 0, u64 0, u64 0, u64 0]) 0) (thSt n (shF V) (es 0) q A (nmF B) 0)) (req (Nat.ble n n) (some (.tuple #[nSl id n, i64 0], rw4 25 id n (nmF C)))))))) := by kernel_rfl
theorem th_evn (n : Nat) (f : Nat → List Value) (es : Nat → Nat) (id : Nat) : fnMS ⟨tab, thS, 65, [([1, 1, 1, 1, 1, 0, 1, 0], fun _ => [])]⟩ 60 Try.f17 (bodyOf Try.f17) (cArgs [.sl kN8 n f] 0) (cMem es [.sl kN8 n f] 0) 0 id =
    req (kb4 n && okS n (sg8 n f)) (req (zeO n f) (bif ckN (zeP n f) (plM n) != 0 then some (.tuple #[.slice none 0 0, i64 (ckN (zeP n f) (plM n))], []) else
      req (zeO n f) (req (mk4 (n : Int)) none))) := by kernel_rfl
theorem th_msum : MSum Try.prog 17 (ThF 25) := by
  intro w0 R fm w hm vs args' hl mm hsub id hlt v l hpick hnew
  match vs, hl, hpick with
  | [a], hl, hpick =>
    simp only [ThF, pickM] at hpick
    generalize hqa : srcB mm kN8 a = qa at hpick
    obtain ⟨ok1, n, f⟩ := qa
    simp only at hpick
    cases ok1 with
    | false => simp at hpick
    | true =>
    cases hn : okS n f with
    | false => rw [hn] at hpick; simp at hpick
    | true =>
    rw [hn, Bool.true_and, Bool.true_and, Bool.true_and] at hpick
    have hn1 := (okS_iff.1 hn).1
    have hp := plM_eq n
    have hO : zeO n f = true := by
      unfold zeO
      rw [kb4_true, okV_sg, okV_nm (by omega)]; rfl
    have hX : ∀ j, j < plM n → zeP n f j = xA f j := fun j hj => by
      have hj2 : j < n := by omega
      unfold zeP
      rw [nA_sg, show xA (sg8 n f) = xA f from funext fun j => congrArg Prod.fst (congrFun (sA_sg n f) j), nA_nm (el8_num hn hj2).2.1]
    have hck : ckN (zeP n f) (plM n) = ckN (xA f) n := by rw [ckN_congr hX, ckN_plM]
    by_cases h : ckN (xA f) n = 0
    · rw [h, show ((0 : Int) != 0) = false from rfl, show ((0 : Int) == 0) = true from rfl, cond_false, cond_true] at hpick
      simp only [Option.some.injEq, Prod.mk.injEq] at hpick
      obtain ⟨rfl, rfl⟩ := hpick
      obtain ⟨h1, h2, h3⟩ := ckN_zero h
      have hpn : plM n = n := by omega
      refine msum_at (c := bodyOf Try.f17) (fuel := 60) (next := 0) Try.func17 (by kernel_rfl) (by kernel_rfl) hm hl hsub hlt (A := [.sl kN8 n f]) ⟨hqa, trivial⟩ (by show 1 ≤ Try.f17.ntmps; decide +kernel) (.inr ⟨_, rfl⟩) hnew (fun es => ?_)
      refine ⟨thC n (sA f) (es 0) (n + 1) (vaN (xA f) n) (thN (vaN (xA f) n) (xA f) (yA f) n 0) (thN (vaN (xA f) n) (xA f) (yA f) n n), ⟨mixed, tabOk, thS_ok, oneL (th_loop (by omega) (vaN_l _ _) (fun j hj => ⟨(el8_num hn hj).2.1, (el8_num hn hj).2.2.2⟩))⟩, rfl, ?_⟩
      refine (th_ev n f _ _ _ _ _ es id).trans ?_
      rw [hpn] at hX
      rw [kb4_true, okS_sg, hn, req_true (b := true && true) rfl, hO, req_true rfl, hck, h, show ((0 : Int) != 0) = false from rfl, cond_false, req_true rfl, mk4_true (by omega), req_true rfl, hpn, vaN_congr hX n (Nat.le_refl _), trhN_def]
      refine Eq.trans (req_true (stEq_mk rfl (mSame rfl (mRow (fun k _ => th_zero k) (mRow (row_sh hn) mNil))))) ?_
      rw [bE (Nat.le_refl _), req_true rfl]
    · have hne : (ckN (xA f) n != 0) = true := by rw [bne_iff_ne]; exact h
      rw [hne, cond_true] at hpick
      simp only [Option.some.injEq, Prod.mk.injEq] at hpick
      obtain ⟨rfl, rfl⟩ := hpick
      refine msum_at (c := bodyOf Try.f17) (fuel := 60) (next := 0) Try.func17 (by kernel_rfl) (by kernel_rfl) hm hl hsub hlt (A := [.sl kN8 n f]) ⟨hqa, trivial⟩ (by show 1 ≤ Try.f17.ntmps; decide +kernel) (.inl rfl) hnew (fun es => ?_)
      refine ⟨⟨tab, thS, 65, [([1, 1, 1, 1, 1, 0, 1, 0], fun _ => [])]⟩, ⟨mixed, tabOk, thS_ok, noneL2⟩, rfl, ?_⟩
      refine (th_evn n f es id).trans ?_
      rw [kb4_true, okS_sg, hn, req_true (b := true && true) rfl, hO, req_true rfl, hck, hne, cond_true]
  | [], _, h => simp [ThF, pickM] at h
  | _ :: _ :: _, _, h => simp [ThF, pickM] at h

end Go.Proofs.Ytbklbmiddacaiaa

/-
  The document's polynomials; rows of numbers, held against one another.
-/
namespace Go.Proofs.Ytbklbmiddacaiaa
set_option maxRecDepth 100000
open Go.W

noncomputable def reS : Sums := [(40, PMulF), (39, PAddF)]
theorem reS_ok : SumsOk Try.prog reS := sums_cons rm_sum (sums_cons ra_sum sums_nil)
noncomputable def reC0 : Cfg := ⟨tab, reS, 23, []⟩
theorem re_at : codeAt [1, 1, 0, 1, 0] (bodyOf Try.f11) = some (.loop (loopAt [1, 1, 0, 1, 0] (bodyOf Try.f11))) := by kernel_rfl
def reNt : List Nat := [0, 3, 4, 5, 6]
def reNi : List Nat := [0, 1, 2, 1500000]
def reSt (n : Nat) (f : Nat → List Value) (e0 X Y : Nat) (i : Int) : St :=
  ⟨[(0, aSl 0 n), (3, ptr 0), (4, ptr 1), (5, ptr 2), (6, i64 i)], [(0, ⟨cells4 X, 25, true⟩), (1, ⟨[u64 0, u64 0, u64 0, u64 0], 25, true⟩), (2, ⟨cells4 Y, 25, true⟩), (1500000, ⟨.row kN4 n f, e0, false⟩)], 7⟩
theorem re_r (n : Nat) (V : Nat → Nat) (e0 X Y k : Nat) : roundS reC0 60 [1, 1, 0, 1, 0, 0] (loopAt [1, 1, 0, 1, 0] (bodyOf Try.f11)) reNt reNi 7 reNt reNi 7 (reSt n (nmF V) e0 X Y (k : Int)) =
    bif decide ((k : Int) ≥ 0) then r2 (num Y) (num X) (req (inR (k : Int) n) (req (Nat.blt k n && true) (r2 (num (nMul (unnum (num Y)) (unnum (num X)))) (num (V (0 + k)))
      (some (.normal, reSt n (nmF V) e0 X (nAdd (unnum (num (nMul (unnum (num Y)) (unnum (num X))))) (unnum (num (V (0 + k))))) (IntKind.i64.wrap ((k : Int) - 1)))))))
    else some (.exit 0, reSt n (nmF V) e0 X Y (k : Int)) := by kernel_rfl
theorem re_r0 (n : Nat) (V : Nat → Nat) (e0 X Y : Nat) : roundS reC0 60 [1, 1, 0, 1, 0, 0] (loopAt [1, 1, 0, 1, 0] (bodyOf Try.f11)) reNt reNi 7 reNt reNi 7 (reSt n (nmF V) e0 X Y (-1)) = some (.exit 0, reSt n (nmF V) e0 X Y (-1)) := by kernel_rfl
theorem re_loop {n : Nat} {V : Nat → Nat} {e0 X : Nat} (hn : n ≤ 1000) (hV : ∀ j, j < n → V j < 2 ^ 256) (hX : X < 2 ^ 256) : LoopOk Try.prog 23 (loopAt [1, 1, 0, 1, 0] (bodyOf Try.f11)) (atSt reNt reNi 7 (reSt n (nmF V) e0 X 0 ((n : Int) - 1)) (.exit 0) (reSt n (nmF V) e0 X (evN V n X) (-1))) := by
  refine loopE (fun _ => reC0) n (fun _ _ => ⟨mixed, tabOk, reS_ok, noL⟩) (fun _ => rfl) re_at (m := 60) (nt := reNt) (ni := reNi) (et := reNt) (ei := reNi) (nx := 7) (ex := 7) (fun k => reSt n (nmF V) e0 X (hvN V X n k) ((n : Int) - 1 - (k : Int))) (by rw [show (n : Int) - 1 - ((0 : Nat) : Int) = (n : Int) - 1 from by omega]; rfl) (by intro h; cases h) ?_ ?_
  · intro k hk
    refine ⟨_, ?_, stEq_refl rfl⟩
    have e : (n : Int) - 1 - (k : Int) = ((n - 1 - k : Nat) : Int) := by omega
    simp only [e]
    refine (re_r n V e0 X _ _).trans ?_
    have hp := hvN_p V X n k
    rw [decide_eq_true (by omega), cond_true, r2_num, iR (by omega), req_true rfl, bL (by omega), req_true (b := true && true) rfl, r2_num, uN hp, unnum_lt hX, uN (nMul_p _ _), Nat.zero_add, unnum_lt (hV _ (by omega)), wrap_i64 (by omega), show ((n - 1 - k : Nat) : Int) - 1 = (n : Int) - 1 - ((k + 1 : Nat) : Int) from by omega]
    rfl
  · refine ⟨_, ?_, stEq_refl rfl⟩
    simp only [show (n : Int) - 1 - ((n : Nat) : Int) = -1 from by omega]
    rw [← evN_def]
    exact re_r0 n V e0 X _
noncomputable def reC (n : Nat) (V : Nat → Nat) (e0 X Y : Nat) : Cfg := ⟨tab, reS, 23, [([1, 1, 0, 1, 0], atSt reNt reNi 7 (reSt n (nmF V) e0 X 0 ((n : Int) - 1)) (.exit 0) (reSt n (nmF V) e0 X Y (-1)))]⟩
theorem re_ev (n : Nat) (f : Nat → List Value) (V : Nat → Nat) (X Y : Nat) (es : Nat → Nat) (id : Nat) : fnMS (reC n V (es 0) X Y) 60 Try.f11 (bodyOf Try.f11) (cArgs [.sl kN4 n f, .pl (num X)] 0) (cMem es [.sl kN4 n f, .pl (num X)] 0) 0 id =
    req (stEq (reSt n f (es 0) X 0 (IntKind.i64.wrap ((n : Int) - 1))) (reSt n (nmF V) (es 0) X 0 ((n : Int) - 1))) (some (num Y, [])) := by kernel_rfl
theorem re_msum : MSum Try.prog 11 EvF := by
  intro w0 R fm w hm vs args' hl mm hsub id hlt v l hpick hnew
  match vs, hl, hpick with
  | [a, x], hl, hpick =>
    obtain ⟨hc, rfl, rfl⟩ := pick_one hpick
    simp only [Bool.and_eq_true] at hc
    obtain ⟨⟨ha, hn⟩, hx⟩ := hc
    generalize hqa : srcB mm kN4 a = qa at ha hn ⊢
    obtain ⟨ok1, n, f⟩ := qa
    simp only at ha hn ⊢
    subst ha
    obtain ⟨X, hX, rfl⟩ := isNum_some hx
    rw [unnum_lt hX]
    have hn1 := (okV_iff.1 hn).1
    refine msum_at (c := bodyOf Try.f11) (fuel := 60) (next := 0) Try.func11 (by kernel_rfl) (by kernel_rfl) hm hl hsub hlt (A := [.sl kN4 n f, .pl (num X)]) ⟨hqa, rfl, rfl, trivial⟩ (by show 2 ≤ Try.f11.ntmps; decide +kernel) (.inl rfl) hnew (fun es => ?_)
    refine ⟨reC n (nA f) (es 0) X (evN (nA f) n X), ⟨mixed, tabOk, reS_ok, oneL (re_loop hn1 (fun j hj => (el_num hn hj).2) hX)⟩, rfl, ?_⟩
    refine (re_ev n f _ X _ es id).trans ?_
    rw [wrap_i64 (by omega)]
    exact req_true (stEq_mk rfl (mSame rfl (mSame rfl (mSame rfl (mRow (row_nm hn) mNil)))))
  | [], _, h => simp [EvF, pickM] at h
  | [_], _, h => simp [EvF, pickM] at h
  | _ :: _ :: _ :: _, _, h => simp [EvF, pickM] at h

def xsC0 : Cfg := ⟨tab, [], 20, []⟩
theorem xs_at : codeAt [1, 1, 0, 1, 0] (bodyOf Try.f46) = some (.loop (loopAt [1, 1, 0, 1, 0] (bodyOf Try.f46))) := by kernel_rfl
def xsB1 : Nat := nid 0 0
def xsN : List Nat := [0, 3, 4]
def xsI : Ren := [(xsB1, nid 14 0), (1500000, 1500000)]
def xsE : Ren := [(xsB1, xsB1), (1500000, 1500000)]
def xsZ : List Nat := [1500000]
def xsA (n : Nat) (f : Nat → List Value) (e0 : Nat) : St := ⟨[(0, aSl 0 n), (3, .slice none 0 0), (4, i64 0)], [(1500000, ⟨.row kN8 n f, e0, false⟩)], 3⟩
def xsB (n : Nat) (f : Nat → List Value) (e0 m : Nat) (g : Nat → List Value) (i : Int) : St := ⟨[(0, aSl 0 n), (3, .slice (some ⟨xsB1, 0, none⟩) m m), (4, i64 i)], [(xsB1, ⟨.row kN4 m g, 25, true⟩), (1500000, ⟨.row kN8 n f, e0, false⟩)], 3⟩
theorem xs_r0 (n : Nat) (V : Nat → Nat × Nat) (e0 : Nat) : roundS xsC0 60 [1, 1, 0, 1, 0, 0] (loopAt [1, 1, 0, 1, 0] (bodyOf Try.f46)) xsN xsI 3 xsN xsE 3 (xsA n (shF V) e0) =
    bif decide ((0 : Int) < (n : Int)) then rdR 0 n (some (.normal, xsB n (shF V) e0 1 (lstF (cells4 (V 0).1) 0 4) 1)) else none := by kernel_rfl
theorem xs_z (V : Nat → Nat × Nat) (e0 : Nat) : roundS xsC0 60 [1, 1, 0, 1, 0, 0] (loopAt [1, 1, 0, 1, 0] (bodyOf Try.f46)) xsN xsI 3 xsN xsZ 3 (xsA 0 (shF V) e0) = some (.exit 0, xsA 0 (shF V) e0) := by kernel_rfl
theorem xs_r1 (n : Nat) (V : Nat → Nat × Nat) (e0 : Nat) (S : Nat → Nat) (k : Nat) : roundS xsC0 60 [1, 1, 0, 1, 0, 0] (loopAt [1, 1, 0, 1, 0] (bodyOf Try.f46)) xsN xsI 3 xsN xsE 3 (xsB n (shF V) e0 (k + 1) (nmF S) ((k + 1 : Nat) : Int)) =
    bif decide (((k + 1 : Nat) : Int) < (n : Int)) then rdR (k + 1) n (apq4 (k + 1) (some (.normal, xsB n (shF V) e0 (k + 1 + 1) (appF (k + 1) (nmF S) (lstF (cells4 (V (0 + (k + 1))).1) 0 4)) (IntKind.i64.wrap (((k + 1 : Nat) : Int) + 1)))))
    else some (.exit 0, xsB n (shF V) e0 (k + 1) (nmF S) ((k + 1 : Nat) : Int)) := by kernel_rfl
def xsQ (n : Nat) (V : Nat → Nat × Nat) (e0 : Nat) : Nat → St
  | 0 => xsA n (shF V) e0
  | k + 1 => xsB n (shF V) e0 (k + 1) (nmF (sX V)) ((k + 1 : Nat) : Int)
theorem xs_loop {m : Nat} {V : Nat → Nat × Nat} {e0 : Nat} (hn : m + 1 ≤ 1000) : LoopOk Try.prog 20 (loopAt [1, 1, 0, 1, 0] (bodyOf Try.f46)) (atSt xsN xsZ 3 (xsA (m + 1) (shF V) e0) (.exit 0) (xsB (m + 1) (shF V) e0 (m + 1) (nmF (sX V)) ((m + 1 : Nat) : Int))) := by
  refine loopE (fun _ => xsC0) (m + 1) (fun _ _ => ⟨mixed, tabOk, sums_nil, noL⟩) (fun _ => rfl) xs_at (m := 60) (nt := xsN) (ni := xsI) (et := xsN) (ei := xsE) (nx := 3) (ex := 3) (xsQ (m + 1) V e0) rfl (by intro h; cases h) ?_ ?_
  · intro k hk
    cases k with
    | zero =>
      refine ⟨xsB (m + 1) (shF V) e0 1 (lstF (cells4 (sX V 0)) 0 4) 1, ?_, stEq_mk rfl (mRow (one_row (ks := kN4) rfl) (mSame rfl mNil))⟩
      refine (xs_r0 (m + 1) V e0).trans ?_
      rw [decide_eq_true (by omega), cond_true, rdR_eq hk]; rfl
    | succ k =>
      refine ⟨xsB (m + 1) (shF V) e0 (k + 1 + 1) (appF (k + 1) (nmF (sX V)) (lstF (cells4 (sX V (k + 1))) 0 4)) ((k + 1 + 1 : Nat) : Int), ?_, stEq_mk rfl (mRow (app4_row rfl) (mSame rfl mNil))⟩
      refine (xs_r1 (m + 1) V e0 _ k).trans ?_
      rw [decide_eq_true (by omega), cond_true, rdR_eq hk, apq4_eq (by omega), wrap_i64 (by omega), Nat.zero_add]; rfl
  · refine ⟨_, ?_, stEq_refl rfl⟩
    refine (xs_r1 (m + 1) V e0 _ m).trans ?_
    rw [decide_eq_false (by omega), cond_false]
noncomputable def xsC (n : Nat) (V : Nat → Nat × Nat) (e0 : Nat) : Cfg := ⟨tab, [], 20, [([1, 1, 0, 1, 0], atSt xsN xsZ 3 (xsA n (shF V) e0) (.exit 0) (xsB n (shF V) e0 n (nmF (sX V)) (n : Int)))]⟩
theorem xs_ev (m : Nat) (f : Nat → List Value) (V : Nat → Nat × Nat) (es : Nat → Nat) (id : Nat) : fnMS (xsC (m + 1) V (es 0)) 60 Try.f46 (bodyOf Try.f46) (cArgs [.sl kN8 (m + 1) f] 0) (cMem es [.sl kN8 (m + 1) f] 0) 0 id =
    req (stEq (xsA (m + 1) f (es 0)) (xsA (m + 1) (shF V) (es 0))) (req (Nat.ble (m + 1) (m + 1)) (some (nSl id (m + 1), rw4 25 id (m + 1) (nmF (sX V))))) := by kernel_rfl
theorem xs_msum : MSum Try.prog 46 (XskF 25) := by
  intro w0 R fm w hm vs args' hl mm hsub id hlt v l hpick hnew
  match vs, hl, hpick with
  | [a], hl, hpick =>
    obtain ⟨hc, rfl, rfl⟩ := pick_one hpick
    simp only [Bool.and_eq_true] at hc
    obtain ⟨⟨ha, hn⟩, h1⟩ := hc
    generalize hqa : srcB mm kN8 a = qa at ha hn h1 hnew ⊢
    obtain ⟨ok1, n, f⟩ := qa
    simp only at ha hn h1 hnew ⊢
    subst ha
    have h1 := Nat.le_of_ble_eq_true h1
    obtain ⟨m, rfl⟩ : ∃ m, n = m + 1 := ⟨n - 1, by omega⟩
    have hn1 := (okS_iff.1 hn).1
    refine msum_at (c := bodyOf Try.f46) (fuel := 60) (next := 0) Try.func46 (by kernel_rfl) (by kernel_rfl) hm hl hsub hlt (A := [.sl kN8 (m + 1) f]) ⟨hqa, trivial⟩ (by show 1 ≤ Try.f46.ntmps; decide +kernel) (.inr ⟨_, rfl⟩) hnew (fun es => ?_)
    refine ⟨xsC (m + 1) (sA f) (es 0), ⟨mixed, tabOk, sums_nil, oneL (xs_loop hn1)⟩, rfl, ?_⟩
    refine (xs_ev m f _ es id).trans ?_
    refine Eq.trans (req_true (stEq_mk rfl (mRow (row_sh hn) mNil))) ?_
    rw [bE (Nat.le_refl _), req_true rfl]; rfl
  | [], _, h => simp [XskF, pickM] at h
  | _ :: _ :: _, _, h => simp [XskF, pickM] at h

noncomputable def rwS : Sums := [(43, PSubF), (40, PMulF), (44, InvF)]
theorem rwS_ok : SumsOk Try.prog rwS := sums_cons rs_sum (sums_cons rm_sum (sums_cons InvR_sum sums_nil))
noncomputable def rwC0 : Cfg := ⟨tab, rwS, 59, []⟩
theorem rw_at1 : codeAt [1, 1, 1, 0, 1, 0] (bodyOf Try.f14) = some (.loop (loopAt [1, 1, 1, 0, 1, 0] (bodyOf Try.f14))) := by kernel_rfl
theorem rw_at2 : codeAt [1, 1, 1, 0, 1, 0, 0, 1, 0, 0, 1, 0, 1, 0] (bodyOf Try.f14) = some (.loop (loopAt [1, 1, 1, 0, 1, 0, 0, 1, 0, 0, 1, 0, 1, 0] (bodyOf Try.f14))) := by kernel_rfl
def rwB1 : Nat := nid 0 0
def rwN1 : List Nat := [0, 2, 3, 4, 5]
def rwI1 : Ren := [(rwB1, nid 23 0), (1500000, 1500000)]
def rwE1 : Ren := [(rwB1, rwB1), (1500000, 1500000)]
def rwZ1 : List Nat := [1500000]
def rwMm (n : Nat) (f : Nat → List Value) (e0 : Nat) : List (Nat × Blk) := [(1500000, ⟨.row kN4 n f, e0, false⟩)]
def rwA (n : Nat) (f : Nat → List Value) (e0 : Nat) (r : Int) (i : Int) : St := ⟨[(0, aSl 0 n), (2, .slice none 0 0), (3, i64 r), (4, .slice none 0 0), (5, i64 i)], rwMm n f e0, 12⟩
def rwB (n : Nat) (f : Nat → List Value) (e0 m : Nat) (g : Nat → List Value) (r : Int) (i : Int) : St := ⟨[(0, aSl 0 n), (2, .slice none 0 0), (3, i64 r), (4, .slice (some ⟨rwB1, 0, none⟩) m m), (5, i64 i)], (rwB1, ⟨.row kN4 m g, 25, true⟩) :: rwMm n f e0, 12⟩
def rjN : List Nat := [0, 2, 3, 4, 5, 6, 7]
def rjI : List Nat := [17, rwB1, 1500000]
def rjZ : List Nat := [17, 1500000]
def rjA (n : Nat) (V : Nat → Nat) (e0 : Nat) (r : Int) (i w : Nat) (j : Int) : St := ⟨[(0, aSl 0 n), (2, .slice none 0 0), (3, i64 r), (4, .slice none 0 0), (5, i64 (i : Nat)), (6, ptr 17), (7, i64 j)], (17, ⟨cells4 w, 25, true⟩) :: rwMm n (nmF V) e0, 20⟩
def rjB (n : Nat) (V : Nat → Nat) (e0 m : Nat) (g : Nat → List Value) (r : Int) (i w : Nat) (j : Int) : St := ⟨[(0, aSl 0 n), (2, .slice none 0 0), (3, i64 r), (4, .slice (some ⟨rwB1, 0, none⟩) m m), (5, i64 (i : Nat)), (6, ptr 17), (7, i64 j)], (17, ⟨cells4 w, 25, true⟩) :: (rwB1, ⟨.row kN4 m g, 25, true⟩) :: rwMm n (nmF V) e0, 20⟩
def vJ (a : Value) : Nat := powN 1 (unnum a) (primeN 1 - 2)
noncomputable def rjq {α : Type} (n : Nat) (V : Nat → Nat) (i w j : Nat) (ret skip out : Option α) (nx : Nat → Option α) : Option α :=
  bif decide ((j : Int) < (n : Int)) then (bif (j : Int) == (i : Int) then skip else rdR j n (rdR i n (r2 (num (V (0 + j))) (num (V (0 + i))) (bif eqV (num (vS (num (V (0 + j))) (num (V (0 + i))))) (num 0) then ret else rdR j n (req (isNum (num (vS (num (V (0 + j))) (num (V (0 + i)))))) (r2 (num (V (0 + j))) (num (vJ (num (vS (num (V (0 + j))) (num (V (0 + i))))))) (r2 (num w) (num (vM (num (V (0 + j))) (num (vJ (num (vS (num (V (0 + j))) (num (V (0 + i))))))))) (nx (vM (num w) (num (vM (num (V (0 + j))) (num (vJ (num (vS (num (V (0 + j))) (num (V (0 + i)))))))))))))))))) else out
theorem rj_rA (n : Nat) (V : Nat → Nat) (e0 i w j : Nat) : roundS rwC0 60 [1, 1, 1, 0, 1, 0, 0, 1, 0, 0, 1, 0, 1, 0, 0] (loopAt [1, 1, 1, 0, 1, 0, 0, 1, 0, 0, 1, 0, 1, 0] (bodyOf Try.f14)) rjN rjZ 20 rjN rjZ 20 (rjA n V e0 0 i w (j : Int)) =
    rjq n V i w j (some (.ret, rjA n V e0 6 i w (j : Int))) (some (.normal, rjA n V e0 0 i w (IntKind.i64.wrap ((j : Int) + 1)))) (some (.exit 2, rjA n V e0 0 i w (j : Int))) (fun w' => some (.normal, rjA n V e0 0 i w' (IntKind.i64.wrap ((j : Int) + 1)))) := by kernel_rfl
theorem rj_rB (n : Nat) (V : Nat → Nat) (e0 m : Nat) (S : Nat → Nat) (i w j : Nat) : roundS rwC0 60 [1, 1, 1, 0, 1, 0, 0, 1, 0, 0, 1, 0, 1, 0, 0] (loopAt [1, 1, 1, 0, 1, 0, 0, 1, 0, 0, 1, 0, 1, 0] (bodyOf Try.f14)) rjN rjI 20 rjN rjI 20 (rjB n V e0 m (nmF S) 0 i w (j : Int)) =
    rjq n V i w j (some (.ret, rjB n V e0 m (nmF S) 6 i w (j : Int))) (some (.normal, rjB n V e0 m (nmF S) 0 i w (IntKind.i64.wrap ((j : Int) + 1)))) (some (.exit 2, rjB n V e0 m (nmF S) 0 i w (j : Int))) (fun w' => some (.normal, rjB n V e0 m (nmF S) 0 i w' (IntKind.i64.wrap ((j : Int) + 1)))) := by kernel_rfl
theorem vJ_num {A : Nat} (h : A < 2 ^ 256) : vJ (num A) = nInv A := by unfold vJ; rw [unnum_lt h, nInv_def]
section
variable {α : Type} {n : Nat} {V : Nat → Nat} {i w j : Nat}
theorem rjq_out (h : ¬ j < n) (ret skip out : Option α) (nx : Nat → Option α) : rjq n V i w j ret skip out nx = out := by unfold rjq; rw [decide_eq_false (by omega), cond_false]
theorem rjq_skip (h : j < n) (e : j = i) (ret skip out : Option α) (nx : Nat → Option α) : rjq n V i w j ret skip out nx = skip := by
  unfold rjq; rw [decide_eq_true (by omega), cond_true, show ((j : Int) == (i : Int)) = true from by rw [beq_iff_eq]; omega, cond_true]
theorem rjq_bad (h : j < n) (hi : i < n) (e : j ≠ i) (hV : ∀ j, j < n → V j < 2 ^ 256) (hd : nSub (V j) (V i) = 0) (ret skip out : Option α) (nx : Nat → Option α) : rjq n V i w j ret skip out nx = ret := by
  unfold rjq
  rw [decide_eq_true (by omega), cond_true, show ((j : Int) == (i : Int)) = false from by rw [beq_eq_false_iff_ne]; omega, cond_false, rdR_eq h, rdR_eq hi, r2_num, Nat.zero_add, Nat.zero_add, vS_num (hV j h) (hV i hi), hd, eqq, cond_true]
theorem rjq_next (h : j < n) (hi : i < n) (e : j ≠ i) (hV : ∀ j, j < n → V j < 2 ^ 256) (hw : w < 2 ^ 256) (hd : nSub (V j) (V i) ≠ 0) (ret skip out : Option α) (nx : Nat → Option α) : rjq n V i w j ret skip out nx = nx (nMul w (nMul (V j) (nInv (nSub (V j) (V i))))) := by
  unfold rjq
  rw [decide_eq_true (by omega), cond_true, show ((j : Int) == (i : Int)) = false from by rw [beq_eq_false_iff_ne]; omega, cond_false, rdR_eq h, rdR_eq hi, r2_num, Nat.zero_add, Nat.zero_add, vS_num (hV j h) (hV i hi), eqV_num, Nat.mod_eq_of_lt (nSub_l _ _), Nat.zero_mod, decide_eq_false hd, cond_false, rdR_eq h, isNum_num, req_true rfl, vJ_num (nSub_l _ _), r2_num, vM_num (hV j h) (nInv_l _), r2_num, vM_num hw (nMul_l _ _)]
end
theorem rj_gen {n : Nat} {V : Nat → Nat} {i : Nat} {ni : Ren} {is : Ren} {st : Int → Nat → Int → St} (hst : ∀ r w j, stOk (st r w j) = true)
    (hr : ∀ w j : Nat, roundS rwC0 60 [1, 1, 1, 0, 1, 0, 0, 1, 0, 0, 1, 0, 1, 0, 0] (loopAt [1, 1, 1, 0, 1, 0, 0, 1, 0, 0, 1, 0, 1, 0] (bodyOf Try.f14)) rjN ni 20 rjN ni 20 (st 0 w (j : Int)) = rjq n V i w j (some (.ret, st 6 w (j : Int))) (some (.normal, st 0 w (IntKind.i64.wrap ((j : Int) + 1)))) (some (.exit 2, st 0 w (j : Int))) (fun w' => some (.normal, st 0 w' (IntKind.i64.wrap ((j : Int) + 1)))))
    (hn : n ≤ 1000) (hi : i < n) (hV : ∀ j, j < n → V j < 2 ^ 256) (N : Nat) (hlo : ∀ j, j < N → j < n ∧ (j ≠ i → nSub (V j) (V i) ≠ 0)) {e : Exit} {sf : St} (he : e ≠ .normal) (hlast : rjq n V i (rwN V i N) N (some (Exit.ret, st 6 (rwN V i N) (N : Int))) (some (.normal, st 0 (rwN V i N) (IntKind.i64.wrap ((N : Int) + 1)))) (some (.exit 2, st 0 (rwN V i N) (N : Int))) (fun w' => some (.normal, st 0 w' (IntKind.i64.wrap ((N : Int) + 1)))) = some (e, sf)) (hsf : stOk sf = true) :
    LoopOk Try.prog 59 (loopAt [1, 1, 1, 0, 1, 0, 0, 1, 0, 0, 1, 0, 1, 0] (bodyOf Try.f14)) (atSt rjN is 20 (st 0 1 0) e sf) := by
  refine loopE (fun _ => rwC0) N (fun _ _ => ⟨mixed, tabOk, rwS_ok, noL⟩) (fun _ => rfl) rw_at2 (m := 60) (nt := rjN) (ni := ni) (et := rjN) (ei := ni) (nx := 20) (ex := 20) (fun j => st 0 (rwN V i j) (j : Int)) rfl he ?_ ?_
  · intro j hj
    obtain ⟨h1, h2⟩ := hlo j hj
    refine ⟨st 0 (rwN V i (j + 1)) ((j + 1 : Nat) : Int), ?_, stEq_refl (hst _ _ _)⟩
    refine (hr _ j).trans ?_
    have ew : IntKind.i64.wrap ((j : Int) + 1) = ((j + 1 : Nat) : Int) := by rw [wrap_i64 (by omega)]; rfl
    rw [ew]
    by_cases e2 : j = i
    · rw [rjq_skip h1 e2]
      simp only [rwN, if_pos e2]
    · rw [rjq_next h1 hi e2 hV (p_lt (rwN_p _ _ _)) (h2 e2)]
      simp only [rwN, if_neg e2]
  · exact ⟨sf, (hr _ N).trans hlast, stEq_refl hsf⟩
def rjSt (n : Nat) (V : Nat → Nat) (e0 : Nat) (S : Nat → Nat) (r : Int) (w : Nat) (j : Int) : Nat → St
  | 0 => rjA n V e0 r 0 w j
  | k + 1 => rjB n V e0 (k + 1) (nmF S) r (k + 1) w j
def rjNi : Nat → Ren
  | 0 => rjZ
  | _ + 1 => rjI
theorem rj_ok {n : Nat} {V : Nat → Nat} {e0 : Nat} {S : Nat → Nat} {i : Nat} (hn : n ≤ 1000) (hi : i < n) (hV : ∀ j, j < n → V j < 2 ^ 256) (h : ¬ Odd V n i) : LoopOk Try.prog 59 (loopAt [1, 1, 1, 0, 1, 0, 0, 1, 0, 0, 1, 0, 1, 0] (bodyOf Try.f14)) (atSt rjN (rjNi i) 20 (rjSt n V e0 S 0 1 0 i) (.exit 2) (rjSt n V e0 S 0 (rwN V i n) (n : Int) i)) := by
  have hlo : ∀ j, j < n → j < n ∧ (j ≠ i → nSub (V j) (V i) ≠ 0) := fun j hj => ⟨hj, fun hne e => h ⟨j, hj, hne, e⟩⟩
  cases i with
  | zero => exact rj_gen (st := fun r w j => rjA n V e0 r 0 w j) (ni := rjZ) (fun _ _ _ => rfl) (fun w j => rj_rA n V e0 0 w j) hn hi hV n hlo (by intro h; cases h) (rjq_out (by omega) _ _ _ _) rfl
  | succ k => exact rj_gen (st := fun r w j => rjB n V e0 (k + 1) (nmF S) r (k + 1) w j) (ni := rjI) (fun _ _ _ => rfl) (fun w j => rj_rB n V e0 (k + 1) S (k + 1) w j) hn hi hV n hlo (by intro h; cases h) (rjq_out (by omega) _ _ _ _) rfl
theorem rj_bad {n : Nat} {V : Nat → Nat} {e0 : Nat} {S : Nat → Nat} {i j : Nat} (hn : n ≤ 1000) (hi : i < n) (hV : ∀ j, j < n → V j < 2 ^ 256) (hj : j < n) (hne : j ≠ i) (hd : nSub (V j) (V i) = 0) (hl : ∀ k, k < j → k ≠ i → nSub (V k) (V i) ≠ 0) : LoopOk Try.prog 59 (loopAt [1, 1, 1, 0, 1, 0, 0, 1, 0, 0, 1, 0, 1, 0] (bodyOf Try.f14)) (atSt rjN (rjNi i) 20 (rjSt n V e0 S 0 1 0 i) .ret (rjSt n V e0 S 6 (rwN V i j) (j : Int) i)) := by
  have hlo : ∀ k, k < j → k < n ∧ (k ≠ i → nSub (V k) (V i) ≠ 0) := fun k hk => ⟨by omega, hl k hk⟩
  cases i with
  | zero => exact rj_gen (st := fun r w j => rjA n V e0 r 0 w j) (ni := rjZ) (fun _ _ _ => rfl) (fun w j => rj_rA n V e0 0 w j) hn hi hV j hlo (by intro h; cases h) (rjq_bad hj hi hne hV hd _ _ _ _) rfl
  | succ k => exact rj_gen (st := fun r w j => rjB n V e0 (k + 1) (nmF S) r (k + 1) w j) (ni := rjI) (fun _ _ _ => rfl) (fun w j => rj_rB n V e0 (k + 1) S (k + 1) w j) hn hi hV j hlo (by intro h; cases h) (rjq_bad hj hi hne hV hd _ _ _ _) rfl
noncomputable def rwCk (n : Nat) (V : Nat → Nat) (e0 : Nat) (S : Nat → Nat) (e : Exit) (r : Int) (w : Nat) (j : Nat) (i : Nat) : Cfg := ⟨tab, rwS, 59, [([1, 1, 1, 0, 1, 0, 0, 1, 0, 0, 1, 0, 1, 0], atSt rjN (rjNi i) 20 (rjSt n V e0 S 0 1 0 i) e (rjSt n V e0 S r w (j : Int) i))]⟩
noncomputable def rwC1 : Cfg := ⟨tab, rwS, 59, [([1, 1, 1, 0, 1, 0, 0, 1, 0, 0, 1, 0, 1, 0], fun _ => [])]⟩
theorem rw_r0 (n : Nat) (V : Nat → Nat) (e0 : Nat) (S : Nat → Nat) (w : Nat) : roundS (rwCk n V e0 S (.exit 2) 0 w n 0) 60 [1, 1, 1, 0, 1, 0, 0] (loopAt [1, 1, 1, 0, 1, 0] (bodyOf Try.f14)) rwN1 rwI1 12 rwN1 rwZ1 12 (rwA n (nmF V) e0 0 0) =
    bif decide ((0 : Int) < (n : Int)) then req (stEq (rjA n V e0 0 0 1 0) (rjA n V e0 0 0 1 0)) (some (.normal, rwB n (nmF V) e0 1 (lstF (cells4 w) 0 4) 0 1)) else some (.exit 0, rwA n (nmF V) e0 0 0) := by kernel_rfl
theorem rw_r1 (n : Nat) (V : Nat → Nat) (e0 : Nat) (S : Nat → Nat) (w k : Nat) : roundS (rwCk n V e0 S (.exit 2) 0 w n (k + 1)) 60 [1, 1, 1, 0, 1, 0, 0] (loopAt [1, 1, 1, 0, 1, 0] (bodyOf Try.f14)) rwN1 rwI1 12 rwN1 rwE1 12 (rwB n (nmF V) e0 (k + 1) (nmF S) 0 ((k + 1 : Nat) : Int)) =
    bif decide (((k + 1 : Nat) : Int) < (n : Int)) then req (stEq (rjB n V e0 (k + 1) (nmF S) 0 (k + 1) 1 0) (rjB n V e0 (k + 1) (nmF S) 0 (k + 1) 1 0)) (apq4 (k + 1) (some (.normal, rwB n (nmF V) e0 (k + 1 + 1) (appF (k + 1) (nmF S) (lstF (cells4 w) 0 4)) 0 (IntKind.i64.wrap (((k + 1 : Nat) : Int) + 1))))) else some (.exit 0, rwB n (nmF V) e0 (k + 1) (nmF S) 0 ((k + 1 : Nat) : Int)) := by kernel_rfl
theorem rw_b0 (n : Nat) (V : Nat → Nat) (e0 : Nat) (S : Nat → Nat) (w j : Nat) : roundS (rwCk n V e0 S .ret 6 w j 0) 60 [1, 1, 1, 0, 1, 0, 0] (loopAt [1, 1, 1, 0, 1, 0] (bodyOf Try.f14)) rwN1 rwI1 12 rwN1 rwZ1 12 (rwA n (nmF V) e0 0 0) =
    bif decide ((0 : Int) < (n : Int)) then req (stEq (rjA n V e0 0 0 1 0) (rjA n V e0 0 0 1 0)) (some (.ret, rwA n (nmF V) e0 6 0)) else some (.exit 0, rwA n (nmF V) e0 0 0) := by kernel_rfl
theorem rw_b1 (n : Nat) (V : Nat → Nat) (e0 : Nat) (S : Nat → Nat) (w j k : Nat) : roundS (rwCk n V e0 S .ret 6 w j (k + 1)) 60 [1, 1, 1, 0, 1, 0, 0] (loopAt [1, 1, 1, 0, 1, 0] (bodyOf Try.f14)) rwN1 rwI1 12 rwN1 rwE1 12 (rwB n (nmF V) e0 (k + 1) (nmF S) 0 ((k + 1 : Nat) : Int)) =
    bif decide (((k + 1 : Nat) : Int) < (n : Int)) then req (stEq (rjB n V e0 (k + 1) (nmF S) 0 (k + 1) 1 0) (rjB n V e0 (k + 1) (nmF S) 0 (k + 1) 1 0)) (some (.ret, rwB n (nmF V) e0 (k + 1) (nmF S) 6 ((k + 1 : Nat) : Int))) else some (.exit 0, rwB n (nmF V) e0 (k + 1) (nmF S) 0 ((k + 1 : Nat) : Int)) := by kernel_rfl
theorem rw_o1 (n : Nat) (V : Nat → Nat) (e0 : Nat) (S : Nat → Nat) (k : Nat) : roundS rwC1 60 [1, 1, 1, 0, 1, 0, 0] (loopAt [1, 1, 1, 0, 1, 0] (bodyOf Try.f14)) rwN1 rwI1 12 rwN1 rwE1 12 (rwB n (nmF V) e0 (k + 1) (nmF S) 0 ((k + 1 : Nat) : Int)) =
    bif decide (((k + 1 : Nat) : Int) < (n : Int)) then none else some (.exit 0, rwB n (nmF V) e0 (k + 1) (nmF S) 0 ((k + 1 : Nat) : Int)) := by kernel_rfl
def rwSt (n : Nat) (f : Nat → List Value) (e0 : Nat) (S : Nat → Nat) (r : Int) : Nat → St
  | 0 => rwA n f e0 r 0
  | k + 1 => rwB n f e0 (k + 1) (nmF S) r ((k + 1 : Nat) : Int)
def rwEi : Nat → Ren
  | 0 => rwZ1
  | _ + 1 => rwE1
theorem rw_step {n : Nat} {V : Nat → Nat} {e0 : Nat} {i : Nat} (hn : n ≤ 1000) (hi : i < n) : ∃ s, roundS (rwCk n V e0 (fun i => rwN V i n) (.exit 2) 0 (rwN V i n) n i) 60 [1, 1, 1, 0, 1, 0, 0] (loopAt [1, 1, 1, 0, 1, 0] (bodyOf Try.f14)) rwN1 rwI1 12 rwN1 (rwEi i) 12 (rwSt n (nmF V) e0 (fun i => rwN V i n) 0 i) = some (.normal, s) ∧ stEq s (rwSt n (nmF V) e0 (fun i => rwN V i n) 0 (i + 1)) = true := by
  cases i with
  | zero =>
    refine ⟨rwB n (nmF V) e0 1 (lstF (cells4 (rwN V 0 n)) 0 4) 0 1, ?_, stEq_mk rfl (mRow (one_row (ks := kN4) rfl) (mSame rfl mNil))⟩
    refine (rw_r0 n V e0 _ _).trans ?_
    rw [decide_eq_true (by omega), cond_true, req_true (stEq_refl rfl)]
  | succ k =>
    refine ⟨rwB n (nmF V) e0 (k + 1 + 1) (appF (k + 1) (nmF (fun i => rwN V i n)) (lstF (cells4 (rwN V (k + 1) n)) 0 4)) 0 ((k + 1 + 1 : Nat) : Int), ?_, stEq_mk rfl (mRow (app4_row (V := fun i => rwN V i n) rfl) (mSame rfl mNil))⟩
    refine (rw_r1 n V e0 _ _ k).trans ?_
    rw [decide_eq_true (by omega), cond_true, req_true (stEq_refl rfl), apq4_eq (by omega), wrap_i64 (by omega)]; rfl
theorem rw_ok {m : Nat} {V : Nat → Nat} {e0 : Nat} (hn : m + 1 ≤ 1000) (hV : ∀ j, j < m + 1 → V j < 2 ^ 256) (h : ∀ i, i < m + 1 → ¬ Odd V (m + 1) i) : LoopOk Try.prog 59 (loopAt [1, 1, 1, 0, 1, 0] (bodyOf Try.f14)) (atSt rwN1 rwZ1 12 (rwA (m + 1) (nmF V) e0 0 0) (.exit 0) (rwSt (m + 1) (nmF V) e0 (fun i => rwN V i (m + 1)) 0 (m + 1))) := by
  refine loopV (fun i => if i < m + 1 then rwCk (m + 1) V e0 (fun i => rwN V i (m + 1)) (.exit 2) 0 (rwN V i (m + 1)) (m + 1) i else rwC1) (m + 1) ?_ (fun k => by by_cases h : k < m + 1 <;> simp only [h, if_true, if_false] <;> rfl) rw_at1 (m := 60) (nt := rwN1) (ni := fun _ => rwI1) (et := rwN1) (ei := rwEi) (nx := 12) (ex := 12) (rwSt (m + 1) (nmF V) e0 (fun i => rwN V i (m + 1)) 0) rfl (by intro h; cases h) ?_ ?_
  · intro k _
    by_cases hk : k < m + 1
    · rw [if_pos hk]; exact ⟨mixed, tabOk, rwS_ok, oneL (rj_ok hn hk hV (h k hk))⟩
    · rw [if_neg hk]; exact ⟨mixed, tabOk, rwS_ok, noneL2⟩
  · intro k hk
    rw [if_pos hk]; exact rw_step hn hk
  · rw [if_neg (by omega)]
    refine ⟨_, ?_, stEq_refl rfl⟩
    refine (rw_o1 (m + 1) V e0 _ m).trans ?_
    rw [decide_eq_false (by omega), cond_false]; rfl
theorem rw_bad {n : Nat} {V : Nat → Nat} {e0 i j : Nat} (hn : n ≤ 1000) (hV : ∀ j, j < n → V j < 2 ^ 256) (hi : i < n) (hlo : ∀ k, k < i → ¬ Odd V n k) (hj : j < n) (hne : j ≠ i) (hd : nSub (V j) (V i) = 0) (hl : ∀ k, k < j → k ≠ i → nSub (V k) (V i) ≠ 0) : LoopOk Try.prog 59 (loopAt [1, 1, 1, 0, 1, 0] (bodyOf Try.f14)) (atSt rwN1 rwZ1 12 (rwA n (nmF V) e0 0 0) .ret (rwSt n (nmF V) e0 (fun i => rwN V i n) 6 i)) := by
  refine loopV (fun k => if k < i then rwCk n V e0 (fun i => rwN V i n) (.exit 2) 0 (rwN V k n) n k else rwCk n V e0 (fun i => rwN V i n) .ret 6 (rwN V i j) j i) i ?_ (fun k => by by_cases h : k < i <;> simp only [h, if_true, if_false] <;> rfl) rw_at1 (m := 60) (nt := rwN1) (ni := fun _ => rwI1) (et := rwN1) (ei := rwEi) (nx := 12) (ex := 12) (rwSt n (nmF V) e0 (fun i => rwN V i n) 0) rfl (by intro h; cases h) ?_ ?_
  · intro k _
    by_cases hk : k < i
    · rw [if_pos hk]; exact ⟨mixed, tabOk, rwS_ok, oneL (rj_ok hn (by omega) hV (hlo k hk))⟩
    · rw [if_neg hk]; exact ⟨mixed, tabOk, rwS_ok, oneL (rj_bad hn hi hV hj hne hd hl)⟩
  · intro k hk
    rw [if_pos hk]; exact rw_step hn (by omega)
  · rw [if_neg (by omega)]
    cases i with
    | zero =>
      refine ⟨_, (rw_b0 n V e0 _ _ j).trans ?_, stEq_refl rfl⟩
      rw [decide_eq_true (by omega), cond_true, req_true (stEq_refl rfl)]; rfl
    | succ k =>
      refine ⟨_, (rw_b1 n V e0 _ _ j k).trans ?_, stEq_refl rfl⟩
      rw [decide_eq_true (by omega), cond_true, req_true (stEq_refl rfl)]; rfl
noncomputable def rwC (n : Nat) (V : Nat → Nat) (e0 : Nat) (S : Nat → Nat) (e : Exit) (r : Int) (i : Nat) : Cfg := ⟨tab, rwS, 59, [([1, 1, 1, 0, 1, 0], atSt rwN1 rwZ1 12 (rwA n (nmF V) e0 0 0) e (rwSt n (nmF V) e0 S r i))]⟩
def rwT {α : Type} (n : Nat) (k no : Option α) : Option α := bif decide ((n : Int) < 1) then no else bif decide ((n : Int) > 64) then no else k
theorem rwT_in {α : Type} {n : Nat} (h0 : n ≠ 0) (h1 : n ≤ 64) (k no : Option α) : rwT n k no = k := by
  unfold rwT; rw [decide_eq_false (by omega), decide_eq_false (by omega)]; rfl
theorem rwT_out {α : Type} {n : Nat} (h : n = 0 ∨ 64 < n) (k no : Option α) : rwT n k no = no := by
  unfold rwT
  by_cases h1 : n < 1
  · rw [decide_eq_true (by omega)]; rfl
  · rw [decide_eq_false (by omega), decide_eq_true (by omega)]; rfl
theorem rw_ev (m : Nat) (f : Nat → List Value) (V : Nat → Nat) (S : Nat → Nat) (es : Nat → Nat) (id : Nat) : fnMS (rwC (m + 1) V (es 0) S (.exit 0) 0 (m + 1)) 60 Try.f14 (bodyOf Try.f14) (cArgs [.sl kN4 (m + 1) f] 0) (cMem es [.sl kN4 (m + 1) f] 0) 0 id =
    rwT (m + 1) (req (stEq (rwA (m + 1) f (es 0) 0 0) (rwA (m + 1) (nmF V) (es 0) 0 0)) (req (Nat.ble (m + 1) (m + 1)) (some (.tuple #[nSl id (m + 1), i64 0], rw4 25 id (m + 1) (nmF S))))) (some (.tuple #[.slice none 0 0, i64 4], [])) := by kernel_rfl
theorem rw_ev0 (n : Nat) (f : Nat → List Value) (V : Nat → Nat) (S : Nat → Nat) (es : Nat → Nat) (id : Nat) : fnMS (rwC n V (es 0) S .ret 6 0) 60 Try.f14 (bodyOf Try.f14) (cArgs [.sl kN4 n f] 0) (cMem es [.sl kN4 n f] 0) 0 id =
    rwT n (req (stEq (rwA n f (es 0) 0 0) (rwA n (nmF V) (es 0) 0 0)) (some (.tuple #[.slice none 0 0, i64 6], []))) (some (.tuple #[.slice none 0 0, i64 4], [])) := by kernel_rfl
theorem rw_ev1 (n : Nat) (f : Nat → List Value) (V : Nat → Nat) (S : Nat → Nat) (k : Nat) (es : Nat → Nat) (id : Nat) : fnMS (rwC n V (es 0) S .ret 6 (k + 1)) 60 Try.f14 (bodyOf Try.f14) (cArgs [.sl kN4 n f] 0) (cMem es [.sl kN4 n f] 0) 0 id =
    rwT n (req (stEq (rwA n f (es 0) 0 0) (rwA n (nmF V) (es 0) 0 0)) (some (.tuple #[.slice none 0 0, i64 6], []))) (some (.tuple #[.slice none 0 0, i64 4], [])) := by kernel_rfl
theorem rw_evn (n : Nat) (f : Nat → List Value) (es : Nat → Nat) (id : Nat) : fnMS ⟨tab, rwS, 59, [([1, 1, 1, 0, 1, 0], fun _ => [])]⟩ 60 Try.f14 (bodyOf Try.f14) (cArgs [.sl kN4 n f] 0) (cMem es [.sl kN4 n f] 0) 0 id =
    rwT n none (some (.tuple #[.slice none 0 0, i64 4], [])) := by kernel_rfl
theorem rwm_msum : MSum Try.prog 14 (WsF 25) := by
  intro w0 R fm w hm vs args' hl mm hsub id hlt v l hpick hnew
  match vs, hl, hpick with
  | [a], hl, hpick =>
    simp only [WsF, pickM] at hpick
    generalize hqa : srcB mm kN4 a = qa at hpick
    obtain ⟨ok1, n, f⟩ := qa
    simp only at hpick
    cases ok1 with
    | false => simp at hpick
    | true =>
    cases hn : okV n f with
    | false => rw [hn] at hpick; simp at hpick
    | true =>
    rw [hn, Bool.true_and, Bool.true_and, Bool.true_and] at hpick
    have hn1 := (okV_iff.1 hn).1
    have hV : ∀ j, j < n → nA f j < 2 ^ 256 := fun j hj => (el_num hn hj).2
    by_cases h : ckN (nA f) n = 0
    · rw [h, show ((0 : Int) != 0) = false from rfl, show ((0 : Int) == 0) = true from rfl, cond_false, cond_true] at hpick
      simp only [Option.some.injEq, Prod.mk.injEq] at hpick
      obtain ⟨rfl, rfl⟩ := hpick
      obtain ⟨h1, h2, h3⟩ := ckN_zero h
      obtain ⟨m, rfl⟩ : ∃ m, n = m + 1 := ⟨n - 1, by omega⟩
      have hu := unlike_of h3
      have ho : ∀ i, i < m + 1 → ¬ Odd (nA f) (m + 1) i := fun i hi hb => by
        obtain ⟨k, hk, hbad⟩ := odd_bad.1 ⟨i, hi, hb⟩
        exact h3 k hk hbad
      refine msum_at (c := bodyOf Try.f14) (fuel := 60) (next := 0) Try.func14 (by kernel_rfl) (by kernel_rfl) hm hl hsub hlt (A := [.sl kN4 (m + 1) f]) ⟨hqa, trivial⟩ (by show 1 ≤ Try.f14.ntmps; decide +kernel) (.inr ⟨_, rfl⟩) hnew (fun es => ?_)
      refine ⟨rwC (m + 1) (nA f) (es 0) (wtN (nA f) (m + 1)) (.exit 0) 0 (m + 1), ⟨mixed, tabOk, rwS_ok, oneL (LoopOk_eqv (rw_ok hn1 hV ho) (stEq_mk rfl (mRow (fun j hj => ?_) (mSame rfl mNil))))⟩, rfl, ?_⟩
      · exact congrArg (fun x => nrmK kN4 (nmL x)) (rw_wt hu hj)
      · refine (rw_ev m f _ _ es id).trans ?_
        rw [rwT_in (by omega) h2]
        refine Eq.trans (req_true (stEq_mk rfl (mRow (row_nm hn) mNil))) ?_
        rw [bE (Nat.le_refl _), req_true rfl]
    · have hne : (ckN (nA f) n != 0) = true := by rw [bne_iff_ne]; exact h
      rw [hne, cond_true] at hpick
      simp only [Option.some.injEq, Prod.mk.injEq] at hpick
      obtain ⟨rfl, rfl⟩ := hpick
      refine msum_at (c := bodyOf Try.f14) (fuel := 60) (next := 0) Try.func14 (by kernel_rfl) (by kernel_rfl) hm hl hsub hlt (A := [.sl kN4 n f]) ⟨hqa, trivial⟩ (by show 1 ≤ Try.f14.ntmps; decide +kernel) (.inl rfl) hnew (fun es => ?_)
      by_cases h1 : n = 0 ∨ 64 < n
      · refine ⟨⟨tab, rwS, 59, [([1, 1, 1, 0, 1, 0], fun _ => [])]⟩, ⟨mixed, tabOk, rwS_ok, noneL2⟩, rfl, ?_⟩
        exact (rw_evn n f es id).trans (by rw [rwT_out h1, ckN_len h1])
      · have hb : ∃ i, i < n ∧ Bad (nA f) i := Classical.byContradiction fun hc => h (ckN_ok (by omega) (by omega) (fun i hi hb => hc ⟨i, hi, hb⟩))
        obtain ⟨i, hi, ⟨j', hj', hne', e'⟩, hlo⟩ := first_bad (odd_bad.2 hb)
        obtain ⟨j, hj, ⟨hne2, e⟩, hlo2⟩ := first_bad (P := fun j => j ≠ i ∧ nSub (nA f j) (nA f i) = 0) ⟨j', hj', hne', e'⟩
        have hL := rw_bad (e0 := es 0) hn1 hV hi hlo hj hne2 e (fun k hk hki hz => hlo2 k hk ⟨hki, hz⟩)
        rw [ckN_bad (by omega) (by omega) hb]
        cases i with
        | zero =>
          refine ⟨rwC n (nA f) (es 0) (fun i => rwN (nA f) i n) .ret 6 0, ⟨mixed, tabOk, rwS_ok, oneL hL⟩, rfl, ?_⟩
          refine (rw_ev0 n f _ _ es id).trans ?_
          rw [rwT_in (by omega) (by omega)]
          exact req_true (stEq_mk rfl (mRow (row_nm hn) mNil))
        | succ k =>
          refine ⟨rwC n (nA f) (es 0) (fun i => rwN (nA f) i n) .ret 6 (k + 1), ⟨mixed, tabOk, rwS_ok, oneL hL⟩, rfl, ?_⟩
          refine (rw_ev1 n f _ _ k es id).trans ?_
          rw [rwT_in (by omega) (by omega)]
          exact req_true (stEq_mk rfl (mRow (row_nm hn) mNil))
  | [], _, h => simp [WsF, pickM] at h
  | _ :: _ :: _, _, h => simp [WsF, pickM] at h

end Go.Proofs.Ytbklbmiddacaiaa

/-
  What shares tell at 0, as the document has it.
-/
namespace Go.Proofs.Ytbklbmiddacaiaa
set_option maxRecDepth 100000
open Go.W

theorem xs_loopz {V : Nat → Nat × Nat} {e0 : Nat} : LoopOk Try.prog 20 (loopAt [1, 1, 0, 1, 0] (bodyOf Try.f46)) (atSt xsN xsZ 3 (xsA 0 (shF V) e0) (.exit 0) (xsA 0 (shF V) e0)) :=
  loopE (fun _ => xsC0) 0 (fun _ _ => ⟨mixed, tabOk, sums_nil, noL⟩) (fun _ => rfl) xs_at (m := 60) (nt := xsN) (ni := xsI) (et := xsN) (ei := xsZ) (nx := 3) (ex := 3) (fun _ => xsA 0 (shF V) e0) rfl (by intro h; cases h) (fun k hk => absurd hk (by omega)) ⟨_, xs_z V e0, stEq_refl rfl⟩
noncomputable def xsCz (V : Nat → Nat × Nat) (e0 : Nat) : Cfg := ⟨tab, [], 20, [([1, 1, 0, 1, 0], atSt xsN xsZ 3 (xsA 0 (shF V) e0) (.exit 0) (xsA 0 (shF V) e0))]⟩
theorem xs_evz (f : Nat → List Value) (V : Nat → Nat × Nat) (es : Nat → Nat) (id : Nat) : fnMS (xsCz V (es 0)) 60 Try.f46 (bodyOf Try.f46) (cArgs [.sl kN8 0 f] 0) (cMem es [.sl kN8 0 f] 0) 0 id =
    req (stEq (xsA 0 f (es 0)) (xsA 0 (shF V) (es 0))) (some (.slice none 0 0, [])) := by kernel_rfl
theorem xsz_msum : MSum Try.prog 46 XszF := by
  intro w0 R fm w hm vs args' hl mm hsub id hlt v l hpick hnew
  match vs, hl, hpick with
  | [a], hl, hpick =>
    obtain ⟨hc, rfl, rfl⟩ := pick_one hpick
    simp only [Bool.and_eq_true] at hc
    obtain ⟨ha, h1⟩ := hc
    generalize hqa : srcB mm kN8 a = qa at ha h1
    obtain ⟨ok1, n, f⟩ := qa
    simp only at ha h1
    subst ha
    have h1 : n = 0 := Nat.eq_of_beq_eq_true h1
    subst h1
    refine msum_at (c := bodyOf Try.f46) (fuel := 60) (next := 0) Try.func46 (by kernel_rfl) (by kernel_rfl) hm hl hsub hlt (A := [.sl kN8 0 f]) ⟨hqa, trivial⟩ (by show 1 ≤ Try.f46.ntmps; decide +kernel) (.inl rfl) hnew (fun es => ?_)
    refine ⟨xsCz (sA f) (es 0), ⟨mixed, tabOk, sums_nil, oneL xs_loopz⟩, rfl, ?_⟩
    exact (xs_evz f _ es id).trans (req_true (stEq_mk rfl (mRow (fun j hj => absurd hj (by omega)) mNil)))
  | [], _, h => simp [XszF, pickM] at h
  | _ :: _ :: _, _, h => simp [XszF, pickM] at h

noncomputable def rzS : Sums := [(46, XskF 25), (14, WsF 25), (40, PMulF), (39, PAddF)]
theorem rzS_ok : SumsOk Try.prog rzS := sums_consM xs_msum (sums_consM rwm_msum (sums_cons rm_sum (sums_cons ra_sum sums_nil)))
noncomputable def rzS' : Sums := [(46, XszF), (14, WsF 25), (40, PMulF), (39, PAddF)]
theorem rzS_ok' : SumsOk Try.prog rzS' := sums_consM xsz_msum (sums_consM rwm_msum (sums_cons rm_sum (sums_cons ra_sum sums_nil)))
noncomputable def rzC0 : Cfg := ⟨tab, rzS, 37, []⟩
theorem rz_at : codeAt [1, 1, 1, 1, 0, 1, 0] (bodyOf Try.f16) = some (.loop (loopAt [1, 1, 1, 1, 0, 1, 0] (bodyOf Try.f16))) := by kernel_rfl
def rzNt : List Nat := [0, 2, 4, 6, 7]
def rzB : Nat := nid 4 0
def rzNi : List Nat := [0, 12, rzB, 1500000]
def rzSt (n : Nat) (f : Nat → List Value) (e0 m : Nat) (g : Nat → List Value) (Y : Nat) (k : Int) : St :=
  ⟨[(0, aSl 0 n), (2, ptr 0), (4, .slice (some ⟨rzB, 0, none⟩) m m), (6, ptr 12), (7, i64 k)], [(0, ⟨cells4 0, 25, true⟩), (12, ⟨cells4 Y, 25, true⟩), (rzB, ⟨.row kN4 m g, 25, true⟩), (1500000, ⟨.row kN8 n f, e0, false⟩)], 14⟩
theorem rz_r (n : Nat) (V : Nat → Nat × Nat) (e0 m : Nat) (W : Nat → Nat) (Y k : Nat) : roundS rzC0 60 [1, 1, 1, 1, 0, 1, 0, 0] (loopAt [1, 1, 1, 1, 0, 1, 0] (bodyOf Try.f16)) rzNt rzNi 14 rzNt rzNi 14 (rzSt n (shF V) e0 m (nmF W) Y (k : Int)) =
    bif decide ((k : Int) < (n : Int)) then rdR k n (rdR k m (r2 (num (V (0 + k)).2) (num (W (0 + k))) (r2 (num Y) (num (vM (num (V (0 + k)).2) (num (W (0 + k))))) (some (.normal, rzSt n (shF V) e0 m (nmF W) (vA (num Y) (num (vM (num (V (0 + k)).2) (num (W (0 + k)))))) (IntKind.i64.wrap ((k : Int) + 1)))))))
    else some (.exit 0, rzSt n (shF V) e0 m (nmF W) Y (k : Int)) := by kernel_rfl
theorem rz_loop {n : Nat} {V : Nat → Nat × Nat} {e0 : Nat} {W : Nat → Nat} (hn : n ≤ 1000) (hV : ∀ j, j < n → (V j).2 < 2 ^ 256) (hW : ∀ j, j < n → W j < 2 ^ 256) : LoopOk Try.prog 37 (loopAt [1, 1, 1, 1, 0, 1, 0] (bodyOf Try.f16)) (atSt rzNt rzNi 14 (rzSt n (shF V) e0 n (nmF W) 0 0) (.exit 0) (rzSt n (shF V) e0 n (nmF W) (zsN (fun j => (V j).2) W n) (n : Int))) := by
  refine loopE (fun _ => rzC0) n (fun _ _ => ⟨mixed, tabOk, rzS_ok, noL⟩) (fun _ => rfl) rz_at (m := 60) (nt := rzNt) (ni := rzNi) (et := rzNt) (ei := rzNi) (nx := 14) (ex := 14) (fun k => rzSt n (shF V) e0 n (nmF W) (zsN (fun j => (V j).2) W k) (k : Int)) rfl (by intro h; cases h) ?_ ?_
  · intro k hk
    refine ⟨_, ?_, stEq_refl rfl⟩
    refine (rz_r n V e0 n W _ k).trans ?_
    rw [decide_eq_true (by omega), cond_true, rdR_eq hk, rdR_eq hk, r2_num, r2_num, wrap_i64 (by omega), Nat.zero_add, vM_num (hV k hk) (hW k hk), vA_num (p_lt (zsN_p _ _ _)) (nMul_l _ _)]; rfl
  · refine ⟨_, ?_, stEq_refl rfl⟩
    refine (rz_r n V e0 n W _ n).trans ?_
    rw [decide_eq_false (by omega), cond_false]
noncomputable def rzC (n : Nat) (V : Nat → Nat × Nat) (e0 : Nat) (W : Nat → Nat) (Z : Nat) : Cfg := ⟨tab, rzS, 37, [([1, 1, 1, 1, 0, 1, 0], atSt rzNt rzNi 14 (rzSt n (shF V) e0 n (nmF W) 0 0) (.exit 0) (rzSt n (shF V) e0 n (nmF W) Z (n : Int)))]⟩
noncomputable def rzP (n : Nat) (f : Nat → List Value) : Nat → Nat := nA (sg4 n (nmF (xA (sg8 n f))))
noncomputable def rzO (n : Nat) (f : Nat → List Value) : Bool := kb4 n && okV n (sg4 n (nmF (xA (sg8 n f))))
theorem rz_ev (n : Nat) (f : Nat → List Value) (V : Nat → Nat × Nat) (W : Nat → Nat) (Z : Nat) (es : Nat → Nat) (id : Nat) : fnMS (rzC n V (es 0) W Z) 60 Try.f16 (bodyOf Try.f16) (cArgs [.sl kN8 n f] 0) (cMem es [.sl kN8 n f] 0) 0 id =
    req (kb4 n && okS n (sg8 n f) && Nat.ble 1 n) (bif rzO n f && (ckN (rzP n f) n != 0) then (bif ckN (rzP n f) n != 0 then some (.tuple #[num 0, i64 (ckN (rzP n f) n)], []) else none) else
      req (rzO n f && (ckN (rzP n f) n == 0)) (req (stEq (rzSt n f (es 0) n (nmF (wtN (rzP n f) n)) 0 0) (rzSt n (shF V) (es 0) n (nmF W) 0 0)) (some (.tuple #[num Z, i64 0], [])))) := by kernel_rfl
theorem rz_evz (f : Nat → List Value) (es : Nat → Nat) (id : Nat) : fnMS ⟨tab, rzS', 37, [([1, 1, 1, 1, 0, 1, 0], fun _ => [])]⟩ 60 Try.f16 (bodyOf Try.f16) (cArgs [.sl kN8 0 f] 0) (cMem es [.sl kN8 0 f] 0) 0 id =
    req (kb4 0 && true) (bif true && okV 0 noF4 && (ckN (nA noF4) 0 != 0) then (bif ckN (nA noF4) 0 != 0 then some (.tuple #[num 0, i64 (ckN (nA noF4) 0)], []) else none) else req (true && okV 0 noF4 && (ckN (nA noF4) 0 == 0)) none) := by kernel_rfl
theorem rz_msum : MSum Try.prog 16 ZeF := by
  intro w0 R fm w hm vs args' hl mm hsub id hlt v l hpick hnew
  match vs, hl, hpick with
  | [a], hl, hpick =>
    obtain ⟨hc, rfl, rfl⟩ := pick_one hpick
    simp only [Bool.and_eq_true] at hc
    obtain ⟨ha, hn⟩ := hc
    generalize hqa : srcB mm kN8 a = qa at ha hn hnew ⊢
    obtain ⟨ok1, n, f⟩ := qa
    simp only at ha hn hnew ⊢
    subst ha
    have hn1 := (okS_iff.1 hn).1
    refine msum_at (c := bodyOf Try.f16) (fuel := 60) (next := 0) Try.func16 (by kernel_rfl) (by kernel_rfl) hm hl hsub hlt (A := [.sl kN8 n f]) ⟨hqa, trivial⟩ (by show 1 ≤ Try.f16.ntmps; decide +kernel) (.inl rfl) hnew (fun es => ?_)
    by_cases h0 : n = 0
    · subst h0
      refine ⟨⟨tab, rzS', 37, [([1, 1, 1, 1, 0, 1, 0], fun _ => [])]⟩, ⟨mixed, tabOk, rzS_ok', noneL2⟩, rfl, ?_⟩
      refine (rz_evz f es id).trans ?_
      rw [no_okV, ckN_len (.inl rfl), zeN_no (by rw [ckN_len (.inl rfl)]; decide), ckN_len (.inl rfl)]; rfl
    · have hO : rzO n f = true := by
        unfold rzO
        rw [kb4_true, okV_sg, okV_nm hn1]; rfl
      have hX : ∀ j, j < n → rzP n f j = xA f j := fun j hj => by
        unfold rzP
        rw [nA_sg, show xA (sg8 n f) = xA f from funext fun j => congrArg Prod.fst (congrFun (sA_sg n f) j), nA_nm (el8_num hn hj).2.1]
      have hck : ckN (rzP n f) n = ckN (xA f) n := ckN_congr hX
      refine ⟨rzC n (sA f) (es 0) (wtN (xA f) n) (zsN (yA f) (wtN (xA f) n) n), ⟨mixed, tabOk, rzS_ok, oneL (rz_loop hn1 (fun j hj => (el8_num hn hj).2.2.2) (fun j _ => wtN_l _ _ _))⟩, rfl, ?_⟩
      refine (rz_ev n f _ _ _ es id).trans ?_
      rw [kb4_true, okS_sg, hn, bE (by omega), req_true (b := true && true && true) rfl, hck, hO]
      by_cases h : ckN (xA f) n = 0
      · rw [h, show (true && ((0 : Int) != 0)) = false from rfl, cond_false, req_true (b := true && ((0 : Int) == 0)) rfl, zeN_ok h]
        refine req_true (stEq_mk rfl (mSame rfl (mSame rfl (mRow ?_ (mRow (row_sh hn) mNil)))))
        intro j hj
        show nrmK kN4 (nmL _) = nrmK kN4 (nmL _)
        rw [wtN_congr hj hX]
      · have hne : (ckN (xA f) n != 0) = true := by rw [bne_iff_ne]; exact h
        rw [hne, show (true && true) = true from rfl, cond_true, cond_true, zeN_no h]
  | [], _, h => simp [ZeF, pickM] at h
  | _ :: _ :: _, _, h => simp [ZeF, pickM] at h

end Go.Proofs.Ytbklbmiddacaiaa

/-
  The document's polynomial through shares: its inner loops.
-/
namespace Go.Proofs.Ytbklbmiddacaiaa
set_option maxRecDepth 100000
open Go.W

noncomputable def rtS : Sums := [(46, XskF 25), (14, WskF 25), (43, PSubF), (40, PMulF), (39, PAddF), (44, InvF)]
theorem rtS_ok : SumsOk Try.prog rtS := sums_consM xs_msum (sums_consM (MSum_sub rwm_msum (WskF_sub _)) (sums_cons rs_sum (sums_cons rm_sum (sums_cons ra_sum (sums_cons InvR_sum sums_nil)))))
noncomputable def rtC0 : Cfg := ⟨tab, rtS, 130, []⟩
theorem rt_at3 : codeAt [1, 1, 1, 0, 1, 0, 0, 1, 0, 0, 1, 1, 0, 1, 0, 0, 1, 0, 0, 1, 1, 0, 1, 0] (bodyOf Try.f18) = some (.loop (loopAt [1, 1, 1, 0, 1, 0, 0, 1, 0, 0, 1, 1, 0, 1, 0, 0, 1, 0, 0, 1, 1, 0, 1, 0] (bodyOf Try.f18))) := by kernel_rfl
theorem rt_at4 : codeAt [1, 1, 1, 0, 1, 0, 0, 1, 0, 0, 1, 1, 1, 1, 1, 0] (bodyOf Try.f18) = some (.loop (loopAt [1, 1, 1, 0, 1, 0, 0, 1, 0, 0, 1, 1, 1, 1, 1, 0] (bodyOf Try.f18))) := by kernel_rfl
def rtB1 : Nat := nid 0 0
def rtBo : Nat := nid 14 0
def rtBn : Nat := nid 38 0
structure RtP where
  n : Nat
  V : Nat → Nat × Nat
  e0 : Nat
  O : Nat → Nat
  i : Nat
def tkN : List Nat := [0, 6, 7, 8, 9, 10, 11, 12]
def tkSt (b : Nat) (p : RtP) (j d m : Nat) (C : Nat → Nat) (q : Nat) (g : Nat → List Value) (k : Int) : St :=
  ⟨[(0, aSl 0 p.n), (6, .slice (some ⟨rtBo, 0, none⟩) p.n p.n), (7, i64 (p.i : Nat)), (8, .slice (some ⟨b, 0, none⟩) m m), (9, ptr 25), (10, i64 (j : Nat)), (11, .slice (some ⟨rtBn, 0, none⟩) q q), (12, i64 k)],
   [(25, ⟨cells4 d, 25, true⟩), (b, ⟨.row kN4 m (nmF C), 25, true⟩), (rtBn, ⟨.row kN4 q g, 25, true⟩), (rtBo, ⟨.row kN4 p.n (nmF p.O), 25, true⟩), (1500000, ⟨.row kN8 p.n (shF p.V), p.e0, false⟩)], 41⟩
noncomputable def tkv (C G : Nat → Nat) (k : Nat) : Nat := vA (num (G (0 + (IntKind.i64.wrap ((k : Int) + 1)).toNat))) (num (C (0 + k)))
noncomputable def tkG (C G : Nat → Nat) (k : Nat) : Nat → List Value := updR (nmF G) (0 + (IntKind.i64.wrap ((k : Int) + 1)).toNat) (cells4 (tkv C G k))
noncomputable def tkq {α : Type} (p : RtP) (j m q : Nat) (C G : Nat → Nat) (k : Nat) (nx : (Nat → List Value) → Option α) (out : Option α) : Option α :=
  bif decide ((k : Int) < (m : Int)) then rdI (IntKind.i64.wrap ((k : Int) + 1)) q (rdR k m (r2 (num (G (0 + (IntKind.i64.wrap ((k : Int) + 1)).toNat))) (num (C (0 + k))) (rdI (IntKind.i64.wrap ((k : Int) + 1)) q (rdR k q (rdR k m (rdR j p.n (r2 (num (C (0 + k))) (num (p.V (0 + j)).1) (r2 (el4 (tkG C G k) (0 + k)) (num (vM (num (C (0 + k))) (num (p.V (0 + j)).1))) (rdR k q
    (nx (updR (tkG C G k) (0 + k) (cells4 (vS (el4 (tkG C G k) (0 + k)) (num (vM (num (C (0 + k))) (num (p.V (0 + j)).1)))))))))))))))) else out
def tkIB : List Nat := [25, rtB1, rtBn, rtBo, 1500000]
theorem tk_rB (p : RtP) (j d m : Nat) (C : Nat → Nat) (q : Nat) (G : Nat → Nat) (k : Nat) : roundS rtC0 60 [1, 1, 1, 0, 1, 0, 0, 1, 0, 0, 1, 1, 0, 1, 0, 0, 1, 0, 0, 1, 1, 0, 1, 0, 0] (loopAt [1, 1, 1, 0, 1, 0, 0, 1, 0, 0, 1, 1, 0, 1, 0, 0, 1, 0, 0, 1, 1, 0, 1, 0] (bodyOf Try.f18)) tkN tkIB 41 tkN tkIB 41 (tkSt rtB1 p j d m C q (nmF G) (k : Int)) =
    tkq p j m q C G k (fun g => some (.normal, tkSt rtB1 p j d m C q g (IntKind.i64.wrap ((k : Int) + 1)))) (some (.exit 4, tkSt rtB1 p j d m C q (nmF G) (k : Int))) := by kernel_rfl
theorem el4_upd (g : Nat → List Value) (t v k : Nat) (h : k ≠ t) : el4 (updR g t (cells4 v)) k = el4 g k := by
  unfold el4 updR
  rw [show Nat.beq k t = false from by rw [Bool.eq_false_iff, ne_eq, Nat.beq_eq]; exact h, cond_false]
theorem tkq_eq {α : Type} {p : RtP} {j m : Nat} {C : Nat → Nat} {k : Nat} (hm : m ≤ 1000) (hk : k < m) (hj : j < p.n) (hV : (p.V j).1 < 2 ^ 256) (hC : ∀ t, t < m → C t < 2 ^ 256) (nx : (Nat → List Value) → Option α) (out : Option α) : tkq p j m (m + 1) C (pyN C (p.V j).1 m k) k nx out =
    nx (updR (updR (nmF (pyN C (p.V j).1 m k)) (k + 1) (cells4 (nAdd 0 (C k)))) k (cells4 (nSub (pyN C (p.V j).1 m k k) (nMul (C k) (p.V j).1)))) := by
  have ez : IntKind.i64.wrap ((k : Int) + 1) = ((k + 1 : Nat) : Int) := by rw [wrap_i64 (by omega)]; rfl
  have e0 : pyN C (p.V j).1 m k (k + 1) = 0 := by unfold pyN; rw [if_neg (by omega), if_neg (by omega)]
  have ev : tkv C (pyN C (p.V j).1 m k) k = nAdd 0 (C k) := by
    unfold tkv
    rw [ez, Int.toNat_natCast, Nat.zero_add, Nat.zero_add, e0, vA_num (by decide) (hC k hk)]
  have eG : tkG C (pyN C (p.V j).1 m k) k = updR (nmF (pyN C (p.V j).1 m k)) (k + 1) (cells4 (nAdd 0 (C k))) := by
    unfold tkG
    rw [ev, ez, Int.toNat_natCast, Nat.zero_add]
  have ee : el4 (updR (nmF (pyN C (p.V j).1 m k)) (k + 1) (cells4 (nAdd 0 (C k)))) k = num (pyN C (p.V j).1 m k k) := el4_upd _ _ _ _ (by omega)
  unfold tkq
  rw [decide_eq_true (by omega), cond_true, rdI_eq ez (by omega), rdR_eq hk, r2_num, rdI_eq ez (by omega), rdR_eq (by omega), rdR_eq hk, rdR_eq hj, eG, Nat.zero_add, Nat.zero_add, ee, r2_num, r2_num, rdR_eq (by omega), vM_num (hC k hk) hV, vS_num (pyN_l _ _ _ _ _) (nMul_l _ _)]
theorem py_row {C : Nat → Nat} {a m k n : Nat} (hk : k < m) : ∀ t, t < n → nrmK kN4 (updR (updR (nmF (pyN C a m k)) (k + 1) (cells4 (nAdd 0 (C k)))) k (cells4 (nSub (pyN C a m k k) (nMul (C k) a))) t) = nrmK kN4 (nmF (pyN C a m (k + 1)) t) := by
  intro t ht
  have h1 : ∀ t, updR (updR (nmF (pyN C a m k)) (k + 1) (cells4 (nAdd 0 (C k)))) k (cells4 (nSub (pyN C a m k k) (nMul (C k) a))) t = nmF (updN (updN (pyN C a m k) (k + 1) (nAdd 0 (C k))) k (nSub (pyN C a m k k) (nMul (C k) a))) t := by
    intro t
    show (bif Nat.beq t k then _ else (bif Nat.beq t (k + 1) then _ else _)) = nmL (if t = k then _ else if t = k + 1 then _ else _)
    by_cases h1 : t = k
    · rw [if_pos h1, h1, Nat.beq_refl]; rfl
    · rw [if_neg h1, show Nat.beq t k = false from by rw [Bool.eq_false_iff, ne_eq, Nat.beq_eq]; exact h1, cond_false]
      by_cases h2 : t = k + 1
      · rw [if_pos h2, h2, Nat.beq_refl]; rfl
      · rw [if_neg h2, show Nat.beq t (k + 1) = false from by rw [Bool.eq_false_iff, ne_eq, Nat.beq_eq]; exact h2, cond_false]; rfl
  rw [h1 t]
  show nrmK kN4 (nmL _) = nrmK kN4 (nmL _)
  rw [py_step hk]
theorem tk_loopB {p : RtP} {j d m : Nat} {C : Nat → Nat} (hm0 : m ≠ 0) (hm : m ≤ 900) (hj : j < p.n) (hV : (p.V j).1 < 2 ^ 256) (hC : ∀ t, t < m → C t < 2 ^ 256) : LoopOk Try.prog 130 (loopAt [1, 1, 1, 0, 1, 0, 0, 1, 0, 0, 1, 1, 0, 1, 0, 0, 1, 0, 0, 1, 1, 0, 1, 0] (bodyOf Try.f18)) (atSt tkN tkIB 41 (tkSt rtB1 p j d m C (m + 1) (nmF (pyN C (p.V j).1 m 0)) 0) (.exit 4) (tkSt rtB1 p j d m C (m + 1) (nmF (pxN C (p.V j).1 m)) (m : Int))) := by
  refine loopE (fun _ => rtC0) m (fun _ _ => ⟨mixed, tabOk, rtS_ok, noL⟩) (fun _ => rfl) rt_at3 (m := 60) (nt := tkN) (ni := tkIB) (et := tkN) (ei := tkIB) (nx := 41) (ex := 41) (fun k => tkSt rtB1 p j d m C (m + 1) (nmF (pyN C (p.V j).1 m k)) (k : Int)) rfl (by intro h; cases h) ?_ ?_
  · intro k hk
    refine ⟨_, (tk_rB p j d m C (m + 1) _ k).trans (tkq_eq (by omega) hk hj hV hC _ _), ?_⟩
    rw [show IntKind.i64.wrap ((k : Int) + 1) = ((k + 1 : Nat) : Int) from by rw [wrap_i64 (by omega)]; rfl]
    exact stEq_mk rfl (mSame rfl (mSame rfl (mRow (py_row hk) (mSame rfl (mSame rfl mNil)))))
  · refine ⟨tkSt rtB1 p j d m C (m + 1) (nmF (pyN C (p.V j).1 m m)) (m : Int), ?_, stEq_mk rfl (mSame rfl (mSame rfl (mRow (fun t ht => ?_) (mSame rfl (mSame rfl mNil)))))⟩
    · refine (tk_rB p j d m C (m + 1) _ m).trans ?_
      unfold tkq
      rw [decide_eq_false (by omega), cond_false]
    · show nrmK kN4 (nmL _) = nrmK kN4 (nmL _)
      rw [py_all hm0 ht]
end Go.Proofs.Ytbklbmiddacaiaa

/-
  The document's polynomial through shares.
-/
namespace Go.Proofs.Ytbklbmiddacaiaa
set_option maxRecDepth 100000
open Go.W

theorem rt_at2 : codeAt [1, 1, 1, 0, 1, 0, 0, 1, 0, 0, 1, 1, 0, 1, 0] (bodyOf Try.f18) = some (.loop (loopAt [1, 1, 1, 0, 1, 0, 0, 1, 0, 0, 1, 1, 0, 1, 0] (bodyOf Try.f18))) := by kernel_rfl
theorem rt_at1 : codeAt [1, 1, 1, 0, 1, 0] (bodyOf Try.f18) = some (.loop (loopAt [1, 1, 1, 0, 1, 0] (bodyOf Try.f18))) := by kernel_rfl
def tkS0 (p : RtP) (j d : Nat) (g : Nat → List Value) (k : Int) : St :=
  ⟨[(0, aSl 0 p.n), (6, .slice (some ⟨rtBo, 0, none⟩) p.n p.n), (7, i64 (p.i : Nat)), (8, .slice (some ⟨22, 0, none⟩) 1 1), (9, ptr 25), (10, i64 (j : Nat)), (11, .slice (some ⟨rtBn, 0, none⟩) 2 2), (12, i64 k)],
   [(22, ⟨.lst (cells4 1), 25, true⟩), (25, ⟨cells4 d, 25, true⟩), (rtBn, ⟨.row kN4 2 g, 25, true⟩), (rtBo, ⟨.row kN4 p.n (nmF p.O), 25, true⟩), (1500000, ⟨.row kN8 p.n (shF p.V), p.e0, false⟩)], 41⟩
def tkI0 : List Nat := [22, 25, rtBn, rtBo, 1500000]
theorem tk_r0 (p : RtP) (j d : Nat) (G : Nat → Nat) : roundS rtC0 60 [1, 1, 1, 0, 1, 0, 0, 1, 0, 0, 1, 1, 0, 1, 0, 0, 1, 0, 0, 1, 1, 0, 1, 0, 0] (loopAt [1, 1, 1, 0, 1, 0, 0, 1, 0, 0, 1, 1, 0, 1, 0, 0, 1, 0, 0, 1, 1, 0, 1, 0] (bodyOf Try.f18)) tkN tkI0 41 tkN tkI0 41 (tkS0 p j d (nmF G) 0) =
    r2 (num (G 1)) (num 1) (rdR j p.n (r2 (num 1) (num (p.V (0 + j)).1) (r2 (num (G 0)) (num (vM (num 1) (num (p.V (0 + j)).1)))
      (some (.normal, tkS0 p j d (updR (updR (nmF G) 1 (cells4 (vA (num (G 1)) (num 1)))) 0 (cells4 (vS (num (G 0)) (num (vM (num 1) (num (p.V (0 + j)).1)))))) 1))))) := by kernel_rfl
theorem tk_r1 (p : RtP) (j d : Nat) (G : Nat → Nat) : roundS rtC0 60 [1, 1, 1, 0, 1, 0, 0, 1, 0, 0, 1, 1, 0, 1, 0, 0, 1, 0, 0, 1, 1, 0, 1, 0, 0] (loopAt [1, 1, 1, 0, 1, 0, 0, 1, 0, 0, 1, 1, 0, 1, 0, 0, 1, 0, 0, 1, 1, 0, 1, 0] (bodyOf Try.f18)) tkN tkI0 41 tkN tkI0 41 (tkS0 p j d (nmF G) 1) =
    some (.exit 4, tkS0 p j d (nmF G) 1) := by kernel_rfl
def tjN : List Nat := [0, 6, 7, 8, 9, 10]
def tjI : Ren := [(25, 25), (rtB1, rtB1), (rtBo, rtBo), (1500000, 1500000)]
def tjR : Ren := [(25, 25), (rtB1, rtBn), (rtBo, rtBo), (1500000, 1500000)]
def tjZ : Ren := [(22, 22), (25, 25), (rtBo, rtBo), (1500000, 1500000)]
def tjSt (p : RtP) (j : Int) (d m : Nat) (g : Nat → List Value) : St :=
  ⟨[(0, aSl 0 p.n), (6, .slice (some ⟨rtBo, 0, none⟩) p.n p.n), (7, i64 (p.i : Nat)), (8, .slice (some ⟨rtB1, 0, none⟩) m m), (9, ptr 25), (10, i64 j)],
   [(25, ⟨cells4 d, 25, true⟩), (rtB1, ⟨.row kN4 m g, 25, true⟩), (rtBo, ⟨.row kN4 p.n (nmF p.O), 25, true⟩), (1500000, ⟨.row kN8 p.n (shF p.V), p.e0, false⟩)], 28⟩
def tjS0 (p : RtP) (j : Int) (d : Nat) : St :=
  ⟨[(0, aSl 0 p.n), (6, .slice (some ⟨rtBo, 0, none⟩) p.n p.n), (7, i64 (p.i : Nat)), (8, .slice (some ⟨22, 0, none⟩) 1 1), (9, ptr 25), (10, i64 j)],
   [(22, ⟨.lst (cells4 1), 25, true⟩), (25, ⟨cells4 d, 25, true⟩), (rtBo, ⟨.row kN4 p.n (nmF p.O), 25, true⟩), (1500000, ⟨.row kN8 p.n (shF p.V), p.e0, false⟩)], 28⟩
noncomputable def tjC (p : RtP) (j d m : Nat) (C : Nat → Nat) : Cfg := ⟨tab, rtS, 130, [([1, 1, 1, 0, 1, 0, 0, 1, 0, 0, 1, 1, 0, 1, 0, 0, 1, 0, 0, 1, 1, 0, 1, 0], atSt tkN tkIB 41 (tkSt rtB1 p j d m C (m + 1) (nmF (pyN C (p.V j).1 m 0)) 0) (.exit 4) (tkSt rtB1 p j d m C (m + 1) (nmF (pxN C (p.V j).1 m)) (m : Int)))]⟩
noncomputable def tjC0 (p : RtP) (j d : Nat) (C : Nat → Nat) : Cfg := ⟨tab, rtS, 130, [([1, 1, 1, 0, 1, 0, 0, 1, 0, 0, 1, 1, 0, 1, 0, 0, 1, 0, 0, 1, 1, 0, 1, 0], atSt tkN tkI0 41 (tkS0 p j d (nmF (pyN C (p.V j).1 1 0)) 0) (.exit 4) (tkS0 p j d (nmF (pxN C (p.V j).1 1)) 1))]⟩
noncomputable def tjCn : Cfg := ⟨tab, rtS, 130, [([1, 1, 1, 0, 1, 0, 0, 1, 0, 0, 1, 1, 0, 1, 0, 0, 1, 0, 0, 1, 1, 0, 1, 0], fun _ => [])]⟩
noncomputable def tjq {α : Type} (p : RtP) (j d : Nat) (nx : Nat → Option α) : Option α :=
  rdR p.i p.n (rdR j p.n (r2 (num (p.V (0 + p.i)).1) (num (p.V (0 + j)).1) (r2 (num d) (num (vS (num (p.V (0 + p.i)).1) (num (p.V (0 + j)).1))) (nx (vM (num d) (num (vS (num (p.V (0 + p.i)).1) (num (p.V (0 + j)).1))))))))
theorem tj_r (p : RtP) (j d m : Nat) (C : Nat → Nat) : roundS (tjC p j d m C) 60 [1, 1, 1, 0, 1, 0, 0, 1, 0, 0, 1, 1, 0, 1, 0, 0] (loopAt [1, 1, 1, 0, 1, 0, 0, 1, 0, 0, 1, 1, 0, 1, 0] (bodyOf Try.f18)) tjN tjR 28 tjN tjI 28 (tjSt p (j : Int) d m (nmF C)) =
    bif decide ((j : Int) < (p.n : Int)) then bif ((j : Int) == (p.i : Int)) then none else
      req (mk4 (IntKind.i64.wrap ((m : Int) + 1))) (req (stEq (tkSt rtB1 p j d m C (vaL m) (fun _ => [u64 0, u64 0, u64 0, u64 0]) 0) (tkSt rtB1 p j d m C (m + 1) (nmF (pyN C (p.V j).1 m 0)) 0))
        (tjq p j d fun d2 => some (.normal, tjSt p (IntKind.i64.wrap ((j : Int) + 1)) d2 (m + 1) (nmF (pxN C (p.V j).1 m)))))
    else some (.exit 2, tjSt p (j : Int) d m (nmF C)) := by kernel_rfl
theorem tj_rs (p : RtP) (j d m : Nat) (C : Nat → Nat) : roundS tjCn 60 [1, 1, 1, 0, 1, 0, 0, 1, 0, 0, 1, 1, 0, 1, 0, 0] (loopAt [1, 1, 1, 0, 1, 0, 0, 1, 0, 0, 1, 1, 0, 1, 0] (bodyOf Try.f18)) tjN tjI 28 tjN tjI 28 (tjSt p (j : Int) d m (nmF C)) =
    bif decide ((j : Int) < (p.n : Int)) then bif ((j : Int) == (p.i : Int)) then some (.normal, tjSt p (IntKind.i64.wrap ((j : Int) + 1)) d m (nmF C)) else req (mk4 (IntKind.i64.wrap ((m : Int) + 1))) none
    else some (.exit 2, tjSt p (j : Int) d m (nmF C)) := by kernel_rfl
theorem tj_r0 (p : RtP) (j d : Nat) (C : Nat → Nat) : roundS (tjC0 p j d C) 60 [1, 1, 1, 0, 1, 0, 0, 1, 0, 0, 1, 1, 0, 1, 0, 0] (loopAt [1, 1, 1, 0, 1, 0, 0, 1, 0, 0, 1, 1, 0, 1, 0] (bodyOf Try.f18)) tjN tjR 28 tjN tjZ 28 (tjS0 p (j : Int) d) =
    bif decide ((j : Int) < (p.n : Int)) then bif ((j : Int) == (p.i : Int)) then none else
      (req (stEq (tkS0 p j d (fun _ => [u64 0, u64 0, u64 0, u64 0]) 0) (tkS0 p j d (nmF (pyN C (p.V j).1 1 0)) 0))
        (tjq p j d fun d2 => some (.normal, tjSt p (IntKind.i64.wrap ((j : Int) + 1)) d2 2 (nmF (pxN C (p.V j).1 1)))))
    else some (.exit 2, tjS0 p (j : Int) d) := by kernel_rfl
theorem tj_rs0 (p : RtP) (j d : Nat) : roundS tjCn 60 [1, 1, 1, 0, 1, 0, 0, 1, 0, 0, 1, 1, 0, 1, 0, 0] (loopAt [1, 1, 1, 0, 1, 0, 0, 1, 0, 0, 1, 1, 0, 1, 0] (bodyOf Try.f18)) tjN tjZ 28 tjN tjZ 28 (tjS0 p (j : Int) d) =
    bif decide ((j : Int) < (p.n : Int)) then bif ((j : Int) == (p.i : Int)) then some (.normal, tjS0 p (IntKind.i64.wrap ((j : Int) + 1)) d) else none
    else some (.exit 2, tjS0 p (j : Int) d) := by kernel_rfl
theorem tj_rsz (p : RtP) (j d m : Nat) (C : Nat → Nat) : roundS tjCn 60 [1, 1, 1, 0, 1, 0, 0, 1, 0, 0, 1, 1, 0, 1, 0, 0] (loopAt [1, 1, 1, 0, 1, 0, 0, 1, 0, 0, 1, 1, 0, 1, 0] (bodyOf Try.f18)) tjN tjR 28 tjN tjI 28 (tjSt p (j : Int) d m (nmF C)) =
    bif decide ((j : Int) < (p.n : Int)) then bif ((j : Int) == (p.i : Int)) then none else req (mk4 (IntKind.i64.wrap ((m : Int) + 1))) none
    else some (.exit 2, tjSt p (j : Int) d m (nmF C)) := by kernel_rfl
theorem tj_rs0z (p : RtP) (j d : Nat) : roundS tjCn 60 [1, 1, 1, 0, 1, 0, 0, 1, 0, 0, 1, 1, 0, 1, 0, 0] (loopAt [1, 1, 1, 0, 1, 0, 0, 1, 0, 0, 1, 1, 0, 1, 0] (bodyOf Try.f18)) tjN tjR 28 tjN tjZ 28 (tjS0 p (j : Int) d) =
    bif decide ((j : Int) < (p.n : Int)) then bif ((j : Int) == (p.i : Int)) then none else none
    else some (.exit 2, tjS0 p (j : Int) d) := by kernel_rfl
theorem tjq_eq {α : Type} {p : RtP} {j d : Nat} (hj : j < p.n) (hi : p.i < p.n) (hV : ∀ t, t < p.n → (p.V t).1 < 2 ^ 256) (hd : d < 2 ^ 256) (nx : Nat → Option α) : tjq p j d nx = nx (nMul d (nSub (sX p.V p.i) (sX p.V j))) := by
  unfold tjq
  rw [rdR_eq hi, rdR_eq hj, r2_num, r2_num, Nat.zero_add, Nat.zero_add, vS_num (hV _ hi) (hV _ hj), vM_num hd (nSub_l _ _)]; rfl
theorem tk_loop0 {p : RtP} {j d : Nat} {C : Nat → Nat} (hj : j < p.n) (hV : (p.V j).1 < 2 ^ 256) (hC : C 0 = 1) : LoopOk Try.prog 130 (loopAt [1, 1, 1, 0, 1, 0, 0, 1, 0, 0, 1, 1, 0, 1, 0, 0, 1, 0, 0, 1, 1, 0, 1, 0] (bodyOf Try.f18)) (atSt tkN tkI0 41 (tkS0 p j d (nmF (pyN C (p.V j).1 1 0)) 0) (.exit 4) (tkS0 p j d (nmF (pxN C (p.V j).1 1)) 1)) := by
  refine loopE (fun _ => rtC0) 1 (fun _ _ => ⟨mixed, tabOk, rtS_ok, noL⟩) (fun _ => rfl) rt_at3 (m := 60) (nt := tkN) (ni := tkI0) (et := tkN) (ei := tkI0) (nx := 41) (ex := 41) (fun k => tkS0 p j d (nmF (pyN C (p.V j).1 1 k)) (k : Int)) rfl (by intro h; cases h) ?_ ?_
  · intro k hk
    obtain rfl : k = 0 := by omega
    refine ⟨tkS0 p j d (updR (updR (nmF (pyN C (p.V j).1 1 0)) (0 + 1) (cells4 (nAdd 0 (C 0)))) 0 (cells4 (nSub (pyN C (p.V j).1 1 0 0) (nMul (C 0) (p.V j).1)))) 1, (tk_r0 p j d _).trans ?_, stEq_mk rfl (mSame rfl (mSame rfl (mRow (py_row (by omega)) (mSame rfl (mSame rfl mNil)))))⟩
    have e1 : pyN C (p.V j).1 1 0 1 = 0 := by unfold pyN; rw [if_neg (by omega), if_neg (by omega)]
    rw [r2_num, rdR_eq hj, r2_num, r2_num, Nat.zero_add, e1, hC, vA_num (by decide) (by decide), vM_num (by decide) hV, vS_num (pyN_l _ _ _ _ _) (nMul_l _ _)]
  · refine ⟨tkS0 p j d (nmF (pyN C (p.V j).1 1 1)) 1, tk_r1 p j d _, stEq_mk rfl (mSame rfl (mSame rfl (mRow (fun t ht => ?_) (mSame rfl (mSame rfl mNil)))))⟩
    show nrmK kN4 (nmL _) = nrmK kN4 (nmL _)
    rw [py_all (by omega) ht]
noncomputable def tjS (p : RtP) (k : Nat) : St := if cntN p.i k = 0 then tjS0 p (k : Int) 1 else tjSt p (k : Int) (rdN (sX p.V) p.i k) (cntN p.i k + 1) (nmF (rcN (sX p.V) p.i k))
theorem rd_cnt0 {X : Nat → Nat} {i k : Nat} (h : cntN i k = 0) : rdN X i k = 1 ∧ rcN X i k = rcN X i 0 := by
  by_cases h0 : k = 0
  · subst h0; exact ⟨rfl, rfl⟩
  · have h1 : k ≤ i ∨ i < k := by omega
    rcases h1 with h1 | h1
    · rw [cnt_le h1] at h; omega
    · rw [cnt_gt h1] at h
      obtain rfl : k = 1 := by omega
      obtain rfl : i = 0 := by omega
      exact ⟨rdN_self X 0, rcN_self X 0⟩
noncomputable def tjK (p : RtP) (k : Nat) : Cfg := if k < p.n ∧ k ≠ p.i then (if cntN p.i k = 0 then tjC0 p k 1 (rcN (sX p.V) p.i k) else tjC p k (rdN (sX p.V) p.i k) (cntN p.i k + 1) (rcN (sX p.V) p.i k)) else tjCn
theorem tj_loop {p : RtP} (hn : p.n ≤ 800) (hi : p.i < p.n) (hV : ∀ t, t < p.n → (p.V t).1 < 2 ^ 256) : LoopOk Try.prog 130 (loopAt [1, 1, 1, 0, 1, 0, 0, 1, 0, 0, 1, 1, 0, 1, 0] (bodyOf Try.f18)) (atSt tjN tjZ 28 (tjS0 p 0 1) (.exit 2) (tjS p p.n)) := by
  refine loopV (tjK p) p.n ?_ ?_ rt_at2 (m := 60) (nt := tjN) (ni := fun k => if k = p.i then (if cntN p.i k = 0 then tjZ else tjI) else tjR) (et := tjN) (ei := fun k => if cntN p.i k = 0 then tjZ else tjI) (nx := 28) (ex := 28) (tjS p) (by show _ = tjS p 0; unfold tjS; rw [if_pos (cnt_le (Nat.zero_le _))]; rfl) (by intro h; cases h) ?_ ?_
  · intro k _
    unfold tjK
    by_cases h : k < p.n ∧ k ≠ p.i
    · rw [if_pos h]
      by_cases h0 : cntN p.i k = 0
      · rw [if_pos h0]; exact ⟨mixed, tabOk, rtS_ok, oneL (tk_loop0 h.1 (hV k h.1) (by rw [(rd_cnt0 h0).2]; rfl))⟩
      · rw [if_neg h0]; exact ⟨mixed, tabOk, rtS_ok, oneL (tk_loopB (by omega) (by unfold cntN; split <;> omega) h.1 (hV k h.1) (fun t _ => rcN_l _ _ _ t))⟩
    · rw [if_neg h]; exact ⟨mixed, tabOk, rtS_ok, noneL2⟩
  · intro k
    unfold tjK
    split
    · split <;> rfl
    · rfl
  · intro k hk
    have hw : IntKind.i64.wrap ((k : Int) + 1) = ((k + 1 : Nat) : Int) := by rw [wrap_i64 (by omega)]; rfl
    by_cases h : k = p.i
    · have hb : ((k : Int) == (p.i : Int)) = true := by rw [beq_iff_eq]; omega
      unfold tjK
      rw [if_neg (by omega)]
      simp only [if_pos h]
      by_cases h0 : cntN p.i k = 0
      · simp only [if_pos h0]
        have h1 : cntN p.i (k + 1) = 0 := by rw [h, cnt_self, show cntN p.i p.i = cntN p.i k from by rw [h]]; exact h0
        refine ⟨tjS0 p ((k + 1 : Nat) : Int) 1, ?_, ?_⟩
        · unfold tjS
          rw [if_pos h0]
          refine (tj_rs0 p k 1).trans ?_
          rw [decide_eq_true (by omega), cond_true, hb, cond_true, hw]
        · unfold tjS
          rw [if_pos h1]; exact stEq_refl rfl
      · simp only [if_neg h0]
        have h1 : cntN p.i (k + 1) = cntN p.i k := by rw [h, cnt_self]
        refine ⟨tjSt p ((k + 1 : Nat) : Int) (rdN (sX p.V) p.i k) (cntN p.i k + 1) (nmF (rcN (sX p.V) p.i k)), ?_, ?_⟩
        · unfold tjS
          rw [if_neg h0]
          refine (tj_rs p k _ _ _).trans ?_
          rw [decide_eq_true (by omega), cond_true, hb, cond_true, hw]
        · unfold tjS
          rw [if_neg (by omega), h1, show rdN (sX p.V) p.i (k + 1) = rdN (sX p.V) p.i k from by rw [h]; exact rdN_self _ _, show rcN (sX p.V) p.i (k + 1) = rcN (sX p.V) p.i k from by rw [h]; exact rcN_self _ _]
          exact stEq_refl rfl
    · have hb : ((k : Int) == (p.i : Int)) = false := by rw [beq_eq_false_iff_ne]; omega
      unfold tjK
      rw [if_pos ⟨hk, h⟩]
      simp only [if_neg h]
      have h1 : cntN p.i (k + 1) = cntN p.i k + 1 := cnt_step h
      have hs : tjS p (k + 1) = tjSt p ((k + 1 : Nat) : Int) (nMul (rdN (sX p.V) p.i k) (nSub (sX p.V p.i) (sX p.V k))) (cntN p.i k + 1 + 1) (nmF (pxN (rcN (sX p.V) p.i k) (sX p.V k) (cntN p.i k + 1))) := by
        unfold tjS
        rw [if_neg (by omega), h1, rdN_step h, rcN_step h]
      refine ⟨tjS p (k + 1), ?_, by rw [hs]; exact stEq_refl rfl⟩
      rw [hs]
      by_cases h0 : cntN p.i k = 0
      · simp only [if_pos h0]
        unfold tjS
        rw [if_pos h0]
        refine (tj_r0 p k 1 _).trans ?_
        rw [decide_eq_true (by omega), cond_true, hb, cond_false, hw]
        refine (req_true (stEq_mk rfl (mSame rfl (mSame rfl (mRow (fun t _ => ?_) (mSame rfl (mSame rfl mNil))))))).trans ?_
        · show nrmK kN4 [u64 0, u64 0, u64 0, u64 0] = nrmK kN4 (nmL (pyN _ _ 1 0 t))
          rw [py_start]; rfl
        · rw [tjq_eq hk hi hV (by decide), (rd_cnt0 h0).1, h0]; rfl
      · simp only [if_neg h0]
        unfold tjS
        rw [if_neg h0]
        have hc : cntN p.i k + 1 ≤ 1000 := by unfold cntN; split <;> omega
        refine (tj_r p k _ _ _).trans ?_
        rw [decide_eq_true (by omega), cond_true, hb, cond_false, hw, wrap_i64 (by omega), show ((cntN p.i k + 1 : Nat) : Int) + 1 = ((cntN p.i k + 1 + 1 : Nat) : Int) from by omega, mk4_true (by omega), req_true rfl, vaL_eq hc]
        refine (req_true (stEq_mk rfl (mSame rfl (mSame rfl (mRow (fun t _ => ?_) (mSame rfl (mSame rfl mNil))))))).trans ?_
        · show nrmK kN4 [u64 0, u64 0, u64 0, u64 0] = nrmK kN4 (nmL (pyN _ _ _ 0 t))
          rw [py_start]; rfl
        · rw [tjq_eq hk hi hV (rdN_l _ _ _)]; rfl
  · have hnl : ∀ x : Int, (decide ((p.n : Int) < (p.n : Int))) = false := fun _ => decide_eq_false (by omega)
    unfold tjK
    rw [if_neg (by omega)]
    refine ⟨tjS p p.n, ?_, ?_⟩
    · by_cases h0 : cntN p.i p.n = 0
      · simp only [if_pos h0, if_neg (show ¬ p.n = p.i by omega)]
        unfold tjS
        rw [if_pos h0]
        refine (tj_rs0z p p.n 1).trans ?_
        rw [hnl 0, cond_false]
      · simp only [if_neg h0, if_neg (show ¬ p.n = p.i by omega)]
        unfold tjS
        rw [if_neg h0]
        refine (tj_rsz p p.n _ _ _).trans ?_
        rw [hnl 0, cond_false]
    · unfold tjS
      split <;> exact stEq_refl rfl
def tuN : List Nat := [0, 6, 7, 8, 13, 14]
def tuI : List Nat := [rtB1, 36, rtBo, 1500000]
def tuZ : List Nat := [22, 36, rtBo, 1500000]
def tuSt (n : Nat) (V : Nat → Nat × Nat) (e0 i : Nat) (m F : Nat) (C : Nat → Nat) (g : Nat → List Value) (k : Int) : St :=
  ⟨[(0, aSl 0 n), (6, .slice (some ⟨rtBo, 0, none⟩) n n), (7, i64 (i : Nat)), (8, .slice (some ⟨rtB1, 0, none⟩) m m), (13, ptr 36), (14, i64 k)],
   [(rtB1, ⟨.row kN4 m (nmF C), 25, true⟩), (36, ⟨cells4 F, 25, true⟩), (rtBo, ⟨.row kN4 n g, 25, true⟩), (1500000, ⟨.row kN8 n (shF V), e0, false⟩)], 39⟩
def tuS0 (n : Nat) (V : Nat → Nat × Nat) (e0 i : Nat) (F : Nat) (g : Nat → List Value) (k : Int) : St :=
  ⟨[(0, aSl 0 n), (6, .slice (some ⟨rtBo, 0, none⟩) n n), (7, i64 (i : Nat)), (8, .slice (some ⟨22, 0, none⟩) 1 1), (13, ptr 36), (14, i64 k)],
   [(22, ⟨.lst (cells4 1), 25, true⟩), (36, ⟨cells4 F, 25, true⟩), (rtBo, ⟨.row kN4 n g, 25, true⟩), (1500000, ⟨.row kN8 n (shF V), e0, false⟩)], 39⟩
theorem tu_r (n : Nat) (V : Nat → Nat × Nat) (e0 i m F : Nat) (C U : Nat → Nat) (k : Nat) : roundS rtC0 60 [1, 1, 1, 0, 1, 0, 0, 1, 0, 0, 1, 1, 1, 1, 1, 0, 0] (loopAt [1, 1, 1, 0, 1, 0, 0, 1, 0, 0, 1, 1, 1, 1, 1, 0] (bodyOf Try.f18)) tuN tuI 39 tuN tuI 39 (tuSt n V e0 i m F C (nmF U) (k : Int)) =
    bif decide ((k : Int) < (m : Int)) then rdR k n (rdR k m (r2 (num (C (0 + k))) (num F) (r2 (num (U (0 + k))) (num (vM (num (C (0 + k))) (num F))) (rdR k n
      (some (.normal, tuSt n V e0 i m F C (updR (nmF U) (0 + k) (cells4 (vA (num (U (0 + k))) (num (vM (num (C (0 + k))) (num F)))))) (IntKind.i64.wrap ((k : Int) + 1))))))))
    else some (.exit 6, tuSt n V e0 i m F C (nmF U) (k : Int)) := by kernel_rfl
theorem tu_r0 (n : Nat) (V : Nat → Nat × Nat) (e0 i F : Nat) (U : Nat → Nat) : roundS rtC0 60 [1, 1, 1, 0, 1, 0, 0, 1, 0, 0, 1, 1, 1, 1, 1, 0, 0] (loopAt [1, 1, 1, 0, 1, 0, 0, 1, 0, 0, 1, 1, 1, 1, 1, 0] (bodyOf Try.f18)) tuN tuZ 39 tuN tuZ 39 (tuS0 n V e0 i F (nmF U) 0) =
    rdR 0 n (r2 (num 1) (num F) (r2 (num (U 0)) (num (vM (num 1) (num F))) (rdR 0 n
      (some (.normal, tuS0 n V e0 i F (updR (nmF U) 0 (cells4 (vA (num (U 0)) (num (vM (num 1) (num F)))))) 1))))) := by kernel_rfl
theorem tu_r1 (n : Nat) (V : Nat → Nat × Nat) (e0 i F : Nat) (U : Nat → Nat) : roundS rtC0 60 [1, 1, 1, 0, 1, 0, 0, 1, 0, 0, 1, 1, 1, 1, 1, 0, 0] (loopAt [1, 1, 1, 0, 1, 0, 0, 1, 0, 0, 1, 1, 1, 1, 1, 0] (bodyOf Try.f18)) tuN tuZ 39 tuN tuZ 39 (tuS0 n V e0 i F (nmF U) 1) =
    some (.exit 6, tuS0 n V e0 i F (nmF U) 1) := by kernel_rfl
theorem tu_loop {n : Nat} {V : Nat → Nat × Nat} {e0 i F : Nat} {C U : Nat → Nat} (hn : n ≤ 1000) (hC : ∀ k, C k < 2 ^ 256) (hF : F < 2 ^ 256) (hU : ∀ k, U k < 2 ^ 256) : LoopOk Try.prog 130 (loopAt [1, 1, 1, 0, 1, 0, 0, 1, 0, 0, 1, 1, 1, 1, 1, 0] (bodyOf Try.f18)) (atSt tuN tuI 39 (tuSt n V e0 i n F C (nmF (ruN U C F 0)) 0) (.exit 6) (tuSt n V e0 i n F C (nmF (ruN U C F n)) (n : Int))) := by
  refine loopE (fun _ => rtC0) n (fun _ _ => ⟨mixed, tabOk, rtS_ok, noL⟩) (fun _ => rfl) rt_at4 (m := 60) (nt := tuN) (ni := tuI) (et := tuN) (ei := tuI) (nx := 39) (ex := 39) (fun k => tuSt n V e0 i n F C (nmF (ruN U C F k)) (k : Int)) rfl (by intro h; cases h) ?_ ?_
  · intro k hk
    refine ⟨tuSt n V e0 i n F C (updR (nmF (ruN U C F k)) k (cells4 (nAdd (U k) (nMul (C k) F)))) ((k + 1 : Nat) : Int), ?_, stEq_mk rfl (mSame rfl (mSame rfl (mRow ru_row (mSame rfl mNil))))⟩
    refine (tu_r n V e0 i n F C _ k).trans ?_
    have e : ruN U C F k k = U k := by unfold ruN; rw [if_neg (by omega)]
    rw [decide_eq_true (by omega), cond_true, rdR_eq hk, rdR_eq hk, r2_num, r2_num, rdR_eq hk, Nat.zero_add, e, vM_num (hC k) hF, vA_num (hU k) (nMul_l _ _), wrap_i64 (by omega)]; rfl
  · refine ⟨_, ?_, stEq_refl rfl⟩
    refine (tu_r n V e0 i n F C _ n).trans ?_
    rw [decide_eq_false (by omega), cond_false]
theorem tu_loop0 {V : Nat → Nat × Nat} {e0 i F : Nat} {C U : Nat → Nat} (hC : C 0 = 1) (hF : F < 2 ^ 256) (hU : ∀ k, U k < 2 ^ 256) : LoopOk Try.prog 130 (loopAt [1, 1, 1, 0, 1, 0, 0, 1, 0, 0, 1, 1, 1, 1, 1, 0] (bodyOf Try.f18)) (atSt tuN tuZ 39 (tuS0 1 V e0 i F (nmF (ruN U C F 0)) 0) (.exit 6) (tuS0 1 V e0 i F (nmF (ruN U C F 1)) 1)) := by
  refine loopE (fun _ => rtC0) 1 (fun _ _ => ⟨mixed, tabOk, rtS_ok, noL⟩) (fun _ => rfl) rt_at4 (m := 60) (nt := tuN) (ni := tuZ) (et := tuN) (ei := tuZ) (nx := 39) (ex := 39) (fun k => tuS0 1 V e0 i F (nmF (ruN U C F k)) (k : Int)) rfl (by intro h; cases h) ?_ ?_
  · intro k hk
    obtain rfl : k = 0 := by omega
    refine ⟨tuS0 1 V e0 i F (updR (nmF (ruN U C F 0)) 0 (cells4 (nAdd (U 0) (nMul (C 0) F)))) 1, ?_, stEq_mk rfl (mSame rfl (mSame rfl (mRow ru_row (mSame rfl mNil))))⟩
    refine (tu_r0 1 V e0 i F _).trans ?_
    rw [rdR_eq (by omega), r2_num, r2_num, rdR_eq (by omega), ru_start, vM_num (by decide) hF, vA_num (hU 0) (nMul_l _ _), hC]
  · exact ⟨_, tu_r1 1 V e0 i F _, stEq_refl rfl⟩
def tiiN : List Nat := [0, 6, 7]
def tiiI : List Nat := [rtBo, 1500000]
def rtSt (n : Nat) (f : Nat → List Value) (e0 : Nat) (g : Nat → List Value) (i : Int) : St :=
  ⟨[(0, aSl 0 n), (6, .slice (some ⟨rtBo, 0, none⟩) n n), (7, i64 i)], [(rtBo, ⟨.row kN4 n g, 25, true⟩), (1500000, ⟨.row kN8 n f, e0, false⟩)], 17⟩
noncomputable def rtK (n : Nat) (V : Nat → Nat × Nat) (e0 i d m F : Nat) (C U : Nat → Nat) : Cfg := ⟨tab, rtS, 130, [([1, 1, 1, 0, 1, 0, 0, 1, 0, 0, 1, 1, 0, 1, 0], atSt tjN tjZ 28 (tjS0 ⟨n, V, e0, U, i⟩ 0 1) (.exit 2) (tjSt ⟨n, V, e0, U, i⟩ (n : Int) d m (nmF C))), ([1, 1, 1, 0, 1, 0, 0, 1, 0, 0, 1, 1, 1, 1, 1, 0], atSt tuN tuI 39 (tuSt n V e0 i m F C (nmF (ruN U C F 0)) 0) (.exit 6) (tuSt n V e0 i m F C (nmF (ruN U C F m)) (m : Int)))]⟩
noncomputable def rtK0 (n : Nat) (V : Nat → Nat × Nat) (e0 i d F : Nat) (C U : Nat → Nat) : Cfg := ⟨tab, rtS, 130, [([1, 1, 1, 0, 1, 0, 0, 1, 0, 0, 1, 1, 0, 1, 0], atSt tjN tjZ 28 (tjS0 ⟨n, V, e0, U, i⟩ 0 1) (.exit 2) (tjS0 ⟨n, V, e0, U, i⟩ (n : Int) d)), ([1, 1, 1, 0, 1, 0, 0, 1, 0, 0, 1, 1, 1, 1, 1, 0], atSt tuN tuZ 39 (tuS0 n V e0 i F (nmF (ruN U C F 0)) 0) (.exit 6) (tuS0 n V e0 i F (nmF (ruN U C F n)) 1))]⟩
noncomputable def rtKn : Cfg := ⟨tab, rtS, 130, [([1, 1, 1, 0, 1, 0, 0, 1, 0, 0, 1, 1, 0, 1, 0], fun _ => [])]⟩
noncomputable def rtq {α : Type} (n : Nat) (V : Nat → Nat × Nat) (i d : Nat) (nx : Nat → Option α) : Option α :=
  rdR i n (req (isNum (num d)) (r2 (num (V (0 + i)).2) (num (vJ (num d))) (nx (vM (num (V (0 + i)).2) (num (vJ (num d)))))))
theorem rt_r (n : Nat) (V : Nat → Nat × Nat) (e0 i d m F : Nat) (C U : Nat → Nat) : roundS (rtK n V e0 i d m F C U) 60 [1, 1, 1, 0, 1, 0, 0] (loopAt [1, 1, 1, 0, 1, 0] (bodyOf Try.f18)) tiiN tiiI 17 tiiN tiiI 17 (rtSt n (shF V) e0 (nmF U) (i : Int)) =
    bif decide ((i : Int) < (n : Int)) then req (stEq (tjS0 ⟨n, V, e0, U, i⟩ 0 1) (tjS0 ⟨n, V, e0, U, i⟩ 0 1)) (rtq n V i d fun F0 => req (stEq (tuSt n V e0 i m F0 C (nmF U) 0) (tuSt n V e0 i m F C (nmF (ruN U C F 0)) 0)) (some (.normal, rtSt n (shF V) e0 (nmF (ruN U C F m)) (IntKind.i64.wrap ((i : Int) + 1)))))
    else some (.exit 0, rtSt n (shF V) e0 (nmF U) (i : Int)) := by kernel_rfl
theorem rt_r0 (n : Nat) (V : Nat → Nat × Nat) (e0 i d F : Nat) (C U : Nat → Nat) : roundS (rtK0 n V e0 i d F C U) 60 [1, 1, 1, 0, 1, 0, 0] (loopAt [1, 1, 1, 0, 1, 0] (bodyOf Try.f18)) tiiN tiiI 17 tiiN tiiI 17 (rtSt n (shF V) e0 (nmF U) (i : Int)) =
    bif decide ((i : Int) < (n : Int)) then req (stEq (tjS0 ⟨n, V, e0, U, i⟩ 0 1) (tjS0 ⟨n, V, e0, U, i⟩ 0 1)) (rtq n V i d fun F0 => req (stEq (tuS0 n V e0 i F0 (nmF U) 0) (tuS0 n V e0 i F (nmF (ruN U C F 0)) 0)) (some (.normal, rtSt n (shF V) e0 (nmF (ruN U C F n)) (IntKind.i64.wrap ((i : Int) + 1)))))
    else some (.exit 0, rtSt n (shF V) e0 (nmF U) (i : Int)) := by kernel_rfl
theorem rt_out (n : Nat) (V : Nat → Nat × Nat) (e0 i : Nat) (U : Nat → Nat) : roundS rtKn 60 [1, 1, 1, 0, 1, 0, 0] (loopAt [1, 1, 1, 0, 1, 0] (bodyOf Try.f18)) tiiN tiiI 17 tiiN tiiI 17 (rtSt n (shF V) e0 (nmF U) (i : Int)) =
    bif decide ((i : Int) < (n : Int)) then none else some (.exit 0, rtSt n (shF V) e0 (nmF U) (i : Int)) := by kernel_rfl
theorem rtq_eq {α : Type} {n : Nat} {V : Nat → Nat × Nat} {i d : Nat} (hi : i < n) (hV : (V i).2 < 2 ^ 256) (hd : d < 2 ^ 256) (nx : Nat → Option α) : rtq n V i d nx = nx (nMul (sY V i) (nInv d)) := by
  unfold rtq
  rw [rdR_eq hi, isNum_num, req_true rfl, r2_num, Nat.zero_add, vJ_num hd, vM_num hV (nInv_l _)]; rfl
noncomputable def rtKK (n : Nat) (V : Nat → Nat × Nat) (e0 i : Nat) : Cfg := if i < n then (if n = 1 then rtK0 n V e0 i 1 (rfN (sX V) (sY V) n i) (rcN (sX V) i n) (ruTN (sX V) (sY V) n i) else rtK n V e0 i (rdN (sX V) i n) n (rfN (sX V) (sY V) n i) (rcN (sX V) i n) (ruTN (sX V) (sY V) n i)) else rtKn
theorem rt_loop {n : Nat} {V : Nat → Nat × Nat} {e0 : Nat} (hn : n ≤ 800) (hV : ∀ j, j < n → (V j).1 < 2 ^ 256 ∧ (V j).2 < 2 ^ 256) (hu : Unlike (sX V) n) : LoopOk Try.prog 130 (loopAt [1, 1, 1, 0, 1, 0] (bodyOf Try.f18)) (atSt tiiN tiiI 17 (rtSt n (shF V) e0 (nmF (ruTN (sX V) (sY V) n 0)) 0) (.exit 0) (rtSt n (shF V) e0 (nmF (trhN (sX V) (sY V) n)) (n : Int))) := by
  refine loopE (rtKK n V e0) n ?_ ?_ rt_at1 (m := 60) (nt := tiiN) (ni := tiiI) (et := tiiN) (ei := tiiI) (nx := 17) (ex := 17) (fun i => rtSt n (shF V) e0 (nmF (ruTN (sX V) (sY V) n i)) (i : Int)) rfl (by intro h; cases h) ?_ ?_
  · intro i _
    unfold rtKK
    by_cases h : i < n
    · rw [if_pos h]
      have hj := tj_loop (p := ⟨n, V, e0, ruTN (sX V) (sY V) n i, i⟩) hn h (fun t ht => (hV t ht).1)
      by_cases h1 : n = 1
      · rw [if_pos h1]
        subst h1
        obtain rfl : i = 0 := by omega
        refine ⟨mixed, tabOk, rtS_ok, consL ?_ (oneL (tu_loop0 (by rw [show rcN (sX V) 0 1 = rcN (sX V) 0 0 from rcN_self _ _]; rfl) (nMul_l _ _) (fun k => p_lt (ruTN_p _ _ _ _ _))))⟩
        have e : tjS ⟨1, V, e0, ruTN (sX V) (sY V) 1 0, 0⟩ 1 = tjS0 ⟨1, V, e0, ruTN (sX V) (sY V) 1 0, 0⟩ ((1 : Nat) : Int) 1 := by
          unfold tjS; exact if_pos (show cntN 0 1 = 0 from rfl)
        rw [← e]; exact hj
      · rw [if_neg h1]
        refine ⟨mixed, tabOk, rtS_ok, consL ?_ (oneL (tu_loop (by omega) (rcN_l _ _ _) (nMul_l _ _) (fun k => p_lt (ruTN_p _ _ _ _ _))))⟩
        have hc : cntN i n + 1 = n := by rw [cnt_gt h]; omega
        have e : tjS ⟨n, V, e0, ruTN (sX V) (sY V) n i, i⟩ n = tjSt ⟨n, V, e0, ruTN (sX V) (sY V) n i, i⟩ (n : Int) (rdN (sX V) i n) n (nmF (rcN (sX V) i n)) := by
          unfold tjS
          show (if cntN i n = 0 then _ else tjSt _ (n : Int) (rdN (sX V) i n) (cntN i n + 1) (nmF (rcN (sX V) i n))) = _
          rw [if_neg (by omega), hc]
        rw [← e]; exact hj
    · rw [if_neg h]; exact ⟨mixed, tabOk, rtS_ok, noneL2⟩
  · intro i
    unfold rtKK
    split
    · split <;> rfl
    · rfl
  · intro i hi
    unfold rtKK
    rw [if_pos hi]
    refine ⟨rtSt n (shF V) e0 (nmF (ruN (ruTN (sX V) (sY V) n i) (rcN (sX V) i n) (rfN (sX V) (sY V) n i) n)) ((i + 1 : Nat) : Int), ?_, stEq_mk rfl (mRow ru_all (mSame rfl mNil))⟩
    have hw : IntKind.i64.wrap ((i : Int) + 1) = ((i + 1 : Nat) : Int) := by rw [wrap_i64 (by omega)]; rfl
    by_cases h1 : n = 1
    · rw [if_pos h1]
      have hi0 : i = 0 := by omega
      have hd : rdN (sX V) i n = 1 := by rw [hi0, h1]; exact rdN_self _ _
      refine (rt_r0 n V e0 i 1 _ _ _).trans ?_
      rw [decide_eq_true (by omega), cond_true, req_true (stEq_refl rfl), rtq_eq hi (hV i hi).2 (by decide), hw]
      refine (req_true ?_).trans rfl
      rw [show nMul (sY V i) (nInv 1) = rfN (sX V) (sY V) n i from by unfold rfN; rw [hd]]
      exact stEq_mk rfl (mSame rfl (mSame rfl (mRow (fun k _ => by show nrmK kN4 (nmL _) = nrmK kN4 (nmL _); rw [ru_start]) (mSame rfl mNil))))
    · rw [if_neg h1]
      refine (rt_r n V e0 i _ n _ _ _).trans ?_
      rw [decide_eq_true (by omega), cond_true, req_true (stEq_refl rfl), rtq_eq hi (hV i hi).2 (rdN_l _ _ _), hw]
      refine (req_true ?_).trans rfl
      exact stEq_mk rfl (mSame rfl (mSame rfl (mRow (fun k _ => by show nrmK kN4 (nmL _) = nrmK kN4 (nmL _); rw [ru_start]) (mSame rfl mNil))))
  · unfold rtKK
    rw [if_neg (by omega)]
    refine ⟨rtSt n (shF V) e0 (nmF (ruTN (sX V) (sY V) n n)) (n : Int), ?_, stEq_mk rfl (mRow (fun k hk => by show nrmK kN4 (nmL _) = nrmK kN4 (nmL _); rw [rt_same hu _ hk]) (mSame rfl mNil))⟩
    refine (rt_out n V e0 n _).trans ?_
    rw [decide_eq_false (by omega), cond_false]
noncomputable def rtC (n : Nat) (V : Nat → Nat × Nat) (e0 : Nat) (U D : Nat → Nat) : Cfg := ⟨tab, rtS, 130, [([1, 1, 1, 0, 1, 0], atSt tiiN tiiI 17 (rtSt n (shF V) e0 (nmF U) 0) (.exit 0) (rtSt n (shF V) e0 (nmF D) (n : Int)))]⟩
noncomputable def rtSn : Sums := [(46, XskF 25), (14, WsnF)]
theorem rtSn_ok : SumsOk Try.prog rtSn := sums_consM xs_msum (sums_consM (MSum_sub rwm_msum (WsnF_sub 25)) sums_nil)
noncomputable def rtSz : Sums := [(46, XszF), (14, WsnF)]
theorem rtSz_ok : SumsOk Try.prog rtSz := sums_consM xsz_msum (sums_consM (MSum_sub rwm_msum (WsnF_sub 25)) sums_nil)
theorem rt_ev (n : Nat) (f : Nat → List Value) (V : Nat → Nat × Nat) (U D : Nat → Nat) (es : Nat → Nat) (id : Nat) : fnMS (rtC n V (es 0) U D) 60 Try.f18 (bodyOf Try.f18) (cArgs [.sl kN8 n f] 0) (cMem es [.sl kN8 n f] 0) 0 id =
    req (kb4 n && okS n (sg8 n f) && Nat.ble 1 n) (req (rzO n f && (ckN (rzP n f) n == 0)) (req (mk4 (n : Int)) (req (stEq (rtSt n f (es 0) (fun _ => [u64 0, u64 0, u64 0, u64 0]) 0) (rtSt n (shF V) (es 0) (nmF U) 0)) (req (Nat.ble n n) (some (.tuple #[nSl id n, i64 0], rw4 25 id n (nmF D))))))) := by kernel_rfl
theorem rt_evn (n : Nat) (f : Nat → List Value) (es : Nat → Nat) (id : Nat) : fnMS ⟨tab, rtSn, 130, [([1, 1, 1, 0, 1, 0], fun _ => [])]⟩ 60 Try.f18 (bodyOf Try.f18) (cArgs [.sl kN8 n f] 0) (cMem es [.sl kN8 n f] 0) 0 id =
    req (kb4 n && okS n (sg8 n f) && Nat.ble 1 n) (req (rzO n f && (ckN (rzP n f) n != 0)) (bif ckN (rzP n f) n != 0 then some (.tuple #[.slice none 0 0, i64 (ckN (rzP n f) n)], []) else req (mk4 (n : Int)) none)) := by kernel_rfl
theorem rt_evz (f : Nat → List Value) (es : Nat → Nat) (id : Nat) : fnMS ⟨tab, rtSz, 130, [([1, 1, 1, 0, 1, 0], fun _ => [])]⟩ 60 Try.f18 (bodyOf Try.f18) (cArgs [.sl kN8 0 f] 0) (cMem es [.sl kN8 0 f] 0) 0 id =
    req (kb4 0 && true) (req (true && okV 0 noF4 && (ckN (nA noF4) 0 != 0)) (bif ckN (nA noF4) 0 != 0 then some (.tuple #[.slice none 0 0, i64 (ckN (nA noF4) 0)], []) else none)) := by kernel_rfl
theorem rtk_msum : MSum Try.prog 18 (ThkF 25) := by
  intro w0 R fm w hm vs args' hl mm hsub id hlt v l hpick hnew
  match vs, hl, hpick with
  | [a], hl, hpick =>
    obtain ⟨hc, rfl, rfl⟩ := pick_one hpick
    simp only [Bool.and_eq_true, beq_iff_eq] at hc
    obtain ⟨⟨ha, hn⟩, h⟩ := hc
    generalize hqa : srcB mm kN8 a = qa at ha hn h hnew ⊢
    obtain ⟨ok1, n, f⟩ := qa
    simp only at ha hn h hnew ⊢
    subst ha
    have hn1 := (okS_iff.1 hn).1
    obtain ⟨h1, h2, h3⟩ := ckN_zero h
    have hO : rzO n f = true := by
      unfold rzO
      rw [kb4_true, okV_sg, okV_nm hn1]; rfl
    have hX : ∀ j, j < n → rzP n f j = xA f j := fun j hj => by
      unfold rzP
      rw [nA_sg, show xA (sg8 n f) = xA f from funext fun j => congrArg Prod.fst (congrFun (sA_sg n f) j), nA_nm (el8_num hn hj).2.1]
    have hck : ckN (rzP n f) n = ckN (xA f) n := ckN_congr hX
    refine msum_at (c := (bodyOf Try.f18)) (fuel := 60) (next := 0) Try.func18 (by kernel_rfl) (by kernel_rfl) hm hl hsub hlt (A := [.sl kN8 n f]) ⟨hqa, trivial⟩ (by show 1 ≤ Try.f18.ntmps; decide +kernel) (.inr ⟨_, rfl⟩) hnew (fun es => ?_)
    refine ⟨rtC n (sA f) (es 0) (ruTN (xA f) (yA f) n 0) (trhN (xA f) (yA f) n), ⟨mixed, tabOk, rtS_ok, oneL (rt_loop (by omega) (fun j hj => ⟨(el8_num hn hj).2.1, (el8_num hn hj).2.2.2⟩) (unlike_of h3))⟩, rfl, ?_⟩
    refine (rt_ev n f _ _ _ es id).trans ?_
    rw [kb4_true, okS_sg, hn, bE (by omega), req_true (b := true && true && true) rfl, hck, hO, h, req_true (b := true && ((0 : Int) == 0)) rfl, mk4_true (by omega), req_true rfl]
    refine Eq.trans (req_true (stEq_mk rfl (mRow (fun k _ => rt_zero k) (mRow (row_sh hn) mNil)))) ?_
    rw [bE (Nat.le_refl _), req_true rfl]
  | [], _, h => simp [ThkF, pickM] at h
  | _ :: _ :: _, _, h => simp [ThkF, pickM] at h
theorem rtn_msum : MSum Try.prog 18 ThnF := by
  intro w0 R fm w hm vs args' hl mm hsub id hlt v l hpick hnew
  match vs, hl, hpick with
  | [a], hl, hpick =>
    obtain ⟨hc, rfl, rfl⟩ := pick_one hpick
    simp only [Bool.and_eq_true] at hc
    obtain ⟨⟨ha, hn⟩, h⟩ := hc
    generalize hqa : srcB mm kN8 a = qa at ha hn h hnew ⊢
    obtain ⟨ok1, n, f⟩ := qa
    simp only at ha hn h hnew ⊢
    subst ha
    have hn1 := (okS_iff.1 hn).1
    refine msum_at (c := (bodyOf Try.f18)) (fuel := 60) (next := 0) Try.func18 (by kernel_rfl) (by kernel_rfl) hm hl hsub hlt (A := [.sl kN8 n f]) ⟨hqa, trivial⟩ (by show 1 ≤ Try.f18.ntmps; decide +kernel) (.inl rfl) hnew (fun es => ?_)
    by_cases h0 : n = 0
    · subst h0
      refine ⟨⟨tab, rtSz, 130, [([1, 1, 1, 0, 1, 0], fun _ => [])]⟩, ⟨mixed, tabOk, rtSz_ok, noneL2⟩, rfl, ?_⟩
      refine (rt_evz f es id).trans ?_
      rw [no_okV, ckN_len (.inl rfl), ckN_len (.inl rfl)]; rfl
    · have hO : rzO n f = true := by
        unfold rzO
        rw [kb4_true, okV_sg, okV_nm hn1]; rfl
      have hX : ∀ j, j < n → rzP n f j = xA f j := fun j hj => by
        unfold rzP
        rw [nA_sg, show xA (sg8 n f) = xA f from funext fun j => congrArg Prod.fst (congrFun (sA_sg n f) j), nA_nm (el8_num hn hj).2.1]
      have hck : ckN (rzP n f) n = ckN (xA f) n := ckN_congr hX
      refine ⟨⟨tab, rtSn, 130, [([1, 1, 1, 0, 1, 0], fun _ => [])]⟩, ⟨mixed, tabOk, rtSn_ok, noneL2⟩, rfl, ?_⟩
      refine (rt_evn n f es id).trans ?_
      rw [kb4_true, okS_sg, hn, bE (by omega), req_true (b := true && true && true) rfl, hck, hO, h, req_true (b := true && true) rfl, cond_true]
  | [], _, h => simp [ThnF, pickM] at h
  | _ :: _ :: _, _, h => simp [ThnF, pickM] at h
end Go.Proofs.Ytbklbmiddacaiaa
