/-
  Several texts in one.
-/
import Derived.Test.YtpkoldooncpggaaSc
import Derived.Test.YtpkoldooncpggaaSb
import Derived.Test.YtpkoldooncpggaaEi
/-
  Package poly: one product, sum, difference, inverse.
-/
namespace Go.Proofs.Ytpkoldooncpggaa
set_option maxRecDepth 100000
open Go.W

def paC : Cfg := ⟨tab, [(21, FAddF)], 8, []⟩
theorem pa_ev (A B : Nat) : fnS paC 60 Try.f23 (bodyOf Try.f23) [num A, num B] = r2 (num A) (num B) (some (num (faddN 1 (unnum (num A)) (unnum (num B))))) := by kernel_rfl
theorem pa_sum : Sum Try.prog 23 PAddF := by
  refine sum_of (C := paC) (c := bodyOf Try.f23) ⟨mixed, tabOk, sums_cons FAdd_sum sums_nil, noL⟩ Try.func23 (by kernel_rfl) (by kernel_rfl) rfl (fuel := 60) fun args v h _ => ?_
  obtain ⟨a, b, ha, hb, rfl, rfl⟩ := arg2 (f := fun x y => num (nAdd (unnum x) (unnum y))) h
  exact ⟨by show 2 ≤ Try.f23.ntmps; decide +kernel, (pa_ev _ _).trans (by rw [r2_num, nAdd_def]), rfl⟩

def psC : Cfg := ⟨tab, [(59, FSubF)], 8, []⟩
theorem ps_ev (A B : Nat) : fnS psC 60 Try.f42 (bodyOf Try.f42) [num A, num B] = r2 (num A) (num B) (some (num (fsubN 1 (unnum (num A)) (unnum (num B))))) := by kernel_rfl
theorem ps_sum : Sum Try.prog 42 PSubF := by
  refine sum_of (C := psC) (c := bodyOf Try.f42) ⟨mixed, tabOk, sums_cons FSub_sum sums_nil, noL⟩ Try.func42 (by kernel_rfl) (by kernel_rfl) rfl (fuel := 60) fun args v h _ => ?_
  obtain ⟨a, b, ha, hb, rfl, rfl⟩ := arg2 (f := fun x y => num (nSub (unnum x) (unnum y))) h
  exact ⟨by show 2 ≤ Try.f42.ntmps; decide +kernel, (ps_ev _ _).trans (by rw [r2_num, nSub_def]), rfl⟩

def pmC : Cfg := ⟨tab, [(39, FMulF)], 8, []⟩
theorem pm_ev (A B : Nat) : fnS pmC 60 Try.f24 (bodyOf Try.f24) [num A, num B] = r2 (num A) (num B) (some (num (fmulN 1 (unnum (num A)) (unnum (num B))))) := by kernel_rfl
theorem pm_sum : Sum Try.prog 24 PMulF := by
  refine sum_of (C := pmC) (c := bodyOf Try.f24) ⟨mixed, tabOk, sums_cons FMul_sum sums_nil, noL⟩ Try.func24 (by kernel_rfl) (by kernel_rfl) rfl (fuel := 60) fun args v h _ => ?_
  obtain ⟨a, b, ha, hb, rfl, rfl⟩ := arg2 (f := fun x y => num (nMul (unnum x) (unnum y))) h
  exact ⟨by show 2 ≤ Try.f24.ntmps; decide +kernel, (pm_ev _ _).trans (by rw [r2_num, nMul_def]), rfl⟩

def piC : Cfg := ⟨tab, [(47, InvF)], 5, []⟩
theorem pi_ev (A : Nat) : fnS piC 60 Try.f35 (bodyOf Try.f35) [num A] = req (isNum (num A)) (some (num (powN 1 (unnum (num A)) (primeN 1 - 2)))) := by kernel_rfl
theorem pi_sum : Sum Try.prog 35 PInvF := by
  refine sum_of (C := piC) (c := bodyOf Try.f35) ⟨mixed, tabOk, sums_cons Inv_sum sums_nil, noL⟩ Try.func35 (by kernel_rfl) (by kernel_rfl) rfl (fuel := 60) fun args v h _ => ?_
  obtain ⟨a, ha, rfl, rfl⟩ := arg1 (f := fun x => num (nInv (unnum x))) h
  exact ⟨by show 1 ≤ Try.f35.ntmps; decide +kernel, (pi_ev _).trans (by rw [isNum_num, req_true rfl, nInv_def]), rfl⟩

def raaC : Cfg := ⟨tab, [(40, FAddF)], 8, []⟩
theorem ra_ev (A B : Nat) : fnS raaC 60 Try.f25 (bodyOf Try.f25) [num A, num B] = r2 (num A) (num B) (some (num (faddN 1 (unnum (num A)) (unnum (num B))))) := by kernel_rfl
theorem ra_sum : Sum Try.prog 25 PAddF := by
  refine sum_of (C := raaC) (c := bodyOf Try.f25) ⟨mixed, tabOk, sums_cons FAddR_sum sums_nil, noL⟩ Try.func25 (by kernel_rfl) (by kernel_rfl) rfl (fuel := 60) fun args v h _ => ?_
  obtain ⟨a, b, ha, hb, rfl, rfl⟩ := arg2 (f := fun x y => num (nAdd (unnum x) (unnum y))) h
  exact ⟨by show 2 ≤ Try.f25.ntmps; decide +kernel, (ra_ev _ _).trans (by rw [r2_num, nAdd_def]), rfl⟩

def rssC : Cfg := ⟨tab, [(43, FSubF)], 8, []⟩
theorem rs_ev (A B : Nat) : fnS rssC 60 Try.f29 (bodyOf Try.f29) [num A, num B] = r2 (num A) (num B) (some (num (fsubN 1 (unnum (num A)) (unnum (num B))))) := by kernel_rfl
theorem rs_sum : Sum Try.prog 29 PSubF := by
  refine sum_of (C := rssC) (c := bodyOf Try.f29) ⟨mixed, tabOk, sums_cons FSubR_sum sums_nil, noL⟩ Try.func29 (by kernel_rfl) (by kernel_rfl) rfl (fuel := 60) fun args v h _ => ?_
  obtain ⟨a, b, ha, hb, rfl, rfl⟩ := arg2 (f := fun x y => num (nSub (unnum x) (unnum y))) h
  exact ⟨by show 2 ≤ Try.f29.ntmps; decide +kernel, (rs_ev _ _).trans (by rw [r2_num, nSub_def]), rfl⟩

def rmmC : Cfg := ⟨tab, [(41, FMulF)], 8, []⟩
theorem rm_ev (A B : Nat) : fnS rmmC 60 Try.f26 (bodyOf Try.f26) [num A, num B] = r2 (num A) (num B) (some (num (fmulN 1 (unnum (num A)) (unnum (num B))))) := by kernel_rfl
theorem rm_sum : Sum Try.prog 26 PMulF := by
  refine sum_of (C := rmmC) (c := bodyOf Try.f26) ⟨mixed, tabOk, sums_cons FMulR_sum sums_nil, noL⟩ Try.func26 (by kernel_rfl) (by kernel_rfl) rfl (fuel := 60) fun args v h _ => ?_
  obtain ⟨a, b, ha, hb, rfl, rfl⟩ := arg2 (f := fun x y => num (nMul (unnum x) (unnum y))) h
  exact ⟨by show 2 ≤ Try.f26.ntmps; decide +kernel, (rm_ev _ _).trans (by rw [r2_num, nMul_def]), rfl⟩

end Go.Proofs.Ytpkoldooncpggaa

/-
  Package poly: what a polynomial is worth.
-/
namespace Go.Proofs.Ytpkoldooncpggaa
set_option maxRecDepth 100000
open Go.W

noncomputable def evS : Sums := [(24, PMulF), (23, PAddF)]
theorem evS_ok : SumsOk Try.prog evS := sums_cons pm_sum (sums_cons pa_sum sums_nil)
noncomputable def evC0 : Cfg := ⟨tab, evS, 23, []⟩
theorem ev_at : codeAt [1, 1, 0, 1, 0] (bodyOf Try.f10) = some (.loop (loopAt [1, 1, 0, 1, 0] (bodyOf Try.f10))) := by kernel_rfl
def evNt : List Nat := [0, 3, 4, 5, 6]
def evNi : List Nat := [0, 1, 2, 1500000]
def evSt (n : Nat) (f : Nat → List Value) (e0 X Y : Nat) (i : Int) : St :=
  ⟨[(0, aSl 0 n), (3, ptr 0), (4, ptr 1), (5, ptr 2), (6, i64 i)], [(0, ⟨cells4 X, 25, true⟩), (1, ⟨[u64 0, u64 0, u64 0, u64 0], 25, true⟩), (2, ⟨cells4 Y, 25, true⟩), (1500000, ⟨.row kN4 n f, e0, false⟩)], 7⟩
theorem ev_r (n : Nat) (V : Nat → Nat) (e0 X Y k : Nat) : roundS evC0 60 [1, 1, 0, 1, 0, 0] (loopAt [1, 1, 0, 1, 0] (bodyOf Try.f10)) evNt evNi 7 evNt evNi 7 (evSt n (nmF V) e0 X Y (k : Int)) =
    bif decide ((k : Int) ≥ 0) then r2 (num Y) (num X) (req (inR (k : Int) n) (req (Nat.blt k n && true) (r2 (num (nMul (unnum (num Y)) (unnum (num X)))) (num (V (0 + k)))
      (some (.normal, evSt n (nmF V) e0 X (nAdd (unnum (num (nMul (unnum (num Y)) (unnum (num X))))) (unnum (num (V (0 + k))))) (IntKind.i64.wrap ((k : Int) - 1)))))))
    else some (.exit 0, evSt n (nmF V) e0 X Y (k : Int)) := by kernel_rfl
theorem ev_r0 (n : Nat) (V : Nat → Nat) (e0 X Y : Nat) : roundS evC0 60 [1, 1, 0, 1, 0, 0] (loopAt [1, 1, 0, 1, 0] (bodyOf Try.f10)) evNt evNi 7 evNt evNi 7 (evSt n (nmF V) e0 X Y (-1)) = some (.exit 0, evSt n (nmF V) e0 X Y (-1)) := by kernel_rfl
theorem ev_loop {n : Nat} {V : Nat → Nat} {e0 X : Nat} (hn : n ≤ 1000) (hV : ∀ j, j < n → V j < 2 ^ 256) (hX : X < 2 ^ 256) : LoopOk Try.prog 23 (loopAt [1, 1, 0, 1, 0] (bodyOf Try.f10)) (atSt evNt evNi 7 (evSt n (nmF V) e0 X 0 ((n : Int) - 1)) (.exit 0) (evSt n (nmF V) e0 X (evN V n X) (-1))) := by
  refine loopE (fun _ => evC0) n (fun _ _ => ⟨mixed, tabOk, evS_ok, noL⟩) (fun _ => rfl) ev_at (m := 60) (nt := evNt) (ni := evNi) (et := evNt) (ei := evNi) (nx := 7) (ex := 7) (fun k => evSt n (nmF V) e0 X (hvN V X n k) ((n : Int) - 1 - (k : Int))) (by rw [show (n : Int) - 1 - ((0 : Nat) : Int) = (n : Int) - 1 from by omega]; rfl) (by intro h; cases h) ?_ ?_
  · intro k hk
    refine ⟨_, ?_, stEq_refl rfl⟩
    have e : (n : Int) - 1 - (k : Int) = ((n - 1 - k : Nat) : Int) := by omega
    simp only [e]
    refine (ev_r n V e0 X _ _).trans ?_
    have hp := hvN_p V X n k
    rw [decide_eq_true (by omega), cond_true, r2_num, iR (by omega), req_true rfl, bL (by omega), req_true (b := true && true) rfl, r2_num, uN hp, unnum_lt hX, uN (nMul_p _ _), Nat.zero_add, unnum_lt (hV _ (by omega)), wrap_i64 (by omega), show ((n - 1 - k : Nat) : Int) - 1 = (n : Int) - 1 - ((k + 1 : Nat) : Int) from by omega]
    rfl
  · refine ⟨_, ?_, stEq_refl rfl⟩
    simp only [show (n : Int) - 1 - ((n : Nat) : Int) = -1 from by omega]
    rw [← evN_def]
    exact ev_r0 n V e0 X _
noncomputable def evC (n : Nat) (V : Nat → Nat) (e0 X Y : Nat) : Cfg := ⟨tab, evS, 23, [([1, 1, 0, 1, 0], atSt evNt evNi 7 (evSt n (nmF V) e0 X 0 ((n : Int) - 1)) (.exit 0) (evSt n (nmF V) e0 X Y (-1)))]⟩
theorem ev_ev (n : Nat) (f : Nat → List Value) (V : Nat → Nat) (X Y : Nat) (es : Nat → Nat) (id : Nat) : fnMS (evC n V (es 0) X Y) 60 Try.f10 (bodyOf Try.f10) (cArgs [.sl kN4 n f, .pl (num X)] 0) (cMem es [.sl kN4 n f, .pl (num X)] 0) 0 id =
    req (stEq (evSt n f (es 0) X 0 (IntKind.i64.wrap ((n : Int) - 1))) (evSt n (nmF V) (es 0) X 0 ((n : Int) - 1))) (some (num Y, [])) := by kernel_rfl
theorem ev_msum : MSum Try.prog 10 EvF := by
  intro w0 R fm w hm vs args' hl mm hsub id hlt v l hpick hnew
  match vs, hl, hpick with
  | [a, x], hl, hpick =>
    obtain ⟨hc, rfl, rfl⟩ := pick_one hpick
    simp only [Bool.and_eq_true] at hc
    obtain ⟨⟨ha, hn⟩, hx⟩ := hc
    generalize hqa : srcB mm kN4 a = qa at ha hn ⊢
    obtain ⟨ok1, n, f⟩ := qa
    simp only at ha hn ⊢
    subst ha
    obtain ⟨X, hX, rfl⟩ := isNum_some hx
    rw [unnum_lt hX]
    have hn1 := (okV_iff.1 hn).1
    refine msum_at (c := bodyOf Try.f10) (fuel := 60) (next := 0) Try.func10 (by kernel_rfl) (by kernel_rfl) hm hl hsub hlt (A := [.sl kN4 n f, .pl (num X)]) ⟨hqa, rfl, rfl, trivial⟩ (by show 2 ≤ Try.f10.ntmps; decide +kernel) (.inl rfl) hnew (fun es => ?_)
    refine ⟨evC n (nA f) (es 0) X (evN (nA f) n X), ⟨mixed, tabOk, evS_ok, oneL (ev_loop hn1 (fun j hj => (el_num hn hj).2) hX)⟩, rfl, ?_⟩
    refine (ev_ev n f _ X _ es id).trans ?_
    rw [wrap_i64 (by omega)]
    exact req_true (stEq_mk rfl (mSame rfl (mSame rfl (mSame rfl (mRow (row_nm hn) mNil)))))
  | [], _, h => simp [EvF, pickM] at h
  | [_], _, h => simp [EvF, pickM] at h
  | _ :: _ :: _ :: _, _, h => simp [EvF, pickM] at h

end Go.Proofs.Ytpkoldooncpggaa

/-
  Package poly: one weight; what is wrong with places.
-/
namespace Go.Proofs.Ytpkoldooncpggaa
set_option maxRecDepth 100000
open Go.W

noncomputable def wtS : Sums := [(24, PMulF), (42, PSubF), (35, PInvF)]
theorem wtS_ok : SumsOk Try.prog wtS := sums_cons pm_sum (sums_cons ps_sum (sums_cons pi_sum sums_nil))
noncomputable def wtC0 : Cfg := ⟨tab, wtS, 37, []⟩
theorem wt_at : codeAt [1, 1, 0, 1, 0] (bodyOf Try.f28) = some (.loop (loopAt [1, 1, 0, 1, 0] (bodyOf Try.f28))) := by kernel_rfl
def wtNt : List Nat := [0, 1, 4, 5, 6, 11, 12, 13]
def wtNi : List Nat := [0, 3, 4, 1500000]
def wtSt (n : Nat) (f : Nat → List Value) (e0 : Nat) (i : Int) (A B : Nat) (k : Int) : St :=
  ⟨[(0, aSl 0 n), (1, i64 i), (4, ptr 0), (5, ptr 3), (6, ptr 4), (11, aSl 0 n), (12, i64 (n : Nat)), (13, i64 k)], [(0, ⟨cells4 0, 25, true⟩), (3, ⟨cells4 A, 25, true⟩), (4, ⟨cells4 B, 25, true⟩), (1500000, ⟨.row kN4 n f, e0, false⟩)], 10⟩
theorem wt_r (n : Nat) (V : Nat → Nat) (e0 i A B k : Nat) : roundS wtC0 60 [1, 1, 0, 1, 0, 0] (loopAt [1, 1, 0, 1, 0] (bodyOf Try.f28)) wtNt wtNi 10 wtNt wtNi 10 (wtSt n (nmF V) e0 (i : Int) A B (k : Int)) =
    bif decide ((k : Int) < (n : Int)) then rdR k n (bif (k : Int) != (i : Int) then r2 (num A) (num (V (0 + k))) (rdR i n (r2 (num (V (0 + k))) (num (V (0 + i))) (r2 (num B) (num (vS (num (V (0 + k))) (num (V (0 + i)))))
        (some (.normal, wtSt n (nmF V) e0 (i : Int) (vM (num A) (num (V (0 + k)))) (vM (num B) (num (vS (num (V (0 + k))) (num (V (0 + i)))))) (IntKind.i64.wrap ((k : Int) + 1)))))))
      else some (.normal, wtSt n (nmF V) e0 (i : Int) A B (IntKind.i64.wrap ((k : Int) + 1))))
    else some (.exit 0, wtSt n (nmF V) e0 (i : Int) A B (k : Int)) := by kernel_rfl
theorem wt_loop {n : Nat} {V : Nat → Nat} {e0 i : Nat} (hn : n ≤ 1000) (hi : i < n) (hV : ∀ j, j < n → V j < 2 ^ 256) : LoopOk Try.prog 37 (loopAt [1, 1, 0, 1, 0] (bodyOf Try.f28)) (atSt wtNt wtNi 10 (wtSt n (nmF V) e0 (i : Int) 1 1 0) (.exit 0) (wtSt n (nmF V) e0 (i : Int) (wtA V i n) (wtB V i n) (n : Int))) := by
  refine loopE (fun _ => wtC0) n (fun _ _ => ⟨mixed, tabOk, wtS_ok, noL⟩) (fun _ => rfl) wt_at (m := 60) (nt := wtNt) (ni := wtNi) (et := wtNt) (ei := wtNi) (nx := 10) (ex := 10) (fun k => wtSt n (nmF V) e0 (i : Int) (wtA V i k) (wtB V i k) (k : Int)) rfl (by intro h; cases h) ?_ ?_
  · intro k hk
    refine ⟨_, ?_, stEq_refl rfl⟩
    refine (wt_r n V e0 i _ _ k).trans ?_
    have a := wtA_l V i k
    have b := wtB_l V i k
    rw [decide_eq_true (by omega), cond_true, rdR_eq hk, wrap_i64 (by omega), Nat.zero_add, Nat.zero_add]
    by_cases h : k = i
    · subst h
      rw [show ((k : Int) != (k : Int)) = false from bne_self_eq_false _, cond_false]
      simp only [wtA, wtB, if_true]; rfl
    · rw [show ((k : Int) != (i : Int)) = true from by rw [bne_iff_ne]; omega, cond_true, r2_num, rdR_eq hi, r2_num, r2_num, vS_num (hV k hk) (hV i hi), vM_num a (hV k hk), vM_num b (nSub_l _ _)]
      simp only [wtA, wtB, if_neg h]; rfl
  · refine ⟨_, ?_, stEq_refl rfl⟩
    refine (wt_r n V e0 i _ _ n).trans ?_
    rw [decide_eq_false (by omega), cond_false]
noncomputable def wtC (n : Nat) (V : Nat → Nat) (e0 : Nat) (i : Int) (A B : Nat) : Cfg := ⟨tab, wtS, 37, [([1, 1, 0, 1, 0], atSt wtNt wtNi 10 (wtSt n (nmF V) e0 i 1 1 0) (.exit 0) (wtSt n (nmF V) e0 i A B (n : Int)))]⟩
theorem wt_ev (n : Nat) (f : Nat → List Value) (V : Nat → Nat) (i : Int) (A B : Nat) (es : Nat → Nat) (id : Nat) : fnMS (wtC n V (es 0) i A B) 60 Try.f28 (bodyOf Try.f28) (cArgs [.sl kN4 n f, .pl (i64 i)] 0) (cMem es [.sl kN4 n f, .pl (i64 i)] 0) 0 id =
    req (stEq (wtSt n f (es 0) i 1 1 0) (wtSt n (nmF V) (es 0) i 1 1 0)) (req (isNum (num B)) (r2 (num A) (num (vI (num B))) (some (num (vM (num A) (num (vI (num B)))), [])))) := by kernel_rfl
theorem wt_msum : MSum Try.prog 28 WtF := by
  intro w0 R fm w hm vs args' hl mm hsub id hlt v l hpick hnew
  unfold WtF at hpick
  split at hpick
  · rename_i a i
    obtain ⟨hc, rfl, rfl⟩ := pick_one hpick
    simp only [Bool.and_eq_true] at hc
    obtain ⟨⟨ha, hn⟩, hx⟩ := hc
    generalize hqa : srcB mm kN4 a = qa at ha hn hx ⊢
    obtain ⟨ok1, n, f⟩ := qa
    simp only at ha hn hx ⊢
    subst ha
    have hn1 := (okV_iff.1 hn).1
    obtain ⟨k, rfl, hk⟩ : ∃ k : Nat, i = (k : Int) ∧ k < n := by
      unfold inR at hx
      simp only [Bool.and_eq_true, decide_eq_true_eq] at hx
      exact ⟨i.toNat, by omega, by omega⟩
    refine msum_at (c := bodyOf Try.f28) (fuel := 60) (next := 0) Try.func28 (by kernel_rfl) (by kernel_rfl) hm hl hsub hlt (A := [.sl kN4 n f, .pl (i64 (k : Int))]) ⟨hqa, rfl, rfl, trivial⟩ (by show 2 ≤ Try.f28.ntmps; decide +kernel) (.inl rfl) hnew (fun es => ?_)
    refine ⟨wtC n (nA f) (es 0) (k : Int) (wtA (nA f) k n) (wtB (nA f) k n), ⟨mixed, tabOk, wtS_ok, oneL (wt_loop hn1 hk (fun j hj => (el_num hn hj).2))⟩, rfl, ?_⟩
    refine (wt_ev n f _ _ _ _ es id).trans ?_
    refine (req_true (stEq_mk rfl (mSame rfl (mSame rfl (mSame rfl (mRow (row_nm hn) mNil)))))).trans ?_
    rw [isNum_num, req_true rfl, r2_num, vI_num (wtB_l _ _ _), vM_num (wtA_l _ _ _) (nInv_l _), Int.toNat_natCast, wtN_def]
  · simp [pickM] at hpick

noncomputable def ckS : Sums := [(42, PSubF)]
theorem ckS_ok : SumsOk Try.prog ckS := sums_cons ps_sum sums_nil
noncomputable def ckC0 : Cfg := ⟨tab, ckS, 37, []⟩
theorem ck_at : codeAt [1, 1, 0, 1, 0] (bodyOf Try.f27) = some (.loop (loopAt [1, 1, 0, 1, 0] (bodyOf Try.f27))) := by kernel_rfl
theorem ck_at2 : codeAt [1, 1, 0, 1, 0, 0, 1, 1, 0, 0, 1, 1, 0] (bodyOf Try.f27) = some (.loop (loopAt [1, 1, 0, 1, 0, 0, 1, 1, 0, 0, 1, 1, 0] (bodyOf Try.f27))) := by kernel_rfl
def ckNt : List Nat := [0, 2, 15, 16, 17]
def ckNi : List Nat := [1500000]
def ckSt (n : Nat) (f : Nat → List Value) (e0 : Nat) (r k : Int) : St :=
  ⟨[(0, aSl 0 n), (2, i64 r), (15, aSl 0 n), (16, i64 (n : Nat)), (17, i64 k)], [(1500000, ⟨.row kN4 n f, e0, false⟩)], 20⟩
def cjNt : List Nat := [0, 2, 4, 15, 16, 17, 24, 25, 26]
def cjNi : List Nat := [24, nid 29 0, 1500000]
def cjSt (n : Nat) (V : Nat → Nat) (e0 k : Nat) (r j : Int) : St :=
  ⟨[(0, aSl 0 n), (2, i64 r), (4, ptr 24), (15, aSl 0 n), (16, i64 (n : Nat)), (17, i64 (k : Nat)), (24, .slice (some ⟨nid 29 0, 0, none⟩) k n), (25, i64 (k : Nat)), (26, i64 j)],
   [(24, ⟨cells4 (V (0 + k)), 25, true⟩), (nid 29 0, ⟨.tail 1500000 0 k 4, 25, false⟩), (1500000, ⟨.row kN4 n (nmF V), e0, false⟩)], 32⟩
theorem cj_r (n : Nat) (V : Nat → Nat) (e0 k j : Nat) : roundS ckC0 60 [1, 1, 0, 1, 0, 0, 1, 1, 0, 0, 1, 1, 0, 0] (loopAt [1, 1, 0, 1, 0, 0, 1, 1, 0, 0, 1, 1, 0] (bodyOf Try.f27)) cjNt cjNi 32 cjNt cjNi 32 (cjSt n V e0 k 0 (j : Int)) =
    bif decide ((j : Int) < (k : Int)) then req (inR (j : Int) k) (req (Nat.ble (0 + k) n) (req (Nat.blt j k && true) (r2 (num (V (0 + k))) (num (V (0 + j))) (bif eqV (num (vS (num (V (0 + k))) (num (V (0 + j))))) (num 0) then some (.ret, cjSt n V e0 k 6 (j : Int)) else some (.normal, cjSt n V e0 k 0 (IntKind.i64.wrap ((j : Int) + 1))))))) 
    else some (.exit 2, cjSt n V e0 k 0 (j : Int)) := by kernel_rfl
theorem cj_step {n : Nat} {V : Nat → Nat} {e0 k j : Nat} (hn : n ≤ 1000) (hV : ∀ j, j < n → V j < 2 ^ 256) (hk : k < n) (hj : j < k) : roundS ckC0 60 [1, 1, 0, 1, 0, 0, 1, 1, 0, 0, 1, 1, 0, 0] (loopAt [1, 1, 0, 1, 0, 0, 1, 1, 0, 0, 1, 1, 0] (bodyOf Try.f27)) cjNt cjNi 32 cjNt cjNi 32 (cjSt n V e0 k 0 (j : Int)) =
    if nSub (V k) (V j) = 0 then some (.ret, cjSt n V e0 k 6 (j : Int)) else some (.normal, cjSt n V e0 k 0 ((j + 1 : Nat) : Int)) := by
  refine (cj_r n V e0 k j).trans ?_
  rw [decide_eq_true (by omega), cond_true, iR hj, req_true rfl, bE (by omega), req_true rfl, bL hj, req_true (b := true && true) rfl, r2_num, Nat.zero_add, Nat.zero_add, vS_num (hV k hk) (hV j (by omega)), eqV_num, Nat.mod_eq_of_lt (nSub_l _ _), wrap_i64 (by omega)]
  by_cases h : nSub (V k) (V j) = 0
  · rw [if_pos h, h]; rfl
  · rw [if_neg h, decide_eq_false (by simpa using h)]; rfl
theorem cj_ok {n : Nat} {V : Nat → Nat} {e0 k : Nat} (hn : n ≤ 1000) (hV : ∀ j, j < n → V j < 2 ^ 256) (hk : k < n) (hb : ¬ Bad V k) : LoopOk Try.prog 37 (loopAt [1, 1, 0, 1, 0, 0, 1, 1, 0, 0, 1, 1, 0] (bodyOf Try.f27)) (atSt cjNt cjNi 32 (cjSt n V e0 k 0 0) (.exit 2) (cjSt n V e0 k 0 (k : Int))) := by
  refine loopE (fun _ => ckC0) k (fun _ _ => ⟨mixed, tabOk, ckS_ok, noL⟩) (fun _ => rfl) ck_at2 (m := 60) (nt := cjNt) (ni := cjNi) (et := cjNt) (ei := cjNi) (nx := 32) (ex := 32) (fun j => cjSt n V e0 k 0 (j : Int)) rfl (by intro h; cases h) ?_ ?_
  · intro j hj
    refine ⟨_, (cj_step hn hV hk hj).trans (if_neg fun e => hb ⟨j, hj, e⟩), stEq_refl rfl⟩
  · refine ⟨_, ?_, stEq_refl rfl⟩
    refine (cj_r n V e0 k k).trans ?_
    rw [decide_eq_false (by omega), cond_false]
theorem cj_bad {n : Nat} {V : Nat → Nat} {e0 k j : Nat} (hn : n ≤ 1000) (hV : ∀ j, j < n → V j < 2 ^ 256) (hk : k < n) (hj : j < k) (he : nSub (V k) (V j) = 0) (hlo : ∀ i, i < j → ¬ nSub (V k) (V i) = 0) : LoopOk Try.prog 37 (loopAt [1, 1, 0, 1, 0, 0, 1, 1, 0, 0, 1, 1, 0] (bodyOf Try.f27)) (atSt cjNt cjNi 32 (cjSt n V e0 k 0 0) .ret (cjSt n V e0 k 6 (j : Int))) := by
  refine loopE (fun _ => ckC0) j (fun _ _ => ⟨mixed, tabOk, ckS_ok, noL⟩) (fun _ => rfl) ck_at2 (m := 60) (nt := cjNt) (ni := cjNi) (et := cjNt) (ei := cjNi) (nx := 32) (ex := 32) (fun j => cjSt n V e0 k 0 (j : Int)) rfl (by intro h; cases h) ?_ ?_
  · intro i hi
    exact ⟨_, (cj_step hn hV hk (by omega)).trans (if_neg (hlo i hi)), stEq_refl rfl⟩
  · exact ⟨_, (cj_step hn hV hk hj).trans (if_pos he), stEq_refl rfl⟩
noncomputable def ckC1 : Cfg := ⟨tab, ckS, 37, [([1, 1, 0, 1, 0, 0, 1, 1, 0, 0, 1, 1, 0], fun _ => [])]⟩
noncomputable def ckCk (n : Nat) (V : Nat → Nat) (e0 k : Nat) (e : Exit) (r : Int) (j : Nat) : Cfg := ⟨tab, ckS, 37, [([1, 1, 0, 1, 0, 0, 1, 1, 0, 0, 1, 1, 0], atSt cjNt cjNi 32 (cjSt n V e0 k 0 0) e (cjSt n V e0 k r (j : Int)))]⟩
def ckQ (n k : Nat) : Bool := decide ((0 : Int) ≤ (k : Int)) && decide ((k : Int) ≤ (n : Int))
theorem ck_r (n : Nat) (V : Nat → Nat) (e0 k : Nat) : roundS (ckCk n V e0 k (.exit 2) 0 k) 60 [1, 1, 0, 1, 0, 0] (loopAt [1, 1, 0, 1, 0] (bodyOf Try.f27)) ckNt ckNi 20 ckNt ckNi 20 (ckSt n (nmF V) e0 0 (k : Int)) =
    bif decide ((k : Int) < (n : Int)) then rdR k n (req (ckQ n k) (req (Nat.ble k n) (req (stEq (cjSt n V e0 k 0 0) (cjSt n V e0 k 0 0)) (some (.normal, ckSt n (nmF V) e0 0 (IntKind.i64.wrap ((k : Int) + 1)))))))
    else some (.exit 0, ckSt n (nmF V) e0 0 (k : Int)) := by kernel_rfl
theorem ck_rb (n : Nat) (V : Nat → Nat) (e0 k j : Nat) : roundS (ckCk n V e0 k .ret 6 j) 60 [1, 1, 0, 1, 0, 0] (loopAt [1, 1, 0, 1, 0] (bodyOf Try.f27)) ckNt ckNi 20 ckNt ckNi 20 (ckSt n (nmF V) e0 0 (k : Int)) =
    bif decide ((k : Int) < (n : Int)) then rdR k n (req (ckQ n k) (req (Nat.ble k n) (req (stEq (cjSt n V e0 k 0 0) (cjSt n V e0 k 0 0)) (some (.ret, ckSt n (nmF V) e0 6 (k : Int))))))
    else some (.exit 0, ckSt n (nmF V) e0 0 (k : Int)) := by kernel_rfl
theorem ckQ_true {n k : Nat} (h : k ≤ n) : ckQ n k = true := by
  unfold ckQ
  rw [Bool.and_eq_true, decide_eq_true_eq, decide_eq_true_eq]; omega
theorem ck_rok {n : Nat} {V : Nat → Nat} {e0 k : Nat} (hn : n ≤ 1000) (hk : k < n) : roundS (ckCk n V e0 k (.exit 2) 0 k) 60 [1, 1, 0, 1, 0, 0] (loopAt [1, 1, 0, 1, 0] (bodyOf Try.f27)) ckNt ckNi 20 ckNt ckNi 20 (ckSt n (nmF V) e0 0 (k : Int)) = some (.normal, ckSt n (nmF V) e0 0 ((k + 1 : Nat) : Int)) := by
  refine (ck_r n V e0 k).trans ?_
  rw [decide_eq_true (by omega), cond_true, rdR_eq hk, ckQ_true (by omega), req_true rfl, bE (by omega), req_true rfl, req_true (stEq_refl rfl), wrap_i64 (by omega)]; rfl
theorem ck_out (n : Nat) (V : Nat → Nat) (e0 k : Nat) : roundS ckC1 60 [1, 1, 0, 1, 0, 0] (loopAt [1, 1, 0, 1, 0] (bodyOf Try.f27)) ckNt ckNi 20 ckNt ckNi 20 (ckSt n (nmF V) e0 0 (k : Int)) =
    bif decide ((k : Int) < (n : Int)) then rdR k n (req (ckQ n k) (req (Nat.ble k n) none)) else some (.exit 0, ckSt n (nmF V) e0 0 (k : Int)) := by kernel_rfl
theorem ck_ok {n : Nat} {V : Nat → Nat} {e0 : Nat} (hn : n ≤ 1000) (hV : ∀ j, j < n → V j < 2 ^ 256) (hb : ∀ i, i < n → ¬ Bad V i) : LoopOk Try.prog 37 (loopAt [1, 1, 0, 1, 0] (bodyOf Try.f27)) (atSt ckNt ckNi 20 (ckSt n (nmF V) e0 0 0) (.exit 0) (ckSt n (nmF V) e0 0 (n : Int))) := by
  refine loopE (fun k => if k < n then ckCk n V e0 k (.exit 2) 0 k else ckC1) n ?_ (fun k => by by_cases h : k < n <;> simp only [h, if_true, if_false] <;> rfl) ck_at (m := 60) (nt := ckNt) (ni := ckNi) (et := ckNt) (ei := ckNi) (nx := 20) (ex := 20) (fun k => ckSt n (nmF V) e0 0 (k : Int)) rfl (by intro h; cases h) ?_ ?_
  · intro k _
    by_cases h : k < n
    · rw [if_pos h]
      exact ⟨mixed, tabOk, ckS_ok, oneL (cj_ok hn hV h (hb k h))⟩
    · rw [if_neg h]; exact ⟨mixed, tabOk, ckS_ok, noneL2⟩
  · intro k hk
    rw [if_pos hk]
    exact ⟨_, ck_rok hn hk, stEq_refl rfl⟩
  · rw [if_neg (by omega)]
    refine ⟨_, ?_, stEq_refl rfl⟩
    refine (ck_out n V e0 n).trans ?_
    rw [decide_eq_false (by omega), cond_false]
theorem ck_bad {n : Nat} {V : Nat → Nat} {e0 k j : Nat} (hn : n ≤ 1000) (hV : ∀ j, j < n → V j < 2 ^ 256) (hk : k < n) (hb : ∀ i, i < k → ¬ Bad V i) (hj : j < k) (he : nSub (V k) (V j) = 0) (hlo : ∀ i, i < j → ¬ nSub (V k) (V i) = 0) : LoopOk Try.prog 37 (loopAt [1, 1, 0, 1, 0] (bodyOf Try.f27)) (atSt ckNt ckNi 20 (ckSt n (nmF V) e0 0 0) .ret (ckSt n (nmF V) e0 6 (k : Int))) := by
  refine loopE (fun i => if i < k then ckCk n V e0 i (.exit 2) 0 i else ckCk n V e0 k .ret 6 j) k ?_ (fun i => by by_cases h : i < k <;> simp only [h, if_true, if_false] <;> rfl) ck_at (m := 60) (nt := ckNt) (ni := ckNi) (et := ckNt) (ei := ckNi) (nx := 20) (ex := 20) (fun k => ckSt n (nmF V) e0 0 (k : Int)) rfl (by intro h; cases h) ?_ ?_
  · intro i _
    by_cases h : i < k
    · rw [if_pos h]
      exact ⟨mixed, tabOk, ckS_ok, oneL (cj_ok hn hV (by omega) (hb i h))⟩
    · rw [if_neg h]; exact ⟨mixed, tabOk, ckS_ok, oneL (cj_bad hn hV hk hj he hlo)⟩
  · intro i hi
    rw [if_pos hi]
    exact ⟨_, ck_rok hn (by omega), stEq_refl rfl⟩
  · rw [if_neg (by omega)]
    refine ⟨_, ?_, stEq_refl rfl⟩
    refine (ck_rb n V e0 k j).trans ?_
    rw [decide_eq_true (by omega), cond_true, rdR_eq hk, ckQ_true (by omega), req_true rfl, bE (by omega), req_true rfl, req_true (stEq_refl rfl)]
noncomputable def ckC (n : Nat) (V : Nat → Nat) (e0 : Nat) (e : Exit) (r : Int) (k : Nat) : Cfg := ⟨tab, ckS, 37, [([1, 1, 0, 1, 0], atSt ckNt ckNi 20 (ckSt n (nmF V) e0 0 0) e (ckSt n (nmF V) e0 r (k : Int)))]⟩
def ckT {α : Type} (n : Nat) (k : Option α) (no : Option α) : Option α := bif ((n : Nat) : Int) == 0 then no else bif decide (((n : Nat) : Int) > 64) then no else k
theorem ckT_in {α : Type} {n : Nat} (h0 : n ≠ 0) (h1 : n ≤ 64) (k no : Option α) : ckT n k no = k := by
  unfold ckT
  rw [show (((n : Nat) : Int) == 0) = false from by rw [beq_eq_false_iff_ne]; omega, decide_eq_false (by omega)]; rfl
theorem ckT_out {α : Type} {n : Nat} (h : n = 0 ∨ 64 < n) (k no : Option α) : ckT n k no = no := by
  unfold ckT
  rcases h with h | h
  · subst h; rfl
  · rw [show (((n : Nat) : Int) == 0) = false from by rw [beq_eq_false_iff_ne]; omega, decide_eq_true (by omega)]; rfl
theorem ck_ev (n : Nat) (f : Nat → List Value) (V : Nat → Nat) (k : Nat) (es : Nat → Nat) (id : Nat) : fnMS (ckC n V (es 0) (.exit 0) 0 k) 60 Try.f27 (bodyOf Try.f27) (cArgs [.sl kN4 n f] 0) (cMem es [.sl kN4 n f] 0) 0 id =
    ckT n (req (stEq (ckSt n f (es 0) 0 0) (ckSt n (nmF V) (es 0) 0 0)) (some (i64 0, []))) (some (i64 4, [])) := by kernel_rfl
theorem ck_evb (n : Nat) (f : Nat → List Value) (V : Nat → Nat) (k : Nat) (es : Nat → Nat) (id : Nat) : fnMS (ckC n V (es 0) .ret 6 k) 60 Try.f27 (bodyOf Try.f27) (cArgs [.sl kN4 n f] 0) (cMem es [.sl kN4 n f] 0) 0 id =
    ckT n (req (stEq (ckSt n f (es 0) 0 0) (ckSt n (nmF V) (es 0) 0 0)) (some (i64 6, []))) (some (i64 4, [])) := by kernel_rfl
theorem ck_evn (n : Nat) (f : Nat → List Value) (es : Nat → Nat) (id : Nat) : fnMS ⟨tab, ckS, 37, [([1, 1, 0, 1, 0], fun _ => [])]⟩ 60 Try.f27 (bodyOf Try.f27) (cArgs [.sl kN4 n f] 0) (cMem es [.sl kN4 n f] 0) 0 id =
    ckT n none (some (i64 4, [])) := by kernel_rfl
theorem ck_msum : MSum Try.prog 27 CkpF := by
  intro w0 R fm w hm vs args' hl mm hsub id hlt v l hpick hnew
  match vs, hl, hpick with
  | [a], hl, hpick =>
    obtain ⟨hc, rfl, rfl⟩ := pick_one hpick
    simp only [Bool.and_eq_true] at hc
    obtain ⟨ha, hn⟩ := hc
    generalize hqa : srcB mm kN4 a = qa at ha hn ⊢
    obtain ⟨ok1, n, f⟩ := qa
    simp only at ha hn ⊢
    subst ha
    have hn1 := (okV_iff.1 hn).1
    have hV : ∀ j, j < n → nA f j < 2 ^ 256 := fun j hj => (el_num hn hj).2
    refine msum_at (c := bodyOf Try.f27) (fuel := 60) (next := 0) Try.func27 (by kernel_rfl) (by kernel_rfl) hm hl hsub hlt (A := [.sl kN4 n f]) ⟨hqa, trivial⟩ (by show 1 ≤ Try.f27.ntmps; decide +kernel) (.inl rfl) hnew (fun es => ?_)
    by_cases h1 : n = 0 ∨ 64 < n
    · refine ⟨⟨tab, ckS, 37, [([1, 1, 0, 1, 0], fun _ => [])]⟩, ⟨mixed, tabOk, ckS_ok, noneL2⟩, rfl, ?_⟩
      exact (ck_evn n f es id).trans (by rw [ckT_out h1, ckN_len h1])
    · by_cases h2 : ∃ i, i < n ∧ Bad (nA f) i
      · obtain ⟨k, hk, ⟨j', hj', e'⟩, hlo⟩ := first_bad h2
        obtain ⟨j, hj, e, hlo2⟩ := first_bad (P := fun j => nSub (nA f k) (nA f j) = 0) ⟨j', hj', e'⟩
        refine ⟨ckC n (nA f) (es 0) .ret 6 k, ⟨mixed, tabOk, ckS_ok, oneL (ck_bad hn1 hV hk hlo hj e hlo2)⟩, rfl, ?_⟩
        refine (ck_evb n f _ k es id).trans ?_
        rw [ckT_in (by omega) (by omega), ckN_bad (by omega) (by omega) h2]
        exact req_true (stEq_mk rfl (mRow (row_nm hn) mNil))
      · have h3 : ∀ i, i < n → ¬ Bad (nA f) i := fun i hi hb => h2 ⟨i, hi, hb⟩
        refine ⟨ckC n (nA f) (es 0) (.exit 0) 0 n, ⟨mixed, tabOk, ckS_ok, oneL (ck_ok hn1 hV h3)⟩, rfl, ?_⟩
        refine (ck_ev n f _ n es id).trans ?_
        rw [ckT_in (by omega) (by omega), ckN_ok (by omega) (by omega) h3]
        exact req_true (stEq_mk rfl (mRow (row_nm hn) mNil))
  | [], _, h => simp [CkpF, pickM] at h
  | _ :: _ :: _, _, h => simp [CkpF, pickM] at h

end Go.Proofs.Ytpkoldooncpggaa

/-
  Package poly: the places of shares; all weights; what shares tell at 0.
-/
namespace Go.Proofs.Ytpkoldooncpggaa
set_option maxRecDepth 100000
open Go.W

def plC0 : Cfg := ⟨tab, [], 24, []⟩
theorem pl_at : codeAt [1, 1, 0, 1, 0] (bodyOf Try.f31) = some (.loop (loopAt [1, 1, 0, 1, 0] (bodyOf Try.f31))) := by kernel_rfl
def plNt : List Nat := [0, 3, 9, 10, 11]
def plB : Nat := nid 4 0
def plNi : List Nat := [plB, 1500000]
def plSt (n : Nat) (f : Nat → List Value) (e0 m : Nat) (g : Nat → List Value) (k : Int) : St :=
  ⟨[(0, aSl 0 n), (3, .slice (some ⟨plB, 0, none⟩) m m), (9, .slice (some ⟨plB, 0, none⟩) m m), (10, i64 (m : Nat)), (11, i64 k)], [(plB, ⟨.row kN4 m g, 25, true⟩), (1500000, ⟨.row kN8 n f, e0, false⟩)], 9⟩
theorem pl_r (n : Nat) (V : Nat → Nat × Nat) (e0 m : Nat) (g : Nat → List Value) (k : Nat) : roundS plC0 60 [1, 1, 0, 1, 0, 0] (loopAt [1, 1, 0, 1, 0] (bodyOf Try.f31)) plNt plNi 9 plNt plNi 9 (plSt n (shF V) e0 m g (k : Int)) =
    bif decide ((k : Int) < (m : Int)) then rdR k n (rdR k m (some (.normal, plSt n (shF V) e0 m (updR g (0 + k) (cells4 (V (0 + k)).1)) (IntKind.i64.wrap ((k : Int) + 1)))))
    else some (.exit 0, plSt n (shF V) e0 m g (k : Int)) := by kernel_rfl
theorem pl_loop {n : Nat} {V : Nat → Nat × Nat} {e0 m : Nat} (hm : m ≤ n) (hn : n ≤ 1000) : LoopOk Try.prog 24 (loopAt [1, 1, 0, 1, 0] (bodyOf Try.f31)) (atSt plNt plNi 9 (plSt n (shF V) e0 m (nmF (filN (fun j => (V j).1) 0)) 0) (.exit 0) (plSt n (shF V) e0 m (nmF (fun j => (V j).1)) (m : Int))) := by
  refine loopE (fun _ => plC0) m (fun _ _ => ⟨mixed, tabOk, sums_nil, noL⟩) (fun _ => rfl) pl_at (m := 60) (nt := plNt) (ni := plNi) (et := plNt) (ei := plNi) (nx := 9) (ex := 9) (fun k => plSt n (shF V) e0 m (nmF (filN (fun j => (V j).1) k)) (k : Int)) rfl (by intro h; cases h) ?_ ?_
  · intro k hk
    refine ⟨plSt n (shF V) e0 m (updR (nmF (filN (fun j => (V j).1) k)) k (cells4 (V k).1)) ((k + 1 : Nat) : Int), ?_, stEq_mk rfl (mRow (fil_row (fun j => (V j).1) k) (mSame rfl mNil))⟩
    refine (pl_r n V e0 m _ k).trans ?_
    rw [decide_eq_true (by omega), cond_true, rdR_eq (by omega), rdR_eq hk, wrap_i64 (by omega), Nat.zero_add]; rfl
  · refine ⟨plSt n (shF V) e0 m (nmF (filN (fun j => (V j).1) m)) (m : Int), ?_, stEq_mk rfl (mRow (fil_all fun j => (V j).1) (mSame rfl mNil))⟩
    refine (pl_r n V e0 m _ m).trans ?_
    rw [decide_eq_false (by omega), cond_false]
noncomputable def plC (n : Nat) (V : Nat → Nat × Nat) (e0 m : Nat) : Cfg := ⟨tab, [], 24, [([1, 1, 0, 1, 0], atSt plNt plNi 9 (plSt n (shF V) e0 m (nmF (filN (fun j => (V j).1) 0)) 0) (.exit 0) (plSt n (shF V) e0 m (nmF (fun j => (V j).1)) (m : Int)))]⟩
theorem pl_ev (n : Nat) (f : Nat → List Value) (V : Nat → Nat × Nat) (es : Nat → Nat) (id : Nat) : fnMS (plC n V (es 0) (plM n)) 60 Try.f31 (bodyOf Try.f31) (cArgs [.sl kN8 n f] 0) (cMem es [.sl kN8 n f] 0) 0 id =
    req (mk4 (plI n)) (req (stEq (plSt n f (es 0) (plM n) (fun _ => [u64 0, u64 0, u64 0, u64 0]) 0) (plSt n (shF V) (es 0) (plM n) (nmF (filN (fun j => (V j).1) 0)) 0)) (req (Nat.ble (plM n) (plM n)) (some (nSl id (plM n), rw4 25 id (plM n) (nmF (fun j => (V j).1)))))) := by kernel_rfl
theorem pl_msum : MSum Try.prog 31 (PlaF 25) := by
  intro w0 R fm w hm vs args' hl mm hsub id hlt v l hpick hnew
  match vs, hl, hpick with
  | [a], hl, hpick =>
    obtain ⟨hc, rfl, rfl⟩ := pick_one hpick
    simp only [Bool.and_eq_true] at hc
    obtain ⟨ha, hn⟩ := hc
    generalize hqa : srcB mm kN8 a = qa at ha hn hnew ⊢
    obtain ⟨ok1, n, f⟩ := qa
    simp only at ha hn hnew ⊢
    subst ha
    have hn1 := (okS_iff.1 hn).1
    have hp := plM_eq n
    refine msum_at (c := bodyOf Try.f31) (fuel := 60) (next := 0) Try.func31 (by kernel_rfl) (by kernel_rfl) hm hl hsub hlt (A := [.sl kN8 n f]) ⟨hqa, trivial⟩ (by show 1 ≤ Try.f31.ntmps; decide +kernel) (.inr ⟨_, rfl⟩) hnew (fun es => ?_)
    refine ⟨plC n (sA f) (es 0) (plM n), ⟨mixed, tabOk, sums_nil, oneL (pl_loop (by omega) hn1)⟩, rfl, ?_⟩
    refine (pl_ev n f _ es id).trans ?_
    rw [plI_eq, mk4_true (by omega), req_true rfl]
    refine (req_true (stEq_mk rfl (mRow (fil_zero _) (mRow (row_sh hn) mNil)))).trans ?_
    rw [bE (Nat.le_refl _), req_true rfl]; rfl
  | [], _, h => simp [PlaF, pickM] at h
  | _ :: _ :: _, _, h => simp [PlaF, pickM] at h

noncomputable def wsS : Sums := [(27, CkpF), (28, WtF)]
theorem wsS_ok : SumsOk Try.prog wsS := sums_consM ck_msum (sums_consM wt_msum sums_nil)
noncomputable def wsC0 : Cfg := ⟨tab, wsS, 28, []⟩
theorem ws_at : codeAt [1, 1, 1, 0, 1, 0] (bodyOf Try.f13) = some (.loop (loopAt [1, 1, 1, 0, 1, 0] (bodyOf Try.f13))) := by kernel_rfl
def wsNt : List Nat := [0, 5, 15, 16, 17]
def wsB : Nat := nid 9 0
def wsNi : List Nat := [wsB, 1500000]
def wsSt (n : Nat) (f : Nat → List Value) (e0 : Nat) (g : Nat → List Value) (k : Int) : St :=
  ⟨[(0, aSl 0 n), (5, .slice (some ⟨wsB, 0, none⟩) n n), (15, aSl 0 n), (16, i64 (n : Nat)), (17, i64 k)], [(wsB, ⟨.row kN4 n g, 25, true⟩), (1500000, ⟨.row kN4 n f, e0, false⟩)], 14⟩
theorem ws_r (n : Nat) (f : Nat → List Value) (e0 : Nat) (g : Nat → List Value) (k : Nat) : roundS wsC0 60 [1, 1, 1, 0, 1, 0, 0] (loopAt [1, 1, 1, 0, 1, 0] (bodyOf Try.f13)) wsNt wsNi 14 wsNt wsNi 14 (wsSt n f e0 g (k : Int)) =
    bif decide ((k : Int) < (n : Int)) then req (kb4 n && okV n (sg4 n f) && inR (k : Int) n) (rdR k n (some (.normal, wsSt n f e0 (updR g (0 + k) (cells4 (wtN (nA (sg4 n f)) n k))) (IntKind.i64.wrap ((k : Int) + 1)))))
    else some (.exit 0, wsSt n f e0 g (k : Int)) := by kernel_rfl
theorem ws_loop {n : Nat} {f : Nat → List Value} {e0 : Nat} (hn : okV n f = true) : LoopOk Try.prog 28 (loopAt [1, 1, 1, 0, 1, 0] (bodyOf Try.f13)) (atSt wsNt wsNi 14 (wsSt n f e0 (nmF (filN (wtN (nA f) n) 0)) 0) (.exit 0) (wsSt n f e0 (nmF (wtN (nA f) n)) (n : Int))) := by
  have hn1 := (okV_iff.1 hn).1
  refine loopE (fun _ => wsC0) n (fun _ _ => ⟨mixed, tabOk, wsS_ok, noL⟩) (fun _ => rfl) ws_at (m := 60) (nt := wsNt) (ni := wsNi) (et := wsNt) (ei := wsNi) (nx := 14) (ex := 14) (fun k => wsSt n f e0 (nmF (filN (wtN (nA f) n) k)) (k : Int)) rfl (by intro h; cases h) ?_ ?_
  · intro k hk
    refine ⟨wsSt n f e0 (updR (nmF (filN (wtN (nA f) n) k)) k (cells4 (wtN (nA f) n k))) ((k + 1 : Nat) : Int), ?_, stEq_mk rfl (mRow (fil_row _ k) (mSame rfl mNil))⟩
    refine (ws_r n f e0 _ k).trans ?_
    rw [decide_eq_true (by omega), cond_true, kb4_true, okV_sg, hn, iR hk, req_true (b := true && true && true) rfl, rdR_eq hk, wrap_i64 (by omega), Nat.zero_add, nA_sg]; rfl
  · refine ⟨wsSt n f e0 (nmF (filN (wtN (nA f) n) n)) (n : Int), ?_, stEq_mk rfl (mRow (fil_all _) (mSame rfl mNil))⟩
    refine (ws_r n f e0 _ n).trans ?_
    rw [decide_eq_false (by omega), cond_false]
noncomputable def wsC (n : Nat) (f : Nat → List Value) (e0 : Nat) (W : Nat → Nat) : Cfg := ⟨tab, wsS, 28, [([1, 1, 1, 0, 1, 0], atSt wsNt wsNi 14 (wsSt n f e0 (nmF (filN W 0)) 0) (.exit 0) (wsSt n f e0 (nmF W) (n : Int)))]⟩
theorem ws_ev (n : Nat) (f : Nat → List Value) (W : Nat → Nat) (es : Nat → Nat) (id : Nat) : fnMS (wsC n f (es 0) W) 60 Try.f13 (bodyOf Try.f13) (cArgs [.sl kN4 n f] 0) (cMem es [.sl kN4 n f] 0) 0 id =
    req (kb4 n && okV n (sg4 n f)) (bif ckN (nA (sg4 n f)) n != 0 then some (.tuple #[.slice none 0 0, i64 (ckN (nA (sg4 n f)) n)], []) else
      req (mk4 (n : Int)) (req (stEq (wsSt n f (es 0) (fun _ => [u64 0, u64 0, u64 0, u64 0]) 0) (wsSt n f (es 0) (nmF (filN W 0)) 0)) (req (Nat.ble n n) (some (.tuple #[nSl id n, i64 0], rw4 25 id n (nmF W)))))) := by kernel_rfl
theorem ws_msum : MSum Try.prog 13 (WsF 25) := by
  intro w0 R fm w hm vs args' hl mm hsub id hlt v l hpick hnew
  match vs, hl, hpick with
  | [a], hl, hpick =>
    simp only [WsF, pickM] at hpick
    generalize hqa : srcB mm kN4 a = qa at hpick
    obtain ⟨ok1, n, f⟩ := qa
    simp only at hpick
    cases ok1 with
    | false => simp at hpick
    | true =>
    cases hn : okV n f with
    | false => rw [hn] at hpick; simp at hpick
    | true =>
    rw [hn, Bool.true_and, Bool.true_and, Bool.true_and] at hpick
    have hn1 := (okV_iff.1 hn).1
    by_cases h : ckN (nA f) n = 0
    · rw [h, show ((0 : Int) != 0) = false from rfl, show ((0 : Int) == 0) = true from rfl, cond_false, cond_true] at hpick
      simp only [Option.some.injEq, Prod.mk.injEq] at hpick
      obtain ⟨rfl, rfl⟩ := hpick
      refine msum_at (c := bodyOf Try.f13) (fuel := 60) (next := 0) Try.func13 (by kernel_rfl) (by kernel_rfl) hm hl hsub hlt (A := [.sl kN4 n f]) ⟨hqa, trivial⟩ (by show 1 ≤ Try.f13.ntmps; decide +kernel) (.inr ⟨_, rfl⟩) hnew (fun es => ?_)
      refine ⟨wsC n f (es 0) (wtN (nA f) n), ⟨mixed, tabOk, wsS_ok, oneL (ws_loop hn)⟩, rfl, ?_⟩
      refine (ws_ev n f _ es id).trans ?_
      rw [kb4_true, okV_sg, hn, req_true (b := true && true) rfl, nA_sg, h, show ((0 : Int) != 0) = false from rfl, cond_false, mk4_true (by omega), req_true rfl]
      refine (req_true (stEq_mk rfl (mRow (fil_zero _) (mSame rfl mNil)))).trans ?_
      rw [bE (Nat.le_refl _), req_true rfl]
    · rw [show (ckN (nA f) n != 0) = true from by rw [bne_iff_ne]; exact h, cond_true] at hpick
      simp only [Option.some.injEq, Prod.mk.injEq] at hpick
      obtain ⟨rfl, rfl⟩ := hpick
      refine msum_at (c := bodyOf Try.f13) (fuel := 60) (next := 0) Try.func13 (by kernel_rfl) (by kernel_rfl) hm hl hsub hlt (A := [.sl kN4 n f]) ⟨hqa, trivial⟩ (by show 1 ≤ Try.f13.ntmps; decide +kernel) (.inl rfl) hnew (fun es => ?_)
      refine ⟨wsC n f (es 0) (wtN (nA f) n), ⟨mixed, tabOk, wsS_ok, oneL (ws_loop hn)⟩, rfl, ?_⟩
      refine (ws_ev n f _ es id).trans ?_
      rw [kb4_true, okV_sg, hn, req_true (b := true && true) rfl, nA_sg, show (ckN (nA f) n != 0) = true from by rw [bne_iff_ne]; exact h, cond_true]
  | [], _, h => simp [WsF, pickM] at h
  | _ :: _ :: _, _, h => simp [WsF, pickM] at h

noncomputable def zeS : Sums := [(31, PlaF 25), (13, WsF 25), (24, PMulF), (23, PAddF)]
theorem zeS_ok : SumsOk Try.prog zeS := sums_consM pl_msum (sums_consM ws_msum (sums_cons pm_sum (sums_cons pa_sum sums_nil)))
noncomputable def zeC0 : Cfg := ⟨tab, zeS, 37, []⟩
theorem ze_at : codeAt [1, 1, 1, 1, 0, 1, 0] (bodyOf Try.f15) = some (.loop (loopAt [1, 1, 1, 1, 0, 1, 0] (bodyOf Try.f15))) := by kernel_rfl
def zeNt : List Nat := [0, 2, 4, 6, 19, 20, 21]
def zeB : Nat := nid 4 0
def zeNi : List Nat := [0, 12, zeB, 1500000]
def zeSt (n : Nat) (f : Nat → List Value) (e0 m : Nat) (g : Nat → List Value) (Y : Nat) (k : Int) : St :=
  ⟨[(0, aSl 0 n), (2, ptr 0), (4, .slice (some ⟨zeB, 0, none⟩) m m), (6, ptr 12), (19, aSl 0 n), (20, i64 (n : Nat)), (21, i64 k)], [(0, ⟨cells4 0, 25, true⟩), (12, ⟨cells4 Y, 25, true⟩), (zeB, ⟨.row kN4 m g, 25, true⟩), (1500000, ⟨.row kN8 n f, e0, false⟩)], 16⟩
theorem ze_r (n : Nat) (V : Nat → Nat × Nat) (e0 m : Nat) (W : Nat → Nat) (Y k : Nat) : roundS zeC0 60 [1, 1, 1, 1, 0, 1, 0, 0] (loopAt [1, 1, 1, 1, 0, 1, 0] (bodyOf Try.f15)) zeNt zeNi 16 zeNt zeNi 16 (zeSt n (shF V) e0 m (nmF W) Y (k : Int)) =
    bif decide ((k : Int) < (n : Int)) then rdR k n (rdR k m (r2 (num (V (0 + k)).2) (num (W (0 + k))) (r2 (num Y) (num (vM (num (V (0 + k)).2) (num (W (0 + k))))) (some (.normal, zeSt n (shF V) e0 m (nmF W) (vA (num Y) (num (vM (num (V (0 + k)).2) (num (W (0 + k)))))) (IntKind.i64.wrap ((k : Int) + 1)))))))
    else some (.exit 0, zeSt n (shF V) e0 m (nmF W) Y (k : Int)) := by kernel_rfl
theorem ze_loop {n : Nat} {V : Nat → Nat × Nat} {e0 : Nat} {W : Nat → Nat} (hn : n ≤ 1000) (hV : ∀ j, j < n → (V j).2 < 2 ^ 256) (hW : ∀ j, j < n → W j < 2 ^ 256) : LoopOk Try.prog 37 (loopAt [1, 1, 1, 1, 0, 1, 0] (bodyOf Try.f15)) (atSt zeNt zeNi 16 (zeSt n (shF V) e0 n (nmF W) 0 0) (.exit 0) (zeSt n (shF V) e0 n (nmF W) (zsN (fun j => (V j).2) W n) (n : Int))) := by
  refine loopE (fun _ => zeC0) n (fun _ _ => ⟨mixed, tabOk, zeS_ok, noL⟩) (fun _ => rfl) ze_at (m := 60) (nt := zeNt) (ni := zeNi) (et := zeNt) (ei := zeNi) (nx := 16) (ex := 16) (fun k => zeSt n (shF V) e0 n (nmF W) (zsN (fun j => (V j).2) W k) (k : Int)) rfl (by intro h; cases h) ?_ ?_
  · intro k hk
    refine ⟨_, ?_, stEq_refl rfl⟩
    refine (ze_r n V e0 n W _ k).trans ?_
    rw [decide_eq_true (by omega), cond_true, rdR_eq hk, rdR_eq hk, r2_num, r2_num, wrap_i64 (by omega), Nat.zero_add, vM_num (hV k hk) (hW k hk), vA_num (p_lt (zsN_p _ _ _)) (nMul_l _ _)]; rfl
  · refine ⟨_, ?_, stEq_refl rfl⟩
    refine (ze_r n V e0 n W _ n).trans ?_
    rw [decide_eq_false (by omega), cond_false]
noncomputable def zeC (n : Nat) (V : Nat → Nat × Nat) (e0 m : Nat) (W : Nat → Nat) (Z : Nat) : Cfg := ⟨tab, zeS, 37, [([1, 1, 1, 1, 0, 1, 0], atSt zeNt zeNi 16 (zeSt n (shF V) e0 m (nmF W) 0 0) (.exit 0) (zeSt n (shF V) e0 m (nmF W) Z (n : Int)))]⟩
noncomputable def zeP (n : Nat) (f : Nat → List Value) : Nat → Nat := nA (sg4 (plM n) (nmF (xA (sg8 n f))))
noncomputable def zeO (n : Nat) (f : Nat → List Value) : Bool := kb4 (plM n) && okV (plM n) (sg4 (plM n) (nmF (xA (sg8 n f))))
theorem ze_ev (n : Nat) (f : Nat → List Value) (V : Nat → Nat × Nat) (W : Nat → Nat) (Z : Nat) (es : Nat → Nat) (id : Nat) : fnMS (zeC n V (es 0) (plM n) W Z) 60 Try.f15 (bodyOf Try.f15) (cArgs [.sl kN8 n f] 0) (cMem es [.sl kN8 n f] 0) 0 id =
    req (kb4 n && okS n (sg8 n f)) (bif zeO n f && (ckN (zeP n f) (plM n) != 0) then (bif ckN (zeP n f) (plM n) != 0 then some (.tuple #[num 0, i64 (ckN (zeP n f) (plM n))], []) else none) else
      req (zeO n f && (ckN (zeP n f) (plM n) == 0)) (req (stEq (zeSt n f (es 0) (plM n) (nmF (wtN (zeP n f) (plM n))) 0 0) (zeSt n (shF V) (es 0) (plM n) (nmF W) 0 0)) (some (.tuple #[num Z, i64 0], [])))) := by kernel_rfl
theorem ze_ev' (n : Nat) (f : Nat → List Value) (V : Nat → Nat × Nat) (W : Nat → Nat) (Z : Nat) (es : Nat → Nat) (id : Nat) : fnMS (zeC n V (es 0) n W Z) 60 Try.f15 (bodyOf Try.f15) (cArgs [.sl kN8 n f] 0) (cMem es [.sl kN8 n f] 0) 0 id =
    req (kb4 n && okS n (sg8 n f)) (bif zeO n f && (ckN (zeP n f) (plM n) != 0) then (bif ckN (zeP n f) (plM n) != 0 then some (.tuple #[num 0, i64 (ckN (zeP n f) (plM n))], []) else none) else
      req (zeO n f && (ckN (zeP n f) (plM n) == 0)) (req (stEq (zeSt n f (es 0) (plM n) (nmF (wtN (zeP n f) (plM n))) 0 0) (zeSt n (shF V) (es 0) n (nmF W) 0 0)) (some (.tuple #[num Z, i64 0], [])))) := by kernel_rfl
theorem ze_msum : MSum Try.prog 15 ZeF := by
  intro w0 R fm w hm vs args' hl mm hsub id hlt v l hpick hnew
  match vs, hl, hpick with
  | [a], hl, hpick =>
    obtain ⟨hc, rfl, rfl⟩ := pick_one hpick
    simp only [Bool.and_eq_true] at hc
    obtain ⟨ha, hn⟩ := hc
    generalize hqa : srcB mm kN8 a = qa at ha hn hnew ⊢
    obtain ⟨ok1, n, f⟩ := qa
    simp only at ha hn hnew ⊢
    subst ha
    have hn1 := (okS_iff.1 hn).1
    have hp := plM_eq n
    have hO : zeO n f = true := by
      unfold zeO
      rw [kb4_true, okV_sg, okV_nm (by omega)]; rfl
    have hX : ∀ j, j < plM n → zeP n f j = xA f j := fun j hj => by
      have hj2 : j < n := by omega
      unfold zeP
      rw [nA_sg, show xA (sg8 n f) = xA f from funext fun j => congrArg Prod.fst (congrFun (sA_sg n f) j), nA_nm (el8_num hn hj2).2.1]
    have hck : ckN (zeP n f) (plM n) = ckN (xA f) n := by rw [ckN_congr hX, ckN_plM]
    refine msum_at (c := bodyOf Try.f15) (fuel := 60) (next := 0) Try.func15 (by kernel_rfl) (by kernel_rfl) hm hl hsub hlt (A := [.sl kN8 n f]) ⟨hqa, trivial⟩ (by show 1 ≤ Try.f15.ntmps; decide +kernel) (.inl rfl) hnew (fun es => ?_)
    by_cases h : ckN (xA f) n = 0
    · obtain ⟨h1, h2, h3⟩ := ckN_zero h
      have hpn : plM n = n := by omega
      refine ⟨zeC n (sA f) (es 0) (plM n) (wtN (xA f) n) (zsN (yA f) (wtN (xA f) n) n), ⟨mixed, tabOk, zeS_ok, oneL (by rw [hpn]; exact ze_loop hn1 (fun j hj => (el8_num hn hj).2.2.2) (fun j _ => wtN_l _ _ _))⟩, rfl, ?_⟩
      refine (ze_ev n f _ _ _ es id).trans ?_
      rw [kb4_true, okS_sg, hn, req_true (b := true && true) rfl, hck, h, hO, show (true && ((0 : Int) != 0)) = false from rfl, cond_false, req_true (b := true && ((0 : Int) == 0)) rfl, zeN_ok h]
      refine req_true (stEq_mk rfl (mSame rfl (mSame rfl (mRow ?_ (mRow (row_sh hn) mNil)))))
      intro j hj
      show nrmK kN4 (nmL _) = nrmK kN4 (nmL _)
      rw [hpn] at hX hj ⊢
      rw [wtN_congr hj hX]
    · have hne : (ckN (xA f) n != 0) = true := by rw [bne_iff_ne]; exact h
      refine ⟨zeC n (sA f) (es 0) n (wtN (xA f) n) (zsN (yA f) (wtN (xA f) n) n), ⟨mixed, tabOk, zeS_ok, oneL (ze_loop hn1 (fun j hj => (el8_num hn hj).2.2.2) (fun j _ => wtN_l _ _ _))⟩, rfl, ?_⟩
      refine (ze_ev' n f _ _ _ es id).trans ?_
      rw [kb4_true, okS_sg, hn, req_true (b := true && true) rfl, hck, hO, hne, show (true && true) = true from rfl, cond_true, cond_true, zeN_no h]
  | [], _, h => simp [ZeF, pickM] at h
  | _ :: _ :: _, _, h => simp [ZeF, pickM] at h

end Go.Proofs.Ytpkoldooncpggaa

/-
  What wakes the statements of layer 6.
-/
namespace Go.Proofs.Ytpkoldooncpggaa
set_option maxRecDepth 100000
open Go.W

noncomputable def wk6C : Cfg := ⟨tab, [(15, ZeF)], 21, []⟩
theorem wk6Ok : CfgOk Try.prog wk6C (bodyOf Try.f19) := ⟨mixed, tabOk, sums_consM ze_msum sums_nil, noL⟩
theorem wk6_ev : fnS wk6C 60 Try.f19 (bodyOf Try.f19) [] = req (true && okS 2 wk6F) (bif ckN (xA wk6F) 2 == 0 then some (.bool (eqV (num (zeN (xA wk6F) (yA wk6F) 2)) (num 2))) else some (.bool false)) := by kernel_rfl
theorem wk6_sum : Sum Try.prog 19 Wk6F := by
  refine sum_of wk6Ok Try.func19 (by kernel_rfl) (by kernel_rfl) rfl (fuel := 60) fun args v h _ => ?_
  unfold Wk6F at h
  split at h
  · simp only [Option.some.injEq, Prod.mk.injEq, true_and] at h
    subst h
    exact ⟨by show 0 ≤ Try.f19.ntmps; exact Nat.zero_le _, wk6_ev.trans (by rw [wk6_ok, req_true (b := true && true) rfl, wk6_ck, wk6_ze]; rfl), rfl⟩
  · simp at h

end Go.Proofs.Ytpkoldooncpggaa
