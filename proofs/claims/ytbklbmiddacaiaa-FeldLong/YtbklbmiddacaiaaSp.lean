/-
  Several texts in one.
-/
import Derived.Test.YtbklbmiddacaiaaSc
import Derived.Test.YtbklbmiddacaiaaSb
import Derived.Test.YtbklbmiddacaiaaEi
/-
  Package poly: one product, sum, difference, inverse.
-/
namespace Go.Proofs.Ytbklbmiddacaiaa
set_option maxRecDepth 100000
open Go.W

def paC : Cfg := ⟨tab, [(31, FAddF)], 8, []⟩
theorem pa_ev (A B : Nat) : fnS paC 60 Try.f37 (bodyOf Try.f37) [num A, num B] = r2 (num A) (num B) (some (num (faddN 1 (unnum (num A)) (unnum (num B))))) := by kernel_rfl
theorem pa_sum : Sum Try.prog 37 PAddF := by
  refine sum_of (C := paC) (c := bodyOf Try.f37) ⟨mixed, tabOk, sums_cons FAdd_sum sums_nil, noL⟩ Try.func37 (by kernel_rfl) (by kernel_rfl) rfl (fuel := 60) fun args v h _ => ?_
  obtain ⟨a, b, ha, hb, rfl, rfl⟩ := arg2 (f := fun x y => num (nAdd (unnum x) (unnum y))) h
  exact ⟨by show 2 ≤ Try.f37.ntmps; decide +kernel, (pa_ev _ _).trans (by rw [r2_num, nAdd_def]), rfl⟩

def psC : Cfg := ⟨tab, [(103, FSubF)], 8, []⟩
theorem ps_ev (A B : Nat) : fnS psC 60 Try.f70 (bodyOf Try.f70) [num A, num B] = r2 (num A) (num B) (some (num (fsubN 1 (unnum (num A)) (unnum (num B))))) := by kernel_rfl
theorem ps_sum : Sum Try.prog 70 PSubF := by
  refine sum_of (C := psC) (c := bodyOf Try.f70) ⟨mixed, tabOk, sums_cons FSub_sum sums_nil, noL⟩ Try.func70 (by kernel_rfl) (by kernel_rfl) rfl (fuel := 60) fun args v h _ => ?_
  obtain ⟨a, b, ha, hb, rfl, rfl⟩ := arg2 (f := fun x y => num (nSub (unnum x) (unnum y))) h
  exact ⟨by show 2 ≤ Try.f70.ntmps; decide +kernel, (ps_ev _ _).trans (by rw [r2_num, nSub_def]), rfl⟩

def pmC : Cfg := ⟨tab, [(67, FMulF)], 8, []⟩
theorem pm_ev (A B : Nat) : fnS pmC 60 Try.f38 (bodyOf Try.f38) [num A, num B] = r2 (num A) (num B) (some (num (fmulN 1 (unnum (num A)) (unnum (num B))))) := by kernel_rfl
theorem pm_sum : Sum Try.prog 38 PMulF := by
  refine sum_of (C := pmC) (c := bodyOf Try.f38) ⟨mixed, tabOk, sums_cons FMul_sum sums_nil, noL⟩ Try.func38 (by kernel_rfl) (by kernel_rfl) rfl (fuel := 60) fun args v h _ => ?_
  obtain ⟨a, b, ha, hb, rfl, rfl⟩ := arg2 (f := fun x y => num (nMul (unnum x) (unnum y))) h
  exact ⟨by show 2 ≤ Try.f38.ntmps; decide +kernel, (pm_ev _ _).trans (by rw [r2_num, nMul_def]), rfl⟩

def piC : Cfg := ⟨tab, [(75, InvF)], 5, []⟩
theorem pi_ev (A : Nat) : fnS piC 60 Try.f49 (bodyOf Try.f49) [num A] = req (isNum (num A)) (some (num (powN 1 (unnum (num A)) (primeN 1 - 2)))) := by kernel_rfl
theorem pi_sum : Sum Try.prog 49 PInvF := by
  refine sum_of (C := piC) (c := bodyOf Try.f49) ⟨mixed, tabOk, sums_cons Inv_sum sums_nil, noL⟩ Try.func49 (by kernel_rfl) (by kernel_rfl) rfl (fuel := 60) fun args v h _ => ?_
  obtain ⟨a, ha, rfl, rfl⟩ := arg1 (f := fun x => num (nInv (unnum x))) h
  exact ⟨by show 1 ≤ Try.f49.ntmps; decide +kernel, (pi_ev _).trans (by rw [isNum_num, req_true rfl, nInv_def]), rfl⟩

def raaC : Cfg := ⟨tab, [(68, FAddF)], 8, []⟩
theorem ra_ev (A B : Nat) : fnS raaC 60 Try.f39 (bodyOf Try.f39) [num A, num B] = r2 (num A) (num B) (some (num (faddN 1 (unnum (num A)) (unnum (num B))))) := by kernel_rfl
theorem ra_sum : Sum Try.prog 39 PAddF := by
  refine sum_of (C := raaC) (c := bodyOf Try.f39) ⟨mixed, tabOk, sums_cons FAddR_sum sums_nil, noL⟩ Try.func39 (by kernel_rfl) (by kernel_rfl) rfl (fuel := 60) fun args v h _ => ?_
  obtain ⟨a, b, ha, hb, rfl, rfl⟩ := arg2 (f := fun x y => num (nAdd (unnum x) (unnum y))) h
  exact ⟨by show 2 ≤ Try.f39.ntmps; decide +kernel, (ra_ev _ _).trans (by rw [r2_num, nAdd_def]), rfl⟩

def rssC : Cfg := ⟨tab, [(71, FSubF)], 8, []⟩
theorem rs_ev (A B : Nat) : fnS rssC 60 Try.f43 (bodyOf Try.f43) [num A, num B] = r2 (num A) (num B) (some (num (fsubN 1 (unnum (num A)) (unnum (num B))))) := by kernel_rfl
theorem rs_sum : Sum Try.prog 43 PSubF := by
  refine sum_of (C := rssC) (c := bodyOf Try.f43) ⟨mixed, tabOk, sums_cons FSubR_sum sums_nil, noL⟩ Try.func43 (by kernel_rfl) (by kernel_rfl) rfl (fuel := 60) fun args v h _ => ?_
  obtain ⟨a, b, ha, hb, rfl, rfl⟩ := arg2 (f := fun x y => num (nSub (unnum x) (unnum y))) h
  exact ⟨by show 2 ≤ Try.f43.ntmps; decide +kernel, (rs_ev _ _).trans (by rw [r2_num, nSub_def]), rfl⟩

def rmmC : Cfg := ⟨tab, [(69, FMulF)], 8, []⟩
theorem rm_ev (A B : Nat) : fnS rmmC 60 Try.f40 (bodyOf Try.f40) [num A, num B] = r2 (num A) (num B) (some (num (fmulN 1 (unnum (num A)) (unnum (num B))))) := by kernel_rfl
theorem rm_sum : Sum Try.prog 40 PMulF := by
  refine sum_of (C := rmmC) (c := bodyOf Try.f40) ⟨mixed, tabOk, sums_cons FMulR_sum sums_nil, noL⟩ Try.func40 (by kernel_rfl) (by kernel_rfl) rfl (fuel := 60) fun args v h _ => ?_
  obtain ⟨a, b, ha, hb, rfl, rfl⟩ := arg2 (f := fun x y => num (nMul (unnum x) (unnum y))) h
  exact ⟨by show 2 ≤ Try.f40.ntmps; decide +kernel, (rm_ev _ _).trans (by rw [r2_num, nMul_def]), rfl⟩

end Go.Proofs.Ytbklbmiddacaiaa

/-
  Package poly: what a polynomial is worth.
-/
namespace Go.Proofs.Ytbklbmiddacaiaa
set_option maxRecDepth 100000
open Go.W

noncomputable def evS : Sums := [(38, PMulF), (37, PAddF)]
theorem evS_ok : SumsOk Try.prog evS := sums_cons pm_sum (sums_cons pa_sum sums_nil)
noncomputable def evC0 : Cfg := ⟨tab, evS, 23, []⟩
theorem ev_at : codeAt [1, 1, 0, 1, 0] (bodyOf Try.f10) = some (.loop (loopAt [1, 1, 0, 1, 0] (bodyOf Try.f10))) := by kernel_rfl
def evNt : List Nat := [0, 3, 4, 5, 6]
def evNi : List Nat := [0, 1, 2, 1500000]
def evSt (n : Nat) (f : Nat → List Value) (e0 X Y : Nat) (i : Int) : St :=
  ⟨[(0, aSl 0 n), (3, ptr 0), (4, ptr 1), (5, ptr 2), (6, i64 i)], [(0, ⟨cells4 X, 25, true⟩), (1, ⟨[u64 0, u64 0, u64 0, u64 0], 25, true⟩), (2, ⟨cells4 Y, 25, true⟩), (1500000, ⟨.row kN4 n f, e0, false⟩)], 7⟩
theorem ev_r (n : Nat) (V : Nat → Nat) (e0 X Y k : Nat) : roundS evC0 60 [1, 1, 0, 1, 0, 0] (loopAt [1, 1, 0, 1, 0] (bodyOf Try.f10)) evNt evNi 7 evNt evNi 7 (evSt n (nmF V) e0 X Y (k : Int)) =
    bif decide ((k : Int) ≥ 0) then r2 (num Y) (num X) (req (inR (k : Int) n) (req (Nat.blt k n && true) (r2 (num (nMul (unnum (num Y)) (unnum (num X)))) (num (V (0 + k)))
      (some (.normal, evSt n (nmF V) e0 X (nAdd (unnum (num (nMul (unnum (num Y)) (unnum (num X))))) (unnum (num (V (0 + k))))) (IntKind.i64.wrap ((k : Int) - 1)))))))
    else some (.exit 0, evSt n (nmF V) e0 X Y (k : Int)) := by kernel_rfl
theorem ev_r0 (n : Nat) (V : Nat → Nat) (e0 X Y : Nat) : roundS evC0 60 [1, 1, 0, 1, 0, 0] (loopAt [1, 1, 0, 1, 0] (bodyOf Try.f10)) evNt evNi 7 evNt evNi 7 (evSt n (nmF V) e0 X Y (-1)) = some (.exit 0, evSt n (nmF V) e0 X Y (-1)) := by kernel_rfl
theorem ev_loop {n : Nat} {V : Nat → Nat} {e0 X : Nat} (hn : n ≤ 1000) (hV : ∀ j, j < n → V j < 2 ^ 256) (hX : X < 2 ^ 256) : LoopOk Try.prog 23 (loopAt [1, 1, 0, 1, 0] (bodyOf Try.f10)) (atSt evNt evNi 7 (evSt n (nmF V) e0 X 0 ((n : Int) - 1)) (.exit 0) (evSt n (nmF V) e0 X (evN V n X) (-1))) := by
  refine loopE (fun _ => evC0) n (fun _ _ => ⟨mixed, tabOk, evS_ok, noL⟩) (fun _ => rfl) ev_at (m := 60) (nt := evNt) (ni := evNi) (et := evNt) (ei := evNi) (nx := 7) (ex := 7) (fun k => evSt n (nmF V) e0 X (hvN V X n k) ((n : Int) - 1 - (k : Int))) (by rw [show (n : Int) - 1 - ((0 : Nat) : Int) = (n : Int) - 1 from by omega]; rfl) (by intro h; cases h) ?_ ?_
  · intro k hk
    refine ⟨_, ?_, stEq_refl rfl⟩
    have e : (n : Int) - 1 - (k : Int) = ((n - 1 - k : Nat) : Int) := by omega
    simp only [e]
    refine (ev_r n V e0 X _ _).trans ?_
    have hp := hvN_p V X n k
    rw [decide_eq_true (by omega), cond_true, r2_num, iR (by omega), req_true rfl, bL (by omega), req_true (b := true && true) rfl, r2_num, uN hp, unnum_lt hX, uN (nMul_p _ _), Nat.zero_add, unnum_lt (hV _ (by omega)), wrap_i64 (by omega), show ((n - 1 - k : Nat) : Int) - 1 = (n : Int) - 1 - ((k + 1 : Nat) : Int) from by omega]
    rfl
  · refine ⟨_, ?_, stEq_refl rfl⟩
    simp only [show (n : Int) - 1 - ((n : Nat) : Int) = -1 from by omega]
    rw [← evN_def]
    exact ev_r0 n V e0 X _
noncomputable def evC (n : Nat) (V : Nat → Nat) (e0 X Y : Nat) : Cfg := ⟨tab, evS, 23, [([1, 1, 0, 1, 0], atSt evNt evNi 7 (evSt n (nmF V) e0 X 0 ((n : Int) - 1)) (.exit 0) (evSt n (nmF V) e0 X Y (-1)))]⟩
theorem ev_ev (n : Nat) (f : Nat → List Value) (V : Nat → Nat) (X Y : Nat) (es : Nat → Nat) (id : Nat) : fnMS (evC n V (es 0) X Y) 60 Try.f10 (bodyOf Try.f10) (cArgs [.sl kN4 n f, .pl (num X)] 0) (cMem es [.sl kN4 n f, .pl (num X)] 0) 0 id =
    req (stEq (evSt n f (es 0) X 0 (IntKind.i64.wrap ((n : Int) - 1))) (evSt n (nmF V) (es 0) X 0 ((n : Int) - 1))) (some (num Y, [])) := by kernel_rfl
theorem ev_msum : MSum Try.prog 10 EvF := by
  intro w0 R fm w hm vs args' hl mm hsub id hlt v l hpick hnew
  match vs, hl, hpick with
  | [a, x], hl, hpick =>
    obtain ⟨hc, rfl, rfl⟩ := pick_one hpick
    simp only [Bool.and_eq_true] at hc
    obtain ⟨⟨ha, hn⟩, hx⟩ := hc
    generalize hqa : srcB mm kN4 a = qa at ha hn ⊢
    obtain ⟨ok1, n, f⟩ := qa
    simp only at ha hn ⊢
    subst ha
    obtain ⟨X, hX, rfl⟩ := isNum_some hx
    rw [unnum_lt hX]
    have hn1 := (okV_iff.1 hn).1
    refine msum_at (c := bodyOf Try.f10) (fuel := 60) (next := 0) Try.func10 (by kernel_rfl) (by kernel_rfl) hm hl hsub hlt (A := [.sl kN4 n f, .pl (num X)]) ⟨hqa, rfl, rfl, trivial⟩ (by show 2 ≤ Try.f10.ntmps; decide +kernel) (.inl rfl) hnew (fun es => ?_)
    refine ⟨evC n (nA f) (es 0) X (evN (nA f) n X), ⟨mixed, tabOk, evS_ok, oneL (ev_loop hn1 (fun j hj => (el_num hn hj).2) hX)⟩, rfl, ?_⟩
    refine (ev_ev n f _ X _ es id).trans ?_
    rw [wrap_i64 (by omega)]
    exact req_true (stEq_mk rfl (mSame rfl (mSame rfl (mSame rfl (mRow (row_nm hn) mNil)))))
  | [], _, h => simp [EvF, pickM] at h
  | [_], _, h => simp [EvF, pickM] at h
  | _ :: _ :: _ :: _, _, h => simp [EvF, pickM] at h

end Go.Proofs.Ytbklbmiddacaiaa
