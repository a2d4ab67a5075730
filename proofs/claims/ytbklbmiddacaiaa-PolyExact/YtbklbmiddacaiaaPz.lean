/-
  PolyExact.
-/
import Derived.Test.YtbklbmiddacaiaaSp
import Derived.Test.YtbklbmiddacaiaaEi
namespace Go.Proofs.Ytbklbmiddacaiaa
set_option maxRecDepth 100000
open Go.W

def pzT : Nat := nid 11 0
def pzB1 : Nat := nid 0 0
def pzB2 : Nat := nid 1 0
def pzN : List Nat := [0, 2, 4, 7, 8, 9, 10]
def pzI : Ren := [(0, 0), (pzT, pzT), (pzB1, nid 26 0), (pzB2, nid 34 0), (1500000, 1500000), (1500002, 1500002)]
def pzE : Ren := [(0, 0), (pzT, pzT), (pzB1, pzB1), (pzB2, pzB2), (1500000, 1500000), (1500002, 1500002)]
def pzZ : Ren := [(0, 0), (pzT, pzT), (1500000, 1500000), (1500002, 1500002)]
structure PzP where
  nc : Nat
  C : Nat → List Value
  e0 : Nat
  x : Nat
  T : Nat → List Value
  n : Nat
  f : Nat → List Value
  e1 : Nat
def pzA (p : PzP) : St := ⟨[(0, aSl 0 p.nc), (2, aSl 2 p.n), (4, ptr 0), (7, .slice (some ⟨pzT, 0, none⟩) p.nc p.nc), (8, .slice none 0 0), (9, .slice none 0 0), (10, i64 0)],
  [(0, ⟨cells4 p.x, 25, true⟩), (pzT, ⟨.row kN4 p.nc p.T, 25, true⟩), (1500000, ⟨.row kN4 p.nc p.C, p.e0, false⟩), (1500002, ⟨.row kN8 p.n p.f, p.e1, false⟩)], 16⟩
def pzB (p : PzP) (m : Nat) (g h : Nat → List Value) (i : Int) : St := ⟨[(0, aSl 0 p.nc), (2, aSl 2 p.n), (4, ptr 0), (7, .slice (some ⟨pzT, 0, none⟩) p.nc p.nc), (8, .slice (some ⟨pzB1, 0, none⟩) m m), (9, .slice (some ⟨pzB2, 0, none⟩) m m), (10, i64 i)],
  [(0, ⟨cells4 p.x, 25, true⟩), (pzT, ⟨.row kN4 p.nc p.T, 25, true⟩), (pzB1, ⟨.row kN8 m g, 29, true⟩), (pzB2, ⟨.row kN4 m h, 25, true⟩), (1500000, ⟨.row kN4 p.nc p.C, p.e0, false⟩), (1500002, ⟨.row kN8 p.n p.f, p.e1, false⟩)], 16⟩
def pzC0 : Cfg := ⟨tab, [], 171, []⟩
theorem pz_at1 : codeAt [1, 1, 1, 1, 1, 0, 1, 0] (bodyOf Try.f3) = some (.loop (loopAt [1, 1, 1, 1, 1, 0, 1, 0] (bodyOf Try.f3))) := by kernel_rfl
theorem pz_at2 : codeAt [1, 1, 1, 1, 1, 1, 1, 1, 1, 1, 1, 1, 1, 1, 0, 1, 0] (bodyOf Try.f3) = some (.loop (loopAt [1, 1, 1, 1, 1, 1, 1, 1, 1, 1, 1, 1, 1, 1, 0, 1, 0] (bodyOf Try.f3))) := by kernel_rfl
def pzV (p : PzP) (V : Nat → Nat × Nat) : PzP := { p with f := shF V }
theorem pz_r0 (p : PzP) (V : Nat → Nat × Nat) : roundS pzC0 60 [1, 1, 1, 1, 1, 0, 1, 0, 0] (loopAt [1, 1, 1, 1, 1, 0, 1, 0] (bodyOf Try.f3)) pzN pzI 16 pzN pzE 16 (pzA (pzV p V)) =
    bif decide ((0 : Int) < (p.n : Int)) then rdR 0 p.n (rdR 0 p.n (some (.normal, pzB (pzV p V) 1 (lstF (shL (V 0)) 0 8) (lstF (cells4 (V 0).1) 0 4) 1))) else none := by kernel_rfl
theorem pz_z (p : PzP) (V : Nat → Nat × Nat) (h : p.n = 0) : roundS pzC0 60 [1, 1, 1, 1, 1, 0, 1, 0, 0] (loopAt [1, 1, 1, 1, 1, 0, 1, 0] (bodyOf Try.f3)) pzN pzI 16 pzN pzZ 16 (pzA (pzV p V)) = some (.exit 0, pzA (pzV p V)) := by
  obtain ⟨nc, C, e0, x, T, n, f, e1⟩ := p
  subst h
  kernel_rfl
theorem pz_r1 (p : PzP) (V : Nat → Nat × Nat) (S : Nat → Nat × Nat) (X : Nat → Nat) (k : Nat) : roundS pzC0 60 [1, 1, 1, 1, 1, 0, 1, 0, 0] (loopAt [1, 1, 1, 1, 1, 0, 1, 0] (bodyOf Try.f3)) pzN pzI 16 pzN pzE 16 (pzB (pzV p V) (k + 1) (shF S) (nmF X) ((k + 1 : Nat) : Int)) =
    bif decide (((k + 1 : Nat) : Int) < (p.n : Int)) then rdR (k + 1) p.n (apq (k + 1) (rdR (k + 1) p.n (apq4 (k + 1) (some (.normal, pzB (pzV p V) (k + 1 + 1) (appF (k + 1) (shF S) (lstF (shL (V (0 + (k + 1)))) 0 8)) (appF (k + 1) (nmF X) (lstF (cells4 (V (0 + (k + 1))).1) 0 4)) (IntKind.i64.wrap (((k + 1 : Nat) : Int) + 1)))))))
    else some (.exit 0, pzB (pzV p V) (k + 1) (shF S) (nmF X) ((k + 1 : Nat) : Int)) := by kernel_rfl
def pzN2 : List Nat := [2, 8, 9, 23]
def pzI2 : List Nat := [pzB1, pzB2, 1500002]
def pzD (p : PzP) (m : Nat) (g h : Nat → List Value) (i : Int) : St := ⟨[(2, aSl 2 p.n), (8, .slice (some ⟨pzB1, 0, none⟩) m m), (9, .slice (some ⟨pzB2, 0, none⟩) m m), (23, i64 i)],
  [(pzB1, ⟨.row kN8 m g, 29, true⟩), (pzB2, ⟨.row kN4 m h, 25, true⟩), (1500002, ⟨.row kN8 p.n p.f, p.e1, false⟩)], 104⟩
theorem pz_q (p : PzP) (V S : Nat → Nat × Nat) (X : Nat → Nat) (m i : Nat) : roundS pzC0 60 [1, 1, 1, 1, 1, 1, 1, 1, 1, 1, 1, 1, 1, 1, 0, 1, 0, 0] (loopAt [1, 1, 1, 1, 1, 1, 1, 1, 1, 1, 1, 1, 1, 1, 0, 1, 0] (bodyOf Try.f3)) pzN2 pzI2 104 pzN2 pzI2 104 (pzD (pzV p V) m (shF S) (nmF X) (i : Int)) =
    bif decide ((i : Int) < (p.n : Int)) then rdR i m (rdR i p.n (bif !(eqV (num (S (0 + i)).1) (num (V (0 + i)).1)) then some (.ret, pzD (pzV p V) m (shF S) (nmF X) (i : Int)) else rdR i m (rdR i p.n (bif !(eqV (num (S (0 + i)).2) (num (V (0 + i)).2)) then some (.ret, pzD (pzV p V) m (shF S) (nmF X) (i : Int)) else
      rdR i m (rdR i p.n (bif !(eqV (num (X (0 + i))) (num (V (0 + i)).1)) then some (.ret, pzD (pzV p V) m (shF S) (nmF X) (i : Int)) else some (.normal, pzD (pzV p V) m (shF S) (nmF X) (IntKind.i64.wrap ((i : Int) + 1)))))))))
    else some (.exit 2, pzD (pzV p V) m (shF S) (nmF X) (i : Int)) := by kernel_rfl
def pzD0 (p : PzP) : St := ⟨[(2, aSl 2 0), (8, .slice none 0 0), (9, .slice none 0 0), (23, i64 0)], [(1500002, ⟨.row kN8 0 p.f, p.e1, false⟩)], 104⟩
def pzI0 : List Nat := [1500002]
theorem pz_q0 (p : PzP) : roundS pzC0 60 [1, 1, 1, 1, 1, 1, 1, 1, 1, 1, 1, 1, 1, 1, 0, 1, 0, 0] (loopAt [1, 1, 1, 1, 1, 1, 1, 1, 1, 1, 1, 1, 1, 1, 0, 1, 0] (bodyOf Try.f3)) pzN2 pzI0 104 pzN2 pzI0 104 (pzD0 p) = some (.exit 2, pzD0 p) := by kernel_rfl
def pzQ (p : PzP) (V : Nat → Nat × Nat) : Nat → St
  | 0 => pzA (pzV p V)
  | k + 1 => pzB (pzV p V) (k + 1) (shF V) (nmF (sX V)) ((k + 1 : Nat) : Int)
theorem pz_loop1 {p : PzP} {V : Nat → Nat × Nat} {m : Nat} (hp : p.n = m + 1) (hn : m + 1 ≤ 900) : LoopOk Try.prog 171 (loopAt [1, 1, 1, 1, 1, 0, 1, 0] (bodyOf Try.f3)) (atSt pzN pzZ 16 (pzA (pzV p V)) (.exit 0) (pzB (pzV p V) (m + 1) (shF V) (nmF (sX V)) ((m + 1 : Nat) : Int))) := by
  refine loopE (fun _ => pzC0) (m + 1) (fun _ _ => ⟨mixed, tabOk, sums_nil, noL⟩) (fun _ => rfl) pz_at1 (m := 60) (nt := pzN) (ni := pzI) (et := pzN) (ei := pzE) (nx := 16) (ex := 16) (pzQ p V) rfl (by intro h; cases h) ?_ ?_
  · intro k hk
    cases k with
    | zero =>
      refine ⟨pzB (pzV p V) 1 (lstF (shL (V 0)) 0 8) (lstF (cells4 (sX V 0)) 0 4) 1, ?_, stEq_mk rfl (mSame rfl (mSame rfl (mRow (one_row (ks := kN8) rfl) (mRow (one_row (ks := kN4) rfl) (mSame rfl (mSame rfl mNil))))))⟩
      refine (pz_r0 p V).trans ?_
      rw [hp, decide_eq_true (by omega), cond_true, rdR_eq hk, rdR_eq hk]; rfl
    | succ k =>
      refine ⟨pzB (pzV p V) (k + 1 + 1) (appF (k + 1) (shF V) (lstF (shL (V (k + 1))) 0 8)) (appF (k + 1) (nmF (sX V)) (lstF (cells4 (sX V (k + 1))) 0 4)) ((k + 1 + 1 : Nat) : Int), ?_, stEq_mk rfl (mSame rfl (mSame rfl (mRow (app_row (ks := kN8) (fun _ _ => rfl) rfl) (mRow (app4_row rfl) (mSame rfl (mSame rfl mNil))))))⟩
      refine (pz_r1 p V V (sX V) k).trans ?_
      rw [hp, decide_eq_true (by omega), cond_true, rdR_eq hk, apq_eq (by omega), rdR_eq hk, apq4_eq (by omega), wrap_i64 (by omega), Nat.zero_add]; rfl
  · refine ⟨_, ?_, stEq_refl rfl⟩
    refine (pz_r1 p V V (sX V) m).trans ?_
    rw [hp, decide_eq_false (by omega), cond_false]
theorem pz_loop1z {p : PzP} {V : Nat → Nat × Nat} (hp : p.n = 0) : LoopOk Try.prog 171 (loopAt [1, 1, 1, 1, 1, 0, 1, 0] (bodyOf Try.f3)) (atSt pzN pzZ 16 (pzA (pzV p V)) (.exit 0) (pzA (pzV p V))) :=
  loopE (fun _ => pzC0) 0 (fun _ _ => ⟨mixed, tabOk, sums_nil, noL⟩) (fun _ => rfl) pz_at1 (m := 60) (nt := pzN) (ni := pzI) (et := pzN) (ei := pzZ) (nx := 16) (ex := 16) (fun _ => pzA (pzV p V)) rfl (by intro h; cases h) (fun k hk => absurd hk (by omega)) ⟨_, pz_z p V hp, stEq_refl rfl⟩
theorem pz_loop2 {p : PzP} {V : Nat → Nat × Nat} (hn : p.n ≤ 900) : LoopOk Try.prog 171 (loopAt [1, 1, 1, 1, 1, 1, 1, 1, 1, 1, 1, 1, 1, 1, 0, 1, 0] (bodyOf Try.f3)) (atSt pzN2 pzI2 104 (pzD (pzV p V) p.n (shF V) (nmF (sX V)) 0) (.exit 2) (pzD (pzV p V) p.n (shF V) (nmF (sX V)) (p.n : Int))) := by
  refine loopE (fun _ => pzC0) p.n (fun _ _ => ⟨mixed, tabOk, sums_nil, noL⟩) (fun _ => rfl) pz_at2 (m := 60) (nt := pzN2) (ni := pzI2) (et := pzN2) (ei := pzI2) (nx := 104) (ex := 104) (fun i => pzD (pzV p V) p.n (shF V) (nmF (sX V)) (i : Int)) rfl (by intro h; cases h) ?_ ?_
  · intro i hi
    refine ⟨_, ?_, stEq_refl rfl⟩
    refine (pz_q p V V (sX V) p.n i).trans ?_
    rw [decide_eq_true (by omega), cond_true, rdR_eq hi, rdR_eq hi, Nat.zero_add, eqq, show (!true) = false from rfl, cond_false, rdR_eq hi, rdR_eq hi, eqq, show (!true) = false from rfl, cond_false, rdR_eq hi, rdR_eq hi, show sX V i = (V i).1 from rfl, eqq, show (!true) = false from rfl, cond_false, wrap_i64 (by omega)]; rfl
  · refine ⟨_, ?_, stEq_refl rfl⟩
    refine (pz_q p V V (sX V) p.n p.n).trans ?_
    rw [decide_eq_false (by omega), cond_false]
theorem pz_loop2z (p : PzP) : LoopOk Try.prog 171 (loopAt [1, 1, 1, 1, 1, 1, 1, 1, 1, 1, 1, 1, 1, 1, 0, 1, 0] (bodyOf Try.f3)) (atSt pzN2 pzI0 104 (pzD0 p) (.exit 2) (pzD0 p)) :=
  loopE (fun _ => pzC0) 0 (fun _ _ => ⟨mixed, tabOk, sums_nil, noL⟩) (fun _ => rfl) pz_at2 (m := 60) (nt := pzN2) (ni := pzI0) (et := pzN2) (ei := pzI0) (nx := 104) (ex := 104) (fun _ => pzD0 p) rfl (by intro h; cases h) (fun k hk => absurd hk (by omega)) ⟨_, pz_q0 p, stEq_refl rfl⟩
/-! ## All together -/
def pzFl : Option Value := some (.bool false)
noncomputable def pzSk : Sums := [(9, TnF 25), (10, EvF), (11, EvF), (12, NumsF), (13, WskF 25), (14, WskF 25), (15, ZeF), (16, ZeF), (17, ThkF 25), (18, ThkF 25), (19, Wk6F)]
theorem pzSk_ok : SumsOk Try.prog pzSk := sums_consM tn_msum (sums_consM ev_msum (sums_consM re_msum (sums_consM nu_msum (sums_consM (MSum_sub ws_msum (WskF_sub _)) (sums_consM (MSum_sub rwm_msum (WskF_sub _)) (sums_consM ze_msum (sums_consM rz_msum (sums_consM (MSum_sub th_msum (ThkF_sub _)) (sums_consM rtk_msum (sums_cons wk6_sum sums_nil))))))))))
noncomputable def pzSn : Sums := [(9, TnF 25), (10, EvF), (11, EvF), (12, NumsF), (13, WsnF), (14, WsnF), (15, ZeF), (16, ZeF), (17, ThnF), (18, ThnF), (19, Wk6F)]
theorem pzSn_ok : SumsOk Try.prog pzSn := sums_consM tn_msum (sums_consM ev_msum (sums_consM re_msum (sums_consM nu_msum (sums_consM (MSum_sub ws_msum (WsnF_sub 25)) (sums_consM (MSum_sub rwm_msum (WsnF_sub 25)) (sums_consM ze_msum (sums_consM rz_msum (sums_consM (MSum_sub th_msum (ThnF_sub 25)) (sums_consM rtn_msum (sums_cons wk6_sum sums_nil))))))))))
def pzAr (nc : Nat) (A : Nat → Nat) (x n : Nat) (V : Nat → Nat × Nat) : List Arg := [.sl kN4 nc (nmF A), .pl (num x), .sl kN8 n (shF V)]
noncomputable def pzH (nc : Nat) (C : Nat → List Value) (n : Nat) (k : (Nat → List Value) → Option Value) : Option Value := bif decide ((nc : Int) > 70) then some (.bool true) else bif decide ((n : Int) > 12) then some (.bool true) else tnw nc C k
noncomputable def pzM (p : PzP) (k : Option Value) : Option Value := evq p.nc p.T (num p.x) fun E => evq p.nc p.C (num p.x) fun E2 => bif !(eqV (num E) (num E2)) then pzFl else nuw p.nc p.T p.nc p.C k
noncomputable def pzPP (nc : Nat) (A : Nat → Nat) (x n : Nat) (V : Nat → Nat × Nat) (T : Nat → List Value) (es : Nat → Nat) : PzP := ⟨nc, nmF A, es 0, x, T, n, shF V, es 2⟩
noncomputable def pzCk (S : Sums) (p : PzP) (m : Nat) (V : Nat → Nat × Nat) (X : Nat → Nat) : Cfg := ⟨tab, S, 171, [([1, 1, 1, 1, 1, 0, 1, 0], atSt pzN pzZ 16 (pzA p) (.exit 0) (pzB p m (shF V) (nmF X) (m : Int))), ([1, 1, 1, 1, 1, 1, 1, 1, 1, 1, 1, 1, 1, 1, 0, 1, 0], atSt pzN2 pzI2 104 (pzD p m (shF V) (nmF X) 0) (.exit 2) (pzD p m (shF V) (nmF X) (m : Int)))]⟩
noncomputable def pzCz (p : PzP) : Cfg := ⟨tab, pzSn, 171, [([1, 1, 1, 1, 1, 0, 1, 0], atSt pzN pzZ 16 (pzA p) (.exit 0) (pzA p)), ([1, 1, 1, 1, 1, 1, 1, 1, 1, 1, 1, 1, 1, 1, 0, 1, 0], atSt pzN2 pzI0 104 (pzD0 p) (.exit 2) (pzD0 p))]⟩
theorem pz_evb (nc : Nat) (A : Nat → Nat) (x n : Nat) (V : Nat → Nat × Nat) (es : Nat → Nat) : fnA ⟨tab, pzSk, 171, [([1, 1, 1, 1, 1, 0, 1, 0], fun _ => [])]⟩ 200 Try.f3 (bodyOf Try.f3) (cArgs (pzAr nc A x n V) 0) (cMem es (pzAr nc A x n V) 0) 0 = pzH nc (nmF A) n fun _ => none := by kernel_rfl
theorem pz_evk (nc : Nat) (A : Nat → Nat) (x m : Nat) (V : Nat → Nat × Nat) (T : Nat → List Value) (X : Nat → Nat) (es : Nat → Nat) : fnA (pzCk pzSk (pzPP nc A x (m + 1) V T es) (m + 1) V X) 200 Try.f3 (bodyOf Try.f3) (cArgs (pzAr nc A x (m + 1) V) 0) (cMem es (pzAr nc A x (m + 1) V) 0) 0 =
    pzH nc (nmF A) (m + 1) fun T0 => req (stEq (pzA (pzPP nc A x (m + 1) V T0 es)) (pzA (pzPP nc A x (m + 1) V T es))) (pzM (pzPP nc A x (m + 1) V T es)
      (wskq (m + 1) (nmF X) fun W => wskq (m + 1) (nmF X) fun U => zeq (m + 1) (shF V) fun z a => zeq (m + 1) (shF V) fun y b => thkq (m + 1) (shF V) fun D => thkq (m + 1) (shF V) fun D2 => nuw (m + 1) (nmF W) (m + 1) (nmF U) (bif !(eqV (num z) (num y)) then pzFl else bif a != b then pzFl else nuw (m + 1) (nmF D) (m + 1) (nmF D2)
        (req (stEq (pzD (pzPP nc A x (m + 1) V T es) (m + 1) (shF V) (nmF X) 0) (pzD (pzPP nc A x (m + 1) V T es) (m + 1) (shF V) (nmF X) 0)) (some (.bool true)))))) := by kernel_rfl
theorem pz_evn (nc : Nat) (A : Nat → Nat) (x m : Nat) (V : Nat → Nat × Nat) (T : Nat → List Value) (X : Nat → Nat) (es : Nat → Nat) : fnA (pzCk pzSn (pzPP nc A x (m + 1) V T es) (m + 1) V X) 200 Try.f3 (bodyOf Try.f3) (cArgs (pzAr nc A x (m + 1) V) 0) (cMem es (pzAr nc A x (m + 1) V) 0) 0 =
    pzH nc (nmF A) (m + 1) fun T0 => req (stEq (pzA (pzPP nc A x (m + 1) V T0 es)) (pzA (pzPP nc A x (m + 1) V T es))) (pzM (pzPP nc A x (m + 1) V T es)
      (wnq (m + 1) (nmF X) fun e => wnq (m + 1) (nmF X) fun e2 => zeq (m + 1) (shF V) fun z a => zeq (m + 1) (shF V) fun y b => thnq (m + 1) (shF V) fun g => thnq (m + 1) (shF V) fun h => nuz (bif e != e2 then pzFl else bif !(eqV (num z) (num y)) then pzFl else bif a != b then pzFl else nuz (bif g != h then pzFl else
        (req (stEq (pzD (pzPP nc A x (m + 1) V T es) (m + 1) (shF V) (nmF X) 0) (pzD (pzPP nc A x (m + 1) V T es) (m + 1) (shF V) (nmF X) 0)) (some (.bool true))))))) := by kernel_rfl
theorem pz_evz (nc : Nat) (A : Nat → Nat) (x : Nat) (V : Nat → Nat × Nat) (T : Nat → List Value) (es : Nat → Nat) : fnA (pzCz (pzPP nc A x 0 V T es)) 200 Try.f3 (bodyOf Try.f3) (cArgs (pzAr nc A x 0 V) 0) (cMem es (pzAr nc A x 0 V) 0) 0 =
    pzH nc (nmF A) 0 fun T0 => req (stEq (pzA (pzPP nc A x 0 V T0 es)) (pzA (pzPP nc A x 0 V T es))) (pzM (pzPP nc A x 0 V T es)
      (wnz fun e => wnz fun e2 => zez fun z a => zeq 0 (shF V) fun y b => thz fun g => thnq 0 (shF V) fun h => nuz (bif e != e2 then pzFl else bif !(eqV (num z) (num y)) then pzFl else bif a != b then pzFl else nuz (bif g != h then pzFl else
        (req (stEq (pzD0 (pzPP nc A x 0 V T es)) (pzD0 (pzPP nc A x 0 V T es))) (some (.bool true))))))) := by kernel_rfl
theorem pzM_eq {p : PzP} {A : Nat → Nat} (hn : p.nc ≤ 900) (hx : p.x < 2 ^ 256) (hC : p.C = nmF A) (hT : p.T = sg4 p.nc (sg4 p.nc (nmF A))) (k : Option Value) : pzM p k = k := by
  have ho : okV p.nc p.T = true := by rw [hT, okV_sg, okV_sg]; exact okV_nm (by omega)
  have hv : nA p.T = nA (nmF A) := by rw [hT, nA_sgg]
  unfold pzM
  rw [evq_eq ho hx, hC, evq_eq (okV_nm (by omega)) hx, hv, eqq, show (!true) = false from rfl, cond_false, nuw_eq ho (okV_nm (by omega)) (fun j _ => by rw [hv])]
theorem pz_calls {W : World} {nc n x : Nat} {A : Nat → Nat} {V : Nat → Nat × Nat} {v0 v2 : Value} (_hA : ∀ j, A j < 2 ^ 256) (hx : x < 2 ^ 256) (hV : ∀ j, (V j).1 < 2 ^ 256 ∧ (V j).2 < 2 ^ 256) (h0 : SrcW W kN4 nc (fun i => nmL (A i)) v0) (h2 : SrcW W kN8 n (fun i => shL (V i)) v2) :
    Calls Try.prog 3 #[v0, num x, v2] W fun e w' => e = .returned (.bool true) ∧ Go.RowKit.Below W.heap.size W w' := by
  refine law_sound (c := bodyOf Try.f3) (args' := [v0, num x, v2]) Try.func3 (by kernel_rfl) (A := pzAr nc A x n V) ⟨h0, rfl, rfl, h2, trivial⟩ (GOk_nil _) (by show 3 ≤ Try.f3.ntmps; decide +kernel) rfl (by intro vs h; cases h) (fuel := 200) (next := 0) (fun es => ?_)
  by_cases hb : nc > 70 ∨ n > 12
  · refine ⟨_, ⟨mixed, tabOk, pzSk_ok, noneL2⟩, rfl, (pz_evb nc A x n V es).trans ?_⟩
    unfold pzH
    by_cases h5 : nc > 70
    · rw [decide_eq_true (by omega), cond_true]
    · rw [decide_eq_false (by omega), cond_false, decide_eq_true (by omega), cond_true]
  have hH : ∀ k, pzH nc (nmF A) n k = k (sg4 nc (sg4 nc (nmF A))) := fun k => by
    unfold pzH
    rw [decide_eq_false (by omega), cond_false, decide_eq_false (by omega), cond_false, tnw_eq (by omega)]
  have hM : ∀ k, pzM (pzPP nc A x n V (sg4 nc (sg4 nc (nmF A))) es) k = k := fun k => pzM_eq (p := pzPP nc A x n V (sg4 nc (sg4 nc (nmF A))) es) (A := A) (by show nc ≤ 900; omega) hx rfl rfl k
  have hXs : ∀ j, j < n → sX V j < 2 ^ 256 := fun j _ => (hV j).1
  by_cases hn : n = 0
  · subst hn
    refine ⟨pzCz (pzPP nc A x 0 V (sg4 nc (sg4 nc (nmF A))) es), ⟨mixed, tabOk, pzSn_ok, consL (pz_loop1z (p := pzPP nc A x 0 V (sg4 nc (sg4 nc (nmF A))) es) (V := V) rfl) (oneL (pz_loop2z _))⟩, rfl, (pz_evz nc A x V _ es).trans ?_⟩
    rw [hH, req_true (stEq_refl rfl), hM, wnz_eq, wnz_eq, zez_eq, zeq_eq (S := V) (by omega) (fun j _ => hV j) (fun _ _ => rfl), thz_eq, thnq_eq (S := V) (by omega) (fun j _ => hV j) (fun _ _ => rfl) (by rw [ckN_len (.inl rfl)]; decide)]
    have e1 : ∀ X : Nat → Nat, ckN X 0 = 4 := fun X => ckN_len (.inl rfl)
    rw [e1, e1, e1, zeN_no (by rw [e1]; decide), zeN_no (by rw [e1]; decide), nuz_eq, show ((4 : Int) != 4) = false from rfl, cond_false, eqq, show (!true) = false from rfl, cond_false, cond_false, nuz_eq, cond_false, req_true (stEq_refl rfl)]
  · obtain ⟨m, rfl⟩ : ∃ m, n = m + 1 := ⟨n - 1, by omega⟩
    have hl1 := pz_loop1 (p := pzPP nc A x (m + 1) V (sg4 nc (sg4 nc (nmF A))) es) (V := V) (m := m) rfl (by omega)
    have hl2 := pz_loop2 (p := pzPP nc A x (m + 1) V (sg4 nc (sg4 nc (nmF A))) es) (V := V) (by show m + 1 ≤ 900; omega)
    by_cases hc : ckN (sX V) (m + 1) = 0
    · refine ⟨pzCk pzSk (pzPP nc A x (m + 1) V (sg4 nc (sg4 nc (nmF A))) es) (m + 1) V (sX V), ⟨mixed, tabOk, pzSk_ok, consL hl1 (oneL hl2)⟩, rfl, (pz_evk nc A x m V _ _ es).trans ?_⟩
      rw [hH, req_true (stEq_refl rfl), hM, wsw_eq (by omega) hXs hc, wsw_eq (by omega) hXs hc, zeq_eq (S := V) (by omega) (fun j _ => hV j) (fun _ _ => rfl), zeq_eq (S := V) (by omega) (fun j _ => hV j) (fun _ _ => rfl), thkq_eq (S := V) (by omega) (fun j _ => hV j) (fun _ _ => rfl) hc, thkq_eq (S := V) (by omega) (fun j _ => hV j) (fun _ _ => rfl) hc]
      rw [nuw_eq (okV_nm (by omega)) (okV_nm (by omega)) (fun _ _ => rfl), eqq, show (!true) = false from rfl, cond_false, hc, show ((0 : Int) != 0) = false from rfl, cond_false, nuw_eq (okV_nm (by omega)) (okV_nm (by omega)) (fun _ _ => rfl), req_true (stEq_refl rfl)]
    · refine ⟨pzCk pzSn (pzPP nc A x (m + 1) V (sg4 nc (sg4 nc (nmF A))) es) (m + 1) V (sX V), ⟨mixed, tabOk, pzSn_ok, consL hl1 (oneL hl2)⟩, rfl, (pz_evn nc A x m V _ _ es).trans ?_⟩
      rw [hH, req_true (stEq_refl rfl), hM, wnq_eq (by omega) hXs hc, wnq_eq (by omega) hXs hc, zeq_eq (S := V) (by omega) (fun j _ => hV j) (fun _ _ => rfl), zeq_eq (S := V) (by omega) (fun j _ => hV j) (fun _ _ => rfl), thnq_eq (S := V) (by omega) (fun j _ => hV j) (fun _ _ => rfl) hc, thnq_eq (S := V) (by omega) (fun j _ => hV j) (fun _ _ => rfl) hc]
      have hs : (ckN (sX V) (m + 1) != ckN (sX V) (m + 1)) = false := by rw [bne_eq_false_iff_eq]
      rw [nuz_eq, hs, cond_false, eqq, show (!true) = false from rfl, cond_false, cond_false, nuz_eq, cond_false, req_true (stEq_refl rfl)]
end Go.Proofs.Ytbklbmiddacaiaa
