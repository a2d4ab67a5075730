/-
  ShaAlone.
-/
import Derived.Test.YtaimnbmhlognmaaDoorSh
import Derived.Test.YtaimnbmhlognmaaDoorSd
import Derived.Test.YtaimnbmhlognmaaDoorEf
namespace Go.Proofs.YtaimnbmhlognmaaDoor
set_option maxRecDepth 100000
open Go.W
open Go.RowKit (Below)

noncomputable def saSum : Sums := [(10, SuF), (14, KbF), (15, WkF)]
theorem saSum_ok : SumsOk Tryd.prog saSum := sums_consM su_msum (sums_consM kb_msum (sums_cons wk_sum sums_nil))
noncomputable def saC0 : Cfg := ⟨tab, saSum, 73, []⟩
theorem saOk0 : CfgOk Tryd.prog saC0 (bodyOf Tryd.f6) := ⟨mixed, tabOk, saSum_ok, noL⟩
theorem sa1_at : codeAt [1, 1, 1, 1, 1, 0, 1, 0] (bodyOf Tryd.f6) = some (.loop (loopAt [1, 1, 1, 1, 1, 0, 1, 0] (bodyOf Tryd.f6))) := by kernel_rfl
theorem sa2_at : codeAt [1, 1, 1, 1, 1, 1, 1, 1, 0, 1, 0] (bodyOf Tryd.f6) = some (.loop (loopAt [1, 1, 1, 1, 1, 1, 1, 1, 0, 1, 0] (bodyOf Tryd.f6))) := by kernel_rfl
noncomputable def saS1 (x : S8) (n : Nat) (f : Nat → List Value) (e : Nat) (N : Nat) (G : Nat → List Value) (i : Int) : St :=
  ⟨[(0, aSl 0 n), (6, .bool false), (7, ptr 19), (8, .slice (some ⟨500216, 0, none⟩) N N), (9, i64 i)], [(19, ⟨.lst (tdL x), 24, true⟩), (500216, ⟨.row kB N G, 5, true⟩), (1500000, ⟨.row kB n f, e, false⟩)], 30⟩
def saNt : List Nat := [0, 6, 7, 8, 9]
def saNi : List Nat := [19, 500216, 1500000]
noncomputable def saS2 (x y : S8) (N : Nat) (G : Nat → List Value) (i : Int) : St :=
  ⟨[(6, .bool false), (7, ptr 19), (8, .slice (some ⟨500216, 0, none⟩) N N), (10, ptr 38), (11, i64 i)], [(19, ⟨.lst (tdL x), 24, true⟩), (38, ⟨.lst (tdL y), 24, true⟩), (500216, ⟨.row kB N G, 5, true⟩)], 43⟩
def saMt : List Nat := [6, 7, 8, 10, 11]
def saMi : List Nat := [19, 38, 500216]
theorem sa1_r (x : S8) (n : Nat) (f : Nat → List Value) (e : Nat) (N : Nat) (G : Nat → List Value) (i : Int) : roundS saC0 60 [1, 1, 1, 1, 1, 0, 1, 0, 0] (loopAt [1, 1, 1, 1, 1, 0, 1, 0] (bodyOf Tryd.f6)) saNt saNi 30 saNt saNi 30 (saS1 x n f e N G i) =
    bif decide (i < (N : Int)) then req (inR i N) (req (Nat.blt i.toNat N && true) (some (.normal, saS1 x n f e N (updR G (0 + i.toNat) [.int .u8 77]) (IntKind.i64.wrap (i + 1))))) else some (.exit 0, saS1 x n f e N G i) := by kernel_rfl
theorem sa2_r (x y : S8) (N : Nat) (G : Nat → List Value) (i : Int) : roundS saC0 60 [1, 1, 1, 1, 1, 1, 1, 1, 0, 1, 0, 0] (loopAt [1, 1, 1, 1, 1, 1, 1, 1, 0, 1, 0] (bodyOf Tryd.f6)) saMt saMi 43 saMt saMi 43 (saS2 x y N G i) =
    bif decide (i < (N : Int)) then req (inR i N) (req (Nat.blt i.toNat N && true) (bif bI G (0 + i.toNat) != 77 then some (.ret, saS2 x y N G i) else some (.normal, saS2 x y N G (IntKind.i64.wrap (i + 1))))) else some (.exit 2, saS2 x y N G i) := by kernel_rfl
noncomputable def saC (x : S8) (n : Nat) (f : Nat → List Value) (e : Nat) (N : Nat) (G0 G1 : Nat → List Value) (y : S8) (G2 : Nat → List Value) (I2 : Int) : Cfg :=
  ⟨tab, saSum, 73, [([1, 1, 1, 1, 1, 0, 1, 0], atSt saNt saNi 30 (saS1 x n f e N G0 0) (.exit 0) (saS1 x n f e N G1 (N : Int))), ([1, 1, 1, 1, 1, 1, 1, 1, 0, 1, 0], atSt saMt saMi 43 (saS2 x y N G2 (n : Int)) (.exit 2) (saS2 x y N G2 I2))]⟩
noncomputable def saT (n : Nat) (f : Nat → List Value) (m : Nat) (e : Nat) (k : Int) (x : S8) (N : Nat) (G0 G1 : Nat → List Value) (y : S8) (G2 : Nat → List Value) : Option Value :=
  bif decide ((n : Int) > 3000) then some (.bool true) else bif decide ((m : Int) > 3000) then some (.bool true) else bif decide (k < 0) then some (.bool true) else bif decide (k > 200) then some (.bool true) else
  req (okN n) (req (okN m) (req (decide (IntKind.i64.wrap ((n : Int) + k) = IntKind.i64.wrap ((n : Int) + k)) && decide (0 ≤ IntKind.i64.wrap ((n : Int) + k)) && szOk (IntKind.i64.wrap ((n : Int) + k)).toNat 1 && true && true && true && true && true)
    (req (stEq (saS1 (shN n (bN (sgF n f))) n f e (IntKind.i64.wrap ((n : Int) + k)).toNat (fun _ => [z8]) 0) (saS1 x n f e N G0 0)) (req (true && Nat.ble n n && true) (req (true && true && Nat.ble N N && true)
      (req (decide (0 ≤ (n : Int)) && decide ((n : Int) ≤ (N : Int))) (req (Nat.ble n N) (req (((Nat.beq 1 1 && Nat.ble (0 + n) N) && (true && Nat.ble n n && true && Nat.ble n (N - 0))) && Nat.ble n 1000000)
        (req (stEq (saS2 x (shN n (bN (segF ⟨500216, 0, n, kB, N, cpyF G1 0 (min n N) (sgF n f), 0, true, []⟩))) N (cpyF G1 0 (min n N) (sgF n f)) (n : Int)) (saS2 x y N G2 (n : Int)))
          (bif eqR 32 (lstF (tdL x) 0 1) 32 (lstF (tdL y) 0 1) then some (.bool true) else some (.bool false)))))))))))
theorem sa_ev (n : Nat) (f : Nat → List Value) (m : Nat) (g : Nat → List Value) (k : Int) (x : S8) (N : Nat) (G0 G1 : Nat → List Value) (y : S8) (G2 : Nat → List Value) (I2 : Int) (es : Nat → Nat) : fnA (saC x n f (es 0) N G0 G1 y G2 I2) 60 Tryd.f6 (bodyOf Tryd.f6) (cArgs [.sl kB n f, .sl kB m g, .pl (.int .i64 k)] 0) (cMem es [.sl kB n f, .sl kB m g, .pl (.int .i64 k)] 0) 0 =
    saT n f m (es 0) k x N G0 G1 y G2 := by kernel_rfl
theorem sa_loop1 (x : S8) (n : Nat) (f : Nat → List Value) (e : Nat) (N : Nat) (hN : N ≤ 1000000) : LoopOk Tryd.prog 73 (loopAt [1, 1, 1, 1, 1, 0, 1, 0] (bodyOf Tryd.f6)) (atSt saNt saNi 30 (saS1 x n f e N (flF 0) 0) (.exit 0) (saS1 x n f e N (flF N) (N : Int))) := by
  refine atSt_ok fun w0 R a W hrel => ?_
  refine loop_rounds (R := R) (C := saC0) saOk0 sa1_at (m := 60) (nt := saNt) (ni := saNi) (et := saNt) (ei := saNi) (nx := 30) (ex := 30) (e := .exit 0) (sf := saS1 x n f e N (flF N) (N : Int))
    (fun k => saS1 x n f e N (flF k) (k : Int)) N (by intro h; cases h) ?_ ?_ hrel
  · intro k hk
    refine (sa1_r _ _ _ _ _ _ _).trans ?_
    rw [decide_eq_true (by omega), cond_true, inR_of hk, req_true rfl, Int.toNat_natCast, blt_of hk, req_true (b := true && true) rfl, Nat.zero_add, flF_step, wrap_i64 (by omega)]; rfl
  · refine (sa1_r _ _ _ _ _ _ _).trans ?_
    rw [decide_eq_false (by omega), cond_false]
theorem sa_loop2 (x y : S8) (n N : Nat) (G : Nat → List Value) (hn : n ≤ N) (hN : N ≤ 1000000) (hG : ∀ j, n ≤ j → j < N → bI G j = 77) : LoopOk Tryd.prog 73 (loopAt [1, 1, 1, 1, 1, 1, 1, 1, 0, 1, 0] (bodyOf Tryd.f6)) (atSt saMt saMi 43 (saS2 x y N G (n : Int)) (.exit 2) (saS2 x y N G (N : Int))) := by
  refine atSt_ok fun w0 R a W hrel => ?_
  refine loop_rounds (R := R) (C := saC0) saOk0 sa2_at (m := 60) (nt := saMt) (ni := saMi) (et := saMt) (ei := saMi) (nx := 43) (ex := 43) (e := .exit 2) (sf := saS2 x y N G (N : Int))
    (fun k => saS2 x y N G ((n + k : Nat) : Int)) (N - n) (by intro h; cases h) ?_ ?_ hrel
  · intro k hk
    refine (sa2_r _ _ _ _ _).trans ?_
    have h77 : (bI G (n + k) != 77) = false := by rw [hG (n + k) (by omega) (by omega)]; rfl
    rw [decide_eq_true (by omega), cond_true, inR_of (by omega), req_true rfl, Int.toNat_natCast, blt_of (by omega), req_true (b := true && true) rfl, Nat.zero_add, h77, cond_false, wrap_i64 (by omega)]; rfl
  · refine (sa2_r _ _ _ _ _).trans ?_
    rw [show n + (N - n) = N from by omega, decide_eq_false (by omega), cond_false]
theorem saT_eq (n : Nat) (f : Nat → List Value) (m : Nat) (e : Nat) (k : Int) (y : S8) (hy : y = shN n (bN (segF ⟨500216, 0, n, kB, n + k.toNat, cpyF (flF (n + k.toNat)) 0 (min n (n + k.toNat)) (sgF n f), 0, true, []⟩))) :
    saT n f m e k (shN n (bN (sgF n f))) (n + k.toNat) (flF 0) (flF (n + k.toNat)) y (cpyF (flF (n + k.toNat)) 0 (min n (n + k.toNat)) (sgF n f)) = some (.bool true) := by
  unfold saT
  by_cases h1 : (n : Int) > 3000
  · rw [decide_eq_true h1, cond_true]
  rw [decide_eq_false h1, cond_false]
  by_cases h2 : (m : Int) > 3000
  · rw [decide_eq_true h2, cond_true]
  rw [decide_eq_false h2, cond_false]
  by_cases h3 : k < 0
  · rw [decide_eq_true h3, cond_true]
  rw [decide_eq_false h3, cond_false]
  by_cases h4 : k > 200
  · rw [decide_eq_true h4, cond_true]
  have ew : IntKind.i64.wrap ((n : Int) + k) = ((n + k.toNat : Nat) : Int) := by rw [wrap_i64 (by omega)]; omega
  rw [decide_eq_false h4, cond_false, okN_true (by omega), okN_true (by omega), req_true rfl, req_true rfl, ew, Int.toNat_natCast, decide_eq_true rfl, decide_eq_true (by omega), szOk_small (by omega), req_true (by rfl)]
  have q1 : stEq (saS1 (shN n (bN (sgF n f))) n f e (n + k.toNat) (fun _ => [z8]) 0) (saS1 (shN n (bN (sgF n f))) n f e (n + k.toNat) (flF 0) 0) = true :=
    stEq_mk rfl (memEq_cons (cellsEq_refl rfl) (memEq_cons (cellsEq_rr fun j _ => by rw [nrm_kB (flF 0), bI_fl, if_neg (Nat.not_lt_zero _)]; rfl) (memEq_cons (cellsEq_refl rfl) rfl)))
  rw [req_true q1, ble_of (Nat.le_refl n), req_true (b := true && true && true) rfl, ble_of (Nat.le_refl (n + k.toNat)), req_true (b := true && true && true && true) rfl, decide_eq_true (by omega), decide_eq_true (by omega), req_true (b := true && true) rfl,
    ble_of (by omega : n ≤ n + k.toNat), req_true rfl, ble_of (by omega : 0 + n ≤ n + k.toNat), ble_of (by omega : n ≤ n + k.toNat - 0), ble_of (by omega : n ≤ 1000000), req_true (by rfl), ← hy, req_true (stEq_refl rfl), eqR_td, cond_true]
  rw [hy]
  refine shN_congr fun j hj => bN_congr ?_
  show bI (sgF n f) j = bI (cpyF (flF (n + k.toNat)) 0 (min n (n + k.toNat)) (sgF n f)) (0 + j)
  rw [Nat.zero_add, bI_cpy, if_pos (by omega)]
theorem sa_calls {n : Nat} {f : Nat → List Value} {m : Nat} {g : Nat → List Value} {k : Int} {v u : Value} {W : World} (hg : GOk (lay Tryd.prog) W) (hv : SrcW W kB n f v) (hu : SrcW W kB m g u) :
    Calls Tryd.prog 6 #[v, u, .int .i64 k] W fun e W' => e = .returned (.bool true) ∧ Below W.heap.size W W' :=
  law_sound (c := bodyOf Tryd.f6) (fuel := 60) (next := 0) (A := [.sl kB n f, .sl kB m g, .pl (.int .i64 k)]) (args' := [v, u, .int .i64 k]) Tryd.func6 (by kernel_rfl) ⟨hv, hu, rfl, rfl, trivial⟩ hg
    (by show 3 ≤ Tryd.f6.ntmps; decide +kernel) rfl nofun
    fun es => by
      by_cases hb : n + k.toNat ≤ 1000000
      · exact ⟨saC (shN n (bN (sgF n f))) n f (es 0) (n + k.toNat) (flF 0) (flF (n + k.toNat)) _ (cpyF (flF (n + k.toNat)) 0 (min n (n + k.toNat)) (sgF n f)) ((n + k.toNat : Nat) : Int), ⟨mixed, tabOk, saSum_ok, twoL (sa_loop1 _ _ _ _ _ hb) (sa_loop2 _ _ _ _ _ (by omega) hb (fun j h1 h2 => by rw [bI_cpy, if_neg (by omega), bI_fl, if_pos h2]))⟩, rfl, (sa_ev n f m g k _ _ _ _ _ _ _ es).trans (saT_eq n f m (es 0) k _ rfl)⟩
      · refine ⟨saC (shN n (bN (sgF n f))) n f (es 0) 0 (flF 0) (flF 0) (shN n (bN (sgF n f))) (flF 0) (n : Int), ⟨mixed, tabOk, saSum_ok, twoL (sa_loop1 _ _ _ _ _ (by omega)) ?_⟩, rfl, (sa_ev n f m g k _ _ _ _ _ _ _ es).trans ?_⟩
        · refine atSt_ok fun w0 R a W hrel => ?_
          refine loop_rounds (R := R) (C := saC0) saOk0 sa2_at (m := 60) (nt := saMt) (ni := saMi) (et := saMt) (ei := saMi) (nx := 43) (ex := 43) (e := .exit 2) (sf := saS2 (shN n (bN (sgF n f))) (shN n (bN (sgF n f))) 0 (flF 0) (n : Int))
            (fun _ => saS2 (shN n (bN (sgF n f))) (shN n (bN (sgF n f))) 0 (flF 0) (n : Int)) 0 (by intro h; cases h) (fun k hk => absurd hk (by omega)) ?_ hrel
          refine (sa2_r _ _ _ _ _).trans ?_
          rw [decide_eq_false (by omega), cond_false]
        · unfold saT
          by_cases h1 : (n : Int) > 3000
          · rw [decide_eq_true h1, cond_true]
          rw [decide_eq_false h1, cond_false]
          by_cases h2 : (m : Int) > 3000
          · rw [decide_eq_true h2, cond_true]
          rw [decide_eq_false h2, cond_false, decide_eq_false (by omega), cond_false, decide_eq_true (by omega), cond_true]

end Go.Proofs.YtaimnbmhlognmaaDoor
