/-
  DrawBlocks.
-/
import Derived.Test.YteenpdjanlcipabDoorSd
import Derived.Test.YteenpdjanlcipabDoorSg
namespace Go.Proofs.YteenpdjanlcipabDoor
set_option maxRecDepth 100000
open Go.W
open Go.RowKit (Below)

noncomputable def dbG : Sums := [(4, StmF 5), (5, MaF), (6, KbF), (7, WkF)]
theorem dbG_ok : SumsOk Tryd.prog dbG := sums_consM st_msum (sums_consM ma_msum (sums_consM kb_msum (sums_cons wk5_sum sums_nil)))
noncomputable def dbC0 : Cfg := ⟨tab, dbG, 61, []⟩
theorem dbOk0 : CfgOk Tryd.prog dbC0 (bodyOf Tryd.f3) := ⟨mixed, tabOk, dbG_ok, noL⟩
theorem db_at : codeAt [1, 1, 1, 1, 1, 0, 1, 0] (bodyOf Tryd.f3) = some (.loop (loopAt [1, 1, 1, 1, 1, 0, 1, 0] (bodyOf Tryd.f3))) := by kernel_rfl
def dbNt : List Nat := [0, 1, 4, 5, 7]
def dbB : Nat := nid 11 0
def dbNi : List Nat := [dbB, 1500000]
def dbSt (m : Nat) (f : Nat → List Value) (e0 : Nat) (nv : Int) (N : Nat) (B : Nat → List Value) (a : Int) : St :=
  ⟨[(0, aSl 0 m), (1, i64 nv), (4, .bool false), (5, .slice (some ⟨dbB, 0, none⟩) N N), (7, i64 a)], [(dbB, ⟨.row kB N B, 5, true⟩), (1500000, ⟨.row kB m f, e0, false⟩)], 26⟩
def dbX (N a : Nat) : Int := if ((N : Nat) : Int) < IntKind.i64.wrap ((a : Int) + 32) then ((N : Nat) : Int) else IntKind.i64.wrap ((a : Int) + 32)
def dbY (N a : Nat) : Int := if IntKind.i64.wrap (((N : Nat) : Int) - (a : Int)) < 32 then IntKind.i64.wrap (((N : Nat) : Int) - (a : Int)) else 32
def dbI (a : Nat) : Int := IntKind.i64.wrap ((a : Int).tdiv 32)
noncomputable def dbS (m : Nat) (f : Nat → List Value) (a : Nat) : S8 := mcN (whF m (sgF m f)) 8 (bN (lstF [z8, z8, z8, z8, z8, z8, .int .u8 (IntKind.u8.wrap ((dbI a).fdiv (2 ^ 8))), .int .u8 (IntKind.u8.wrap (dbI a))] 0 1))
def dbH (N a : Nat) : Bool := (true && Nat.ble (a + ((dbX N a).toNat - a)) N) && (true && Nat.ble ((dbX N a).toNat - a) ((dbX N a).toNat - a) && true && Nat.ble ((dbX N a).toNat - a) (N - a))
def dbJ (s : S8) (y : Nat) : Bool := Nat.ble (0 + (y - 0) * 1) 32 && fitsK (repK (y - 0) kB) (((tdL s).drop 0).take ((y - 0) * 1)) && Nat.ble (y - 0) 32
theorem db_r (m : Nat) (f : Nat → List Value) (e0 N : Nat) (B : Nat → List Value) (a : Nat) : roundS dbC0 60 [1, 1, 1, 1, 1, 0, 1, 0, 0] (loopAt [1, 1, 1, 1, 1, 0, 1, 0] (bodyOf Tryd.f3)) dbNt dbNi 26 dbNt dbNi 26 (dbSt m f e0 (N : Nat) N B (a : Int)) =
    bif decide ((a : Int) < (N : Int)) then req (okN m && true) (req (decide (0 ≤ dbX N a) && decide (dbX N a ≤ (N : Int))) (req (decide ((0 : Int) ≤ (a : Int)) && decide ((a : Int) ≤ ((dbX N a).toNat : Int))) (req (Nat.ble (dbX N a).toNat N) (req (decide (0 ≤ dbY N a) && decide (dbY N a ≤ 32))
      (req (dbH N a && dbJ (dbS m f a) (dbY N a).toNat && Nat.ble ((dbX N a).toNat - a) 9223372036854775807) (bif !(eqR ((dbX N a).toNat - a) (segF ⟨0, a, (dbX N a).toNat - a, kB, N, B, 0, false, []⟩) ((dbY N a).toNat - 0) (lstF (tdL (dbS m f a)) 0 1)) then some (.ret, dbSt m f e0 (N : Nat) N B (a : Int)) else some (.normal, dbSt m f e0 (N : Nat) N B (IntKind.i64.wrap ((a : Int) + 32)))))))))
    else some (.exit 0, dbSt m f e0 (N : Nat) N B (a : Int)) := by kernel_rfl

theorem dbS_eq (m : Nat) (f : Nat → List Value) {k : Nat} (hk : k < 65536) : dbS m f (32 * k) = pcS (whF m f) k := by
  have hI : dbI (32 * k) = (k : Int) := by
    unfold dbI
    rw [show ((32 * k : Nat) : Int).tdiv 32 = (k : Int) from by rw [Int.tdiv_eq_ediv_of_nonneg (by omega)]; omega, wrap_i64 (by omega)]
  unfold dbS pcS
  rw [hI]
  refine mcN_congr (fun j _ => whF_congr (fun j _ => bI_sg m f j) j) (la8_small hk _ _ ?_ ?_)
  · rw [wb8]; congr 2; omega
  · rw [wrap_u8]; congr 1
theorem db_step (m : Nat) (f : Nat → List Value) (e0 N : Nat) (hm : m ≤ 1000000) (hN : N ≤ 65536) {k : Nat} (hk : 32 * k < N) : roundS dbC0 60 [1, 1, 1, 1, 1, 0, 1, 0, 0] (loopAt [1, 1, 1, 1, 1, 0, 1, 0] (bodyOf Tryd.f3)) dbNt dbNi 26 dbNt dbNi 26 (dbSt m f e0 (N : Nat) N (smF (whF m (sgF m f)) N) ((32 * k : Nat) : Int)) =
    some (.normal, dbSt m f e0 (N : Nat) N (smF (whF m (sgF m f)) N) ((32 * (k + 1) : Nat) : Int)) := by
  refine (db_r m f e0 N _ (32 * k)).trans ?_
  have hX : dbX N (32 * k) = ((min (32 * k + 32) N : Nat) : Int) := by
    unfold dbX
    rw [wrap_i64 (by omega)]
    split <;> omega
  have hY : dbY N (32 * k) = ((min 32 (N - 32 * k) : Nat) : Int) := by
    unfold dbY
    rw [wrap_i64 (by omega)]
    split <;> omega
  have hH : dbH N (32 * k) = true := by
    unfold dbH
    rw [hX, Int.toNat_natCast, ble_of (show 32 * k + (min (32 * k + 32) N - 32 * k) ≤ N by omega), ble_of (Nat.le_refl _), ble_of (show min (32 * k + 32) N - 32 * k ≤ N - 32 * k by omega)]; rfl
  have hJ : dbJ (dbS m f (32 * k)) (dbY N (32 * k)).toNat = true := by
    unfold dbJ
    rw [hY, Int.toNat_natCast, Nat.sub_zero, td_fits _ (by omega), ble_of (show 0 + min 32 (N - 32 * k) * 1 ≤ 32 by omega), ble_of (show min 32 (N - 32 * k) ≤ 32 by omega)]; rfl
  have hE : eqR ((dbX N (32 * k)).toNat - 32 * k) (segF ⟨0, 32 * k, (dbX N (32 * k)).toNat - 32 * k, kB, N, smF (whF m (sgF m f)) N, 0, false, []⟩) ((dbY N (32 * k)).toNat - 0) (lstF (tdL (dbS m f (32 * k))) 0 1) = true := by
    rw [eqR_iff, hX, hY, Int.toNat_natCast, Int.toNat_natCast, Nat.sub_zero]
    refine ⟨by omega, fun j hj => ?_⟩
    rw [bI_td _ (by omega), dbS_eq m f (by omega)]
    show bI (smF (whF m (sgF m f)) N) (32 * k + j) = _
    rw [smF_get _ (by omega), smN_congr (V := whF m f) (fun j _ => whF_congr (fun j _ => bI_sg m f j) j)]
    unfold smN
    rw [show (32 * k + j) / 32 = k from by omega, show (32 * k + j) % 32 = j from by omega]
  rw [decide_eq_true (by omega), cond_true, okN_true hm, req_true (b := true && true) rfl, hH, hJ, hE, hX, hY, Int.toNat_natCast, decide_eq_true (by omega), decide_eq_true (by omega), req_true (b := true && true) rfl, decide_eq_true (by omega), decide_eq_true (by omega), req_true (b := true && true) rfl,
    ble_of (by omega : min (32 * k + 32) N ≤ N), req_true rfl, decide_eq_true (by omega), decide_eq_true (by omega), req_true (b := true && true) rfl, ble_of (by omega : min (32 * k + 32) N - 32 * k ≤ 9223372036854775807), req_true (b := true && true && true) rfl, Bool.not_true, cond_false, wrap_i64 (by omega)]
  rfl
theorem db_loop (m : Nat) (f : Nat → List Value) (e0 N : Nat) (hm : m ≤ 1000000) (hN : N ≤ 65536) : LoopOk Tryd.prog 61 (loopAt [1, 1, 1, 1, 1, 0, 1, 0] (bodyOf Tryd.f3)) (atSt dbNt dbNi 26 (dbSt m f e0 (N : Nat) N (smF (whF m (sgF m f)) N) 0) (.exit 0) (dbSt m f e0 (N : Nat) N (smF (whF m (sgF m f)) N) ((32 * ((N + 31) / 32) : Nat) : Int))) := by
  refine atSt_ok fun w0 R a W hrel => ?_
  refine loop_rounds (R := R) (C := dbC0) dbOk0 db_at (m := 60) (nt := dbNt) (ni := dbNi) (et := dbNt) (ei := dbNi) (nx := 26) (ex := 26) (e := .exit 0) (sf := dbSt m f e0 (N : Nat) N (smF (whF m (sgF m f)) N) ((32 * ((N + 31) / 32) : Nat) : Int))
    (fun j => dbSt m f e0 (N : Nat) N (smF (whF m (sgF m f)) N) ((32 * j : Nat) : Int)) ((N + 31) / 32) (by intro h; cases h) (fun k hk => db_step m f e0 N hm hN (by omega)) ?_ hrel
  refine (db_r m f e0 N _ _).trans ?_
  rw [decide_eq_false (by omega), cond_false]
def dbN (n : Int) : Int := IntKind.i64.wrap ((IntKind.u64.wrap n).tmod 300)
noncomputable def dbC (m : Nat) (f : Nat → List Value) (e0 N : Nat) (B : Nat → List Value) (a : Int) : Cfg := ⟨tab, dbG, 61, [([1, 1, 1, 1, 1, 0, 1, 0], atSt dbNt dbNi 26 (dbSt m f e0 (N : Nat) N B 0) (.exit 0) (dbSt m f e0 (N : Nat) N B a))]⟩
theorem db_ev (m : Nat) (f : Nat → List Value) (n : Int) (N : Nat) (B : Nat → List Value) (a : Int) (es : Nat → Nat) : fnA (dbC m f (es 0) N B a) 60 Tryd.f3 (bodyOf Tryd.f3) (cArgs [.sl kB m f, .pl (.int .i64 n)] 0) (cMem es [.sl kB m f, .pl (.int .i64 n)] 0) 0 =
    bif decide ((m : Int) > 2000) then some (.bool true) else
    bif (kbk m && (decide (dbN n < 0) || decide (dbN n > 65536))) then some (.bool false) else
    req (okN m) (bif ((((dbN n).toNat : Nat) : Int) != dbN n) then some (.bool false) else req (stEq (dbSt m f (es 0) (dbN n) (dbN n).toNat (smF (whF m (sgF m f)) (dbN n).toNat) 0) (dbSt m f (es 0) (N : Nat) N B 0)) (some (.bool true))) := by kernel_rfl
theorem db_ev2 (m : Nat) (f : Nat → List Value) (n : Int) (es : Nat → Nat) : fnA ⟨tab, dbG, 61, [([1, 1, 1, 1, 1, 0, 1, 0], fun _ => [])]⟩ 60 Tryd.f3 (bodyOf Tryd.f3) (cArgs [.sl kB m f, .pl (.int .i64 n)] 0) (cMem es [.sl kB m f, .pl (.int .i64 n)] 0) 0 =
    bif decide ((m : Int) > 2000) then some (.bool true) else
    bif (kbk m && (decide (dbN n < 0) || decide (dbN n > 65536))) then some (.bool false) else
    req (okN m) (bif ((((dbN n).toNat : Nat) : Int) != dbN n) then some (.bool false) else none) := by kernel_rfl
theorem db_calls {m : Nat} {f : Nat → List Value} {n : Int} {v : Value} {W : World} (hg : GOk (lay Tryd.prog) W) (hv : SrcW W kB m f v) :
    Calls Tryd.prog 3 #[v, .int .i64 n] W fun e W' => e = .returned (.bool true) ∧ Below W.heap.size W W' :=
  law_sound (c := bodyOf Tryd.f3) (fuel := 60) (next := 0) (A := [.sl kB m f, .pl (.int .i64 n)]) (args' := [v, .int .i64 n]) Tryd.func3 (by kernel_rfl) ⟨hv, rfl, rfl, trivial⟩ hg
    (by show 2 ≤ Tryd.f3.ntmps; decide +kernel) rfl nofun
    fun es => by
      obtain ⟨N, hN, hlt⟩ : ∃ N : Nat, dbN n = (N : Int) ∧ N < 300 := by
        have h1 : 0 ≤ IntKind.u64.wrap n := by rw [wrap_u64]; omega
        refine ⟨(dbN n).toNat, ?_, ?_⟩ <;> (unfold dbN; rw [Int.tmod_eq_emod_of_nonneg h1, wrap_i64 (by omega)]; omega)
      by_cases hm : m ≤ 2000
      · refine ⟨dbC m f (es 0) N (smF (whF m (sgF m f)) N) ((32 * ((N + 31) / 32) : Nat) : Int), ⟨mixed, tabOk, dbG_ok, oneL (db_loop m f (es 0) N (by omega) (by omega))⟩, rfl, (db_ev m f n _ _ _ es).trans ?_⟩
        rw [hN, Int.toNat_natCast, decide_eq_false (by omega), cond_false, kbk_true, decide_eq_false (by omega), decide_eq_false (by omega), show (true && (false || false)) = false from rfl, cond_false, okN_true (by omega), req_true rfl, bne_self_eq_false, cond_false, req_true (stEq_refl rfl)]
      · refine ⟨⟨tab, dbG, 61, [([1, 1, 1, 1, 1, 0, 1, 0], fun _ => [])]⟩, ⟨mixed, tabOk, dbG_ok, noneL2⟩, rfl, (db_ev2 m f n es).trans ?_⟩
        rw [decide_eq_true (by omega), cond_true]

end Go.Proofs.YteenpdjanlcipabDoor
