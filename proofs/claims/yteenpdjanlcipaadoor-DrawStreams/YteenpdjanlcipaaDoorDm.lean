/-
  DrawStreams.
-/
import Derived.Test.YteenpdjanlcipaaDoorSd
import Derived.Test.YteenpdjanlcipaaDoorSg
namespace Go.Proofs.YteenpdjanlcipaaDoor
set_option maxRecDepth 100000
open Go.W
open Go.RowKit (Below)

noncomputable def dsG : Sums := [(21, StmF 5), (23, RsF 5), (22, KbF), (14, WkF)]
theorem dsG_ok : SumsOk Tryd.prog dsG := sums_consM st_msum (sums_consM rs_msum (sums_consM kb_msum (sums_cons wk5_sum sums_nil)))
noncomputable def dsC : Cfg := ⟨tab, dsG, 87, []⟩
theorem dsOk : CfgOk Tryd.prog dsC (bodyOf Tryd.f5) := ⟨mixed, tabOk, dsG_ok, noL⟩
def dsT : Option Value := some (.bool true)
def dsF : Option Value := some (.bool false)
def dsM (n q : Int) : Int := if q < n then q else n
def dsS (k : Int) (n : Nat) : Bool := decide (0 ≤ k) && decide (k ≤ (n : Int))
def dsH (k n : Nat) : Bool := (true && Nat.ble (0 + (k - 0)) n) && (true && Nat.ble (k - 0) (k - 0) && true && Nat.ble (k - 0) (n - 0))
noncomputable def dsE (m : Nat) (f : Nat → List Value) (n : Nat) : Nat → List Value := smF (whF m (sgF m f)) n
noncomputable def dsK (m : Nat) (f : Nat → List Value) (n q : Int) : Option Value :=
  bif kbk m && (decide (q < 0) || decide (q > 65536)) then dsF else req (okN m) (
    req (dsS (dsM n q) n.toNat) (req (Nat.ble (dsM n q).toNat n.toNat) (req (dsS (dsM n q) q.toNat) (req (Nat.ble (dsM n q).toNat q.toNat) (req (dsH (dsM n q).toNat n.toNat && dsH (dsM n q).toNat q.toNat && Nat.ble ((dsM n q).toNat - 0) 9223372036854775807)
      (bif eqR ((dsM n q).toNat - 0) (segF ⟨0, 0, (dsM n q).toNat - 0, kB, n.toNat, dsE m f n.toNat, 0, false, []⟩) ((dsM n q).toNat - 0) (segF ⟨0, 0, (dsM n q).toNat - 0, kB, q.toNat, dsE m f q.toNat, 0, false, []⟩) then dsT else dsF))))))
noncomputable def dsR (m : Nat) (f : Nat → List Value) (n q : Int) : Option Value :=
  bif ((n.toNat : Nat) : Int) != n then dsF else bif decide (n ≤ 600) then
    (bif kbk m && decide (n = 0) then req (kbk n.toNat && true && Nat.ble n.toNat 9223372036854775807) (bif !(eqR n.toNat (sgF n.toNat (dsE m f n.toNat)) 0 (fun _ => [])) then dsF else dsK m f n q)
     else req (okN m && (decide (0 < n) && decide (n ≤ 65536))) (req (kbk n.toNat && kbk n.toNat && Nat.ble n.toNat 9223372036854775807) (bif !(eqR n.toNat (sgF n.toNat (dsE m f n.toNat)) n.toNat (sgF n.toNat (rsF m (sgF m f) n.toNat))) then dsF else dsK m f n q)))
    else dsK m f n q
noncomputable def dsA (m : Nat) (f : Nat → List Value) (n q : Int) : Option Value :=
  bif kbk m && (decide (n < 0) || decide (n > 65536)) then (bif decide (n < 0) then dsT else bif decide (n > 65536) then dsT else dsF) else
    req (okN m) (bif decide (n < 0) then dsF else bif decide (n > 65536) then dsF else dsR m f n q)
theorem ds_ev (m : Nat) (f : Nat → List Value) (n q : Int) (es : Nat → Nat) : fnA dsC 60 Tryd.f5 (bodyOf Tryd.f5) (cArgs [.sl kB m f, .pl (.int .i64 n), .pl (.int .i64 q)] 0) (cMem es [.sl kB m f, .pl (.int .i64 n), .pl (.int .i64 q)] 0) 0 =
    bif decide ((m : Int) > 2000) then dsT else bif decide (q < 0) then dsT else bif decide (q > 500) then dsT else dsA m f n q := by kernel_rfl

theorem dsH_true {k n : Nat} (h : k ≤ n) : dsH k n = true := by
  unfold dsH
  rw [Nat.sub_zero, Nat.sub_zero, ble_of (show 0 + k ≤ n by omega), ble_of (Nat.le_refl k), ble_of h]; rfl
theorem dsK_eq (m : Nat) (f : Nat → List Value) (hm : m ≤ 2000) {N Q : Nat} (hN : N ≤ 65536) (hQ : Q ≤ 500) : dsK m f (N : Int) (Q : Int) = dsT := by
  unfold dsK
  have hM : dsM (N : Int) (Q : Int) = ((min N Q : Nat) : Int) := by
    unfold dsM
    split <;> omega
  have hE : eqR (min N Q - 0) (segF ⟨0, 0, min N Q - 0, kB, N, dsE m f N, 0, false, []⟩) (min N Q - 0) (segF ⟨0, 0, min N Q - 0, kB, Q, dsE m f Q, 0, false, []⟩) = true := by
    refine eqR_iff.2 ⟨rfl, fun j hj => ?_⟩
    show bI (dsE m f N) (0 + j) = bI (dsE m f Q) (0 + j)
    unfold dsE
    rw [Nat.zero_add, smF_get _ (by omega), smF_get _ (by omega)]
  rw [hM, Int.toNat_natCast, Int.toNat_natCast, Int.toNat_natCast, hE, kbk_true, decide_eq_false (by omega), decide_eq_false (by omega), show (true && (false || false)) = false from rfl, cond_false, okN_true (by omega), req_true rfl]
  have hs : ∀ n : Nat, min N Q ≤ n → dsS ((min N Q : Nat) : Int) n = true := fun n h => by
    unfold dsS
    rw [decide_eq_true (by omega), decide_eq_true (by omega)]; rfl
  rw [hs N (by omega), req_true rfl, ble_of (by omega : min N Q ≤ N), req_true rfl, hs Q (by omega), req_true rfl, ble_of (by omega : min N Q ≤ Q), req_true rfl, dsH_true (by omega), dsH_true (by omega), ble_of (by omega : min N Q - 0 ≤ 9223372036854775807), req_true (b := true && true && true) rfl, cond_true]
theorem ds_calls {m : Nat} {f : Nat → List Value} {n q : Int} {v : Value} {W : World} (hg : GOk (lay Tryd.prog) W) (hv : SrcW W kB m f v) :
    Calls Tryd.prog 5 #[v, .int .i64 n, .int .i64 q] W fun e W' => e = .returned (.bool true) ∧ Below W.heap.size W W' :=
  law_sound (c := bodyOf Tryd.f5) (fuel := 60) (next := 0) (A := [.sl kB m f, .pl (.int .i64 n), .pl (.int .i64 q)]) (args' := [v, .int .i64 n, .int .i64 q]) Tryd.func5 (by kernel_rfl) ⟨hv, rfl, rfl, rfl, rfl, trivial⟩ hg
    (by show 3 ≤ Tryd.f5.ntmps; decide +kernel) rfl nofun
    fun es => ⟨dsC, dsOk, rfl, (ds_ev m f n q es).trans (by
      by_cases hm : (m : Int) > 2000
      · rw [decide_eq_true hm, cond_true]; rfl
      rw [decide_eq_false hm, cond_false]
      by_cases hq0 : q < 0
      · rw [decide_eq_true hq0, cond_true]; rfl
      rw [decide_eq_false hq0, cond_false]
      by_cases hq1 : q > 500
      · rw [decide_eq_true hq1, cond_true]; rfl
      rw [decide_eq_false hq1, cond_false]
      obtain ⟨Q, rfl⟩ : ∃ Q : Nat, q = (Q : Int) := ⟨q.toNat, by omega⟩
      unfold dsA
      by_cases hn0 : n < 0
      · rw [kbk_true, decide_eq_true hn0]; rfl
      by_cases hn1 : n > 65536
      · rw [kbk_true, decide_eq_false hn0, decide_eq_true hn1]; rfl
      obtain ⟨N, rfl⟩ : ∃ N : Nat, n = (N : Int) := ⟨n.toNat, by omega⟩
      rw [kbk_true, decide_eq_false hn0, decide_eq_false hn1, show (true && (false || false)) = false from rfl, cond_false, okN_true (by omega), req_true rfl, cond_false, cond_false]
      unfold dsR
      have hK := dsK_eq m f (show m ≤ 2000 by omega) (N := N) (Q := Q) (by omega) (by omega)
      rw [hK, Int.toNat_natCast, bne_self_eq_false, cond_false, kbk_true, kbk_true, okN_true (by omega), ble_of (by omega : N ≤ 9223372036854775807)]
      by_cases h6 : (N : Int) ≤ 600
      · rw [decide_eq_true h6, cond_true]
        by_cases hz : (N : Int) = 0
        · have hz' : N = 0 := by omega
          subst hz'
          rw [decide_eq_true hz, show (true && true) = true from rfl, cond_true, req_true (b := true && true) rfl, eqR_iff.2 ⟨rfl, fun j hj => absurd hj (by omega)⟩]
          rfl
        · have hE : eqR N (sgF N (dsE m f N)) N (sgF N (rsF m (sgF m f) N)) = true := by
            refine eqR_iff.2 ⟨rfl, fun j hj => ?_⟩
            unfold dsE
            rw [bI_sg, bI_sg, smF_get _ hj, rsF_get _ _ hj]
          rw [decide_eq_false hz, show (true && false) = false from rfl, cond_false, decide_eq_true (by omega), decide_eq_true (by omega), req_true (b := true && (true && true)) rfl, req_true (b := true && true && true) rfl, hE]
          rfl
      · rw [decide_eq_false h6, cond_false]; rfl)⟩

end Go.Proofs.YteenpdjanlcipaaDoor
