/-
  ShaExact.
-/
import Derived.Test.YtaimnbmhlognmaaDoorSh
import Derived.Test.YtaimnbmhlognmaaDoorSd
namespace Go.Proofs.YtaimnbmhlognmaaDoor
set_option maxRecDepth 100000
open Go.W
open Go.RowKit (Below)

noncomputable def exSum : Sums := [(10, SuF), (11, SuF), (12, MaF), (13, DmF), (14, KbF), (9, TwnF 5), (15, WkF)]
theorem exSum_ok : SumsOk Tryd.prog exSum := sums_consM su_msum (sums_consM d_msum (sums_consM ma_msum (sums_consM dm_msum (sums_consM kb_msum (sums_consM twn_msum (sums_cons wk_sum sums_nil))))))
noncomputable def exC : Cfg := ⟨tab, exSum, 54, []⟩
theorem exOk : CfgOk Tryd.prog exC (bodyOf Tryd.f3) := ⟨mixed, tabOk, exSum_ok, noL⟩
noncomputable def exT (n : Nat) (f : Nat → List Value) (m : Nat) (g : Nat → List Value) : Option Value :=
  bif decide ((n : Int) > 3000) then some (.bool true) else bif decide ((m : Int) > 3000) then some (.bool true) else
  req (kbk n && szOk n 1) (req (kbk m && szOk m 1) (req (okN m) (req (okN m) (req (okN n && okN m) (req (okN n && (kbk m && Nat.ble m 900000))
    (bif eqR 32 (lstF (tdL (shN m (bN (sgF m (twF (sgF m g)))))) 0 1) 32 (lstF (tdL (shN m (bN (sgF m g)))) 0 1) then
      (bif eqR 32 (lstF (tdL (mcN (whF n (sgF n (twF (sgF n f)))) m (bN (sgF m (twF (sgF m g)))))) 0 1) 32 (lstF (tdL (mcN (whF n (sgF n f)) m (bN (sgF m g)))) 0 1) then
        req (kbk n && kbk n && Nat.ble n 9223372036854775807) (bif eqR n (sgF n (twF (sgF n f))) n (sgF n f) then
          req (kbk m && kbk m && Nat.ble m 9223372036854775807) (bif eqR m (sgF m (twF (sgF m g))) m (sgF m g) then some (.bool true) else some (.bool false)) else some (.bool false)) else some (.bool false)) else some (.bool false)))))))
theorem ex_ev (n : Nat) (f : Nat → List Value) (m : Nat) (g : Nat → List Value) (es : Nat → Nat) : fnA exC 60 Tryd.f3 (bodyOf Tryd.f3) (cArgs [.sl kB n f, .sl kB m g] 0) (cMem es [.sl kB n f, .sl kB m g] 0) 0 = exT n f m g := by kernel_rfl
theorem exT_eq (n : Nat) (f : Nat → List Value) (m : Nat) (g : Nat → List Value) : exT n f m g = some (.bool true) := by
  unfold exT
  by_cases h1 : (n : Int) > 3000
  · rw [decide_eq_true h1, cond_true]
  rw [decide_eq_false h1, cond_false]
  by_cases h2 : (m : Int) > 3000
  · rw [decide_eq_true h2, cond_true]
  have tw : ∀ (k : Nat) (q : Nat → List Value) (j : Nat), bI (sgF k (twF (sgF k q))) j = bI (sgF k q) j := fun k q j => by rw [bI_sg, bI_tw]
  have e1 : shN m (bN (sgF m (twF (sgF m g)))) = shN m (bN (sgF m g)) := shN_congr fun j _ => bN_congr (tw m g j)
  have e2 : mcN (whF n (sgF n (twF (sgF n f)))) m (bN (sgF m (twF (sgF m g)))) = mcN (whF n (sgF n f)) m (bN (sgF m g)) :=
    mcN_congr (fun j _ => whF_congr (fun j _ => tw n f j) j) (fun j _ => bN_congr (tw m g j))
  have e3 : ∀ (k : Nat) (q : Nat → List Value), eqR k (sgF k (twF (sgF k q))) k (sgF k q) = true := fun k q => eqR_iff.2 ⟨rfl, fun j _ => tw k q j⟩
  rw [decide_eq_false h2, cond_false, kbk_true, kbk_true, szOk_small (by omega), szOk_small (by omega), req_true (b := true && true) rfl, req_true (b := true && true) rfl, okN_true (by omega), okN_true (by omega), req_true rfl, req_true rfl, req_true (b := true && true) rfl, ble_of (by omega), req_true (by rfl),
    eqR_td e1, cond_true, eqR_td e2, cond_true, ble_of (by omega), req_true (by rfl), e3, cond_true, ble_of (by omega), req_true (by rfl), e3, cond_true]
theorem ex_calls {n : Nat} {f : Nat → List Value} {m : Nat} {g : Nat → List Value} {v u : Value} {W : World} (hg : GOk (lay Tryd.prog) W) (hv : SrcW W kB n f v) (hu : SrcW W kB m g u) :
    Calls Tryd.prog 3 #[v, u] W fun e W' => e = .returned (.bool true) ∧ Below W.heap.size W W' :=
  law_sound (c := bodyOf Tryd.f3) (fuel := 60) (next := 0) (A := [.sl kB n f, .sl kB m g]) (args' := [v, u]) Tryd.func3 (by kernel_rfl) ⟨hv, hu, trivial⟩ hg
    (by show 2 ≤ Tryd.f3.ntmps; decide +kernel) rfl nofun
    fun es => ⟨exC, exOk, rfl, (ex_ev n f m g es).trans (exT_eq n f m g)⟩

end Go.Proofs.YtaimnbmhlognmaaDoor
