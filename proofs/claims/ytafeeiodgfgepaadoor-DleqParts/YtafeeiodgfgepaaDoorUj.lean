/-
  DleqParts.
-/
import Derived.Test.YtafeeiodgfgepaaDoorSu
import Derived.Test.YtafeeiodgfgepaaDoorEj
namespace Go.Proofs.YtafeeiodgfgepaaDoor
set_option maxRecDepth 100000
open Go.W
open Go.RowKit (Below)

noncomputable def dpaS : Sums := [(5, CBasF), (6, CTimF), (7, PrvF), (12, CPbF 5), (13, ScF), (14, CTwoF), (16, NmuF), (15, NsuF), (17, KpF), (11, WkF)]
theorem dpaS_ok : SumsOk Tryd.prog dpaS := sums_cons cBa_sum (sums_cons cTi_sum (sums_cons prv_sum (sums_consM (MSum_sub cby_msum (CPbF_sub _)) (sums_consM sc_msum (sums_cons cTw_sum (sums_cons (Sum_sub FMul_sum NmuF_sub) (sums_cons (Sum_sub FSub_sum NsuF_sub) (sums_cons kp_sum (sums_cons wk9_sum sums_nil)))))))))
noncomputable def dpaC : Cfg := ⟨tab, dpaS, 147, []⟩
theorem dpaOk : CfgOk Tryd.prog dpaC (bodyOf Tryd.f4) := ⟨mixed, tabOk, dpaS_ok, noL⟩
theorem dpa_ev (S N B : Nat) : fnS dpaC 60 Tryd.f4 (bodyOf Tryd.f4) [num S, num N, num B] = DPaT (num S) (num N) (num B) := by kernel_rfl
theorem dpa_calls {S N B : Nat} (hS : lt6 S) (hN : lt6 N) (hB : lt6 B) {W : World} (hg : GOk (lay Tryd.prog) W) : Calls Tryd.prog 4 #[num S, num N, num B] W fun e W' => e = .returned (.bool true) ∧ Below W.heap.size W W' :=
  fn_sound dpaOk Tryd.func4 (by kernel_rfl) rfl (args := [num S, num N, num B]) (fuel := 60) (by show 3 ≤ Tryd.f4.ntmps; decide +kernel) (by kernel_rfl) ((dpa_ev S N B).trans (DPaT_eq hS hN hB)) rfl W hg
end Go.Proofs.YtafeeiodgfgepaaDoor
