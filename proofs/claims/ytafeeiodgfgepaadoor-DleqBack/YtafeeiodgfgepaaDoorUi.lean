/-
  DleqBack.
-/
import Derived.Test.YtafeeiodgfgepaaDoorSu
import Derived.Test.YtafeeiodgfgepaaDoorEj
namespace Go.Proofs.YtafeeiodgfgepaaDoor
set_option maxRecDepth 100000
open Go.W
open Go.RowKit (Below)

noncomputable def dbaS : Sums := [(5, CBasF), (6, CTimF), (7, PrvF), (8, HldF), (9, PrimeF), (10, AdhF), (11, WkF)]
theorem dbaS_ok : SumsOk Tryd.prog dbaS := sums_cons cBa_sum (sums_cons cTi_sum (sums_cons prv_sum (sums_cons hld_sum (sums_cons Prime_sum (sums_cons (Sum_sub AddR_sum AdhF_sub) (sums_cons wk9_sum sums_nil))))))
noncomputable def dbaC : Cfg := ⟨tab, dbaS, 111, []⟩
theorem dbaOk : CfgOk Tryd.prog dbaC (bodyOf Tryd.f3) := ⟨mixed, tabOk, dbaS_ok, noL⟩
theorem dba_ev (S N B : Nat) : fnS dbaC 60 Tryd.f3 (bodyOf Tryd.f3) [num S, num N, num B] = DBaT (num S) (num N) (num B) := by kernel_rfl
theorem dba_calls {S N B : Nat} (hS : lt6 S) (hN : lt6 N) (hB : lt6 B) {W : World} (hg : GOk (lay Tryd.prog) W) : Calls Tryd.prog 3 #[num S, num N, num B] W fun e W' => e = .returned (.bool true) ∧ Below W.heap.size W W' :=
  fn_sound dbaOk Tryd.func3 (by kernel_rfl) rfl (args := [num S, num N, num B]) (fuel := 60) (by show 3 ≤ Tryd.f3.ntmps; decide +kernel) (by kernel_rfl) ((dba_ev S N B).trans (DBaT_eq hS hN hB)) rfl W hg
end Go.Proofs.YtafeeiodgfgepaaDoor
