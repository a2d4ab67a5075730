/-
  DleqProves, DleqHolds.
-/
import Derived.Test.YtafeeiodgfgepaaGreatDoorSu
namespace Go.Proofs.YtafeeiodgfgepaaGreatDoor
set_option maxRecDepth 100000
open Go.W
open Go.RowKit (Below)

noncomputable def dprS : Sums := [(5, PrvF), (6, CkF), (7, KprF), (9, RprF), (8, WkF)]
theorem dprS_ok : SumsOk Tryz.prog dprS := sums_cons prv_sum (sums_cons ck_sum (sums_cons kpr_sum (sums_cons rpr_sum (sums_cons wk9_sum sums_nil))))
noncomputable def dprC : Cfg := ⟨tab, dprS, 42, []⟩
theorem dprOk : CfgOk Tryz.prog dprC (bodyOf Tryz.f3) := ⟨mixed, tabOk, dprS_ok, noL⟩
theorem dpr_ev (S N : Nat) (b : RP) : fnS dprC 60 Tryz.f3 (bodyOf Tryz.f3) [num S, num N, ptV b] = DPrT (num S) (num N) (ptV b) := by kernel_rfl
theorem dpr_calls {S N : Nat} {b : RP} (hS : lt6 S) (hN : lt6 N) (hb : okR b) {W : World} (hg : GOk (lay Tryz.prog) W) : Calls Tryz.prog 3 #[num S, num N, ptV b] W fun e W' => e = .returned (.bool true) ∧ Below W.heap.size W W' :=
  fn_sound dprOk Tryz.func3 (by kernel_rfl) rfl (args := [num S, num N, ptV b]) (fuel := 60) (by show 3 ≤ Tryz.f3.ntmps; decide +kernel) (by kernel_rfl) ((dpr_ev S N b).trans (DPrT_eq hS hN hb)) rfl W hg
noncomputable def dhoS : Sums := [(10, HldF), (6, CkF), (11, RhlF), (8, WkF)]
theorem dhoS_ok : SumsOk Tryz.prog dhoS := sums_cons hld_sum (sums_cons ck_sum (sums_cons rhl_sum (sums_cons wk9_sum sums_nil)))
noncomputable def dhoC : Cfg := ⟨tab, dhoS, 55, []⟩
theorem dhoOk : CfgOk Tryz.prog dhoC (bodyOf Tryz.f4) := ⟨mixed, tabOk, dhoS_ok, noL⟩
theorem dho_ev (a b k : RP) (c r : Nat) : fnS dhoC 60 Tryz.f4 (bodyOf Tryz.f4) [ptV a, ptV b, ptV k, prV c r] = DHoT (ptV a) (ptV b) (ptV k) c r := by kernel_rfl
theorem dho_calls {a b k : RP} {X : Nat × Nat} (ha : okR a) (hb : okR b) (hk : okR k) (hX : X.1 < 2 ^ 256 ∧ X.2 < 2 ^ 256) {W : World} (hg : GOk (lay Tryz.prog) W) : Calls Tryz.prog 4 #[ptV a, ptV b, ptV k, prV X.1 X.2] W fun e W' => e = .returned (.bool true) ∧ Below W.heap.size W W' :=
  fn_sound dhoOk Tryz.func4 (by kernel_rfl) rfl (args := [ptV a, ptV b, ptV k, prV X.1 X.2]) (fuel := 60) (by show 4 ≤ Tryz.f4.ntmps; decide +kernel) (by kernel_rfl) ((dho_ev a b k X.1 X.2).trans (DHoT_eq ha hb hk hX.1 hX.2)) rfl W hg
end Go.Proofs.YtafeeiodgfgepaaGreatDoor
