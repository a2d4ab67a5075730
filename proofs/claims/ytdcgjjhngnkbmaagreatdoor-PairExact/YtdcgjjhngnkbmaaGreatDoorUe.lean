/-
  PairExact.
-/
import Derived.Test.YtdcgjjhngnkbmaaGreatDoorSu
namespace Go.Proofs.YtdcgjjhngnkbmaaGreatDoor
set_option maxRecDepth 100000
open Go.W
open Go.RowKit (Below)

noncomputable def pexS : Sums := [(4, CTimF), (5, CkF), (6, KpF), (7, TimRF), (8, SelF), (9, OpnF), (11, SeaRF), (12, OpeRF), (10, WkF)]
theorem pexS_ok : SumsOk Tryz.prog pexS := sums_cons key_sum (sums_cons ck_sum (sums_cons kp_sum (sums_cons timR_sum (sums_cons sel_sum (sums_cons opn_sum (sums_cons sea_sum (sums_cons ope_sum (sums_cons wk8_sum sums_nil))))))))
noncomputable def pexC : Cfg := ⟨tab, pexS, 131, []⟩
theorem pexOk : CfgOk Tryz.prog pexC (bodyOf Tryz.f3) := ⟨mixed, tabOk, pexS_ok, noL⟩
theorem pex_ev (N : Nat) (p q : RP) (f t : Int) (S L : Nat) : fnS pexC 60 Tryz.f3 (bodyOf Tryz.f3) [num N, ptV p, ptV q, i64 f, i64 t, num S, bytesV L] = PExT (num N) (ptV p) (ptV q) f t (num S) (bytesV L) := by kernel_rfl
theorem pex_calls {N S L : Nat} {p q : RP} {f t : Int} (hN : lt6 N) (hp : okR p) (hq : okR q) (hS : lt6 S) (hL : lt6 L) {W : World} (hg : GOk (lay Tryz.prog) W) : Calls Tryz.prog 3 #[num N, ptV p, ptV q, i64 f, i64 t, num S, bytesV L] W fun e W' => e = .returned (.bool true) ∧ Below W.heap.size W W' :=
  fn_sound pexOk Tryz.func3 (by kernel_rfl) rfl (args := [num N, ptV p, ptV q, i64 f, i64 t, num S, bytesV L]) (fuel := 60) (by show 7 ≤ Tryz.f3.ntmps; decide +kernel) (by kernel_rfl) ((pex_ev N p q f t S L).trans (PExT_eq hN hp hq hS hL f t)) rfl W hg
end Go.Proofs.YtdcgjjhngnkbmaaGreatDoor
