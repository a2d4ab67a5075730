/-
  DrawPoints.
-/
import Derived.Test.YteenpdjanlcipaaDoorSg
namespace Go.Proofs.YteenpdjanlcipaaDoor
set_option maxRecDepth 100000
open Go.W
open Go.RowKit (Below)

noncomputable def dqG : Sums := [(9, HvF), (17, DpF), (18, DpF), (19, KpF), (20, CChkF), (14, WkF)]
theorem dqG_ok : SumsOk Tryd.prog dqG := sums_consM hv_msum (sums_consM dp_msum (sums_consM rp_msum (sums_cons kp_sum (sums_cons cchk_sum (sums_cons wk5_sum sums_nil)))))
noncomputable def dqC : Cfg := ⟨tab, dqG, 65, []⟩
theorem dqOk : CfgOk Tryd.prog dqC (bodyOf Tryd.f4) := ⟨mixed, tabOk, dqG_ok, noL⟩
noncomputable def dqT (P : RP × Int × Int) : Option Value :=
  bif P.2.2 != P.2.2 then some (.bool false) else bif P.2.1 != P.2.1 then some (.bool false) else req (isPt (ptV P.1) && isPt (ptV P.1)) (bif !(decide (unPt (ptV P.1) = unPt (ptV P.1))) then some (.bool false) else
    bif P.2.2 != 0 then some (.bool true) else req (isPt (ptV P.1)) (bif errP (ckR (unPt (ptV P.1))) == 0 then (bif !P.1.1 then (bif ((dig P.1.2.2 0 : Nat) : Int).tmod 2 == 0 then some (.bool true) else some (.bool false)) else some (.bool false)) else some (.bool false)))
theorem dq_ev (s : ByteArray) (m : Nat) (f : Nat → List Value) (es : Nat → Nat) : fnA dqC 60 Tryd.f4 (bodyOf Tryd.f4) (cArgs [.pl (.string s), .sl kB m f] 0) (cMem es [.pl (.string s), .sl kB m f] 0) 0 =
    req ((kbk m && true) && true) (bif hvB s 1 (oneG m (sgF m f)) then some (.bool true) else req (kbk m && Nat.ble s.size 1000000) (req (kbk m && Nat.ble s.size 1000000) (dqT (ptS s m (sgF m f))))) := by kernel_rfl
theorem dq_calls {s : ByteArray} {m : Nat} {f : Nat → List Value} {v : Value} {W : World} (hg : GOk (lay Tryd.prog) W) (hv : SrcW W kB m f v) :
    Calls Tryd.prog 4 #[.string s, v] W fun e W' => e = .returned (.bool true) ∧ Below W.heap.size W W' :=
  law_sound (c := bodyOf Tryd.f4) (fuel := 60) (next := 0) (A := [.pl (.string s), .sl kB m f]) (args' := [.string s, v]) Tryd.func4 (by kernel_rfl) ⟨rfl, rfl, hv, trivial⟩ hg
    (by show 2 ≤ Tryd.f4.ntmps; decide +kernel) rfl nofun
    fun es => ⟨dqC, dqOk, rfl, (dq_ev s m f es).trans (by
      rw [kbk_true, req_true (b := (true && true) && true) rfl]
      cases hb : hvB s 1 (oneG m (sgF m f)) with
      | true => rfl
      | false =>
        obtain ⟨h1, h2, h3⟩ := hvB_iff.1 hb
        have hl := hv_len (n := 1) h1 h3
        have hP : ptS s m (sgF m f) = fpS (jl s (oneG m (sgF m f)) 1) (jF s (oneG m (sgF m f)) 1) := by
          unfold ptS
          rw [hide_eq, if_pos (by omega)]
        rw [cond_false, ble_of (show s.size ≤ 1000000 by omega), req_true (b := true && true) rfl, req_true (b := true && true) rfl, hP]
        cases hf : fstC (fun c => (trN (jl s (oneG m (sgF m f)) 1) (jF s (oneG m (sgF m f)) 1) c).2 == 0) 256 with
        | none =>
          have hP2 : fpS (jl s (oneG m (sgF m f)) 1) (jF s (oneG m (sgF m f)) 1) = (zR, 0, 5) := by unfold fpS; rw [hide_eq, hf]
          rw [hP2]
          unfold dqT
          rw [isPt_ptV, decide_eq_true rfl]
          rfl
        | some c =>
          obtain ⟨k1, k2, k3⟩ := fstC_some hf
          have k2 : (trN (jl s (oneG m (sgF m f)) 1) (jF s (oneG m (sgF m f)) 1) c).2 = 0 := by simpa using k2
          obtain ⟨c', X, _, g2, g3, g4⟩ := fpS_ok k1 k2
          obtain ⟨j1, j2, _⟩ := root_pt g2 g3
          rw [g4]
          unfold dqT
          simp only
          rw [isPt_ptV, unPt_ptV (pt_good g2), j1, dig_par, j2, bne_self_eq_false, bne_self_eq_false, decide_true]
          rfl)⟩

end Go.Proofs.YteenpdjanlcipaaDoor
