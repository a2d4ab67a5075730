/-
  DrawTries.
-/
import Derived.Test.YteenpdjanlcipaaDoorSd
import Derived.Test.YteenpdjanlcipaaDoorSg
namespace Go.Proofs.YteenpdjanlcipaaDoor
set_option maxRecDepth 100000
open Go.W
open Go.RowKit (Below)

noncomputable def dtG : Sums := [(9, HvF), (17, DpF), (25, LjF 5), (24, SuF), (26, RdF), (19, KpF), (14, WkF)]
theorem dtG_ok : SumsOk Tryd.prog dtG := sums_consM hv_msum (sums_consM dp_msum (sums_consM lj_msum (sums_consM su_msum (sums_consM crd_msum (sums_cons kp_sum (sums_cons wk5_sum sums_nil))))))
noncomputable def dtC0 : Cfg := ⟨tab, dtG, 82, []⟩
theorem dtOk0 : CfgOk Tryd.prog dtC0 (bodyOf Tryd.f7) := ⟨mixed, tabOk, dtG_ok, noL⟩
theorem dt_at : codeAt [1, 1, 1, 1, 0, 1, 0] (bodyOf Tryd.f7) = some (.loop (loopAt [1, 1, 1, 1, 0, 1, 0] (bodyOf Tryd.f7))) := by kernel_rfl
def dtNt : List Nat := [0, 1, 4, 5, 6, 8]
def dtNi : List Nat := [12, 1500001]
def dtSt (s : ByteArray) (m : Nat) (f : Nat → List Value) (e1 : Nat) (r : RP) (n c : Int) : St :=
  ⟨[(0, .string s), (1, aSl 1 m), (4, .bool false), (5, ptr 12), (6, i64 n), (8, i64 c)], [(12, ⟨.lst (ptL r), 39, true⟩), (1500001, ⟨.row kB m f, e1, false⟩)], 19⟩
def dtK (m : Nat) : Bool := (kbk m && true) && true
noncomputable def dtX (L : Nat) (J : Nat → List Value) (c : Nat) : S8 := shN (L + 4) (bN (sgF (L + 4) (appF L J (lstF (c4L ((c : Nat) : Int)) 0 1))))
noncomputable def dtT {α : Type} (R : RP × Int) (p : RP) (c n : Int) (ret nor : Option α) : Option α :=
  bif !((R.2 == 0) == (c == IntKind.i64.wrap (n - 1))) then ret else bif c == IntKind.i64.wrap (n - 1) then req (isPt (ptV p) && isPt (ptV R.1)) (bif !(decide (unPt (ptV p) = unPt (ptV R.1))) then ret else nor) else nor
noncomputable def dtA {α : Type} (kb : Bool) (L : Nat) (J : Nat → List Value) (c : Nat) (k : Option α) : Option α :=
  req (kb && Nat.ble L 1000000) (req (szOk (L + 4) 1) (req (Nat.beq L L && true && true) (req (okN (L + 4)) (req (rdOk 33 (sgF 33 (pbF (.int .u8 2) (tdL (dtX L J c))))) k))))
theorem dt_r (s : ByteArray) (m : Nat) (f : Nat → List Value) (e1 : Nat) (r : RP) (n : Int) (c : Nat) : roundS dtC0 60 [1, 1, 1, 1, 0, 1, 0, 0] (loopAt [1, 1, 1, 1, 0, 1, 0] (bodyOf Tryd.f7)) dtNt dtNi 19 dtNt dtNi 19 (dtSt s m f e1 r n (c : Int)) =
    bif decide ((c : Int) < n) then dtA (dtK m) (jl s (oneG m (sgF m f)) 1) (lF s (oneG m (sgF m f)) 1) c (dtT (fpR (dtX (jl s (oneG m (sgF m f)) 1) (lF s (oneG m (sgF m f)) 1) c)) r (c : Int) n (some (.ret, dtSt s m f e1 r n (c : Int))) (some (.normal, dtSt s m f e1 r n (IntKind.i64.wrap ((c : Int) + 1)))))
    else some (.exit 0, dtSt s m f e1 r n (c : Int)) := by kernel_rfl

theorem dtX_eq {L : Nat} {J J2 : Nat → List Value} (h : ∀ j, bI J j = bI J2 j) {c : Nat} (hc : c < 65536) : dtX L J c = smC L J2 c := by
  unfold dtX smC
  refine shN_congr fun j hj => bN_congr ?_
  rw [bI_sg, bI_app, bI_app]
  by_cases hj2 : j < L
  · rw [if_pos hj2, if_pos hj2, h j]
  · rw [if_neg hj2, if_neg hj2, bI_sg, bI_c4 hc _ (by omega)]
theorem dtA_eq {α : Type} {L : Nat} (hL : L ≤ 65536) (J : Nat → List Value) (c : Nat) (k : Option α) : dtA true L J c k = k := by
  unfold dtA
  rw [ble_of (show L ≤ 1000000 by omega), req_true (b := true && true) rfl, szOk_small (by omega), req_true rfl, Nat.beq_refl, req_true (b := true && true && true) rfl, okN_true (by omega), req_true rfl, fp_rdOk, req_true rfl]
theorem dt_step (s : ByteArray) (m : Nat) (f : Nat → List Value) (e1 : Nat) (hL : jl s (oneG m (sgF m f)) 1 ≤ 65536) {c0 : Nat} (hc0 : c0 < 256) (h0 : (trN (jl s (oneG m (sgF m f)) 1) (jF s (oneG m (sgF m f)) 1) c0).2 = 0)
    (hlo : ∀ j, j < c0 → ((trN (jl s (oneG m (sgF m f)) 1) (jF s (oneG m (sgF m f)) 1) j).2 == 0) = false) {c : Nat} (hc : c < c0 + 1) :
    roundS dtC0 60 [1, 1, 1, 1, 0, 1, 0, 0] (loopAt [1, 1, 1, 1, 0, 1, 0] (bodyOf Tryd.f7)) dtNt dtNi 19 dtNt dtNi 19 (dtSt s m f e1 (trN (jl s (oneG m (sgF m f)) 1) (jF s (oneG m (sgF m f)) 1) c0).1 ((c0 + 1 : Nat) : Int) (c : Int)) =
      some (.normal, dtSt s m f e1 (trN (jl s (oneG m (sgF m f)) 1) (jF s (oneG m (sgF m f)) 1) c0).1 ((c0 + 1 : Nat) : Int) ((c + 1 : Nat) : Int)) := by
  refine (dt_r s m f e1 _ _ c).trans ?_
  have hK : dtK m = true := by unfold dtK; rw [kbk_true]; rfl
  have hR : fpR (dtX (jl s (oneG m (sgF m f)) 1) (lF s (oneG m (sgF m f)) 1) c) = trN (jl s (oneG m (sgF m f)) 1) (jF s (oneG m (sgF m f)) 1) c := by
    rw [fpR_eq, dtX_eq (fun j => lF_eq s _ 1 j) (by omega)]; rfl
  rw [decide_eq_true (by omega), cond_true, hK, dtA_eq hL, hR]
  generalize jl s (oneG m (sgF m f)) 1 = L at *
  generalize jF s (oneG m (sgF m f)) 1 = J at *
  unfold dtT
  rw [wrap_i64 (by omega), wrap_i64 (by omega)]
  by_cases hcc : c = c0
  · subst hcc
    rw [h0, show (((c : Int) == ((c + 1 : Nat) : Int) - 1) : Bool) = true from by rw [beq_iff_eq]; omega, isPt_ptV, decide_eq_true rfl]
    rfl
  · rw [hlo c (by omega), show (((c : Int) == ((c0 + 1 : Nat) : Int) - 1) : Bool) = false from by rw [beq_eq_false_iff_ne]; omega]
    rfl
theorem dt_loop (s : ByteArray) (m : Nat) (f : Nat → List Value) (e1 : Nat) (hL : jl s (oneG m (sgF m f)) 1 ≤ 65536) {c0 : Nat} (hc0 : c0 < 256) (h0 : (trN (jl s (oneG m (sgF m f)) 1) (jF s (oneG m (sgF m f)) 1) c0).2 = 0)
    (hlo : ∀ j, j < c0 → ((trN (jl s (oneG m (sgF m f)) 1) (jF s (oneG m (sgF m f)) 1) j).2 == 0) = false) :
    LoopOk Tryd.prog 82 (loopAt [1, 1, 1, 1, 0, 1, 0] (bodyOf Tryd.f7)) (atSt dtNt dtNi 19 (dtSt s m f e1 (trN (jl s (oneG m (sgF m f)) 1) (jF s (oneG m (sgF m f)) 1) c0).1 ((c0 + 1 : Nat) : Int) 0) (.exit 0) (dtSt s m f e1 (trN (jl s (oneG m (sgF m f)) 1) (jF s (oneG m (sgF m f)) 1) c0).1 ((c0 + 1 : Nat) : Int) ((c0 + 1 : Nat) : Int))) := by
  refine atSt_ok fun w0 R a W hrel => ?_
  refine loop_rounds (R := R) (C := dtC0) dtOk0 dt_at (m := 60) (nt := dtNt) (ni := dtNi) (et := dtNt) (ei := dtNi) (nx := 19) (ex := 19) (e := .exit 0) (sf := dtSt s m f e1 (trN (jl s (oneG m (sgF m f)) 1) (jF s (oneG m (sgF m f)) 1) c0).1 ((c0 + 1 : Nat) : Int) ((c0 + 1 : Nat) : Int))
    (fun j => dtSt s m f e1 (trN (jl s (oneG m (sgF m f)) 1) (jF s (oneG m (sgF m f)) 1) c0).1 ((c0 + 1 : Nat) : Int) (j : Int)) (c0 + 1) (by intro h; cases h) (fun j hj => dt_step s m f e1 hL hc0 h0 hlo hj) ?_ hrel
  refine (dt_r s m f e1 _ _ (c0 + 1)).trans ?_
  rw [decide_eq_false (by omega), cond_false]
noncomputable def dtC (s : ByteArray) (m : Nat) (f : Nat → List Value) (e1 : Nat) (r : RP) (n : Int) : Cfg := ⟨tab, dtG, 82, [([1, 1, 1, 1, 0, 1, 0], atSt dtNt dtNi 19 (dtSt s m f e1 r n 0) (.exit 0) (dtSt s m f e1 r n n))]⟩
noncomputable def dtE (s : ByteArray) (m : Nat) (f : Nat → List Value) (P : RP × Int × Int) (k : Option Value) : Option Value :=
  req (dtK m) (bif hvB s 1 (oneG m (sgF m f)) then some (.bool true) else req (kbk m && Nat.ble s.size 1000000) (bif P.2.2 != 0 then (bif P.2.2 == 5 then some (.bool true) else some (.bool false)) else k))
theorem dt_ev (s : ByteArray) (m : Nat) (f : Nat → List Value) (r : RP) (n : Int) (es : Nat → Nat) : fnA (dtC s m f (es 1) r n) 60 Tryd.f7 (bodyOf Tryd.f7) (cArgs [.pl (.string s), .sl kB m f] 0) (cMem es [.pl (.string s), .sl kB m f] 0) 0 =
    dtE s m f (ptS s m (sgF m f)) (req (stEq (dtSt s m f (es 1) (ptS s m (sgF m f)).1 (ptS s m (sgF m f)).2.1 0) (dtSt s m f (es 1) r n 0)) (bif decide (n ≥ 1) then (bif decide (n ≤ 256) then some (.bool true) else some (.bool false)) else some (.bool false))) := by kernel_rfl
theorem dt_evN (s : ByteArray) (m : Nat) (f : Nat → List Value) (es : Nat → Nat) : fnA ⟨tab, dtG, 82, [([1, 1, 1, 1, 0, 1, 0], fun _ => [])]⟩ 60 Tryd.f7 (bodyOf Tryd.f7) (cArgs [.pl (.string s), .sl kB m f] 0) (cMem es [.pl (.string s), .sl kB m f] 0) 0 =
    dtE s m f (ptS s m (sgF m f)) none := by kernel_rfl
theorem dt_calls {s : ByteArray} {m : Nat} {f : Nat → List Value} {v : Value} {W : World} (hg : GOk (lay Tryd.prog) W) (hv : SrcW W kB m f v) :
    Calls Tryd.prog 7 #[.string s, v] W fun e W' => e = .returned (.bool true) ∧ Below W.heap.size W W' :=
  law_sound (c := bodyOf Tryd.f7) (fuel := 60) (next := 0) (A := [.pl (.string s), .sl kB m f]) (args' := [.string s, v]) Tryd.func7 (by kernel_rfl) ⟨rfl, rfl, hv, trivial⟩ hg
    (by show 2 ≤ Tryd.f7.ntmps; decide +kernel) rfl nofun
    fun es => by
      have hK : dtK m = true := by unfold dtK; rw [kbk_true]; rfl
      cases hb : hvB s 1 (oneG m (sgF m f)) with
      | true =>
        refine ⟨⟨tab, dtG, 82, [([1, 1, 1, 1, 0, 1, 0], fun _ => [])]⟩, ⟨mixed, tabOk, dtG_ok, noneL2⟩, rfl, (dt_evN s m f es).trans ?_⟩
        unfold dtE
        rw [hK, req_true rfl, hb, cond_true]
      | false =>
        obtain ⟨h1, h2, h3⟩ := hvB_iff.1 hb
        have hl := hv_len (n := 1) h1 h3
        have hP : ptS s m (sgF m f) = fpS (jl s (oneG m (sgF m f)) 1) (jF s (oneG m (sgF m f)) 1) := by
          unfold ptS
          rw [hide_eq, if_pos (by omega)]
        cases hf : fstC (fun c => (trN (jl s (oneG m (sgF m f)) 1) (jF s (oneG m (sgF m f)) 1) c).2 == 0) 256 with
        | none =>
          have hP2 : ptS s m (sgF m f) = (zR, 0, 5) := by rw [hP]; unfold fpS; rw [hide_eq, hf]
          refine ⟨⟨tab, dtG, 82, [([1, 1, 1, 1, 0, 1, 0], fun _ => [])]⟩, ⟨mixed, tabOk, dtG_ok, noneL2⟩, rfl, (dt_evN s m f es).trans ?_⟩
          unfold dtE
          rw [hK, req_true rfl, hb, cond_false, kbk_true, ble_of (show s.size ≤ 1000000 by omega), req_true (b := true && true) rfl, hP2]
          rfl
        | some c =>
          obtain ⟨k1, k2, k3⟩ := fstC_some hf
          have k2 : (trN (jl s (oneG m (sgF m f)) 1) (jF s (oneG m (sgF m f)) 1) c).2 = 0 := by simpa using k2
          have hP2 : ptS s m (sgF m f) = ((trN (jl s (oneG m (sgF m f)) 1) (jF s (oneG m (sgF m f)) 1) c).1, ((c + 1 : Nat) : Int), 0) := by rw [hP]; unfold fpS; rw [hide_eq, hf]
          refine ⟨dtC s m f (es 1) (trN (jl s (oneG m (sgF m f)) 1) (jF s (oneG m (sgF m f)) 1) c).1 ((c + 1 : Nat) : Int), ⟨mixed, tabOk, dtG_ok, oneL (dt_loop s m f (es 1) (by omega) k1 k2 k3)⟩, rfl, (dt_ev s m f _ _ es).trans ?_⟩
          unfold dtE
          rw [hK, req_true rfl, hb, cond_false, kbk_true, ble_of (show s.size ≤ 1000000 by omega), req_true (b := true && true) rfl, hP2]
          simp only
          rw [req_true (stEq_refl (by kernel_rfl)), decide_eq_true (by omega), decide_eq_true (by omega)]
          rfl

end Go.Proofs.YteenpdjanlcipaaDoor
