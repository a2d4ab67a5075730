/-
  FeldFits, FeldAt.
-/
import Derived.Test.YtbklbmiddacaiaaSq
namespace Go.Proofs.Ytbklbmiddacaiaa
set_option maxRecDepth 100000
open Go.W

noncomputable def lfS : Sums := [(21, CmkF 45), (10, EvF), (23, FtsF), (31, FAddF), (32, RedF), (28, Wk7F)]
theorem lfS_ok : SumsOk Try.prog lfS := sums_consM cmk_msum (sums_consM ev_msum (sums_consM ff_msum (sums_cons FAdd_sum (sums_cons Red_sum (sums_cons wk7_sum sums_nil)))))
noncomputable def lfC : Cfg := ⟨tab, lfS, 69, []⟩
noncomputable def lfT (n : Nat) (A : Nat → Nat) (x m : Nat) : Option Value :=
  bif decide ((n : Int) > 5) then some (.bool true) else cmq n (nmF A) fun L => evq n (nmF A) (num x) fun E => ftq n (ptF L) (num x) (num E) fun a f =>
  r2 (num x) (num 0) <| r2 (num E) (num m) <| ftq n (ptF L) (num (faddN 1 (unnum (num x)) (unnum (num 0)))) (num (faddN 1 (unnum (num E)) (unnum (num m)))) fun b g => req (isNum (num m)) <|
  bif f == 0 then (bif g == 0 then (bif a then (bif (b == eqV (num (redN 1 (unnum (num m)))) (num 0)) then some (.bool true) else some (.bool false)) else some (.bool false)) else some (.bool false)) else some (.bool false)
theorem lf_ev (n : Nat) (A : Nat → Nat) (x m : Nat) (es : Nat → Nat) : fnA lfC 100 Try.f5 (bodyOf Try.f5) (cArgs [.sl kN4 n (nmF A), .pl (num x), .pl (num m)] 0) (cMem es [.sl kN4 n (nmF A), .pl (num x), .pl (num m)] 0) 0 = lfT n A x m := by kernel_rfl
theorem lfT_eq {n : Nat} {A : Nat → Nat} {x m : Nat} (hA : ∀ j, A j < 2 ^ 256) (hx : x < 2 ^ 256) (hm : m < 2 ^ 256) : lfT n A x m = some (.bool true) := by
  unfold lfT
  by_cases h : n > 5
  · rw [decide_eq_true (by omega), cond_true]
  · have hb : ∀ y, fiB (cmN (nA (nmF A))) n x y = decide (evN A n x = y % pN) := fun y => by rw [fi_bas (by omega), evN_congr (Y := A) (fun j _ => nA_nm (hA j))]
    rw [decide_eq_false (by omega), cond_false, cmq_nm (by omega), evq_nm (by omega) (fun j _ => hA j) hx, ftq_ck (by omega) (fun j _ => cm_ck _ j) hx (p_lt (evN_p _ _ _)), r2_num, r2_num, unnum_lt hx, unnum_lt hm, uN (evN_p _ _ _), unnum_lt (show (0 : Nat) < 2 ^ 256 by decide), ← nAdd_def, ← nAdd_def,
      ftq_ck (by omega) (fun j _ => cm_ck _ j) (nAdd_l _ _) (nAdd_l _ _), isNum_num, req_true rfl, ← nRed_def]
    have hr : fiB (cmN (nA (nmF A))) n (nAdd x 0) (nAdd (evN A n x) m) = fiB (cmN (nA (nmF A))) n x (nAdd (evN A n x) m) := by
      unfold fiB
      rw [at_red (y := x) (by rw [nRed_eq, nRed_eq, nAdd_eq, Nat.add_zero, Nat.mod_mod])]
    have hp := evN_p A n x
    have hz : (decide (evN A n x = nAdd (evN A n x) m % pN) == eqV (num (nRed m)) (num 0)) = true := by
      rw [eqV_num, Nat.mod_eq_of_lt (p_lt (nRed_p m)), nRed_eq, nAdd_eq, Nat.mod_mod, beq_iff_eq, decide_eq_decide]
      have e1 := Nat.mod_lt m n1_pos
      rw [← Nat.add_mod_mod, show (0 : Nat) % 2 ^ 256 = 0 from rfl]
      constructor
      · intro e
        rcases Nat.lt_or_ge (evN A n x + m % pN) pN with h3 | h3
        · rw [Nat.mod_eq_of_lt h3] at e; omega
        · rw [Nat.mod_eq_sub_mod h3, Nat.mod_eq_of_lt (by omega)] at e; omega
      · intro e
        rw [e, Nat.add_zero, Nat.mod_eq_of_lt hp]
    rw [hr, hb, hb, hz, Nat.mod_eq_of_lt hp, decide_eq_true rfl]; rfl
theorem lf_calls {W : World} {n x m : Nat} {A : Nat → Nat} {v0 : Value} (hA : ∀ j, A j < 2 ^ 256) (hx : x < 2 ^ 256) (hm : m < 2 ^ 256) (h0 : SrcW W kN4 n (fun i => nmL (A i)) v0) :
    Calls Try.prog 5 #[v0, num x, num m] W fun e w' => e = .returned (.bool true) ∧ Go.RowKit.Below W.heap.size W w' :=
  law_sound (c := bodyOf Try.f5) (args' := [v0, num x, num m]) Try.func5 (by kernel_rfl) (A := [.sl kN4 n (nmF A), .pl (num x), .pl (num m)]) ⟨h0, rfl, rfl, rfl, rfl, trivial⟩ (GOk_nil _) (by show 3 ≤ Try.f5.ntmps; decide +kernel) rfl (by intro vs h; cases h) (fuel := 100) (next := 0)
    (fun es => ⟨lfC, ⟨mixed, tabOk, lfS_ok, noL⟩, rfl, (lf_ev n A x m es).trans (lfT_eq hA hx hm)⟩)

noncomputable def laS : Sums := [(21, CmkF 45), (10, EvF), (22, AtF), (35, CBasF), (27, KpF), (36, PrimeF), (28, Wk7F)]
theorem laS_ok : SumsOk Try.prog laS := sums_consM cmk_msum (sums_consM ev_msum (sums_consM fa_msum (sums_cons cBa_sum (sums_cons kp_sum (sums_cons Prime_sum (sums_cons wk7_sum sums_nil))))))
noncomputable def laC : Cfg := ⟨tab, laS, 96, []⟩
noncomputable def laT (n : Nat) (A : Nat → Nat) (x : Nat) : Option Value :=
  bif decide ((n : Int) > 5) then some (.bool true) else cmq n (nmF A) fun L => atq n (ptF L) (num x) fun p f => atq n (ptF L) (num 0) fun z g =>
  bif f != 0 then some (.bool false) else bif g != 0 then some (.bool false) else bif (n : Int) != (n : Int) then some (.bool false) else
  evq n (nmF A) (num x) fun E => qBas (num E) fun B => qKp (ptV p) B fun l => bif !l then some (.bool false) else
  bif (n : Int) == 0 then (bif z.1 then (bif p.1 then some (.bool true) else some (.bool false)) else some (.bool false)) else
  atq n (ptF L) (num (primeN 1)) fun q h => bif h == 0 then rdR 0 n (qKp (ptV z) (ptV (L (0 + 0))) fun l => bif l then rdR 0 n (qKp (ptV q) (ptV (L (0 + 0))) fun l => bif l then some (.bool true) else some (.bool false)) else some (.bool false)) else some (.bool false)
theorem la_ev (n : Nat) (A : Nat → Nat) (x : Nat) (es : Nat → Nat) : fnA laC 100 Try.f8 (bodyOf Try.f8) (cArgs [.sl kN4 n (nmF A), .pl (num x)] 0) (cMem es [.sl kN4 n (nmF A), .pl (num x)] 0) 0 = laT n A x := by kernel_rfl
theorem ev_zero (X : Nat → Nat) (n : Nat) : evN X (n + 1) 0 = X 0 % pN := by
  rw [evN_def, hvN, nAdd_eq, nMul_eq, Nat.mul_zero, Nat.zero_mod, Nat.zero_add, show n + 1 - 1 - n = 0 from by omega]
theorem laT_eq {n : Nat} {A : Nat → Nat} {x : Nat} (hA : ∀ j, A j < 2 ^ 256) (hx : x < 2 ^ 256) : laT n A x = some (.bool true) := by
  unfold laT
  by_cases h : n > 5
  · rw [decide_eq_true (by omega), cond_true]
  · have hb : ∀ y, atR (cmN (nA (nmF A))) n y = basS (evN A n y) := fun y => by rw [at_bas, evN_congr (Y := A) (fun j _ => nA_nm (hA j))]
    have z0 : ((0 : Int) != 0) = false := rfl
    rw [decide_eq_false (by omega), cond_false, cmq_nm (by omega), atq_ck (by omega) (fun j _ => cm_ck _ j) hx, atq_ck (by omega) (fun j _ => cm_ck _ j) (by decide), z0, cond_false, cond_false, show ((n : Int) != (n : Int)) = false from by rw [bne_self_eq_false], cond_false, evq_nm (by omega) (fun j _ => hA j) hx, qBas_pt (p_lt (evN_p _ _ _)), hb, qKp_eq (ck_bas _) (ck_bas _) rfl, Bool.not_true, cond_false, hb]
    cases n with
    | zero => rw [evN_def, hvN, evN_def, hvN, bas_zero]; rfl
    | succ n =>
      have hl : cmN (nA (nmF A)) 0 = basS (A 0) := by unfold cmN; rw [nA_nm (hA 0)]
      rw [show (((n + 1 : Nat) : Int) == 0) = false from by rw [beq_eq_false_iff_ne]; omega, cond_false, atq_ck (by omega) (fun j _ => cm_ck _ j) (show primeN 1 < 2 ^ 256 by decide), at_red (y := 0) (by rw [nRed_eq, nRed_eq]; decide), hb, ev_zero, bas_mod, hl, rdR_eq (by omega), qKp_eq (ck_bas _) (ck_bas _) rfl, cond_true, rdR_eq (by omega), qKp_eq (ck_bas _) (ck_bas _) rfl]; rfl
theorem la_calls {W : World} {n x : Nat} {A : Nat → Nat} {v0 : Value} (hA : ∀ j, A j < 2 ^ 256) (hx : x < 2 ^ 256) (h0 : SrcW W kN4 n (fun i => nmL (A i)) v0) :
    Calls Try.prog 8 #[v0, num x] W fun e w' => e = .returned (.bool true) ∧ Go.RowKit.Below W.heap.size W w' :=
  law_sound (c := bodyOf Try.f8) (args' := [v0, num x]) Try.func8 (by kernel_rfl) (A := [.sl kN4 n (nmF A), .pl (num x)]) ⟨h0, rfl, rfl, trivial⟩ (GOk_nil _) (by show 2 ≤ Try.f8.ntmps; decide +kernel) rfl (by intro vs h; cases h) (fuel := 100) (next := 0)
    (fun es => ⟨laC, ⟨mixed, tabOk, laS_ok, noL⟩, rfl, (la_ev n A x es).trans (laT_eq hA hx)⟩)

end Go.Proofs.Ytbklbmiddacaiaa
