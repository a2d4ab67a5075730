/-
  FeldRows.
-/
import Derived.Test.YtbklbmiddacaiabSq
import Derived.Test.YtbklbmiddacaiabEj
namespace Go.Proofs.Ytbklbmiddacaiab
set_option maxRecDepth 100000
open Go.W

noncomputable def frS : Sums := [(4, CmkF 33), (5, Sum2F 33), (6, AtF), (7, CAddF), (8, KpF), (9, Wk7F)]
theorem frS_ok : SumsOk Try.prog frS := sums_consM cmk_msum (sums_consM (MSum_sub smk_msum (Sum2F_sub _)) (sums_consM fa_msum (sums_cons cAd_sum (sums_cons kp_sum (sums_cons wk7_sum sums_nil)))))
noncomputable def frC : Cfg := ⟨tab, frS, 115, []⟩
def frA (na : Nat) (A : Nat → Nat) (nb : Nat) (B : Nat → Nat) (x : Nat) : List Arg := [.sl kN4 na (nmF A), .sl kN4 nb (nmF B), .pl (num x)]
noncomputable def frT (na : Nat) (A : Nat → Nat) (nb : Nat) (B : Nat → Nat) (x : Nat) : Option Value :=
  bif decide ((na : Int) > 5) then some (.bool true) else bif decide ((nb : Int) > 5) then some (.bool true) else
  slq na (mnZ na nb) <| ctq (mnZ na nb).toNat na (nmF A) fun L => slq nb (mnZ na nb) <| ctq (mnZ na nb).toNat nb (nmF B) fun L2 => s2q (mnZ na nb).toNat (ptF L) (mnZ na nb).toNat (ptF L2) fun S =>
  bif (((mnZ na nb).toNat : Nat) : Int) != mnZ na nb then some (.bool false) else
  atq (mnZ na nb).toNat (ptF L) (num x) fun u e => atq (mnZ na nb).toNat (ptF L2) (num x) fun v f => atq (mnZ na nb).toNat (ptF S) (num x) fun w g => adq (ptV u) (ptV v) fun t h =>
  bif e == 0 then (bif f == 0 then (bif g == 0 then (bif h == 0 then (qKp (ptV w) (ptV t) fun l => bif l then some (.bool true) else some (.bool false)) else some (.bool false)) else some (.bool false)) else some (.bool false)) else some (.bool false)
theorem fr_ev (na : Nat) (A : Nat → Nat) (nb : Nat) (B : Nat → Nat) (x : Nat) (es : Nat → Nat) : fnA frC 200 Try.f3 (bodyOf Try.f3) (cArgs (frA na A nb B x) 0) (cMem es (frA na A nb B x) 0) 0 = frT na A nb B x := by kernel_rfl
theorem fr_calls {W : World} {na nb x : Nat} {A B : Nat → Nat} {v0 v1 : Value} (hA : ∀ j, A j < 2 ^ 256) (hB : ∀ j, B j < 2 ^ 256) (hx : x < 2 ^ 256) (h0 : SrcW W kN4 na (fun i => nmL (A i)) v0) (h1 : SrcW W kN4 nb (fun i => nmL (B i)) v1) :
    Calls Try.prog 3 #[v0, v1, num x] W fun e w' => e = .returned (.bool true) ∧ Go.RowKit.Below W.heap.size W w' := by
  refine law_sound (c := bodyOf Try.f3) (args' := [v0, v1, num x]) Try.func3 (by kernel_rfl) (A := frA na A nb B x) ⟨h0, h1, rfl, rfl, trivial⟩ (GOk_nil _) (by show 3 ≤ Try.f3.ntmps; decide +kernel) rfl (by intro vs h; cases h) (fuel := 200) (next := 0) (fun es => ?_)
  refine ⟨frC, ⟨mixed, tabOk, frS_ok, noL⟩, rfl, (fr_ev na A nb B x es).trans ?_⟩
  unfold frT
  by_cases h5 : na > 5
  · rw [decide_eq_true (by omega), cond_true]
  by_cases h6 : nb > 5
  · rw [decide_eq_false (by omega), cond_false, decide_eq_true (by omega), cond_true]
  rw [decide_eq_false (by omega), cond_false, decide_eq_false (by omega), cond_false]
  obtain ⟨m, hm, hma, hmb⟩ : ∃ m : Nat, mnZ na nb = (m : Int) ∧ m ≤ na ∧ m ≤ nb := by
    unfold mnZ
    by_cases h : (nb : Int) < (na : Int)
    · rw [if_pos h]; exact ⟨nb, rfl, by omega, by omega⟩
    · rw [if_neg h]; exact ⟨na, rfl, by omega, by omega⟩
  rw [hm, Int.toNat_natCast, slq_eq hma, ctq_eq hma (by omega), slq_eq hmb, ctq_eq hmb (by omega)]
  have hc : ∀ (X : Nat → Nat) j, j < m → ckR (cmN X j) = true := fun X j _ => cm_ck X j
  rw [s2q_eq (by omega) (hc _) (hc _), show ((m : Int) != (m : Int)) = false from by rw [bne_eq_false_iff_eq], cond_false, atq_ck (by omega) (hc _) hx, atq_ck (by omega) (hc _) hx]
  have hs : ∀ j, j < m → sgN (t2 (m, sg9 m (ptF (cmN (nA (nmF A))))) (m, sg9 m (ptF (cmN (nA (nmF B)))))) 1 j = cmN (suN A m B m) j := fun j hj => by
    rw [sg2_at (hc _) (hc _) hj, cm_nm (n := m) (fun j _ => hA j) j hj, cm_nm (n := m) (fun j _ => hB j) j hj]
    have e : suN A m B m j = nAdd (A j) (B j) := by unfold suN padN; rw [if_pos hj, if_pos hj]
    show addS (basS (A j)) (basS (B j)) = basS (suN A m B m j)
    rw [e]
    exact add_bas _ _
  rw [atq_ck (by omega) (fun j hj => by rw [hs j hj]; exact cm_ck _ j) hx, at_congr hs, at_congr (cm_nm (n := m) (fun j _ => hA j)), at_congr (cm_nm (n := m) (fun j _ => hB j)), at_bas, at_bas, at_bas, Go.W.su_ev (Nat.le_refl _) (Nat.le_refl _), adq_ck (ck_bas _) (ck_bas _), add_bas]
  show (qKp (ptV _) (ptV _) fun l => bif l then some (.bool true) else some (.bool false)) = _
  rw [qKp_pt (ck_okR (ck_bas _)) (ck_okR (ck_bas _)), decide_eq_true rfl]; rfl
end Go.Proofs.Ytbklbmiddacaiab
