/-
  PolyThrough.
-/
import Derived.Test.YtpkoldooncpggaaSp
import Derived.Test.YtpkoldooncpggaaEi
namespace Go.Proofs.Ytpkoldooncpggaa
set_option maxRecDepth 100000
open Go.W

noncomputable def ttS : Sums := [(10, EvF), (15, ZeF), (17, ThkF 25), (20, RedF), (19, Wk6F)]
theorem ttS_ok : SumsOk Try.prog ttS := sums_consM ev_msum (sums_consM ze_msum (sums_consM (MSum_sub th_msum (ThkF_sub _)) (sums_cons Red_sum (sums_cons wk6_sum sums_nil))))
noncomputable def ttC0 : Cfg := ⟨tab, ttS, 99, []⟩
theorem tt_at1 : codeAt [1, 1, 1, 0, 1, 0] (bodyOf Try.f7) = some (.loop (loopAt [1, 1, 1, 0, 1, 0] (bodyOf Try.f7))) := by kernel_rfl
theorem tt_at2 : codeAt [1, 1, 1, 1, 1, 1, 1, 0, 1, 0] (bodyOf Try.f7) = some (.loop (loopAt [1, 1, 1, 1, 1, 1, 1, 0, 1, 0] (bodyOf Try.f7))) := by kernel_rfl
def ttB1 : Nat := nid 0 0
def ttB2 : Nat := nid 12 0
def ttN1 : List Nat := [0, 1, 5, 6]
def ttI1 : Ren := [(ttB1, nid 30 0), (1500000, 1500000)]
def ttE1 : Ren := [(ttB1, ttB1), (1500000, 1500000)]
def ttZ1 : List Nat := [1500000]
def ttA (n : Nat) (V : Nat → Nat) (e0 : Nat) (t : Int) : St := ⟨[(0, aSl 0 n), (1, i64 t), (5, .slice none 0 0), (6, i64 0)], [(1500000, ⟨.row kN4 n (nmF V), e0, false⟩)], 11⟩
def ttB (n : Nat) (V : Nat → Nat) (e0 : Nat) (t : Int) (m : Nat) (g : Nat → List Value) (i : Int) : St := ⟨[(0, aSl 0 n), (1, i64 t), (5, .slice (some ⟨ttB1, 0, none⟩) m m), (6, i64 i)], [(ttB1, ⟨.row kN8 m g, 29, true⟩), (1500000, ⟨.row kN4 n (nmF V), e0, false⟩)], 11⟩
theorem tt_r0 (n : Nat) (V : Nat → Nat) (e0 : Nat) (t : Int) : roundS ttC0 60 [1, 1, 1, 0, 1, 0, 0] (loopAt [1, 1, 1, 0, 1, 0] (bodyOf Try.f7)) ttN1 ttI1 11 ttN1 ttE1 11 (ttA n V e0 t) =
    bif decide ((0 : Int) < (n : Int)) then rdR 0 n (some (.normal, ttB n V e0 t 1 (lstF (shC (smI (ti7 t 0)) (num (V 0))) 0 8) 1)) else none := by kernel_rfl
theorem tt_r1 (n : Nat) (V : Nat → Nat) (e0 : Nat) (t : Int) (S : Nat → Nat × Nat) (k : Nat) : roundS ttC0 60 [1, 1, 1, 0, 1, 0, 0] (loopAt [1, 1, 1, 0, 1, 0] (bodyOf Try.f7)) ttN1 ttI1 11 ttN1 ttE1 11 (ttB n V e0 t (k + 1) (shF S) ((k + 1 : Nat) : Int)) =
    bif decide (((k + 1 : Nat) : Int) < (n : Int)) then rdR (k + 1) n (apq (k + 1) (some (.normal, ttB n V e0 t (k + 1 + 1) (appF (k + 1) (shF S) (lstF (shC (smI (ti7 t ((k + 1 : Nat) : Int))) (num (V (0 + (k + 1))))) 0 8)) (IntKind.i64.wrap (((k + 1 : Nat) : Int) + 1)))))
    else some (.exit 0, ttB n V e0 t (k + 1) (shF S) ((k + 1 : Nat) : Int)) := by kernel_rfl
def ttS1 (V : Nat → Nat) (t : Int) (j : Nat) : Nat × Nat := (t7 t + j * 7, V j)
def ttQ (n : Nat) (V : Nat → Nat) (e0 : Nat) (t : Int) : Nat → St
  | 0 => ttA n V e0 t
  | k + 1 => ttB n V e0 t (k + 1) (shF (ttS1 V t)) ((k + 1 : Nat) : Int)
theorem tt_loop1 {m : Nat} {V : Nat → Nat} {e0 : Nat} {t : Int} (hn : m + 1 ≤ 900) : LoopOk Try.prog 99 (loopAt [1, 1, 1, 0, 1, 0] (bodyOf Try.f7)) (atSt ttN1 ttZ1 11 (ttA (m + 1) V e0 t) (.exit 0) (ttB (m + 1) V e0 t (m + 1) (shF (ttS1 V t)) ((m + 1 : Nat) : Int))) := by
  refine loopE (fun _ => ttC0) (m + 1) (fun _ _ => ⟨mixed, tabOk, ttS_ok, noL⟩) (fun _ => rfl) tt_at1 (m := 60) (nt := ttN1) (ni := ttI1) (et := ttN1) (ei := ttE1) (nx := 11) (ex := 11) (ttQ (m + 1) V e0 t) rfl (by intro h; cases h) ?_ ?_
  · intro k hk
    cases k with
    | zero =>
      refine ⟨ttB (m + 1) V e0 t 1 (lstF (shL (ttS1 V t 0)) 0 8) 1, ?_, stEq_mk rfl (mRow (one_row (ks := kN8) rfl) (mSame rfl mNil))⟩
      refine (tt_r0 (m + 1) V e0 t).trans ?_
      obtain ⟨e, h7⟩ := ti7_eq (t := t) (k := 0) (by omega)
      rw [show ((0 : Nat) : Int) = 0 from rfl] at e
      rw [decide_eq_true (by omega), cond_true, rdR_eq hk, e, smI_num (by omega), shC_num]; rfl
    | succ k =>
      refine ⟨ttB (m + 1) V e0 t (k + 1 + 1) (appF (k + 1) (shF (ttS1 V t)) (lstF (shL (ttS1 V t (k + 1))) 0 8)) ((k + 1 + 1 : Nat) : Int), ?_, stEq_mk rfl (mRow (app_row (ks := kN8) (fun _ _ => rfl) rfl) (mSame rfl mNil))⟩
      refine (tt_r1 (m + 1) V e0 t _ k).trans ?_
      obtain ⟨e, h7⟩ := ti7_eq (t := t) (k := k + 1) (by omega)
      rw [decide_eq_true (by omega), cond_true, rdR_eq hk, apq_eq (by omega), e, smI_num (by omega), shC_num, wrap_i64 (by omega), Nat.zero_add]; rfl
  · refine ⟨_, ?_, stEq_refl rfl⟩
    refine (tt_r1 (m + 1) V e0 t _ m).trans ?_
    rw [decide_eq_false (by omega), cond_false]
def ttN2 : List Nat := [0, 5, 7, 11]
def ttI2 : List Nat := [ttB1, ttB2, 1500000]
def ttD (n : Nat) (V : Nat → Nat) (e0 m : Nat) (S : Nat → Nat × Nat) (C : Nat → Nat) (i : Int) : St := ⟨[(0, aSl 0 n), (5, .slice (some ⟨ttB1, 0, none⟩) m m), (7, .slice (some ⟨ttB2, 0, none⟩) m m), (11, i64 i)], [(ttB1, ⟨.row kN8 m (shF S), 29, true⟩), (ttB2, ⟨.row kN4 m (nmF C), 25, true⟩), (1500000, ⟨.row kN4 n (nmF V), e0, false⟩)], 54⟩
theorem tt_q (n : Nat) (V : Nat → Nat) (e0 m : Nat) (S : Nat → Nat × Nat) (C : Nat → Nat) (i : Nat) : roundS ttC0 60 [1, 1, 1, 1, 1, 1, 1, 0, 1, 0, 0] (loopAt [1, 1, 1, 1, 1, 1, 1, 0, 1, 0] (bodyOf Try.f7)) ttN2 ttI2 54 ttN2 ttI2 54 (ttD n V e0 m S C (i : Int)) =
    bif decide ((i : Int) < (m : Int)) then rdR i m (evq m (nmF C) (num (S (0 + i)).1) fun E => rdR i n (req (isNum (num (V (0 + i)))) (bif !(eqV (num E) (num (redN 1 (unnum (num (V (0 + i))))))) then some (.ret, ttD n V e0 m S C (i : Int)) else some (.normal, ttD n V e0 m S C (IntKind.i64.wrap ((i : Int) + 1))))))
    else some (.exit 2, ttD n V e0 m S C (i : Int)) := by kernel_rfl
theorem tt_loop2 {n : Nat} {V : Nat → Nat} {e0 : Nat} {S : Nat → Nat × Nat} {C : Nat → Nat} (hn : n ≤ 900) (hC : ∀ j, j < n → C j < 2 ^ 256) (hS : ∀ j, j < n → (S j).1 < 2 ^ 256) (hV : ∀ j, j < n → V j < 2 ^ 256) (he : ∀ j, j < n → evN C n (S j).1 = nRed (V j)) : LoopOk Try.prog 99 (loopAt [1, 1, 1, 1, 1, 1, 1, 0, 1, 0] (bodyOf Try.f7)) (atSt ttN2 ttI2 54 (ttD n V e0 n S C 0) (.exit 2) (ttD n V e0 n S C (n : Int))) := by
  refine loopE (fun _ => ttC0) n (fun _ _ => ⟨mixed, tabOk, ttS_ok, noL⟩) (fun _ => rfl) tt_at2 (m := 60) (nt := ttN2) (ni := ttI2) (et := ttN2) (ei := ttI2) (nx := 54) (ex := 54) (fun i => ttD n V e0 n S C (i : Int)) rfl (by intro h; cases h) ?_ ?_
  · intro i hi
    refine ⟨_, ?_, stEq_refl rfl⟩
    refine (tt_q n V e0 n S C i).trans ?_
    rw [decide_eq_true (by omega), cond_true, rdR_eq hi, Nat.zero_add, evq_nm (by omega) hC (hS i hi), rdR_eq hi, isNum_num, req_true rfl, unnum_lt (hV i hi), ← nRed_def, he i hi, eqq, wrap_i64 (by omega)]; rfl
  · refine ⟨_, ?_, stEq_refl rfl⟩
    refine (tt_q n V e0 n S C n).trans ?_
    rw [decide_eq_false (by omega), cond_false]
noncomputable def ttC (m : Nat) (V : Nat → Nat) (e0 : Nat) (t : Int) (S : Nat → Nat × Nat) (C : Nat → Nat) : Cfg := ⟨tab, ttS, 99, [([1, 1, 1, 0, 1, 0], atSt ttN1 ttZ1 11 (ttA (m + 1) V e0 t) (.exit 0) (ttB (m + 1) V e0 t (m + 1) (shF S) ((m + 1 : Nat) : Int))), ([1, 1, 1, 1, 1, 1, 1, 0, 1, 0], atSt ttN2 ttI2 54 (ttD (m + 1) V e0 (m + 1) S C 0) (.exit 2) (ttD (m + 1) V e0 (m + 1) S C ((m + 1 : Nat) : Int)))]⟩
def fls' : Option Value := some (.bool false)
noncomputable def ttR (m : Nat) (V : Nat → Nat) (e0 : Nat) (S : Nat → Nat × Nat) (C : Nat → Nat) : Option Value :=
  thkq (m + 1) (shF S) fun D => zeq (m + 1) (shF S) fun z f => bif f != 0 then fls' else bif ((m + 1 : Nat) : Int) != ((m + 1 : Nat) : Int) then fls' else evq (m + 1) (nmF D) (num 0) fun E => bif !(eqV (num E) (num z)) then fls' else
    rdR 0 (m + 1) (bif !(eqV (num (D 0)) (num z)) then fls' else req (stEq (ttD (m + 1) V e0 (m + 1) S D 0) (ttD (m + 1) V e0 (m + 1) S C 0)) (some (.bool true)))
theorem tt_ev (m : Nat) (V : Nat → Nat) (t : Int) (S : Nat → Nat × Nat) (C : Nat → Nat) (es : Nat → Nat) : fnA (ttC m V (es 0) t S C) 200 Try.f7 (bodyOf Try.f7) (cArgs [.sl kN4 (m + 1) (nmF V), .pl (i64 t)] 0) (cMem es [.sl kN4 (m + 1) (nmF V), .pl (i64 t)] 0) 0 =
    bif decide (((m + 1 : Nat) : Int) < 1) then some (.bool true) else bif decide (((m + 1 : Nat) : Int) > 8) then some (.bool true) else
      req (stEq (ttA (m + 1) V (es 0) t) (ttA (m + 1) V (es 0) t)) (ttR m V (es 0) S C) := by kernel_rfl
theorem tt_ev0 (n : Nat) (V : Nat → Nat) (t : Int) (es : Nat → Nat) : fnA ⟨tab, ttS, 99, [([1, 1, 1, 0, 1, 0], fun _ => [])]⟩ 200 Try.f7 (bodyOf Try.f7) (cArgs [.sl kN4 n (nmF V), .pl (i64 t)] 0) (cMem es [.sl kN4 n (nmF V), .pl (i64 t)] 0) 0 =
    bif decide ((n : Int) < 1) then some (.bool true) else bif decide ((n : Int) > 8) then some (.bool true) else none := by kernel_rfl
theorem tt_calls {W : World} {n : Nat} {V : Nat → Nat} {t : Int} {v0 : Value} (hV : ∀ j, V j < 2 ^ 256) (h0 : SrcW W kN4 n (fun i => nmL (V i)) v0) :
    Calls Try.prog 7 #[v0, i64 t] W fun e w' => e = .returned (.bool true) ∧ Go.RowKit.Below W.heap.size W w' := by
  refine law_sound (c := bodyOf Try.f7) (args' := [v0, i64 t]) Try.func7 (by kernel_rfl) (A := [.sl kN4 n (nmF V), .pl (i64 t)]) ⟨h0, rfl, rfl, trivial⟩ (GOk_nil _) (by show 2 ≤ Try.f7.ntmps; decide +kernel) rfl (by intro vs h; cases h) (fuel := 200) (next := 0) fun es => ?_
  by_cases h : 0 < n ∧ n ≤ 8
  · obtain ⟨m, rfl⟩ : ∃ m, n = m + 1 := ⟨n - 1, by omega⟩
    have h7 := (ti7_eq (t := t) (k := 0) (by omega)).2
    have hS : ∀ j, j < m + 1 → (ttS1 V t j).1 < 2 ^ 256 ∧ (ttS1 V t j).2 < 2 ^ 256 := fun j hj => ⟨by show t7 t + j * 7 < _; omega, hV j⟩
    have hu : Unlike (sX (ttS1 V t)) (m + 1) := unlike_small (fun j hj => by show t7 t + j * 7 < _; omega) (fun i j hij hj => by show t7 t + i * 7 ≠ t7 t + j * 7; omega)
    have hc := ckN_ok (X := sX (ttS1 V t)) (n := m + 1) (by omega) (by omega) (of_unlike hu)
    have hp := trhN_p (sX (ttS1 V t)) (sY (ttS1 V t)) (m + 1)
    have hz := th_zero0 hu (by omega) (by omega) (sY (ttS1 V t))
    refine ⟨ttC m V (es 0) t (ttS1 V t) (trhN (sX (ttS1 V t)) (sY (ttS1 V t)) (m + 1)), ⟨mixed, tabOk, ttS_ok, consL (tt_loop1 (by omega)) (oneL (tt_loop2 (by omega) (fun j _ => p_lt (hp j)) (fun j hj => (hS j hj).1) (fun j _ => hV j) (fun j hj => ?_)))⟩, rfl, ?_⟩
    · refine cg_eq (evN_p _ _ _) (nRed_p _) (cg_trans (ev_cg _ _ _) (cg_trans (Go.W.th_at hu (sY (ttS1 V t)) hj) (cg_symm (cRed _))))
    · refine (tt_ev m V t _ _ es).trans ?_
      have hE : evN (trhN (sX (ttS1 V t)) (sY (ttS1 V t)) (m + 1)) (m + 1) 0 = trhN (sX (ttS1 V t)) (sY (ttS1 V t)) (m + 1) 0 := by
        refine cg_eq (evN_p _ _ _) (hp 0) (cg_trans (ev_cg _ _ _) (cg_of ?_))
        show pEv _ 0 = _
        rw [pEv_zero_at]; rfl
      rw [decide_eq_false (by omega), decide_eq_false (by omega), cond_false, cond_false, req_true (stEq_refl rfl)]
      unfold ttR
      rw [thkq_eq (by omega) hS (fun _ _ => rfl) hc, zeq_eq (by omega) hS (fun _ _ => rfl), hc, hz, show ((0 : Int) != 0) = false from rfl, cond_false, bne_self_eq_false, cond_false, evq_nm (by omega) (fun j _ => p_lt (hp j)) (by decide), hE, eqq, rdR_eq (by omega), req_true (stEq_refl rfl)]; rfl
  · refine ⟨⟨tab, ttS, 99, [([1, 1, 1, 0, 1, 0], fun _ => [])]⟩, ⟨mixed, tabOk, ttS_ok, noneL2⟩, rfl, ?_⟩
    refine (tt_ev0 n V t es).trans ?_
    by_cases h1 : n < 1
    · rw [decide_eq_true (by omega)]; rfl
    · rw [decide_eq_false (by omega), decide_eq_true (by omega)]; rfl

end Go.Proofs.Ytpkoldooncpggaa
