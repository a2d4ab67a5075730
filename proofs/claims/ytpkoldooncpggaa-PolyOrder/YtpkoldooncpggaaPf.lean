/-
  PolyOrder.
-/
import Derived.Test.YtpkoldooncpggaaSp
import Derived.Test.YtpkoldooncpggaaEi
namespace Go.Proofs.Ytpkoldooncpggaa
set_option maxRecDepth 100000
open Go.W

noncomputable def ogS : Sums := [(10, EvF), (15, ZeF), (21, FAddF), (20, RedF), (19, Wk6F)]
theorem ogS_ok : SumsOk Try.prog ogS := sums_consM ev_msum (sums_consM ze_msum (sums_cons FAdd_sum (sums_cons Red_sum (sums_cons wk6_sum sums_nil))))
noncomputable def ogC0 : Cfg := ⟨tab, ogS, 149, []⟩
theorem og_at1 : codeAt [1, 1, 1, 1, 0, 1, 0] (bodyOf Try.f8) = some (.loop (loopAt [1, 1, 1, 1, 0, 1, 0] (bodyOf Try.f8))) := by kernel_rfl
theorem og_at2 : codeAt [1, 1, 1, 1, 1, 0, 1, 0] (bodyOf Try.f8) = some (.loop (loopAt [1, 1, 1, 1, 1, 0, 1, 0] (bodyOf Try.f8))) := by kernel_rfl
def ogB1 : Nat := nid 0 0
def ogB2 : Nat := nid 1 0
def ogN1 : List Nat := [0, 1, 5, 7, 8, 9, 10]
def ogI1 : Ren := [(0, 0), (ogB1, nid 32 0), (1500000, 1500000)]
def ogE1 : Ren := [(0, 0), (ogB1, ogB1), (1500000, 1500000)]
def ogZ1 : List Nat := [0, 1500000]
def ogA (n : Nat) (V : Nat → Nat) (e0 X : Nat) (t : Int) : St := ⟨[(0, aSl 0 n), (1, i64 t), (5, ptr 0), (7, i64 (n : Nat)), (8, .slice none 0 0), (9, .slice none 0 0), (10, i64 0)], [(0, ⟨cells4 X, 25, true⟩), (1500000, ⟨.row kN4 n (nmF V), e0, false⟩)], 16⟩
def ogB (n : Nat) (V : Nat → Nat) (e0 X : Nat) (t : Int) (m : Nat) (g : Nat → List Value) (i : Int) : St := ⟨[(0, aSl 0 n), (1, i64 t), (5, ptr 0), (7, i64 (n : Nat)), (8, .slice (some ⟨ogB1, 0, none⟩) m m), (9, .slice none 0 0), (10, i64 i)], [(0, ⟨cells4 X, 25, true⟩), (ogB1, ⟨.row kN8 m g, 29, true⟩), (1500000, ⟨.row kN4 n (nmF V), e0, false⟩)], 16⟩
theorem og_r0 (n : Nat) (V : Nat → Nat) (e0 X : Nat) (t : Int) : roundS ogC0 60 [1, 1, 1, 1, 0, 1, 0, 0] (loopAt [1, 1, 1, 1, 0, 1, 0] (bodyOf Try.f8)) ogN1 ogI1 16 ogN1 ogE1 16 (ogA n V e0 X t) =
    bif decide ((0 : Int) < (n : Int)) then evq n (nmF V) (smI (wp1 0)) (fun E => some (.normal, ogB n V e0 X t 1 (lstF (shC (smI (wp1 0)) (num E)) 0 8) 1)) else none := by kernel_rfl
theorem og_r1 (n : Nat) (V : Nat → Nat) (e0 X : Nat) (t : Int) (S : Nat → Nat × Nat) (k : Nat) : roundS ogC0 60 [1, 1, 1, 1, 0, 1, 0, 0] (loopAt [1, 1, 1, 1, 0, 1, 0] (bodyOf Try.f8)) ogN1 ogI1 16 ogN1 ogE1 16 (ogB n V e0 X t (k + 1) (shF S) ((k + 1 : Nat) : Int)) =
    bif decide (((k + 1 : Nat) : Int) < (n : Int)) then evq n (nmF V) (smI (wp1 ((k + 1 : Nat) : Int))) (fun E => apq (k + 1) (some (.normal, ogB n V e0 X t (k + 1 + 1) (appF (k + 1) (shF S) (lstF (shC (smI (wp1 ((k + 1 : Nat) : Int))) (num E)) 0 8)) (IntKind.i64.wrap (((k + 1 : Nat) : Int) + 1)))))
    else some (.exit 0, ogB n V e0 X t (k + 1) (shF S) ((k + 1 : Nat) : Int)) := by kernel_rfl
noncomputable def ogS1 (V : Nat → Nat) (n : Nat) (j : Nat) : Nat × Nat := (j + 1, evN V n (j + 1))
noncomputable def ogQ (n : Nat) (V : Nat → Nat) (e0 X : Nat) (t : Int) : Nat → St
  | 0 => ogA n V e0 X t
  | k + 1 => ogB n V e0 X t (k + 1) (shF (ogS1 V n)) ((k + 1 : Nat) : Int)
theorem og_loop1 {m : Nat} {V : Nat → Nat} {e0 X : Nat} {t : Int} (hn : m + 1 ≤ 1000) (hV : ∀ j, j < m + 1 → V j < 2 ^ 256) : LoopOk Try.prog 149 (loopAt [1, 1, 1, 1, 0, 1, 0] (bodyOf Try.f8)) (atSt ogN1 ogZ1 16 (ogA (m + 1) V e0 X t) (.exit 0) (ogB (m + 1) V e0 X t (m + 1) (shF (ogS1 V (m + 1))) ((m + 1 : Nat) : Int))) := by
  refine loopE (fun _ => ogC0) (m + 1) (fun _ _ => ⟨mixed, tabOk, ogS_ok, noL⟩) (fun _ => rfl) og_at1 (m := 60) (nt := ogN1) (ni := ogI1) (et := ogN1) (ei := ogE1) (nx := 16) (ex := 16) (ogQ (m + 1) V e0 X t) rfl (by intro h; cases h) ?_ ?_
  · intro k hk
    cases k with
    | zero =>
      refine ⟨ogB (m + 1) V e0 X t 1 (lstF (shL (ogS1 V (m + 1) 0)) 0 8) 1, ?_, stEq_mk rfl (mSame rfl (mRow (one_row (ks := kN8) rfl) (mSame rfl mNil)))⟩
      refine (og_r0 (m + 1) V e0 X t).trans ?_
      have e : wp1 0 = ((0 + 1 : Nat) : Int) := wp1_eq (k := 0) (by omega)
      rw [decide_eq_true (by omega), cond_true, e, smI_num (by omega), evq_nm hn hV (by omega), shC_num]; rfl
    | succ k =>
      refine ⟨ogB (m + 1) V e0 X t (k + 1 + 1) (appF (k + 1) (shF (ogS1 V (m + 1))) (lstF (shL (ogS1 V (m + 1) (k + 1))) 0 8)) ((k + 1 + 1 : Nat) : Int), ?_, stEq_mk rfl (mSame rfl (mRow (app_row (ks := kN8) (fun _ _ => rfl) rfl) (mSame rfl mNil)))⟩
      refine (og_r1 (m + 1) V e0 X t _ k).trans ?_
      rw [decide_eq_true (by omega), cond_true, wp1_eq (by omega), smI_num (by omega), evq_nm hn hV (by omega), shC_num, apq_eq (by omega), wrap_i64 (by omega)]; rfl
  · refine ⟨_, ?_, stEq_refl rfl⟩
    refine (og_r1 (m + 1) V e0 X t _ m).trans ?_
    rw [decide_eq_false (by omega), cond_false]
/-! the second list -/
def ogN2 : List Nat := [0, 5, 7, 8, 9, 12, 1]
def ogI2 : Ren := [(0, 0), (ogB1, ogB1), (ogB2, nid 35 0), (1500000, 1500000)]
def ogE2 : Ren := [(0, 0), (ogB1, ogB1), (ogB2, ogB2), (1500000, 1500000)]
def ogZ2 : List Nat := [0, ogB1, 1500000]
def ogG (n : Nat) (V : Nat → Nat) (e0 X : Nat) (t : Int) (m : Nat) (S : Nat → Nat × Nat) : St := ⟨[(0, aSl 0 n), (5, ptr 0), (7, i64 (n : Nat)), (8, .slice (some ⟨ogB1, 0, none⟩) m m), (9, .slice none 0 0), (12, i64 0), (1, i64 t)], [(0, ⟨cells4 X, 25, true⟩), (ogB1, ⟨.row kN8 m (shF S), 29, true⟩), (1500000, ⟨.row kN4 n (nmF V), e0, false⟩)], 17⟩
def ogD (n : Nat) (V : Nat → Nat) (e0 X : Nat) (t : Int) (m : Nat) (S : Nat → Nat × Nat) (q : Nat) (g : Nat → List Value) (i : Int) : St := ⟨[(0, aSl 0 n), (5, ptr 0), (7, i64 (n : Nat)), (8, .slice (some ⟨ogB1, 0, none⟩) m m), (9, .slice (some ⟨ogB2, 0, none⟩) q q), (12, i64 i), (1, i64 t)], [(0, ⟨cells4 X, 25, true⟩), (ogB1, ⟨.row kN8 m (shF S), 29, true⟩), (ogB2, ⟨.row kN8 q g, 29, true⟩), (1500000, ⟨.row kN4 n (nmF V), e0, false⟩)], 17⟩
def ixq {α : Type} (i t : Int) (n m : Nat) (k : Option α) : Option α := bif decide (IntKind.u64.wrap (n : Int) = 0) then none else bif decide ((n : Int) = 0) then none else req (inR (irI i t (n : Int)) m) (req (Nat.blt (irI i t (n : Int)).toNat m && true) k)
theorem og_q0 (n : Nat) (V : Nat → Nat) (e0 X : Nat) (t : Int) (m : Nat) (S : Nat → Nat × Nat) : roundS ogC0 60 [1, 1, 1, 1, 1, 0, 1, 0, 0] (loopAt [1, 1, 1, 1, 1, 0, 1, 0] (bodyOf Try.f8)) ogN2 ogI2 17 ogN2 ogE2 17 (ogG n V e0 X t (m + 1) S) =
    bif decide ((0 : Int) < (n : Int)) then ixq 0 t n (m + 1) (some (.normal, ogD n V e0 X t (m + 1) S 1 (lstF (shL (S (0 + (irI 0 t (n : Int)).toNat))) 0 8) 1)) else none := by kernel_rfl
theorem og_q1 (n : Nat) (V : Nat → Nat) (e0 X : Nat) (t : Int) (m : Nat) (S T : Nat → Nat × Nat) (k : Nat) : roundS ogC0 60 [1, 1, 1, 1, 1, 0, 1, 0, 0] (loopAt [1, 1, 1, 1, 1, 0, 1, 0] (bodyOf Try.f8)) ogN2 ogI2 17 ogN2 ogE2 17 (ogD n V e0 X t (m + 1) S (k + 1) (shF T) ((k + 1 : Nat) : Int)) =
    bif decide (((k + 1 : Nat) : Int) < (n : Int)) then ixq ((k + 1 : Nat) : Int) t n (m + 1) (apq (k + 1) (some (.normal, ogD n V e0 X t (m + 1) S (k + 1 + 1) (appF (k + 1) (shF T) (lstF (shL (S (0 + (irI ((k + 1 : Nat) : Int) t (n : Int)).toNat))) 0 8)) (IntKind.i64.wrap (((k + 1 : Nat) : Int) + 1)))))
    else some (.exit 2, ogD n V e0 X t (m + 1) S (k + 1) (shF T) ((k + 1 : Nat) : Int)) := by kernel_rfl
theorem ixq_eq {α : Type} {i n : Nat} {t : Int} (hn : 0 < n) (hn1 : n ≤ 1000) (hi : i < n) (k : Option α) : ixq (i : Int) t n n k = k ∧ (irI (i : Int) t (n : Int)).toNat = (i + rtN t n) % n := by
  have h := irI_eq (t := t) hn hn1 hi
  have hlt := Nat.mod_lt (i + rtN t n) hn
  refine ⟨?_, by rw [h, Int.toNat_natCast]⟩
  unfold ixq
  rw [decide_eq_false (by rw [wrap_u64]; omega), decide_eq_false (by omega), h, iR hlt, Int.toNat_natCast, bL hlt]; rfl
noncomputable def ogT (V : Nat → Nat) (n : Nat) (t : Int) (j : Nat) : Nat × Nat := ogS1 V n ((j + rtN t n) % n)
noncomputable def ogP (n : Nat) (V : Nat → Nat) (e0 X : Nat) (t : Int) : Nat → St
  | 0 => ogG n V e0 X t n (ogS1 V n)
  | k + 1 => ogD n V e0 X t n (ogS1 V n) (k + 1) (shF (ogT V n t)) ((k + 1 : Nat) : Int)
theorem og_loop2 {m : Nat} {V : Nat → Nat} {e0 X : Nat} {t : Int} (hn : m + 1 ≤ 1000) : LoopOk Try.prog 149 (loopAt [1, 1, 1, 1, 1, 0, 1, 0] (bodyOf Try.f8)) (atSt ogN2 ogZ2 17 (ogG (m + 1) V e0 X t (m + 1) (ogS1 V (m + 1))) (.exit 2) (ogD (m + 1) V e0 X t (m + 1) (ogS1 V (m + 1)) (m + 1) (shF (ogT V (m + 1) t)) ((m + 1 : Nat) : Int))) := by
  refine loopE (fun _ => ogC0) (m + 1) (fun _ _ => ⟨mixed, tabOk, ogS_ok, noL⟩) (fun _ => rfl) og_at2 (m := 60) (nt := ogN2) (ni := ogI2) (et := ogN2) (ei := ogE2) (nx := 17) (ex := 17) (ogP (m + 1) V e0 X t) rfl (by intro h; cases h) ?_ ?_
  · intro k hk
    cases k with
    | zero =>
      refine ⟨ogD (m + 1) V e0 X t (m + 1) (ogS1 V (m + 1)) 1 (lstF (shL (ogT V (m + 1) t 0)) 0 8) 1, ?_, stEq_mk rfl (mSame rfl (mSame rfl (mRow (one_row (ks := kN8) rfl) (mSame rfl mNil))))⟩
      refine (og_q0 (m + 1) V e0 X t m _).trans ?_
      have e := ixq_eq (i := 0) (n := m + 1) (t := t) (by omega) hn (by omega) (some (Exit.normal, ogD (m + 1) V e0 X t (m + 1) (ogS1 V (m + 1)) 1 (lstF (shL (ogS1 V (m + 1) (0 + (irI 0 t ((m + 1 : Nat) : Int)).toNat))) 0 8) 1))
      rw [show ((0 : Nat) : Int) = 0 from rfl] at e
      rw [decide_eq_true (by omega), cond_true, e.1, e.2, Nat.zero_add]; rfl
    | succ k =>
      refine ⟨ogD (m + 1) V e0 X t (m + 1) (ogS1 V (m + 1)) (k + 1 + 1) (appF (k + 1) (shF (ogT V (m + 1) t)) (lstF (shL (ogT V (m + 1) t (k + 1))) 0 8)) ((k + 1 + 1 : Nat) : Int), ?_, stEq_mk rfl (mSame rfl (mSame rfl (mRow (app_row (ks := kN8) (fun _ _ => rfl) rfl) (mSame rfl mNil))))⟩
      refine (og_q1 (m + 1) V e0 X t m _ _ k).trans ?_
      have e := fun K => ixq_eq (α := Exit × St) (i := k + 1) (n := m + 1) (t := t) (by omega) hn hk K
      rw [decide_eq_true (by omega), cond_true, (e _).1, (e none).2, apq_eq (by omega), wrap_i64 (by omega), Nat.zero_add]; rfl
  · refine ⟨_, ?_, stEq_refl rfl⟩
    refine (og_q1 (m + 1) V e0 X t m _ _ m).trans ?_
    rw [decide_eq_false (by omega), cond_false]
/-! all of it -/
noncomputable def ogC (m : Nat) (V : Nat → Nat) (e0 X : Nat) (t : Int) (S T : Nat → Nat × Nat) : Cfg := ⟨tab, ogS, 149, [([1, 1, 1, 1, 0, 1, 0], atSt ogN1 ogZ1 16 (ogA (m + 1) V e0 X t) (.exit 0) (ogB (m + 1) V e0 X t (m + 1) (shF S) ((m + 1 : Nat) : Int))), ([1, 1, 1, 1, 1, 0, 1, 0], atSt ogN2 ogZ2 17 (ogG (m + 1) V e0 X t (m + 1) S) (.exit 2) (ogD (m + 1) V e0 X t (m + 1) S (m + 1) (shF T) ((m + 1 : Nat) : Int)))]⟩
noncomputable def ogR (n : Nat) (V : Nat → Nat) (X m : Nat) (S T : Nat → Nat × Nat) : Option Value :=
  zeq (m + 1) (shF S) fun a e => zeq (m + 1) (shF T) fun b f => evq n (nmF V) (smI (wp1 (n : Int))) fun E => apq (m + 1) <| zeq (m + 1 + 1) (appF (m + 1) (shF T) (lstF (shC (smI (wp1 (n : Int))) (num E)) 0 8)) fun d g =>
    evq n (nmF V) (smI (wp1 (n : Int))) fun E2 => r2 (num E2) (num X) <| apq (m + 1) <| zeq (m + 1 + 1) (appF (m + 1) (shF S) (lstF (shC (smI (wp1 (n : Int))) (num (faddN 1 (unnum (num E2)) (unnum (num X))))) 0 8)) fun w h => req (isNum (num X)) <|
    bif e == 0 then (bif f == 0 then (bif g == 0 then (bif h == 0 then (bif eqV (num a) (num b) then (bif eqV (num b) (num d) then (bif eqV (num w) (num a) == eqV (num (redN 1 (unnum (num X)))) (num 0) then some (.bool true) else some (.bool false)) else some (.bool false)) else some (.bool false)) else some (.bool false)) else some (.bool false)) else some (.bool false)) else some (.bool false)
theorem og_ev (m : Nat) (V : Nat → Nat) (X : Nat) (t : Int) (S T : Nat → Nat × Nat) (es : Nat → Nat) : fnA (ogC m V (es 0) X t S T) 200 Try.f8 (bodyOf Try.f8) (cArgs [.sl kN4 (m + 1) (nmF V), .pl (i64 t), .pl (num X)] 0) (cMem es [.sl kN4 (m + 1) (nmF V), .pl (i64 t), .pl (num X)] 0) 0 =
    bif decide (((m + 1 : Nat) : Int) < 1) then some (.bool true) else bif decide (((m + 1 : Nat) : Int) > 5) then some (.bool true) else
      req (stEq (ogA (m + 1) V (es 0) X t) (ogA (m + 1) V (es 0) X t)) (req (stEq (ogG (m + 1) V (es 0) X t (m + 1) S) (ogG (m + 1) V (es 0) X t (m + 1) S)) (ogR (m + 1) V X m S T)) := by kernel_rfl
theorem og_ev0 (n : Nat) (V : Nat → Nat) (X : Nat) (t : Int) (es : Nat → Nat) : fnA ⟨tab, ogS, 149, [([1, 1, 1, 1, 0, 1, 0], fun _ => [])]⟩ 200 Try.f8 (bodyOf Try.f8) (cArgs [.sl kN4 n (nmF V), .pl (i64 t), .pl (num X)] 0) (cMem es [.sl kN4 n (nmF V), .pl (i64 t), .pl (num X)] 0) 0 =
    bif decide ((n : Int) < 1) then some (.bool true) else bif decide ((n : Int) > 5) then some (.bool true) else none := by kernel_rfl
theorem og_true {m : Nat} {V : Nat → Nat} {X : Nat} (t : Int) (hn : m + 1 ≤ 5) (hV : ∀ j, j < m + 1 → V j < 2 ^ 256) (hX : X < 2 ^ 256) : ogR (m + 1) V X m (ogS1 V (m + 1)) (ogT V (m + 1) t) = some (.bool true) := by
  have hr : ∀ j, (j + rtN t (m + 1)) % (m + 1) < m + 1 := fun j => Nat.mod_lt _ (by omega)
  have hS : ∀ j, j < m + 1 → (ogS1 V (m + 1) j).1 < 2 ^ 256 ∧ (ogS1 V (m + 1) j).2 < 2 ^ 256 := fun j hj => ⟨by show j + 1 < _; omega, evN_l _ _ _⟩
  have hT : ∀ j, j < m + 1 → (ogT V (m + 1) t j).1 < 2 ^ 256 ∧ (ogT V (m + 1) t j).2 < 2 ^ 256 := fun j _ => hS _ (hr j)
  have hE : ∀ x : Nat, evN V (m + 1) x < 2 ^ 256 := fun x => evN_l _ _ _
  have hs : ((m + 1 + 1, evN V (m + 1) (m + 1 + 1)) : Nat × Nat).1 < 2 ^ 256 ∧ ((m + 1 + 1, evN V (m + 1) (m + 1 + 1)) : Nat × Nat).2 < 2 ^ 256 := ⟨by show m + 1 + 1 < _; omega, hE _⟩
  have hs2 : ((m + 1 + 1, faddN 1 (evN V (m + 1) (m + 1 + 1)) X) : Nat × Nat).1 < 2 ^ 256 ∧ ((m + 1 + 1, faddN 1 (evN V (m + 1) (m + 1 + 1)) X) : Nat × Nat).2 < 2 ^ 256 := ⟨by show m + 1 + 1 < _; omega, by show faddN 1 _ _ < _; exact faddN_lt _ _⟩
  unfold ogR
  rw [zeq_eq (by omega) hS (fun _ _ => rfl), zeq_eq (by omega) hT (fun _ _ => rfl), wp1_eq (by omega), smI_num (by omega), evq_nm (by omega) hV (by omega), apq_eq (by omega), shC_num, zeq_eq (by omega) (ext_ok hT hs) ext_row,
    evq_nm (by omega) hV (by omega), r2_num, apq_eq (by omega), unnum_lt (hE _), unnum_lt hX, shC_num, zeq_eq (by omega) (ext_ok hS hs2) ext_row, isNum_num, req_true rfl]
  obtain ⟨e1, a1⟩ := ze_poly (X := sX (ogS1 V (m + 1))) (Y := sY (ogS1 V (m + 1))) (V := V) (n := m + 1) (m := m + 1) (by omega) (by omega) (unlike_small (fun j hj => by show j + 1 < _; omega) (fun i j hij hj => by show i + 1 ≠ j + 1; omega)) (Nat.le_refl _) (fun j _ => rfl)
  obtain ⟨e2, a2⟩ := ze_poly (X := sX (ogT V (m + 1) t)) (Y := sY (ogT V (m + 1) t)) (V := V) (n := m + 1) (m := m + 1) (by omega) (by omega)
    (unlike_small (fun j _ => by have := hr j; show (j + rtN t (m + 1)) % (m + 1) + 1 < _; omega) (fun i j hij hj => by have := rt_ne (t := t) (n := m + 1) (by omega) hij hj; show (i + rtN t (m + 1)) % (m + 1) + 1 ≠ (j + rtN t (m + 1)) % (m + 1) + 1; omega)) (Nat.le_refl _) (fun j _ => rfl)
  have hx : ∀ j, j < m + 1 + 1 → sX (extS (ogT V (m + 1) t) (m + 1) (m + 1 + 1, evN V (m + 1) (m + 1 + 1))) j = if j < m + 1 then (j + rtN t (m + 1)) % (m + 1) + 1 else m + 1 + 1 := fun j _ => by
    unfold sX
    by_cases h : j < m + 1
    · rw [ext_lt h, if_pos h]; rfl
    · rw [if_neg h]; unfold extS; rw [if_neg h]
  obtain ⟨e3, a3⟩ := ze_poly (X := sX (extS (ogT V (m + 1) t) (m + 1) (m + 1 + 1, evN V (m + 1) (m + 1 + 1)))) (Y := sY (extS (ogT V (m + 1) t) (m + 1) (m + 1 + 1, evN V (m + 1) (m + 1 + 1)))) (V := V) (n := m + 1) (m := m + 1 + 1) (by omega) (by omega)
    (unlike_small (fun j hj => by
      rw [hx j hj]
      have := hr j
      split <;> omega) (fun i j hij hj => by
      rw [hx i (by omega), hx j hj, if_pos (by omega)]
      by_cases h : j < m + 1
      · have := rt_ne (t := t) (n := m + 1) (by omega) hij h
        rw [if_pos h]; omega
      · have := hr i
        rw [if_neg h]; omega)) (by omega) (fun j hj => by
      unfold sX sY
      by_cases h : j < m + 1
      · rw [ext_lt h]; rfl
      · have : j = m + 1 := by omega
        subst this
        rw [ext_at])
  have hy : ∀ j, j < m + 1 + 1 → sX (extS (ogS1 V (m + 1)) (m + 1) (m + 1 + 1, faddN 1 (evN V (m + 1) (m + 1 + 1)) X)) j = j + 1 := fun j hj => by
    unfold sX
    by_cases h : j < m + 1
    · rw [ext_lt h]; rfl
    · have : j = m + 1 := by omega
      subst this; rw [ext_at]
  have hu : Unlike (sX (extS (ogS1 V (m + 1)) (m + 1) (m + 1 + 1, faddN 1 (evN V (m + 1) (m + 1 + 1)) X))) (m + 1 + 1) := unlike_small (fun j hj => by rw [hy j hj]; omega) (fun i j hij hj => by rw [hy i (by omega), hy j hj]; omega)
  have e4 := ckN_ok (X := sX (extS (ogS1 V (m + 1)) (m + 1) (m + 1 + 1, faddN 1 (evN V (m + 1) (m + 1 + 1)) X))) (n := m + 1 + 1) (by omega) (by omega) (of_unlike hu)
  have a4 := ze_other (X := sX (extS (ogS1 V (m + 1)) (m + 1) (m + 1 + 1, faddN 1 (evN V (m + 1) (m + 1 + 1)) X))) (Y := sY (extS (ogS1 V (m + 1)) (m + 1) (m + 1 + 1, faddN 1 (evN V (m + 1) (m + 1 + 1)) X))) (V := V) (n := m + 1) (M := X) (by omega) hu (fun j hj => by rw [hy j hj]; omega)
    (fun j hj => by rw [hy j (by omega)]; unfold sY; rw [ext_lt hj]; rfl) (by rw [hy (m + 1) (by omega)]; unfold sY; rw [ext_at, nAdd_def])
  have z1 := zeN_p (sX (ogS1 V (m + 1))) (sY (ogS1 V (m + 1))) (m + 1)
  have z2 := zeN_p (sX (ogT V (m + 1) t)) (sY (ogT V (m + 1) t)) (m + 1)
  have z3 := zeN_p (sX (extS (ogT V (m + 1) t) (m + 1) (m + 1 + 1, evN V (m + 1) (m + 1 + 1)))) (sY (extS (ogT V (m + 1) t) (m + 1) (m + 1 + 1, evN V (m + 1) (m + 1 + 1)))) (m + 1 + 1)
  have z4 := zeN_p (sX (extS (ogS1 V (m + 1)) (m + 1) (m + 1 + 1, faddN 1 (evN V (m + 1) (m + 1 + 1)) X))) (sY (extS (ogS1 V (m + 1)) (m + 1) (m + 1 + 1, faddN 1 (evN V (m + 1) (m + 1 + 1)) X))) (m + 1 + 1)
  have f1 := cg_eq z1 z2 (cg_trans a1 (cg_symm a2))
  have f2 := cg_eq z2 z3 (cg_trans a2 (cg_symm a3))
  rw [e1, e2, e3, e4, ← f2, ← f1]
  have q1 : ∀ A, A < pN → eqV (num A) (num A) = true := fun A _ => by rw [eqV_num]; exact decide_eq_true rfl
  rw [q1 _ z1]
  have q2 : (eqV (num (zeN (sX (extS (ogS1 V (m + 1)) (m + 1) (m + 1 + 1, faddN 1 (evN V (m + 1) (m + 1 + 1)) X))) (sY (extS (ogS1 V (m + 1)) (m + 1) (m + 1 + 1, faddN 1 (evN V (m + 1) (m + 1 + 1)) X))) (m + 1 + 1))) (num (zeN (sX (ogS1 V (m + 1))) (sY (ogS1 V (m + 1))) (m + 1))) == eqV (num (redN 1 X)) (num 0)) = true := by
    rw [eqV_num, eqV_num, Nat.mod_eq_of_lt (p_lt z4), Nat.mod_eq_of_lt (p_lt z1), ← nRed_def, Nat.mod_eq_of_lt (p_lt (nRed_p X)), Nat.zero_mod, beq_iff_eq, Bool.eq_iff_iff, decide_eq_true_eq, decide_eq_true_eq]
    constructor
    · intro h
      have h1 := a4.1 (by rw [h]; exact a1)
      exact cg_eq (B := 0) (nRed_p X) n1_pos (cg_trans (cRed X) (cg_zero.2 h1))
    · intro h
      have h1 := cRed X
      rw [h] at h1
      exact cg_eq z4 z1 (cg_trans (a4.2 (cg_zero.1 (cg_symm h1))) (cg_symm a1))
  rw [q2]; rfl
theorem og_calls {W : World} {n : Nat} {V : Nat → Nat} {X : Nat} {t : Int} {v0 : Value} (hV : ∀ j, V j < 2 ^ 256) (hX : X < 2 ^ 256) (h0 : SrcW W kN4 n (fun i => nmL (V i)) v0) :
    Calls Try.prog 8 #[v0, i64 t, num X] W fun e w' => e = .returned (.bool true) ∧ Go.RowKit.Below W.heap.size W w' := by
  refine law_sound (c := bodyOf Try.f8) (args' := [v0, i64 t, num X]) Try.func8 (by kernel_rfl) (A := [.sl kN4 n (nmF V), .pl (i64 t), .pl (num X)]) ⟨h0, rfl, rfl, rfl, rfl, trivial⟩ (GOk_nil _) (by show 3 ≤ Try.f8.ntmps; decide +kernel) rfl (by intro vs h; cases h) (fuel := 200) (next := 0) fun es => ?_
  by_cases h : 0 < n ∧ n ≤ 5
  · obtain ⟨m, rfl⟩ : ∃ m, n = m + 1 := ⟨n - 1, by omega⟩
    refine ⟨ogC m V (es 0) X t (ogS1 V (m + 1)) (ogT V (m + 1) t), ⟨mixed, tabOk, ogS_ok, consL (og_loop1 (by omega) (fun j _ => hV j)) (oneL (og_loop2 (by omega)))⟩, rfl, ?_⟩
    refine (og_ev m V X t _ _ es).trans ?_
    rw [decide_eq_false (by omega), decide_eq_false (by omega), cond_false, cond_false, req_true (stEq_refl rfl), req_true (stEq_refl rfl)]
    exact og_true t h.2 (fun j _ => hV j) hX
  · refine ⟨⟨tab, ogS, 149, [([1, 1, 1, 1, 0, 1, 0], fun _ => [])]⟩, ⟨mixed, tabOk, ogS_ok, noneL2⟩, rfl, ?_⟩
    refine (og_ev0 n V X t es).trans ?_
    by_cases h1 : n < 1
    · rw [decide_eq_true (by omega)]; rfl
    · rw [decide_eq_false (by omega), decide_eq_true (by omega)]; rfl
end Go.Proofs.Ytpkoldooncpggaa
