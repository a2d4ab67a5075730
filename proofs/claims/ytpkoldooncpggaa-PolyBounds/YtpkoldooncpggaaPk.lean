/-
  PolyBounds.
-/
import Derived.Test.YtpkoldooncpggaaSp
import Derived.Test.YtpkoldooncpggaaEi
namespace Go.Proofs.Ytpkoldooncpggaa
set_option maxRecDepth 100000
open Go.W

noncomputable def boS : Sums := [(15, ZeF), (17, ThkF 25), (20, RedF), (22, PrimeF), (19, Wk6F)]
theorem boS_ok : SumsOk Try.prog boS := sums_consM ze_msum (sums_consM (MSum_sub th_msum (ThkF_sub _)) (sums_cons Red_sum (sums_cons Prime_sum (sums_cons wk6_sum sums_nil))))
noncomputable def boS' : Sums := [(15, ZeF), (17, ThnF), (20, RedF), (22, PrimeF), (19, Wk6F)]
theorem boS_ok' : SumsOk Try.prog boS' := sums_consM ze_msum (sums_consM (MSum_sub th_msum (ThnF_sub 25)) (sums_cons Red_sum (sums_cons Prime_sum (sums_cons wk6_sum sums_nil))))
noncomputable def boC0 : Cfg := ⟨tab, boS, 125, []⟩
theorem bo_at1 : codeAt [1, 1, 1, 0, 1, 0] (bodyOf Try.f6) = some (.loop (loopAt [1, 1, 1, 0, 1, 0] (bodyOf Try.f6))) := by kernel_rfl
theorem bo_at2 : codeAt [1, 1, 1, 1, 1, 1, 1, 1, 0, 1, 0] (bodyOf Try.f6) = some (.loop (loopAt [1, 1, 1, 1, 1, 1, 1, 1, 0, 1, 0] (bodyOf Try.f6))) := by kernel_rfl
def boB1 : Nat := nid 0 0
def boB2 : Nat := nid 19 0
def boN1 : List Nat := [0, 2, 4, 7, 8]
def boI1 : Ren := [(0, 0), (boB1, nid 21 0)]
def boE1 : Ren := [(0, 0), (boB1, boB1)]
def boZ1 : List Nat := [0]
def boA (n : Nat) (X : Nat) (b : Bool) : St := ⟨[(0, i64 (n : Nat)), (2, .bool b), (4, ptr 0), (7, .slice none 0 0), (8, i64 0)], [(0, ⟨cells4 X, 25, true⟩)], 10⟩
def boB (n : Nat) (X : Nat) (b : Bool) (m : Nat) (g : Nat → List Value) (i : Int) : St := ⟨[(0, i64 (n : Nat)), (2, .bool b), (4, ptr 0), (7, .slice (some ⟨boB1, 0, none⟩) m m), (8, i64 i)], [(0, ⟨cells4 X, 25, true⟩), (boB1, ⟨.row kN8 m g, 29, true⟩)], 10⟩
theorem bo_r0 (n X : Nat) (b : Bool) : roundS boC0 60 [1, 1, 1, 0, 1, 0, 0] (loopAt [1, 1, 1, 0, 1, 0] (bodyOf Try.f6)) boN1 boI1 10 boN1 boE1 10 (boA n X b) =
    bif decide ((0 : Int) < (n : Int)) then some (.normal, boB n X b 1 (lstF (shC (smI (wp1 0)) (num X)) 0 8) 1) else none := by kernel_rfl
theorem bo_z (X : Nat) (b : Bool) : roundS boC0 60 [1, 1, 1, 0, 1, 0, 0] (loopAt [1, 1, 1, 0, 1, 0] (bodyOf Try.f6)) boN1 boI1 10 boN1 boZ1 10 (boA 0 X b) = some (.exit 0, boA 0 X b) := by kernel_rfl
theorem bo_r1 (n X : Nat) (b : Bool) (S : Nat → Nat × Nat) (k : Nat) : roundS boC0 60 [1, 1, 1, 0, 1, 0, 0] (loopAt [1, 1, 1, 0, 1, 0] (bodyOf Try.f6)) boN1 boI1 10 boN1 boE1 10 (boB n X b (k + 1) (shF S) ((k + 1 : Nat) : Int)) =
    bif decide (((k + 1 : Nat) : Int) < (n : Int)) then apq (k + 1) (some (.normal, boB n X b (k + 1 + 1) (appF (k + 1) (shF S) (lstF (shC (smI (wp1 ((k + 1 : Nat) : Int))) (num X)) 0 8)) (IntKind.i64.wrap (((k + 1 : Nat) : Int) + 1))))
    else some (.exit 0, boB n X b (k + 1) (shF S) ((k + 1 : Nat) : Int)) := by kernel_rfl
def boS1 (X j : Nat) : Nat × Nat := (j + 1, X)
def boQ (n X : Nat) (b : Bool) : Nat → St
  | 0 => boA n X b
  | k + 1 => boB n X b (k + 1) (shF (boS1 X)) ((k + 1 : Nat) : Int)
theorem bo_loop1 {m X : Nat} {b : Bool} (hn : m + 1 ≤ 900) : LoopOk Try.prog 125 (loopAt [1, 1, 1, 0, 1, 0] (bodyOf Try.f6)) (atSt boN1 boZ1 10 (boA (m + 1) X b) (.exit 0) (boB (m + 1) X b (m + 1) (shF (boS1 X)) ((m + 1 : Nat) : Int))) := by
  refine loopE (fun _ => boC0) (m + 1) (fun _ _ => ⟨mixed, tabOk, boS_ok, noL⟩) (fun _ => rfl) bo_at1 (m := 60) (nt := boN1) (ni := boI1) (et := boN1) (ei := boE1) (nx := 10) (ex := 10) (boQ (m + 1) X b) rfl (by intro h; cases h) ?_ ?_
  · intro k hk
    cases k with
    | zero =>
      refine ⟨boB (m + 1) X b 1 (lstF (shL (boS1 X 0)) 0 8) 1, ?_, stEq_mk rfl (mSame rfl (mRow (one_row (ks := kN8) rfl) mNil))⟩
      refine (bo_r0 (m + 1) X b).trans ?_
      have e : wp1 0 = ((0 + 1 : Nat) : Int) := wp1_eq (k := 0) (by omega)
      rw [decide_eq_true (by omega), cond_true, e, smI_num (by omega), shC_num]; rfl
    | succ k =>
      refine ⟨boB (m + 1) X b (k + 1 + 1) (appF (k + 1) (shF (boS1 X)) (lstF (shL (boS1 X (k + 1))) 0 8)) ((k + 1 + 1 : Nat) : Int), ?_, stEq_mk rfl (mSame rfl (mRow (app_row (ks := kN8) (fun _ _ => rfl) rfl) mNil))⟩
      refine (bo_r1 (m + 1) X b _ k).trans ?_
      rw [decide_eq_true (by omega), cond_true, apq_eq (by omega), wp1_eq (by omega), smI_num (by omega), shC_num, wrap_i64 (by omega)]; rfl
  · refine ⟨_, ?_, stEq_refl rfl⟩
    refine (bo_r1 (m + 1) X b _ m).trans ?_
    rw [decide_eq_false (by omega), cond_false]
theorem bo_loopz {X : Nat} {b : Bool} : LoopOk Try.prog 125 (loopAt [1, 1, 1, 0, 1, 0] (bodyOf Try.f6)) (atSt boN1 boZ1 10 (boA 0 X b) (.exit 0) (boA 0 X b)) :=
  loopE (fun _ => boC0) 0 (fun _ _ => ⟨mixed, tabOk, boS_ok, noL⟩) (fun _ => rfl) bo_at1 (m := 60) (nt := boN1) (ni := boI1) (et := boN1) (ei := boZ1) (nx := 10) (ex := 10) (fun _ => boA 0 X b) rfl (by intro h; cases h) (fun k hk => absurd hk (by omega)) ⟨_, bo_z X b, stEq_refl rfl⟩
def boN2 : List Nat := [0, 2, 4, 7, 11, 13]
def boI2 : List Nat := [0, boB1, boB2]
def boD (n X : Nat) (b : Bool) (m : Nat) (S : Nat → Nat × Nat) (C : Nat → Nat) (i : Int) : St := ⟨[(0, i64 (n : Nat)), (2, .bool b), (4, ptr 0), (7, .slice (some ⟨boB1, 0, none⟩) m m), (11, .slice (some ⟨boB2, 0, none⟩) m m), (13, i64 i)], [(0, ⟨cells4 X, 25, true⟩), (boB1, ⟨.row kN8 m (shF S), 29, true⟩), (boB2, ⟨.row kN4 m (nmF C), 25, true⟩)], 52⟩
theorem bo_q (n X : Nat) (b : Bool) (m : Nat) (S : Nat → Nat × Nat) (C : Nat → Nat) (i : Nat) : roundS boC0 60 [1, 1, 1, 1, 1, 1, 1, 1, 0, 1, 0, 0] (loopAt [1, 1, 1, 1, 1, 1, 1, 1, 0, 1, 0] (bodyOf Try.f6)) boN2 boI2 52 boN2 boI2 52 (boD n X b m S C (i : Int)) =
    bif decide ((i : Int) < (n : Int)) then rdR i m (bif !(eqV (num (C (0 + i))) (num 0)) then some (.ret, boD n X b m S C (i : Int)) else some (.normal, boD n X b m S C (IntKind.i64.wrap ((i : Int) + 1))))
    else some (.exit 2, boD n X b m S C (i : Int)) := by kernel_rfl
theorem bo_loop2 {m X : Nat} {b : Bool} {S : Nat → Nat × Nat} {C : Nat → Nat} (hn : m + 1 ≤ 900) (hC : ∀ j, j < m + 1 → j ≠ 0 → C j = 0) : LoopOk Try.prog 125 (loopAt [1, 1, 1, 1, 1, 1, 1, 1, 0, 1, 0] (bodyOf Try.f6)) (atSt boN2 boI2 52 (boD (m + 1) X b (m + 1) S C 1) (.exit 2) (boD (m + 1) X b (m + 1) S C ((m + 1 : Nat) : Int))) := by
  refine loopE (fun _ => boC0) m (fun _ _ => ⟨mixed, tabOk, boS_ok, noL⟩) (fun _ => rfl) bo_at2 (m := 60) (nt := boN2) (ni := boI2) (et := boN2) (ei := boI2) (nx := 52) (ex := 52) (fun i => boD (m + 1) X b (m + 1) S C ((i + 1 : Nat) : Int)) rfl (by intro h; cases h) ?_ ?_
  · intro i hi
    refine ⟨_, ?_, stEq_refl rfl⟩
    refine (bo_q (m + 1) X b (m + 1) S C (i + 1)).trans ?_
    rw [decide_eq_true (by omega), cond_true, rdR_eq (by omega), Nat.zero_add, hC (i + 1) (by omega) (by omega), eqq, wrap_i64 (by omega)]; rfl
  · refine ⟨_, ?_, stEq_refl rfl⟩
    refine (bo_q (m + 1) X b (m + 1) S C (m + 1)).trans ?_
    rw [decide_eq_false (by omega), cond_false]
def boF : Option Value := some (.bool false)
noncomputable def boC (m X : Nat) (b : Bool) (S : Nat → Nat × Nat) (C : Nat → Nat) : Cfg := ⟨tab, boS, 125, [([1, 1, 1, 0, 1, 0], atSt boN1 boZ1 10 (boA (m + 1) X b) (.exit 0) (boB (m + 1) X b (m + 1) (shF S) ((m + 1 : Nat) : Int))), ([1, 1, 1, 1, 1, 1, 1, 1, 0, 1, 0], atSt boN2 boI2 52 (boD (m + 1) X b (m + 1) S C 1) (.exit 2) (boD (m + 1) X b (m + 1) S C ((m + 1 : Nat) : Int)))]⟩
def boX1 : List Value := [.int .u64 (IntKind.u64.wrap (((dig pN 0 : Nat) : Int) + 1)), u64 (dig pN 1), u64 (dig pN 2), u64 (dig pN 3)]
noncomputable def boL (m : Nat) (S : Nat → Nat × Nat) (L : List Value) : Option Value := apq (m + 1) (zeq (m + 1 + 1) (appF (m + 1) (shF S) (lstF L 0 8)) fun _ e => bif e == 6 then some (.bool true) else boF)
noncomputable def boR (m X : Nat) (b : Bool) (S : Nat → Nat × Nat) (C : Nat → Nat) : Option Value :=
  zeq (m + 1) (shF S) fun _ e => thkq (m + 1) (shF S) fun D => bif decide (((m + 1 : Nat) : Int) < 1) then (bif e == 4 then boF else boF) else bif decide (((m + 1 : Nat) : Int) > 64) then (bif e == 4 then boF else boF) else
    bif e != 0 then boF else bif ((m + 1 : Nat) : Int) != ((m + 1 : Nat) : Int) then boF else rdR 0 (m + 1) (req (isNum (num X)) (bif !(eqV (num (D 0)) (num (redN 1 (unnum (num X))))) then boF else
    req (stEq (boD (m + 1) X b (m + 1) S D 1) (boD (m + 1) X b (m + 1) S C 1)) (bif ((m + 1 : Nat) : Int) == 64 then some (.bool true) else rdR 0 (m + 1) (bif b then boL m S (boX1 ++ (num (S 0).2).cells.toList) else boL m S (shL (S 0))))))
theorem bo_ev (m X : Nat) (b : Bool) (S : Nat → Nat × Nat) (C : Nat → Nat) (es : Nat → Nat) : fnA (boC m X b S C) 200 Try.f6 (bodyOf Try.f6) (cArgs [.pl (i64 ((m + 1 : Nat) : Int)), .pl (num X), .pl (.bool b)] 0) (cMem es [.pl (i64 ((m + 1 : Nat) : Int)), .pl (num X), .pl (.bool b)] 0) 0 =
    bif decide (((m + 1 : Nat) : Int) < 0) then some (.bool true) else bif decide (((m + 1 : Nat) : Int) > 67) then some (.bool true) else
      req (stEq (boA (m + 1) X b) (boA (m + 1) X b)) (boR m X b S C) := by kernel_rfl
/-! too many, or none -/
noncomputable def boC' (m X : Nat) (b : Bool) (S : Nat → Nat × Nat) : Cfg := ⟨tab, boS', 125, [([1, 1, 1, 0, 1, 0], atSt boN1 boZ1 10 (boA (m + 1) X b) (.exit 0) (boB (m + 1) X b (m + 1) (shF S) ((m + 1 : Nat) : Int))), ([1, 1, 1, 1, 1, 1, 1, 1, 0, 1, 0], fun _ => [])]⟩
def boG (e f : Int) : Option Value := bif e == 4 then (bif f == 4 then some (.bool true) else boF) else boF
theorem bo_ev1 (m X : Nat) (b : Bool) (S : Nat → Nat × Nat) (es : Nat → Nat) : fnA (boC' m X b S) 200 Try.f6 (bodyOf Try.f6) (cArgs [.pl (i64 ((m + 1 : Nat) : Int)), .pl (num X), .pl (.bool b)] 0) (cMem es [.pl (i64 ((m + 1 : Nat) : Int)), .pl (num X), .pl (.bool b)] 0) 0 =
    bif decide (((m + 1 : Nat) : Int) < 0) then some (.bool true) else bif decide (((m + 1 : Nat) : Int) > 67) then some (.bool true) else
      req (stEq (boA (m + 1) X b) (boA (m + 1) X b)) (zeq (m + 1) (shF S) fun _ e => thnq (m + 1) (shF S) fun f => bif decide (((m + 1 : Nat) : Int) < 1) then boG e f else bif decide (((m + 1 : Nat) : Int) > 64) then boG e f else bif e != 0 then boF else bif f != 0 then boF else bif (0 : Int) != ((m + 1 : Nat) : Int) then boF else none) := by kernel_rfl
noncomputable def boC2 (X : Nat) (b : Bool) : Cfg := ⟨tab, boS', 125, [([1, 1, 1, 0, 1, 0], atSt boN1 boZ1 10 (boA 0 X b) (.exit 0) (boA 0 X b)), ([1, 1, 1, 1, 1, 1, 1, 1, 0, 1, 0], fun _ => [])]⟩
def noF : Nat → List Value := fun _ => []
theorem bo_ev2 (X : Nat) (b : Bool) (es : Nat → Nat) : fnA (boC2 X b) 200 Try.f6 (bodyOf Try.f6) (cArgs [.pl (i64 ((0 : Nat) : Int)), .pl (num X), .pl (.bool b)] 0) (cMem es [.pl (i64 ((0 : Nat) : Int)), .pl (num X), .pl (.bool b)] 0) 0 =
    req (stEq (boA 0 X b) (boA 0 X b)) (req (true && okS 0 noF) (req (true && okS 0 noF && (ckN (xA noF) 0 != 0)) (boG (ckN (xA noF) 0) (ckN (xA noF) 0)))) := by kernel_rfl
theorem bo_ev0 (N : Int) (X : Nat) (b : Bool) (es : Nat → Nat) : fnA ⟨tab, boS', 125, [([1, 1, 1, 0, 1, 0], fun _ => [])]⟩ 200 Try.f6 (bodyOf Try.f6) (cArgs [.pl (i64 N), .pl (num X), .pl (.bool b)] 0) (cMem es [.pl (i64 N), .pl (num X), .pl (.bool b)] 0) 0 =
    bif decide (N < 0) then some (.bool true) else bif decide (N > 67) then some (.bool true) else none := by kernel_rfl
theorem boX1_eq : boX1 = cells4 (pN + 1) := by kernel_rfl
theorem bo_last {m X : Nat} (hm : m + 1 < 64) {s : Nat × Nat} (hX : X < 2 ^ 256) (hs : s.1 < 2 ^ 256 ∧ s.2 < 2 ^ 256) (he : nSub s.1 1 = 0) : boL m (boS1 X) (shL s) = some (.bool true) := by
  have hS : ∀ j, j < m + 1 → (boS1 X j).1 < 2 ^ 256 ∧ (boS1 X j).2 < 2 ^ 256 := fun j hj => ⟨by show j + 1 < _; omega, hX⟩
  unfold boL
  rw [apq_eq (by omega), zeq_eq (by omega) (ext_ok hS hs) ext_row]
  have : ckN (sX (extS (boS1 X) (m + 1) s)) (m + 1 + 1) = 6 := by
    refine ckN_bad (by omega) (by omega) ⟨m + 1, by omega, 0, by omega, ?_⟩
    unfold sX
    rw [ext_at, ext_lt (by omega)]; exact he
  rw [this]; rfl
theorem bo_true {m X : Nat} (b : Bool) (hn : m + 1 ≤ 64) (hX : X < 2 ^ 256) : (∀ j, j < m + 1 → j ≠ 0 → trhN (sX (boS1 X)) (sY (boS1 X)) (m + 1) j = 0) ∧ boR m X b (boS1 X) (trhN (sX (boS1 X)) (sY (boS1 X)) (m + 1)) = some (.bool true) := by
  have hS : ∀ j, j < m + 1 → (boS1 X j).1 < 2 ^ 256 ∧ (boS1 X j).2 < 2 ^ 256 := fun j hj => ⟨by show j + 1 < _; omega, hX⟩
  have hu : Unlike (sX (boS1 X)) (m + 1) := unlike_small (fun j hj => by show j + 1 < _; omega) (fun i j hij hj => by show i + 1 ≠ j + 1; omega)
  have hc := ckN_ok (X := sX (boS1 X)) (n := m + 1) (by omega) (by omega) (of_unlike hu)
  have hp := trhN_p (sX (boS1 X)) (sY (boS1 X)) (m + 1)
  have hk := th_only hu (U := trhN (sX (boS1 X)) (sY (boS1 X)) (m + 1)) (D := fun k => if k = 0 then X else 0) (fun j hj => by
    refine cg_trans (Go.W.th_at hu (sY (boS1 X)) hj) (cg_symm (cg_of ?_))
    show (X : Int) + nI (sX (boS1 X)) j * pEv (pFL (fun k => if k = 0 then X else 0) 1 m) (nI (sX (boS1 X)) j) = ((X : Nat) : Int)
    rw [pfl_zero m 1 (fun k _ => if_neg (by omega)), Int.mul_zero, Int.add_zero])
  have h0 : trhN (sX (boS1 X)) (sY (boS1 X)) (m + 1) 0 = nRed X := by
    refine cg_eq (hp 0) (nRed_p X) (cg_trans (hk 0 (by omega)) ?_)
    rw [if_pos rfl]; exact cg_symm (cRed X)
  refine ⟨fun j hj hne => ?_, ?_⟩
  · refine cg_eq (hp j) n1_pos (cg_trans (hk j hj) ?_)
    rw [if_neg hne]; exact cg_refl _
  · unfold boR
    rw [zeq_eq (by omega) hS (fun _ _ => rfl), thkq_eq (by omega) hS (fun _ _ => rfl) hc, hc, decide_eq_false (by omega), decide_eq_false (by omega), cond_false, cond_false, show ((0 : Int) != 0) = false from rfl, cond_false, bne_self_eq_false, cond_false, rdR_eq (by omega), isNum_num, req_true rfl, unnum_lt hX, ← nRed_def, h0, eqq, Bool.not_true, cond_false, req_true (stEq_refl rfl), rdR_eq (by omega)]
    by_cases h64 : m + 1 = 64
    · rw [show (((m + 1 : Nat) : Int) == 64) = true from by rw [beq_iff_eq]; omega]; rfl
    · rw [show (((m + 1 : Nat) : Int) == 64) = false from by rw [beq_eq_false_iff_ne]; omega, cond_false]
      cases b with
      | true =>
        rw [cond_true, boX1_eq]
        exact bo_last (s := (pN + 1, X)) (by omega) hX ⟨(by decide : pN + 1 < 2 ^ 256), hX⟩ (by
          refine cg_eq (B := 0) (nSub_p _ _) n1_pos (cg_trans (cSub _ _) ?_)
          unfold cg
          have e : ((pN + 1 : Nat) : Int) - ((1 : Nat) : Int) - ((0 : Nat) : Int) = ((pN : Nat) : Int) := by omega
          rw [e]; exact Int.dvd_refl _)
      | false =>
        rw [cond_false]
        exact bo_last (s := (1, X)) (by omega) hX ⟨(by decide : 1 < 2 ^ 256), hX⟩ (by
          refine cg_eq (B := 0) (nSub_p _ _) n1_pos (cg_trans (cSub _ _) (cg_of ?_))
          rfl)
theorem bo_calls {W : World} {N : Int} {X : Nat} {b : Bool} (hX : X < 2 ^ 256) :
    Calls Try.prog 6 #[i64 N, num X, .bool b] W fun e w' => e = .returned (.bool true) ∧ Go.RowKit.Below W.heap.size W w' := by
  refine law_sound (c := bodyOf Try.f6) (args' := [i64 N, num X, .bool b]) Try.func6 (by kernel_rfl) (A := [.pl (i64 N), .pl (num X), .pl (.bool b)]) ⟨rfl, rfl, rfl, rfl, rfl, rfl, trivial⟩ (GOk_nil _) (by show 3 ≤ Try.f6.ntmps; decide +kernel) rfl (by intro vs h; cases h) (fuel := 200) (next := 0) fun es => ?_
  by_cases h : 0 ≤ N ∧ N ≤ 67
  · obtain ⟨n, rfl⟩ : ∃ n : Nat, N = (n : Int) := ⟨N.toNat, by omega⟩
    cases n with
    | zero =>
      refine ⟨boC2 X b, ⟨mixed, tabOk, boS_ok', consL bo_loopz noneL2⟩, rfl, ?_⟩
      refine (bo_ev2 X b es).trans ?_
      rw [req_true (stEq_refl rfl), show okS 0 noF = true from okS_iff.2 ⟨by decide, fun j hj => absurd hj (by omega)⟩, ckN_len (.inl rfl)]; rfl
    | succ m =>
      by_cases hm : m + 1 ≤ 64
      · obtain ⟨h1, h2⟩ := bo_true (m := m) (X := X) b hm hX
        refine ⟨boC m X b (boS1 X) (trhN (sX (boS1 X)) (sY (boS1 X)) (m + 1)), ⟨mixed, tabOk, boS_ok, consL (bo_loop1 (by omega)) (oneL (bo_loop2 (by omega) h1))⟩, rfl, ?_⟩
        refine (bo_ev m X b _ _ es).trans ?_
        rw [decide_eq_false (by omega), decide_eq_false (by omega), cond_false, cond_false, req_true (stEq_refl rfl)]
        exact h2
      · have hS : ∀ j, j < m + 1 → (boS1 X j).1 < 2 ^ 256 ∧ (boS1 X j).2 < 2 ^ 256 := fun j hj => ⟨by show j + 1 < _; omega, hX⟩
        have hc := ckN_len (X := sX (boS1 X)) (n := m + 1) (.inr (by omega))
        refine ⟨boC' m X b (boS1 X), ⟨mixed, tabOk, boS_ok', consL (bo_loop1 (by omega)) noneL2⟩, rfl, ?_⟩
        refine (bo_ev1 m X b _ es).trans ?_
        rw [decide_eq_false (by omega), decide_eq_false (by omega), cond_false, cond_false, req_true (stEq_refl rfl), zeq_eq (by omega) hS (fun _ _ => rfl), thnq_eq (by omega) hS (fun _ _ => rfl) (by rw [hc]; decide), hc, decide_eq_false (by omega), decide_eq_true (by omega)]; rfl
  · refine ⟨⟨tab, boS', 125, [([1, 1, 1, 0, 1, 0], fun _ => [])]⟩, ⟨mixed, tabOk, boS_ok', noneL2⟩, rfl, ?_⟩
    refine (bo_ev0 N X b es).trans ?_
    by_cases h1 : N < 0
    · rw [decide_eq_true h1]; rfl
    · rw [decide_eq_false h1, decide_eq_true (by omega)]; rfl
end Go.Proofs.Ytpkoldooncpggaa
