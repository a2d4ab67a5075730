/-
  FeldLong.
-/
import Derived.Test.YtbklbmiddacaiaaSq
import Derived.Test.YtbklbmiddacaiaaEj
namespace Go.Proofs.Ytbklbmiddacaiaa
set_option maxRecDepth 100000
open Go.W

def flC : Nat := nid 17 0
def flL : Nat := nid 21 0
def flR : Nat := nid 0 0
def flT (k : Nat) : Nat := nid (100 + k) 0
noncomputable def flSk : Sums := [(21, CmkF 45), (22, AtF), (33, FlSumF 45), (28, Wk7F)]
theorem flSk_ok : SumsOk Try.prog flSk := sums_consM cmk_msum (sums_consM fa_msum (sums_consM (FlSum_ok smk_msum smn_msum smz_msum) (sums_cons wk7_sum sums_nil)))
noncomputable def flSn : Sums := [(21, CmnF), (22, AtF), (33, FlSumF 45), (28, Wk7F)]
theorem flSn_ok : SumsOk Try.prog flSn := sums_consM cmn_msum (sums_consM fa_msum (sums_consM (FlSum_ok smk_msum smn_msum smz_msum) (sums_cons wk7_sum sums_nil)))
def flC0 : Cfg := ⟨tab, [], 130, []⟩
theorem fl_at1 : codeAt [1, 1, 1, 1, 0, 1, 0] (bodyOf Try.f7) = some (.loop (loopAt [1, 1, 1, 1, 0, 1, 0] (bodyOf Try.f7))) := by kernel_rfl
theorem fl_at2 : codeAt [1, 1, 1, 1, 1, 1, 1, 1, 0, 1, 0] (bodyOf Try.f7) = some (.loop (loopAt [1, 1, 1, 1, 1, 1, 1, 1, 0, 1, 0] (bodyOf Try.f7))) := by kernel_rfl
def flN1 : List Nat := [0, 1, 5, 6, 7]
def flI1 : List Nat := [flC, flL]
def flSt (x y : Int) (n : Nat) (g : Nat → List Value) (i : Int) : St :=
  ⟨[(0, i64 x), (1, i64 y), (5, .slice (some ⟨flC, 0, none⟩) n n), (6, .slice (some ⟨flL, 0, none⟩) n n), (7, i64 i)], [(flC, ⟨.row kN4 n (fun _ => [u64 0, u64 0, u64 0, u64 0]), 25, true⟩), (flL, ⟨.row kP9 n g, 45, true⟩)], 24⟩
theorem fl_r (x y : Int) (n : Nat) (U : Nat → RP) (k : Nat) : roundS flC0 60 [1, 1, 1, 1, 0, 1, 0, 0] (loopAt [1, 1, 1, 1, 0, 1, 0] (bodyOf Try.f7)) flN1 flI1 24 flN1 flI1 24 (flSt x y n (ptF U) (k : Int)) =
    bif decide ((k : Int) < (n : Int)) then rdR k n (some (.normal, flSt x y n (updR (ptF U) (0 + k) (ptC (true, (U (0 + k)).2))) (IntKind.i64.wrap ((k : Int) + 1))))
    else some (.exit 0, flSt x y n (ptF U) (k : Int)) := by kernel_rfl
def flTm : Nat → List (Nat × Blk)
  | 0 => []
  | k + 1 => flTm k ++ [(flT k, ⟨.tail flL 0 2 9, 45, false⟩)]
def flSl (n : Nat) : Nat → List Value
  | 0 => []
  | k + 1 => flSl n k ++ [.slice (some ⟨flT k, 0, none⟩) 2 n]
def flRm (n : Nat) : Nat → List (Nat × Blk)
  | 0 => []
  | k + 1 => [(flR, ⟨.lst (flSl n (k + 1)), 40, true⟩)]
def flRv : Nat → Value
  | 0 => .slice none 0 0
  | k + 1 => .slice (some ⟨flR, 0, none⟩) (k + 1) (k + 1)
def flId : Nat → Ren
  | 0 => []
  | k + 1 => flId k ++ [(flT k, flT k)]
def flIe : Nat → Ren
  | 0 => []
  | _ + 1 => [(flR, flR)]
def flN2 : List Nat := [0, 1, 9, 10, 11, 12, 6, 13]
def flNi (k : Nat) : Ren := [(37, 37), (flL, flL)] ++ flId k ++ [(flT k, nid 47 0), (flR, nid 49 0)]
def flEi (k : Nat) : Ren := [(37, 37), (flL, flL)] ++ flId k ++ flIe k
def flS2 (x y : Int) (n : Nat) (V : Nat → RP) (e f : Int) (p : RP) (k : Nat) : St :=
  ⟨[(0, i64 x), (1, i64 y), (9, i64 e), (10, ptr 37), (11, i64 f), (12, flRv k), (6, .slice (some ⟨flL, 0, none⟩) n n), (13, i64 (k : Nat))], [(37, ⟨.lst (ptC p), 45, true⟩), (flL, ⟨.row kP9 n (ptF V), 45, true⟩)] ++ flTm k ++ flRm n k, 42⟩
def fl2q (n : Nat) (k : Option (Exit × St)) : Option (Exit × St) := req (true && decide ((2 : Int) ≤ (n : Int))) (req (Nat.ble 2 n) k)
theorem fl_r2 (x y : Int) (n : Nat) (V : Nat → RP) (e f : Int) (p : RP) : ∀ k, k < 10 → roundS flC0 60 [1, 1, 1, 1, 1, 1, 1, 1, 0, 1, 0, 0] (loopAt [1, 1, 1, 1, 1, 1, 1, 1, 0, 1, 0] (bodyOf Try.f7)) flN2 (flNi k) 42 flN2 (flEi k) 42 (flS2 x y n V e f p k) =
    bif decide ((k : Int) < y) then fl2q n (some (.normal, flS2 x y n V e f p (k + 1))) else some (.exit 2, flS2 x y n V e f p k)
  | 0, _ => by kernel_rfl
  | 1, _ => by kernel_rfl
  | 2, _ => by kernel_rfl
  | 3, _ => by kernel_rfl
  | 4, _ => by kernel_rfl
  | 5, _ => by kernel_rfl
  | 6, _ => by kernel_rfl
  | 7, _ => by kernel_rfl
  | 8, _ => by kernel_rfl
  | 9, _ => by kernel_rfl
theorem fl_loop1 {x y : Int} {n : Nat} (hn : n ≤ 1000) : LoopOk Try.prog 130 (loopAt [1, 1, 1, 1, 0, 1, 0] (bodyOf Try.f7)) (atSt flN1 flI1 24 (flSt x y n (ptF (inP 0)) 0) (.exit 0) (flSt x y n (ptF (inP n)) (n : Int))) := by
  refine loopE (fun _ => flC0) n (fun _ _ => ⟨mixed, tabOk, sums_nil, noL⟩) (fun _ => rfl) fl_at1 (m := 60) (nt := flN1) (ni := flI1) (et := flN1) (ei := flI1) (nx := 24) (ex := 24) (fun k => flSt x y n (ptF (inP k)) (k : Int)) rfl (by intro h; cases h) ?_ ?_
  · intro k hk
    refine ⟨flSt x y n (updR (ptF (inP k)) k (ptC infR)) ((k + 1 : Nat) : Int), ?_, stEq_mk rfl (mSame rfl (mRow inP_row mNil))⟩
    refine (fl_r x y n _ k).trans ?_
    have e : inP k k = zR := by unfold inP; rw [if_neg (by omega)]
    rw [decide_eq_true (by omega), cond_true, rdR_eq hk, Nat.zero_add, e, wrap_i64 (by omega)]; rfl
  · refine ⟨_, ?_, stEq_refl rfl⟩
    refine (fl_r x y n _ n).trans ?_
    rw [decide_eq_false (by omega), cond_false]
theorem flS2_vok (x y : Int) (n : Nat) (V : Nat → RP) (e f : Int) (p : RP) : ∀ k, k ≤ 10 → stEq (flS2 x y n V e f p k) (flS2 x y n V e f p k) = true
  | 0, _ => stEq_refl rfl
  | 1, _ => stEq_refl rfl
  | 2, _ => stEq_refl rfl
  | 3, _ => stEq_refl rfl
  | 4, _ => stEq_refl rfl
  | 5, _ => stEq_refl rfl
  | 6, _ => stEq_refl rfl
  | 7, _ => stEq_refl rfl
  | 8, _ => stEq_refl rfl
  | 9, _ => stEq_refl rfl
  | 10, _ => stEq_refl rfl
theorem fl_out (x y : Int) (n : Nat) (V : Nat → RP) (e f : Int) (p : RP) : ∀ k, k ≤ 10 → roundS flC0 60 [1, 1, 1, 1, 1, 1, 1, 1, 0, 1, 0, 0] (loopAt [1, 1, 1, 1, 1, 1, 1, 1, 0, 1, 0] (bodyOf Try.f7)) flN2 (flNi k) 42 flN2 (flEi k) 42 (flS2 x y n V e f p k) =
    bif decide ((k : Int) < y) then fl2q n (some (.normal, flS2 x y n V e f p (k + 1))) else some (.exit 2, flS2 x y n V e f p k)
  | 10, _ => by kernel_rfl
  | 0, _ => fl_r2 x y n V e f p 0 (by omega)
  | 1, _ => fl_r2 x y n V e f p 1 (by omega)
  | 2, _ => fl_r2 x y n V e f p 2 (by omega)
  | 3, _ => fl_r2 x y n V e f p 3 (by omega)
  | 4, _ => fl_r2 x y n V e f p 4 (by omega)
  | 5, _ => fl_r2 x y n V e f p 5 (by omega)
  | 6, _ => fl_r2 x y n V e f p 6 (by omega)
  | 7, _ => fl_r2 x y n V e f p 7 (by omega)
  | 8, _ => fl_r2 x y n V e f p 8 (by omega)
  | 9, _ => fl_r2 x y n V e f p 9 (by omega)
theorem fl_loop2 {x : Int} {n N : Nat} {V : Nat → RP} {e f : Int} {p : RP} (hN : N ≤ 10) (hn : 2 ≤ n) : LoopOk Try.prog 130 (loopAt [1, 1, 1, 1, 1, 1, 1, 1, 0, 1, 0] (bodyOf Try.f7)) (atSt flN2 (flEi 0) 42 (flS2 x (N : Int) n V e f p 0) (.exit 2) (flS2 x (N : Int) n V e f p N)) := by
  refine loopV (fun _ => flC0) N (fun _ _ => ⟨mixed, tabOk, sums_nil, noL⟩) (fun _ => rfl) fl_at2 (m := 60) (nt := flN2) (ni := flNi) (et := flN2) (ei := flEi) (nx := 42) (ex := 42) (fun k => flS2 x (N : Int) n V e f p k) rfl (by intro h; cases h) ?_ ?_
  · intro k hk
    refine ⟨_, ?_, flS2_vok x (N : Int) n V e f p (k + 1) (by omega)⟩
    refine (fl_r2 x (N : Int) n V e f p k (by omega)).trans ?_
    unfold fl2q
    rw [decide_eq_true (by omega), cond_true, decide_eq_true (by omega), req_true (b := true && true) rfl, bE hn, req_true rfl]
  · refine ⟨_, ?_, flS2_vok x (N : Int) n V e f p N hN⟩
    refine (fl_out x (N : Int) n V e f p N hN).trans ?_
    rw [decide_eq_false (by omega), cond_false]
/-! ## All together -/
def flTt : Option Value := some (.bool true)
def flFf : Option Value := some (.bool false)
def flH (x : Int) (k : Option Value) : Option Value := bif decide (x < 0) then flTt else bif decide (x > 1) then flTt else k
def flZ (x : Int) : Int := IntKind.i64.wrap (64 + x)
noncomputable def flG (n : Nat) (V : Nat → RP) (k : Nat) : Nat → Nat × (Nat → List Value) := lfG (tabL k (fun _ => (2, sg9 n (ptF V))))
def flQ (n : Nat) : Nat → Bool
  | 0 => true
  | k + 1 => (Nat.ble (0 + 2) n && Nat.ble 2 n) && flQ n k
def flEnd (x e f : Int) (p : RP) : Option Value :=
  bif decide (x > 0) then (bif e == 4 then (bif f == 4 then flTt else flFf) else flFf) else (bif e == 0 then (bif f == 0 then (bif p.1 then flTt else flFf) else flFf) else flFf)
noncomputable def flK (n : Nat) (V : Nat → RP) (k : Nat) (E : Option Value) : Option Value :=
  bif Nat.beq k 0 then E else bif Nat.ble k 8 then req (true && true && (true && flQ n k && true) && okFm k (flG n V k) && (smE k (flG n V k) == 0)) (bif !(sgN (flG n V k) (k - 1) 0).1 then flFf else bif !(sgN (flG n V k) (k - 1) 1).1 then flFf else E)
  else req (true && true && (true && flQ n k && true)) E
noncomputable def flT2 (x y : Int) (e : Int) (V : Nat → RP) (P0 : RP) (F0 : Int) (k : Nat) (cm : Option Value → Option Value) : Option Value :=
  req (mk4 (flZ x)) (req (mk9 (flZ x)) (req (stEq (flSt x y (flZ x).toNat (fun _ => z9) 0) (flSt x y (flZ x).toNat (ptF (inP 0)) 0)) (cm (atq (flZ x).toNat (ptF V) (num 3) fun p f =>
    req (stEq (flS2 x y (flZ x).toNat V e f p 0) (flS2 x y (flZ x).toNat V e F0 P0 0)) (flK (flZ x).toNat V k (flEnd x e F0 P0))))))
def flAr (x y : Int) : List Arg := [.pl (i64 x), .pl (i64 y)]
noncomputable def flCc (S : Sums) (x y : Int) (e : Int) (V : Nat → RP) (P0 : RP) (F0 : Int) (k : Nat) : Cfg := ⟨tab, S, 130, [([1, 1, 1, 1, 0, 1, 0], atSt flN1 flI1 24 (flSt x y (flZ x).toNat (ptF (inP 0)) 0) (.exit 0) (flSt x y (flZ x).toNat (ptF V) ((flZ x).toNat : Int))), ([1, 1, 1, 1, 1, 1, 1, 1, 0, 1, 0], atSt flN2 (flEi 0) 42 (flS2 x y (flZ x).toNat V e F0 P0 0) (.exit 2) (flS2 x y (flZ x).toNat V e F0 P0 k))]⟩
def flZr : Nat → List Value := fun _ => [u64 0, u64 0, u64 0, u64 0]
noncomputable def flCk (n : Nat) (k : Option Value) : Option Value := req (kb4 n && okV n (sg4 n flZr) && Nat.ble n 64) k
noncomputable def flCn (n : Nat) (k : Option Value) : Option Value := req (kb4 n && okV n (sg4 n flZr) && Nat.blt 64 n) k
theorem fl_evb (x y : Int) (es : Nat → Nat) : fnA ⟨tab, flSk, 130, [([1, 1, 1, 1, 0, 1, 0], fun _ => [])]⟩ 200 Try.f7 (bodyOf Try.f7) (cArgs (flAr x y) 0) (cMem es (flAr x y) 0) 0 =
    flH x (bif decide (y < 0) then flTt else bif decide (y > 10) then flTt else req (mk4 (flZ x)) (req (mk9 (flZ x)) none)) := by kernel_rfl
theorem fl_evk (x : Int) (V : Nat → RP) (P0 : RP) (F0 : Int) (es : Nat → Nat) : ∀ k : Nat, k ≤ 10 → fnA (flCc flSk x (k : Int) 0 V P0 F0 k) 200 Try.f7 (bodyOf Try.f7) (cArgs (flAr x (k : Int)) 0) (cMem es (flAr x (k : Int)) 0) 0 =
    flH x (flT2 x (k : Int) 0 V P0 F0 k (flCk (flZ x).toNat))
  | 0, _ => by kernel_rfl
  | 1, _ => by kernel_rfl
  | 2, _ => by kernel_rfl
  | 3, _ => by kernel_rfl
  | 4, _ => by kernel_rfl
  | 5, _ => by kernel_rfl
  | 6, _ => by kernel_rfl
  | 7, _ => by kernel_rfl
  | 8, _ => by kernel_rfl
  | 9, _ => by kernel_rfl
  | 10, _ => by kernel_rfl
theorem fl_evn (x : Int) (V : Nat → RP) (P0 : RP) (F0 : Int) (es : Nat → Nat) : ∀ k : Nat, k ≤ 10 → fnA (flCc flSn x (k : Int) 4 V P0 F0 k) 200 Try.f7 (bodyOf Try.f7) (cArgs (flAr x (k : Int)) 0) (cMem es (flAr x (k : Int)) 0) 0 =
    flH x (flT2 x (k : Int) 4 V P0 F0 k (flCn (flZ x).toNat))
  | 0, _ => by kernel_rfl
  | 1, _ => by kernel_rfl
  | 2, _ => by kernel_rfl
  | 3, _ => by kernel_rfl
  | 4, _ => by kernel_rfl
  | 5, _ => by kernel_rfl
  | 6, _ => by kernel_rfl
  | 7, _ => by kernel_rfl
  | 8, _ => by kernel_rfl
  | 9, _ => by kernel_rfl
  | 10, _ => by kernel_rfl
theorem flQ_true {n : Nat} (hn : 2 ≤ n) : ∀ k, flQ n k = true
  | 0 => rfl
  | k + 1 => by rw [flQ, flQ_true hn k, bE (show 0 + 2 ≤ n by omega)]; rfl
theorem flG_at {n : Nat} {V : Nat → RP} {k j : Nat} (hj : j < k) : flG n V k j = (2, sg9 n (ptF V)) := tabL_get (fun _ => (2, sg9 n (ptF V))) (0, no9) k j hj
theorem flG_sum {n k : Nat} (hn : 2 ≤ n) {i : Nat} (hi : i < 2) : ∀ j, j < k → sgN (flG n (inP n) k) j i = infR
  | 0, h => by
    rw [sgN, flG_at h]
    show pA (sg9 n (ptF (inP n))) i = infR
    rw [pA_sg, pA_pt (by rw [inP_at (by omega)]; exact inf_ok), inP_at (by omega)]
  | j + 1, h => by
    show addS (sgN (flG n (inP n) k) j i) (pA (flG n (inP n) k (j + 1)).2 i) = infR
    rw [flG_sum hn hi j (by omega), flG_at h]
    show addS infR (pA (sg9 n (ptF (inP n))) i) = infR
    rw [pA_sg, pA_pt (by rw [inP_at (by omega)]; exact inf_ok), inP_at (by omega), addInf]
theorem flK_eq {n k : Nat} (hn : 2 ≤ n) (hk : k ≤ 10) (E : Option Value) : flK n (inP n) k E = E := by
  unfold flK
  by_cases h0 : k = 0
  · rw [show Nat.beq k 0 = true from by rw [Nat.beq_eq]; exact h0, cond_true]
  rw [show Nat.beq k 0 = false from by rw [Bool.eq_false_iff, ne_eq, Nat.beq_eq]; exact h0, cond_false, flQ_true hn]
  by_cases h8 : k ≤ 8
  · have h1 : okFm k (flG n (inP n) k) = true := okFm_iff.2 ⟨by omega, fun _ j hj => by rw [flG_at hj]; show okP 2 (sg9 n (ptF (inP n))) = true; rw [okP_sg]; exact okP_pt (by omega)⟩
    have h2 : smE k (flG n (inP n) k) = 0 := by
      refine smE_ok h8 (fun j hj => ?_) (fun j hj => ?_)
      · unfold LenB
        rw [flG_at hj, flG_at (by omega)]
        exact ⟨rfl, (by omega : (2 : Nat) ≤ 64)⟩
      · rw [flG_at hj]
        refine alP_iff.2 fun i hi => ?_
        have hi : i < 2 := hi
        show ckR (pA (sg9 n (ptF (inP n))) i) = true
        rw [pA_sg, pA_pt (by rw [inP_at (by omega)]; exact inf_ok), inP_at (by omega)]
        exact inf_ck
    rw [bE h8, cond_true, h1, h2, req_true (b := true && true && (true && true && true) && true && ((0 : Int) == 0)) rfl, flG_sum hn (by omega) (k - 1) (by omega), flG_sum hn (by omega) (k - 1) (by omega)]; rfl
  · rw [show Nat.ble k 8 = false from by rw [Bool.eq_false_iff, ne_eq, Nat.ble_eq]; omega, cond_false, req_true (b := true && true && (true && true && true)) rfl]
theorem flT2_eq {x y e : Int} {n : Nat} {P0 : RP} {F0 : Int} {k : Nat} {cm : Option Value → Option Value} (hz : flZ x = (n : Int)) (hn : 2 ≤ n) (hn2 : n ≤ 1000) (hk : k ≤ 10) (hcm : ∀ z, cm z = z) (ha : ∀ q : RP → Int → Option Value, atq n (ptF (inP n)) (num 3) q = q P0 F0) : flT2 x y e (inP (flZ x).toNat) P0 F0 k cm = flEnd x e F0 P0 := by
  unfold flT2
  rw [hz, Int.toNat_natCast, mk4_true (by omega), req_true rfl, mk9_true (by omega), req_true rfl]
  refine Eq.trans (req_true (stEq_mk rfl (mSame rfl (mRow inP_start mNil)))) ?_
  rw [hcm, ha]
  refine Eq.trans (req_true (flS2_vok x y n (inP n) e F0 P0 0 (by omega))) ?_
  rw [flK_eq hn hk]
theorem fl_calls {W : World} {x y : Int} : Calls Try.prog 7 #[i64 x, i64 y] W fun e w' => e = .returned (.bool true) ∧ Go.RowKit.Below W.heap.size W w' := by
  refine law_sound (c := bodyOf Try.f7) (args' := [i64 x, i64 y]) Try.func7 (by kernel_rfl) (A := flAr x y) ⟨rfl, rfl, rfl, rfl, trivial⟩ (GOk_nil _) (by show 2 ≤ Try.f7.ntmps; decide +kernel) rfl (by intro vs h; cases h) (fuel := 200) (next := 0) (fun es => ?_)
  by_cases hb : x < 0 ∨ 1 < x ∨ y < 0 ∨ 10 < y
  · refine ⟨_, ⟨mixed, tabOk, flSk_ok, noneL2⟩, rfl, (fl_evb x y es).trans ?_⟩
    unfold flH
    by_cases h1 : x < 0
    · rw [decide_eq_true h1, cond_true]; rfl
    rw [decide_eq_false h1, cond_false]
    by_cases h2 : x > 1
    · rw [decide_eq_true h2, cond_true]; rfl
    rw [decide_eq_false h2, cond_false]
    by_cases h3 : y < 0
    · rw [decide_eq_true h3, cond_true]; rfl
    rw [decide_eq_false h3, cond_false, decide_eq_true (by omega), cond_true]; rfl
  obtain ⟨k, rfl⟩ : ∃ k : Nat, y = (k : Int) := ⟨y.toNat, by omega⟩
  have hk : k ≤ 10 := by omega
  have hH : ∀ z, flH x z = z := fun z => by
    unfold flH
    rw [decide_eq_false (by omega), cond_false, decide_eq_false (by omega), cond_false]
  have hr : ∀ n, n ≤ 1000 → okV n flZr = true := fun n hn => by
    rw [okV_congr (g := nmF (fun _ => 0)) (fun j _ => by show _ = nrmK kN4 (nmL 0); rfl)]
    exact okV_nm hn
  have hx : x = 0 ∨ x = 1 := by omega
  rcases hx with rfl | rfl
  · have hz : flZ 0 = ((64 : Nat) : Int) := by unfold flZ; rw [wrap_i64 (by omega)]; rfl
    refine ⟨flCc flSk 0 (k : Int) 0 (inP (flZ 0).toNat) (atR (inP 64) 64 3) 0 k, ⟨mixed, tabOk, flSk_ok, consL ?_ (oneL ?_)⟩, rfl, (fl_evk 0 _ _ 0 es k hk).trans ?_⟩
    · rw [hz, Int.toNat_natCast]; exact fl_loop1 (by omega)
    · rw [hz, Int.toNat_natCast]; exact fl_loop2 hk (by omega)
    · rw [hH, flT2_eq hz (by omega) (by omega) hk (fun z => ?_) (fun q => ?_)]
      · unfold flEnd
        rw [at_inf]; rfl
      · unfold flCk
        rw [hz, Int.toNat_natCast, kb4_true, okV_sg, hr _ (by omega), req_true (b := true && true && Nat.ble 64 64) rfl]
      · exact atq_ck (by omega) (fun j hj => by rw [inP_at hj]; exact inf_ck) (by decide) q
  · have hz : flZ 1 = ((65 : Nat) : Int) := by unfold flZ; rw [wrap_i64 (by omega)]; rfl
    refine ⟨flCc flSn 1 (k : Int) 4 (inP (flZ 1).toNat) (atZ (inP 65) 65 3) 4 k, ⟨mixed, tabOk, flSn_ok, consL ?_ (oneL ?_)⟩, rfl, (fl_evn 1 _ _ 4 es k hk).trans ?_⟩
    · rw [hz, Int.toNat_natCast]; exact fl_loop1 (by omega)
    · rw [hz, Int.toNat_natCast]; exact fl_loop2 hk (by omega)
    · rw [hH, flT2_eq hz (by omega) (by omega) hk (fun z => ?_) (fun q => ?_)]
      · rfl
      · unfold flCn
        rw [hz, Int.toNat_natCast, kb4_true, okV_sg, hr _ (by omega), req_true (b := true && true && Nat.blt 64 65) rfl]
      · rw [atq_pt (by omega) (fun j hj => by rw [inP_at hj]; exact inf_ok) (by decide), atE_len (by omega)]
end Go.Proofs.Ytbklbmiddacaiaa
