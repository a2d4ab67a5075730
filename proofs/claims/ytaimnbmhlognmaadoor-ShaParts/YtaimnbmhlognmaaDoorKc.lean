/-
  ShaParts.
-/
import Derived.Test.YtaimnbmhlognmaaDoorSh
import Derived.Test.YtaimnbmhlognmaaDoorSd
import Derived.Test.YtaimnbmhlognmaaDoorEf
namespace Go.Proofs.YtaimnbmhlognmaaDoor
set_option maxRecDepth 100000
open Go.W
open Go.RowKit (Below)

noncomputable def paSum : Sums := [(10, SuF), (12, MaF), (14, KbF), (9, TwnF 5), (15, WkF)]
theorem paSum_ok : SumsOk Tryd.prog paSum := sums_consM su_msum (sums_consM ma_msum (sums_consM kb_msum (sums_consM twn_msum (sums_cons wk_sum sums_nil))))
noncomputable def paC0 : Cfg := ⟨tab, paSum, 64, []⟩
theorem paOk0 : CfgOk Tryd.prog paC0 (bodyOf Tryd.f8) := ⟨mixed, tabOk, paSum_ok, noL⟩
theorem pa_at : codeAt [1, 1, 1, 0, 1, 0] (bodyOf Tryd.f8) = some (.loop (loopAt [1, 1, 1, 0, 1, 0] (bodyOf Tryd.f8))) := by kernel_rfl
noncomputable def paSt (n : Nat) (f : Nat → List Value) (m : Nat) (g : Nat → List Value) (es : Nat → Nat) (A B : Nat → List Value) (i : Int) : St :=
  ⟨[(0, aSl 0 n), (1, aSl 1 m), (5, ptr 9), (6, ptr 10), (7, i64 i)], [(9, ⟨.row kB 64 A, 31, true⟩), (10, ⟨.row kB 64 B, 31, true⟩), (1500000, ⟨.row kB n f, es 0, false⟩), (1500001, ⟨.row kB m g, es 1, false⟩)], 12⟩
def paNt : List Nat := [0, 1, 5, 6, 7]
def paNi : List Nat := [9, 10, 1500000, 1500001]
theorem pa_r (n : Nat) (f : Nat → List Value) (m : Nat) (g : Nat → List Value) (es : Nat → Nat) (A B : Nat → List Value) : ∀ i : Nat, i < 64 → roundS paC0 60 [1, 1, 1, 0, 1, 0, 0] (loopAt [1, 1, 1, 0, 1, 0] (bodyOf Tryd.f8)) paNt paNi 12 paNt paNi 12 (paSt n f m g es A B (i : Int)) =
    bif decide ((i : Int) < (n : Int)) then req (inR (i : Int) n) (req (Nat.blt i n && true) (req (inR (i : Int) n) (req (Nat.blt i n && true) (some (.normal, paSt n f m g es (updR (updR A i [.int .u8 54]) i [.int .u8 (iXor .u8 (bI f i) 54)]) (updR (updR B i [.int .u8 92]) i [.int .u8 (iXor .u8 (bI f i) 92)]) ((i + 1 : Nat) : Int))))))
    else some (.normal, paSt n f m g es (updR A i [.int .u8 54]) (updR B i [.int .u8 92]) ((i + 1 : Nat) : Int))
  | 0, _ => by kernel_rfl
  | 1, _ => by kernel_rfl
  | 2, _ => by kernel_rfl
  | 3, _ => by kernel_rfl
  | 4, _ => by kernel_rfl
  | 5, _ => by kernel_rfl
  | 6, _ => by kernel_rfl
  | 7, _ => by kernel_rfl
  | 8, _ => by kernel_rfl
  | 9, _ => by kernel_rfl
  | 10, _ => by kernel_rfl
  | 11, _ => by kernel_rfl
  | 12, _ => by kernel_rfl
  | 13, _ => by kernel_rfl
  | 14, _ => by kernel_rfl
  | 15, _ => by kernel_rfl
  | 16, _ => by kernel_rfl
  | 17, _ => by kernel_rfl
  | 18, _ => by kernel_rfl
  | 19, _ => by kernel_rfl
  | 20, _ => by kernel_rfl
  | 21, _ => by kernel_rfl
  | 22, _ => by kernel_rfl
  | 23, _ => by kernel_rfl
  | 24, _ => by kernel_rfl
  | 25, _ => by kernel_rfl
  | 26, _ => by kernel_rfl
  | 27, _ => by kernel_rfl
  | 28, _ => by kernel_rfl
  | 29, _ => by kernel_rfl
  | 30, _ => by kernel_rfl
  | 31, _ => by kernel_rfl
  | 32, _ => by kernel_rfl
  | 33, _ => by kernel_rfl
  | 34, _ => by kernel_rfl
  | 35, _ => by kernel_rfl
  | 36, _ => by kernel_rfl
  | 37, _ => by kernel_rfl
  | 38, _ => by kernel_rfl
  | 39, _ => by kernel_rfl
  | 40, _ => by kernel_rfl
  | 41, _ => by kernel_rfl
  | 42, _ => by kernel_rfl
  | 43, _ => by kernel_rfl
  | 44, _ => by kernel_rfl
  | 45, _ => by kernel_rfl
  | 46, _ => by kernel_rfl
  | 47, _ => by kernel_rfl
  | 48, _ => by kernel_rfl
  | 49, _ => by kernel_rfl
  | 50, _ => by kernel_rfl
  | 51, _ => by kernel_rfl
  | 52, _ => by kernel_rfl
  | 53, _ => by kernel_rfl
  | 54, _ => by kernel_rfl
  | 55, _ => by kernel_rfl
  | 56, _ => by kernel_rfl
  | 57, _ => by kernel_rfl
  | 58, _ => by kernel_rfl
  | 59, _ => by kernel_rfl
  | 60, _ => by kernel_rfl
  | 61, _ => by kernel_rfl
  | 62, _ => by kernel_rfl
  | 63, _ => by kernel_rfl
  | i + 64, h => absurd h (by omega)
theorem pa_x (n : Nat) (f : Nat → List Value) (m : Nat) (g : Nat → List Value) (es : Nat → Nat) (A B : Nat → List Value) : roundS paC0 60 [1, 1, 1, 0, 1, 0, 0] (loopAt [1, 1, 1, 0, 1, 0] (bodyOf Tryd.f8)) paNt paNi 12 paNt paNi 12 (paSt n f m g es A B 64) = some (.exit 0, paSt n f m g es A B 64) := by kernel_rfl
noncomputable def paC (n : Nat) (f : Nat → List Value) (m : Nat) (g : Nat → List Value) (es : Nat → Nat) (A B A1 B1 : Nat → List Value) : Cfg :=
  ⟨tab, paSum, 64, [([1, 1, 1, 0, 1, 0], atSt paNt paNi 12 (paSt n f m g es A B 0) (.exit 0) (paSt n f m g es A1 B1 64))]⟩
noncomputable def paH (m : Nat) (g : Nat → List Value) (A : Nat → List Value) : S8 := shN (64 + m) (bN (sgF (64 + m) (appF 64 (twF (sgF 64 A)) (sgF m g))))
noncomputable def paY (H : S8) (B : Nat → List Value) : S8 := shN 96 (bN (sgF 96 (appF 64 (twF (sgF 64 B)) (lstF (tdL H) 0 1))))
noncomputable def paT (n : Nat) (f : Nat → List Value) (m : Nat) (g : Nat → List Value) (es : Nat → Nat) (A B A1 B1 : Nat → List Value) : Option Value :=
  bif decide ((n : Int) > 64) then some (.bool true) else bif decide ((m : Int) > 3000) then some (.bool true) else
  req (stEq (paSt n f m g es (fun _ => [z8]) (fun _ => [z8]) 0) (paSt n f m g es A B 0)) (req (true && Nat.ble m m && true) (req (szOk (64 + m) 1) (req (okN (64 + m)) (req (okN n && okN m)
    (bif eqR 32 (lstF (tdL (paY (paH m g A1) B1)) 0 1) 32 (lstF (tdL (mcN (whF n (sgF n f)) m (bN (sgF m g)))) 0 1) then some (.bool true) else some (.bool false))))))
theorem pa_ev (n : Nat) (f : Nat → List Value) (m : Nat) (g : Nat → List Value) (A B A1 B1 : Nat → List Value) (es : Nat → Nat) : fnA (paC n f m g es A B A1 B1) 60 Tryd.f8 (bodyOf Tryd.f8) (cArgs [.sl kB n f, .sl kB m g] 0) (cMem es [.sl kB n f, .sl kB m g] 0) 0 =
    paT n f m g es A B A1 B1 := by kernel_rfl
theorem pa_loop (n : Nat) (f : Nat → List Value) (m : Nat) (g : Nat → List Value) (es : Nat → Nat) : LoopOk Tryd.prog 64 (loopAt [1, 1, 1, 0, 1, 0] (bodyOf Tryd.f8))
    (atSt paNt paNi 12 (paSt n f m g es (ipF n f 54 0) (ipF n f 92 0) 0) (.exit 0) (paSt n f m g es (ipF n f 54 64) (ipF n f 92 64) 64)) := by
  refine atSt_ok fun w0 R a W hrel => ?_
  refine loop_rounds (R := R) (C := paC0) paOk0 pa_at (m := 60) (nt := paNt) (ni := paNi) (et := paNt) (ei := paNi) (nx := 12) (ex := 12) (e := .exit 0) (sf := paSt n f m g es (ipF n f 54 64) (ipF n f 92 64) 64)
    (fun k => paSt n f m g es (ipF n f 54 k) (ipF n f 92 k) (k : Int)) 64 (by intro h; cases h) ?_ (pa_x _ _ _ _ _ _ _) hrel
  intro k hk
  refine (pa_r _ _ _ _ _ _ _ k hk).trans ?_
  by_cases hn : k < n
  · rw [decide_eq_true (by omega), cond_true, inR_of hn, blt_of hn, req4 (b := true && true) (d := true && true) rfl rfl rfl rfl, ipF_lo hn, ipF_lo hn]
  · rw [decide_eq_false (by omega), cond_false, ipF_hi hn, ipF_hi hn]
theorem paT_eq (n : Nat) (f : Nat → List Value) (m : Nat) (g : Nat → List Value) (es : Nat → Nat) : paT n f m g es (ipF n f 54 0) (ipF n f 92 0) (ipF n f 54 64) (ipF n f 92 64) = some (.bool true) := by
  unfold paT
  by_cases h1 : (n : Int) > 64
  · rw [decide_eq_true h1, cond_true]
  rw [decide_eq_false h1, cond_false]
  by_cases h2 : (m : Int) > 3000
  · rw [decide_eq_true h2, cond_true]
  rw [decide_eq_false h2, cond_false]
  have q : stEq (paSt n f m g es (fun _ => [z8]) (fun _ => [z8]) 0) (paSt n f m g es (ipF n f 54 0) (ipF n f 92 0) 0) = true :=
    stEq_mk rfl (memEq_cons (cellsEq_rr fun j _ => ipF_zero _ _ _ _) (memEq_cons (cellsEq_rr fun j _ => ipF_zero _ _ _ _) (memEq_cons (cellsEq_refl rfl) (memEq_cons (cellsEq_refl rfl) rfl))))
  rw [req_true q, ble_of (Nat.le_refl m), req_true (b := true && true && true) rfl, szOk_small (by omega), req_true rfl, okN_true (by omega), okN_true (by omega), okN_true (by omega), req_true rfl, req_true (b := true && true) rfl, eqR_td, cond_true]
  have hW := whF_congr (f := sgF n f) (g := f) (n := n) (fun j _ => bI_sg n f j)
  have hb : ∀ (c : Int) (X : Nat → List Value) (k : Nat), (c = 54 ∨ c = 92) → mixN h0 (bN (sgF (64 + k) (appF 64 (twF (sgF 64 (ipF n f c 64))) X))) = mixN h0 (bN (xoF (whF n (sgF n f)) c)) := by
    intro c X k hc
    refine mixN_congr (fun j hj => bN_congr ?_) _
    rw [bI_sg, bI_app, if_pos hj, bI_tw, bI_sg, bI_ip hj]
    show _ = iXor .u8 (bI (whF n (sgF n f)) j) c
    rw [hW j, whF_lo (by omega)]
    by_cases hj2 : j < n
    · rw [if_pos hj2, if_pos hj2]
    · rw [if_neg hj2, if_neg hj2]
      rcases hc with rfl | rfl
      · kernel_rfl
      · kernel_rfl
  have hH : paH m g (ipF n f 54 64) = finN (mixN h0 (bN (xoF (whF n (sgF n f)) 54))) m (bN (sgF m g)) (64 + m) := by
    unfold paH shN
    rw [finN_block, hb 54 _ m (.inl rfl)]
    refine finN_congr _ _ _ fun j hj => bN_congr ?_
    rw [bI_sg, bI_app, if_neg (by omega), show 64 + j - 64 = j from by omega]
  unfold paY shN mcN
  rw [show (96 : Nat) = 64 + 32 from rfl, finN_block, hb 92 _ 32 (.inr rfl), ← hH]
  refine finN_congr _ _ _ fun j hj => ?_
  rw [bN_congr (show bI (sgF (64 + 32) (appF 64 (twF (sgF 64 (ipF n f 92 64))) (lstF (tdL (paH m g (ipF n f 54 64))) 0 1))) (64 + j) = bI (lstF (tdL (paH m g (ipF n f 54 64))) 0 1) j by rw [bI_sg, bI_app, if_neg (by omega), show 64 + j - 64 = j from by omega])]
  exact bN_small (bI_td _ hj) (tdN_lt _ _)
theorem pa_calls {n : Nat} {f : Nat → List Value} {m : Nat} {g : Nat → List Value} {v u : Value} {W : World} (hg : GOk (lay Tryd.prog) W) (hv : SrcW W kB n f v) (hu : SrcW W kB m g u) :
    Calls Tryd.prog 8 #[v, u] W fun e W' => e = .returned (.bool true) ∧ Below W.heap.size W W' :=
  law_sound (c := bodyOf Tryd.f8) (fuel := 60) (next := 0) (A := [.sl kB n f, .sl kB m g]) (args' := [v, u]) Tryd.func8 (by kernel_rfl) ⟨hv, hu, trivial⟩ hg
    (by show 2 ≤ Tryd.f8.ntmps; decide +kernel) rfl nofun
    fun es => ⟨paC n f m g es (ipF n f 54 0) (ipF n f 92 0) (ipF n f 54 64) (ipF n f 92 64), ⟨mixed, tabOk, paSum_ok, oneL (pa_loop _ _ _ _ _)⟩, rfl, (pa_ev n f m g _ _ _ _ es).trans (paT_eq n f m g es)⟩

end Go.Proofs.YtaimnbmhlognmaaDoor
