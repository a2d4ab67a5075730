/-
  ShaKeys.
-/
import Derived.Test.YtaimnbmhlognmaaDoorSh
import Derived.Test.YtaimnbmhlognmaaDoorSd
namespace Go.Proofs.YtaimnbmhlognmaaDoor
set_option maxRecDepth 100000
open Go.W
open Go.RowKit (Below)

noncomputable def skSum : Sums := [(10, SuF), (12, MaF), (14, KbF), (9, TwnF 5), (15, WkF)]
theorem skSum_ok : SumsOk Tryd.prog skSum := sums_consM su_msum (sums_consM ma_msum (sums_consM kb_msum (sums_consM twn_msum (sums_cons wk_sum sums_nil))))
noncomputable def skC0 : Cfg := ⟨tab, skSum, 66, []⟩
theorem skOk0 : CfgOk Tryd.prog skC0 (bodyOf Tryd.f5) := ⟨mixed, tabOk, skSum_ok, noL⟩
theorem sk_at : codeAt [1, 1, 1, 1, 1, 0, 1, 0] (bodyOf Tryd.f5) = some (.loop (loopAt [1, 1, 1, 1, 1, 0, 1, 0] (bodyOf Tryd.f5))) := by kernel_rfl
noncomputable def skSt (x : S8) (m : Nat) (g : Nat → List Value) (e : Nat) (k : Int) (L : Nat) (G : Nat → List Value) (i : Int) : St :=
  ⟨[(1, aSl 1 m), (2, i64 k), (7, ptr 16), (10, .slice (some ⟨500176, 0, none⟩) L L), (11, i64 i)], [(16, ⟨.lst (tdL x), 24, true⟩), (500176, ⟨.row kB L G, 5, true⟩), (1500001, ⟨.row kB m g, e, false⟩)], 25⟩
def skNt : List Nat := [1, 2, 7, 10, 11]
def skNi : Ren := [(16, 16), (500176, 500280), (1500001, 1500001)]
def skEi : Ren := [(16, 16), (500176, 500176), (1500001, 1500001)]
theorem sk_r (x : S8) (m : Nat) (g : Nat → List Value) (e : Nat) (k : Int) (L : Nat) (G : Nat → List Value) (i : Int) : roundS skC0 60 [1, 1, 1, 1, 1, 0, 1, 0, 0] (loopAt [1, 1, 1, 1, 1, 0, 1, 0] (bodyOf Tryd.f5)) skNt skNi 25 skNt skEi 25 (skSt x m g e k L G i) =
    bif decide (i < k) then (bif decide ((L : Int) < 64) then req (szOk (L + 1) 1) (req (Nat.beq L L && true && true) (some (.normal, skSt x m g e k (L + 1) (appF L G (lstF [.int .u8 0] 0 1)) (IntKind.i64.wrap (i + 1))))) else some (.exit 0, skSt x m g e k L G i)) else some (.exit 0, skSt x m g e k L G i) := by kernel_rfl
noncomputable def skC (x : S8) (n : Nat) (m : Nat) (g : Nat → List Value) (e : Nat) (k : Int) (f' : Nat → List Value) (L : Nat) (G : Nat → List Value) (i : Int) : Cfg :=
  ⟨tab, skSum, 66, [([1, 1, 1, 1, 1, 0, 1, 0], atSt skNt skEi 25 (skSt x m g e k n f' 0) (.exit 0) (skSt x m g e k L G i))]⟩
noncomputable def skX (n : Nat) (f : Nat → List Value) (m : Nat) (g : Nat → List Value) : S8 := mcN (whF n (sgF n f)) m (bN (sgF m g))
noncomputable def skT (n : Nat) (f : Nat → List Value) (m : Nat) (g : Nat → List Value) (e : Nat) (k : Int) (x : S8) (f' : Nat → List Value) (L : Nat) (G : Nat → List Value) : Option Value :=
  bif decide ((n : Int) > 3000) then some (.bool true) else bif decide ((m : Int) > 3000) then some (.bool true) else bif decide (k < 0) then some (.bool true) else
  req (okN n && okN m) (bif decide ((n : Int) > 64) then req (okN n) (req (true && okN m) (bif eqR 32 (lstF (tdL (skX n f m g)) 0 1) 32 (lstF (tdL (mcN (whF 32 (lstF (tdL (shN n (bN (sgF n f)))) 0 1)) m (bN (sgF m g)))) 0 1) then some (.bool true) else some (.bool false)))
    else req (kbk n && szOk n 1) (req (stEq (skSt (skX n f m g) m g e k n (twF (sgF n f)) 0) (skSt x m g e k n f' 0)) (req (okN L && okN m) (bif eqR 32 (lstF (tdL x) 0 1) 32 (lstF (tdL (mcN (whF L (sgF L G)) m (bN (sgF m g)))) 0 1) then some (.bool true) else some (.bool false)))))
theorem sk_ev (n : Nat) (f : Nat → List Value) (m : Nat) (g : Nat → List Value) (k : Int) (x : S8) (f' : Nat → List Value) (L : Nat) (G : Nat → List Value) (i : Int) (es : Nat → Nat) : fnA (skC x n m g (es 1) k f' L G i) 60 Tryd.f5 (bodyOf Tryd.f5) (cArgs [.sl kB n f, .sl kB m g, .pl (.int .i64 k)] 0) (cMem es [.sl kB n f, .sl kB m g, .pl (.int .i64 k)] 0) 0 =
    skT n f m g (es 1) k x f' L G := by kernel_rfl
theorem sk_loop (x : S8) (n : Nat) (m : Nat) (g : Nat → List Value) (e : Nat) (k : Int) (h : Nat → List Value) : LoopOk Tryd.prog 66 (loopAt [1, 1, 1, 1, 1, 0, 1, 0] (bodyOf Tryd.f5))
    (atSt skNt skEi 25 (skSt x m g e k n h 0) (.exit 0) (skSt x m g e k (n + min k.toNat (64 - n)) (skG n h (min k.toNat (64 - n))) ((min k.toNat (64 - n) : Nat) : Int))) := by
  refine atSt_ok fun w0 R a W hrel => ?_
  refine loop_rounds (R := R) (C := skC0) skOk0 sk_at (m := 60) (nt := skNt) (ni := skNi) (et := skNt) (ei := skEi) (nx := 25) (ex := 25) (e := .exit 0) (sf := skSt x m g e k (n + min k.toNat (64 - n)) (skG n h (min k.toNat (64 - n))) ((min k.toNat (64 - n) : Nat) : Int))
    (fun j => skSt x m g e k (n + j) (skG n h j) (j : Int)) (min k.toNat (64 - n)) (by intro h; cases h) ?_ ?_ hrel
  · intro j hj
    refine (sk_r _ _ _ _ _ _ _ _).trans ?_
    rw [decide_eq_true (by omega), cond_true, decide_eq_true (by omega), cond_true, szOk_small (by omega), req_true rfl, Nat.beq_refl, req_true (b := true && true && true) rfl, wrap_i64 (by omega)]; rfl
  · refine (sk_r _ _ _ _ _ _ _ _).trans ?_
    by_cases hk : ((min k.toNat (64 - n) : Nat) : Int) < k
    · rw [decide_eq_true hk, cond_true, decide_eq_false (by omega), cond_false]
    · rw [decide_eq_false hk, cond_false]
theorem skT_eq (n : Nat) (f : Nat → List Value) (m : Nat) (g : Nat → List Value) (e : Nat) (k : Int) : skT n f m g e k (skX n f m g) (twF (sgF n f)) (n + min k.toNat (64 - n)) (skG n (twF (sgF n f)) (min k.toNat (64 - n))) = some (.bool true) := by
  unfold skT
  by_cases h1 : (n : Int) > 3000
  · rw [decide_eq_true h1, cond_true]
  rw [decide_eq_false h1, cond_false]
  by_cases h2 : (m : Int) > 3000
  · rw [decide_eq_true h2, cond_true]
  rw [decide_eq_false h2, cond_false]
  by_cases h3 : k < 0
  · rw [decide_eq_true h3, cond_true]
  rw [decide_eq_false h3, cond_false, okN_true (by omega), okN_true (by omega), req_true (b := true && true) rfl]
  have ew : ∀ j, bI (whF n (sgF n f)) j = bI (whF n f) j := whF_congr (fun j _ => bI_sg n f j)
  by_cases h4 : (n : Int) > 64
  · rw [decide_eq_true h4, cond_true, req_true rfl, req_true (b := true && true) rfl, eqR_td, cond_true]
    refine mcN_congr (fun j _ => ?_) (fun _ _ => rfl)
    rw [ew, bN_sg, longW (by omega)]
  · rw [decide_eq_false h4, cond_false, kbk_true, szOk_small (by omega), req_true (b := true && true) rfl, req_true (stEq_refl rfl), okN_true (by omega), req_true (b := true && true) rfl, eqR_td, cond_true]
    refine mcN_congr (fun j _ => ?_) (fun _ _ => rfl)
    rw [ew, whF_congr (fun j _ => bI_sg _ _ j), skW (by omega), whF_congr (f := twF (sgF n f)) (g := f) (fun j _ => by rw [bI_tw, bI_sg])]
theorem sk_calls {n : Nat} {f : Nat → List Value} {m : Nat} {g : Nat → List Value} {k : Int} {v u : Value} {W : World} (hg : GOk (lay Tryd.prog) W) (hv : SrcW W kB n f v) (hu : SrcW W kB m g u) :
    Calls Tryd.prog 5 #[v, u, .int .i64 k] W fun e W' => e = .returned (.bool true) ∧ Below W.heap.size W W' :=
  law_sound (c := bodyOf Tryd.f5) (fuel := 60) (next := 0) (A := [.sl kB n f, .sl kB m g, .pl (.int .i64 k)]) (args' := [v, u, .int .i64 k]) Tryd.func5 (by kernel_rfl) ⟨hv, hu, rfl, rfl, trivial⟩ hg
    (by show 3 ≤ Tryd.f5.ntmps; decide +kernel) rfl nofun
    fun es => ⟨skC (skX n f m g) n m g (es 1) k (twF (sgF n f)) (n + min k.toNat (64 - n)) (skG n (twF (sgF n f)) (min k.toNat (64 - n))) ((min k.toNat (64 - n) : Nat) : Int), ⟨mixed, tabOk, skSum_ok, oneL (sk_loop _ _ _ _ _ _ _)⟩, rfl, (sk_ev n f m g k _ _ _ _ _ es).trans (skT_eq n f m g (es 1) k)⟩

end Go.Proofs.YtaimnbmhlognmaaDoor
