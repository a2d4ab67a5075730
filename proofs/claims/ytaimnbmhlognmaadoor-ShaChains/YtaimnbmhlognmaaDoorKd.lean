/-
  ShaChains, ShaLengths.
-/
import Derived.Test.YtaimnbmhlognmaaDoorSh
import Derived.Test.YtaimnbmhlognmaaDoorSd
namespace Go.Proofs.YtaimnbmhlognmaaDoor
set_option maxRecDepth 100000
open Go.W
open Go.RowKit (Below)

noncomputable def chSum : Sums := [(10, SuF), (11, SuF), (14, KbF), (15, WkF)]
theorem chSum_ok : SumsOk Tryd.prog chSum := sums_consM su_msum (sums_consM d_msum (sums_consM kb_msum (sums_cons wk_sum sums_nil)))
noncomputable def chC0 : Cfg := ⟨tab, chSum, 38, []⟩
theorem chOk0 : CfgOk Tryd.prog chC0 (bodyOf Tryd.f7) := ⟨mixed, tabOk, chSum_ok, noL⟩
theorem ch_at : codeAt [1, 1, 1, 0, 1, 0] (bodyOf Tryd.f7) = some (.loop (loopAt [1, 1, 1, 0, 1, 0] (bodyOf Tryd.f7))) := by kernel_rfl
noncomputable def chSt (x y : S8) (k : Int) (i : Int) : St :=
  ⟨[(1, i64 k), (5, ptr 16), (6, ptr 17), (7, i64 i)], [(16, ⟨.lst (tdL x), 24, true⟩), (17, ⟨.lst (tdL y), 24, true⟩)], 21⟩
def chNt : List Nat := [1, 5, 6, 7]
def chNi : List Nat := [16, 17]
noncomputable def chN (x : S8) : S8 := shN 32 (bN (lstF (tdL x) 0 1))
theorem ch_r (x y : S8) (k i : Int) : roundS chC0 60 [1, 1, 1, 0, 1, 0, 0] (loopAt [1, 1, 1, 0, 1, 0] (bodyOf Tryd.f7)) chNt chNi 21 chNt chNi 21 (chSt x y k i) =
    bif decide (i < k) then some (.normal, chSt (chN x) (chN y) k (IntKind.i64.wrap (i + 1))) else some (.exit 0, chSt x y k i) := by kernel_rfl
noncomputable def chIt (x : S8) : Nat → S8
  | 0 => x
  | k + 1 => chN (chIt x k)
noncomputable def chC (x y : S8) (k : Int) (x1 y1 : S8) (i1 : Int) : Cfg := ⟨tab, chSum, 38, [([1, 1, 1, 0, 1, 0], atSt chNt chNi 21 (chSt x y k 0) (.exit 0) (chSt x1 y1 k i1))]⟩
noncomputable def chT (n : Nat) (f : Nat → List Value) (k : Int) (x y x1 y1 : S8) : Option Value :=
  bif decide ((n : Int) > 3000) then some (.bool true) else bif decide (k < 0) then some (.bool true) else bif decide (k > 100) then some (.bool true) else
  req (okN n) (req (okN n) (req (stEq (chSt (shN n (bN (sgF n f))) (shN n (bN (sgF n f))) k 0) (chSt x y k 0)) (bif eqR 32 (lstF (tdL x1) 0 1) 32 (lstF (tdL y1) 0 1) then some (.bool true) else some (.bool false))))
theorem ch_ev (n : Nat) (f : Nat → List Value) (k : Int) (x y x1 y1 : S8) (i1 : Int) (es : Nat → Nat) : fnA (chC x y k x1 y1 i1) 60 Tryd.f7 (bodyOf Tryd.f7) (cArgs [.sl kB n f, .pl (.int .i64 k)] 0) (cMem es [.sl kB n f, .pl (.int .i64 k)] 0) 0 =
    chT n f k x y x1 y1 := by kernel_rfl
theorem ch_loop (x : S8) (k : Int) (hk : k < 1000000) : LoopOk Tryd.prog 38 (loopAt [1, 1, 1, 0, 1, 0] (bodyOf Tryd.f7)) (atSt chNt chNi 21 (chSt x x k 0) (.exit 0) (chSt (chIt x k.toNat) (chIt x k.toNat) k (k.toNat : Int))) := by
  refine atSt_ok fun w0 R a W hrel => ?_
  refine loop_rounds (R := R) (C := chC0) chOk0 ch_at (m := 60) (nt := chNt) (ni := chNi) (et := chNt) (ei := chNi) (nx := 21) (ex := 21) (e := .exit 0) (sf := chSt (chIt x k.toNat) (chIt x k.toNat) k (k.toNat : Int))
    (fun j => chSt (chIt x j) (chIt x j) k (j : Int)) k.toNat (by intro h; cases h) ?_ ?_ hrel
  · intro j hj
    refine (ch_r _ _ _ _).trans ?_
    rw [decide_eq_true (by omega), cond_true, wrap_i64 (by omega)]; rfl
  · refine (ch_r _ _ _ _).trans ?_
    rw [decide_eq_false (by omega), cond_false]
theorem chT_eq (n : Nat) (f : Nat → List Value) (k : Int) (z : S8) : chT n f k (shN n (bN (sgF n f))) (shN n (bN (sgF n f))) z z = some (.bool true) := by
  unfold chT
  by_cases h1 : (n : Int) > 3000
  · rw [decide_eq_true h1, cond_true]
  rw [decide_eq_false h1, cond_false]
  by_cases h2 : k < 0
  · rw [decide_eq_true h2, cond_true]
  rw [decide_eq_false h2, cond_false]
  by_cases h3 : k > 100
  · rw [decide_eq_true h3, cond_true]
  rw [decide_eq_false h3, cond_false, okN_true (by omega), req_true rfl, req_true rfl, req_true (stEq_refl rfl), eqR_td rfl, cond_true]
theorem ch_big (n : Nat) (f : Nat → List Value) (k : Int) (hk : 1000000 ≤ k) (x y x1 y1 : S8) : chT n f k x y x1 y1 = some (.bool true) := by
  unfold chT
  by_cases h1 : (n : Int) > 3000
  · rw [decide_eq_true h1, cond_true]
  rw [decide_eq_false h1, cond_false, decide_eq_false (by omega), cond_false, decide_eq_true (by omega), cond_true]
theorem ch_evb (n : Nat) (f : Nat → List Value) (k : Int) (es : Nat → Nat) : fnA ⟨tab, chSum, 38, [([1, 1, 1, 0, 1, 0], fun _ => [])]⟩ 60 Tryd.f7 (bodyOf Tryd.f7) (cArgs [.sl kB n f, .pl (.int .i64 k)] 0) (cMem es [.sl kB n f, .pl (.int .i64 k)] 0) 0 =
    bif decide ((n : Int) > 3000) then some (.bool true) else bif decide (k < 0) then some (.bool true) else bif decide (k > 100) then some (.bool true) else req (okN n) (req (okN n) none) := by kernel_rfl
theorem ch_calls {n : Nat} {f : Nat → List Value} {k : Int} {v : Value} {W : World} (hg : GOk (lay Tryd.prog) W) (hv : SrcW W kB n f v) :
    Calls Tryd.prog 7 #[v, .int .i64 k] W fun e W' => e = .returned (.bool true) ∧ Below W.heap.size W W' :=
  law_sound (c := bodyOf Tryd.f7) (fuel := 60) (next := 0) (A := [.sl kB n f, .pl (.int .i64 k)]) (args' := [v, .int .i64 k]) Tryd.func7 (by kernel_rfl) ⟨hv, rfl, rfl, trivial⟩ hg
    (by show 2 ≤ Tryd.f7.ntmps; decide +kernel) rfl nofun
    fun es => by
      by_cases hk : k < 1000000
      · exact ⟨chC _ _ k _ _ _, ⟨mixed, tabOk, chSum_ok, oneL (ch_loop (shN n (bN (sgF n f))) k hk)⟩, rfl, (ch_ev n f k _ _ _ _ _ es).trans (chT_eq n f k _)⟩
      · refine ⟨_, ⟨mixed, tabOk, chSum_ok, noneL2⟩, rfl, (ch_evb n f k es).trans ?_⟩
        by_cases h1 : (n : Int) > 3000
        · rw [decide_eq_true h1, cond_true]
        rw [decide_eq_false h1, cond_false, decide_eq_false (by omega), cond_false, decide_eq_true (by omega), cond_true]

noncomputable def leC0 : Cfg := ⟨tab, chSum, 23, []⟩
theorem leOk0 : CfgOk Tryd.prog leC0 (bodyOf Tryd.f4) := ⟨mixed, tabOk, chSum_ok, noL⟩
theorem le_at : codeAt [1, 1, 0, 1, 0] (bodyOf Tryd.f4) = some (.loop (loopAt [1, 1, 0, 1, 0] (bodyOf Tryd.f4))) := by kernel_rfl
def leG : Nat → List Value := fun _ => [z8]
def leSt (i : Int) : St := ⟨[(0, .bool false), (1, .slice (some ⟨500008, 0, none⟩) 200 200), (2, i64 i)], [(500008, ⟨.row kB 200 leG, 5, true⟩)], 4⟩
def leNt : List Nat := [0, 1, 2]
def leNi : List Nat := [500008]
noncomputable def leX (i : Nat) : S8 := shN i (bN (segF ⟨500008, 0, i, kB, 200, leG, 0, true, []⟩))
def leR {α : Type} (i : Nat) (x : Option α) : Option α := req (decide (0 ≤ (i : Int)) && decide ((i : Int) ≤ 200)) (req (Nat.ble i 200) (req (((true && Nat.ble (0 + i) 200) && (true && Nat.ble i i && true && Nat.ble i 200)) && Nat.ble i 1000000) x))
theorem le_r (i : Nat) : roundS leC0 60 [1, 1, 0, 1, 0, 0] (loopAt [1, 1, 0, 1, 0] (bodyOf Tryd.f4)) leNt leNi 4 leNt leNi 4 (leSt (i : Int)) =
    bif decide ((i : Int) ≤ 200) then leR i (leR i (bif !(eqR 32 (lstF (tdL (leX i)) 0 1) 32 (lstF (tdL (leX i)) 0 1)) then some (.ret, leSt (i : Int)) else some (.normal, leSt (IntKind.i64.wrap ((i : Int) + 1))))) else some (.exit 0, leSt (i : Int)) := by kernel_rfl
noncomputable def leC : Cfg := ⟨tab, chSum, 23, [([1, 1, 0, 1, 0], atSt leNt leNi 4 (leSt 0) (.exit 0) (leSt 201))]⟩
theorem le_ev (es : Nat → Nat) : fnA leC 60 Tryd.f4 (bodyOf Tryd.f4) (cArgs [] 0) (cMem es [] 0) 0 = req (stEq (leSt 0) (leSt 0)) (some (.bool true)) := by kernel_rfl
theorem le_loop : LoopOk Tryd.prog 23 (loopAt [1, 1, 0, 1, 0] (bodyOf Tryd.f4)) (atSt leNt leNi 4 (leSt 0) (.exit 0) (leSt 201)) := by
  refine atSt_ok fun w0 R a W hrel => ?_
  refine loop_rounds (R := R) (C := leC0) leOk0 le_at (m := 60) (nt := leNt) (ni := leNi) (et := leNt) (ei := leNi) (nx := 4) (ex := 4) (e := .exit 0) (sf := leSt 201)
    (fun j => leSt (j : Int)) 201 (by intro h; cases h) ?_ ?_ hrel
  · intro j hj
    refine (le_r j).trans ?_
    have hr : ∀ {α : Type} (x : Option α), leR j x = x := by
      intro α x
      unfold leR
      rw [decide_eq_true (by omega), decide_eq_true (by omega), req_true (b := true && true) rfl, ble_of (by omega), req_true rfl, ble_of (by omega), ble_of (Nat.le_refl j), ble_of (by omega), req_true (by rfl)]
    rw [decide_eq_true (by omega), cond_true, hr, hr, eqR_td rfl, Bool.not_true, cond_false, wrap_i64 (by omega)]; rfl
  · refine (le_r 201).trans ?_
    rw [decide_eq_false (by omega), cond_false]; rfl
theorem le_calls {W : World} (hg : GOk (lay Tryd.prog) W) :
    Calls Tryd.prog 4 #[] W fun e W' => e = .returned (.bool true) ∧ Below W.heap.size W W' :=
  law_sound (c := bodyOf Tryd.f4) (fuel := 60) (next := 0) (A := []) (args' := []) Tryd.func4 (by kernel_rfl) trivial hg
    (Nat.zero_le _) rfl nofun
    fun es => ⟨leC, ⟨mixed, tabOk, chSum_ok, oneL le_loop⟩, rfl, (le_ev es).trans (by rw [req_true (stEq_refl rfl)])⟩

end Go.Proofs.YtaimnbmhlognmaaDoor
