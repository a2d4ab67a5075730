/-
  Several texts in one.
-/
import Derived.Test.YtdcgjjhngnkbmaaGreatDoorSh
import Derived.Test.YtdcgjjhngnkbmaaGreatDoorEh
/-
  Package draw: numbers laid in bytes, sums of what is joined, what fits.
-/
namespace Go.Proofs.YtdcgjjhngnkbmaaGreatDoor
set_option maxRecDepth 100000
open Go.W

def laC : Cfg := ⟨tab, [], 27, []⟩
theorem laOk : CfgOk Tryz.prog laC (bodyOf Tryz.f64) := ⟨mixed, tabOk, sums_nil, noL⟩
theorem la_ev4 (x : Int) (es : Nat → Nat) (id : Nat) : fnMS laC 60 Tryz.f64 (bodyOf Tryz.f64) (cArgs [.pl (.int .i64 x), .pl (.int .i64 4)] 0) (cMem es [.pl (.int .i64 x), .pl (.int .i64 4)] 0) 0 id =
    some (.slice (some ⟨nid id 0, 0, none⟩) 4 4, [(nid id 0, ⟨.row kB 4 (la4 x), 5, true⟩)]) := by kernel_rfl
theorem la_ev8 (x : Int) (es : Nat → Nat) (id : Nat) : fnMS laC 60 Tryz.f64 (bodyOf Tryz.f64) (cArgs [.pl (.int .i64 x), .pl (.int .i64 8)] 0) (cMem es [.pl (.int .i64 x), .pl (.int .i64 8)] 0) 0 id =
    some (.slice (some ⟨nid id 0, 0, none⟩) 8 8, [(nid id 0, ⟨.row kB 8 (la8 x), 5, true⟩)]) := by kernel_rfl
theorem la_msum : MSum Tryz.prog 64 (LaF 5) := by
  refine msum_of (fuel := 60) (next := 0) laOk Tryz.func64 (by kernel_rfl) (by kernel_rfl) rfl fun vs mm id v l hpick hlt => ?_
  unfold LaF at hpick
  split at hpick
  · rename_i x s
    simp only [pickM] at hpick
    by_cases h4 : s = 4
    · subst h4
      rw [decide_eq_true rfl, cond_true] at hpick
      simp only [Option.some.injEq, Prod.mk.injEq] at hpick
      obtain ⟨rfl, rfl⟩ := hpick
      exact ⟨[.pl (.int .i64 x), .pl (.int .i64 4)], ⟨rfl, rfl, rfl, rfl, trivial⟩, by show 2 ≤ Tryz.f64.ntmps; decide +kernel, .inr ⟨_, rfl⟩, fun es => la_ev4 x es id⟩
    · rw [decide_eq_false h4, cond_false] at hpick
      by_cases h8 : s = 8
      · subst h8
        rw [decide_eq_true rfl, cond_true] at hpick
        simp only [Option.some.injEq, Prod.mk.injEq] at hpick
        obtain ⟨rfl, rfl⟩ := hpick
        exact ⟨[.pl (.int .i64 x), .pl (.int .i64 8)], ⟨rfl, rfl, rfl, rfl, trivial⟩, by show 2 ≤ Tryz.f64.ntmps; decide +kernel, .inr ⟨_, rfl⟩, fun es => la_ev8 x es id⟩
      · rw [decide_eq_false h8, cond_false] at hpick
        simp at hpick
  · simp [pickM] at hpick

end Go.Proofs.YtdcgjjhngnkbmaaGreatDoor

/-
  Package draw: streams.
-/
namespace Go.Proofs.YtdcgjjhngnkbmaaGreatDoor
set_option maxRecDepth 100000
open Go.W

noncomputable def stG : Sums := [(62, SuF), (64, LaF 5), (63, MaF)]
theorem stG_ok : SumsOk Tryz.prog stG := sums_consM su_msum (sums_consM la_msum (sums_consM ma_msum sums_nil))
noncomputable def stC0 : Cfg := ⟨tab, stG, 42, []⟩
theorem stOk0 : CfgOk Tryz.prog stC0 (bodyOf Tryz.f42) := ⟨mixed, tabOk, stG_ok, noL⟩
theorem st_at : codeAt [1, 1, 1, 1, 0, 1, 0] (bodyOf Tryz.f42) = some (.loop (loopAt [1, 1, 1, 1, 0, 1, 0] (bodyOf Tryz.f42))) := by kernel_rfl
def stNt : List Nat := [0, 1, 7, 8, 9]
def stBa : Nat := nid 12 0
def stBb : Nat := nid 18 0
def stIa : List Nat := [stBa, 1500000]
def stIb : List Nat := [stBb, 13]
def stA (n : Nat) (f : Nat → List Value) (e0 N : Nat) (B : Nat → List Value) (a c : Int) : St :=
  ⟨[(0, aSl 0 n), (1, i64 N), (7, .slice (some ⟨stBa, 0, none⟩) N N), (8, i64 c), (9, i64 a)], [(stBa, ⟨.row kB N B, 5, true⟩), (1500000, ⟨.row kB n f, e0, false⟩)], 22⟩
noncomputable def stBs (h : S8) (N : Nat) (B : Nat → List Value) (a c : Int) : St :=
  ⟨[(0, .slice (some ⟨13, 0, none⟩) 32 32), (1, i64 N), (7, .slice (some ⟨stBb, 0, none⟩) N N), (8, i64 c), (9, i64 a)], [(stBb, ⟨.row kB N B, 5, true⟩), (13, ⟨.lst (tdL h), 27, true⟩)], 22⟩
def stQ (N a : Nat) : Bool := decide ((0 : Int) ≤ (a : Int)) && decide ((a : Int) ≤ (N : Int))
theorem stA_r (n : Nat) (f : Nat → List Value) (e0 N : Nat) (B : Nat → List Value) (a c : Nat) : roundS stC0 60 [1, 1, 1, 1, 0, 1, 0, 0] (loopAt [1, 1, 1, 1, 0, 1, 0] (bodyOf Tryz.f42)) stNt stIa 22 stNt stIa 22 (stA n f e0 N B (a : Int) (c : Int)) =
    bif decide ((a : Int) < (N : Int)) then req (okN n && true) (req (stQ N a) (req (Nat.ble N N) (req (true && Nat.ble (a + (N - a)) N) (req (true && Nat.ble (N - a) (N - a) && true)
      (some (.normal, stA n f e0 N (cpyF B a (min 32 (N - a)) (lstF (tdL (pcS (whF n (sgF n f)) c)) 0 1)) (IntKind.i64.wrap ((a : Int) + ((min 32 (N - a) : Nat) : Int))) (IntKind.i64.wrap ((c : Int) + 1))))))))
    else some (.exit 0, stA n f e0 N B (a : Int) (c : Int)) := by kernel_rfl

theorem stB_r (h : S8) (N : Nat) (B : Nat → List Value) (a c : Nat) : roundS stC0 60 [1, 1, 1, 1, 0, 1, 0, 0] (loopAt [1, 1, 1, 1, 0, 1, 0] (bodyOf Tryz.f42)) stNt stIb 22 stNt stIb 22 (stBs h N B (a : Int) (c : Int)) =
    bif decide ((a : Int) < (N : Int)) then (req (stQ N a) (req (Nat.ble N N) (req (true && Nat.ble (a + (N - a)) N) (req (true && Nat.ble (N - a) (N - a) && true)
      (some (.normal, stBs h N (cpyF B a (min 32 (N - a)) (lstF (tdL (pcS (whF 32 (lstF (tdL h) 0 1)) c)) 0 1)) (IntKind.i64.wrap ((a : Int) + ((min 32 (N - a) : Nat) : Int))) (IntKind.i64.wrap ((c : Int) + 1))))))))
    else some (.exit 0, stBs h N B (a : Int) (c : Int)) := by kernel_rfl
theorem stQ_true {N a : Nat} (h : a ≤ N) : stQ N a = true := by
  unfold stQ
  rw [Bool.and_eq_true, decide_eq_true_eq, decide_eq_true_eq]; omega
theorem st_loopA (n : Nat) (f : Nat → List Value) (e0 N : Nat) (hn : n ≤ 1000000) (hN : N ≤ 65536) : LoopOk Tryz.prog 42 (loopAt [1, 1, 1, 1, 0, 1, 0] (bodyOf Tryz.f42)) (atSt stNt stIa 22 (stA n f e0 N (smB (whF n f) N 0) 0 0) (.exit 0) (stA n f e0 N (smB (whF n f) N ((N + 31) / 32)) (N : Int) (((N + 31) / 32 : Nat) : Int))) := by
  refine atSt_ok fun w0 R a W hrel => ?_
  have hw : ∀ j, j < 64 → bI (whF n (sgF n f)) j = bI (whF n f) j := fun j _ => whF_congr (fun j _ => bI_sg n f j) j
  refine loop_rounds (R := R) (C := stC0) stOk0 st_at (m := 60) (nt := stNt) (ni := stIa) (et := stNt) (ei := stIa) (nx := 22) (ex := 22) (e := .exit 0) (sf := stA n f e0 N (smB (whF n f) N ((N + 31) / 32)) (N : Int) (((N + 31) / 32 : Nat) : Int))
    (fun j => stA n f e0 N (smB (whF n f) N j) ((min (32 * j) N : Nat) : Int) (j : Int)) ((N + 31) / 32) (by intro h; cases h) ?_ ?_ (by rw [show min (32 * 0) N = 0 from by omega]; exact hrel)
  · intro j hj
    have hj2 : 32 * j < N := by omega
    refine (stA_r n f e0 N _ _ j).trans ?_
    rw [Nat.min_eq_left (show 32 * j ≤ N by omega), decide_eq_true (by omega), cond_true, okN_true hn, req_true (b := true && true) rfl, stQ_true (by omega), req_true rfl, ble_of (Nat.le_refl N), req_true rfl, ble_of (show 32 * j + (N - 32 * j) ≤ N by omega), req_true (b := true && true) rfl, ble_of (Nat.le_refl _), req_true (b := true && true && true) rfl, wrap_i64 (by omega), wrap_i64 (by omega), pcS_congr hw,
      show min (32 * (j + 1)) N = 32 * j + min 32 (N - 32 * j) from by omega]
    rfl
  · refine (stA_r n f e0 N _ _ _).trans ?_
    rw [show min (32 * ((N + 31) / 32)) N = N from by omega, decide_eq_false (by omega), cond_false]
theorem st_loopB (n : Nat) (f : Nat → List Value) (N : Nat) (hn : 64 < n) (hN : N ≤ 65536) : LoopOk Tryz.prog 42 (loopAt [1, 1, 1, 1, 0, 1, 0] (bodyOf Tryz.f42)) (atSt stNt stIb 22 (stBs (shN n (bN f)) N (smB (whF n f) N 0) 0 0) (.exit 0) (stBs (shN n (bN f)) N (smB (whF n f) N ((N + 31) / 32)) (N : Int) (((N + 31) / 32 : Nat) : Int))) := by
  refine atSt_ok fun w0 R a W hrel => ?_
  have hw : ∀ j, j < 64 → bI (whF 32 (lstF (tdL (shN n (bN f))) 0 1)) j = bI (whF n f) j := fun j _ => longW hn f j
  refine loop_rounds (R := R) (C := stC0) stOk0 st_at (m := 60) (nt := stNt) (ni := stIb) (et := stNt) (ei := stIb) (nx := 22) (ex := 22) (e := .exit 0) (sf := stBs (shN n (bN f)) N (smB (whF n f) N ((N + 31) / 32)) (N : Int) (((N + 31) / 32 : Nat) : Int))
    (fun j => stBs (shN n (bN f)) N (smB (whF n f) N j) ((min (32 * j) N : Nat) : Int) (j : Int)) ((N + 31) / 32) (by intro h; cases h) ?_ ?_ (by rw [show min (32 * 0) N = 0 from by omega]; exact hrel)
  · intro j hj
    have hj2 : 32 * j < N := by omega
    refine (stB_r _ N _ _ j).trans ?_
    rw [Nat.min_eq_left (show 32 * j ≤ N by omega), decide_eq_true (by omega), cond_true, stQ_true (by omega), req_true rfl, ble_of (Nat.le_refl N), req_true rfl, ble_of (show 32 * j + (N - 32 * j) ≤ N by omega), req_true (b := true && true) rfl, ble_of (Nat.le_refl _), req_true (b := true && true && true) rfl, wrap_i64 (by omega), wrap_i64 (by omega), pcS_congr hw,
      show min (32 * (j + 1)) N = 32 * j + min 32 (N - 32 * j) from by omega]
    rfl
  · refine (stB_r _ N _ _ _).trans ?_
    rw [show min (32 * ((N + 31) / 32)) N = N from by omega, decide_eq_false (by omega), cond_false]
noncomputable def stCA (n : Nat) (f : Nat → List Value) (e0 N : Nat) (B B1 : Nat → List Value) (c : Int) : Cfg := ⟨tab, stG, 42, [([1, 1, 1, 1, 0, 1, 0], atSt stNt stIa 22 (stA n f e0 N B 0 0) (.exit 0) (stA n f e0 N B1 (N : Int) c))]⟩
noncomputable def stCB (h : S8) (N : Nat) (B B1 : Nat → List Value) (c : Int) : Cfg := ⟨tab, stG, 42, [([1, 1, 1, 1, 0, 1, 0], atSt stNt stIb 22 (stBs h N B 0 0) (.exit 0) (stBs h N B1 (N : Int) c))]⟩
def stW (N : Nat) (B : Nat → List Value) (id : Nat) : Option (Value × List (Nat × Blk)) := req (Nat.ble N N) (some (.tuple #[nSl id N, i64 0], rw1 5 id N B))
def stM (N : Nat) : Bool := decide (((N : Nat) : Int) = ((N : Nat) : Int)) && decide ((0 : Int) ≤ ((N : Nat) : Int)) && szOk N 1 && true && true && true && true && true
theorem st_evA (n : Nat) (f : Nat → List Value) (N : Nat) (B B1 : Nat → List Value) (c : Int) (es : Nat → Nat) (id : Nat) : fnMS (stCA n f (es 0) N B B1 c) 60 Tryz.f42 (bodyOf Tryz.f42) (cArgs [.sl kB n f, .pl (i64 (N : Nat))] 0) (cMem es [.sl kB n f, .pl (i64 (N : Nat))] 0) 0 id =
    bif decide (((N : Nat) : Int) < 0) then some (.tuple #[.slice none 0 0, i64 4], []) else bif decide (((N : Nat) : Int) > 65536) then some (.tuple #[.slice none 0 0, i64 4], []) else
      bif decide (((n : Nat) : Int) > 64) then req (okN n) (req (stM N) none) else req (stM N) (req (stEq (stA n f (es 0) N (fun _ => [z8]) 0 0) (stA n f (es 0) N B 0 0)) (stW N B1 id)) := by kernel_rfl
theorem st_evB (n : Nat) (f : Nat → List Value) (h : S8) (N : Nat) (B B1 : Nat → List Value) (c : Int) (es : Nat → Nat) (id : Nat) : fnMS (stCB h N B B1 c) 60 Tryz.f42 (bodyOf Tryz.f42) (cArgs [.sl kB n f, .pl (i64 (N : Nat))] 0) (cMem es [.sl kB n f, .pl (i64 (N : Nat))] 0) 0 id =
    bif decide (((N : Nat) : Int) < 0) then some (.tuple #[.slice none 0 0, i64 4], []) else bif decide (((N : Nat) : Int) > 65536) then some (.tuple #[.slice none 0 0, i64 4], []) else
      bif decide (((n : Nat) : Int) > 64) then req (okN n) (req (stM N) (req (stEq (stBs (shN n (bN (sgF n f))) N (fun _ => [z8]) 0 0) (stBs h N B 0 0)) (stW N B1 id))) else req (stM N) none := by kernel_rfl
theorem st_evN (n : Nat) (f : Nat → List Value) (N : Int) (es : Nat → Nat) (id : Nat) : fnMS ⟨tab, stG, 42, [([1, 1, 1, 1, 0, 1, 0], fun _ => [])]⟩ 60 Tryz.f42 (bodyOf Tryz.f42) (cArgs [.sl kB n f, .pl (i64 N)] 0) (cMem es [.sl kB n f, .pl (i64 N)] 0) 0 id =
    bif decide (N < 0) then some (.tuple #[.slice none 0 0, i64 4], []) else bif decide (N > 65536) then some (.tuple #[.slice none 0 0, i64 4], []) else
      bif decide (((n : Nat) : Int) > 64) then req (okN n) (req (decide (N = N) && decide ((0 : Int) ≤ N) && szOk N.toNat 1 && true && true && true && true && true) none) else req (decide (N = N) && decide ((0 : Int) ≤ N) && szOk N.toNat 1 && true && true && true && true && true) none := by kernel_rfl

theorem st_msum : MSum Tryz.prog 42 (StmF 5) := by
  intro w0 R fm w hm vs args' hl mm hsub id hlt v l hpick hnew
  unfold StmF at hpick
  split at hpick
  · rename_i a n
    simp only [pickM] at hpick
    generalize hqa : srcB mm kB a = qa at hpick
    obtain ⟨ok1, m, f⟩ := qa
    have hok : ok1 = true := by
      cases ok1 with
      | true => rfl
      | false => simp at hpick
    subst hok
    have hA : AOk mm [a, .int .i64 n] [.sl kB m f, .pl (.int .i64 n)] := ⟨hqa, rfl, rfl, trivial⟩
    by_cases hbad : n < 0 ∨ n > 65536
    · have : (decide (n < 0) || decide (n > 65536)) = true := by simp only [Bool.or_eq_true, decide_eq_true_eq]; exact hbad
      simp only [this, Bool.true_and, cond_true, Option.some.injEq, Prod.mk.injEq] at hpick
      obtain ⟨rfl, rfl⟩ := hpick
      refine msum_at (c := bodyOf Tryz.f42) (fuel := 60) (next := 0) Tryz.func42 (by kernel_rfl) (by kernel_rfl) hm hl hsub hlt hA (by show 2 ≤ Tryz.f42.ntmps; decide +kernel) (.inl rfl) hnew (fun es => ?_)
      refine ⟨⟨tab, stG, 42, [([1, 1, 1, 1, 0, 1, 0], fun _ => [])]⟩, ⟨mixed, tabOk, stG_ok, noneL2⟩, rfl, (st_evN m f n es id).trans ?_⟩
      by_cases h0 : n < 0
      · rw [decide_eq_true h0, cond_true]
      · rw [decide_eq_false h0, cond_false, decide_eq_true (by omega), cond_true]
    · have : (decide (n < 0) || decide (n > 65536)) = false := by simp only [Bool.or_eq_false_iff, decide_eq_false_iff_not]; omega
      simp only [this, Bool.and_false, cond_false, Bool.true_and] at hpick
      cases hm1 : Nat.ble m 1000000 with
      | false => rw [hm1] at hpick; simp at hpick
      | true =>
        rw [hm1, cond_true] at hpick
        simp only [Option.some.injEq, Prod.mk.injEq] at hpick
        obtain ⟨rfl, rfl⟩ := hpick
        have hm1 := Nat.le_of_ble_eq_true hm1
        obtain ⟨N, rfl⟩ : ∃ N : Nat, n = (N : Int) := ⟨n.toNat, by omega⟩
        rw [Int.toNat_natCast] at hnew ⊢
        have hN : N ≤ 65536 := by omega
        refine msum_at (c := bodyOf Tryz.f42) (fuel := 60) (next := 0) Tryz.func42 (by kernel_rfl) (by kernel_rfl) hm hl hsub hlt hA (by show 2 ≤ Tryz.f42.ntmps; decide +kernel) (.inr ⟨_, rfl⟩) hnew (fun es => ?_)
        have hM : stM N = true := by
          unfold stM
          rw [decide_eq_true rfl, decide_eq_true (by omega), szOk_small (by omega)]; rfl
        have hW : ∀ B, stW N B id = some (.tuple #[nSl id N, i64 0], rw1 5 id N B) := fun B => by unfold stW; rw [ble_of (Nat.le_refl _), req_true rfl]
        by_cases h64 : m ≤ 64
        · refine ⟨stCA m f (es 0) N (smB (whF m f) N 0) (smB (whF m f) N ((N + 31) / 32)) (((N + 31) / 32 : Nat) : Int), ⟨mixed, tabOk, stG_ok, oneL (st_loopA m f (es 0) N hm1 hN)⟩, rfl, (st_evA m f N _ _ _ es id).trans ?_⟩
          rw [decide_eq_false (by omega), cond_false, decide_eq_false (by omega), cond_false, decide_eq_false (by omega), cond_false, hM, req_true rfl, req_true (b := stEq (stA m f (es 0) N (fun _ => [z8]) 0 0) (stA m f (es 0) N (smB (whF m f) N 0) 0 0)) (stEq_refl (s := stA m f (es 0) N (smB (whF m f) N 0) 0 0) rfl), hW]
          rfl
        · refine ⟨stCB (shN m (bN f)) N (smB (whF m f) N 0) (smB (whF m f) N ((N + 31) / 32)) (((N + 31) / 32 : Nat) : Int), ⟨mixed, tabOk, stG_ok, oneL (st_loopB m f N (by omega) hN)⟩, rfl, (st_evB m f _ N _ _ _ es id).trans ?_⟩
          rw [decide_eq_false (by omega), cond_false, decide_eq_false (by omega), cond_false, decide_eq_true (by omega), cond_true, okN_true hm1, req_true rfl, hM, req_true rfl, bN_sg, req_true (b := stEq (stBs (shN m (bN f)) N (fun _ => [z8]) 0 0) (stBs (shN m (bN f)) N (smB (whF m f) N 0) 0 0)) (stEq_refl (s := stBs (shN m (bN f)) N (smB (whF m f) N 0) 0 0) rfl), hW]
          rfl
  · simp [pickM] at hpick

end Go.Proofs.YtdcgjjhngnkbmaaGreatDoor

/-
  The document's numbers in bytes, and joined parts.
-/
namespace Go.Proofs.YtdcgjjhngnkbmaaGreatDoor
set_option maxRecDepth 100000
open Go.W

def beC : Cfg := ⟨tab, [], 23, []⟩
theorem beOk : CfgOk Tryz.prog beC (bodyOf Tryz.f66) := ⟨mixed, tabOk, sums_nil, noL⟩
theorem be_ev4 (x : Int) (es : Nat → Nat) (id : Nat) : fnMS beC 60 Tryz.f66 (bodyOf Tryz.f66) (cArgs [.pl (.int .u64 x), .pl (.int .i64 4)] 0) (cMem es [.pl (.int .u64 x), .pl (.int .i64 4)] 0) 0 id =
    some (.slice (some ⟨nid id 0, 0, none⟩) 4 4, [(nid id 0, ⟨.row kB 4 (be4 x), 5, true⟩)]) := by kernel_rfl
theorem be_ev8 (x : Int) (es : Nat → Nat) (id : Nat) : fnMS beC 60 Tryz.f66 (bodyOf Tryz.f66) (cArgs [.pl (.int .u64 x), .pl (.int .i64 8)] 0) (cMem es [.pl (.int .u64 x), .pl (.int .i64 8)] 0) 0 id =
    some (.slice (some ⟨nid id 0, 0, none⟩) 8 8, [(nid id 0, ⟨.row kB 8 (be8 x), 5, true⟩)]) := by kernel_rfl
theorem be_msum : MSum Tryz.prog 66 (BeF 5) := by
  refine msum_of (fuel := 60) (next := 0) beOk Tryz.func66 (by kernel_rfl) (by kernel_rfl) rfl fun vs mm id v l hpick hlt => ?_
  unfold BeF at hpick
  split at hpick
  · rename_i x s
    simp only [pickM] at hpick
    by_cases h4 : s = 4
    · subst h4
      rw [decide_eq_true rfl, cond_true] at hpick
      simp only [Option.some.injEq, Prod.mk.injEq] at hpick
      obtain ⟨rfl, rfl⟩ := hpick
      exact ⟨[.pl (.int .u64 x), .pl (.int .i64 4)], ⟨rfl, rfl, rfl, rfl, trivial⟩, by show 2 ≤ Tryz.f66.ntmps; decide +kernel, .inr ⟨_, rfl⟩, fun es => be_ev4 x es id⟩
    · rw [decide_eq_false h4, cond_false] at hpick
      by_cases h8 : s = 8
      · subst h8
        rw [decide_eq_true rfl, cond_true] at hpick
        simp only [Option.some.injEq, Prod.mk.injEq] at hpick
        obtain ⟨rfl, rfl⟩ := hpick
        exact ⟨[.pl (.int .u64 x), .pl (.int .i64 8)], ⟨rfl, rfl, rfl, rfl, trivial⟩, by show 2 ≤ Tryz.f66.ntmps; decide +kernel, .inr ⟨_, rfl⟩, fun es => be_ev8 x es id⟩
      · rw [decide_eq_false h8, cond_false] at hpick
        simp at hpick
  · simp [pickM] at hpick

end Go.Proofs.YtdcgjjhngnkbmaaGreatDoor

/-
  The document's streams.
-/
namespace Go.Proofs.YtdcgjjhngnkbmaaGreatDoor
set_option maxRecDepth 100000
open Go.W

noncomputable def rsG : Sums := [(66, BeF 5), (65, DmF)]
theorem rsG_ok : SumsOk Tryz.prog rsG := sums_consM be_msum (sums_consM dm_msum sums_nil)
noncomputable def rsC0 : Cfg := ⟨tab, rsG, 24, []⟩
theorem rsOk0 : CfgOk Tryz.prog rsC0 (bodyOf Tryz.f45) := ⟨mixed, tabOk, rsG_ok, noL⟩
theorem rs_at : codeAt [1, 1, 0, 1, 0] (bodyOf Tryz.f45) = some (.loop (loopAt [1, 1, 0, 1, 0] (bodyOf Tryz.f45))) := by kernel_rfl
def rsNt : List Nat := [0, 1, 5, 6]
def rsB : Nat := nid 13 0
def rsI0 : Ren := [(1500000, 1500000)]
def rsN0 : Ren := [(rsB, nid 15 0), (1500000, 1500000)]
def rsEi : Ren := [(rsB, rsB), (1500000, 1500000)]
def rsZ (m : Nat) (f : Nat → List Value) (e0 N : Nat) : St := ⟨[(0, aSl 0 m), (1, i64 N), (5, .slice none 0 0), (6, .int .u64 0)], [(1500000, ⟨.row kB m f, e0, false⟩)], 3⟩
def rsS (m : Nat) (f : Nat → List Value) (e0 N L : Nat) (J : Nat → List Value) (c : Int) : St := ⟨[(0, aSl 0 m), (1, i64 N), (5, .slice (some ⟨rsB, 0, none⟩) L L), (6, .int .u64 c)], [(rsB, ⟨.row kB L J, 5, true⟩), (1500000, ⟨.row kB m f, e0, false⟩)], 3⟩
noncomputable def rsP (m : Nat) (f : Nat → List Value) (c : Int) : S8 := mcN (whF m (sgF m f)) 8 (bN (sgF 8 (be8 c)))
theorem rs_r0 (m : Nat) (f : Nat → List Value) (e0 N : Nat) : roundS rsC0 60 [1, 1, 0, 1, 0, 0] (loopAt [1, 1, 0, 1, 0] (bodyOf Tryz.f45)) rsNt rsN0 3 rsNt rsI0 3 (rsZ m f e0 N) =
    bif decide ((0 : Int) < (N : Int)) then req (okN m && true) (some (.normal, rsS m f e0 N 32 (lstF (tdL (rsP m f 0)) 0 1) 1)) else some (.exit 0, rsZ m f e0 N) := by kernel_rfl
theorem rs_r (m : Nat) (f : Nat → List Value) (e0 N L : Nat) (J : Nat → List Value) (c : Nat) : roundS rsC0 60 [1, 1, 0, 1, 0, 0] (loopAt [1, 1, 0, 1, 0] (bodyOf Tryz.f45)) rsNt rsN0 3 rsNt rsEi 3 (rsS m f e0 N L J (c : Int)) =
    bif decide ((L : Int) < (N : Int)) then req (okN m && true) (req (szOk (L + 32) 1) (req (Nat.beq L L && true && true) (some (.normal, rsS m f e0 N (L + 32) (appF L J (lstF (tdL (rsP m f (c : Int))) 0 1)) (IntKind.u64.wrap ((c : Int) + 1)))))) else some (.exit 0, rsS m f e0 N L J (c : Int)) := by kernel_rfl

theorem rs_r0b (m : Nat) (f : Nat → List Value) (e0 N : Nat) : roundS rsC0 60 [1, 1, 0, 1, 0, 0] (loopAt [1, 1, 0, 1, 0] (bodyOf Tryz.f45)) rsNt rsN0 3 rsNt rsEi 3 (rsZ m f e0 N) =
    bif decide ((0 : Int) < (N : Int)) then req (okN m && true) (some (.normal, rsS m f e0 N 32 (lstF (tdL (rsP m f 0)) 0 1) 1)) else none := by kernel_rfl
theorem rs_loop0 (m : Nat) (f : Nat → List Value) (e0 : Nat) : LoopOk Tryz.prog 24 (loopAt [1, 1, 0, 1, 0] (bodyOf Tryz.f45)) (atSt rsNt rsI0 3 (rsZ m f e0 0) (.exit 0) (rsZ m f e0 0)) := by
  refine atSt_ok fun w0 R a W hrel => ?_
  refine loop_rounds (R := R) (C := rsC0) rsOk0 rs_at (m := 60) (nt := rsNt) (ni := rsN0) (et := rsNt) (ei := rsI0) (nx := 3) (ex := 3) (e := .exit 0) (sf := rsZ m f e0 0)
    (fun _ => rsZ m f e0 0) 0 (by intro h; cases h) (fun k hk => absurd hk (by omega)) ?_ hrel
  refine (rs_r0 m f e0 0).trans ?_
  rw [decide_eq_false (by omega), cond_false]
noncomputable def rsSt (m : Nat) (f : Nat → List Value) (e0 N : Nat) : Nat → St
  | 0 => rsZ m f e0 N
  | c + 1 => rsS m f e0 N (32 * (c + 1)) (rsJ (fun c => rsP m f ((c : Nat) : Int)) (c + 1)) ((c + 1 : Nat) : Int)
theorem rs_loop (m : Nat) (f : Nat → List Value) (e0 N : Nat) (hm : m ≤ 1000000) (hN : N ≤ 65536) (h0 : 0 < N) : LoopOk Tryz.prog 24 (loopAt [1, 1, 0, 1, 0] (bodyOf Tryz.f45)) (atSt rsNt rsI0 3 (rsZ m f e0 N) (.exit 0) (rsS m f e0 N (32 * ((N + 31) / 32)) (rsJ (fun c => rsP m f ((c : Nat) : Int)) ((N + 31) / 32)) (((N + 31) / 32 : Nat) : Int))) := by
  refine atSt_ok fun w0 R a W hrel => ?_
  obtain ⟨k, hk⟩ : ∃ k, (N + 31) / 32 = k + 1 := ⟨(N + 31) / 32 - 1, by omega⟩
  rw [hk]
  refine loop_rounds (R := R) (C := rsC0) rsOk0 rs_at (m := 60) (nt := rsNt) (ni := rsN0) (et := rsNt) (ei := rsEi) (nx := 3) (ex := 3) (e := .exit 0) (sf := rsS m f e0 N (32 * (k + 1)) (rsJ (fun c => rsP m f ((c : Nat) : Int)) (k + 1)) ((k + 1 : Nat) : Int))
    (rsSt m f e0 N) (k + 1) (by intro h; cases h) ?_ ?_ hrel
  · intro j hj
    cases j with
    | zero =>
      refine (rs_r0b m f e0 N).trans ?_
      rw [decide_eq_true (by omega), cond_true, okN_true hm, req_true (b := true && true) rfl]
      show _ = some (Exit.normal, rsS m f e0 N (32 * (0 + 1)) (rsJ (fun c => rsP m f ((c : Nat) : Int)) (0 + 1)) ((0 + 1 : Nat) : Int))
      rw [show (0 + 1 : Nat) = 1 from rfl, rsJ_one]
      rfl
    | succ j =>
      refine (rs_r m f e0 N _ _ (j + 1)).trans ?_
      rw [decide_eq_true (by omega), cond_true, okN_true hm, req_true (b := true && true) rfl, szOk_small (by omega), req_true rfl, Nat.beq_refl, req_true (b := true && true && true) rfl]
      show _ = some (Exit.normal, rsS m f e0 N (32 * (j + 2)) (rsJ (fun c => rsP m f ((c : Nat) : Int)) (j + 2)) ((j + 2 : Nat) : Int))
      rw [rsJ_succ, show 32 * (j + 1) + 32 = 32 * (j + 2) from by omega, show IntKind.u64.wrap (((j + 1 : Nat) : Int) + 1) = ((j + 2 : Nat) : Int) from by rw [wrap_u64]; omega]
  · refine (rs_r m f e0 N _ _ (k + 1)).trans ?_
    rw [decide_eq_false (by omega), cond_false]
noncomputable def rsC (m : Nat) (f : Nat → List Value) (e0 N : Nat) (sf : St) : Cfg := ⟨tab, rsG, 24, [([1, 1, 0, 1, 0], atSt rsNt rsI0 3 (rsZ m f e0 N) (.exit 0) sf)]⟩
theorem rs_ev0 (m : Nat) (f : Nat → List Value) (es : Nat → Nat) (id : Nat) : fnMS (rsC m f (es 0) 0 (rsZ m f (es 0) 0)) 60 Tryz.f45 (bodyOf Tryz.f45) (cArgs [.sl kB m f, .pl (i64 ((0 : Nat) : Int))] 0) (cMem es [.sl kB m f, .pl (i64 ((0 : Nat) : Int))] 0) 0 id =
    req (stEq (rsZ m f (es 0) 0) (rsZ m f (es 0) 0)) (some (.slice none 0 0, [])) := by kernel_rfl
noncomputable def rsU (N L : Nat) (J : Nat → List Value) (id : Nat) : Option (Value × List (Nat × Blk)) :=
  req (decide ((0 : Int) ≤ (N : Int)) && decide ((N : Int) ≤ (L : Int))) (req (Nat.ble N L) (oK (bif true && Nat.ble (0 + (N - 0)) L then some (⟨rsB, 0, N - 0, kB, L, J, 5, true, []⟩ : Seg) else none) (fun q => bif q.own && true && true && Nat.ble (N - 0) q.cnt && Nat.ble (N - 0) (L - 0) && Nat.blt 0 (N - 0) then some (.slice (some ⟨nid id 0, 0, none⟩) (N - 0) (N - 0), [(nid id 0, ⟨.row q.ks (N - 0) (fun x => q.f (q.start + x)), q.elem, loose q.base⟩)]) else none) none))
theorem rs_ev (m : Nat) (f : Nat → List Value) (N L : Nat) (J : Nat → List Value) (c : Int) (es : Nat → Nat) (id : Nat) : fnMS (rsC m f (es 0) N (rsS m f (es 0) N L J c)) 60 Tryz.f45 (bodyOf Tryz.f45) (cArgs [.sl kB m f, .pl (i64 (N : Int))] 0) (cMem es [.sl kB m f, .pl (i64 (N : Int))] 0) 0 id =
    req (stEq (rsZ m f (es 0) N) (rsZ m f (es 0) N)) (rsU N L J id) := by kernel_rfl
theorem rs_msum : MSum Tryz.prog 45 (RsF 5) := by
  intro w0 R fm w hm vs args' hl mm hsub id hlt v l hpick hnew
  unfold RsF at hpick
  split at hpick
  · rename_i a n
    simp only [pickM] at hpick
    generalize hqa : srcB mm kB a = qa at hpick
    obtain ⟨ok1, m, f⟩ := qa
    have hok : ok1 = true := by
      cases ok1 with
      | true => rfl
      | false => simp at hpick
    subst hok
    have hA : AOk mm [a, .int .i64 n] [.sl kB m f, .pl (.int .i64 n)] := ⟨hqa, rfl, rfl, trivial⟩
    by_cases h0 : n = 0
    · subst h0
      simp only [decide_true, Bool.and_self, cond_true, Option.some.injEq, Prod.mk.injEq] at hpick
      obtain ⟨rfl, rfl⟩ := hpick
      refine msum_at (c := bodyOf Tryz.f45) (fuel := 60) (next := 0) Tryz.func45 (by kernel_rfl) (by kernel_rfl) hm hl hsub hlt hA (by show 2 ≤ Tryz.f45.ntmps; decide +kernel) (.inl rfl) hnew (fun es => ?_)
      refine ⟨rsC m f (es 0) 0 (rsZ m f (es 0) 0), ⟨mixed, tabOk, rsG_ok, oneL (rs_loop0 m f (es 0))⟩, rfl, (rs_ev0 m f es id).trans ?_⟩
      rw [req_true (stEq_refl rfl)]
    · rw [decide_eq_false h0] at hpick
      simp only [Bool.and_false, cond_false, Bool.true_and] at hpick
      obtain ⟨hc, hpick⟩ := cond_some.1 hpick
      simp only [Bool.and_eq_true, decide_eq_true_eq] at hc
      obtain ⟨hm1, hn1, hn2⟩ := hc
      have hm1 := Nat.le_of_ble_eq_true hm1
      simp only [Option.some.injEq, Prod.mk.injEq] at hpick
      obtain ⟨rfl, rfl⟩ := hpick
      obtain ⟨N, rfl⟩ : ∃ N : Nat, n = (N : Int) := ⟨n.toNat, by omega⟩
      rw [Int.toNat_natCast] at hnew ⊢
      refine msum_at (c := bodyOf Tryz.f45) (fuel := 60) (next := 0) Tryz.func45 (by kernel_rfl) (by kernel_rfl) hm hl hsub hlt hA (by show 2 ≤ Tryz.f45.ntmps; decide +kernel) (.inr ⟨_, rfl⟩) hnew (fun es => ?_)
      refine ⟨rsC m f (es 0) N (rsS m f (es 0) N (32 * ((N + 31) / 32)) (rsJ (fun c => rsP m f ((c : Nat) : Int)) ((N + 31) / 32)) (((N + 31) / 32 : Nat) : Int)), ⟨mixed, tabOk, rsG_ok, oneL (rs_loop m f (es 0) N hm1 (by omega) (by omega))⟩, rfl, (rs_ev m f N _ _ _ es id).trans ?_⟩
      rw [req_true (stEq_refl rfl)]
      unfold rsU
      rw [decide_eq_true (by omega), decide_eq_true (by omega), req_true (b := true && true) rfl, ble_of (by omega : N ≤ 32 * ((N + 31) / 32)), req_true rfl, Nat.sub_zero, ble_of (by omega : 0 + N ≤ 32 * ((N + 31) / 32))]
      show (bif true && true && true && Nat.ble N N && Nat.ble N (32 * ((N + 31) / 32) - 0) && Nat.blt 0 N then some (Value.slice (some ⟨nid id 0, 0, none⟩) N N, [(nid id 0, (⟨.row kB N (fun x => rsJ (fun c => rsP m f ((c : Nat) : Int)) ((N + 31) / 32) (0 + x)), 5, true⟩ : Blk))]) else none) = _
      rw [ble_of (Nat.le_refl N), ble_of (by omega : N ≤ 32 * ((N + 31) / 32) - 0), blt_of (by omega)]
      rfl
  · simp [pickM] at hpick

end Go.Proofs.YtdcgjjhngnkbmaaGreatDoor
