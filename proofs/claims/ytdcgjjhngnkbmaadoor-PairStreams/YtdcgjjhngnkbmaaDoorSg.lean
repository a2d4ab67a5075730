/-
  Several texts in one.
-/
import Derived.Test.YtdcgjjhngnkbmaaDoorSh
import Derived.Test.YtdcgjjhngnkbmaaDoorEh
/-
  Package draw: numbers laid in bytes, sums of what is joined, what fits.
-/
namespace Go.Proofs.YtdcgjjhngnkbmaaDoor
set_option maxRecDepth 100000
open Go.W

def laC : Cfg := ⟨tab, [], 27, []⟩
theorem laOk : CfgOk Tryd.prog laC (bodyOf Tryd.f24) := ⟨mixed, tabOk, sums_nil, noL⟩
theorem la_ev4 (x : Int) (es : Nat → Nat) (id : Nat) : fnMS laC 60 Tryd.f24 (bodyOf Tryd.f24) (cArgs [.pl (.int .i64 x), .pl (.int .i64 4)] 0) (cMem es [.pl (.int .i64 x), .pl (.int .i64 4)] 0) 0 id =
    some (.slice (some ⟨nid id 0, 0, none⟩) 4 4, [(nid id 0, ⟨.row kB 4 (la4 x), 5, true⟩)]) := by kernel_rfl
theorem la_ev8 (x : Int) (es : Nat → Nat) (id : Nat) : fnMS laC 60 Tryd.f24 (bodyOf Tryd.f24) (cArgs [.pl (.int .i64 x), .pl (.int .i64 8)] 0) (cMem es [.pl (.int .i64 x), .pl (.int .i64 8)] 0) 0 id =
    some (.slice (some ⟨nid id 0, 0, none⟩) 8 8, [(nid id 0, ⟨.row kB 8 (la8 x), 5, true⟩)]) := by kernel_rfl
theorem la_msum : MSum Tryd.prog 24 (LaF 5) := by
  refine msum_of (fuel := 60) (next := 0) laOk Tryd.func24 (by kernel_rfl) (by kernel_rfl) rfl fun vs mm id v l hpick hlt => ?_
  unfold LaF at hpick
  split at hpick
  · rename_i x s
    simp only [pickM] at hpick
    by_cases h4 : s = 4
    · subst h4
      rw [decide_eq_true rfl, cond_true] at hpick
      simp only [Option.some.injEq, Prod.mk.injEq] at hpick
      obtain ⟨rfl, rfl⟩ := hpick
      exact ⟨[.pl (.int .i64 x), .pl (.int .i64 4)], ⟨rfl, rfl, rfl, rfl, trivial⟩, by show 2 ≤ Tryd.f24.ntmps; decide +kernel, .inr ⟨_, rfl⟩, fun es => la_ev4 x es id⟩
    · rw [decide_eq_false h4, cond_false] at hpick
      by_cases h8 : s = 8
      · subst h8
        rw [decide_eq_true rfl, cond_true] at hpick
        simp only [Option.some.injEq, Prod.mk.injEq] at hpick
        obtain ⟨rfl, rfl⟩ := hpick
        exact ⟨[.pl (.int .i64 x), .pl (.int .i64 8)], ⟨rfl, rfl, rfl, rfl, trivial⟩, by show 2 ≤ Tryd.f24.ntmps; decide +kernel, .inr ⟨_, rfl⟩, fun es => la_ev8 x es id⟩
      · rw [decide_eq_false h8, cond_false] at hpick
        simp at hpick
  · simp [pickM] at hpick

end Go.Proofs.YtdcgjjhngnkbmaaDoor

/-
  Package draw: streams.
-/
namespace Go.Proofs.YtdcgjjhngnkbmaaDoor
set_option maxRecDepth 100000
open Go.W

noncomputable def stG : Sums := [(22, SuF), (24, LaF 5), (23, MaF)]
theorem stG_ok : SumsOk Tryd.prog stG := sums_consM su_msum (sums_consM la_msum (sums_consM ma_msum sums_nil))
noncomputable def stC0 : Cfg := ⟨tab, stG, 42, []⟩
theorem stOk0 : CfgOk Tryd.prog stC0 (bodyOf Tryd.f12) := ⟨mixed, tabOk, stG_ok, noL⟩
theorem st_at : codeAt [1, 1, 1, 1, 0, 1, 0] (bodyOf Tryd.f12) = some (.loop (loopAt [1, 1, 1, 1, 0, 1, 0] (bodyOf Tryd.f12))) := by kernel_rfl
def stNt : List Nat := [0, 1, 7, 8, 9]
def stBa : Nat := nid 12 0
def stBb : Nat := nid 18 0
def stIa : List Nat := [stBa, 1500000]
def stIb : List Nat := [stBb, 13]
def stA (n : Nat) (f : Nat → List Value) (e0 N : Nat) (B : Nat → List Value) (a c : Int) : St :=
  ⟨[(0, aSl 0 n), (1, i64 N), (7, .slice (some ⟨stBa, 0, none⟩) N N), (8, i64 c), (9, i64 a)], [(stBa, ⟨.row kB N B, 5, true⟩), (1500000, ⟨.row kB n f, e0, false⟩)], 22⟩
noncomputable def stBs (h : S8) (N : Nat) (B : Nat → List Value) (a c : Int) : St :=
  ⟨[(0, .slice (some ⟨13, 0, none⟩) 32 32), (1, i64 N), (7, .slice (some ⟨stBb, 0, none⟩) N N), (8, i64 c), (9, i64 a)], [(stBb, ⟨.row kB N B, 5, true⟩), (13, ⟨.lst (tdL h), 25, true⟩)], 22⟩
def stQ (N a : Nat) : Bool := decide ((0 : Int) ≤ (a : Int)) && decide ((a : Int) ≤ (N : Int))
theorem stA_r (n : Nat) (f : Nat → List Value) (e0 N : Nat) (B : Nat → List Value) (a c : Nat) : roundS stC0 60 [1, 1, 1, 1, 0, 1, 0, 0] (loopAt [1, 1, 1, 1, 0, 1, 0] (bodyOf Tryd.f12)) stNt stIa 22 stNt stIa 22 (stA n f e0 N B (a : Int) (c : Int)) =
    bif decide ((a : Int) < (N : Int)) then req (okN n && true) (req (stQ N a) (req (Nat.ble N N) (req (true && Nat.ble (a + (N - a)) N) (req (true && Nat.ble (N - a) (N - a) && true)
      (some (.normal, stA n f e0 N (cpyF B a (min 32 (N - a)) (lstF (tdL (pcS (whF n (sgF n f)) c)) 0 1)) (IntKind.i64.wrap ((a : Int) + ((min 32 (N - a) : Nat) : Int))) (IntKind.i64.wrap ((c : Int) + 1))))))))
    else some (.exit 0, stA n f e0 N B (a : Int) (c : Int)) := by kernel_rfl

theorem stB_r (h : S8) (N : Nat) (B : Nat → List Value) (a c : Nat) : roundS stC0 60 [1, 1, 1, 1, 0, 1, 0, 0] (loopAt [1, 1, 1, 1, 0, 1, 0] (bodyOf Tryd.f12)) stNt stIb 22 stNt stIb 22 (stBs h N B (a : Int) (c : Int)) =
    bif decide ((a : Int) < (N : Int)) then (req (stQ N a) (req (Nat.ble N N) (req (true && Nat.ble (a + (N - a)) N) (req (true && Nat.ble (N - a) (N - a) && true)
      (some (.normal, stBs h N (cpyF B a (min 32 (N - a)) (lstF (tdL (pcS (whF 32 (lstF (tdL h) 0 1)) c)) 0 1)) (IntKind.i64.wrap ((a : Int) + ((min 32 (N - a) : Nat) : Int))) (IntKind.i64.wrap ((c : Int) + 1))))))))
    else some (.exit 0, stBs h N B (a : Int) (c : Int)) := by kernel_rfl
theorem stQ_true {N a : Nat} (h : a ≤ N) : stQ N a = true := by
  unfold stQ
  rw [Bool.and_eq_true, decide_eq_true_eq, decide_eq_true_eq]; omega
theorem st_loopA (n : Nat) (f : Nat → List Value) (e0 N : Nat) (hn : n ≤ 1000000) (hN : N ≤ 65536) : LoopOk Tryd.prog 42 (loopAt [1, 1, 1, 1, 0, 1, 0] (bodyOf Tryd.f12)) (atSt stNt stIa 22 (stA n f e0 N (smB (whF n f) N 0) 0 0) (.exit 0) (stA n f e0 N (smB (whF n f) N ((N + 31) / 32)) (N : Int) (((N + 31) / 32 : Nat) : Int))) := by
  refine atSt_ok fun w0 R a W hrel => ?_
  have hw : ∀ j, j < 64 → bI (whF n (sgF n f)) j = bI (whF n f) j := fun j _ => whF_congr (fun j _ => bI_sg n f j) j
  refine loop_rounds (R := R) (C := stC0) stOk0 st_at (m := 60) (nt := stNt) (ni := stIa) (et := stNt) (ei := stIa) (nx := 22) (ex := 22) (e := .exit 0) (sf := stA n f e0 N (smB (whF n f) N ((N + 31) / 32)) (N : Int) (((N + 31) / 32 : Nat) : Int))
    (fun j => stA n f e0 N (smB (whF n f) N j) ((min (32 * j) N : Nat) : Int) (j : Int)) ((N + 31) / 32) (by intro h; cases h) ?_ ?_ (by rw [show min (32 * 0) N = 0 from by omega]; exact hrel)
  · intro j hj
    have hj2 : 32 * j < N := by omega
    refine (stA_r n f e0 N _ _ j).trans ?_
    rw [Nat.min_eq_left (show 32 * j ≤ N by omega), decide_eq_true (by omega), cond_true, okN_true hn, req_true (b := true && true) rfl, stQ_true (by omega), req_true rfl, ble_of (Nat.le_refl N), req_true rfl, ble_of (show 32 * j + (N - 32 * j) ≤ N by omega), req_true (b := true && true) rfl, ble_of (Nat.le_refl _), req_true (b := true && true && true) rfl, wrap_i64 (by omega), wrap_i64 (by omega), pcS_congr hw,
      show min (32 * (j + 1)) N = 32 * j + min 32 (N - 32 * j) from by omega]
    rfl
  · refine (stA_r n f e0 N _ _ _).trans ?_
    rw [show min (32 * ((N + 31) / 32)) N = N from by omega, decide_eq_false (by omega), cond_false]
theorem st_loopB (n : Nat) (f : Nat → List Value) (N : Nat) (hn : 64 < n) (hN : N ≤ 65536) : LoopOk Tryd.prog 42 (loopAt [1, 1, 1, 1, 0, 1, 0] (bodyOf Tryd.f12)) (atSt stNt stIb 22 (stBs (shN n (bN f)) N (smB (whF n f) N 0) 0 0) (.exit 0) (stBs (shN n (bN f)) N (smB (whF n f) N ((N + 31) / 32)) (N : Int) (((N + 31) / 32 : Nat) : Int))) := by
  refine atSt_ok fun w0 R a W hrel => ?_
  have hw : ∀ j, j < 64 → bI (whF 32 (lstF (tdL (shN n (bN f))) 0 1)) j = bI (whF n f) j := fun j _ => longW hn f j
  refine loop_rounds (R := R) (C := stC0) stOk0 st_at (m := 60) (nt := stNt) (ni := stIb) (et := stNt) (ei := stIb) (nx := 22) (ex := 22) (e := .exit 0) (sf := stBs (shN n (bN f)) N (smB (whF n f) N ((N + 31) / 32)) (N : Int) (((N + 31) / 32 : Nat) : Int))
    (fun j => stBs (shN n (bN f)) N (smB (whF n f) N j) ((min (32 * j) N : Nat) : Int) (j : Int)) ((N + 31) / 32) (by intro h; cases h) ?_ ?_ (by rw [show min (32 * 0) N = 0 from by omega]; exact hrel)
  · intro j hj
    have hj2 : 32 * j < N := by omega
    refine (stB_r _ N _ _ j).trans ?_
    rw [Nat.min_eq_left (show 32 * j ≤ N by omega), decide_eq_true (by omega), cond_true, stQ_true (by omega), req_true rfl, ble_of (Nat.le_refl N), req_true rfl, ble_of (show 32 * j + (N - 32 * j) ≤ N by omega), req_true (b := true && true) rfl, ble_of (Nat.le_refl _), req_true (b := true && true && true) rfl, wrap_i64 (by omega), wrap_i64 (by omega), pcS_congr hw,
      show min (32 * (j + 1)) N = 32 * j + min 32 (N - 32 * j) from by omega]
    rfl
  · refine (stB_r _ N _ _ _).trans ?_
    rw [show min (32 * ((N + 31) / 32)) N = N from by omega, decide_eq_false (by omega), cond_false]
noncomputable def stCA (n : Nat) (f : Nat → List Value) (e0 N : Nat) (B B1 : Nat → List Value) (c : Int) : Cfg := ⟨tab, stG, 42, [([1, 1, 1, 1, 0, 1, 0], atSt stNt stIa 22 (stA n f e0 N B 0 0) (.exit 0) (stA n f e0 N B1 (N : Int) c))]⟩
noncomputable def stCB (h : S8) (N : Nat) (B B1 : Nat → List Value) (c : Int) : Cfg := ⟨tab, stG, 42, [([1, 1, 1, 1, 0, 1, 0], atSt stNt stIb 22 (stBs h N B 0 0) (.exit 0) (stBs h N B1 (N : Int) c))]⟩
def stW (N : Nat) (B : Nat → List Value) (id : Nat) : Option (Value × List (Nat × Blk)) := req (Nat.ble N N) (some (.tuple #[nSl id N, i64 0], rw1 5 id N B))
def stM (N : Nat) : Bool := decide (((N : Nat) : Int) = ((N : Nat) : Int)) && decide ((0 : Int) ≤ ((N : Nat) : Int)) && szOk N 1 && true && true && true && true && true
theorem st_evA (n : Nat) (f : Nat → List Value) (N : Nat) (B B1 : Nat → List Value) (c : Int) (es : Nat → Nat) (id : Nat) : fnMS (stCA n f (es 0) N B B1 c) 60 Tryd.f12 (bodyOf Tryd.f12) (cArgs [.sl kB n f, .pl (i64 (N : Nat))] 0) (cMem es [.sl kB n f, .pl (i64 (N : Nat))] 0) 0 id =
    bif decide (((N : Nat) : Int) < 0) then some (.tuple #[.slice none 0 0, i64 4], []) else bif decide (((N : Nat) : Int) > 65536) then some (.tuple #[.slice none 0 0, i64 4], []) else
      bif decide (((n : Nat) : Int) > 64) then req (okN n) (req (stM N) none) else req (stM N) (req (stEq (stA n f (es 0) N (fun _ => [z8]) 0 0) (stA n f (es 0) N B 0 0)) (stW N B1 id)) := by kernel_rfl
theorem st_evB (n : Nat) (f : Nat → List Value) (h : S8) (N : Nat) (B B1 : Nat → List Value) (c : Int) (es : Nat → Nat) (id : Nat) : fnMS (stCB h N B B1 c) 60 Tryd.f12 (bodyOf Tryd.f12) (cArgs [.sl kB n f, .pl (i64 (N : Nat))] 0) (cMem es [.sl kB n f, .pl (i64 (N : Nat))] 0) 0 id =
    bif decide (((N : Nat) : Int) < 0) then some (.tuple #[.slice none 0 0, i64 4], []) else bif decide (((N : Nat) : Int) > 65536) then some (.tuple #[.slice none 0 0, i64 4], []) else
      bif decide (((n : Nat) : Int) > 64) then req (okN n) (req (stM N) (req (stEq (stBs (shN n (bN (sgF n f))) N (fun _ => [z8]) 0 0) (stBs h N B 0 0)) (stW N B1 id))) else req (stM N) none := by kernel_rfl
theorem st_evN (n : Nat) (f : Nat → List Value) (N : Int) (es : Nat → Nat) (id : Nat) : fnMS ⟨tab, stG, 42, [([1, 1, 1, 1, 0, 1, 0], fun _ => [])]⟩ 60 Tryd.f12 (bodyOf Tryd.f12) (cArgs [.sl kB n f, .pl (i64 N)] 0) (cMem es [.sl kB n f, .pl (i64 N)] 0) 0 id =
    bif decide (N < 0) then some (.tuple #[.slice none 0 0, i64 4], []) else bif decide (N > 65536) then some (.tuple #[.slice none 0 0, i64 4], []) else
      bif decide (((n : Nat) : Int) > 64) then req (okN n) (req (decide (N = N) && decide ((0 : Int) ≤ N) && szOk N.toNat 1 && true && true && true && true && true) none) else req (decide (N = N) && decide ((0 : Int) ≤ N) && szOk N.toNat 1 && true && true && true && true && true) none := by kernel_rfl

theorem st_msum : MSum Tryd.prog 12 (StmF 5) := by
  intro w0 R fm w hm vs args' hl mm hsub id hlt v l hpick hnew
  unfold StmF at hpick
  split at hpick
  · rename_i a n
    simp only [pickM] at hpick
    generalize hqa : srcB mm kB a = qa at hpick
    obtain ⟨ok1, m, f⟩ := qa
    have hok : ok1 = true := by
      cases ok1 with
      | true => rfl
      | false => simp at hpick
    subst hok
    have hA : AOk mm [a, .int .i64 n] [.sl kB m f, .pl (.int .i64 n)] := ⟨hqa, rfl, rfl, trivial⟩
    by_cases hbad : n < 0 ∨ n > 65536
    · have : (decide (n < 0) || decide (n > 65536)) = true := by simp only [Bool.or_eq_true, decide_eq_true_eq]; exact hbad
      simp only [this, Bool.true_and, cond_true, Option.some.injEq, Prod.mk.injEq] at hpick
      obtain ⟨rfl, rfl⟩ := hpick
      refine msum_at (c := bodyOf Tryd.f12) (fuel := 60) (next := 0) Tryd.func12 (by kernel_rfl) (by kernel_rfl) hm hl hsub hlt hA (by show 2 ≤ Tryd.f12.ntmps; decide +kernel) (.inl rfl) hnew (fun es => ?_)
      refine ⟨⟨tab, stG, 42, [([1, 1, 1, 1, 0, 1, 0], fun _ => [])]⟩, ⟨mixed, tabOk, stG_ok, noneL2⟩, rfl, (st_evN m f n es id).trans ?_⟩
      by_cases h0 : n < 0
      · rw [decide_eq_true h0, cond_true]
      · rw [decide_eq_false h0, cond_false, decide_eq_true (by omega), cond_true]
    · have : (decide (n < 0) || decide (n > 65536)) = false := by simp only [Bool.or_eq_false_iff, decide_eq_false_iff_not]; omega
      simp only [this, Bool.and_false, cond_false, Bool.true_and] at hpick
      cases hm1 : Nat.ble m 1000000 with
      | false => rw [hm1] at hpick; simp at hpick
      | true =>
        rw [hm1, cond_true] at hpick
        simp only [Option.some.injEq, Prod.mk.injEq] at hpick
        obtain ⟨rfl, rfl⟩ := hpick
        have hm1 := Nat.le_of_ble_eq_true hm1
        obtain ⟨N, rfl⟩ : ∃ N : Nat, n = (N : Int) := ⟨n.toNat, by omega⟩
        rw [Int.toNat_natCast] at hnew ⊢
        have hN : N ≤ 65536 := by omega
        refine msum_at (c := bodyOf Tryd.f12) (fuel := 60) (next := 0) Tryd.func12 (by kernel_rfl) (by kernel_rfl) hm hl hsub hlt hA (by show 2 ≤ Tryd.f12.ntmps; decide +kernel) (.inr ⟨_, rfl⟩) hnew (fun es => ?_)
        have hM : stM N = true := by
          unfold stM
          rw [decide_eq_true rfl, decide_eq_true (by omega), szOk_small (by omega)]; rfl
        have hW : ∀ B, stW N B id = some (.tuple #[nSl id N, i64 0], rw1 5 id N B) := fun B => by unfold stW; rw [ble_of (Nat.le_refl _), req_true rfl]
        by_cases h64 : m ≤ 64
        · refine ⟨stCA m f (es 0) N (smB (whF m f) N 0) (smB (whF m f) N ((N + 31) / 32)) (((N + 31) / 32 : Nat) : Int), ⟨mixed, tabOk, stG_ok, oneL (st_loopA m f (es 0) N hm1 hN)⟩, rfl, (st_evA m f N _ _ _ es id).trans ?_⟩
          rw [decide_eq_false (by omega), cond_false, decide_eq_false (by omega), cond_false, decide_eq_false (by omega), cond_false, hM, req_true rfl, req_true (b := stEq (stA m f (es 0) N (fun _ => [z8]) 0 0) (stA m f (es 0) N (smB (whF m f) N 0) 0 0)) (stEq_refl (s := stA m f (es 0) N (smB (whF m f) N 0) 0 0) rfl), hW]
          rfl
        · refine ⟨stCB (shN m (bN f)) N (smB (whF m f) N 0) (smB (whF m f) N ((N + 31) / 32)) (((N + 31) / 32 : Nat) : Int), ⟨mixed, tabOk, stG_ok, oneL (st_loopB m f N (by omega) hN)⟩, rfl, (st_evB m f _ N _ _ _ es id).trans ?_⟩
          rw [decide_eq_false (by omega), cond_false, decide_eq_false (by omega), cond_false, decide_eq_true (by omega), cond_true, okN_true hm1, req_true rfl, hM, req_true rfl, bN_sg, req_true (b := stEq (stBs (shN m (bN f)) N (fun _ => [z8]) 0 0) (stBs (shN m (bN f)) N (smB (whF m f) N 0) 0 0)) (stEq_refl (s := stBs (shN m (bN f)) N (smB (whF m f) N 0) 0 0) rfl), hW]
          rfl
  · simp [pickM] at hpick

end Go.Proofs.YtdcgjjhngnkbmaaDoor
