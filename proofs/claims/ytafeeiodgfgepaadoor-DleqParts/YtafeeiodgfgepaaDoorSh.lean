/-
  Several texts in one.
-/
import Derived.Test.YtafeeiodgfgepaaDoorSa
import Derived.Test.YtafeeiodgfgepaaDoorEd
import Derived.Test.YtafeeiodgfgepaaDoorEf
/-
  Words, turned.
-/
namespace Go.Proofs.YtafeeiodgfgepaaDoor
set_option maxRecDepth 100000
open Go.W
def rolC : Cfg := ⟨tab, [], 17, []⟩
theorem rolOk : CfgOk Tryd.prog rolC (bodyOf Tryd.f72) := ⟨mixed, tabOk, sums_nil, noL⟩
theorem rol_ev (x : Int) : ∀ n : Nat, 0 < n → n < 32 → fnS rolC 60 Tryd.f72 (bodyOf Tryd.f72) [.int .u32 x, .int .i64 (-(n : Int))] = some (.int .u32 (rolE x (32 - n) n))
  | 0, h, _ => absurd h (by omega)
  | 1, _, _ => by kernel_rfl
  | 2, _, _ => by kernel_rfl
  | 3, _, _ => by kernel_rfl
  | 4, _, _ => by kernel_rfl
  | 5, _, _ => by kernel_rfl
  | 6, _, _ => by kernel_rfl
  | 7, _, _ => by kernel_rfl
  | 8, _, _ => by kernel_rfl
  | 9, _, _ => by kernel_rfl
  | 10, _, _ => by kernel_rfl
  | 11, _, _ => by kernel_rfl
  | 12, _, _ => by kernel_rfl
  | 13, _, _ => by kernel_rfl
  | 14, _, _ => by kernel_rfl
  | 15, _, _ => by kernel_rfl
  | 16, _, _ => by kernel_rfl
  | 17, _, _ => by kernel_rfl
  | 18, _, _ => by kernel_rfl
  | 19, _, _ => by kernel_rfl
  | 20, _, _ => by kernel_rfl
  | 21, _, _ => by kernel_rfl
  | 22, _, _ => by kernel_rfl
  | 23, _, _ => by kernel_rfl
  | 24, _, _ => by kernel_rfl
  | 25, _, _ => by kernel_rfl
  | 26, _, _ => by kernel_rfl
  | 27, _, _ => by kernel_rfl
  | 28, _, _ => by kernel_rfl
  | 29, _, _ => by kernel_rfl
  | 30, _, _ => by kernel_rfl
  | 31, _, _ => by kernel_rfl
  | n + 32, _, h => absurd h (by omega)
theorem rol_sum : Sum Tryd.prog 72 RolF := by
  refine sum_of rolOk Tryd.func72 (by kernel_rfl) (by kernel_rfl) rfl (fuel := 60) fun args v h _ => ?_
  unfold RolF at h
  split at h
  · rename_i x0 k _
    simp only [Option.some.injEq, Prod.mk.injEq, Bool.and_eq_true, decide_eq_true_eq] at h
    obtain ⟨⟨h0, h1, h2⟩, rfl⟩ := h
    obtain ⟨X, hX, rfl⟩ := isW_some h0
    obtain ⟨n, rfl⟩ : ∃ n : Nat, k = -(n : Int) := ⟨(-k).toNat, by omega⟩
    rw [wN_w32, show (- -(n : Int)).toNat = n from by omega]
    refine ⟨by show 2 ≤ Tryd.f72.ntmps; decide +kernel, (rol_ev (X : Int) n (by omega) (by omega)).trans ?_, rfl⟩
    rw [rolE_eq hX]; rfl
  · simp at h
end Go.Proofs.YtafeeiodgfgepaaDoor
/-
  The landed code's words: turned, spread.
-/
namespace Go.Proofs.YtafeeiodgfgepaaDoor
set_option maxRecDepth 100000
open Go.W
def rgtC : Cfg := ⟨tab, [(72, RolF)], 9, []⟩
theorem rgtOk : CfgOk Tryd.prog rgtC (bodyOf Tryd.f71) := ⟨mixed, tabOk, sums_cons rol_sum sums_nil, noL⟩
theorem rgt_ev (X : Nat) (n : Int) : fnS rgtC 60 Tryd.f71 (bodyOf Tryd.f71) [w32 X, .int .i64 n] = req (isW (w32 X) && (decide (-32 < IntKind.i64.wrap (0 - n)) && decide (IntKind.i64.wrap (0 - n) < 0))) (some (w32 (rotN X (-(IntKind.i64.wrap (0 - n))).toNat))) := by kernel_rfl
theorem rgt_sum : Sum Tryd.prog 71 RotF := by
  refine sum_of rgtOk Tryd.func71 (by kernel_rfl) (by kernel_rfl) rfl (fuel := 60) fun args v h _ => ?_
  unfold RotF at h
  split at h
  · rename_i x0 n _
    simp only [Option.some.injEq, Prod.mk.injEq, Bool.and_eq_true, decide_eq_true_eq] at h
    obtain ⟨⟨h0, h1, h2⟩, rfl⟩ := h
    obtain ⟨X, hX, rfl⟩ := isW_some h0
    refine ⟨by show 2 ≤ Tryd.f71.ntmps; decide +kernel, (rgt_ev X n).trans ?_, rfl⟩
    rw [wrap_i64 (by omega), isW_w32 hX, decide_eq_true (by omega), decide_eq_true (by omega), req_true (b := true && (true && true)) rfl, wN_w32, show (-(0 - n)).toNat = n.toNat from by omega]
  · simp at h
def spSt (f : Nat → List Value) (e : Nat) (W : Nat → List Value) (t : Int) : St :=
  ⟨[(0, aSl 0 64), (2, ptr 0), (3, ptr 1), (11, i64 t)], [(0, ⟨z64, 101, true⟩), (1, ⟨.row kW 64 W, 101, true⟩), (1500000, ⟨.row kB 64 f, e, false⟩)], 3⟩
def spSt2 (f : Nat → List Value) (e : Nat) (W : Nat → List Value) (t : Int) : St :=
  ⟨[(0, aSl 0 64), (2, ptr 0), (3, ptr 1), (6, i64 t)], [(0, ⟨z64, 101, true⟩), (1, ⟨.row kW 64 W, 101, true⟩), (1500000, ⟨.row kB 64 f, e, false⟩)], 4⟩
def spNi : List Nat := [0, 1, 1500000]
def spC0 : Cfg := ⟨tab, [(71, RotF)], 90, []⟩
theorem spOk0 : CfgOk Tryd.prog spC0 (bodyOf Tryd.f70) := ⟨mixed, tabOk, sums_cons rgt_sum sums_nil, noL⟩
theorem sp_at : codeAt [1, 1, 0, 1, 0] (bodyOf Tryd.f70) = some (.loop (loopAt [1, 1, 0, 1, 0] (bodyOf Tryd.f70))) := by kernel_rfl
theorem sp2_at : codeAt [1, 1, 1, 0, 1, 0] (bodyOf Tryd.f70) = some (.loop (loopAt [1, 1, 1, 0, 1, 0] (bodyOf Tryd.f70))) := by kernel_rfl
theorem sp_r (f : Nat → List Value) (e : Nat) (W : Nat → List Value) : ∀ t : Nat, 0 ≤ t → t < 16 → roundS spC0 60 [1, 1, 0, 1, 0, 0] (loopAt [1, 1, 0, 1, 0] (bodyOf Tryd.f70)) [0, 2, 3, 11] spNi 3 [0, 2, 3, 11] spNi 3 (spSt f e W (t : Int)) =
    some (.normal, spSt f e (updR W t [.int .u32 (wdI f t)]) ((t + 1 : Nat) : Int))
  | 0, _, _ => by kernel_rfl
  | 1, _, _ => by kernel_rfl
  | 2, _, _ => by kernel_rfl
  | 3, _, _ => by kernel_rfl
  | 4, _, _ => by kernel_rfl
  | 5, _, _ => by kernel_rfl
  | 6, _, _ => by kernel_rfl
  | 7, _, _ => by kernel_rfl
  | 8, _, _ => by kernel_rfl
  | 9, _, _ => by kernel_rfl
  | 10, _, _ => by kernel_rfl
  | 11, _, _ => by kernel_rfl
  | 12, _, _ => by kernel_rfl
  | 13, _, _ => by kernel_rfl
  | 14, _, _ => by kernel_rfl
  | 15, _, _ => by kernel_rfl
  | t + 16, _, h => absurd h (by omega)
theorem sp_x (f : Nat → List Value) (e : Nat) (W : Nat → List Value) : roundS spC0 60 [1, 1, 0, 1, 0, 0] (loopAt [1, 1, 0, 1, 0] (bodyOf Tryd.f70)) [0, 2, 3, 11] spNi 3 [0, 2, 3, 11] spNi 3 (spSt f e W 16) = some (.exit 0, spSt f e W 16) := by kernel_rfl
theorem sp2_r (f : Nat → List Value) (e : Nat) (A : Nat → Nat) : ∀ t : Nat, 16 ≤ t → t < 64 → roundS spC0 60 [1, 1, 1, 0, 1, 0, 0] (loopAt [1, 1, 1, 0, 1, 0] (bodyOf Tryd.f70)) [0, 2, 3, 6] spNi 4 [0, 2, 3, 6] spNi 4 (spSt2 f e (wR A) (t : Int)) =
    req (isW (w32 (A (t - 2))) && (true && true)) (req (isW (w32 (A (t - 2))) && (true && true)) (req (isW (w32 (A (t - 15))) && (true && true)) (req (isW (w32 (A (t - 15))) && (true && true))
      (some (.normal, spSt2 f e (updR (wR A) t [.int .u32 (nxC (A (t - 16)) (A (t - 15)) (A (t - 7)) (A (t - 2)))]) ((t + 1 : Nat) : Int))))))
  | 0, h, _ => absurd h (by omega)
  | 1, h, _ => absurd h (by omega)
  | 2, h, _ => absurd h (by omega)
  | 3, h, _ => absurd h (by omega)
  | 4, h, _ => absurd h (by omega)
  | 5, h, _ => absurd h (by omega)
  | 6, h, _ => absurd h (by omega)
  | 7, h, _ => absurd h (by omega)
  | 8, h, _ => absurd h (by omega)
  | 9, h, _ => absurd h (by omega)
  | 10, h, _ => absurd h (by omega)
  | 11, h, _ => absurd h (by omega)
  | 12, h, _ => absurd h (by omega)
  | 13, h, _ => absurd h (by omega)
  | 14, h, _ => absurd h (by omega)
  | 15, h, _ => absurd h (by omega)
  | 16, _, _ => by kernel_rfl
  | 17, _, _ => by kernel_rfl
  | 18, _, _ => by kernel_rfl
  | 19, _, _ => by kernel_rfl
  | 20, _, _ => by kernel_rfl
  | 21, _, _ => by kernel_rfl
  | 22, _, _ => by kernel_rfl
  | 23, _, _ => by kernel_rfl
  | 24, _, _ => by kernel_rfl
  | 25, _, _ => by kernel_rfl
  | 26, _, _ => by kernel_rfl
  | 27, _, _ => by kernel_rfl
  | 28, _, _ => by kernel_rfl
  | 29, _, _ => by kernel_rfl
  | 30, _, _ => by kernel_rfl
  | 31, _, _ => by kernel_rfl
  | 32, _, _ => by kernel_rfl
  | 33, _, _ => by kernel_rfl
  | 34, _, _ => by kernel_rfl
  | 35, _, _ => by kernel_rfl
  | 36, _, _ => by kernel_rfl
  | 37, _, _ => by kernel_rfl
  | 38, _, _ => by kernel_rfl
  | 39, _, _ => by kernel_rfl
  | 40, _, _ => by kernel_rfl
  | 41, _, _ => by kernel_rfl
  | 42, _, _ => by kernel_rfl
  | 43, _, _ => by kernel_rfl
  | 44, _, _ => by kernel_rfl
  | 45, _, _ => by kernel_rfl
  | 46, _, _ => by kernel_rfl
  | 47, _, _ => by kernel_rfl
  | 48, _, _ => by kernel_rfl
  | 49, _, _ => by kernel_rfl
  | 50, _, _ => by kernel_rfl
  | 51, _, _ => by kernel_rfl
  | 52, _, _ => by kernel_rfl
  | 53, _, _ => by kernel_rfl
  | 54, _, _ => by kernel_rfl
  | 55, _, _ => by kernel_rfl
  | 56, _, _ => by kernel_rfl
  | 57, _, _ => by kernel_rfl
  | 58, _, _ => by kernel_rfl
  | 59, _, _ => by kernel_rfl
  | 60, _, _ => by kernel_rfl
  | 61, _, _ => by kernel_rfl
  | 62, _, _ => by kernel_rfl
  | 63, _, _ => by kernel_rfl
  | t + 64, _, h => absurd h (by omega)
theorem sp2_x (f : Nat → List Value) (e : Nat) (W : Nat → List Value) : roundS spC0 60 [1, 1, 1, 0, 1, 0, 0] (loopAt [1, 1, 1, 0, 1, 0] (bodyOf Tryd.f70)) [0, 2, 3, 6] spNi 4 [0, 2, 3, 6] spNi 4 (spSt2 f e W 64) = some (.exit 2, spSt2 f e W 64) := by kernel_rfl
noncomputable def spC (f : Nat → List Value) (e : Nat) (A B : Nat → Nat) : Cfg := ⟨tab, [(71, RotF)], 90, [([1, 1, 0, 1, 0], atSt [0, 2, 3, 11] spNi 3 (spSt f e (wR (wA (bN f) 0)) 0) (.exit 0) (spSt f e (wR A) 16)), ([1, 1, 1, 0, 1, 0], atSt [0, 2, 3, 6] spNi 4 (spSt2 f e (wR A) 16) (.exit 2) (spSt2 f e (wR B) 64))]⟩
def spE (e : Nat) (f : Nat → List Value) : St := ⟨[(0, aSl 0 64), (2, ptr 0), (3, ptr 1), (11, i64 0)], [(0, ⟨z64, 101, true⟩), (1, ⟨z64, 101, true⟩), (1500000, ⟨.row kB 64 f, e, false⟩)], 3⟩
theorem sp_ev (f : Nat → List Value) (A B : Nat → Nat) (es : Nat → Nat) (id : Nat) : fnMS (spC f (es 0) A B) 60 Tryd.f70 (bodyOf Tryd.f70) (cArgs [.sl kB 64 f] 0) (cMem es [.sl kB 64 f] 0) 0 id =
    req (stEq (spE (es 0) f) (spSt f (es 0) (wR (wA (bN f) 0)) 0)) (req (stEq (spSt2 f (es 0) (wR A) 16) (spSt2 f (es 0) (wR A) 16)) (some (.agg (rowL kW (wR B) 0 64).toArray, []))) := by kernel_rfl
theorem sp_msum : MSum Tryd.prog 70 SpF := by
  intro w0 R fm w hm vs args' hl mm hsub id hlt v l hpick hnew
  match vs, hl, hpick with
  | [a], hl, hpick =>
    obtain ⟨hc, rfl, rfl⟩ := pick_one hpick
    simp only [Bool.and_eq_true] at hc
    obtain ⟨ha, hn⟩ := hc
    generalize hqa : srcB mm kB a = qa at ha hn ⊢
    obtain ⟨ok1, n, f⟩ := qa
    simp only at ha hn ⊢
    have hn := nbeq.1 hn
    subst ha hn
    have hA : AOk mm [a] [.sl kB 64 f] := ⟨hqa, trivial⟩
    refine msum_at (c := bodyOf Tryd.f70) (fuel := 60) (next := 0) Tryd.func70 (by kernel_rfl) (by kernel_rfl) hm hl hsub hlt hA (by show 1 ≤ Tryd.f70.ntmps; decide +kernel) (.inl rfl) hnew (fun es => ?_)
    have loop1 : LoopOk Tryd.prog 90 (loopAt [1, 1, 0, 1, 0] (bodyOf Tryd.f70)) (atSt [0, 2, 3, 11] spNi 3 (spSt f (es 0) (wR (wA (bN f) 0)) 0) (.exit 0) (spSt f (es 0) (wR (wA (bN f) 16)) 16)) := by
      refine atSt_ok fun w0 R a W hrel => ?_
      refine loop_rounds (R := R) (C := spC0) spOk0 sp_at (m := 60) (nt := [0, 2, 3, 11]) (ni := spNi) (et := [0, 2, 3, 11]) (ei := spNi) (nx := 3) (ex := 3) (e := .exit 0) (sf := spSt f (es 0) (wR (wA (bN f) 16)) 16)
        (fun k => spSt f (es 0) (wR (wA (bN f) k)) (k : Int)) 16 (by intro h; cases h) ?_ ?_ hrel
      · intro k hk
        refine (sp_r f (es 0) _ k (Nat.zero_le _) hk).trans ?_
        rw [wA_step (by rw [wdI_eq, wT_lo _ hk]; rfl)]
      · exact sp_x _ _ _
    have loop2 : LoopOk Tryd.prog 90 (loopAt [1, 1, 1, 0, 1, 0] (bodyOf Tryd.f70)) (atSt [0, 2, 3, 6] spNi 4 (spSt2 f (es 0) (wR (wA (bN f) 16)) 16) (.exit 2) (spSt2 f (es 0) (wR (wA (bN f) 64)) 64)) := by
      refine atSt_ok fun w0 R a W hrel => ?_
      refine loop_rounds (R := R) (C := spC0) spOk0 sp2_at (m := 60) (nt := [0, 2, 3, 6]) (ni := spNi) (et := [0, 2, 3, 6]) (ei := spNi) (nx := 4) (ex := 4) (e := .exit 2) (sf := spSt2 f (es 0) (wR (wA (bN f) 64)) 64)
        (fun k => spSt2 f (es 0) (wR (wA (bN f) (16 + k))) ((16 + k : Nat) : Int)) 48 (by intro h; cases h) ?_ ?_ hrel
      · intro k hk
        have hb := bN_lt f
        refine (sp2_r f (es 0) _ (16 + k) (by omega) (by omega)).trans ?_
        rw [req4 (isWb (wA_bound hb _ _)) (isWb (wA_bound hb _ _)) (isWb (wA_bound hb _ _)) (isWb (wA_bound hb _ _)), nxC_eq (wA_bound hb _ _) (wA_bound hb _ _), wA_lt (by omega), wA_lt (by omega), wA_lt (by omega), wA_lt (by omega),
          wA_step (by rw [wT_hi _ (by omega : 16 ≤ 16 + k)]; rfl)]; rfl
      · exact sp2_x _ _ _
    refine ⟨spC f (es 0) (wA (bN f) 16) (wA (bN f) 64), ⟨mixed, tabOk, sums_cons rgt_sum sums_nil, twoL loop1 loop2⟩, rfl, ?_⟩
    refine (sp_ev f _ _ es id).trans ?_
    have e0 : stEq (spE (es 0) f) (spSt f (es 0) (wR (wA (bN f) 0)) 0) = true :=
      stEq_mk rfl (memEq_cons (cellsEq_refl rfl) (memEq_cons (cellsEq_rr fun j _ => by show nrmK kW [.int .u32 0] = nrmK kW [w32 (wA (bN f) 0 j)]; rw [wA_ge (Nat.zero_le _)]; rfl) (memEq_cons (cellsEq_refl rfl) rfl)))
    rw [req_true e0, req_true (stEq_refl rfl)]
    have e1 : rowL kW (wR (wA (bN f) 64)) 0 64 = rowL kW (wR (wT (bN f))) 0 64 := by
      refine rowL_congr _ _ _ fun j _ hj => ?_
      unfold wR; rw [wA_lt (by omega)]
    rw [e1]
  | [], _, h => simp [SpF, pickM] at h
  | _ :: _ :: _, _, h => simp [SpF, pickM] at h
end Go.Proofs.YtafeeiodgfgepaaDoor
/-
  The landed code's block.
-/
namespace Go.Proofs.YtafeeiodgfgepaaDoor
set_option maxRecDepth 100000
open Go.W
noncomputable def mxI (s : S8) (W : Nat → List Value) (a b c d e f g h t : Int) : St :=
  ⟨[(2, ptr 0), (4, ptr 1), (5, ptr 4), (6, .int .u32 a), (7, .int .u32 b), (8, .int .u32 c), (9, .int .u32 d), (10, .int .u32 e), (11, .int .u32 f), (12, .int .u32 g), (13, .int .u32 h), (35, i64 t)],
    [(0, ⟨.lst [w32 s.a, w32 s.b, w32 s.c, w32 s.d, w32 s.e, w32 s.f, w32 s.g, w32 s.h], 93, true⟩), (1, ⟨.lst (repL 8 [.int .u32 0]), 93, true⟩), (4, ⟨.row kW 64 W, 101, true⟩)], 31⟩
noncomputable def mxSt (s : S8) (W : Nat → List Value) (v : S8) (t : Int) : St := mxI s W v.a v.b v.c v.d v.e v.f v.g v.h t
noncomputable def mxNt : List Nat := [2, 4, 5, 6, 7, 8, 9, 10, 11, 12, 13, 35]
noncomputable def mxNi : List Nat := [0, 1, 4]
noncomputable def rtG : Ent := .gl kW 64 (wR kN) 101
theorem rt_ok {G : Sums} (hG : SumsOk Tryd.prog G) : SumsOk Tryd.prog ((10000000, rtG) :: G) := by
  intro g e h
  rw [look_cons] at h
  by_cases hg : 10000000 = g
  · subst hg
    rw [upd_same] at h
    cases h
    exact ⟨0, rfl, by
      show (0, rowL kW (wR kN) 0 64, 101) ∈ lay Tryd.prog
      have : lay Tryd.prog = [(0, rowL kW (wR kN) 0 64, 101)] := by kernel_rfl
      rw [this]; exact List.mem_singleton.2 rfl⟩
  · rw [upd_ne _ _ hg] at h; exact hG g e h
noncomputable def mxC0 : Cfg := ⟨tab, [(10000000, rtG), (71, RotF), (70, SpF)], 131, []⟩
theorem mxG : SumsOk Tryd.prog [(10000000, rtG), (71, RotF), (70, SpF)] := rt_ok (sums_cons rgt_sum (sums_consM sp_msum sums_nil))
theorem mxOk0 : CfgOk Tryd.prog mxC0 (bodyOf Tryd.f68) := ⟨mixed, tabOk, mxG, noL⟩
theorem mx_at : codeAt [1, 1, 1, 0, 1, 0] (bodyOf Tryd.f68) = some (.loop (loopAt [1, 1, 1, 0, 1, 0] (bodyOf Tryd.f68))) := by kernel_rfl
theorem mx_r (s : S8) (A : Nat → Nat) (v : S8) : ∀ t : Nat, t < 64 → roundS mxC0 60 [1, 1, 1, 0, 1, 0, 0] (loopAt [1, 1, 1, 0, 1, 0] (bodyOf Tryd.f68)) mxNt mxNi 31 mxNt mxNi 31 (mxSt s (wR A) v (t : Int)) =
    req (isW (w32 v.e) && (true && true)) (req (isW (w32 v.e) && (true && true)) (req (isW (w32 v.e) && (true && true)) (req (isW (w32 v.a) && (true && true)) (req (isW (w32 v.a) && (true && true)) (req (isW (w32 v.a) && (true && true))
      (some (.normal, mxI s (wR A) (wad (t1I v (kN t) (A t)) (t2I v)) v.a v.b v.c (wad v.d (t1I v (kN t) (A t))) v.e v.f v.g ((t + 1 : Nat) : Int))))))))
  | 0, _ => by kernel_rfl
  | 1, _ => by kernel_rfl
  | 2, _ => by kernel_rfl
  | 3, _ => by kernel_rfl
  | 4, _ => by kernel_rfl
  | 5, _ => by kernel_rfl
  | 6, _ => by kernel_rfl
  | 7, _ => by kernel_rfl
  | 8, _ => by kernel_rfl
  | 9, _ => by kernel_rfl
  | 10, _ => by kernel_rfl
  | 11, _ => by kernel_rfl
  | 12, _ => by kernel_rfl
  | 13, _ => by kernel_rfl
  | 14, _ => by kernel_rfl
  | 15, _ => by kernel_rfl
  | 16, _ => by kernel_rfl
  | 17, _ => by kernel_rfl
  | 18, _ => by kernel_rfl
  | 19, _ => by kernel_rfl
  | 20, _ => by kernel_rfl
  | 21, _ => by kernel_rfl
  | 22, _ => by kernel_rfl
  | 23, _ => by kernel_rfl
  | 24, _ => by kernel_rfl
  | 25, _ => by kernel_rfl
  | 26, _ => by kernel_rfl
  | 27, _ => by kernel_rfl
  | 28, _ => by kernel_rfl
  | 29, _ => by kernel_rfl
  | 30, _ => by kernel_rfl
  | 31, _ => by kernel_rfl
  | 32, _ => by kernel_rfl
  | 33, _ => by kernel_rfl
  | 34, _ => by kernel_rfl
  | 35, _ => by kernel_rfl
  | 36, _ => by kernel_rfl
  | 37, _ => by kernel_rfl
  | 38, _ => by kernel_rfl
  | 39, _ => by kernel_rfl
  | 40, _ => by kernel_rfl
  | 41, _ => by kernel_rfl
  | 42, _ => by kernel_rfl
  | 43, _ => by kernel_rfl
  | 44, _ => by kernel_rfl
  | 45, _ => by kernel_rfl
  | 46, _ => by kernel_rfl
  | 47, _ => by kernel_rfl
  | 48, _ => by kernel_rfl
  | 49, _ => by kernel_rfl
  | 50, _ => by kernel_rfl
  | 51, _ => by kernel_rfl
  | 52, _ => by kernel_rfl
  | 53, _ => by kernel_rfl
  | 54, _ => by kernel_rfl
  | 55, _ => by kernel_rfl
  | 56, _ => by kernel_rfl
  | 57, _ => by kernel_rfl
  | 58, _ => by kernel_rfl
  | 59, _ => by kernel_rfl
  | 60, _ => by kernel_rfl
  | 61, _ => by kernel_rfl
  | 62, _ => by kernel_rfl
  | 63, _ => by kernel_rfl
  | t + 64, h => absurd h (by omega)
theorem mx_x (s : S8) (W : Nat → List Value) (v : S8) : roundS mxC0 60 [1, 1, 1, 0, 1, 0, 0] (loopAt [1, 1, 1, 0, 1, 0] (bodyOf Tryd.f68)) mxNt mxNi 31 mxNt mxNi 31 (mxSt s W v 64) = some (.exit 0, mxSt s W v 64) := by kernel_rfl
noncomputable def mxC (s : S8) (A : Nat → Nat) (v : S8) : Cfg := ⟨tab, [(10000000, rtG), (71, RotF), (70, SpF)], 131, [([1, 1, 1, 0, 1, 0], atSt mxNt mxNi 31 (mxSt s (wR A) s 0) (.exit 0) (mxSt s (wR A) v 64))]⟩
noncomputable def mxE (s : S8) (A : Nat → Nat) : St :=
  ⟨[(2, ptr 0), (4, ptr 1), (5, ptr 4), (6, w32 s.a), (7, w32 s.b), (8, w32 s.c), (9, w32 s.d), (10, w32 s.e), (11, w32 s.f), (12, w32 s.g), (13, w32 s.h), (35, i64 0)],
    [(0, ⟨.lst [w32 s.a, w32 s.b, w32 s.c, w32 s.d, w32 s.e, w32 s.f, w32 s.g, w32 s.h], 93, true⟩), (1, ⟨.lst (repL 8 [.int .u32 0]), 93, true⟩), (4, ⟨.lst (rowL kW (wR A) 0 64), 101, true⟩)], 31⟩
theorem mx_ev (s : S8) (f : Nat → List Value) (v : S8) (es : Nat → Nat) (id : Nat) : fnMS (mxC s (wT (bN f)) v) 60 Tryd.f68 (bodyOf Tryd.f68) (cArgs [.pl (s8V s), .sl kB 64 f] 0) (cMem es [.pl (s8V s), .sl kB 64 f] 0) 0 id =
    req (stEq (mxE s (wT (bN (segF ⟨1500001, 0, 64, kB, 64, f, es 1, false, [1500001]⟩)))) (mxSt s (wR (wT (bN f))) s 0)) (some (.agg #[.int .u32 (wad s.a v.a), .int .u32 (wad s.b v.b), .int .u32 (wad s.c v.c), .int .u32 (wad s.d v.d), .int .u32 (wad s.e v.e), .int .u32 (wad s.f v.f), .int .u32 (wad s.g v.g), .int .u32 (wad s.h v.h)], [])) := by kernel_rfl
theorem mx_msum : MSum Tryd.prog 68 MxF := by
  intro w0 R fm w hm vs args' hl mm hsub id hlt v l hpick hnew
  match vs, hl, hpick with
  | [hh, a], hl, hpick =>
    obtain ⟨hc, rfl, rfl⟩ := pick_one hpick
    simp only [Bool.and_eq_true] at hc
    obtain ⟨h8, ha, hn⟩ := hc
    obtain ⟨s, hs, rfl⟩ := isS8_some h8
    generalize hqa : srcB mm kB a = qa at ha hn ⊢
    obtain ⟨ok1, n, f⟩ := qa
    simp only at ha hn ⊢
    have hn := nbeq.1 hn
    subst ha hn
    have hA : AOk mm [s8V s, a] [.pl (s8V s), .sl kB 64 f] := ⟨rfl, rfl, hqa, trivial⟩
    refine msum_at (c := bodyOf Tryd.f68) (fuel := 60) (next := 0) Tryd.func68 (by kernel_rfl) (by kernel_rfl) hm hl hsub hlt hA (by show 2 ≤ Tryd.f68.ntmps; decide +kernel) (.inl rfl) hnew (fun es => ?_)
    have loop1 : LoopOk Tryd.prog 131 (loopAt [1, 1, 1, 0, 1, 0] (bodyOf Tryd.f68)) (atSt mxNt mxNi 31 (mxSt s (wR (wT (bN f))) s 0) (.exit 0) (mxSt s (wR (wT (bN f))) (rnds (wT (bN f)) s 64) 64)) := by
      refine atSt_ok fun w0 R a W hrel => ?_
      refine loop_rounds (R := R) (C := mxC0) mxOk0 mx_at (m := 60) (nt := mxNt) (ni := mxNi) (et := mxNt) (ei := mxNi) (nx := 31) (ex := 31) (e := .exit 0) (sf := mxSt s (wR (wT (bN f))) (rnds (wT (bN f)) s 64) 64)
        (fun k => mxSt s (wR (wT (bN f))) (rnds (wT (bN f)) s k) (k : Int)) 64 (by intro h; cases h) ?_ ?_ hrel
      · intro k hk
        have ho := rnds_ok (W := wT (bN f)) hs k
        have hx := isWb ho.2.2.2.2.1
        have hy := isWb ho.1
        refine (mx_r s _ _ k hk).trans ?_
        rw [req6 hx hx hx hy hy hy, t1I_eq ho, t2I_eq ho, wad_eq, wad_eq]; rfl
      · exact mx_x _ _ _
    refine ⟨mxC s (wT (bN f)) (rnds (wT (bN f)) s 64), ⟨mixed, tabOk, mxG, oneL loop1⟩, rfl, ?_⟩
    refine (mx_ev s f _ es id).trans ?_
    have eb : bN (segF ⟨1500001, 0, 64, kB, 64, f, es 1, false, [1500001]⟩) = bN f := funext fun j => bN_congr (by show bI f (0 + j) = bI f j; rw [Nat.zero_add])
    have e0 : stEq (mxE s (wT (bN (segF ⟨1500001, 0, 64, kB, 64, f, es 1, false, [1500001]⟩)))) (mxSt s (wR (wT (bN f))) s 0) = true := by
      rw [eb]
      exact stEq_mk rfl (memEq_cons (cellsEq_refl rfl) (memEq_cons (cellsEq_refl rfl) (memEq_cons (cellsEq_lr rfl rfl) rfl)))
    rw [req_true e0, wad_eq, wad_eq, wad_eq, wad_eq, wad_eq, wad_eq, wad_eq, wad_eq, unS8_s8V, mixN_def]; rfl
  | [], _, h => simp [MxF, pickM] at h
  | [_], _, h => simp [MxF, pickM] at h
  | _ :: _ :: _ :: _, _, h => simp [MxF, pickM] at h
end Go.Proofs.YtafeeiodgfgepaaDoor
/-
  The landed code's last blocks.
-/
namespace Go.Proofs.YtafeeiodgfgepaaDoor
set_option maxRecDepth 100000
open Go.W
def toC : Cfg := ⟨tab, [], 39, []⟩
theorem toOk : CfgOk Tryd.prog toC (bodyOf Tryd.f69) := ⟨mixed, tabOk, sums_nil, noL⟩
theorem to_ev (s : S8) : fnS toC 100 Tryd.f69 (bodyOf Tryd.f69) [s8V s] = some (tdW s) := by kernel_rfl
theorem to_sum : Sum Tryd.prog 69 TdF := by
  refine sum_of toOk Tryd.func69 (by kernel_rfl) (by kernel_rfl) rfl (fuel := 100) fun args v h _ => ?_
  unfold TdF at h
  split at h
  · simp only [Option.some.injEq, Prod.mk.injEq] at h
    obtain ⟨h0, rfl⟩ := h
    obtain ⟨s, hs, rfl⟩ := isS8_some h0
    refine ⟨by show 1 ≤ Tryd.f69.ntmps; decide +kernel, (to_ev s).trans ?_, rfl⟩
    rw [tdW_eq]; rfl
  · simp at h
def staC : Cfg := ⟨tab, [], 2, []⟩
theorem staOk : CfgOk Tryd.prog staC (bodyOf Tryd.f63) := ⟨mixed, tabOk, sums_nil, noL⟩
theorem sta_ev : fnS staC 60 Tryd.f63 (bodyOf Tryd.f63) [] = some (s8V h0) := by kernel_rfl
theorem sta_sum : Sum Tryd.prog 63 StaF := by
  refine sum_of staOk Tryd.func63 (by kernel_rfl) (by kernel_rfl) rfl (fuel := 60) fun args v h _ => ?_
  unfold StaF at h
  split at h
  · simp only [Option.some.injEq, Prod.mk.injEq, true_and] at h
    subst h
    exact ⟨by show 0 ≤ Tryd.f63.ntmps; exact Nat.zero_le _, sta_ev, rfl⟩
  · simp at h
end Go.Proofs.YtafeeiodgfgepaaDoor
/-
  The landed code's sums.
-/
namespace Go.Proofs.YtafeeiodgfgepaaDoor
set_option maxRecDepth 100000
open Go.W
noncomputable def fiSt (s : S8) (n : Nat) (f : Nat → List Value) (e : Nat) (N : Int) : St := ⟨[(2, aSl 2 n), (3, ptr 0), (6, ptr 1), (7, .int .u64 N)], [(0, ⟨.lst (w8 s), 93, true⟩), (1, ⟨.lst (repL 32 [z8]), 61, true⟩), (1500002, ⟨.row kB n f, e, false⟩)], 8⟩
noncomputable def fiS2 (s : S8) (n : Nat) (f : Nat → List Value) (e : Nat) (N : Int) (m r : Nat) : St := ⟨[(2, .slice (some ⟨500048, 0, none⟩) r r), (3, ptr 0), (6, ptr 1), (7, .int .u64 N)], [(0, ⟨.lst (w8 s), 93, true⟩), (1, ⟨.lst (repL 32 [z8]), 61, true⟩), (500048, ⟨.tail 1500002 m r 1, 5, false⟩), (1500002, ⟨.row kB n f, e, false⟩)], 8⟩
noncomputable def fiNt : List Nat := [2, 3, 6, 7]
noncomputable def fiNi : Ren := [(0, 0), (1, 1), (500048, 500136), (1500002, 1500002)]
noncomputable def fiE1 : Ren := [(0, 0), (1, 1), (1500002, 1500002)]
noncomputable def fiE2 : Ren := [(0, 0), (1, 1), (500048, 500048), (1500002, 1500002)]
noncomputable def fiG : Sums := [(68, MxF), (69, TdF)]
theorem fiG_ok : SumsOk Tryd.prog fiG := sums_consM mx_msum (sums_cons to_sum sums_nil)
noncomputable def fiC0 : Cfg := ⟨tab, fiG, 64, []⟩
theorem fiOk0 : CfgOk Tryd.prog fiC0 (bodyOf Tryd.f62) := ⟨mixed, tabOk, fiG_ok, noL⟩
theorem fi_at : codeAt [1, 1, 0, 0] (bodyOf Tryd.f62) = some (.loop (loopAt [1, 1, 0, 0] (bodyOf Tryd.f62))) := by kernel_rfl
theorem fi2_at : codeAt [1, 1, 1, 1, 1, 1, 1, 1, 0, 1, 0] (bodyOf Tryd.f62) = some (.loop (loopAt [1, 1, 1, 1, 1, 1, 1, 1, 0, 1, 0] (bodyOf Tryd.f62))) := by kernel_rfl
theorem fi3_at : codeAt [1, 1, 1, 1, 1, 1, 1, 1, 1, 0, 1, 0] (bodyOf Tryd.f62) = some (.loop (loopAt [1, 1, 1, 1, 1, 1, 1, 1, 1, 0, 1, 0] (bodyOf Tryd.f62))) := by kernel_rfl
noncomputable def fiT1 (s : S8) (n : Nat) (f : Nat → List Value) (e : Nat) (N : Int) : Option (Exit × St) :=
  req (true && decide (64 ≤ (n : Int))) (req (Nat.ble 64 n) (req (isS8 (s8V s) && (((Nat.beq 1 1 && Nat.ble (0 + 64) n) && (true && true && true && Nat.ble 64 (n - 0))) && true)) (req (true && decide (64 ≤ (n : Int))) (req (Nat.ble n n)
    (some (.normal, fiS2 (mixN s (bN (segF ⟨1500002, 0, 64, kB, n, f, e, false, []⟩))) n f e N 64 (n - 64)))))))
theorem fi_r1 (s : S8) (n : Nat) (f : Nat → List Value) (e : Nat) (N : Int) : roundS fiC0 60 [1, 1, 0, 0, 0] (loopAt [1, 1, 0, 0] (bodyOf Tryd.f62)) fiNt fiNi 8 fiNt fiE2 8 (fiSt s n f e N) =
    bif decide ((n : Int) ≥ 64) then fiT1 s n f e N else none := by kernel_rfl
theorem fi_x1 (s : S8) (n : Nat) (f : Nat → List Value) (e : Nat) (N : Int) : roundS fiC0 60 [1, 1, 0, 0, 0] (loopAt [1, 1, 0, 0] (bodyOf Tryd.f62)) fiNt fiNi 8 fiNt fiE1 8 (fiSt s n f e N) =
    bif decide ((n : Int) ≥ 64) then fiT1 s n f e N else some (.exit 0, fiSt s n f e N) := by kernel_rfl
theorem fi_r2 (s : S8) (n : Nat) (f : Nat → List Value) (e : Nat) (N : Int) (m r : Nat) : roundS fiC0 60 [1, 1, 0, 0, 0] (loopAt [1, 1, 0, 0] (bodyOf Tryd.f62)) fiNt fiNi 8 fiNt fiE2 8 (fiS2 s n f e N m r) =
    bif decide ((r : Int) ≥ 64) then req (true && decide (64 ≤ (r : Int))) (req (Nat.ble 64 r) (req (true && Nat.ble (0 + 64) r) (req (isS8 (s8V s) && (((Nat.beq 1 1 && Nat.ble (m + 0 + 64) n) && (true && true && true && Nat.ble 64 (r - 0))) && true)) (req (true && decide (64 ≤ (r : Int))) (req (Nat.ble r r) (req (true && Nat.ble (64 + (r - 64)) r)
      (some (.normal, fiS2 (mixN s (bN (segF ⟨1500002, m + 0, 64, kB, n, f, e, false, []⟩))) n f e N (m + 64) (r - 64))))))))) else some (.exit 0, fiS2 s n f e N m r) := by kernel_rfl
noncomputable def f2St (s : S8) (E : Int) (c : Cells) (N i : Int) : St := ⟨[(3, ptr 0), (6, ptr 1), (7, .int .u64 N), (8, ptr 8), (10, i64 E), (36, i64 i)], [(0, ⟨.lst (w8 s), 93, true⟩), (1, ⟨.lst (repL 32 [z8]), 61, true⟩), (8, ⟨c, 99, true⟩)], 23⟩
noncomputable def f2Nt : List Nat := [3, 6, 7, 8, 10, 36]
noncomputable def f2Ni : List Nat := [0, 1, 8]
theorem f2_r64 (s : S8) (G : Nat → List Value) (N : Int) : ∀ i : Nat, i < 8 → roundS fiC0 60 [1, 1, 1, 1, 1, 1, 1, 1, 0, 1, 0, 0] (loopAt [1, 1, 1, 1, 1, 1, 1, 1, 0, 1, 0] (bodyOf Tryd.f62)) f2Nt f2Ni 23 f2Nt f2Ni 23 (f2St s 64 (.row kB 128 G) N (i : Int)) =
    some (.normal, f2St s 64 (.row kB 128 (updR G (64 - 1 - i) [.int .u8 (lnI N i)])) N ((i + 1 : Nat) : Int))
  | 0, _ => by kernel_rfl
  | 1, _ => by kernel_rfl
  | 2, _ => by kernel_rfl
  | 3, _ => by kernel_rfl
  | 4, _ => by kernel_rfl
  | 5, _ => by kernel_rfl
  | 6, _ => by kernel_rfl
  | 7, _ => by kernel_rfl
  | t + 8, h => absurd h (by omega)
theorem f2_r128 (s : S8) (G : Nat → List Value) (N : Int) : ∀ i : Nat, i < 8 → roundS fiC0 60 [1, 1, 1, 1, 1, 1, 1, 1, 0, 1, 0, 0] (loopAt [1, 1, 1, 1, 1, 1, 1, 1, 0, 1, 0] (bodyOf Tryd.f62)) f2Nt f2Ni 23 f2Nt f2Ni 23 (f2St s 128 (.row kB 128 G) N (i : Int)) =
    some (.normal, f2St s 128 (.row kB 128 (updR G (128 - 1 - i) [.int .u8 (lnI N i)])) N ((i + 1 : Nat) : Int))
  | 0, _ => by kernel_rfl
  | 1, _ => by kernel_rfl
  | 2, _ => by kernel_rfl
  | 3, _ => by kernel_rfl
  | 4, _ => by kernel_rfl
  | 5, _ => by kernel_rfl
  | 6, _ => by kernel_rfl
  | 7, _ => by kernel_rfl
  | t + 8, h => absurd h (by omega)
theorem f2_x (s : S8) (E : Int) (G : Nat → List Value) (N : Int) : roundS fiC0 60 [1, 1, 1, 1, 1, 1, 1, 1, 0, 1, 0, 0] (loopAt [1, 1, 1, 1, 1, 1, 1, 1, 0, 1, 0] (bodyOf Tryd.f62)) f2Nt f2Ni 23 f2Nt f2Ni 23 (f2St s E (.row kB 128 G) N 8) = some (.exit 2, f2St s E (.row kB 128 G) N 8) := by kernel_rfl
noncomputable def f3St (s : S8) (E : Int) (c : Cells) (i : Int) : St := ⟨[(3, ptr 0), (6, ptr 1), (8, ptr 8), (10, i64 E), (12, i64 i)], [(0, ⟨.lst (w8 s), 93, true⟩), (1, ⟨.lst (repL 32 [z8]), 61, true⟩), (8, ⟨c, 99, true⟩)], 24⟩
noncomputable def f3Nt : List Nat := [3, 6, 8, 10, 12]
theorem f3_r0 (s : S8) (G : Nat → List Value) : roundS fiC0 60 [1, 1, 1, 1, 1, 1, 1, 1, 1, 0, 1, 0, 0] (loopAt [1, 1, 1, 1, 1, 1, 1, 1, 1, 0, 1, 0] (bodyOf Tryd.f62)) f3Nt f2Ni 24 f3Nt f2Ni 24 (f3St s 64 (.lst (rowL kB G 0 128)) 0) =
    req (isS8 (s8V s) && true) (some (.normal, f3St (mixN s (bN (lstF (rowL kB G 0 128) 0 1))) 64 (.lst (rowL kB G 0 128)) 64)) := by kernel_rfl
theorem f3_r1 (s : S8) (G : Nat → List Value) : roundS fiC0 60 [1, 1, 1, 1, 1, 1, 1, 1, 1, 0, 1, 0, 0] (loopAt [1, 1, 1, 1, 1, 1, 1, 1, 1, 0, 1, 0] (bodyOf Tryd.f62)) f3Nt f2Ni 24 f3Nt f2Ni 24 (f3St s 128 (.lst (rowL kB G 0 128)) 0) =
    req (isS8 (s8V s) && true) (some (.normal, f3St (mixN s (bN (lstF (rowL kB G 0 128) 0 1))) 128 (.lst (rowL kB G 0 128)) 64)) := by kernel_rfl
theorem f3_r2 (s : S8) (G : Nat → List Value) : roundS fiC0 60 [1, 1, 1, 1, 1, 1, 1, 1, 1, 0, 1, 0, 0] (loopAt [1, 1, 1, 1, 1, 1, 1, 1, 1, 0, 1, 0] (bodyOf Tryd.f62)) f3Nt f2Ni 24 f3Nt f2Ni 24 (f3St s 128 (.lst (rowL kB G 0 128)) 64) =
    req (isS8 (s8V s) && true) (some (.normal, f3St (mixN s (bN (lstF (rowL kB G 0 128) 64 1))) 128 (.lst (rowL kB G 0 128)) 128)) := by kernel_rfl
theorem f3_x64 (s : S8) (G : Nat → List Value) : roundS fiC0 60 [1, 1, 1, 1, 1, 1, 1, 1, 1, 0, 1, 0, 0] (loopAt [1, 1, 1, 1, 1, 1, 1, 1, 1, 0, 1, 0] (bodyOf Tryd.f62)) f3Nt f2Ni 24 f3Nt f2Ni 24 (f3St s 64 (.lst (rowL kB G 0 128)) 64) = some (.exit 4, f3St s 64 (.lst (rowL kB G 0 128)) 64) := by kernel_rfl
theorem f3_x128 (s : S8) (G : Nat → List Value) : roundS fiC0 60 [1, 1, 1, 1, 1, 1, 1, 1, 1, 0, 1, 0, 0] (loopAt [1, 1, 1, 1, 1, 1, 1, 1, 1, 0, 1, 0] (bodyOf Tryd.f62)) f3Nt f2Ni 24 f3Nt f2Ni 24 (f3St s 128 (.lst (rowL kB G 0 128)) 128) = some (.exit 4, f3St s 128 (.lst (rowL kB G 0 128)) 128) := by kernel_rfl
noncomputable def fiL (s : S8) (E : Int) (G0 G1 : Nat → List Value) (N : Int) (s2 : S8) : List (List Nat × (St → List (Bool × Exit × St))) :=
  [([1, 1, 1, 1, 1, 1, 1, 1, 0, 1, 0], atSt f2Nt f2Ni 23 (f2St s E (.row kB 128 G0) N 0) (.exit 2) (f2St s E (.row kB 128 G1) N 8)),
   ([1, 1, 1, 1, 1, 1, 1, 1, 1, 0, 1, 0], atSt f3Nt f2Ni 24 (f3St s E (.lst (rowL kB G1 0 128)) 0) (.exit 4) (f3St s2 E (.lst (rowL kB G1 0 128)) E))]
noncomputable def fiTr (s : S8) (n : Nat) (g : Nat → List Value) (E : Int) (G0 G1 : Nat → List Value) (N : Int) (s2 : S8) : Option (Value × List (Nat × Blk)) :=
  req (true && Nat.ble n n && true) (req (inR ((min n 128 : Nat) : Int) 128) (req (Nat.blt (0 + ((min n 128 : Nat) : Int).toNat * 1) 128)
    (bif decide (IntKind.i64.wrap (IntKind.i64.wrap (((min n 128 : Nat) : Int) + 1) + 8) > 64) then
      req (stEq (f2St s 128 (.row kB 128 (laR n g)) N 0) (f2St s E (.row kB 128 G0) N 0)) (req (stEq (f3St s E (.row kB 128 G1) 0) (f3St s E (.lst (rowL kB G1 0 128)) 0)) (req (isS8 (s8V s2)) (some (tdV s2, []))))
    else req (stEq (f2St s 64 (.row kB 128 (laR n g)) N 0) (f2St s E (.row kB 128 G0) N 0)) (req (stEq (f3St s E (.row kB 128 G1) 0) (f3St s E (.lst (rowL kB G1 0 128)) 0)) (req (isS8 (s8V s2)) (some (tdV s2, [])))))))
noncomputable def fiCA (s : S8) (n : Nat) (f : Nat → List Value) (e : Nat) (E : Int) (G0 G1 : Nat → List Value) (N : Int) (s2 : S8) : Cfg :=
  ⟨tab, fiG, 64, ([1, 1, 0, 0], atSt fiNt fiE1 8 (fiSt s n f e N) (.exit 0) (fiSt s n f e N)) :: fiL s E G0 G1 N s2⟩
noncomputable def fiCB (s : S8) (n : Nat) (f : Nat → List Value) (e : Nat) (E : Int) (G0 G1 : Nat → List Value) (N : Int) (s1 : S8) (m r : Nat) (s2 : S8) : Cfg :=
  ⟨tab, fiG, 64, ([1, 1, 0, 0], atSt fiNt fiE1 8 (fiSt s n f e N) (.exit 0) (fiS2 s1 n f e N m r)) :: fiL s1 E G0 G1 N s2⟩
end Go.Proofs.YtafeeiodgfgepaaDoor
/-
  The landed code's sums: what is left of a text.
-/
namespace Go.Proofs.YtafeeiodgfgepaaDoor
set_option maxRecDepth 100000
open Go.W
theorem fi_evA (s : S8) (n : Nat) (f : Nat → List Value) (A : Int) (E : Int) (G0 G1 : Nat → List Value) (N : Int) (s2 : S8) (es : Nat → Nat) (id : Nat) :
    fnMS (fiCA s n f (es 2) E G0 G1 N s2) 60 Tryd.f62 (bodyOf Tryd.f62) (cArgs [.pl (s8V s), .pl (.int .u64 A), .sl kB n f] 0) (cMem es [.pl (s8V s), .pl (.int .u64 A), .sl kB n f] 0) 0 id =
    req (stEq (fiSt s n f (es 2) (IntKind.u64.wrap (A + IntKind.u64.wrap (n : Int)))) (fiSt s n f (es 2) N)) (fiTr s n (segF ⟨1500002, 0, n, kB, n, f, es 2, false, []⟩) E G0 G1 N s2) := by kernel_rfl
theorem fi_evB (s : S8) (n : Nat) (f : Nat → List Value) (A : Int) (E : Int) (G0 G1 : Nat → List Value) (N : Int) (s1 : S8) (m r : Nat) (s2 : S8) (es : Nat → Nat) (id : Nat) :
    fnMS (fiCB s n f (es 2) E G0 G1 N s1 m r s2) 60 Tryd.f62 (bodyOf Tryd.f62) (cArgs [.pl (s8V s), .pl (.int .u64 A), .sl kB n f] 0) (cMem es [.pl (s8V s), .pl (.int .u64 A), .sl kB n f] 0) 0 id =
    req (stEq (fiSt s n f (es 2) (IntKind.u64.wrap (A + IntKind.u64.wrap (n : Int)))) (fiSt s n f (es 2) N)) (req (true && Nat.ble (m + r) n) (fiTr s1 r (segF ⟨1500002, m, r, kB, n, f, es 2, false, []⟩) E G0 G1 N s2)) := by kernel_rfl
theorem fi_loop2 (s : S8) (G : Nat → List Value) (N : Int) (E : Nat) (hE : E = 64 ∨ E = 128) : LoopOk Tryd.prog 64 (loopAt [1, 1, 1, 1, 1, 1, 1, 1, 0, 1, 0] (bodyOf Tryd.f62)) (atSt f2Nt f2Ni 23 (f2St s (E : Int) (.row kB 128 (leF E N G 0)) N 0) (.exit 2) (f2St s (E : Int) (.row kB 128 (leF E N G 8)) N 8)) := by
  refine atSt_ok fun w0 R a W hrel => ?_
  refine loop_rounds (R := R) (C := fiC0) fiOk0 fi2_at (m := 60) (nt := f2Nt) (ni := f2Ni) (et := f2Nt) (ei := f2Ni) (nx := 23) (ex := 23) (e := .exit 2) (sf := f2St s (E : Int) (.row kB 128 (leF E N G 8)) N 8)
    (fun k => f2St s (E : Int) (.row kB 128 (leF E N G k)) N (k : Int)) 8 (by intro h; cases h) ?_ ?_ hrel
  · intro k hk
    rw [← leF_step N G (by omega : k < E)]
    rcases hE with rfl | rfl
    · exact f2_r64 s _ N k hk
    · exact f2_r128 s _ N k hk
  · exact f2_x _ _ _ _
theorem fi_loop3 (s : S8) (hs0 : s.ok) (G : Nat → List Value) (E : Nat) (hE : E = 64 ∨ E = 128) : LoopOk Tryd.prog 64 (loopAt [1, 1, 1, 1, 1, 1, 1, 1, 1, 0, 1, 0] (bodyOf Tryd.f62)) (atSt f3Nt f2Ni 24 (f3St s (E : Int) (.lst (rowL kB G 0 128)) 0) (.exit 4) (f3St (hs s (bN G) (E / 64)) (E : Int) (.lst (rowL kB G 0 128)) (E : Int))) := by
  have one : ∀ (t : S8) (k : Nat), k < 2 → mixN t (bN (lstF (rowL kB G 0 128) (64 * k) 1)) = mixN t (fun j => bN G (64 * k + j)) := fun t k hk => mixN_congr (fun j hj => lstF_row G (by omega)) _
  have ok : ∀ k, (isS8 (s8V (hs s (bN G) k)) && true) = true := fun k => by rw [isS8_s8V (hs_ok hs0 _ k)]; rfl
  refine atSt_ok fun w0 R a W hrel => ?_
  rcases hE with rfl | rfl
  · refine loop_rounds (R := R) (C := fiC0) fiOk0 fi3_at (m := 60) (nt := f3Nt) (ni := f2Ni) (et := f3Nt) (ei := f2Ni) (nx := 24) (ex := 24) (e := .exit 4) (sf := f3St (hs s (bN G) 1) 64 (.lst (rowL kB G 0 128)) 64)
      (fun k => f3St (hs s (bN G) k) 64 (.lst (rowL kB G 0 128)) ((64 * k : Nat) : Int)) 1 (by intro h; cases h) ?_ ?_ hrel
    · intro k hk
      obtain rfl : k = 0 := by omega
      refine (f3_r0 _ G).trans ?_
      rw [req_true (ok 0), one _ 0 (by omega)]; rfl
    · exact f3_x64 _ _
  · refine loop_rounds (R := R) (C := fiC0) fiOk0 fi3_at (m := 60) (nt := f3Nt) (ni := f2Ni) (et := f3Nt) (ei := f2Ni) (nx := 24) (ex := 24) (e := .exit 4) (sf := f3St (hs s (bN G) 2) 128 (.lst (rowL kB G 0 128)) 128)
      (fun k => f3St (hs s (bN G) k) 128 (.lst (rowL kB G 0 128)) ((64 * k : Nat) : Int)) 2 (by intro h; cases h) ?_ ?_ hrel
    · intro k hk
      rcases (by omega : k = 0 ∨ k = 1) with rfl | rfl
      · refine (f3_r1 _ G).trans ?_
        rw [req_true (ok 0), one _ 0 (by omega)]; rfl
      · refine (f3_r2 _ G).trans ?_
        rw [req_true (ok 1), one _ 1 (by omega)]; rfl
    · exact f3_x128 _ _
theorem fi_end (n : Nat) (hn : n < 64) : ∃ E, E = padL n + 8 ∧ (E = 64 ∨ E = 128) ∧ decide (IntKind.i64.wrap (IntKind.i64.wrap (((min n 128 : Nat) : Int) + 1) + 8) > 64) = decide (E = 128) := by
  refine ⟨padL n + 8, rfl, by unfold padL padZ; omega, ?_⟩
  rw [Nat.min_eq_left (by omega), wrap_i64 (n := (n : Int) + 1) (by omega), wrap_i64 (by omega)]
  unfold padL padZ
  rw [decide_eq_decide]; omega
theorem fi_tr (s : S8) (n : Nat) (hn : n < 64) (g : Nat → List Value) (E : Nat) (hE : E = 64 ∨ E = 128) (hd : decide (IntKind.i64.wrap (IntKind.i64.wrap (((min n 128 : Nat) : Int) + 1) + 8) > 64) = decide (E = 128)) (N : Int) (s2 : S8) (h2 : s2.ok) :
    fiTr s n g (E : Int) (leF E N (laF n g) 0) (leF E N (laF n g) 8) N s2 = some (tdV s2, []) := by
  unfold fiTr
  have hnn : Nat.ble n n = true := by rw [Nat.ble_eq]; exact Nat.le_refl _
  have c2 : inR ((min n 128 : Nat) : Int) 128 = true := by rw [Nat.min_eq_left (by omega)]; unfold inR; rw [Bool.and_eq_true, decide_eq_true_eq, decide_eq_true_eq]; omega
  have c3 : Nat.blt (0 + ((min n 128 : Nat) : Int).toNat * 1) 128 = true := by rw [Nat.min_eq_left (by omega), Nat.blt_eq]; omega
  have row : ∀ j, j < 128 → nrmK kB (laR n g j) = nrmK kB (leF E N (laF n g) 0 j) := fun j _ => by rw [leF_zero]; exact laR_eq (by omega) g j
  have q3 : stEq (f3St s (E : Int) (.row kB 128 (leF E N (laF n g) 8)) 0) (f3St s (E : Int) (.lst (rowL kB (leF E N (laF n g) 8) 0 128)) 0) = true :=
    stEq_mk rfl (memEq_cons (cellsEq_refl rfl) (memEq_cons (cellsEq_refl rfl) (memEq_cons (cellsEq_rl rfl rfl) rfl)))
  rw [hnn, req_true (b := true && true && true) rfl, req_true c2, req_true c3, hd]
  rcases hE with rfl | rfl
  · rw [show decide ((64 : Nat) = 128) = false from rfl, cond_false]
    have q2 : stEq (f2St s 64 (.row kB 128 (laR n g)) N 0) (f2St s ((64 : Nat) : Int) (.row kB 128 (leF 64 N (laF n g) 0)) N 0) = true :=
      stEq_mk rfl (memEq_cons (cellsEq_refl rfl) (memEq_cons (cellsEq_refl rfl) (memEq_cons (cellsEq_rr row) rfl)))
    rw [req_true q2, req_true q3, req_true (isS8_s8V h2)]
  · rw [show decide ((128 : Nat) = 128) = true from rfl, cond_true]
    have q2 : stEq (f2St s 128 (.row kB 128 (laR n g)) N 0) (f2St s ((128 : Nat) : Int) (.row kB 128 (leF 128 N (laF n g) 0)) N 0) = true :=
      stEq_mk rfl (memEq_cons (cellsEq_refl rfl) (memEq_cons (cellsEq_refl rfl) (memEq_cons (cellsEq_rr row) rfl)))
    rw [req_true q2, req_true q3, req_true (isS8_s8V h2)]
theorem fi_fin (s : S8) (n E L : Nat) (hE : E = padL n + 8) (hL : L < 2305843009213693952) (g : Nat → List Value) (F : Nat → Nat) (hF : ∀ j, j < n → bN g j = F j) :
    hs s (bN (leF E (L : Int) (laF n g) 8)) (E / 64) = finN s n F L := by
  unfold finN
  rw [← hE]
  have hm := padL_mod n
  exact hs_congr _ _ fun j hj => last_bytes hE hL g F hF j (by omega)
theorem fi_loopB (s : S8) (hs0 : s.ok) (n : Nat) (f : Nat → List Value) (e : Nat) (N : Int) (hn : 64 ≤ n) : LoopOk Tryd.prog 64 (loopAt [1, 1, 0, 0] (bodyOf Tryd.f62)) (atSt fiNt fiE1 8 (fiSt s n f e N) (.exit 0) (fiS2 (hs s (bN f) (n / 64)) n f e N (64 * (n / 64)) (n - 64 * (n / 64)))) := by
  refine atSt_ok fun w0 R a W hrel => ?_
  have hnn : ∀ k, Nat.ble k k = true := fun k => by rw [Nat.ble_eq]; exact Nat.le_refl _
  have hle : ∀ {a b : Nat}, a ≤ b → Nat.ble a b = true := fun h => by rw [Nat.ble_eq]; exact h
  have seg : ∀ (t : S8) (m e : Nat), mixN t (bN (segF ⟨1500002, m, 64, kB, n, f, e, false, []⟩)) = mixN t (fun j => bN f (m + j)) := fun t m e => rfl
  refine loop_rounds (R := R) (C := fiC0) fiOk0 fi_at (m := 60) (nt := fiNt) (ni := fiNi) (et := fiNt) (ei := fiE2) (nx := 8) (ex := 8) (e := .exit 0) (sf := fiS2 (hs s (bN f) (n / 64)) n f e N (64 * (n / 64)) (n - 64 * (n / 64)))
    (fun k => match k with
      | 0 => fiSt s n f e N
      | k + 1 => fiS2 (hs s (bN f) (k + 1)) n f e N (64 * (k + 1)) (n - 64 * (k + 1))) (n / 64) (by intro h; cases h) ?_ ?_ hrel
  · intro k hk
    match k, hk with
    | 0, hk =>
      refine (fi_r1 s n f e N).trans ?_
      unfold fiT1
      rw [decide_eq_true (by omega), cond_true, req_true (b := true && true) rfl, hle (by omega : 64 ≤ n), req_true rfl, isS8_s8V hs0, hle (by omega : 64 ≤ n - 0), req_true (by rfl), req_true (b := true && true) rfl, hnn, req_true rfl]
      rfl
    | k + 1, hk =>
      refine (fi_r2 _ n f e N _ _).trans ?_
      have hr : 64 * (k + 1) + 64 ≤ n := by omega
      rw [decide_eq_true (by omega), cond_true, req_true (b := true && true) rfl, hle (by omega : 64 ≤ n - 64 * (k + 1)), req_true rfl, req_true (b := true && true) rfl, isS8_s8V (hs_ok hs0 _ _), hle (by omega : 64 * (k + 1) + 0 + 64 ≤ n), hle (by omega : 64 ≤ n - 64 * (k + 1) - 0),
        req_true (by rfl), req_true (b := true && true) rfl, hnn, req_true rfl, hle (by omega : 64 + (n - 64 * (k + 1) - 64) ≤ n - 64 * (k + 1)), req_true (b := true && true) rfl,
        seg, show n - 64 * (k + 1) - 64 = n - 64 * (k + 1 + 1) from by omega, show 64 * (k + 1) + 64 = 64 * (k + 1 + 1) from by omega]
      rfl
  · match hk : n / 64, (by omega : n / 64 ≠ 0) with
    | k + 1, _ =>
      refine (fi_r2 _ n f e N _ _).trans ?_
      rw [decide_eq_false (by omega), cond_false]
theorem fi_loopA (s : S8) (n : Nat) (f : Nat → List Value) (e : Nat) (N : Int) (hn : n < 64) : LoopOk Tryd.prog 64 (loopAt [1, 1, 0, 0] (bodyOf Tryd.f62)) (atSt fiNt fiE1 8 (fiSt s n f e N) (.exit 0) (fiSt s n f e N)) := by
  refine atSt_ok fun w0 R a W hrel => ?_
  refine loop_rounds (R := R) (C := fiC0) fiOk0 fi_at (m := 60) (nt := fiNt) (ni := fiNi) (et := fiNt) (ei := fiE1) (nx := 8) (ex := 8) (e := .exit 0) (sf := fiSt s n f e N)
    (fun _ => fiSt s n f e N) 0 (by intro h; cases h) (fun k hk => absurd hk (by omega)) ?_ hrel
  refine (fi_x1 s n f e N).trans ?_
  rw [decide_eq_false (by omega), cond_false]
theorem fi_msum : MSum Tryd.prog 62 FiF := by
  intro w0 R fm w hm vs args' hl mm hsub id hlt v l hpick hnew
  unfold FiF at hpick
  split at hpick
  · rename_i hh A a
    obtain ⟨hc, rfl, rfl⟩ := pick_one hpick
    simp only [Bool.and_eq_true, decide_eq_true_eq] at hc
    obtain ⟨h8, ⟨hA0, hA1⟩, ha, hn⟩ := hc
    obtain ⟨s, hs0, rfl⟩ := isS8_some h8
    generalize hqa : srcB mm kB a = qa at ha hn ⊢
    obtain ⟨ok1, n, f⟩ := qa
    simp only at ha hn ⊢
    have hn := Nat.le_of_ble_eq_true hn
    subst ha
    obtain ⟨A, rfl⟩ : ∃ B : Nat, A = (B : Int) := ⟨A.toNat, by omega⟩
    have hA : AOk mm [s8V s, .int .u64 (A : Int), a] [.pl (s8V s), .pl (.int .u64 (A : Int)), .sl kB n f] := ⟨rfl, rfl, rfl, rfl, hqa, trivial⟩
    refine msum_at (c := bodyOf Tryd.f62) (fuel := 60) (next := 0) Tryd.func62 (by kernel_rfl) (by kernel_rfl) hm hl hsub hlt hA (by show 3 ≤ Tryd.f62.ntmps; decide +kernel) (.inl rfl) hnew (fun es => ?_)
    rw [unS8_s8V, Int.toNat_natCast]
    have eN : IntKind.u64.wrap ((A : Int) + IntKind.u64.wrap (n : Int)) = ((A + n : Nat) : Int) := by rw [wrap_u64, wrap_u64]; omega
    have hle : ∀ {a b : Nat}, a ≤ b → Nat.ble a b = true := fun h => by rw [Nat.ble_eq]; exact h
    by_cases h64 : n < 64
    · obtain ⟨E, e1, e2, e3⟩ := fi_end n h64
      have hf := fi_fin s n E (A + n) e1 (by omega) (segF ⟨1500002, 0, n, kB, n, f, es 2, false, []⟩) (bN f) (fun j _ => by show bN f (0 + j) = bN f j; rw [Nat.zero_add])
      refine ⟨fiCA s n f (es 2) (E : Int) (leF E ((A + n : Nat) : Int) (laF n (segF ⟨1500002, 0, n, kB, n, f, es 2, false, []⟩)) 0) (leF E ((A + n : Nat) : Int) (laF n (segF ⟨1500002, 0, n, kB, n, f, es 2, false, []⟩)) 8) ((A + n : Nat) : Int) (hs s (bN (leF E ((A + n : Nat) : Int) (laF n (segF ⟨1500002, 0, n, kB, n, f, es 2, false, []⟩)) 8)) (E / 64)),
        ⟨mixed, tabOk, fiG_ok, consL (fi_loopA s n f (es 2) _ h64) (twoL (fi_loop2 s _ _ E e2) (fi_loop3 s hs0 _ E e2))⟩, rfl, ?_⟩
      refine (fi_evA s n f _ _ _ _ _ _ es id).trans ?_
      rw [eN, req_true (stEq_refl rfl), fi_tr s n h64 _ E e2 e3 _ _ (hs_ok hs0 _ _), hf]
    · obtain ⟨E, e1, e2, e3⟩ := fi_end (n - 64 * (n / 64)) (by omega)
      have h1 := hs_ok hs0 (bN f) (n / 64)
      have hf := fi_fin (hs s (bN f) (n / 64)) (n - 64 * (n / 64)) E (A + n) e1 (by omega) (segF ⟨1500002, 64 * (n / 64), n - 64 * (n / 64), kB, n, f, es 2, false, []⟩) (fun j => bN f (64 * (n / 64) + j)) (fun j _ => rfl)
      refine ⟨fiCB s n f (es 2) (E : Int) (leF E ((A + n : Nat) : Int) (laF (n - 64 * (n / 64)) (segF ⟨1500002, 64 * (n / 64), n - 64 * (n / 64), kB, n, f, es 2, false, []⟩)) 0) (leF E ((A + n : Nat) : Int) (laF (n - 64 * (n / 64)) (segF ⟨1500002, 64 * (n / 64), n - 64 * (n / 64), kB, n, f, es 2, false, []⟩)) 8) ((A + n : Nat) : Int) (hs s (bN f) (n / 64)) (64 * (n / 64)) (n - 64 * (n / 64)) (hs (hs s (bN f) (n / 64)) (bN (leF E ((A + n : Nat) : Int) (laF (n - 64 * (n / 64)) (segF ⟨1500002, 64 * (n / 64), n - 64 * (n / 64), kB, n, f, es 2, false, []⟩)) 8)) (E / 64)),
        ⟨mixed, tabOk, fiG_ok, consL (fi_loopB s hs0 n f (es 2) _ (by omega)) (twoL (fi_loop2 _ _ _ E e2) (fi_loop3 _ h1 _ E e2))⟩, rfl, ?_⟩
      refine (fi_evB s n f _ _ _ _ _ _ _ _ _ es id).trans ?_
      rw [eN, req_true (stEq_refl rfl), hle (by omega : 64 * (n / 64) + (n - 64 * (n / 64)) ≤ n), req_true (b := true && true) rfl, fi_tr _ _ (by omega) _ E e2 e3 _ _ (hs_ok h1 _ _), hf, finN_blocks s n (bN f) (A + n) (n / 64) (by omega)]
  · simp [pickM] at hpick
end Go.Proofs.YtafeeiodgfgepaaDoor
/-
  The landed code's sums, and sums by a key.
-/
namespace Go.Proofs.YtafeeiodgfgepaaDoor
set_option maxRecDepth 100000
open Go.W
noncomputable def suC : Cfg := ⟨tab, [(63, StaF), (62, FiF)], 6, []⟩
theorem suOk : CfgOk Tryd.prog suC (bodyOf Tryd.f48) := ⟨mixed, tabOk, sums_cons sta_sum (sums_consM fi_msum sums_nil), noL⟩
theorem su_ev (n : Nat) (f : Nat → List Value) (es : Nat → Nat) (id : Nat) : fnMS suC 60 Tryd.f48 (bodyOf Tryd.f48) (cArgs [.sl kB n f] 0) (cMem es [.sl kB n f] 0) 0 id =
    req ((true && Nat.ble n n && true && Nat.ble n n) && Nat.ble n 1000000) (some (tdV (finN h0 n (bN (segF ⟨1500000, 0, n, kB, n, f, es 0, false, []⟩)) (0 + n)), [])) := by kernel_rfl
theorem su_msum : MSum Tryd.prog 48 SuF := by
  refine msum_of (fuel := 60) (next := 0) suOk Tryd.func48 (by kernel_rfl) (by kernel_rfl) rfl fun vs mm id v l hpick hlt => ?_
  match vs, hpick with
  | [a], hpick =>
    obtain ⟨hc, rfl, rfl⟩ := pick_one hpick
    simp only [Bool.and_eq_true] at hc
    obtain ⟨ha, hs⟩ := hc
    generalize hqa : srcB mm kB a = qa at ha hs ⊢
    obtain ⟨ok1, n, f⟩ := qa
    simp only at ha hs ⊢
    subst ha
    refine ⟨[.sl kB n f], ⟨hqa, trivial⟩, by show 1 ≤ Tryd.f48.ntmps; decide +kernel, .inl trivial, fun es => ?_⟩
    have hnn : Nat.ble n n = true := by rw [Nat.ble_eq]; exact Nat.le_refl _
    refine (su_ev n f es id).trans ?_
    have eb : bN (segF ⟨1500000, 0, n, kB, n, f, es 0, false, []⟩) = bN f := funext fun j => by show bN f (0 + j) = bN f j; rw [Nat.zero_add]
    rw [hnn, hs, req_true (b := (true && true && true && true) && true) rfl, eb, Nat.zero_add]; rfl
  | [], h => simp [SuF, pickM] at h
  | _ :: _ :: _, h => simp [SuF, pickM] at h
end Go.Proofs.YtafeeiodgfgepaaDoor
