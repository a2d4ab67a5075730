/-
  PolyZero.
-/
import Derived.Test.YtpkoldooncpggaaSp
import Derived.Test.YtpkoldooncpggaaEi
namespace Go.Proofs.Ytpkoldooncpggaa
set_option maxRecDepth 100000
open Go.W

noncomputable def zzS : Sums := [(10, EvF), (15, ZeF), (17, ThkF 25), (20, RedF), (19, Wk6F)]
theorem zzS_ok : SumsOk Try.prog zzS := sums_consM ev_msum (sums_consM ze_msum (sums_consM (MSum_sub th_msum (ThkF_sub _)) (sums_cons Red_sum (sums_cons wk6_sum sums_nil))))
noncomputable def zzC0 : Cfg := ⟨tab, zzS, 133, []⟩
theorem zz_at1 : codeAt [1, 1, 1, 0, 1, 0] (bodyOf Try.f4) = some (.loop (loopAt [1, 1, 1, 0, 1, 0] (bodyOf Try.f4))) := by kernel_rfl
theorem zz_at2 : codeAt [1, 1, 1, 0, 1, 0, 0, 1, 0, 0, 1, 1, 0, 1, 0] (bodyOf Try.f4) = some (.loop (loopAt [1, 1, 1, 0, 1, 0, 0, 1, 0, 0, 1, 1, 0, 1, 0] (bodyOf Try.f4))) := by kernel_rfl
theorem zz_at3 : codeAt [1, 1, 1, 1, 1, 1, 1, 1, 0, 1, 0] (bodyOf Try.f4) = some (.loop (loopAt [1, 1, 1, 1, 1, 1, 1, 1, 0, 1, 0] (bodyOf Try.f4))) := by kernel_rfl
def zzB1 : Nat := nid 0 0
def zzN : List Nat := [0, 1, 5, 6]
def zzIa : Ren := [(zzB1, nid 49 0), (1500000, 1500000), (1500001, 1500001)]
def zzId : Ren := [(zzB1, zzB1), (1500000, 1500000), (1500001, 1500001)]
def zzZ : List Nat := [1500000, 1500001]
structure ZzP where
  n : Nat
  V : Nat → Nat
  e0 : Nat
  n1 : Nat
  Z : Nat → Int
  e1 : Nat
def zzM (p : ZzP) : List (Nat × Blk) := [(1500000, ⟨.row kN4 p.n (nmF p.V), p.e0, false⟩), (1500001, ⟨.row kI1 p.n1 (fun i => i1L (p.Z i)), p.e1, false⟩)]
def zzA (p : ZzP) (i : Int) : St := ⟨[(0, aSl 0 p.n), (1, aSl 1 p.n1), (5, .slice none 0 0), (6, i64 i)], zzM p, 16⟩
def zzB (p : ZzP) (m : Nat) (g : Nat → List Value) (i : Int) : St := ⟨[(0, aSl 0 p.n), (1, aSl 1 p.n1), (5, .slice (some ⟨zzB1, 0, none⟩) m m), (6, i64 i)], (zzB1, ⟨.row kN8 m g, 29, true⟩) :: zzM p, 16⟩
def zjN : List Nat := [0, 1, 5, 6, 7, 8, 9]
def zjI : List Nat := [36, zzB1, 1500000, 1500001]
def zjZ : List Nat := [36, 1500000, 1500001]
def zjA (p : ZzP) (i : Int) (x : List Value) : St := ⟨[(0, aSl 0 p.n), (1, aSl 1 p.n1), (5, .slice none 0 0), (6, i64 i), (7, ptr 36), (8, .bool false), (9, i64 0)], (36, ⟨.lst x, 25, true⟩) :: zzM p, 40⟩
def zjB (p : ZzP) (m : Nat) (g : Nat → List Value) (i : Int) (x : List Value) (tw : Bool) (k : Int) : St := ⟨[(0, aSl 0 p.n), (1, aSl 1 p.n1), (5, .slice (some ⟨zzB1, 0, none⟩) m m), (6, i64 i), (7, ptr 36), (8, .bool tw), (9, i64 k)], (36, ⟨.lst x, 25, true⟩) :: (zzB1, ⟨.row kN8 m g, 29, true⟩) :: zzM p, 40⟩
theorem zj_z (p : ZzP) (i : Int) (x : Nat) : roundS zzC0 60 [1, 1, 1, 0, 1, 0, 0, 1, 0, 0, 1, 1, 0, 1, 0, 0] (loopAt [1, 1, 1, 0, 1, 0, 0, 1, 0, 0, 1, 1, 0, 1, 0] (bodyOf Try.f4)) zjN zjZ 40 zjN zjZ 40 (zjA p i (cells4 x)) = some (.exit 2, zjA p i (cells4 x)) := by kernel_rfl
theorem zj_r (p : ZzP) (m : Nat) (S : Nat → Nat × Nat) (i : Int) (x : Nat) (tw : Bool) (j : Nat) : roundS zzC0 60 [1, 1, 1, 0, 1, 0, 0, 1, 0, 0, 1, 1, 0, 1, 0, 0] (loopAt [1, 1, 1, 0, 1, 0, 0, 1, 0, 0, 1, 1, 0, 1, 0] (bodyOf Try.f4)) zjN zjI 40 zjN zjI 40 (zjB p m (shF S) i (cells4 x) tw (j : Int)) =
    bif decide ((j : Int) < (m : Int)) then (bif tw then some (.normal, zjB p m (shF S) i (cells4 x) true (IntKind.i64.wrap ((j : Int) + 1))) else rdR j m (some (.normal, zjB p m (shF S) i (cells4 x) (eqV (num (S (0 + j)).1) (num x)) (IntKind.i64.wrap ((j : Int) + 1)))))
    else some (.exit 2, zjB p m (shF S) i (cells4 x) tw (j : Int)) := by kernel_rfl
theorem zj_loopz (p : ZzP) (i : Int) (x : Nat) : LoopOk Try.prog 133 (loopAt [1, 1, 1, 0, 1, 0, 0, 1, 0, 0, 1, 1, 0, 1, 0] (bodyOf Try.f4)) (atSt zjN zjZ 40 (zjA p i (cells4 x)) (.exit 2) (zjA p i (cells4 x))) :=
  loopE (fun _ => zzC0) 0 (fun _ _ => ⟨mixed, tabOk, zzS_ok, noL⟩) (fun _ => rfl) zz_at2 (m := 60) (nt := zjN) (ni := zjZ) (et := zjN) (ei := zjZ) (nx := 40) (ex := 40) (fun _ => zjA p i (cells4 x)) rfl (by intro h; cases h) (fun k hk => absurd hk (by omega)) ⟨_, zj_z p i x, stEq_refl rfl⟩
theorem zj_loop {p : ZzP} {m : Nat} {S : Nat → Nat × Nat} {i : Int} {x : Nat} (hm : m ≤ 1000) (hS : ∀ j, j < m → (S j).1 < 2 ^ 256) (hx : x < 2 ^ 256) : LoopOk Try.prog 133 (loopAt [1, 1, 1, 0, 1, 0, 0, 1, 0, 0, 1, 1, 0, 1, 0] (bodyOf Try.f4)) (atSt zjN zjI 40 (zjB p m (shF S) i (cells4 x) false 0) (.exit 2) (zjB p m (shF S) i (cells4 x) (twB (sX S) x m) (m : Int))) := by
  refine loopE (fun _ => zzC0) m (fun _ _ => ⟨mixed, tabOk, zzS_ok, noL⟩) (fun _ => rfl) zz_at2 (m := 60) (nt := zjN) (ni := zjI) (et := zjN) (ei := zjI) (nx := 40) (ex := 40) (fun j => zjB p m (shF S) i (cells4 x) (twB (sX S) x j) (j : Int)) rfl (by intro h; cases h) ?_ ?_
  · intro j hj
    refine ⟨_, ?_, stEq_refl rfl⟩
    refine (zj_r p m S i x _ j).trans ?_
    rw [decide_eq_true (by omega), cond_true, rdR_eq hj, wrap_i64 (by omega), Nat.zero_add, eqV_num, Nat.mod_eq_of_lt (hS j hj), Nat.mod_eq_of_lt hx]
    show _ = some (Exit.normal, zjB p m (shF S) i (cells4 x) (twB (sX S) x j || decide (sX S j = x)) ((j + 1 : Nat) : Int))
    cases twB (sX S) x j <;> rfl
  · refine ⟨_, ?_, stEq_refl rfl⟩
    refine (zj_r p m S i x _ m).trans ?_
    rw [decide_eq_false (by omega), cond_false]
noncomputable def zzCa (p : ZzP) (i : Int) (x : Nat) : Cfg := ⟨tab, zzS, 133, [([1, 1, 1, 0, 1, 0, 0, 1, 0, 0, 1, 1, 0, 1, 0], atSt zjN zjZ 40 (zjA p i (cells4 x)) (.exit 2) (zjA p i (cells4 x)))]⟩
noncomputable def zzCb (p : ZzP) (m : Nat) (S : Nat → Nat × Nat) (i : Int) (x : Nat) (b : Bool) : Cfg := ⟨tab, zzS, 133, [([1, 1, 1, 0, 1, 0, 0, 1, 0, 0, 1, 1, 0, 1, 0], atSt zjN zjI 40 (zjB p m (shF S) i (cells4 x) false 0) (.exit 2) (zjB p m (shF S) i (cells4 x) b (m : Int)))]⟩
noncomputable def zzC1 : Cfg := ⟨tab, zzS, 133, [([1, 1, 1, 0, 1, 0, 0, 1, 0, 0, 1, 1, 0, 1, 0], fun _ => [])]⟩
def zzw {α : Type} (p : ZzP) (m : Nat) (i : Nat) (k out : Option α) : Option α := bif decide ((i : Int) < (p.n1 : Int)) then (bif decide ((m : Int) < IntKind.i64.wrap ((p.n : Int) + 2)) then rdR i p.n1 k else out) else out
theorem zzw_in {α : Type} {p : ZzP} {m i : Nat} (hn : p.n ≤ 1000) (hi : i < p.n1) (hm : m < p.n + 2) (k out : Option α) : zzw p m i k out = k := by
  unfold zzw
  rw [decide_eq_true (by omega), cond_true, wrap_i64 (by omega), decide_eq_true (by omega), cond_true, rdR_eq hi]
theorem zzw_out {α : Type} {p : ZzP} {m i : Nat} (hn : p.n ≤ 1000) (h : ¬ (i < p.n1 ∧ m < p.n + 2)) (k out : Option α) : zzw p m i k out = out := by
  unfold zzw
  by_cases h1 : i < p.n1
  · rw [decide_eq_true (by omega), cond_true, wrap_i64 (by omega), decide_eq_false (by omega), cond_false]
  · rw [decide_eq_false (by omega), cond_false]
theorem zz_r0 (p : ZzP) (x i : Nat) : roundS (zzCa p (i : Int) x) 60 [1, 1, 1, 0, 1, 0, 0] (loopAt [1, 1, 1, 0, 1, 0] (bodyOf Try.f4)) zzN zzIa 16 zzN zzZ 16 (zzA p (i : Int)) =
    zzw p 0 i (req (stEq (zjA p (i : Int) (smL (qI 50 (p.Z (0 + i))))) (zjA p (i : Int) (cells4 x))) (evq p.n (nmF p.V) (num x) fun E => some (.normal, zzB p 1 (lstF (shC (num x) (num E)) 0 8) (IntKind.i64.wrap ((i : Int) + 1))))) (some (.exit 0, zzA p (i : Int))) := by kernel_rfl
theorem zz_r1 (p : ZzP) (k : Nat) (S : Nat → Nat × Nat) (x i : Nat) : roundS (zzCb p (k + 1) S (i : Int) x false) 60 [1, 1, 1, 0, 1, 0, 0] (loopAt [1, 1, 1, 0, 1, 0] (bodyOf Try.f4)) zzN zzIa 16 zzN zzId 16 (zzB p (k + 1) (shF S) (i : Int)) =
    zzw p (k + 1) i (req (stEq (zjB p (k + 1) (shF S) (i : Int) (smL (qI 50 (p.Z (0 + i)))) false 0) (zjB p (k + 1) (shF S) (i : Int) (cells4 x) false 0)) (evq p.n (nmF p.V) (num x) fun E => apq (k + 1) (some (.normal, zzB p (k + 1 + 1) (appF (k + 1) (shF S) (lstF (shC (num x) (num E)) 0 8)) (IntKind.i64.wrap ((i : Int) + 1)))))) (some (.exit 0, zzB p (k + 1) (shF S) (i : Int))) := by kernel_rfl
theorem zz_r2 (p : ZzP) (k : Nat) (S : Nat → Nat × Nat) (x i : Nat) : roundS (zzCb p (k + 1) S (i : Int) x true) 60 [1, 1, 1, 0, 1, 0, 0] (loopAt [1, 1, 1, 0, 1, 0] (bodyOf Try.f4)) zzN zzId 16 zzN zzId 16 (zzB p (k + 1) (shF S) (i : Int)) =
    zzw p (k + 1) i (req (stEq (zjB p (k + 1) (shF S) (i : Int) (smL (qI 50 (p.Z (0 + i)))) false 0) (zjB p (k + 1) (shF S) (i : Int) (cells4 x) false 0)) (some (.normal, zzB p (k + 1) (shF S) (IntKind.i64.wrap ((i : Int) + 1))))) (some (.exit 0, zzB p (k + 1) (shF S) (i : Int))) := by kernel_rfl
theorem zz_o0 (p : ZzP) (i : Nat) : roundS zzC1 60 [1, 1, 1, 0, 1, 0, 0] (loopAt [1, 1, 1, 0, 1, 0] (bodyOf Try.f4)) zzN zzIa 16 zzN zzZ 16 (zzA p (i : Int)) = zzw p 0 i none (some (.exit 0, zzA p (i : Int))) := by kernel_rfl
theorem zz_o1 (p : ZzP) (k : Nat) (S : Nat → Nat × Nat) (i : Nat) : roundS zzC1 60 [1, 1, 1, 0, 1, 0, 0] (loopAt [1, 1, 1, 0, 1, 0] (bodyOf Try.f4)) zzN zzId 16 zzN zzId 16 (zzB p (k + 1) (shF S) (i : Int)) = zzw p (k + 1) i none (some (.exit 0, zzB p (k + 1) (shF S) (i : Int))) := by kernel_rfl
noncomputable def zzSf (p : ZzP) (i : Nat) (j : Nat) : Nat × Nat := (ddP (fun i => qN 50 (p.Z i)) i j, evN p.V p.n (ddP (fun i => qN 50 (p.Z i)) i j))
def zzSt (p : ZzP) (S : Nat → Nat × Nat) (i : Int) : Nat → St
  | 0 => zzA p i
  | m + 1 => zzB p (m + 1) (shF S) i
noncomputable def zzCf (p : ZzP) (S : Nat → Nat × Nat) (i : Int) (x : Nat) (b : Bool) : Nat → Cfg
  | 0 => zzCa p i x
  | m + 1 => zzCb p (m + 1) S i x b
def zzNi (b : Bool) : Nat → Ren
  | 0 => zzIa
  | _ + 1 => bif b then zzId else zzIa
def zzEi : Nat → Ren
  | 0 => zzZ
  | _ + 1 => zzId
theorem zz_loop {p : ZzP} {N : Nat} (hn : p.n ≤ 100) (hn1 : p.n1 ≤ 100) (hV : ∀ j, j < p.n → p.V j < 2 ^ 256) (hlo : ∀ i, i < N → i < p.n1 ∧ (ddL (fun i => qN 50 (p.Z i)) i).length < p.n + 2) (hhi : ¬ (N < p.n1 ∧ (ddL (fun i => qN 50 (p.Z i)) N).length < p.n + 2)) :
    LoopOk Try.prog 133 (loopAt [1, 1, 1, 0, 1, 0] (bodyOf Try.f4)) (atSt zzN zzZ 16 (zzA p 0) (.exit 0) (zzSt p (zzSf p N) (N : Int) (ddL (fun i => qN 50 (p.Z i)) N).length)) := by
  generalize hq : (fun i => qN 50 (p.Z i)) = q at hlo hhi ⊢
  have hqx : ∀ i, qI 50 (p.Z i) = (q i : Int) ∧ 0 < q i ∧ q i ≤ 50 := fun i => by rw [← hq]; exact qI_eq (M := 50) (by decide) (by decide)
  have hSf : ∀ i j, zzSf p i j = (ddP q i j, evN p.V p.n (ddP q i j)) := fun i j => by unfold zzSf; rw [hq]
  have hlen := dd_len q
  have hP : ∀ i j, j < (ddL q i).length → ddP q i j ≤ 50 := fun i j hj => dd_all (p := fun x => x ≤ 50) (fun i => (hqx i).2.2) i _ (ddP_mem hj)
  refine loopV (fun i => if i < N then zzCf p (zzSf p i) (i : Int) (q i) (decide (q i ∈ ddL q i)) (ddL q i).length else zzC1) N ?_ (fun i => ?_) zz_at1 (m := 60) (nt := zzN) (ni := fun i => if i < N then zzNi (decide (q i ∈ ddL q i)) (ddL q i).length else zzNi true (ddL q i).length) (et := zzN) (ei := fun i => zzEi (ddL q i).length) (nx := 16) (ex := 16) (fun i => zzSt p (zzSf p i) (i : Int) (ddL q i).length) rfl (by intro h; cases h) ?_ ?_
  · intro i _
    by_cases h : i < N
    · rw [if_pos h]
      cases hl : (ddL q i).length with
      | zero => exact ⟨mixed, tabOk, zzS_ok, oneL (zj_loopz p _ _)⟩
      | succ m =>
        have hx : sX (zzSf p i) = ddP q i := funext fun j => congrArg Prod.fst (hSf i j)
        have := zj_loop (p := p) (m := m + 1) (S := zzSf p i) (i := (i : Int)) (x := q i) (by have := hlen i; have := (hlo i h).1; omega) (fun j hj => by rw [hSf]; have := hP i j (by omega); show ddP q i j < _; omega) (by have := (hqx i).2.2; omega)
        rw [hx, ← hl, tw_mem, hl] at this
        exact ⟨mixed, tabOk, zzS_ok, oneL this⟩
    · rw [if_neg h]; exact ⟨mixed, tabOk, zzS_ok, noneL2⟩
  · by_cases h : i < N
    · simp only [h, if_true]
      cases (ddL q i).length <;> rfl
    · simp only [h, if_false]; rfl
  · intro i hi
    simp only [if_pos hi]
    have hi1 := (hlo i hi).1
    have hi2 := (hlo i hi).2
    have hqi := hqx i
    have hsm : smL (qI 50 (p.Z (0 + i))) = cells4 (q i) := by rw [Nat.zero_add, (hqx i).1]; exact smL_eq (by omega)
    cases hl : (ddL q i).length with
    | zero =>
      have hnil : ddL q i = [] := List.length_eq_zero_iff.1 hl
      have hno : ¬ q i ∈ ddL q i := by rw [hnil]; simp
      have hl1 : (ddL q (i + 1)).length = 1 := by rw [dd_out hno, hnil]; rfl
      have hnew := ddP_new hno
      rw [hl] at hnew
      rw [hl1]
      refine ⟨zzB p 1 (lstF (shL (q i, evN p.V p.n (q i))) 0 8) ((i + 1 : Nat) : Int), ?_, stEq_mk rfl (mRow (one_row (ks := kN8) (by show nrmK kN8 (shL _) = nrmK kN8 (shL (zzSf p (i + 1) 0)); rw [hSf, hnew])) (mSame rfl (mSame rfl mNil)))⟩
      refine (zz_r0 p (q i) i).trans ?_
      rw [zzw_in (by omega) hi1 (by omega), hsm, req_true (stEq_refl rfl), evq_nm (by omega) hV (by omega), shC_num, wrap_i64 (by omega)]; rfl
    | succ m =>
      have hm1 := hlen i
      by_cases hin : q i ∈ ddL q i
      · have hdd := dd_in hin
        have hS1 : zzSf p (i + 1) = zzSf p i := by
          funext j
          rw [hSf, hSf]; unfold ddP; rw [hdd]
        rw [hdd, hl, hS1, decide_eq_true hin]
        refine ⟨zzB p (m + 1) (shF (zzSf p i)) ((i + 1 : Nat) : Int), ?_, stEq_refl rfl⟩
        refine (zz_r2 p m (zzSf p i) (q i) i).trans ?_
        rw [zzw_in (by omega) hi1 (by omega), hsm, req_true (stEq_refl rfl), wrap_i64 (by omega)]; rfl
      · have hl1 : (ddL q (i + 1)).length = m + 1 + 1 := by rw [dd_out hin, List.length_append, hl]; rfl
        have hnew := ddP_new hin
        rw [hl] at hnew
        rw [hl1, decide_eq_false hin]
        refine ⟨zzB p (m + 1 + 1) (appF (m + 1) (shF (zzSf p i)) (lstF (shL (q i, evN p.V p.n (q i))) 0 8)) ((i + 1 : Nat) : Int), ?_, stEq_mk rfl (mRow (app_row (ks := kN8) (fun j hj => by show nrmK kN8 (shL (zzSf p i j)) = nrmK kN8 (shL (zzSf p (i + 1) j)); rw [hSf, hSf, ddP_old hin (by omega)]) (by show nrmK kN8 (shL _) = nrmK kN8 (shL (zzSf p (i + 1) (m + 1))); rw [hSf, hnew])) (mSame rfl (mSame rfl mNil)))⟩
        refine (zz_r1 p m (zzSf p i) (q i) i).trans ?_
        rw [zzw_in (by omega) hi1 (by omega), hsm, req_true (stEq_refl rfl), evq_nm (by omega) hV (by omega), shC_num, apq_eq (by omega), wrap_i64 (by omega)]; rfl
  · simp only [if_neg (Nat.lt_irrefl N)]
    refine ⟨_, ?_, stEq_refl (by cases (ddL q N).length <;> rfl)⟩
    cases hl : (ddL q N).length with
    | zero =>
      refine (zz_o0 p N).trans ?_
      rw [hl] at hhi
      rw [zzw_out (by omega) hhi]; rfl
    | succ m =>
      refine (zz_o1 p m (zzSf p N) N).trans ?_
      rw [hl] at hhi
      rw [zzw_out (by omega) hhi]; rfl
/-! the last loop -/
def zzB2 : Nat := nid 33 0
def zdN : List Nat := [0, 12, 14]
def zdI : List Nat := [zzB2, 1500000]
def zdS (n : Nat) (V : Nat → Nat) (e0 : Nat) (D : Nat → Nat) (i : Int) : St := ⟨[(0, aSl 0 n), (12, .slice (some ⟨zzB2, 0, none⟩) n n), (14, i64 i)], [(zzB2, ⟨.row kN4 n (nmF D), 25, true⟩), (1500000, ⟨.row kN4 n (nmF V), e0, false⟩)], 61⟩
theorem zd_r (n : Nat) (V : Nat → Nat) (e0 : Nat) (D : Nat → Nat) (i : Nat) : roundS zzC0 60 [1, 1, 1, 1, 1, 1, 1, 1, 0, 1, 0, 0] (loopAt [1, 1, 1, 1, 1, 1, 1, 1, 0, 1, 0] (bodyOf Try.f4)) zdN zdI 61 zdN zdI 61 (zdS n V e0 D (i : Int)) =
    bif decide ((i : Int) < (n : Int)) then rdR i n (rdR i n (req (isNum (num (V (0 + i)))) (bif !(eqV (num (D (0 + i))) (num (redN 1 (unnum (num (V (0 + i))))))) then some (.ret, zdS n V e0 D (i : Int)) else some (.normal, zdS n V e0 D (IntKind.i64.wrap ((i : Int) + 1))))))
    else some (.exit 4, zdS n V e0 D (i : Int)) := by kernel_rfl
theorem zd_loop {n : Nat} {V : Nat → Nat} {e0 : Nat} {D : Nat → Nat} (hn : n ≤ 900) (hV : ∀ j, j < n → V j < 2 ^ 256) (he : ∀ j, j < n → D j = nRed (V j)) : LoopOk Try.prog 133 (loopAt [1, 1, 1, 1, 1, 1, 1, 1, 0, 1, 0] (bodyOf Try.f4)) (atSt zdN zdI 61 (zdS n V e0 D 0) (.exit 4) (zdS n V e0 D (n : Int))) := by
  refine loopE (fun _ => zzC0) n (fun _ _ => ⟨mixed, tabOk, zzS_ok, noL⟩) (fun _ => rfl) zz_at3 (m := 60) (nt := zdN) (ni := zdI) (et := zdN) (ei := zdI) (nx := 61) (ex := 61) (fun i => zdS n V e0 D (i : Int)) rfl (by intro h; cases h) ?_ ?_
  · intro i hi
    refine ⟨_, ?_, stEq_refl rfl⟩
    refine (zd_r n V e0 D i).trans ?_
    rw [decide_eq_true (by omega), cond_true, rdR_eq hi, rdR_eq hi, Nat.zero_add, isNum_num, req_true rfl, unnum_lt (hV i hi), ← nRed_def, he i hi, eqq, wrap_i64 (by omega)]; rfl
  · refine ⟨_, ?_, stEq_refl rfl⟩
    refine (zd_r n V e0 D n).trans ?_
    rw [decide_eq_false (by omega), cond_false]
/-! all of it -/
def kbt (n m : Nat) : Bool := (true && Nat.ble (0 + n) m) && (true && Nat.ble n n && true && Nat.ble n m)
noncomputable def thkt {α : Type} (n m : Nat) (g : Nat → List Value) (k : (Nat → Nat) → Option α) : Option α := req (kbt n m && okS n (sg8 m g) && (ckN (xA (sg8 m g)) n == 0)) (k (trhN (xA (sg8 m g)) (yA (sg8 m g)) n))
def zzF : Option Value := some (.bool false)
noncomputable def zzR (p : ZzP) (m : Nat) (S : Nat → Nat × Nat) (D : Nat → Nat) : Option Value :=
  bif decide (((m + 1 : Nat) : Int) < (p.n : Int)) then some (.bool true) else zeq (m + 1) (shF S) fun z e => req (ckQ (m + 1) p.n) (req (Nat.ble p.n (m + 1)) (thkt p.n (m + 1) (shF S) fun C =>
    bif e != 0 then zzF else rdR 0 p.n (req (isNum (num (p.V 0))) (bif !(eqV (num z) (num (redN 1 (unnum (num (p.V 0)))))) then zzF else bif (p.n : Int) != (p.n : Int) then zzF else req (stEq (zdS p.n p.V p.e0 C 0) (zdS p.n p.V p.e0 D 0)) (some (.bool true))))))
def zzT (n n1 : Nat) (k : Option Value) : Option Value := bif decide ((n : Int) < 1) then some (.bool true) else bif decide ((n : Int) > 6) then some (.bool true) else bif decide ((n1 : Int) > 10) then some (.bool true) else k
noncomputable def zzC (p : ZzP) (m : Nat) (S : Nat → Nat × Nat) (N : Nat) (D : Nat → Nat) : Cfg := ⟨tab, zzS, 133, [([1, 1, 1, 0, 1, 0], atSt zzN zzZ 16 (zzA p 0) (.exit 0) (zzB p (m + 1) (shF S) (N : Int))), ([1, 1, 1, 1, 1, 1, 1, 1, 0, 1, 0], atSt zdN zdI 61 (zdS p.n p.V p.e0 D 0) (.exit 4) (zdS p.n p.V p.e0 D (p.n : Int)))]⟩
theorem zz_ev (n : Nat) (V : Nat → Nat) (n1 : Nat) (Z : Nat → Int) (m : Nat) (S : Nat → Nat × Nat) (N : Nat) (D : Nat → Nat) (es : Nat → Nat) : fnA (zzC ⟨n, V, es 0, n1, Z, es 1⟩ m S N D) 200 Try.f4 (bodyOf Try.f4) (cArgs [.sl kN4 n (nmF V), .sl kI1 n1 (fun i => i1L (Z i))] 0) (cMem es [.sl kN4 n (nmF V), .sl kI1 n1 (fun i => i1L (Z i))] 0) 0 =
    zzT n n1 (req (stEq (zzA ⟨n, V, es 0, n1, Z, es 1⟩ 0) (zzA ⟨n, V, es 0, n1, Z, es 1⟩ 0)) (zzR ⟨n, V, es 0, n1, Z, es 1⟩ m S D)) := by kernel_rfl
noncomputable def zzS' : Sums := [(19, Wk6F)]
theorem zzS_ok' : SumsOk Try.prog zzS' := sums_cons wk6_sum sums_nil
noncomputable def zzC' (p : ZzP) (N : Nat) : Cfg := ⟨tab, zzS', 133, [([1, 1, 1, 0, 1, 0], atSt zzN zzZ 16 (zzA p 0) (.exit 0) (zzA p (N : Int))), ([1, 1, 1, 1, 1, 1, 1, 1, 0, 1, 0], fun _ => [])]⟩
theorem zz_ev' (n : Nat) (V : Nat → Nat) (n1 : Nat) (Z : Nat → Int) (N : Nat) (es : Nat → Nat) : fnA (zzC' ⟨n, V, es 0, n1, Z, es 1⟩ N) 200 Try.f4 (bodyOf Try.f4) (cArgs [.sl kN4 n (nmF V), .sl kI1 n1 (fun i => i1L (Z i))] 0) (cMem es [.sl kN4 n (nmF V), .sl kI1 n1 (fun i => i1L (Z i))] 0) 0 =
    zzT n n1 (req (stEq (zzA ⟨n, V, es 0, n1, Z, es 1⟩ 0) (zzA ⟨n, V, es 0, n1, Z, es 1⟩ 0)) (bif decide ((0 : Int) < (n : Int)) then some (.bool true) else none)) := by kernel_rfl
theorem zz_ev0 (n : Nat) (V : Nat → Nat) (n1 : Nat) (Z : Nat → Int) (es : Nat → Nat) : fnA ⟨tab, zzS', 133, [([1, 1, 1, 0, 1, 0], fun _ => [])]⟩ 200 Try.f4 (bodyOf Try.f4) (cArgs [.sl kN4 n (nmF V), .sl kI1 n1 (fun i => i1L (Z i))] 0) (cMem es [.sl kN4 n (nmF V), .sl kI1 n1 (fun i => i1L (Z i))] 0) 0 =
    zzT n n1 none := by kernel_rfl
theorem zzT_in {n n1 : Nat} (h : 0 < n ∧ n ≤ 6 ∧ n1 ≤ 10) (k : Option Value) : zzT n n1 k = k := by
  unfold zzT
  rw [decide_eq_false (by omega), decide_eq_false (by omega), decide_eq_false (by omega)]; rfl
theorem zzT_out {n n1 : Nat} (h : ¬ (0 < n ∧ n ≤ 6 ∧ n1 ≤ 10)) (k : Option Value) : zzT n n1 k = some (.bool true) := by
  unfold zzT
  by_cases h1 : n < 1
  · rw [decide_eq_true (by omega)]; rfl
  · by_cases h2 : n > 6
    · rw [decide_eq_false (by omega), decide_eq_true (by omega)]; rfl
    · rw [decide_eq_false (by omega), decide_eq_false (by omega), decide_eq_true (by omega)]; rfl
theorem thkt_eq {α : Type} {n m : Nat} {S : Nat → Nat × Nat} (hm : m ≤ 1000) (hnm : n ≤ m) (hS : ∀ j, j < m → (S j).1 < 2 ^ 256 ∧ (S j).2 < 2 ^ 256) (hc : ckN (sX S) n = 0) (k : (Nat → Nat) → Option α) : thkt n m (shF S) k = k (trhN (sX S) (sY S) n) := by
  obtain ⟨h1, h2, h3⟩ := row_xy (m := n) (g := shF S) (S := S) (by omega) (fun j hj => hS j (by omega)) (fun _ _ => rfl)
  have e : sg8 m (shF S) = sg8 n (shF S) := rfl
  unfold thkt
  rw [e, show kbt n m = true from by unfold kbt; rw [bE (by omega), bE (Nat.le_refl n), bE hnm]; rfl, h1, ckN_congr h2, hc, req_true (b := true && true && ((0 : Int) == 0)) rfl, trhN_congr (fun j hj => ⟨h2 j hj, h3 j hj⟩)]
theorem zz_true {p : ZzP} {N m : Nat} (h : 0 < p.n ∧ p.n ≤ 6) (hN : N ≤ 10) (hV : ∀ j, p.V j < 2 ^ 256) (hl : (ddL (fun i => qN 50 (p.Z i)) N).length = m + 1) : zzR p m (zzSf p N) (fun j => nRed (p.V j)) = some (.bool true) := by
  unfold zzR
  by_cases hlt : m + 1 < p.n
  · rw [decide_eq_true (by omega), cond_true]
  · have hln := dd_len (fun i => qN 50 (p.Z i)) N
    have hP : ∀ j, j < m + 1 → sX (zzSf p N) j ≤ 50 := fun j hj => dd_all (p := fun x => x ≤ 50) (fun i => (qI_eq (M := 50) (z := p.Z i) (by decide) (by decide)).2.2) N _ (ddP_mem (by omega))
    have hS : ∀ j, j < m + 1 → (zzSf p N j).1 < 2 ^ 256 ∧ (zzSf p N j).2 < 2 ^ 256 := fun j hj => ⟨by have := hP j hj; unfold sX at this; omega, evN_l _ _ _⟩
    have hu : ∀ n, n ≤ m + 1 → Unlike (sX (zzSf p N)) n := fun n hn => unlike_small (fun j hj => by have := hP j (by omega); omega) (fun i j hij hj => ddP_ne hij (by omega))
    obtain ⟨e1, a1⟩ := ze_poly (X := sX (zzSf p N)) (Y := sY (zzSf p N)) (V := p.V) (n := p.n) (m := m + 1) (by omega) (by omega) (hu _ (Nat.le_refl _)) (by omega) (fun j _ => rfl)
    have hz : zeN (sX (zzSf p N)) (sY (zzSf p N)) (m + 1) = nRed (p.V 0) := by
      refine cg_eq (zeN_p _ _ _) (nRed_p _) (cg_trans a1 (cg_trans (cg_of ?_) (cg_symm (cRed _))))
      rw [pEv_zero_at]
      obtain ⟨k, hk⟩ : ∃ k, p.n = k + 1 := ⟨p.n - 1, by omega⟩
      rw [hk]; rfl
    have hc := ckN_ok (X := sX (zzSf p N)) (n := p.n) (by omega) (by omega) (of_unlike (hu p.n (by omega)))
    have hC : ∀ k, k < p.n → trhN (sX (zzSf p N)) (sY (zzSf p N)) p.n k = nRed (p.V k) := fun k hk => by
      refine cg_eq (trhN_p _ _ _ _) (nRed_p _) (cg_trans (th_only (hu p.n (by omega)) (U := trhN (sX (zzSf p N)) (sY (zzSf p N)) p.n) (D := p.V) (fun j hj => ?_) k hk) (cg_symm (cRed _)))
      exact cg_trans (Go.W.th_at (hu p.n (by omega)) (sY (zzSf p N)) hj) (ev_cg p.V p.n (sX (zzSf p N) j))
    rw [decide_eq_false (by omega), cond_false, zeq_eq (by omega) hS (fun _ _ => rfl), ckQ_true (by omega), req_true rfl, bE (by omega), req_true rfl, thkt_eq (by omega) (by omega) hS hc, e1, show ((0 : Int) != 0) = false from rfl, cond_false, rdR_eq h.1, isNum_num, req_true rfl, unnum_lt (hV 0), ← nRed_def, hz, eqq, Bool.not_true, cond_false, bne_self_eq_false, cond_false]
    refine req_true (stEq_mk rfl (mRow (fun k hk => ?_) (mSame rfl mNil)))
    show nrmK kN4 (nmL _) = nrmK kN4 (nmL _)
    rw [hC k hk]
theorem zz_calls {W : World} {n : Nat} {V : Nat → Nat} {n1 : Nat} {Z : Nat → Int} {v0 v1 : Value} (hV : ∀ j, V j < 2 ^ 256) (h0 : SrcW W kN4 n (fun i => nmL (V i)) v0) (h1 : SrcW W kI1 n1 (fun i => i1L (Z i)) v1) :
    Calls Try.prog 4 #[v0, v1] W fun e w' => e = .returned (.bool true) ∧ Go.RowKit.Below W.heap.size W w' := by
  refine law_sound (c := bodyOf Try.f4) (args' := [v0, v1]) Try.func4 (by kernel_rfl) (A := [.sl kN4 n (nmF V), .sl kI1 n1 (fun i => i1L (Z i))]) ⟨h0, h1, trivial⟩ (GOk_nil _) (by show 2 ≤ Try.f4.ntmps; decide +kernel) rfl (by intro vs h; cases h) (fuel := 200) (next := 0) fun es => ?_
  by_cases h : 0 < n ∧ n ≤ 6 ∧ n1 ≤ 10
  · obtain ⟨N, hN, hhi, hlo⟩ := first_bad (P := fun i => ¬ (i < n1 ∧ (ddL (fun i => qN 50 (Z i)) i).length < n + 2)) (n := n1 + 1) ⟨n1, by omega, by omega⟩
    have hlo : ∀ i, i < N → i < n1 ∧ (ddL (fun i => qN 50 (Z i)) i).length < n + 2 := fun i hi => Classical.byContradiction fun hc => hlo i hi hc
    have hL := zz_loop (p := ⟨n, V, es 0, n1, Z, es 1⟩) (N := N) (by show n ≤ 100; omega) (by show n1 ≤ 100; omega) (fun j _ => hV j) hlo hhi
    cases hl : (ddL (fun i => qN 50 (Z i)) N).length with
    | zero =>
      rw [hl] at hL
      refine ⟨zzC' ⟨n, V, es 0, n1, Z, es 1⟩ N, ⟨mixed, tabOk, zzS_ok', consL hL noneL2⟩, rfl, ?_⟩
      refine (zz_ev' n V n1 Z N es).trans ?_
      rw [zzT_in h, req_true (stEq_refl rfl), decide_eq_true (by omega), cond_true]
    | succ m =>
      rw [hl] at hL
      refine ⟨zzC ⟨n, V, es 0, n1, Z, es 1⟩ m (zzSf ⟨n, V, es 0, n1, Z, es 1⟩ N) N (fun j => nRed (V j)), ⟨mixed, tabOk, zzS_ok, consL hL (oneL (zd_loop (by show n ≤ 900; omega) (fun j _ => hV j) (fun j _ => rfl)))⟩, rfl, ?_⟩
      refine (zz_ev n V n1 Z m _ N _ es).trans ?_
      rw [zzT_in h, req_true (stEq_refl rfl)]
      exact zz_true (p := ⟨n, V, es 0, n1, Z, es 1⟩) ⟨h.1, h.2.1⟩ (by omega) hV hl
  · refine ⟨⟨tab, zzS', 133, [([1, 1, 1, 0, 1, 0], fun _ => [])]⟩, ⟨mixed, tabOk, zzS_ok', noneL2⟩, rfl, ?_⟩
    exact (zz_ev0 n V n1 Z es).trans (zzT_out h _)
end Go.Proofs.Ytpkoldooncpggaa
