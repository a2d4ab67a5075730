/-
  Several texts in one.
-/
import Derived.Test.YtdcgjjhngnkbmaaDoorSd
import Derived.Test.YtdcgjjhngnkbmaaDoorSg
import Derived.Test.YtdcgjjhngnkbmaaDoorEj
import Derived.Test.YtdcgjjhngnkbmaaDoorEi
/-
  Package pair.
-/
namespace Go.Proofs.YtdcgjjhngnkbmaaDoor
set_option maxRecDepth 100000
open Go.W

noncomputable def keyC : Cfg := ⟨tab, [(14, CTimF)], 11, []⟩
theorem keyOk : CfgOk Tryd.prog keyC (bodyOf Tryd.f5) := ⟨mixed, tabOk, sums_cons cTi_sum sums_nil, noL⟩
theorem key_ev (n : Nat) (p : RP) : fnS keyC 60 Tryd.f5 (bodyOf Tryd.f5) [num n, ptV p] = qTim (num n) (ptV p) fun k e => some (.tuple #[k, i64 e]) := by kernel_rfl
theorem key_sum : Sum Tryd.prog 5 CTimF := by
  refine sum_of keyOk Tryd.func5 (by kernel_rfl) (by kernel_rfl) rfl (fuel := 60) fun args v h hpl => ?_
  unfold CTimF at h
  split at h
  · simp only [Option.some.injEq, Prod.mk.injEq, Bool.and_eq_true] at h
    obtain ⟨⟨h0, h1⟩, rfl⟩ := h
    obtain ⟨n, hn, rfl⟩ := isNum_some h0
    obtain ⟨p, hp, rfl⟩ := isPt_some h1
    refine ⟨by show 2 ≤ Tryd.f5.ntmps; decide +kernel, (key_ev n p).trans ?_, rfl⟩
    rw [qTim_pt hn hp, unnum_lt hn, unPt_ptV hp]; rfl
  · simp at h
def isnC : Cfg := ⟨tab, [], 9, []⟩
theorem isnOk : CfgOk Tryd.prog isnC (bodyOf Tryd.f29) := ⟨mixed, tabOk, sums_nil, noL⟩
theorem isn_ev (a : Int) : fnS isnC 60 Tryd.f29 (bodyOf Tryd.f29) [i64 a] = bif decide (1 ≤ a) then some (.bool (decide (a ≤ 8))) else some (.bool false) := by kernel_rfl
theorem isn_sum : Sum Tryd.prog 29 IsnF := by
  refine sum_of isnOk Tryd.func29 (by kernel_rfl) (by kernel_rfl) rfl (fuel := 60) fun args v h hpl => ?_
  unfold IsnF at h
  split at h
  · rename_i a
    simp only [Option.some.injEq, Prod.mk.injEq, true_and] at h
    subst h
    refine ⟨by show 1 ≤ Tryd.f29.ntmps; decide +kernel, (isn_ev a).trans ?_, rfl⟩
    unfold numB
    cases decide (1 ≤ a) <;> rfl
  · simp at h
noncomputable def mskS : Sums := [(29, IsnF), (11, CBytF 5), (12, StmF 5)]
theorem mskS_ok : SumsOk Tryd.prog mskS := sums_cons isn_sum (sums_consM cby_msum (sums_consM st_msum sums_nil))
noncomputable def mskC : Cfg := ⟨tab, mskS, 44, []⟩
theorem mskOk : CfgOk Tryd.prog mskC (bodyOf Tryd.f17) := ⟨mixed, tabOk, mskS_ok, noL⟩
theorem msk_ev (i : Bool) (X Y : Nat) (a b : Int) : fnS mskC 60 Tryd.f17 (bodyOf Tryd.f17) [ptV (i, X, Y), i64 a, i64 b] =
    bif !(numB a) then some (.tuple #[bytesV 0, i64 1]) else bif !(numB b) then some (.tuple #[bytesV 0, i64 1]) else
    bif isPt (ptV (i, X, Y)) && !(ckR (unPt (ptV (i, X, Y)))) then some (.tuple #[bytesV 0, i64 3]) else
    bif isPt (ptV (i, X, Y)) && (unPt (ptV (i, X, Y))).1 then some (.tuple #[rw32 (smF (whF 3 (kzF 1 (lstF [.int .u8 0] 0 1) a b)) 32), i64 0])
    else req (isPt (ptV (i, X, Y))) (some (.tuple #[rw32 (smF (whF 35 (kzF 33 (pbF (hdY (unPt (ptV (i, X, Y))).2.2) (bytesL 32 (unPt (ptV (i, X, Y))).2.1)) a b)) 32), i64 0])) := by kernel_rfl
theorem msk_sum : Sum Tryd.prog 17 MskF := by
  refine sum_of mskOk Tryd.func17 (by kernel_rfl) (by kernel_rfl) rfl (fuel := 60) fun args v h hpl => ?_
  unfold MskF at h
  split at h
  · rename_i p a b
    simp only [Option.some.injEq, Prod.mk.injEq] at h
    obtain ⟨h0, rfl⟩ := h
    obtain ⟨⟨i, X, Y⟩, hr, rfl⟩ := isPt_some h0
    refine ⟨by show 3 ≤ Tryd.f17.ntmps; decide +kernel, (msk_ev i X Y a b).trans ?_, rfl⟩
    rw [isPt_ptV, unPt_ptV hr]
    cases ha : numB a with
    | false =>
      have e : pE (i, X, Y) a b = 1 := by unfold pE; rw [ha]; rfl
      rw [mkV_no (by rw [e]; decide), e]; rfl
    | true =>
    cases hb : numB b with
    | false =>
      have e : pE (i, X, Y) a b = 1 := by unfold pE; rw [ha, hb]; rfl
      rw [mkV_no (by rw [e]; decide), e]; rfl
    | true =>
    have e : pE (i, X, Y) a b = errP (ckR (i, X, Y)) := by unfold pE; rw [ha, hb]; rfl
    cases hc : ckR (i, X, Y) with
    | false =>
      rw [hc] at e
      rw [mkV_no (by rw [e]; decide), e]; rfl
    | true =>
    rw [hc] at e
    have e : pE (i, X, Y) a b = 0 := e
    rw [mkV_ok e, e, ← rw32_eq]
    cases i with
    | true => show some _ = some _; rfl
    | false => show some _ = some _; rfl
  · simp at h
def xorC0 : Cfg := ⟨tab, [], 19, []⟩
theorem xor_at : codeAt [1, 0, 1, 0] (bodyOf Tryd.f18) = some (.loop (loopAt [1, 0, 1, 0] (bodyOf Tryd.f18))) := by kernel_rfl
def xorN : List Nat := [2, 3, 4, 6]
def xorI : List Nat := [0, 1, 2]
def xorB (b c : Nat → Int) (k : Nat) : Nat → Int := fun j => bif Nat.blt j k then xB (b j) (c j) else b j
def xorSt (b c : Nat → Int) (k : Nat) : St :=
  ⟨[(2, ptr 0), (3, ptr 1), (4, ptr 2), (6, i64 (k : Nat))], [(0, ⟨.lst (bLn b 0 32), 25, true⟩), (1, ⟨.lst (bLn c 0 32), 25, true⟩), (2, ⟨.lst (bLn (fun _ => 0) 0 32), 25, true⟩)], 4⟩
theorem xor_r (b c : Nat → Int) : ∀ k, k < 32 → roundS xorC0 60 [1, 0, 1, 0, 0] (loopAt [1, 0, 1, 0] (bodyOf Tryd.f18)) xorN xorI 4 xorN xorI 4 (xorSt (xorB b c k) c k) = some (.normal, xorSt (xorB b c (k + 1)) c (k + 1))
  | 0, _ => by kernel_rfl
  | 1, _ => by kernel_rfl
  | 2, _ => by kernel_rfl
  | 3, _ => by kernel_rfl
  | 4, _ => by kernel_rfl
  | 5, _ => by kernel_rfl
  | 6, _ => by kernel_rfl
  | 7, _ => by kernel_rfl
  | 8, _ => by kernel_rfl
  | 9, _ => by kernel_rfl
  | 10, _ => by kernel_rfl
  | 11, _ => by kernel_rfl
  | 12, _ => by kernel_rfl
  | 13, _ => by kernel_rfl
  | 14, _ => by kernel_rfl
  | 15, _ => by kernel_rfl
  | 16, _ => by kernel_rfl
  | 17, _ => by kernel_rfl
  | 18, _ => by kernel_rfl
  | 19, _ => by kernel_rfl
  | 20, _ => by kernel_rfl
  | 21, _ => by kernel_rfl
  | 22, _ => by kernel_rfl
  | 23, _ => by kernel_rfl
  | 24, _ => by kernel_rfl
  | 25, _ => by kernel_rfl
  | 26, _ => by kernel_rfl
  | 27, _ => by kernel_rfl
  | 28, _ => by kernel_rfl
  | 29, _ => by kernel_rfl
  | 30, _ => by kernel_rfl
  | 31, _ => by kernel_rfl
  | n + 32, h => absurd h (by omega)
theorem xor_o (b c : Nat → Int) : roundS xorC0 60 [1, 0, 1, 0, 0] (loopAt [1, 0, 1, 0] (bodyOf Tryd.f18)) xorN xorI 4 xorN xorI 4 (xorSt b c 32) = some (.exit 0, xorSt b c 32) := by kernel_rfl
theorem xor_vok (b c : Nat → Int) (k : Nat) : stEq (xorSt b c k) (xorSt b c k) = true := stEq_refl rfl
theorem xor_loop {b c : Nat → Int} : LoopOk Tryd.prog 19 (loopAt [1, 0, 1, 0] (bodyOf Tryd.f18)) (atSt xorN xorI 4 (xorSt (xorB b c 0) c 0) (.exit 0) (xorSt (xorB b c 32) c 32)) := by
  refine loopE (fun _ => xorC0) 32 (fun _ _ => ⟨mixed, tabOk, sums_nil, noL⟩) (fun _ => rfl) xor_at (m := 60) (nt := xorN) (ni := xorI) (et := xorN) (ei := xorI) (nx := 4) (ex := 4) (fun k => xorSt (xorB b c k) c k) rfl (by intro h; cases h) ?_ ?_
  · intro k hk
    exact ⟨_, xor_r b c k hk, xor_vok _ c (k + 1)⟩
  · exact ⟨_, xor_o _ c, xor_vok _ c 32⟩
noncomputable def xorC (b c : Nat → Int) : Cfg := ⟨tab, [], 19, [([1, 0, 1, 0], atSt xorN xorI 4 (xorSt (xorB b c 0) c 0) (.exit 0) (xorSt (xorB b c 32) c 32))]⟩
theorem xor_ev (b c : Nat → Int) : fnS (xorC b c) 60 Tryd.f18 (bodyOf Tryd.f18) [.agg (bLn b 0 32).toArray, .agg (bLn c 0 32).toArray] =
    req (stEq (xorSt (xorB b c 0) c 0) (xorSt (xorB b c 0) c 0)) (some (xoV b c)) := by kernel_rfl
theorem xor_sum : Sum Tryd.prog 18 XorF := by
  intro args v h
  unfold XorF at h
  split at h
  · rename_i x y
    simp only [Option.some.injEq, Prod.mk.injEq, Bool.and_eq_true] at h
    obtain ⟨⟨h0, h1⟩, rfl⟩ := h
    obtain ⟨X, hX, rfl, eX⟩ := isB32_some h0
    obtain ⟨Y, hY, rfl, eY⟩ := isB32_some h1
    rw [eX, eY]
    have hOk : CfgOk Tryd.prog (xorC (byN X) (byN Y)) (bodyOf Tryd.f18) := ⟨mixed, tabOk, sums_nil, oneL xor_loop⟩
    refine sum_at hOk Tryd.func18 (by kernel_rfl) (by kernel_rfl) rfl (fuel := 60) (by show 2 ≤ Tryd.f18.ntmps; decide +kernel) ?_ rfl
    rw [bytes_bLn, bytes_bLn]
    refine (xor_ev _ _).trans ?_
    rw [req_true (xor_vok _ _ 0)]
  · simp at h
noncomputable def selC : Cfg := ⟨tab, [(17, MskF), (13, BytesF), (18, XorF)], 27, []⟩
theorem selOk : CfgOk Tryd.prog selC (bodyOf Tryd.f8) := ⟨mixed, tabOk, sums_cons msk_sum (sums_cons Bytes_sum (sums_cons xor_sum sums_nil)), noL⟩
theorem sel_ev (p : RP) (a b : Int) (X : Nat) : fnS selC 60 Tryd.f8 (bodyOf Tryd.f8) [ptV p, i64 a, i64 b, num X] =
    req (isPt (ptV p)) (bif pE (unPt (ptV p)) a b != 0 then some (.tuple #[bytesV 0, i64 (pE (unPt (ptV p)) a b)]) else
      req (isNum (num X)) (req (isB32 (bytesV (unnum (num X))) && isB32 (mkV (unPt (ptV p)) a b)) (some (.tuple #[xoV (byN (unbytes (bytesV (unnum (num X))))) (byN (unbytes (mkV (unPt (ptV p)) a b))), i64 0])))) := by kernel_rfl
theorem sel_sum : Sum Tryd.prog 8 SelF := by
  refine sum_of selOk Tryd.func8 (by kernel_rfl) (by kernel_rfl) rfl (fuel := 60) fun args v h hpl => ?_
  unfold SelF at h
  split at h
  · rename_i p a b x
    simp only [Option.some.injEq, Prod.mk.injEq, Bool.and_eq_true] at h
    obtain ⟨⟨h0, h1⟩, rfl⟩ := h
    obtain ⟨r, hr, rfl⟩ := isPt_some h0
    obtain ⟨X, hX, rfl⟩ := isNum_some h1
    refine ⟨by show 4 ≤ Tryd.f8.ntmps; decide +kernel, (sel_ev r a b X).trans ?_, rfl⟩
    rw [isPt_ptV, isNum_num, req_true rfl, unPt_ptV hr, unnum_lt hX, isB32_bytesV, mkV_b32, req_true rfl, req_true (b := true && true) rfl]
    by_cases h : pE r a b = 0
    · rw [slV_ok h, h, unbytes_bytesV, Nat.mod_eq_of_lt hX, tuV_xo, xoV_congr (fun _ _ => rfl) (fun j hj => mkV_by h hj)]; rfl
    · rw [slV_no h, bne_iff_ne.2 h]; rfl
  · simp at h
noncomputable def opnC : Cfg := ⟨tab, [(17, MskF), (19, OfF), (18, XorF)], 27, []⟩
theorem opnOk : CfgOk Tryd.prog opnC (bodyOf Tryd.f9) := ⟨mixed, tabOk, sums_cons msk_sum (sums_cons Of_sum (sums_cons xor_sum sums_nil)), noL⟩
theorem opn_ev (p : RP) (a b : Int) (X : Nat) : fnS opnC 60 Tryd.f9 (bodyOf Tryd.f9) [ptV p, i64 a, i64 b, bytesV X] =
    req (isPt (ptV p)) (bif pE (unPt (ptV p)) a b != 0 then some (.tuple #[num 0, i64 (pE (unPt (ptV p)) a b)]) else
      req (isB32 (bytesV X) && isB32 (mkV (unPt (ptV p)) a b)) (req (isB32 (xoV (byN (unbytes (bytesV X))) (byN (unbytes (mkV (unPt (ptV p)) a b)))))
        (some (.tuple #[num (unbytes (xoV (byN (unbytes (bytesV X))) (byN (unbytes (mkV (unPt (ptV p)) a b))))), i64 0])))) := by kernel_rfl
theorem opn_sum : Sum Tryd.prog 9 OpnF := by
  refine sum_of opnOk Tryd.func9 (by kernel_rfl) (by kernel_rfl) rfl (fuel := 60) fun args v h hpl => ?_
  unfold OpnF at h
  split at h
  · rename_i p a b x
    simp only [Option.some.injEq, Prod.mk.injEq, Bool.and_eq_true] at h
    obtain ⟨⟨h0, h1⟩, rfl⟩ := h
    obtain ⟨r, hr, rfl⟩ := isPt_some h0
    obtain ⟨X, hX, rfl, eX⟩ := isB32_some h1
    refine ⟨by show 4 ≤ Tryd.f9.ntmps; decide +kernel, (opn_ev r a b X).trans ?_, rfl⟩
    rw [isPt_ptV, req_true rfl, unPt_ptV hr, isB32_bytesV, mkV_b32, req_true (b := true && true) rfl, xoV_b32, req_true rfl, eX]
    by_cases h : pE r a b = 0
    · rw [opN_ok h, h, tuV_xo, xoV_congr (fun _ _ => rfl) (fun j hj => mkV_by h hj)]; rfl
    · rw [opN_no h, bne_iff_ne.2 h]; rfl
  · simp at h
end Go.Proofs.YtdcgjjhngnkbmaaDoor

/-
  PairBack.
-/
namespace Go.Proofs.YtdcgjjhngnkbmaaDoor
set_option maxRecDepth 100000
open Go.W
open Go.RowKit (Below)

noncomputable def wk8C : Cfg := ⟨tab, [(6, CBasF), (8, SelF), (9, OpnF)], 36, []⟩
theorem wk8Ok : CfgOk Tryd.prog wk8C (bodyOf Tryd.f10) := ⟨mixed, tabOk, sums_cons cBa_sum (sums_cons sel_sum (sums_cons opn_sum sums_nil)), noL⟩
theorem wk8_ev : fnS wk8C 60 Tryd.f10 (bodyOf Tryd.f10) [] = wak8T := by kernel_rfl
theorem wk8_sum : Sum Tryd.prog 10 WkF := by
  refine sum_of wk8Ok Tryd.func10 (by kernel_rfl) (by kernel_rfl) rfl (fuel := 60) fun args v h _ => ?_
  unfold WkF at h
  split at h
  · simp only [Option.some.injEq, Prod.mk.injEq, true_and] at h
    subst h
    exact ⟨by show 0 ≤ Tryd.f10.ntmps; exact Nat.zero_le _, wk8_ev.trans wak8T_eq, rfl⟩
  · simp at h
noncomputable def pbkS : Sums := [(6, CBasF), (5, CTimF), (7, KpF), (8, SelF), (9, OpnF), (10, WkF)]
theorem pbkS_ok : SumsOk Tryd.prog pbkS := sums_cons cBa_sum (sums_cons key_sum (sums_cons kp_sum (sums_cons sel_sum (sums_cons opn_sum (sums_cons wk8_sum sums_nil)))))
noncomputable def pbkC : Cfg := ⟨tab, pbkS, 114, []⟩
theorem pbkOk : CfgOk Tryd.prog pbkC (bodyOf Tryd.f3) := ⟨mixed, tabOk, pbkS_ok, noL⟩
theorem pbk_ev (A B S : Nat) (f t : Int) (L : Nat) : fnS pbkC 60 Tryd.f3 (bodyOf Tryd.f3) [num A, num B, num S, i64 f, i64 t, bytesV L] = PBkT (num A) (num B) (num S) f t (bytesV L) := by kernel_rfl
theorem pbk_calls {A B S L : Nat} {f t : Int} (hA : lt6 A) (hB : lt6 B) (hS : lt6 S) (hL : lt6 L) {W : World} (hg : GOk (lay Tryd.prog) W) : Calls Tryd.prog 3 #[num A, num B, num S, i64 f, i64 t, bytesV L] W fun e W' => e = .returned (.bool true) ∧ Below W.heap.size W W' :=
  fn_sound pbkOk Tryd.func3 (by kernel_rfl) rfl (args := [num A, num B, num S, i64 f, i64 t, bytesV L]) (fuel := 60) (by show 6 ≤ Tryd.f3.ntmps; decide +kernel) (by kernel_rfl) ((pbk_ev A B S f t L).trans (PBkT_eq hA hB hS hL f t)) rfl W hg
end Go.Proofs.YtdcgjjhngnkbmaaDoor
