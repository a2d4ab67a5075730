/-
  Several texts in one.
-/
import Derived.Test.YtdcgjjhngnkbmaaGreatDoorSd
import Derived.Test.YtdcgjjhngnkbmaaGreatDoorSg
import Derived.Test.YtdcgjjhngnkbmaaGreatDoorEj
import Derived.Test.YtdcgjjhngnkbmaaGreatDoorEi
/-
  The document's seals.
-/
namespace Go.Proofs.YtdcgjjhngnkbmaaGreatDoor
set_option maxRecDepth 100000
open Go.W

noncomputable def rstS : Sums := [(44, RBytF 5), (45, RsF 5)]
theorem rstS_ok : SumsOk Tryz.prog rstS := sums_consM rby_msum (sums_consM rs_msum sums_nil)
noncomputable def rstC : Cfg := ⟨tab, rstS, 20, []⟩
theorem rstOk : CfgOk Tryz.prog rstC (bodyOf Tryz.f26) := ⟨mixed, tabOk, rstS_ok, noL⟩
theorem rst_ev (i : Bool) (X Y : Nat) (a b : Int) (es : Nat → Nat) (id : Nat) : fnMS rstC 60 Tryz.f26 (bodyOf Tryz.f26) (cArgs [.pl (ptV (i, X, Y)), .pl (i64 a), .pl (i64 b)] 0) (cMem es [.pl (ptV (i, X, Y)), .pl (i64 a), .pl (i64 b)] 0) 0 id =
    bif isPt (ptV (i, X, Y)) && (unPt (ptV (i, X, Y))).1 then some (.slice (some ⟨nid id 0, 0, none⟩) 32 32, [(nid id 0, ⟨.row kB 32 (rsF 3 (kyF 1 (lstF [.int .u8 0] 0 1) a b) 32), 5, true⟩)])
    else req (isPt (ptV (i, X, Y))) (some (.slice (some ⟨nid id 0, 0, none⟩) 32 32, [(nid id 0, ⟨.row kB 32 (rsF 35 (kyF 33 (pbF (hdY (unPt (ptV (i, X, Y))).2.2) (bytesL 32 (unPt (ptV (i, X, Y))).2.1)) a b) 32), 5, true⟩)])) := by kernel_rfl
theorem rst_msum : MSum Tryz.prog 26 (RstF 5) := by
  refine msum_of (fuel := 60) (next := 0) rstOk Tryz.func26 (by kernel_rfl) (by kernel_rfl) rfl fun vs mm id v l hpick hlt => ?_
  unfold RstF at hpick
  split at hpick
  · rename_i p a b
    obtain ⟨hc, rfl, rfl⟩ := pick_one hpick
    obtain ⟨r, hr, rfl⟩ := isPt_some hc
    obtain ⟨i, X, Y⟩ := r
    refine ⟨[.pl (ptV (i, X, Y)), .pl (i64 a), .pl (i64 b)], ⟨rfl, rfl, rfl, rfl, rfl, rfl, trivial⟩, by show 3 ≤ Tryz.f26.ntmps; decide +kernel, .inr ⟨_, rfl⟩, fun es => ?_⟩
    refine (rst_ev i X Y a b es id).trans ?_
    rw [unPt_ptV hr, isPt_ptV]
    cases i <;> rfl
  · simp [pickM] at hpick
noncomputable def seaS : Sums := [(25, BytesF), (26, RstF 5)]
theorem seaS_ok : SumsOk Tryz.prog seaS := sums_cons BytesR_sum (sums_consM rst_msum sums_nil)
def seaC0 : Cfg := ⟨tab, [], 32, []⟩
theorem sea_at : codeAt [1, 1, 1, 0, 1, 0] (bodyOf Tryz.f11) = some (.loop (loopAt [1, 1, 1, 0, 1, 0] (bodyOf Tryz.f11))) := by kernel_rfl
def seaN : List Nat := [8, 9, 10, 11]
def seaI : List Nat := [2, 5, nid 10 0]
def seaZ : List Value := bLn (fun _ => 0) 0 32
def seaSt (L : List Value) (g : Nat → List Value) (k : Nat) : St :=
  ⟨[(8, ptr 2), (9, ptr 5), (10, .slice (some ⟨nid 10 0, 0, none⟩) 32 32), (11, i64 (k : Nat))], [(2, ⟨.lst seaZ, 27, true⟩), (5, ⟨.lst L, 27, true⟩), (nid 10 0, ⟨.row kB 32 g, 5, true⟩)], 13⟩
theorem sea_r (b : Nat → Int) (g : Nat → List Value) : ∀ k, k < 32 → roundS seaC0 60 [1, 1, 1, 0, 1, 0, 0] (loopAt [1, 1, 1, 0, 1, 0] (bodyOf Tryz.f11)) seaN seaI 13 seaN seaI 13 (seaSt (bLn (tuB b g k) 0 32) g k) = some (.normal, seaSt (bLn (tuB b g (k + 1)) 0 32) g (k + 1))
  | 0, _ => by kernel_rfl
  | 1, _ => by kernel_rfl
  | 2, _ => by kernel_rfl
  | 3, _ => by kernel_rfl
  | 4, _ => by kernel_rfl
  | 5, _ => by kernel_rfl
  | 6, _ => by kernel_rfl
  | 7, _ => by kernel_rfl
  | 8, _ => by kernel_rfl
  | 9, _ => by kernel_rfl
  | 10, _ => by kernel_rfl
  | 11, _ => by kernel_rfl
  | 12, _ => by kernel_rfl
  | 13, _ => by kernel_rfl
  | 14, _ => by kernel_rfl
  | 15, _ => by kernel_rfl
  | 16, _ => by kernel_rfl
  | 17, _ => by kernel_rfl
  | 18, _ => by kernel_rfl
  | 19, _ => by kernel_rfl
  | 20, _ => by kernel_rfl
  | 21, _ => by kernel_rfl
  | 22, _ => by kernel_rfl
  | 23, _ => by kernel_rfl
  | 24, _ => by kernel_rfl
  | 25, _ => by kernel_rfl
  | 26, _ => by kernel_rfl
  | 27, _ => by kernel_rfl
  | 28, _ => by kernel_rfl
  | 29, _ => by kernel_rfl
  | 30, _ => by kernel_rfl
  | 31, _ => by kernel_rfl
  | n + 32, h => absurd h (by omega)
theorem sea_o (c : Nat → Int) (g : Nat → List Value) : roundS seaC0 60 [1, 1, 1, 0, 1, 0, 0] (loopAt [1, 1, 1, 0, 1, 0] (bodyOf Tryz.f11)) seaN seaI 13 seaN seaI 13 (seaSt (bLn c 0 32) g 32) = some (.exit 0, seaSt (bLn c 0 32) g 32) := by kernel_rfl
theorem sea_vok (c : Nat → Int) (g : Nat → List Value) (k : Nat) : stEq (seaSt (bLn c 0 32) g k) (seaSt (bLn c 0 32) g k) = true := stEq_refl rfl
theorem sea_loop {b : Nat → Int} {g : Nat → List Value} : LoopOk Tryz.prog 32 (loopAt [1, 1, 1, 0, 1, 0] (bodyOf Tryz.f11)) (atSt seaN seaI 13 (seaSt (bLn (tuB b g 0) 0 32) g 0) (.exit 0) (seaSt (bLn (tuB b g 32) 0 32) g 32)) := by
  refine loopE (fun _ => seaC0) 32 (fun _ _ => ⟨mixed, tabOk, sums_nil, noL⟩) (fun _ => rfl) sea_at (m := 60) (nt := seaN) (ni := seaI) (et := seaN) (ei := seaI) (nx := 13) (ex := 13) (fun k => seaSt (bLn (tuB b g k) 0 32) g k) rfl (by intro h; cases h) ?_ ?_
  · intro k hk
    exact ⟨_, sea_r b g k hk, sea_vok _ g (k + 1)⟩
  · exact ⟨_, sea_o _ g, sea_vok _ g 32⟩
noncomputable def seaC (b : Nat → Int) (g : Nat → List Value) : Cfg := ⟨tab, seaS, 32, [([1, 1, 1, 0, 1, 0], atSt seaN seaI 13 (seaSt (bLn (tuB b g 0) 0 32) g 0) (.exit 0) (seaSt (bLn (tuB b g 32) 0 32) g 32))]⟩
theorem sea_ev (p : RP) (a b : Int) (X : Nat) (bb : Nat → Int) (g : Nat → List Value) : fnS (seaC bb g) 60 Tryz.f11 (bodyOf Tryz.f11) [ptV p, i64 a, i64 b, num X] =
    req (isNum (num X)) (req (isPt (ptV p)) (req (stEq (seaSt (bytesL 32 (unnum (num X))) (kyS (unPt (ptV p)) a b) 0) (seaSt (bLn (tuB bb g 0) 0 32) g 0)) (some (tuV bb g)))) := by kernel_rfl
theorem by_eq (X : Nat) : bytesL 32 X = bLn (byN X) 0 32 := by kernel_rfl
theorem tuB_zero (b : Nat → Int) (g : Nat → List Value) : tuB b g 0 = b := by
  funext j
  unfold tuB
  rw [show Nat.blt j 0 = false from by rw [Bool.eq_false_iff, ne_eq, Nat.blt_eq]; omega, cond_false]
theorem sea_sum : Sum Tryz.prog 11 SeaRF := by
  intro args v h
  unfold SeaRF at h
  split at h
  · rename_i p a b x
    simp only [Option.some.injEq, Prod.mk.injEq, Bool.and_eq_true] at h
    obtain ⟨⟨h0, h1⟩, rfl⟩ := h
    obtain ⟨r, hr, rfl⟩ := isPt_some h0
    obtain ⟨X, hX, rfl⟩ := isNum_some h1
    rw [unPt_ptV hr, unnum_lt hX]
    have hOk : CfgOk Tryz.prog (seaC (byN X) (kyS r a b)) (bodyOf Tryz.f11) := ⟨mixed, tabOk, seaS_ok, oneL sea_loop⟩
    refine sum_at hOk Tryz.func11 (by kernel_rfl) (by kernel_rfl) rfl (fuel := 60) (by show 4 ≤ Tryz.f11.ntmps; decide +kernel) ?_ (by kernel_rfl)
    refine (sea_ev r a b X _ _).trans ?_
    rw [isNum_num, req_true rfl, isPt_ptV, req_true rfl, unnum_lt hX, unPt_ptV hr, tuB_zero, by_eq, req_true (sea_vok _ _ 0)]
  · simp at h
noncomputable def opeC : Cfg := ⟨tab, [(27, OfF), (11, SeaRF)], 16, []⟩
theorem opeOk : CfgOk Tryz.prog opeC (bodyOf Tryz.f12) := ⟨mixed, tabOk, sums_cons OfR_sum (sums_cons sea_sum sums_nil), noL⟩
theorem ope_ev (p : RP) (a b : Int) (X : Nat) : fnS opeC 60 Tryz.f12 (bodyOf Tryz.f12) [ptV p, i64 a, i64 b, bytesV X] =
    req (isB32 (bytesV X)) (req (isPt (ptV p) && isNum (num (unbytes (bytesV X)))) (req (isB32 (tuV (byN (unnum (num (unbytes (bytesV X))))) (kyS (unPt (ptV p)) a b))) (some (num (unbytes (tuV (byN (unnum (num (unbytes (bytesV X))))) (kyS (unPt (ptV p)) a b))))))) := by kernel_rfl
theorem ope_sum : Sum Tryz.prog 12 OpeRF := by
  refine sum_of opeOk Tryz.func12 (by kernel_rfl) (by kernel_rfl) rfl (fuel := 60) fun args v h _ => ?_
  unfold OpeRF at h
  split at h
  · rename_i p a b x
    simp only [Option.some.injEq, Prod.mk.injEq, Bool.and_eq_true] at h
    obtain ⟨⟨h0, h1⟩, rfl⟩ := h
    obtain ⟨r, hr, rfl⟩ := isPt_some h0
    obtain ⟨X, hX, rfl, h2⟩ := isB32_some h1
    refine ⟨by show 4 ≤ Tryz.f12.ntmps; decide +kernel, (ope_ev r _ _ X).trans ?_, by kernel_rfl⟩
    rw [isB32_bytesV, req_true rfl, isPt_ptV, isNum_num, req_true (b := true && true) rfl, h2, unnum_lt hX, unPt_ptV hr, tuV_b32, req_true rfl]
  · simp at h
end Go.Proofs.YtdcgjjhngnkbmaaGreatDoor

/-
  Package pair.
-/
namespace Go.Proofs.YtdcgjjhngnkbmaaGreatDoor
set_option maxRecDepth 100000
open Go.W

noncomputable def keyC : Cfg := ⟨tab, [(13, CTimF)], 11, []⟩
theorem keyOk : CfgOk Tryz.prog keyC (bodyOf Tryz.f4) := ⟨mixed, tabOk, sums_cons cTi_sum sums_nil, noL⟩
theorem key_ev (n : Nat) (p : RP) : fnS keyC 60 Tryz.f4 (bodyOf Tryz.f4) [num n, ptV p] = qTim (num n) (ptV p) fun k e => some (.tuple #[k, i64 e]) := by kernel_rfl
theorem key_sum : Sum Tryz.prog 4 CTimF := by
  refine sum_of keyOk Tryz.func4 (by kernel_rfl) (by kernel_rfl) rfl (fuel := 60) fun args v h hpl => ?_
  unfold CTimF at h
  split at h
  · simp only [Option.some.injEq, Prod.mk.injEq, Bool.and_eq_true] at h
    obtain ⟨⟨h0, h1⟩, rfl⟩ := h
    obtain ⟨n, hn, rfl⟩ := isNum_some h0
    obtain ⟨p, hp, rfl⟩ := isPt_some h1
    refine ⟨by show 2 ≤ Tryz.f4.ntmps; decide +kernel, (key_ev n p).trans ?_, rfl⟩
    rw [qTim_pt hn hp, unnum_lt hn, unPt_ptV hp]; rfl
  · simp at h
def isnC : Cfg := ⟨tab, [], 9, []⟩
theorem isnOk : CfgOk Tryz.prog isnC (bodyOf Tryz.f40) := ⟨mixed, tabOk, sums_nil, noL⟩
theorem isn_ev (a : Int) : fnS isnC 60 Tryz.f40 (bodyOf Tryz.f40) [i64 a] = bif decide (1 ≤ a) then some (.bool (decide (a ≤ 8))) else some (.bool false) := by kernel_rfl
theorem isn_sum : Sum Tryz.prog 40 IsnF := by
  refine sum_of isnOk Tryz.func40 (by kernel_rfl) (by kernel_rfl) rfl (fuel := 60) fun args v h hpl => ?_
  unfold IsnF at h
  split at h
  · rename_i a
    simp only [Option.some.injEq, Prod.mk.injEq, true_and] at h
    subst h
    refine ⟨by show 1 ≤ Tryz.f40.ntmps; decide +kernel, (isn_ev a).trans ?_, rfl⟩
    unfold numB
    cases decide (1 ≤ a) <;> rfl
  · simp at h
noncomputable def mskS : Sums := [(40, IsnF), (41, CBytF 5), (42, StmF 5)]
theorem mskS_ok : SumsOk Tryz.prog mskS := sums_cons isn_sum (sums_consM cby_msum (sums_consM st_msum sums_nil))
noncomputable def mskC : Cfg := ⟨tab, mskS, 44, []⟩
theorem mskOk : CfgOk Tryz.prog mskC (bodyOf Tryz.f20) := ⟨mixed, tabOk, mskS_ok, noL⟩
theorem msk_ev (i : Bool) (X Y : Nat) (a b : Int) : fnS mskC 60 Tryz.f20 (bodyOf Tryz.f20) [ptV (i, X, Y), i64 a, i64 b] =
    bif !(numB a) then some (.tuple #[bytesV 0, i64 1]) else bif !(numB b) then some (.tuple #[bytesV 0, i64 1]) else
    bif isPt (ptV (i, X, Y)) && !(ckR (unPt (ptV (i, X, Y)))) then some (.tuple #[bytesV 0, i64 3]) else
    bif isPt (ptV (i, X, Y)) && (unPt (ptV (i, X, Y))).1 then some (.tuple #[rw32 (smF (whF 3 (kzF 1 (lstF [.int .u8 0] 0 1) a b)) 32), i64 0])
    else req (isPt (ptV (i, X, Y))) (some (.tuple #[rw32 (smF (whF 35 (kzF 33 (pbF (hdY (unPt (ptV (i, X, Y))).2.2) (bytesL 32 (unPt (ptV (i, X, Y))).2.1)) a b)) 32), i64 0])) := by kernel_rfl
theorem msk_sum : Sum Tryz.prog 20 MskF := by
  refine sum_of mskOk Tryz.func20 (by kernel_rfl) (by kernel_rfl) rfl (fuel := 60) fun args v h hpl => ?_
  unfold MskF at h
  split at h
  · rename_i p a b
    simp only [Option.some.injEq, Prod.mk.injEq] at h
    obtain ⟨h0, rfl⟩ := h
    obtain ⟨⟨i, X, Y⟩, hr, rfl⟩ := isPt_some h0
    refine ⟨by show 3 ≤ Tryz.f20.ntmps; decide +kernel, (msk_ev i X Y a b).trans ?_, rfl⟩
    rw [isPt_ptV, unPt_ptV hr]
    cases ha : numB a with
    | false =>
      have e : pE (i, X, Y) a b = 1 := by unfold pE; rw [ha]; rfl
      rw [mkV_no (by rw [e]; decide), e]; rfl
    | true =>
    cases hb : numB b with
    | false =>
      have e : pE (i, X, Y) a b = 1 := by unfold pE; rw [ha, hb]; rfl
      rw [mkV_no (by rw [e]; decide), e]; rfl
    | true =>
    have e : pE (i, X, Y) a b = errP (ckR (i, X, Y)) := by unfold pE; rw [ha, hb]; rfl
    cases hc : ckR (i, X, Y) with
    | false =>
      rw [hc] at e
      rw [mkV_no (by rw [e]; decide), e]; rfl
    | true =>
    rw [hc] at e
    have e : pE (i, X, Y) a b = 0 := e
    rw [mkV_ok e, e, ← rw32_eq]
    cases i with
    | true => show some _ = some _; rfl
    | false => show some _ = some _; rfl
  · simp at h
def xorC0 : Cfg := ⟨tab, [], 19, []⟩
theorem xor_at : codeAt [1, 0, 1, 0] (bodyOf Tryz.f21) = some (.loop (loopAt [1, 0, 1, 0] (bodyOf Tryz.f21))) := by kernel_rfl
def xorN : List Nat := [2, 3, 4, 6]
def xorI : List Nat := [0, 1, 2]
def xorB (b c : Nat → Int) (k : Nat) : Nat → Int := fun j => bif Nat.blt j k then xB (b j) (c j) else b j
def xorSt (b c : Nat → Int) (k : Nat) : St :=
  ⟨[(2, ptr 0), (3, ptr 1), (4, ptr 2), (6, i64 (k : Nat))], [(0, ⟨.lst (bLn b 0 32), 27, true⟩), (1, ⟨.lst (bLn c 0 32), 27, true⟩), (2, ⟨.lst (bLn (fun _ => 0) 0 32), 27, true⟩)], 4⟩
theorem xor_r (b c : Nat → Int) : ∀ k, k < 32 → roundS xorC0 60 [1, 0, 1, 0, 0] (loopAt [1, 0, 1, 0] (bodyOf Tryz.f21)) xorN xorI 4 xorN xorI 4 (xorSt (xorB b c k) c k) = some (.normal, xorSt (xorB b c (k + 1)) c (k + 1))
  | 0, _ => by kernel_rfl
  | 1, _ => by kernel_rfl
  | 2, _ => by kernel_rfl
  | 3, _ => by kernel_rfl
  | 4, _ => by kernel_rfl
  | 5, _ => by kernel_rfl
  | 6, _ => by kernel_rfl
  | 7, _ => by kernel_rfl
  | 8, _ => by kernel_rfl
  | 9, _ => by kernel_rfl
  | 10, _ => by kernel_rfl
  | 11, _ => by kernel_rfl
  | 12, _ => by kernel_rfl
  | 13, _ => by kernel_rfl
  | 14, _ => by kernel_rfl
  | 15, _ => by kernel_rfl
  | 16, _ => by kernel_rfl
  | 17, _ => by kernel_rfl
  | 18, _ => by kernel_rfl
  | 19, _ => by kernel_rfl
  | 20, _ => by kernel_rfl
  | 21, _ => by kernel_rfl
  | 22, _ => by kernel_rfl
  | 23, _ => by kernel_rfl
  | 24, _ => by kernel_rfl
  | 25, _ => by kernel_rfl
  | 26, _ => by kernel_rfl
  | 27, _ => by kernel_rfl
  | 28, _ => by kernel_rfl
  | 29, _ => by kernel_rfl
  | 30, _ => by kernel_rfl
  | 31, _ => by kernel_rfl
  | n + 32, h => absurd h (by omega)
theorem xor_o (b c : Nat → Int) : roundS xorC0 60 [1, 0, 1, 0, 0] (loopAt [1, 0, 1, 0] (bodyOf Tryz.f21)) xorN xorI 4 xorN xorI 4 (xorSt b c 32) = some (.exit 0, xorSt b c 32) := by kernel_rfl
theorem xor_vok (b c : Nat → Int) (k : Nat) : stEq (xorSt b c k) (xorSt b c k) = true := stEq_refl rfl
theorem xor_loop {b c : Nat → Int} : LoopOk Tryz.prog 19 (loopAt [1, 0, 1, 0] (bodyOf Tryz.f21)) (atSt xorN xorI 4 (xorSt (xorB b c 0) c 0) (.exit 0) (xorSt (xorB b c 32) c 32)) := by
  refine loopE (fun _ => xorC0) 32 (fun _ _ => ⟨mixed, tabOk, sums_nil, noL⟩) (fun _ => rfl) xor_at (m := 60) (nt := xorN) (ni := xorI) (et := xorN) (ei := xorI) (nx := 4) (ex := 4) (fun k => xorSt (xorB b c k) c k) rfl (by intro h; cases h) ?_ ?_
  · intro k hk
    exact ⟨_, xor_r b c k hk, xor_vok _ c (k + 1)⟩
  · exact ⟨_, xor_o _ c, xor_vok _ c 32⟩
noncomputable def xorC (b c : Nat → Int) : Cfg := ⟨tab, [], 19, [([1, 0, 1, 0], atSt xorN xorI 4 (xorSt (xorB b c 0) c 0) (.exit 0) (xorSt (xorB b c 32) c 32))]⟩
theorem xor_ev (b c : Nat → Int) : fnS (xorC b c) 60 Tryz.f21 (bodyOf Tryz.f21) [.agg (bLn b 0 32).toArray, .agg (bLn c 0 32).toArray] =
    req (stEq (xorSt (xorB b c 0) c 0) (xorSt (xorB b c 0) c 0)) (some (xoV b c)) := by kernel_rfl
theorem xor_sum : Sum Tryz.prog 21 XorF := by
  intro args v h
  unfold XorF at h
  split at h
  · rename_i x y
    simp only [Option.some.injEq, Prod.mk.injEq, Bool.and_eq_true] at h
    obtain ⟨⟨h0, h1⟩, rfl⟩ := h
    obtain ⟨X, hX, rfl, eX⟩ := isB32_some h0
    obtain ⟨Y, hY, rfl, eY⟩ := isB32_some h1
    rw [eX, eY]
    have hOk : CfgOk Tryz.prog (xorC (byN X) (byN Y)) (bodyOf Tryz.f21) := ⟨mixed, tabOk, sums_nil, oneL xor_loop⟩
    refine sum_at hOk Tryz.func21 (by kernel_rfl) (by kernel_rfl) rfl (fuel := 60) (by show 2 ≤ Tryz.f21.ntmps; decide +kernel) ?_ rfl
    rw [bytes_bLn, bytes_bLn]
    refine (xor_ev _ _).trans ?_
    rw [req_true (xor_vok _ _ 0)]
  · simp at h
noncomputable def selC : Cfg := ⟨tab, [(20, MskF), (22, BytesF), (21, XorF)], 27, []⟩
theorem selOk : CfgOk Tryz.prog selC (bodyOf Tryz.f8) := ⟨mixed, tabOk, sums_cons msk_sum (sums_cons Bytes_sum (sums_cons xor_sum sums_nil)), noL⟩
theorem sel_ev (p : RP) (a b : Int) (X : Nat) : fnS selC 60 Tryz.f8 (bodyOf Tryz.f8) [ptV p, i64 a, i64 b, num X] =
    req (isPt (ptV p)) (bif pE (unPt (ptV p)) a b != 0 then some (.tuple #[bytesV 0, i64 (pE (unPt (ptV p)) a b)]) else
      req (isNum (num X)) (req (isB32 (bytesV (unnum (num X))) && isB32 (mkV (unPt (ptV p)) a b)) (some (.tuple #[xoV (byN (unbytes (bytesV (unnum (num X))))) (byN (unbytes (mkV (unPt (ptV p)) a b))), i64 0])))) := by kernel_rfl
theorem sel_sum : Sum Tryz.prog 8 SelF := by
  refine sum_of selOk Tryz.func8 (by kernel_rfl) (by kernel_rfl) rfl (fuel := 60) fun args v h hpl => ?_
  unfold SelF at h
  split at h
  · rename_i p a b x
    simp only [Option.some.injEq, Prod.mk.injEq, Bool.and_eq_true] at h
    obtain ⟨⟨h0, h1⟩, rfl⟩ := h
    obtain ⟨r, hr, rfl⟩ := isPt_some h0
    obtain ⟨X, hX, rfl⟩ := isNum_some h1
    refine ⟨by show 4 ≤ Tryz.f8.ntmps; decide +kernel, (sel_ev r a b X).trans ?_, rfl⟩
    rw [isPt_ptV, isNum_num, req_true rfl, unPt_ptV hr, unnum_lt hX, isB32_bytesV, mkV_b32, req_true rfl, req_true (b := true && true) rfl]
    by_cases h : pE r a b = 0
    · rw [slV_ok h, h, unbytes_bytesV, Nat.mod_eq_of_lt hX, tuV_xo, xoV_congr (fun _ _ => rfl) (fun j hj => mkV_by h hj)]; rfl
    · rw [slV_no h, bne_iff_ne.2 h]; rfl
  · simp at h
noncomputable def opnC : Cfg := ⟨tab, [(20, MskF), (23, OfF), (21, XorF)], 27, []⟩
theorem opnOk : CfgOk Tryz.prog opnC (bodyOf Tryz.f9) := ⟨mixed, tabOk, sums_cons msk_sum (sums_cons Of_sum (sums_cons xor_sum sums_nil)), noL⟩
theorem opn_ev (p : RP) (a b : Int) (X : Nat) : fnS opnC 60 Tryz.f9 (bodyOf Tryz.f9) [ptV p, i64 a, i64 b, bytesV X] =
    req (isPt (ptV p)) (bif pE (unPt (ptV p)) a b != 0 then some (.tuple #[num 0, i64 (pE (unPt (ptV p)) a b)]) else
      req (isB32 (bytesV X) && isB32 (mkV (unPt (ptV p)) a b)) (req (isB32 (xoV (byN (unbytes (bytesV X))) (byN (unbytes (mkV (unPt (ptV p)) a b)))))
        (some (.tuple #[num (unbytes (xoV (byN (unbytes (bytesV X))) (byN (unbytes (mkV (unPt (ptV p)) a b))))), i64 0])))) := by kernel_rfl
theorem opn_sum : Sum Tryz.prog 9 OpnF := by
  refine sum_of opnOk Tryz.func9 (by kernel_rfl) (by kernel_rfl) rfl (fuel := 60) fun args v h hpl => ?_
  unfold OpnF at h
  split at h
  · rename_i p a b x
    simp only [Option.some.injEq, Prod.mk.injEq, Bool.and_eq_true] at h
    obtain ⟨⟨h0, h1⟩, rfl⟩ := h
    obtain ⟨r, hr, rfl⟩ := isPt_some h0
    obtain ⟨X, hX, rfl, eX⟩ := isB32_some h1
    refine ⟨by show 4 ≤ Tryz.f9.ntmps; decide +kernel, (opn_ev r a b X).trans ?_, rfl⟩
    rw [isPt_ptV, req_true rfl, unPt_ptV hr, isB32_bytesV, mkV_b32, req_true (b := true && true) rfl, xoV_b32, req_true rfl, eX]
    by_cases h : pE r a b = 0
    · rw [opN_ok h, h, tuV_xo, xoV_congr (fun _ _ => rfl) (fun j hj => mkV_by h hj)]; rfl
    · rw [opN_no h, bne_iff_ne.2 h]; rfl
  · simp at h
end Go.Proofs.YtdcgjjhngnkbmaaGreatDoor

/-
  PairBack.
-/
namespace Go.Proofs.YtdcgjjhngnkbmaaGreatDoor
set_option maxRecDepth 100000
open Go.W
open Go.RowKit (Below)

noncomputable def wk8C : Cfg := ⟨tab, [(24, CBasF), (8, SelF), (9, OpnF)], 36, []⟩
theorem wk8Ok : CfgOk Tryz.prog wk8C (bodyOf Tryz.f10) := ⟨mixed, tabOk, sums_cons cBa_sum (sums_cons sel_sum (sums_cons opn_sum sums_nil)), noL⟩
theorem wk8_ev : fnS wk8C 60 Tryz.f10 (bodyOf Tryz.f10) [] = wak8T := by kernel_rfl
theorem wk8_sum : Sum Tryz.prog 10 WkF := by
  refine sum_of wk8Ok Tryz.func10 (by kernel_rfl) (by kernel_rfl) rfl (fuel := 60) fun args v h _ => ?_
  unfold WkF at h
  split at h
  · simp only [Option.some.injEq, Prod.mk.injEq, true_and] at h
    subst h
    exact ⟨by show 0 ≤ Tryz.f10.ntmps; exact Nat.zero_le _, wk8_ev.trans wak8T_eq, rfl⟩
  · simp at h
end Go.Proofs.YtdcgjjhngnkbmaaGreatDoor
