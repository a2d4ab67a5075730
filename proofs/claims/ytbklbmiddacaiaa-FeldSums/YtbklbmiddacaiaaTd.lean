/-
  FeldSums.
-/
import Derived.Test.YtbklbmiddacaiaaSq
import Derived.Test.YtbklbmiddacaiaaEj
namespace Go.Proofs.Ytbklbmiddacaiaa
set_option maxRecDepth 100000
open Go.W

structure FsP where
  na : Nat
  A : Nat → Nat
  nb : Nat
  B : Nat → Nat
  ncc : Nat
  C : Nat → Nat
  cut : Bool
  e0 : Nat
  e1 : Nat
  e2 : Nat
def fsTb : Nat := nid 30 0
def fsTc : Nat := nid 33 0
def fsB : Nat := nid 0 0
def fsN : List Nat := [0, 1, 2, 3, 9, 10, 11]
def fsI : Ren := [(fsB, nid 57 0), (fsTb, fsTb), (fsTc, fsTc), (1500000, 1500000), (1500001, 1500001), (1500002, 1500002)]
def fsE : Ren := [(fsB, fsB), (fsTb, fsTb), (fsTc, fsTc), (1500000, 1500000), (1500001, 1500001), (1500002, 1500002)]
def fsZ : Ren := [(fsTb, fsTb), (fsTc, fsTc), (1500000, 1500000), (1500001, 1500001), (1500002, 1500002)]
def fsM (p : FsP) : List (Nat × Blk) := [(fsTb, ⟨.tail 1500001 0 p.na 4, 25, false⟩), (fsTc, ⟨.tail 1500002 0 p.na 4, 25, false⟩), (1500000, ⟨.row kN4 p.na (nmF p.A), p.e0, false⟩), (1500001, ⟨.row kN4 p.nb (nmF p.B), p.e1, false⟩), (1500002, ⟨.row kN4 p.ncc (nmF p.C), p.e2, false⟩)]
def fsSa (p : FsP) : St := ⟨[(0, aSl 0 p.na), (1, .slice (some ⟨fsTb, 0, none⟩) p.na p.nb), (2, .slice (some ⟨fsTc, 0, none⟩) p.na p.ncc), (3, .bool p.cut), (9, i64 (p.na : Nat)), (10, .slice none 0 0), (11, i64 0)], fsM p, 38⟩
def fsSb (p : FsP) (m : Nat) (g : Nat → List Value) (i : Int) : St := ⟨[(0, aSl 0 p.na), (1, .slice (some ⟨fsTb, 0, none⟩) p.na p.nb), (2, .slice (some ⟨fsTc, 0, none⟩) p.na p.ncc), (3, .bool p.cut), (9, i64 (p.na : Nat)), (10, .slice (some ⟨fsB, 0, none⟩) m m), (11, i64 i)], (fsB, ⟨.row kN4 m g, 25, true⟩) :: fsM p, 38⟩
noncomputable def fsS : Sums := [(31, FAddF), (21, CmkF 45), (20, TpF 45), (33, FsSumF 45 (nid 46 0)), (24, PtsF), (34, CChkF), (28, Wk7F)]
theorem fsS_ok : SumsOk Try.prog fsS := sums_cons FAdd_sum (sums_consM cmk_msum (sums_consM tp_msum (sums_consM (FsSum_ok smk_msum smn_msum smz_msum) (sums_consM np_msum (sums_cons cchk_sum (sums_cons wk7_sum sums_nil))))))
noncomputable def fsC0 : Cfg := ⟨tab, fsS, 219, []⟩
theorem fs_at : codeAt [1, 1, 1, 1, 1, 0, 1, 0] (bodyOf Try.f6) = some (.loop (loopAt [1, 1, 1, 1, 1, 0, 1, 0] (bodyOf Try.f6))) := by kernel_rfl
def vF (a b : Value) : Nat := faddN 1 (unnum a) (unnum b)
theorem vF_num {A B : Nat} (hA : A < 2 ^ 256) (hB : B < 2 ^ 256) : vF (num A) (num B) = nAdd A B := by unfold vF; rw [unnum_lt hA, unnum_lt hB, nAdd_def]
def fsV (p : FsP) (k : Nat) : Nat := vF (num (vF (num (p.A (0 + k))) (num (p.B (0 + k))))) (num (p.C (0 + k)))
def fsq {α : Type} (p : FsP) (k : Nat) (nx : Nat → Option α) : Option α :=
  rdR k p.na (rdT k p.na p.nb (r2 (num (p.A (0 + k))) (num (p.B (0 + k))) (rdT k p.na p.ncc (r2 (num (vF (num (p.A (0 + k))) (num (p.B (0 + k))))) (num (p.C (0 + k))) (nx (fsV p k))))))
theorem fs_r0 (p : FsP) : roundS fsC0 60 [1, 1, 1, 1, 1, 0, 1, 0, 0] (loopAt [1, 1, 1, 1, 1, 0, 1, 0] (bodyOf Try.f6)) fsN fsI 38 fsN fsE 38 (fsSa p) =
    bif decide ((0 : Int) < (p.na : Int)) then fsq p 0 fun v => some (.normal, fsSb p 1 (lstF (cells4 v) 0 4) 1) else none := by kernel_rfl
theorem fs_z (p : FsP) (h : p.na = 0) : roundS fsC0 60 [1, 1, 1, 1, 1, 0, 1, 0, 0] (loopAt [1, 1, 1, 1, 1, 0, 1, 0] (bodyOf Try.f6)) fsN fsI 38 fsN fsZ 38 (fsSa p) = some (.exit 0, fsSa p) := by
  obtain ⟨na, A, nb, B, ncc, C, cut, e0, e1, e2⟩ := p
  subst h
  kernel_rfl
theorem fs_r1 (p : FsP) (S : Nat → Nat) (k : Nat) : roundS fsC0 60 [1, 1, 1, 1, 1, 0, 1, 0, 0] (loopAt [1, 1, 1, 1, 1, 0, 1, 0] (bodyOf Try.f6)) fsN fsI 38 fsN fsE 38 (fsSb p (k + 1) (nmF S) ((k + 1 : Nat) : Int)) =
    bif decide (((k + 1 : Nat) : Int) < (p.na : Int)) then fsq p (k + 1) fun v => apq4 (k + 1) (some (.normal, fsSb p (k + 1 + 1) (appF (k + 1) (nmF S) (lstF (cells4 v) 0 4)) (IntKind.i64.wrap (((k + 1 : Nat) : Int) + 1))))
    else some (.exit 0, fsSb p (k + 1) (nmF S) ((k + 1 : Nat) : Int)) := by kernel_rfl
theorem fsq_eq {α : Type} {p : FsP} {k : Nat} (hk : k < p.na) (hb : p.na ≤ p.nb) (hc : p.na ≤ p.ncc) (hA : ∀ j, p.A j < 2 ^ 256) (hB : ∀ j, p.B j < 2 ^ 256) (hC : ∀ j, p.C j < 2 ^ 256) (nx : Nat → Option α) : fsq p k nx = nx (nAdd (nAdd (p.A k) (p.B k)) (p.C k)) := by
  unfold fsq fsV
  rw [rdR_eq hk, rdT_eq hk hb, r2_num, rdT_eq hk hc, r2_num, Nat.zero_add, vF_num (hA k) (hB k), vF_num (nAdd_l _ _) (hC k)]
noncomputable def fsX (p : FsP) (j : Nat) : Nat := nAdd (nAdd (p.A j) (p.B j)) (p.C j)
noncomputable def fsQ (p : FsP) : Nat → St
  | 0 => fsSa p
  | k + 1 => fsSb p (k + 1) (nmF (fsX p)) ((k + 1 : Nat) : Int)
theorem fs_loop {p : FsP} {m : Nat} (hp : p.na = m + 1) (hm : m ≤ 900) (hb : p.na ≤ p.nb) (hc : p.na ≤ p.ncc) (hA : ∀ j, p.A j < 2 ^ 256) (hB : ∀ j, p.B j < 2 ^ 256) (hC : ∀ j, p.C j < 2 ^ 256) : LoopOk Try.prog 219 (loopAt [1, 1, 1, 1, 1, 0, 1, 0] (bodyOf Try.f6)) (atSt fsN fsZ 38 (fsSa p) (.exit 0) (fsSb p (m + 1) (nmF (fsX p)) ((m + 1 : Nat) : Int))) := by
  refine loopE (fun _ => fsC0) (m + 1) (fun _ _ => ⟨mixed, tabOk, fsS_ok, noL⟩) (fun _ => rfl) fs_at (m := 60) (nt := fsN) (ni := fsI) (et := fsN) (ei := fsE) (nx := 38) (ex := 38) (fsQ p) rfl (by intro h; cases h) ?_ ?_
  · intro k hk
    cases k with
    | zero =>
      refine ⟨fsSb p 1 (lstF (cells4 (fsX p 0)) 0 4) 1, ?_, stEq_mk rfl (mRow (one_row (ks := kN4) rfl) (mSame rfl (mSame rfl (mSame rfl (mSame rfl (mSame rfl mNil))))))⟩
      refine (fs_r0 p).trans ?_
      rw [decide_eq_true (by omega), cond_true, fsq_eq (by omega) hb hc hA hB hC]; rfl
    | succ k =>
      refine ⟨fsSb p (k + 1 + 1) (appF (k + 1) (nmF (fsX p)) (lstF (cells4 (fsX p (k + 1))) 0 4)) ((k + 1 + 1 : Nat) : Int), ?_, stEq_mk rfl (mRow (app4_row rfl) (mSame rfl (mSame rfl (mSame rfl (mSame rfl (mSame rfl mNil))))))⟩
      refine (fs_r1 p _ k).trans ?_
      rw [decide_eq_true (by omega), cond_true, fsq_eq (by omega) hb hc hA hB hC, apq4_eq (by omega), wrap_i64 (by omega)]; rfl
  · refine ⟨_, ?_, stEq_refl rfl⟩
    refine (fs_r1 p _ m).trans ?_
    rw [decide_eq_false (by omega), cond_false]
theorem fs_loopz {p : FsP} (hp : p.na = 0) : LoopOk Try.prog 219 (loopAt [1, 1, 1, 1, 1, 0, 1, 0] (bodyOf Try.f6)) (atSt fsN fsZ 38 (fsSa p) (.exit 0) (fsSa p)) :=
  loopE (fun _ => fsC0) 0 (fun _ _ => ⟨mixed, tabOk, fsS_ok, noL⟩) (fun _ => rfl) fs_at (m := 60) (nt := fsN) (ni := fsI) (et := fsN) (ei := fsZ) (nx := 38) (ex := 38) (fun _ => fsSa p) rfl (by intro h; cases h) (fun k hk => absurd hk (by omega)) ⟨_, fs_z p hp, stEq_refl rfl⟩
def fsTt : Option Value := some (.bool true)
def fsFf : Option Value := some (.bool false)
def fsH (na nb ncc : Nat) (k : Option Value) : Option Value :=
  bif decide ((na : Int) > 5) then fsTt else bif decide ((nb : Int) < (na : Int)) then fsTt else bif decide ((ncc : Int) < (na : Int)) then fsTt else bif decide ((nb : Int) > 20) then fsTt else bif decide ((ncc : Int) > 20) then fsTt else slq nb (na : Int) (slq ncc (na : Int) k)
def fsNe (n : Nat) (k : Option Value) : Option Value := bif ((n : Int) != (n : Int)) then fsFf else k
noncomputable def fsEnd (Q : Bool) (g : Nat → Nat × (Nat → List Value)) (want : Int) : Option Value :=
  req (true && true && Q && okFm 3 g && (smE 3 g != 0)) (bif smE 3 g == want then (req (isPt (ptV v51)) (bif errP (ckR (unPt (ptV v51))) == 3 then fsTt else fsFf)) else fsFf)
def fsW (n : Nat) : Int := IntKind.i64.wrap ((n : Int) - 1)
def fsQc (n : Nat) : Bool := true && (kb4 n && (((true && Nat.ble (0 + (fsW n).toNat) n) && (true && Nat.ble (fsW n).toNat (fsW n).toNat && true && Nat.ble (fsW n).toNat n)) && (kb4 n && true))) && true
noncomputable def fsT (na : Nat) (A : Nat → List Value) (nb : Nat) (B : Nat → List Value) (ncc : Nat) (C : Nat → List Value) (cut : Bool) (cs : ((Nat → RP) → Option Value) → Option Value) : Option Value :=
  cmq na A fun X => ctq na nb B fun Y => ctq na ncc C fun Z => cs fun W => fsNe na <| fsNe na <| fsNe na <| fsNe na <| tpq na (ptF X) fun x' => s3q na x' na (ptF Y) na (ptF Z) fun S3 => ptsq na (ptF S3) na (ptF W) <| ptsq na x' na (ptF X) <|
  bif ((na : Int) == 0) then fsTt else bif cut then slq na (fsW na) (fsEnd (fsQc na) (t3 (na, sg9 na x') ((fsW na).toNat, sg9 na (ptF Y)) (na, sg9 na (ptF Z))) 4)
  else tpq na (ptF Y) fun y' => rdI (fsW na) na (fsEnd (true && (kb4 na && (kb4 na && (kb4 na && true))) && true) (t3 (na, sg9 na x') (na, sg9 na (updR y' (0 + (fsW na).toNat) (ptC v51))) (na, sg9 na (ptF Z))) 3)
def fsAr (na : Nat) (A : Nat → Nat) (nb : Nat) (B : Nat → Nat) (ncc : Nat) (C : Nat → Nat) (cut : Bool) : List Arg := [.sl kN4 na (nmF A), .sl kN4 nb (nmF B), .sl kN4 ncc (nmF C), .pl (.bool cut)]
noncomputable def fsCk (p : FsP) (m : Nat) (S : Nat → Nat) : Cfg := ⟨tab, fsS, 219, [([1, 1, 1, 1, 1, 0, 1, 0], atSt fsN fsZ 38 (fsSa p) (.exit 0) (fsSb p m (nmF S) (m : Int)))]⟩
noncomputable def fsCz (p : FsP) : Cfg := ⟨tab, fsS, 219, [([1, 1, 1, 1, 1, 0, 1, 0], atSt fsN fsZ 38 (fsSa p) (.exit 0) (fsSa p))]⟩
noncomputable def fsCm0 (k : (Nat → RP) → Option Value) : Option Value := req (true && okV 0 noF4 && true) (k (cmN (nA noF4)))
theorem fs_evb (na : Nat) (A : Nat → Nat) (nb : Nat) (B : Nat → Nat) (ncc : Nat) (C : Nat → Nat) (cut : Bool) (es : Nat → Nat) : fnA ⟨tab, fsS, 219, [([1, 1, 1, 1, 1, 0, 1, 0], fun _ => [])]⟩ 200 Try.f6 (bodyOf Try.f6) (cArgs (fsAr na A nb B ncc C cut) 0) (cMem es (fsAr na A nb B ncc C cut) 0) 0 = fsH na nb ncc none := by kernel_rfl
theorem fs_evz (A : Nat → Nat) (nb : Nat) (B : Nat → Nat) (ncc : Nat) (C : Nat → Nat) (cut : Bool) (es : Nat → Nat) : fnA (fsCz ⟨0, A, nb, B, ncc, C, cut, es 0, es 1, es 2⟩) 200 Try.f6 (bodyOf Try.f6) (cArgs (fsAr 0 A nb B ncc C cut) 0) (cMem es (fsAr 0 A nb B ncc C cut) 0) 0 =
    fsH 0 nb ncc (req (stEq (fsSa ⟨0, A, nb, B, ncc, C, cut, es 0, es 1, es 2⟩) (fsSa ⟨0, A, nb, B, ncc, C, cut, es 0, es 1, es 2⟩)) (fsT 0 (nmF A) nb (nmF B) ncc (nmF C) cut fsCm0)) := by kernel_rfl
theorem fs_evk (m : Nat) (A : Nat → Nat) (nb : Nat) (B : Nat → Nat) (ncc : Nat) (C : Nat → Nat) (cut : Bool) (S : Nat → Nat) (es : Nat → Nat) : fnA (fsCk ⟨m + 1, A, nb, B, ncc, C, cut, es 0, es 1, es 2⟩ (m + 1) S) 200 Try.f6 (bodyOf Try.f6) (cArgs (fsAr (m + 1) A nb B ncc C cut) 0) (cMem es (fsAr (m + 1) A nb B ncc C cut) 0) 0 =
    fsH (m + 1) nb ncc (req (stEq (fsSa ⟨m + 1, A, nb, B, ncc, C, cut, es 0, es 1, es 2⟩) (fsSa ⟨m + 1, A, nb, B, ncc, C, cut, es 0, es 1, es 2⟩)) (fsT (m + 1) (nmF A) nb (nmF B) ncc (nmF C) cut (cmq (m + 1) (nmF S)))) := by kernel_rfl
theorem fsH_k {na nb ncc : Nat} (h : na ≤ 5 ∧ na ≤ nb ∧ na ≤ ncc ∧ nb ≤ 20 ∧ ncc ≤ 20) (k : Option Value) : fsH na nb ncc k = k := by
  unfold fsH
  rw [decide_eq_false (by omega), cond_false, decide_eq_false (by omega), cond_false, decide_eq_false (by omega), cond_false, decide_eq_false (by omega), cond_false, decide_eq_false (by omega), cond_false, slq_eq h.2.1, slq_eq h.2.2.1]
theorem fsH_b {na nb ncc : Nat} (h : ¬ (na ≤ 5 ∧ na ≤ nb ∧ na ≤ ncc ∧ nb ≤ 20 ∧ ncc ≤ 20)) (k : Option Value) : fsH na nb ncc k = some (.bool true) := by
  unfold fsH
  by_cases h1 : na > 5
  · rw [decide_eq_true (by omega), cond_true]; rfl
  rw [decide_eq_false (by omega), cond_false]
  by_cases h2 : nb < na
  · rw [decide_eq_true (by omega), cond_true]; rfl
  rw [decide_eq_false (by omega), cond_false]
  by_cases h3 : ncc < na
  · rw [decide_eq_true (by omega), cond_true]; rfl
  rw [decide_eq_false (by omega), cond_false]
  by_cases h4 : nb > 20
  · rw [decide_eq_true (by omega), cond_true]; rfl
  rw [decide_eq_false (by omega), cond_false, decide_eq_true (by omega), cond_true]; rfl
theorem fsNe_eq (n : Nat) (k : Option Value) : fsNe n k = k := by
  unfold fsNe
  rw [show ((n : Int) != (n : Int)) = false from by rw [bne_eq_false_iff_eq], cond_false]
theorem fsEnd_eq {Q : Bool} {g : Nat → Nat × (Nat → List Value)} {want : Int} (hQ : Q = true) (h1 : okFm 3 g = true) (h2 : smE 3 g = want) (h3 : want ≠ 0) : fsEnd Q g want = some (.bool true) := by
  unfold fsEnd
  rw [hQ, h1, h2, show (want != 0) = true from by rw [bne_iff_ne]; exact h3, req_true (b := true && true && true && true && true) rfl, show (want == want) = true from beq_self_eq_true _, cond_true, isPt_ptV, req_true rfl, unPt_ptV v51_ok, v51_no]; rfl
theorem fsT_eq {na : Nat} {A : Nat → Nat} {nb : Nat} {B : Nat → Nat} {ncc : Nat} {C : Nat → Nat} {cut : Bool} {cs : ((Nat → RP) → Option Value) → Option Value} {W : Nat → RP} (hA : ∀ j, A j < 2 ^ 256) (hB : ∀ j, B j < 2 ^ 256) (hC : ∀ j, C j < 2 ^ 256) (hn : na ≤ 5) (hb : na ≤ nb) (hc : na ≤ ncc) (hcs : ∀ k, cs k = k W) (hW : ∀ j, j < na → W j = cmN (fun j => nAdd (nAdd (A j) (B j)) (C j)) j) : fsT na (nmF A) nb (nmF B) ncc (nmF C) cut cs = some (.bool true) := by
  have hk : ∀ (X : Nat → Nat) j, j < na → ckR (cmN X j) = true := fun X j _ => cm_ck X j
  have hx : ∀ (X : Nat → Nat), okP na (sg9 na (sg9 na (ptF (cmN X)))) = true := fun X => by rw [okP_sg, okP_sg]; exact okP_pt (by omega)
  have hp : ∀ (X : Nat → Nat) j, pA (sg9 na (sg9 na (ptF (cmN X)))) j = cmN X j := fun X j => by rw [pA_sg, pA_sg, pA_pt (ck_okR (cm_ck X j))]
  unfold fsT
  rw [cmq_nm (by omega), ctq_eq hb (by omega), ctq_eq hc (by omega), hcs, fsNe_eq, fsNe_eq, fsNe_eq, fsNe_eq, tpq_eq (by omega), s3q_eq (by omega) (hx _) (fun j hj => by rw [hp]; exact cm_ck _ j) (hk _) (hk _)]
  rw [ptsq_eq (okP_pt (by omega)) (okP_pt (by omega)) (fun j hj => ?_), ptsq_eq (hx _) (okP_pt (by omega)) (fun j _ => by rw [hp, pA_pt (ck_okR (cm_ck _ j))])]
  rotate_left
  · show unPt (ptV (sgN _ 2 j)) = unPt (ptV (W j))
    rw [sg3_at (hk _) (hk _) hj, hp, hW j hj, cm_nm (n := na) (fun j _ => hA j) j hj, cm_nm (n := na) (fun j _ => hB j) j hj, cm_nm (n := na) (fun j _ => hC j) j hj]
    show unPt (ptV (addS (addS (basS (A j)) (basS (B j))) (basS (C j)))) = unPt (ptV (basS (nAdd (nAdd (A j) (B j)) (C j))))
    rw [add_bas, add_bas]
  by_cases h0 : na = 0
  · rw [show ((na : Int) == 0) = true from by rw [beq_iff_eq]; omega, cond_true]; rfl
  rw [show ((na : Int) == 0) = false from by rw [beq_eq_false_iff_ne]; omega, cond_false]
  obtain ⟨m, rfl⟩ : ∃ m, na = m + 1 := ⟨na - 1, by omega⟩
  have hw : fsW (m + 1) = (m : Int) := by unfold fsW; rw [wrap_i64 (by omega)]; omega
  cases cut with
  | true =>
    rw [cond_true, hw, slq_eq (by omega), Int.toNat_natCast]
    have h := cut3 (n := m + 1) (m := m) (V := cmN (nA (nmF B))) (W := cmN (nA (nmF C))) (by omega) (by omega) (hx (nA (nmF A)))
    refine fsEnd_eq ?_ h.1 h.2 (by decide)
    unfold fsQc
    rw [hw, Int.toNat_natCast, kb4_true, bE (show 0 + m ≤ m + 1 by omega), bE (Nat.le_refl m), bE (show m ≤ m + 1 by omega)]; rfl
  | false =>
    rw [cond_false, tpq_eq (by omega), hw, rdI_eq rfl (by omega), Int.toNat_natCast, Nat.zero_add]
    have h := bad3 (n := m + 1) (k := m) (V := cmN (nA (nmF B))) (W := cmN (nA (nmF C))) (g := sg9 (m + 1) (sg9 (m + 1) (ptF (cmN (nA (nmF B)))))) (by omega) (by omega) (hx (nA (nmF A))) (fun j => by rw [el9_sg, el9_sg])
    refine fsEnd_eq ?_ h.1 h.2 (by decide)
    rw [kb4_true]; rfl
theorem fs_calls {W : World} {na nb ncc : Nat} {A B C : Nat → Nat} {cut : Bool} {v0 v1 v2 : Value} (hA : ∀ j, A j < 2 ^ 256) (hB : ∀ j, B j < 2 ^ 256) (hC : ∀ j, C j < 2 ^ 256) (h0 : SrcW W kN4 na (fun i => nmL (A i)) v0) (h1 : SrcW W kN4 nb (fun i => nmL (B i)) v1) (h2 : SrcW W kN4 ncc (fun i => nmL (C i)) v2) :
    Calls Try.prog 6 #[v0, v1, v2, .bool cut] W fun e w' => e = .returned (.bool true) ∧ Go.RowKit.Below W.heap.size W w' := by
  refine law_sound (c := bodyOf Try.f6) (args' := [v0, v1, v2, .bool cut]) Try.func6 (by kernel_rfl) (A := fsAr na A nb B ncc C cut) ⟨h0, h1, h2, rfl, rfl, trivial⟩ (GOk_nil _) (by show 4 ≤ Try.f6.ntmps; decide +kernel) rfl (by intro vs h; cases h) (fuel := 200) (next := 0) (fun es => ?_)
  by_cases hh : na ≤ 5 ∧ na ≤ nb ∧ na ≤ ncc ∧ nb ≤ 20 ∧ ncc ≤ 20
  · obtain ⟨q1, q2, q3, q4, q5⟩ := hh
    by_cases hn : na = 0
    · subst hn
      refine ⟨fsCz ⟨0, A, nb, B, ncc, C, cut, es 0, es 1, es 2⟩, ⟨mixed, tabOk, fsS_ok, oneL (fs_loopz rfl)⟩, rfl, (fs_evz A nb B ncc C cut es).trans ?_⟩
      rw [fsH_k ⟨q1, q2, q3, q4, q5⟩, req_true (stEq_refl rfl)]
      refine fsT_eq hA hB hC q1 q2 q3 (W := cmN (nA noF4)) (fun k => ?_) (fun j hj => absurd hj (by omega))
      unfold fsCm0
      rw [no_okV, req_true (b := true && true && true) rfl]
    · obtain ⟨m, rfl⟩ : ∃ m, na = m + 1 := ⟨na - 1, by omega⟩
      refine ⟨fsCk ⟨m + 1, A, nb, B, ncc, C, cut, es 0, es 1, es 2⟩ (m + 1) (fsX ⟨m + 1, A, nb, B, ncc, C, cut, es 0, es 1, es 2⟩), ⟨mixed, tabOk, fsS_ok, oneL (fs_loop rfl (by omega) q2 q3 hA hB hC)⟩, rfl, (fs_evk m A nb B ncc C cut _ es).trans ?_⟩
      rw [fsH_k ⟨q1, q2, q3, q4, q5⟩, req_true (stEq_refl rfl)]
      refine fsT_eq hA hB hC q1 q2 q3 (W := cmN (nA (nmF (fsX ⟨m + 1, A, nb, B, ncc, C, cut, es 0, es 1, es 2⟩)))) (fun k => cmq_nm (by omega) k) (fun j hj => ?_)
      exact cm_nm (n := m + 1) (X := fun j => nAdd (nAdd (A j) (B j)) (C j)) (fun j _ => nAdd_l _ _) j hj
  · refine ⟨_, ⟨mixed, tabOk, fsS_ok, noneL2⟩, rfl, (fs_evb na A nb B ncc C cut es).trans ?_⟩
    exact fsH_b hh none
end Go.Proofs.Ytbklbmiddacaiaa
