/-
  Several texts in one.
-/
import Derived.Test.YtbklbmiddacaiaaSd
import Derived.Test.YtbklbmiddacaiaaSp
import Derived.Test.YtbklbmiddacaiaaEj
/-
  Package feld: whether all are points, commitments, what they are worth, whether something fits.
-/
namespace Go.Proofs.Ytbklbmiddacaiaa
set_option maxRecDepth 100000
open Go.W

noncomputable def fkS : Sums := [(34, CChkF)]
theorem fkS_ok : SumsOk Try.prog fkS := sums_cons cchk_sum sums_nil
noncomputable def fkC0 : Cfg := ⟨tab, fkS, 18, []⟩
theorem fk_at : codeAt [1, 0, 1, 0] (bodyOf Try.f50) = some (.loop (loopAt [1, 0, 1, 0] (bodyOf Try.f50))) := by kernel_rfl
def fkNt : List Nat := [0, 2, 6, 7, 8]
def fkNi : List Nat := [1500000]
def fkSt (n : Nat) (f : Nat → List Value) (e0 : Nat) (r i : Int) : St := ⟨[(0, aSl 0 n), (2, i64 r), (6, aSl 0 n), (7, i64 (n : Nat)), (8, i64 i)], [(1500000, ⟨.row kP9 n f, e0, false⟩)], 4⟩
theorem fk_r (n : Nat) (V : Nat → RP) (e0 k : Nat) : roundS fkC0 60 [1, 0, 1, 0, 0] (loopAt [1, 0, 1, 0] (bodyOf Try.f50)) fkNt fkNi 4 fkNt fkNi 4 (fkSt n (ptF V) e0 0 (k : Int)) =
    bif decide ((k : Int) < (n : Int)) then rdR k n (req (isPt (ptV (V (0 + k)))) (bif errP (ckR (unPt (ptV (V (0 + k))))) != 0 then some (.ret, fkSt n (ptF V) e0 (errP (ckR (unPt (ptV (V (0 + k)))))) (k : Int)) else some (.normal, fkSt n (ptF V) e0 0 (IntKind.i64.wrap ((k : Int) + 1)))))
    else some (.exit 0, fkSt n (ptF V) e0 0 (k : Int)) := by kernel_rfl
theorem fk_step {n : Nat} {V : Nat → RP} {e0 k : Nat} (hn : n ≤ 1000) (hV : ∀ j, j < n → okR (V j)) (hk : k < n) : roundS fkC0 60 [1, 0, 1, 0, 0] (loopAt [1, 0, 1, 0] (bodyOf Try.f50)) fkNt fkNi 4 fkNt fkNi 4 (fkSt n (ptF V) e0 0 (k : Int)) =
    bif ckR (V k) then some (.normal, fkSt n (ptF V) e0 0 ((k + 1 : Nat) : Int)) else some (.ret, fkSt n (ptF V) e0 3 (k : Int)) := by
  refine (fk_r n V e0 k).trans ?_
  rw [decide_eq_true (by omega), cond_true, rdR_eq hk, isPt_ptV, req_true rfl, Nat.zero_add, unPt_ptV (hV k hk), wrap_i64 (by omega)]
  cases ckR (V k) <;> rfl
theorem fk_ok {n : Nat} {V : Nat → RP} {e0 : Nat} (hn : n ≤ 1000) (hV : ∀ j, j < n → okR (V j)) (hb : ∀ i, i < n → ckR (V i) = true) : LoopOk Try.prog 18 (loopAt [1, 0, 1, 0] (bodyOf Try.f50)) (atSt fkNt fkNi 4 (fkSt n (ptF V) e0 0 0) (.exit 0) (fkSt n (ptF V) e0 0 (n : Int))) := by
  refine loopE (fun _ => fkC0) n (fun _ _ => ⟨mixed, tabOk, fkS_ok, noL⟩) (fun _ => rfl) fk_at (m := 60) (nt := fkNt) (ni := fkNi) (et := fkNt) (ei := fkNi) (nx := 4) (ex := 4) (fun k => fkSt n (ptF V) e0 0 (k : Int)) rfl (by intro h; cases h) ?_ ?_
  · intro k hk
    exact ⟨_, (fk_step hn hV hk).trans (by rw [hb k hk, cond_true]), stEq_refl rfl⟩
  · refine ⟨_, ?_, stEq_refl rfl⟩
    refine (fk_r n V e0 n).trans ?_
    rw [decide_eq_false (by omega), cond_false]
theorem fk_bad {n : Nat} {V : Nat → RP} {e0 k : Nat} (hn : n ≤ 1000) (hV : ∀ j, j < n → okR (V j)) (hk : k < n) (hc : ckR (V k) = false) (hb : ∀ i, i < k → ckR (V i) = true) : LoopOk Try.prog 18 (loopAt [1, 0, 1, 0] (bodyOf Try.f50)) (atSt fkNt fkNi 4 (fkSt n (ptF V) e0 0 0) .ret (fkSt n (ptF V) e0 3 (k : Int))) := by
  refine loopE (fun _ => fkC0) k (fun _ _ => ⟨mixed, tabOk, fkS_ok, noL⟩) (fun _ => rfl) fk_at (m := 60) (nt := fkNt) (ni := fkNi) (et := fkNt) (ei := fkNi) (nx := 4) (ex := 4) (fun k => fkSt n (ptF V) e0 0 (k : Int)) rfl (by intro h; cases h) ?_ ?_
  · intro i hi
    exact ⟨_, (fk_step hn hV (by omega)).trans (by rw [hb i hi, cond_true]), stEq_refl rfl⟩
  · exact ⟨_, (fk_step hn hV hk).trans (by rw [hc, cond_false]), stEq_refl rfl⟩
noncomputable def fkC (n : Nat) (V : Nat → RP) (e0 : Nat) (e : Exit) (r : Int) (k : Nat) : Cfg := ⟨tab, fkS, 18, [([1, 0, 1, 0], atSt fkNt fkNi 4 (fkSt n (ptF V) e0 0 0) e (fkSt n (ptF V) e0 r (k : Int)))]⟩
theorem fk_ev0 (n : Nat) (f : Nat → List Value) (V : Nat → RP) (k : Nat) (es : Nat → Nat) (id : Nat) : fnMS (fkC n V (es 0) (.exit 0) 0 k) 60 Try.f50 (bodyOf Try.f50) (cArgs [.sl kP9 n f] 0) (cMem es [.sl kP9 n f] 0) 0 id =
    req (stEq (fkSt n f (es 0) 0 0) (fkSt n (ptF V) (es 0) 0 0)) (some (i64 0, [])) := by kernel_rfl
theorem fk_ev1 (n : Nat) (f : Nat → List Value) (V : Nat → RP) (k : Nat) (es : Nat → Nat) (id : Nat) : fnMS (fkC n V (es 0) .ret 3 k) 60 Try.f50 (bodyOf Try.f50) (cArgs [.sl kP9 n f] 0) (cMem es [.sl kP9 n f] 0) 0 id =
    req (stEq (fkSt n f (es 0) 0 0) (fkSt n (ptF V) (es 0) 0 0)) (some (i64 3, [])) := by kernel_rfl
theorem fk_msum : MSum Try.prog 50 PckF := by
  intro w0 R fm w hm vs args' hl mm hsub id hlt v l hpick hnew
  match vs, hl, hpick with
  | [a], hl, hpick =>
    obtain ⟨hc, rfl, rfl⟩ := pick_one hpick
    simp only [Bool.and_eq_true] at hc
    obtain ⟨ha, hn⟩ := hc
    generalize hqa : srcB mm kP9 a = qa at ha hn ⊢
    obtain ⟨ok1, n, f⟩ := qa
    simp only at ha hn ⊢
    subst ha
    have hn1 := (okP_iff.1 hn).1
    have hV : ∀ j, j < n → okR (pA f j) := fun j hj => (el_pt hn hj).2
    refine msum_at (c := bodyOf Try.f50) (fuel := 60) (next := 0) Try.func50 (by kernel_rfl) (by kernel_rfl) hm hl hsub hlt (A := [.sl kP9 n f]) ⟨hqa, trivial⟩ (by show 1 ≤ Try.f50.ntmps; decide +kernel) (.inl rfl) hnew (fun es => ?_)
    cases hal : alP (pA f) n with
    | true =>
      refine ⟨fkC n (pA f) (es 0) (.exit 0) 0 n, ⟨mixed, tabOk, fkS_ok, oneL (fk_ok hn1 hV (alP_iff.1 hal))⟩, rfl, ?_⟩
      refine (fk_ev0 n f _ n es id).trans ?_
      exact req_true (stEq_mk rfl (mRow (row_pt hn) mNil))
    | false =>
      obtain ⟨k, hk, hc, hb⟩ := first_no hal
      refine ⟨fkC n (pA f) (es 0) .ret 3 k, ⟨mixed, tabOk, fkS_ok, oneL (fk_bad hn1 hV hk hc hb)⟩, rfl, ?_⟩
      refine (fk_ev1 n f _ k es id).trans ?_
      exact req_true (stEq_mk rfl (mRow (row_pt hn) mNil))
  | [], _, h => simp [PckF, pickM] at h
  | _ :: _ :: _, _, h => simp [PckF, pickM] at h

noncomputable def cmS : Sums := [(35, CBasF)]
theorem cmS_ok : SumsOk Try.prog cmS := sums_cons cBa_sum sums_nil
noncomputable def cmC0 : Cfg := ⟨tab, cmS, 27, []⟩
theorem cm_at : codeAt [1, 1, 1, 0, 1, 0] (bodyOf Try.f21) = some (.loop (loopAt [1, 1, 1, 0, 1, 0] (bodyOf Try.f21))) := by kernel_rfl
def cmNt : List Nat := [0, 4, 13, 14, 15]
def cmB : Nat := nid 7 0
def cmNi : List Nat := [cmB, 1500000]
def cmSt (n : Nat) (f : Nat → List Value) (e0 : Nat) (g : Nat → List Value) (k : Int) : St :=
  ⟨[(0, aSl 0 n), (4, .slice (some ⟨cmB, 0, none⟩) n n), (13, aSl 0 n), (14, i64 (n : Nat)), (15, i64 k)], [(cmB, ⟨.row kP9 n g, 45, true⟩), (1500000, ⟨.row kN4 n f, e0, false⟩)], 12⟩
theorem cm_r (n : Nat) (X : Nat → Nat) (e0 : Nat) (g : Nat → List Value) (k : Nat) : roundS cmC0 60 [1, 1, 1, 0, 1, 0, 0] (loopAt [1, 1, 1, 0, 1, 0] (bodyOf Try.f21)) cmNt cmNi 12 cmNt cmNi 12 (cmSt n (nmF X) e0 g (k : Int)) =
    bif decide ((k : Int) < (n : Int)) then rdR k n (req (isNum (num (X (0 + k)))) (rdR k n (some (.normal, cmSt n (nmF X) e0 (updR g (0 + k) (ptC (basS (unnum (num (X (0 + k))))))) (IntKind.i64.wrap ((k : Int) + 1))))))
    else some (.exit 0, cmSt n (nmF X) e0 g (k : Int)) := by kernel_rfl
theorem cm_loop {n : Nat} {X : Nat → Nat} {e0 : Nat} (hn : n ≤ 1000) (hX : ∀ j, j < n → X j < 2 ^ 256) : LoopOk Try.prog 27 (loopAt [1, 1, 1, 0, 1, 0] (bodyOf Try.f21)) (atSt cmNt cmNi 12 (cmSt n (nmF X) e0 (ptF (filP (cmN X) 0)) 0) (.exit 0) (cmSt n (nmF X) e0 (ptF (cmN X)) (n : Int))) := by
  refine loopE (fun _ => cmC0) n (fun _ _ => ⟨mixed, tabOk, cmS_ok, noL⟩) (fun _ => rfl) cm_at (m := 60) (nt := cmNt) (ni := cmNi) (et := cmNt) (ei := cmNi) (nx := 12) (ex := 12) (fun k => cmSt n (nmF X) e0 (ptF (filP (cmN X) k)) (k : Int)) rfl (by intro h; cases h) ?_ ?_
  · intro k hk
    refine ⟨cmSt n (nmF X) e0 (updR (ptF (filP (cmN X) k)) k (ptC (cmN X k))) ((k + 1 : Nat) : Int), ?_, stEq_mk rfl (mRow (filP_row _ k) (mSame rfl mNil))⟩
    refine (cm_r n X e0 _ k).trans ?_
    rw [decide_eq_true (by omega), cond_true, rdR_eq hk, isNum_num, req_true rfl, rdR_eq hk, wrap_i64 (by omega), Nat.zero_add, unnum_lt (hX k hk)]; rfl
  · refine ⟨cmSt n (nmF X) e0 (ptF (filP (cmN X) n)) (n : Int), ?_, stEq_mk rfl (mRow (filP_all _) (mSame rfl mNil))⟩
    refine (cm_r n X e0 _ n).trans ?_
    rw [decide_eq_false (by omega), cond_false]
noncomputable def cmC (n : Nat) (X : Nat → Nat) (e0 : Nat) (W : Nat → RP) : Cfg := ⟨tab, cmS, 27, [([1, 1, 1, 0, 1, 0], atSt cmNt cmNi 12 (cmSt n (nmF X) e0 (ptF (filP W 0)) 0) (.exit 0) (cmSt n (nmF X) e0 (ptF W) (n : Int)))]⟩
theorem cm_ev (n : Nat) (f : Nat → List Value) (X : Nat → Nat) (W : Nat → RP) (es : Nat → Nat) (id : Nat) : fnMS (cmC n X (es 0) W) 60 Try.f21 (bodyOf Try.f21) (cArgs [.sl kN4 n f] 0) (cMem es [.sl kN4 n f] 0) 0 id =
    bif decide ((n : Int) > 64) then some (.tuple #[.slice none 0 0, i64 4], []) else
      req (mk9 (n : Int)) (req (stEq (cmSt n f (es 0) (fun _ => z9) 0) (cmSt n (nmF X) (es 0) (ptF (filP W 0)) 0)) (req (Nat.ble n n) (some (.tuple #[nSl id n, i64 0], rw9 45 id n (ptF W))))) := by kernel_rfl
theorem cmk_msum : MSum Try.prog 21 (CmkF 45) := by
  intro w0 R fm w hm vs args' hl mm hsub id hlt v l hpick hnew
  match vs, hl, hpick with
  | [a], hl, hpick =>
    obtain ⟨hc, rfl, rfl⟩ := pick_one hpick
    simp only [Bool.and_eq_true] at hc
    obtain ⟨⟨ha, hn⟩, h64⟩ := hc
    generalize hqa : srcB mm kN4 a = qa at ha hn h64 hnew ⊢
    obtain ⟨ok1, n, f⟩ := qa
    simp only at ha hn h64 hnew ⊢
    subst ha
    rw [Nat.ble_eq] at h64
    have hn1 := (okV_iff.1 hn).1
    refine msum_at (c := bodyOf Try.f21) (fuel := 60) (next := 0) Try.func21 (by kernel_rfl) (by kernel_rfl) hm hl hsub hlt (A := [.sl kN4 n f]) ⟨hqa, trivial⟩ (by show 1 ≤ Try.f21.ntmps; decide +kernel) (.inr ⟨_, rfl⟩) hnew (fun es => ?_)
    refine ⟨cmC n (nA f) (es 0) (cmN (nA f)), ⟨mixed, tabOk, cmS_ok, oneL (cm_loop hn1 (fun j hj => (el_num hn hj).2))⟩, rfl, ?_⟩
    refine (cm_ev n f _ _ es id).trans ?_
    rw [decide_eq_false (by omega), cond_false, mk9_true (by omega), req_true rfl]
    refine (req_true (stEq_mk rfl (mRow (filP_zero _) (mRow (row_nm hn) mNil)))).trans ?_
    rw [bE (Nat.le_refl _), req_true rfl]
  | [], _, h => simp [CmkF, pickM] at h
  | _ :: _ :: _, _, h => simp [CmkF, pickM] at h
theorem cmn_msum : MSum Try.prog 21 CmnF := by
  intro w0 R fm w hm vs args' hl mm hsub id hlt v l hpick hnew
  match vs, hl, hpick with
  | [a], hl, hpick =>
    obtain ⟨hc, rfl, rfl⟩ := pick_one hpick
    simp only [Bool.and_eq_true] at hc
    obtain ⟨⟨ha, hn⟩, h64⟩ := hc
    generalize hqa : srcB mm kN4 a = qa at ha hn h64 hnew ⊢
    obtain ⟨ok1, n, f⟩ := qa
    simp only at ha hn h64 hnew ⊢
    subst ha
    rw [Nat.blt_eq] at h64
    have hn1 := (okV_iff.1 hn).1
    refine msum_at (c := bodyOf Try.f21) (fuel := 60) (next := 0) Try.func21 (by kernel_rfl) (by kernel_rfl) hm hl hsub hlt (A := [.sl kN4 n f]) ⟨hqa, trivial⟩ (by show 1 ≤ Try.f21.ntmps; decide +kernel) (.inl rfl) hnew (fun es => ?_)
    refine ⟨cmC n (nA f) (es 0) (cmN (nA f)), ⟨mixed, tabOk, cmS_ok, oneL (cm_loop hn1 (fun j hj => (el_num hn hj).2))⟩, rfl, ?_⟩
    refine (cm_ev n f _ _ es id).trans ?_
    rw [decide_eq_true (by omega), cond_true]
  | [], _, h => simp [CmnF, pickM] at h
  | _ :: _ :: _, _, h => simp [CmnF, pickM] at h

end Go.Proofs.Ytbklbmiddacaiaa

/-
  Package feld: what commitments are worth, whether something fits.
-/
namespace Go.Proofs.Ytbklbmiddacaiaa
set_option maxRecDepth 100000
open Go.W

noncomputable def faS : Sums := [(50, PckF), (32, RedF), (51, CTwoF)]
theorem faS_ok : SumsOk Try.prog faS := sums_consM fk_msum (sums_cons Red_sum (sums_cons cTw_sum sums_nil))
noncomputable def faC0 : Cfg := ⟨tab, faS, 41, []⟩
theorem fa_at : codeAt [1, 1, 1, 1, 1, 0, 1, 0] (bodyOf Try.f22) = some (.loop (loopAt [1, 1, 1, 1, 1, 0, 1, 0] (bodyOf Try.f22))) := by kernel_rfl
def faNt : List Nat := [0, 3, 4, 7, 8]
def faNi : List Nat := [0, 1, 15, 1500000]
def faSt (n : Nat) (f : Nat → List Value) (e0 X : Nat) (S : RP) (i : Int) : St :=
  ⟨[(0, aSl 0 n), (3, ptr 0), (4, ptr 1), (7, ptr 15), (8, i64 i)], [(0, ⟨cells4 X, 25, true⟩), (1, ⟨z9, 45, true⟩), (15, ⟨ptC S, 45, true⟩), (1500000, ⟨.row kP9 n f, e0, false⟩)], 21⟩
theorem fa_r (n : Nat) (V : Nat → RP) (e0 X : Nat) (S : RP) (k : Nat) : roundS faC0 60 [1, 1, 1, 1, 1, 0, 1, 0, 0] (loopAt [1, 1, 1, 1, 1, 0, 1, 0] (bodyOf Try.f22)) faNt faNi 21 faNt faNi 21 (faSt n (ptF V) e0 X S (k : Int)) =
    bif decide ((k : Int) ≥ 0) then rdR k n (req (isNum (num X) && isPt (ptV S) && isNum (num 1) && isPt (ptV (V (0 + k)))) (some (.normal, faSt n (ptF V) e0 X (if (ckR (unPt (ptV S)) && ckR (unPt (ptV (V (0 + k))))) = true then twoS (unnum (num X)) (unPt (ptV S)) (unnum (num 1)) (unPt (ptV (V (0 + k)))) else zR) (IntKind.i64.wrap ((k : Int) - 1)))))
    else some (.exit 0, faSt n (ptF V) e0 X S (k : Int)) := by kernel_rfl
theorem fa_r0 (n : Nat) (V : Nat → RP) (e0 X : Nat) (S : RP) : roundS faC0 60 [1, 1, 1, 1, 1, 0, 1, 0, 0] (loopAt [1, 1, 1, 1, 1, 0, 1, 0] (bodyOf Try.f22)) faNt faNi 21 faNt faNi 21 (faSt n (ptF V) e0 X S (-1)) = some (.exit 0, faSt n (ptF V) e0 X S (-1)) := by kernel_rfl
theorem fa_loop {n : Nat} {V : Nat → RP} {e0 X : Nat} (hn : n ≤ 1000) (hV : ∀ j, j < n → ckR (V j) = true) : LoopOk Try.prog 41 (loopAt [1, 1, 1, 1, 1, 0, 1, 0] (bodyOf Try.f22)) (atSt faNt faNi 21 (faSt n (ptF V) e0 (nRed X) infR ((n : Int) - 1)) (.exit 0) (faSt n (ptF V) e0 (nRed X) (atR V n X) (-1))) := by
  refine loopE (fun _ => faC0) n (fun _ _ => ⟨mixed, tabOk, faS_ok, noL⟩) (fun _ => rfl) fa_at (m := 60) (nt := faNt) (ni := faNi) (et := faNt) (ei := faNi) (nx := 21) (ex := 21) (fun k => faSt n (ptF V) e0 (nRed X) (haK V X n k) ((n : Int) - 1 - (k : Int))) (by rw [show (n : Int) - 1 - ((0 : Nat) : Int) = (n : Int) - 1 from by omega]; rfl) (by intro h; cases h) ?_ ?_
  · intro k hk
    refine ⟨_, ?_, stEq_refl rfl⟩
    have e : (n : Int) - 1 - (k : Int) = ((n - 1 - k : Nat) : Int) := by omega
    simp only [e]
    refine (fa_r n V e0 _ _ _).trans ?_
    have hc := ha_ck (x := X) hV k (by omega)
    have hc2 := hV (n - 1 - k) (by omega)
    rw [decide_eq_true (by omega), cond_true, rdR_eq (by omega), isNum_num, isNum_num, isPt_ptV, isPt_ptV, req_true (b := true && true && true && true) rfl, Nat.zero_add, unPt_ptV (ck_okR hc), unPt_ptV (ck_okR hc2), hc, hc2, if_pos (show (true && true) = true from rfl), uN (nRed_p _), unnum_lt (show (1 : Nat) < 2 ^ 256 by decide), wrap_i64 (by omega), show ((n - 1 - k : Nat) : Int) - 1 = (n : Int) - 1 - ((k + 1 : Nat) : Int) from by omega]
    rfl
  · refine ⟨_, ?_, stEq_refl rfl⟩
    simp only [show (n : Int) - 1 - ((n : Nat) : Int) = -1 from by omega]
    rw [← atR_def]
    exact fa_r0 n V e0 _ _
noncomputable def faC (n : Nat) (V : Nat → RP) (e0 X : Nat) (S : RP) : Cfg := ⟨tab, faS, 41, [([1, 1, 1, 1, 1, 0, 1, 0], atSt faNt faNi 21 (faSt n (ptF V) e0 X infR ((n : Int) - 1)) (.exit 0) (faSt n (ptF V) e0 X S (-1)))]⟩
theorem fa_ev (n : Nat) (f : Nat → List Value) (V : Nat → RP) (X Y : Nat) (S : RP) (es : Nat → Nat) (id : Nat) : fnMS (faC n V (es 0) Y S) 60 Try.f22 (bodyOf Try.f22) (cArgs [.sl kP9 n f, .pl (num X)] 0) (cMem es [.sl kP9 n f, .pl (num X)] 0) 0 id =
    bif decide ((n : Int) > 64) then some (.tuple #[ptV zR, i64 4], []) else
    req (kb4 n && okP n (sg9 n f)) (bif errP (alP (pA (sg9 n f)) n) != 0 then some (.tuple #[ptV zR, i64 (errP (alP (pA (sg9 n f)) n))], []) else
      req (isNum (num X)) (req (stEq (faSt n f (es 0) (redN 1 (unnum (num X))) infR (IntKind.i64.wrap ((n : Int) - 1))) (faSt n (ptF V) (es 0) Y infR ((n : Int) - 1))) (some (.tuple #[ptV S, i64 0], [])))) := by kernel_rfl
theorem fa_evn (n : Nat) (f : Nat → List Value) (X : Nat) (es : Nat → Nat) (id : Nat) : fnMS ⟨tab, faS, 41, [([1, 1, 1, 1, 1, 0, 1, 0], fun _ => [])]⟩ 60 Try.f22 (bodyOf Try.f22) (cArgs [.sl kP9 n f, .pl (num X)] 0) (cMem es [.sl kP9 n f, .pl (num X)] 0) 0 id =
    bif decide ((n : Int) > 64) then some (.tuple #[ptV zR, i64 4], []) else
    req (kb4 n && okP n (sg9 n f)) (bif errP (alP (pA (sg9 n f)) n) != 0 then some (.tuple #[ptV zR, i64 (errP (alP (pA (sg9 n f)) n))], []) else
      req (isNum (num X)) none) := by kernel_rfl
theorem fa_msum : MSum Try.prog 22 AtF := by
  intro w0 R fm w hm vs args' hl mm hsub id hlt v l hpick hnew
  match vs, hl, hpick with
  | [a, x], hl, hpick =>
    obtain ⟨hc, rfl, rfl⟩ := pick_one hpick
    simp only [Bool.and_eq_true] at hc
    obtain ⟨⟨ha, hn⟩, hx⟩ := hc
    generalize hqa : srcB mm kP9 a = qa at ha hn ⊢
    obtain ⟨ok1, n, f⟩ := qa
    simp only at ha hn ⊢
    subst ha
    obtain ⟨X, hX, rfl⟩ := isNum_some hx
    rw [unnum_lt hX]
    have hn1 := (okP_iff.1 hn).1
    refine msum_at (c := bodyOf Try.f22) (fuel := 60) (next := 0) Try.func22 (by kernel_rfl) (by kernel_rfl) hm hl hsub hlt (A := [.sl kP9 n f, .pl (num X)]) ⟨hqa, rfl, rfl, trivial⟩ (by show 2 ≤ Try.f22.ntmps; decide +kernel) (.inl rfl) hnew (fun es => ?_)
    by_cases h : atE (pA f) n = 0
    · obtain ⟨h64, hck⟩ := atE_zero h
      refine ⟨faC n (pA f) (es 0) (nRed X) (atR (pA f) n X), ⟨mixed, tabOk, faS_ok, oneL (fa_loop hn1 hck)⟩, rfl, ?_⟩
      refine (fa_ev n f _ X _ _ es id).trans ?_
      rw [decide_eq_false (by omega), cond_false, kb4_true, okP_sg, hn, req_true (b := true && true) rfl, pA_sg, alP_iff.2 hck, show (errP true != 0) = false from rfl, cond_false, isNum_num, req_true rfl, unnum_lt hX, ← nRed_def, wrap_i64 (by omega), h, atZ_ok h]
      exact req_true (stEq_mk rfl (mSame rfl (mSame rfl (mSame rfl (mRow (row_pt hn) mNil)))))
    · refine ⟨⟨tab, faS, 41, [([1, 1, 1, 1, 1, 0, 1, 0], fun _ => [])]⟩, ⟨mixed, tabOk, faS_ok, noneL2⟩, rfl, ?_⟩
      refine (fa_evn n f X es id).trans ?_
      rw [atZ_no h]
      by_cases h64 : n ≤ 64
      · have hal : alP (pA f) n = false := by
          cases e : alP (pA f) n with
          | false => rfl
          | true => exact absurd (atE_ok h64 (alP_iff.1 e)) h
        rw [decide_eq_false (by omega), cond_false, kb4_true, okP_sg, hn, req_true (b := true && true) rfl, pA_sg, atE_no h64 hal, hal]; rfl
      · rw [decide_eq_true (by omega), cond_true, atE_len (by omega)]
  | [], _, h => simp [AtF, pickM] at h
  | [_], _, h => simp [AtF, pickM] at h
  | _ :: _ :: _ :: _, _, h => simp [AtF, pickM] at h

noncomputable def ffS : Sums := [(22, AtF), (35, CBasF)]
theorem ffS_ok : SumsOk Try.prog ffS := sums_consM fa_msum (sums_cons cBa_sum sums_nil)
noncomputable def ffC : Cfg := ⟨tab, ffS, 23, []⟩
theorem ff_ev (n : Nat) (f : Nat → List Value) (X Y : Nat) (es : Nat → Nat) (id : Nat) : fnMS ffC 60 Try.f23 (bodyOf Try.f23) (cArgs [.sl kP9 n f, .pl (num X), .pl (num Y)] 0) (cMem es [.sl kP9 n f, .pl (num X), .pl (num Y)] 0) 0 id =
    atq n f (num X) fun S e => bif e != 0 then some (.tuple #[.bool false, i64 e], []) else req (isNum (num Y)) (some (.tuple #[.bool (eqV (ptV S) (ptV (basS (unnum (num Y))))), i64 0], [])) := by kernel_rfl
theorem ff_msum : MSum Try.prog 23 FtsF := by
  intro w0 R fm w hm vs args' hl mm hsub id hlt v l hpick hnew
  match vs, hl, hpick with
  | [a, x, y], hl, hpick =>
    obtain ⟨hc, rfl, rfl⟩ := pick_one hpick
    simp only [Bool.and_eq_true] at hc
    obtain ⟨⟨⟨ha, hn⟩, hx⟩, hy⟩ := hc
    generalize hqa : srcB mm kP9 a = qa at ha hn ⊢
    obtain ⟨ok1, n, f⟩ := qa
    simp only at ha hn ⊢
    subst ha
    obtain ⟨X, hX, rfl⟩ := isNum_some hx
    obtain ⟨Y, hY, rfl⟩ := isNum_some hy
    rw [unnum_lt hX, unnum_lt hY]
    have hn1 := (okP_iff.1 hn).1
    refine msum_at (c := bodyOf Try.f23) (fuel := 60) (next := 0) Try.func23 (by kernel_rfl) (by kernel_rfl) hm hl hsub hlt (A := [.sl kP9 n f, .pl (num X), .pl (num Y)]) ⟨hqa, rfl, rfl, rfl, rfl, trivial⟩ (by show 3 ≤ Try.f23.ntmps; decide +kernel) (.inl rfl) hnew (fun es => ?_)
    refine ⟨ffC, ⟨mixed, tabOk, ffS_ok, noL⟩, rfl, ?_⟩
    refine (ff_ev n f X Y es id).trans ?_
    unfold atq
    rw [kb4_true, okP_sg, hn, isNum_num, isNum_num, req_true (b := true && true && true) rfl, pA_sg, unnum_lt hX, unnum_lt hY]
    by_cases h : atE (pA f) n = 0
    · have hc := at_ck (x := X) (atE_zero h).2
      rw [h, atZ_ok h]
      dsimp only
      rw [show ((0 : Int) != 0) = false from rfl, cond_false, req_true rfl, eqV_pt (ck_okR hc) (okR_bas Y)]
      have : fiB (pA f) n X Y = decide (atR (pA f) n X = basS Y) := by
        rw [Bool.eq_iff_iff, fiB_iff, decide_eq_true_iff]
        exact ⟨fun e => e.2, fun e => ⟨h, e⟩⟩
      rw [this]
    · have hf : fiB (pA f) n X Y = false := by
        rw [Bool.eq_false_iff, ne_eq, fiB_iff]
        exact fun e => h e.1
      dsimp only
      rw [show (atE (pA f) n != 0) = true from by rw [bne_iff_ne]; exact h, cond_true, hf]
  | [], _, h => simp [FtsF, pickM] at h
  | [_], _, h => simp [FtsF, pickM] at h
  | [_, _], _, h => simp [FtsF, pickM] at h
  | _ :: _ :: _ :: _ :: _, _, h => simp [FtsF, pickM] at h

noncomputable def wk7C : Cfg := ⟨tab, [(21, CmkF 45), (23, FtsF)], 45, []⟩
theorem wk7Ok : CfgOk Try.prog wk7C (bodyOf Try.f28) := ⟨mixed, tabOk, sums_consM cmk_msum (sums_consM ff_msum sums_nil), noL⟩
theorem wk7_ev1 : fnS wk7C 60 Try.f28 (bodyOf Try.f28) [] = req (true && okV 2 wk7F && Nat.ble 2 64) (ftq 2 (ptF (cmN (nA wk7F))) (num 2) (num 11) fun y f => ftq 2 (ptF (cmN (nA wk7F))) (num 2) (num 12) fun z g => bif f == 0 then bif g == 0 then bif y then some (.bool (!z)) else some (.bool false) else some (.bool false) else some (.bool false)) := by kernel_rfl
theorem wk7_sum : Sum Try.prog 28 Wk7F := by
  refine sum_of wk7Ok Try.func28 (by kernel_rfl) (by kernel_rfl) rfl (fuel := 60) fun args v h _ => ?_
  unfold Wk7F at h
  split at h
  · simp only [Option.some.injEq, Prod.mk.injEq, true_and] at h
    subst h
    refine ⟨by show 0 ≤ Try.f28.ntmps; exact Nat.zero_le _, wk7_ev1.trans ?_, rfl⟩
    rw [wk7_ok, req_true (b := true && true && Nat.ble 2 64) rfl, ftq_ck (by omega) (fun j _ => cm_ck _ j) (by decide) (by decide), ftq_ck (by omega) (fun j _ => cm_ck _ j) (by decide) (by decide), fi_bas (by omega), fi_bas (by omega), evN_congr wk7_nA, wk7_ev]
    rfl
  · simp at h

end Go.Proofs.Ytbklbmiddacaiaa
