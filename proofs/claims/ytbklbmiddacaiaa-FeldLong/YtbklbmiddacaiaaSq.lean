/-
  Several texts in one.
-/
import Derived.Test.YtbklbmiddacaiaaSd
import Derived.Test.YtbklbmiddacaiaaSp
import Derived.Test.YtbklbmiddacaiaaEj
/-
  Package feld: whether all are points, commitments, what they are worth, whether something fits.
-/
namespace Go.Proofs.Ytbklbmiddacaiaa
set_option maxRecDepth 100000
open Go.W

noncomputable def fkS : Sums := [(34, CChkF)]
theorem fkS_ok : SumsOk Try.prog fkS := sums_cons cchk_sum sums_nil
noncomputable def fkC0 : Cfg := ⟨tab, fkS, 18, []⟩
theorem fk_at : codeAt [1, 0, 1, 0] (bodyOf Try.f50) = some (.loop (loopAt [1, 0, 1, 0] (bodyOf Try.f50))) := by kernel_rfl
def fkNt : List Nat := [0, 2, 6, 7, 8]
def fkNi : List Nat := [1500000]
def fkSt (n : Nat) (f : Nat → List Value) (e0 : Nat) (r i : Int) : St := ⟨[(0, aSl 0 n), (2, i64 r), (6, aSl 0 n), (7, i64 (n : Nat)), (8, i64 i)], [(1500000, ⟨.row kP9 n f, e0, false⟩)], 4⟩
theorem fk_r (n : Nat) (V : Nat → RP) (e0 k : Nat) : roundS fkC0 60 [1, 0, 1, 0, 0] (loopAt [1, 0, 1, 0] (bodyOf Try.f50)) fkNt fkNi 4 fkNt fkNi 4 (fkSt n (ptF V) e0 0 (k : Int)) =
    bif decide ((k : Int) < (n : Int)) then rdR k n (req (isPt (ptV (V (0 + k)))) (bif errP (ckR (unPt (ptV (V (0 + k))))) != 0 then some (.ret, fkSt n (ptF V) e0 (errP (ckR (unPt (ptV (V (0 + k)))))) (k : Int)) else some (.normal, fkSt n (ptF V) e0 0 (IntKind.i64.wrap ((k : Int) + 1)))))
    else some (.exit 0, fkSt n (ptF V) e0 0 (k : Int)) := by kernel_rfl
theorem fk_step {n : Nat} {V : Nat → RP} {e0 k : Nat} (hn : n ≤ 1000) (hV : ∀ j, j < n → okR (V j)) (hk : k < n) : roundS fkC0 60 [1, 0, 1, 0, 0] (loopAt [1, 0, 1, 0] (bodyOf Try.f50)) fkNt fkNi 4 fkNt fkNi 4 (fkSt n (ptF V) e0 0 (k : Int)) =
    bif ckR (V k) then some (.normal, fkSt n (ptF V) e0 0 ((k + 1 : Nat) : Int)) else some (.ret, fkSt n (ptF V) e0 3 (k : Int)) := by
  refine (fk_r n V e0 k).trans ?_
  rw [decide_eq_true (by omega), cond_true, rdR_eq hk, isPt_ptV, req_true rfl, Nat.zero_add, unPt_ptV (hV k hk), wrap_i64 (by omega)]
  cases ckR (V k) <;> rfl
theorem fk_ok {n : Nat} {V : Nat → RP} {e0 : Nat} (hn : n ≤ 1000) (hV : ∀ j, j < n → okR (V j)) (hb : ∀ i, i < n → ckR (V i) = true) : LoopOk Try.prog 18 (loopAt [1, 0, 1, 0] (bodyOf Try.f50)) (atSt fkNt fkNi 4 (fkSt n (ptF V) e0 0 0) (.exit 0) (fkSt n (ptF V) e0 0 (n : Int))) := by
  refine loopE (fun _ => fkC0) n (fun _ _ => ⟨mixed, tabOk, fkS_ok, noL⟩) (fun _ => rfl) fk_at (m := 60) (nt := fkNt) (ni := fkNi) (et := fkNt) (ei := fkNi) (nx := 4) (ex := 4) (fun k => fkSt n (ptF V) e0 0 (k : Int)) rfl (by intro h; cases h) ?_ ?_
  · intro k hk
    exact ⟨_, (fk_step hn hV hk).trans (by rw [hb k hk, cond_true]), stEq_refl rfl⟩
  · refine ⟨_, ?_, stEq_refl rfl⟩
    refine (fk_r n V e0 n).trans ?_
    rw [decide_eq_false (by omega), cond_false]
theorem fk_bad {n : Nat} {V : Nat → RP} {e0 k : Nat} (hn : n ≤ 1000) (hV : ∀ j, j < n → okR (V j)) (hk : k < n) (hc : ckR (V k) = false) (hb : ∀ i, i < k → ckR (V i) = true) : LoopOk Try.prog 18 (loopAt [1, 0, 1, 0] (bodyOf Try.f50)) (atSt fkNt fkNi 4 (fkSt n (ptF V) e0 0 0) .ret (fkSt n (ptF V) e0 3 (k : Int))) := by
  refine loopE (fun _ => fkC0) k (fun _ _ => ⟨mixed, tabOk, fkS_ok, noL⟩) (fun _ => rfl) fk_at (m := 60) (nt := fkNt) (ni := fkNi) (et := fkNt) (ei := fkNi) (nx := 4) (ex := 4) (fun k => fkSt n (ptF V) e0 0 (k : Int)) rfl (by intro h; cases h) ?_ ?_
  · intro i hi
    exact ⟨_, (fk_step hn hV (by omega)).trans (by rw [hb i hi, cond_true]), stEq_refl rfl⟩
  · exact ⟨_, (fk_step hn hV hk).trans (by rw [hc, cond_false]), stEq_refl rfl⟩
noncomputable def fkC (n : Nat) (V : Nat → RP) (e0 : Nat) (e : Exit) (r : Int) (k : Nat) : Cfg := ⟨tab, fkS, 18, [([1, 0, 1, 0], atSt fkNt fkNi 4 (fkSt n (ptF V) e0 0 0) e (fkSt n (ptF V) e0 r (k : Int)))]⟩
theorem fk_ev0 (n : Nat) (f : Nat → List Value) (V : Nat → RP) (k : Nat) (es : Nat → Nat) (id : Nat) : fnMS (fkC n V (es 0) (.exit 0) 0 k) 60 Try.f50 (bodyOf Try.f50) (cArgs [.sl kP9 n f] 0) (cMem es [.sl kP9 n f] 0) 0 id =
    req (stEq (fkSt n f (es 0) 0 0) (fkSt n (ptF V) (es 0) 0 0)) (some (i64 0, [])) := by kernel_rfl
theorem fk_ev1 (n : Nat) (f : Nat → List Value) (V : Nat → RP) (k : Nat) (es : Nat → Nat) (id : Nat) : fnMS (fkC n V (es 0) .ret 3 k) 60 Try.f50 (bodyOf Try.f50) (cArgs [.sl kP9 n f] 0) (cMem es [.sl kP9 n f] 0) 0 id =
    req (stEq (fkSt n f (es 0) 0 0) (fkSt n (ptF V) (es 0) 0 0)) (some (i64 3, [])) := by kernel_rfl
theorem fk_msum : MSum Try.prog 50 PckF := by
  intro w0 R fm w hm vs args' hl mm hsub id hlt v l hpick hnew
  match vs, hl, hpick with
  | [a], hl, hpick =>
    obtain ⟨hc, rfl, rfl⟩ := pick_one hpick
    simp only [Bool.and_eq_true] at hc
    obtain ⟨ha, hn⟩ := hc
    generalize hqa : srcB mm kP9 a = qa at ha hn ⊢
    obtain ⟨ok1, n, f⟩ := qa
    simp only at ha hn ⊢
    subst ha
    have hn1 := (okP_iff.1 hn).1
    have hV : ∀ j, j < n → okR (pA f j) := fun j hj => (el_pt hn hj).2
    refine msum_at (c := bodyOf Try.f50) (fuel := 60) (next := 0) Try.func50 (by kernel_rfl) (by kernel_rfl) hm hl hsub hlt (A := [.sl kP9 n f]) ⟨hqa, trivial⟩ (by show 1 ≤ Try.f50.ntmps; decide +kernel) (.inl rfl) hnew (fun es => ?_)
    cases hal : alP (pA f) n with
    | true =>
      refine ⟨fkC n (pA f) (es 0) (.exit 0) 0 n, ⟨mixed, tabOk, fkS_ok, oneL (fk_ok hn1 hV (alP_iff.1 hal))⟩, rfl, ?_⟩
      refine (fk_ev0 n f _ n es id).trans ?_
      exact req_true (stEq_mk rfl (mRow (row_pt hn) mNil))
    | false =>
      obtain ⟨k, hk, hc, hb⟩ := first_no hal
      refine ⟨fkC n (pA f) (es 0) .ret 3 k, ⟨mixed, tabOk, fkS_ok, oneL (fk_bad hn1 hV hk hc hb)⟩, rfl, ?_⟩
      refine (fk_ev1 n f _ k es id).trans ?_
      exact req_true (stEq_mk rfl (mRow (row_pt hn) mNil))
  | [], _, h => simp [PckF, pickM] at h
  | _ :: _ :: _, _, h => simp [PckF, pickM] at h

noncomputable def cmS : Sums := [(35, CBasF)]
theorem cmS_ok : SumsOk Try.prog cmS := sums_cons cBa_sum sums_nil
noncomputable def cmC0 : Cfg := ⟨tab, cmS, 27, []⟩
theorem cm_at : codeAt [1, 1, 1, 0, 1, 0] (bodyOf Try.f21) = some (.loop (loopAt [1, 1, 1, 0, 1, 0] (bodyOf Try.f21))) := by kernel_rfl
def cmNt : List Nat := [0, 4, 13, 14, 15]
def cmB : Nat := nid 7 0
def cmNi : List Nat := [cmB, 1500000]
def cmSt (n : Nat) (f : Nat → List Value) (e0 : Nat) (g : Nat → List Value) (k : Int) : St :=
  ⟨[(0, aSl 0 n), (4, .slice (some ⟨cmB, 0, none⟩) n n), (13, aSl 0 n), (14, i64 (n : Nat)), (15, i64 k)], [(cmB, ⟨.row kP9 n g, 45, true⟩), (1500000, ⟨.row kN4 n f, e0, false⟩)], 12⟩
theorem cm_r (n : Nat) (X : Nat → Nat) (e0 : Nat) (g : Nat → List Value) (k : Nat) : roundS cmC0 60 [1, 1, 1, 0, 1, 0, 0] (loopAt [1, 1, 1, 0, 1, 0] (bodyOf Try.f21)) cmNt cmNi 12 cmNt cmNi 12 (cmSt n (nmF X) e0 g (k : Int)) =
    bif decide ((k : Int) < (n : Int)) then rdR k n (req (isNum (num (X (0 + k)))) (rdR k n (some (.normal, cmSt n (nmF X) e0 (updR g (0 + k) (ptC (basS (unnum (num (X (0 + k))))))) (IntKind.i64.wrap ((k : Int) + 1))))))
    else some (.exit 0, cmSt n (nmF X) e0 g (k : Int)) := by kernel_rfl
theorem cm_loop {n : Nat} {X : Nat → Nat} {e0 : Nat} (hn : n ≤ 1000) (hX : ∀ j, j < n → X j < 2 ^ 256) : LoopOk Try.prog 27 (loopAt [1, 1, 1, 0, 1, 0] (bodyOf Try.f21)) (atSt cmNt cmNi 12 (cmSt n (nmF X) e0 (ptF (filP (cmN X) 0)) 0) (.exit 0) (cmSt n (nmF X) e0 (ptF (cmN X)) (n : Int))) := by
  refine loopE (fun _ => cmC0) n (fun _ _ => ⟨mixed, tabOk, cmS_ok, noL⟩) (fun _ => rfl) cm_at (m := 60) (nt := cmNt) (ni := cmNi) (et := cmNt) (ei := cmNi) (nx := 12) (ex := 12) (fun k => cmSt n (nmF X) e0 (ptF (filP (cmN X) k)) (k : Int)) rfl (by intro h; cases h) ?_ ?_
  · intro k hk
    refine ⟨cmSt n (nmF X) e0 (updR (ptF (filP (cmN X) k)) k (ptC (cmN X k))) ((k + 1 : Nat) : Int), ?_, stEq_mk rfl (mRow (filP_row _ k) (mSame rfl mNil))⟩
    refine (cm_r n X e0 _ k).trans ?_
    rw [decide_eq_true (by omega), cond_true, rdR_eq hk, isNum_num, req_true rfl, rdR_eq hk, wrap_i64 (by omega), Nat.zero_add, unnum_lt (hX k hk)]; rfl
  · refine ⟨cmSt n (nmF X) e0 (ptF (filP (cmN X) n)) (n : Int), ?_, stEq_mk rfl (mRow (filP_all _) (mSame rfl mNil))⟩
    refine (cm_r n X e0 _ n).trans ?_
    rw [decide_eq_false (by omega), cond_false]
noncomputable def cmC (n : Nat) (X : Nat → Nat) (e0 : Nat) (W : Nat → RP) : Cfg := ⟨tab, cmS, 27, [([1, 1, 1, 0, 1, 0], atSt cmNt cmNi 12 (cmSt n (nmF X) e0 (ptF (filP W 0)) 0) (.exit 0) (cmSt n (nmF X) e0 (ptF W) (n : Int)))]⟩
theorem cm_ev (n : Nat) (f : Nat → List Value) (X : Nat → Nat) (W : Nat → RP) (es : Nat → Nat) (id : Nat) : fnMS (cmC n X (es 0) W) 60 Try.f21 (bodyOf Try.f21) (cArgs [.sl kN4 n f] 0) (cMem es [.sl kN4 n f] 0) 0 id =
    bif decide ((n : Int) > 64) then some (.tuple #[.slice none 0 0, i64 4], []) else
      req (mk9 (n : Int)) (req (stEq (cmSt n f (es 0) (fun _ => z9) 0) (cmSt n (nmF X) (es 0) (ptF (filP W 0)) 0)) (req (Nat.ble n n) (some (.tuple #[nSl id n, i64 0], rw9 45 id n (ptF W))))) := by kernel_rfl
theorem cmk_msum : MSum Try.prog 21 (CmkF 45) := by
  intro w0 R fm w hm vs args' hl mm hsub id hlt v l hpick hnew
  match vs, hl, hpick with
  | [a], hl, hpick =>
    obtain ⟨hc, rfl, rfl⟩ := pick_one hpick
    simp only [Bool.and_eq_true] at hc
    obtain ⟨⟨ha, hn⟩, h64⟩ := hc
    generalize hqa : srcB mm kN4 a = qa at ha hn h64 hnew ⊢
    obtain ⟨ok1, n, f⟩ := qa
    simp only at ha hn h64 hnew ⊢
    subst ha
    rw [Nat.ble_eq] at h64
    have hn1 := (okV_iff.1 hn).1
    refine msum_at (c := bodyOf Try.f21) (fuel := 60) (next := 0) Try.func21 (by kernel_rfl) (by kernel_rfl) hm hl hsub hlt (A := [.sl kN4 n f]) ⟨hqa, trivial⟩ (by show 1 ≤ Try.f21.ntmps; decide +kernel) (.inr ⟨_, rfl⟩) hnew (fun es => ?_)
    refine ⟨cmC n (nA f) (es 0) (cmN (nA f)), ⟨mixed, tabOk, cmS_ok, oneL (cm_loop hn1 (fun j hj => (el_num hn hj).2))⟩, rfl, ?_⟩
    refine (cm_ev n f _ _ es id).trans ?_
    rw [decide_eq_false (by omega), cond_false, mk9_true (by omega), req_true rfl]
    refine (req_true (stEq_mk rfl (mRow (filP_zero _) (mRow (row_nm hn) mNil)))).trans ?_
    rw [bE (Nat.le_refl _), req_true rfl]
  | [], _, h => simp [CmkF, pickM] at h
  | _ :: _ :: _, _, h => simp [CmkF, pickM] at h
theorem cmn_msum : MSum Try.prog 21 CmnF := by
  intro w0 R fm w hm vs args' hl mm hsub id hlt v l hpick hnew
  match vs, hl, hpick with
  | [a], hl, hpick =>
    obtain ⟨hc, rfl, rfl⟩ := pick_one hpick
    simp only [Bool.and_eq_true] at hc
    obtain ⟨⟨ha, hn⟩, h64⟩ := hc
    generalize hqa : srcB mm kN4 a = qa at ha hn h64 hnew ⊢
    obtain ⟨ok1, n, f⟩ := qa
    simp only at ha hn h64 hnew ⊢
    subst ha
    rw [Nat.blt_eq] at h64
    have hn1 := (okV_iff.1 hn).1
    refine msum_at (c := bodyOf Try.f21) (fuel := 60) (next := 0) Try.func21 (by kernel_rfl) (by kernel_rfl) hm hl hsub hlt (A := [.sl kN4 n f]) ⟨hqa, trivial⟩ (by show 1 ≤ Try.f21.ntmps; decide +kernel) (.inl rfl) hnew (fun es => ?_)
    refine ⟨cmC n (nA f) (es 0) (cmN (nA f)), ⟨mixed, tabOk, cmS_ok, oneL (cm_loop hn1 (fun j hj => (el_num hn hj).2))⟩, rfl, ?_⟩
    refine (cm_ev n f _ _ es id).trans ?_
    rw [decide_eq_true (by omega), cond_true]
  | [], _, h => simp [CmnF, pickM] at h
  | _ :: _ :: _, _, h => simp [CmnF, pickM] at h

end Go.Proofs.Ytbklbmiddacaiaa

/-
  Package feld: what commitments are worth, whether something fits.
-/
namespace Go.Proofs.Ytbklbmiddacaiaa
set_option maxRecDepth 100000
open Go.W

noncomputable def faS : Sums := [(50, PckF), (32, RedF), (51, CTwoF)]
theorem faS_ok : SumsOk Try.prog faS := sums_consM fk_msum (sums_cons Red_sum (sums_cons cTw_sum sums_nil))
noncomputable def faC0 : Cfg := ⟨tab, faS, 41, []⟩
theorem fa_at : codeAt [1, 1, 1, 1, 1, 0, 1, 0] (bodyOf Try.f22) = some (.loop (loopAt [1, 1, 1, 1, 1, 0, 1, 0] (bodyOf Try.f22))) := by kernel_rfl
def faNt : List Nat := [0, 3, 4, 7, 8]
def faNi : List Nat := [0, 1, 15, 1500000]
def faSt (n : Nat) (f : Nat → List Value) (e0 X : Nat) (S : RP) (i : Int) : St :=
  ⟨[(0, aSl 0 n), (3, ptr 0), (4, ptr 1), (7, ptr 15), (8, i64 i)], [(0, ⟨cells4 X, 25, true⟩), (1, ⟨z9, 45, true⟩), (15, ⟨ptC S, 45, true⟩), (1500000, ⟨.row kP9 n f, e0, false⟩)], 21⟩
theorem fa_r (n : Nat) (V : Nat → RP) (e0 X : Nat) (S : RP) (k : Nat) : roundS faC0 60 [1, 1, 1, 1, 1, 0, 1, 0, 0] (loopAt [1, 1, 1, 1, 1, 0, 1, 0] (bodyOf Try.f22)) faNt faNi 21 faNt faNi 21 (faSt n (ptF V) e0 X S (k : Int)) =
    bif decide ((k : Int) ≥ 0) then rdR k n (req (isNum (num X) && isPt (ptV S) && isNum (num 1) && isPt (ptV (V (0 + k)))) (some (.normal, faSt n (ptF V) e0 X (if (ckR (unPt (ptV S)) && ckR (unPt (ptV (V (0 + k))))) = true then twoS (unnum (num X)) (unPt (ptV S)) (unnum (num 1)) (unPt (ptV (V (0 + k)))) else zR) (IntKind.i64.wrap ((k : Int) - 1)))))
    else some (.exit 0, faSt n (ptF V) e0 X S (k : Int)) := by kernel_rfl
theorem fa_r0 (n : Nat) (V : Nat → RP) (e0 X : Nat) (S : RP) : roundS faC0 60 [1, 1, 1, 1, 1, 0, 1, 0, 0] (loopAt [1, 1, 1, 1, 1, 0, 1, 0] (bodyOf Try.f22)) faNt faNi 21 faNt faNi 21 (faSt n (ptF V) e0 X S (-1)) = some (.exit 0, faSt n (ptF V) e0 X S (-1)) := by kernel_rfl
theorem fa_loop {n : Nat} {V : Nat → RP} {e0 X : Nat} (hn : n ≤ 1000) (hV : ∀ j, j < n → ckR (V j) = true) : LoopOk Try.prog 41 (loopAt [1, 1, 1, 1, 1, 0, 1, 0] (bodyOf Try.f22)) (atSt faNt faNi 21 (faSt n (ptF V) e0 (nRed X) infR ((n : Int) - 1)) (.exit 0) (faSt n (ptF V) e0 (nRed X) (atR V n X) (-1))) := by
  refine loopE (fun _ => faC0) n (fun _ _ => ⟨mixed, tabOk, faS_ok, noL⟩) (fun _ => rfl) fa_at (m := 60) (nt := faNt) (ni := faNi) (et := faNt) (ei := faNi) (nx := 21) (ex := 21) (fun k => faSt n (ptF V) e0 (nRed X) (haK V X n k) ((n : Int) - 1 - (k : Int))) (by rw [show (n : Int) - 1 - ((0 : Nat) : Int) = (n : Int) - 1 from by omega]; rfl) (by intro h; cases h) ?_ ?_
  · intro k hk
    refine ⟨_, ?_, stEq_refl rfl⟩
    have e : (n : Int) - 1 - (k : Int) = ((n - 1 - k : Nat) : Int) := by omega
    simp only [e]
    refine (fa_r n V e0 _ _ _).trans ?_
    have hc := ha_ck (x := X) hV k (by omega)
    have hc2 := hV (n - 1 - k) (by omega)
    rw [decide_eq_true (by omega), cond_true, rdR_eq (by omega), isNum_num, isNum_num, isPt_ptV, isPt_ptV, req_true (b := true && true && true && true) rfl, Nat.zero_add, unPt_ptV (ck_okR hc), unPt_ptV (ck_okR hc2), hc, hc2, if_pos (show (true && true) = true from rfl), uN (nRed_p _), unnum_lt (show (1 : Nat) < 2 ^ 256 by decide), wrap_i64 (by omega), show ((n - 1 - k : Nat) : Int) - 1 = (n : Int) - 1 - ((k + 1 : Nat) : Int) from by omega]
    rfl
  · refine ⟨_, ?_, stEq_refl rfl⟩
    simp only [show (n : Int) - 1 - ((n : Nat) : Int) = -1 from by omega]
    rw [← atR_def]
    exact fa_r0 n V e0 _ _
noncomputable def faC (n : Nat) (V : Nat → RP) (e0 X : Nat) (S : RP) : Cfg := ⟨tab, faS, 41, [([1, 1, 1, 1, 1, 0, 1, 0], atSt faNt faNi 21 (faSt n (ptF V) e0 X infR ((n : Int) - 1)) (.exit 0) (faSt n (ptF V) e0 X S (-1)))]⟩
theorem fa_ev (n : Nat) (f : Nat → List Value) (V : Nat → RP) (X Y : Nat) (S : RP) (es : Nat → Nat) (id : Nat) : fnMS (faC n V (es 0) Y S) 60 Try.f22 (bodyOf Try.f22) (cArgs [.sl kP9 n f, .pl (num X)] 0) (cMem es [.sl kP9 n f, .pl (num X)] 0) 0 id =
    bif decide ((n : Int) > 64) then some (.tuple #[ptV zR, i64 4], []) else
    req (kb4 n && okP n (sg9 n f)) (bif errP (alP (pA (sg9 n f)) n) != 0 then some (.tuple #[ptV zR, i64 (errP (alP (pA (sg9 n f)) n))], []) else
      req (isNum (num X)) (req (stEq (faSt n f (es 0) (redN 1 (unnum (num X))) infR (IntKind.i64.wrap ((n : Int) - 1))) (faSt n (ptF V) (es 0) Y infR ((n : Int) - 1))) (some (.tuple #[ptV S, i64 0], [])))) := by kernel_rfl
theorem fa_evn (n : Nat) (f : Nat → List Value) (X : Nat) (es : Nat → Nat) (id : Nat) : fnMS ⟨tab, faS, 41, [([1, 1, 1, 1, 1, 0, 1, 0], fun _ => [])]⟩ 60 Try.f22 (bodyOf Try.f22) (cArgs [.sl kP9 n f, .pl (num X)] 0) (cMem es [.sl kP9 n f, .pl (num X)] 0) 0 id =
    bif decide ((n : Int) > 64) then some (.tuple #[ptV zR, i64 4], []) else
    req (kb4 n && okP n (sg9 n f)) (bif errP (alP (pA (sg9 n f)) n) != 0 then some (.tuple #[ptV zR, i64 (errP (alP (pA (sg9 n f)) n))], []) else
      req (isNum (num X)) none) := by kernel_rfl
theorem fa_msum : MSum Try.prog 22 AtF := by
  intro w0 R fm w hm vs args' hl mm hsub id hlt v l hpick hnew
  match vs, hl, hpick with
  | [a, x], hl, hpick =>
    obtain ⟨hc, rfl, rfl⟩ := pick_one hpick
    simp only [Bool.and_eq_true] at hc
    obtain ⟨⟨ha, hn⟩, hx⟩ := hc
    generalize hqa : srcB mm kP9 a = qa at ha hn ⊢
    obtain ⟨ok1, n, f⟩ := qa
    simp only at ha hn ⊢
    subst ha
    obtain ⟨X, hX, rfl⟩ := isNum_some hx
    rw [unnum_lt hX]
    have hn1 := (okP_iff.1 hn).1
    refine msum_at (c := bodyOf Try.f22) (fuel := 60) (next := 0) Try.func22 (by kernel_rfl) (by kernel_rfl) hm hl hsub hlt (A := [.sl kP9 n f, .pl (num X)]) ⟨hqa, rfl, rfl, trivial⟩ (by show 2 ≤ Try.f22.ntmps; decide +kernel) (.inl rfl) hnew (fun es => ?_)
    by_cases h : atE (pA f) n = 0
    · obtain ⟨h64, hck⟩ := atE_zero h
      refine ⟨faC n (pA f) (es 0) (nRed X) (atR (pA f) n X), ⟨mixed, tabOk, faS_ok, oneL (fa_loop hn1 hck)⟩, rfl, ?_⟩
      refine (fa_ev n f _ X _ _ es id).trans ?_
      rw [decide_eq_false (by omega), cond_false, kb4_true, okP_sg, hn, req_true (b := true && true) rfl, pA_sg, alP_iff.2 hck, show (errP true != 0) = false from rfl, cond_false, isNum_num, req_true rfl, unnum_lt hX, ← nRed_def, wrap_i64 (by omega), h, atZ_ok h]
      exact req_true (stEq_mk rfl (mSame rfl (mSame rfl (mSame rfl (mRow (row_pt hn) mNil)))))
    · refine ⟨⟨tab, faS, 41, [([1, 1, 1, 1, 1, 0, 1, 0], fun _ => [])]⟩, ⟨mixed, tabOk, faS_ok, noneL2⟩, rfl, ?_⟩
      refine (fa_evn n f X es id).trans ?_
      rw [atZ_no h]
      by_cases h64 : n ≤ 64
      · have hal : alP (pA f) n = false := by
          cases e : alP (pA f) n with
          | false => rfl
          | true => exact absurd (atE_ok h64 (alP_iff.1 e)) h
        rw [decide_eq_false (by omega), cond_false, kb4_true, okP_sg, hn, req_true (b := true && true) rfl, pA_sg, atE_no h64 hal, hal]; rfl
      · rw [decide_eq_true (by omega), cond_true, atE_len (by omega)]
  | [], _, h => simp [AtF, pickM] at h
  | [_], _, h => simp [AtF, pickM] at h
  | _ :: _ :: _ :: _, _, h => simp [AtF, pickM] at h

noncomputable def ffS : Sums := [(22, AtF), (35, CBasF)]
theorem ffS_ok : SumsOk Try.prog ffS := sums_consM fa_msum (sums_cons cBa_sum sums_nil)
noncomputable def ffC : Cfg := ⟨tab, ffS, 23, []⟩
theorem ff_ev (n : Nat) (f : Nat → List Value) (X Y : Nat) (es : Nat → Nat) (id : Nat) : fnMS ffC 60 Try.f23 (bodyOf Try.f23) (cArgs [.sl kP9 n f, .pl (num X), .pl (num Y)] 0) (cMem es [.sl kP9 n f, .pl (num X), .pl (num Y)] 0) 0 id =
    atq n f (num X) fun S e => bif e != 0 then some (.tuple #[.bool false, i64 e], []) else req (isNum (num Y)) (some (.tuple #[.bool (eqV (ptV S) (ptV (basS (unnum (num Y))))), i64 0], [])) := by kernel_rfl
theorem ff_msum : MSum Try.prog 23 FtsF := by
  intro w0 R fm w hm vs args' hl mm hsub id hlt v l hpick hnew
  match vs, hl, hpick with
  | [a, x, y], hl, hpick =>
    obtain ⟨hc, rfl, rfl⟩ := pick_one hpick
    simp only [Bool.and_eq_true] at hc
    obtain ⟨⟨⟨ha, hn⟩, hx⟩, hy⟩ := hc
    generalize hqa : srcB mm kP9 a = qa at ha hn ⊢
    obtain ⟨ok1, n, f⟩ := qa
    simp only at ha hn ⊢
    subst ha
    obtain ⟨X, hX, rfl⟩ := isNum_some hx
    obtain ⟨Y, hY, rfl⟩ := isNum_some hy
    rw [unnum_lt hX, unnum_lt hY]
    have hn1 := (okP_iff.1 hn).1
    refine msum_at (c := bodyOf Try.f23) (fuel := 60) (next := 0) Try.func23 (by kernel_rfl) (by kernel_rfl) hm hl hsub hlt (A := [.sl kP9 n f, .pl (num X), .pl (num Y)]) ⟨hqa, rfl, rfl, rfl, rfl, trivial⟩ (by show 3 ≤ Try.f23.ntmps; decide +kernel) (.inl rfl) hnew (fun es => ?_)
    refine ⟨ffC, ⟨mixed, tabOk, ffS_ok, noL⟩, rfl, ?_⟩
    refine (ff_ev n f X Y es id).trans ?_
    unfold atq
    rw [kb4_true, okP_sg, hn, isNum_num, isNum_num, req_true (b := true && true && true) rfl, pA_sg, unnum_lt hX, unnum_lt hY]
    by_cases h : atE (pA f) n = 0
    · have hc := at_ck (x := X) (atE_zero h).2
      rw [h, atZ_ok h]
      dsimp only
      rw [show ((0 : Int) != 0) = false from rfl, cond_false, req_true rfl, eqV_pt (ck_okR hc) (okR_bas Y)]
      have : fiB (pA f) n X Y = decide (atR (pA f) n X = basS Y) := by
        rw [Bool.eq_iff_iff, fiB_iff, decide_eq_true_iff]
        exact ⟨fun e => e.2, fun e => ⟨h, e⟩⟩
      rw [this]
    · have hf : fiB (pA f) n X Y = false := by
        rw [Bool.eq_false_iff, ne_eq, fiB_iff]
        exact fun e => h e.1
      dsimp only
      rw [show (atE (pA f) n != 0) = true from by rw [bne_iff_ne]; exact h, cond_true, hf]
  | [], _, h => simp [FtsF, pickM] at h
  | [_], _, h => simp [FtsF, pickM] at h
  | [_, _], _, h => simp [FtsF, pickM] at h
  | _ :: _ :: _ :: _ :: _, _, h => simp [FtsF, pickM] at h

noncomputable def wk7C : Cfg := ⟨tab, [(21, CmkF 45), (23, FtsF)], 45, []⟩
theorem wk7Ok : CfgOk Try.prog wk7C (bodyOf Try.f28) := ⟨mixed, tabOk, sums_consM cmk_msum (sums_consM ff_msum sums_nil), noL⟩
theorem wk7_ev1 : fnS wk7C 60 Try.f28 (bodyOf Try.f28) [] = req (true && okV 2 wk7F && Nat.ble 2 64) (ftq 2 (ptF (cmN (nA wk7F))) (num 2) (num 11) fun y f => ftq 2 (ptF (cmN (nA wk7F))) (num 2) (num 12) fun z g => bif f == 0 then bif g == 0 then bif y then some (.bool (!z)) else some (.bool false) else some (.bool false) else some (.bool false)) := by kernel_rfl
theorem wk7_sum : Sum Try.prog 28 Wk7F := by
  refine sum_of wk7Ok Try.func28 (by kernel_rfl) (by kernel_rfl) rfl (fuel := 60) fun args v h _ => ?_
  unfold Wk7F at h
  split at h
  · simp only [Option.some.injEq, Prod.mk.injEq, true_and] at h
    subst h
    refine ⟨by show 0 ≤ Try.f28.ntmps; exact Nat.zero_le _, wk7_ev1.trans ?_, rfl⟩
    rw [wk7_ok, req_true (b := true && true && Nat.ble 2 64) rfl, ftq_ck (by omega) (fun j _ => cm_ck _ j) (by decide) (by decide), ftq_ck (by omega) (fun j _ => cm_ck _ j) (by decide) (by decide), fi_bas (by omega), fi_bas (by omega), evN_congr wk7_nA, wk7_ev]
    rfl
  · simp at h

end Go.Proofs.Ytbklbmiddacaiaa

/-
  Package feld: sums of lists of points.
-/
namespace Go.Proofs.Ytbklbmiddacaiaa
set_option maxRecDepth 100000
open Go.W

noncomputable def ca9S : Sums := [(50, PckF)]
theorem ca9S_ok : SumsOk Try.prog ca9S := sums_consM fk_msum sums_nil
noncomputable def ca9C0 : Cfg := ⟨tab, ca9S, 42, []⟩
theorem ca9_at1 : codeAt [1, 1, 0, 1, 0] (bodyOf Try.f62) = some (.loop (loopAt [1, 1, 0, 1, 0] (bodyOf Try.f62))) := by kernel_rfl
theorem ca9_at2 : codeAt [1, 1, 1, 0, 1, 0] (bodyOf Try.f62) = some (.loop (loopAt [1, 1, 1, 0, 1, 0] (bodyOf Try.f62))) := by kernel_rfl
def ca9N1 : List Nat := [0, 2, 11, 12, 13]
def ca9I : List Nat := [1500000]
def ca9St1 (n : Nat) (g : Nat → Nat × (Nat → List Value)) (er : Nat → Nat) (e0 : Nat) (r k : Int) : St :=
  ⟨[(0, aSl 0 n), (2, i64 r), (11, aSl 0 n), (12, i64 (n : Nat)), (13, i64 k)], [(1500000, ⟨.fam kP9 n er g, e0, false⟩)], 7⟩
def ca9N2 : List Nat := [2, 30, 31, 32]
def ca9St2 (n : Nat) (g : Nat → Nat × (Nat → List Value)) (er : Nat → Nat) (e0 : Nat) (r k : Int) : St :=
  ⟨[(2, i64 r), (30, aSl 0 n), (31, i64 (n : Nat)), (32, i64 k)], [(1500000, ⟨.fam kP9 n er g, e0, false⟩)], 10⟩
def rdF {α : Type} (k n : Nat) (x : Option α) : Option α := req (inR (k : Int) n) (req (Nat.blt k n && true && true) x)
theorem rdF_eq {α : Type} {k n : Nat} (h : k < n) (x : Option α) : rdF k n x = x := by unfold rdF; rw [iR h, req_true rfl, bL h, req_true (b := true && true && true) rfl]
theorem ca9_r1 (n : Nat) (g : Nat → Nat × (Nat → List Value)) (er : Nat → Nat) (e0 k : Nat) : roundS ca9C0 60 [1, 1, 0, 1, 0, 0] (loopAt [1, 1, 0, 1, 0] (bodyOf Try.f62)) ca9N1 ca9I 7 ca9N1 ca9I 7 (ca9St1 n g er e0 0 (k : Int)) =
    bif decide ((k : Int) < (n : Int)) then rdF k n (rdF 0 n (bif (((g k).1 : Nat) : Int) != (((g 0).1 : Nat) : Int) then some (.ret, ca9St1 n g er e0 4 (k : Int)) else bif decide ((((g k).1 : Nat) : Int) > 64) then some (.ret, ca9St1 n g er e0 4 (k : Int)) else some (.normal, ca9St1 n g er e0 0 (IntKind.i64.wrap ((k : Int) + 1)))))
    else some (.exit 0, ca9St1 n g er e0 0 (k : Int)) := by kernel_rfl
theorem ca9_r2 (n : Nat) (g : Nat → Nat × (Nat → List Value)) (er : Nat → Nat) (e0 k : Nat) : roundS ca9C0 60 [1, 1, 1, 0, 1, 0, 0] (loopAt [1, 1, 1, 0, 1, 0] (bodyOf Try.f62)) ca9N2 ca9I 10 ca9N2 ca9I 10 (ca9St2 n g er e0 0 (k : Int)) =
    bif decide ((k : Int) < (n : Int)) then rdF k n (req (kb4 (g k).1 && okP (g k).1 (sg9 (g k).1 (g k).2)) (bif errP (alP (pA (sg9 (g k).1 (g k).2)) (g k).1) != 0 then some (.ret, ca9St2 n g er e0 (errP (alP (pA (sg9 (g k).1 (g k).2)) (g k).1)) (k : Int)) else some (.normal, ca9St2 n g er e0 0 (IntKind.i64.wrap ((k : Int) + 1)))))
    else some (.exit 2, ca9St2 n g er e0 0 (k : Int)) := by kernel_rfl
theorem ca9_step1 {n : Nat} {g : Nat → Nat × (Nat → List Value)} {er : Nat → Nat} {e0 k : Nat} (hn : n ≤ 1000) (hk : k < n) : roundS ca9C0 60 [1, 1, 0, 1, 0, 0] (loopAt [1, 1, 0, 1, 0] (bodyOf Try.f62)) ca9N1 ca9I 7 ca9N1 ca9I 7 (ca9St1 n g er e0 0 (k : Int)) =
    @ite _ (LenB g k) (Classical.propDecidable _) (some (.normal, ca9St1 n g er e0 0 ((k + 1 : Nat) : Int))) (some (.ret, ca9St1 n g er e0 4 (k : Int))) := by
  refine (ca9_r1 n g er e0 k).trans ?_
  rw [decide_eq_true (by omega), cond_true, rdF_eq hk, rdF_eq (by omega), wrap_i64 (by omega)]
  by_cases h1 : (g k).1 = (g 0).1
  · rw [show ((((g k).1 : Nat) : Int) != (((g 0).1 : Nat) : Int)) = false from by rw [bne_eq_false_iff_eq, h1], cond_false]
    by_cases h2 : (g k).1 ≤ 64
    · rw [decide_eq_false (by omega), cond_false, if_pos ⟨h1, h2⟩]; rfl
    · rw [decide_eq_true (by omega), cond_true, if_neg (fun h => h2 h.2)]
  · rw [show ((((g k).1 : Nat) : Int) != (((g 0).1 : Nat) : Int)) = true from by rw [bne_iff_ne]; omega, cond_true, if_neg (fun h => h1 h.1)]
theorem ca9_ok1 {n : Nat} {g : Nat → Nat × (Nat → List Value)} {er : Nat → Nat} {e0 : Nat} (hn : n ≤ 1000) (hl : LstOk n g) : LoopOk Try.prog 42 (loopAt [1, 1, 0, 1, 0] (bodyOf Try.f62)) (atSt ca9N1 ca9I 7 (ca9St1 n g er e0 0 0) (.exit 0) (ca9St1 n g er e0 0 (n : Int))) := by
  refine loopE (fun _ => ca9C0) n (fun _ _ => ⟨mixed, tabOk, ca9S_ok, noL⟩) (fun _ => rfl) ca9_at1 (m := 60) (nt := ca9N1) (ni := ca9I) (et := ca9N1) (ei := ca9I) (nx := 7) (ex := 7) (fun k => ca9St1 n g er e0 0 (k : Int)) rfl (by intro h; cases h) ?_ ?_
  · intro k hk
    exact ⟨_, (ca9_step1 hn hk).trans (if_pos (hl k hk)), stEq_refl rfl⟩
  · refine ⟨_, ?_, stEq_refl rfl⟩
    refine (ca9_r1 n g er e0 n).trans ?_
    rw [decide_eq_false (by omega), cond_false]
theorem ca9_bad1 {n : Nat} {g : Nat → Nat × (Nat → List Value)} {er : Nat → Nat} {e0 k : Nat} (hn : n ≤ 1000) (hk : k < n) (hb : ¬ LenB g k) (hl : ∀ j, j < k → LenB g j) : LoopOk Try.prog 42 (loopAt [1, 1, 0, 1, 0] (bodyOf Try.f62)) (atSt ca9N1 ca9I 7 (ca9St1 n g er e0 0 0) .ret (ca9St1 n g er e0 4 (k : Int))) := by
  refine loopE (fun _ => ca9C0) k (fun _ _ => ⟨mixed, tabOk, ca9S_ok, noL⟩) (fun _ => rfl) ca9_at1 (m := 60) (nt := ca9N1) (ni := ca9I) (et := ca9N1) (ei := ca9I) (nx := 7) (ex := 7) (fun k => ca9St1 n g er e0 0 (k : Int)) rfl (by intro h; cases h) ?_ ?_
  · intro j hj
    exact ⟨_, (ca9_step1 hn (by omega)).trans (if_pos (hl j hj)), stEq_refl rfl⟩
  · exact ⟨_, (ca9_step1 hn hk).trans (if_neg hb), stEq_refl rfl⟩
theorem ca9_step2 {n : Nat} {g : Nat → Nat × (Nat → List Value)} {er : Nat → Nat} {e0 k : Nat} (hn : n ≤ 1000) (hk : k < n) (ho : okP (g k).1 (g k).2 = true) : roundS ca9C0 60 [1, 1, 1, 0, 1, 0, 0] (loopAt [1, 1, 1, 0, 1, 0] (bodyOf Try.f62)) ca9N2 ca9I 10 ca9N2 ca9I 10 (ca9St2 n g er e0 0 (k : Int)) =
    bif alP (pA (g k).2) (g k).1 then some (.normal, ca9St2 n g er e0 0 ((k + 1 : Nat) : Int)) else some (.ret, ca9St2 n g er e0 3 (k : Int)) := by
  refine (ca9_r2 n g er e0 k).trans ?_
  rw [decide_eq_true (by omega), cond_true, rdF_eq hk, kb4_true, okP_sg, ho, req_true (b := true && true) rfl, pA_sg, wrap_i64 (by omega)]
  cases alP (pA (g k).2) (g k).1 <;> rfl
theorem ca9_ok2 {n : Nat} {g : Nat → Nat × (Nat → List Value)} {er : Nat → Nat} {e0 : Nat} (hn : n ≤ 1000) (ho : ∀ j, j < n → okP (g j).1 (g j).2 = true) (ha : AllP n g) : LoopOk Try.prog 42 (loopAt [1, 1, 1, 0, 1, 0] (bodyOf Try.f62)) (atSt ca9N2 ca9I 10 (ca9St2 n g er e0 0 0) (.exit 2) (ca9St2 n g er e0 0 (n : Int))) := by
  refine loopE (fun _ => ca9C0) n (fun _ _ => ⟨mixed, tabOk, ca9S_ok, noL⟩) (fun _ => rfl) ca9_at2 (m := 60) (nt := ca9N2) (ni := ca9I) (et := ca9N2) (ei := ca9I) (nx := 10) (ex := 10) (fun k => ca9St2 n g er e0 0 (k : Int)) rfl (by intro h; cases h) ?_ ?_
  · intro k hk
    exact ⟨_, (ca9_step2 hn hk (ho k hk)).trans (by rw [ha k hk, cond_true]), stEq_refl rfl⟩
  · refine ⟨_, ?_, stEq_refl rfl⟩
    refine (ca9_r2 n g er e0 n).trans ?_
    rw [decide_eq_false (by omega), cond_false]
theorem ca9_bad2 {n : Nat} {g : Nat → Nat × (Nat → List Value)} {er : Nat → Nat} {e0 k : Nat} (hn : n ≤ 1000) (ho : ∀ j, j < n → okP (g j).1 (g j).2 = true) (hk : k < n) (hb : alP (pA (g k).2) (g k).1 = false) (ha : ∀ j, j < k → alP (pA (g j).2) (g j).1 = true) : LoopOk Try.prog 42 (loopAt [1, 1, 1, 0, 1, 0] (bodyOf Try.f62)) (atSt ca9N2 ca9I 10 (ca9St2 n g er e0 0 0) .ret (ca9St2 n g er e0 3 (k : Int))) := by
  refine loopE (fun _ => ca9C0) k (fun _ _ => ⟨mixed, tabOk, ca9S_ok, noL⟩) (fun _ => rfl) ca9_at2 (m := 60) (nt := ca9N2) (ni := ca9I) (et := ca9N2) (ei := ca9I) (nx := 10) (ex := 10) (fun k => ca9St2 n g er e0 0 (k : Int)) rfl (by intro h; cases h) ?_ ?_
  · intro j hj
    exact ⟨_, (ca9_step2 hn (by omega) (ho j (by omega))).trans (by rw [ha j hj, cond_true]), stEq_refl rfl⟩
  · exact ⟨_, (ca9_step2 hn hk (ho k hk)).trans (by rw [hb, cond_false]), stEq_refl rfl⟩
noncomputable def ca9C (n : Nat) (g : Nat → Nat × (Nat → List Value)) (er : Nat → Nat) (e0 : Nat) (e1 : Exit) (r1 : Int) (k1 : Nat) (e2 : Exit) (r2 : Int) (k2 : Nat) : Cfg := ⟨tab, ca9S, 42, [([1, 1, 0, 1, 0], atSt ca9N1 ca9I 7 (ca9St1 n g er e0 0 0) e1 (ca9St1 n g er e0 r1 (k1 : Int))), ([1, 1, 1, 0, 1, 0], atSt ca9N2 ca9I 10 (ca9St2 n g er e0 0 0) e2 (ca9St2 n g er e0 r2 (k2 : Int)))]⟩
noncomputable def ca9q {α : Type} (n : Nat) (g : Nat → Nat × (Nat → List Value)) (er : Nat → Nat) (e0 : Nat) (k : Option α) : Option α := req (stEq (ca9St1 n g er e0 0 0) (ca9St1 n g er e0 0 0)) k
noncomputable def ca9q2 {α : Type} (n : Nat) (g : Nat → Nat × (Nat → List Value)) (er : Nat → Nat) (e0 : Nat) (k : Option α) : Option α := req (stEq (ca9St2 n g er e0 0 0) (ca9St2 n g er e0 0 0)) k
theorem ca9_ev0 (n : Nat) (g : Nat → Nat × (Nat → List Value)) (es : Nat → Nat) (er : Nat → Nat → Nat) (k1 k2 id : Nat) : fnMS (ca9C n g (er 0) (es 0) (.exit 0) 0 k1 (.exit 2) 0 k2) 60 Try.f62 (bodyOf Try.f62) (cArgsF [.fm kP9 n g] 0) (cMemF es er [.fm kP9 n g] 0) 0 id =
    bif decide ((n : Int) > 8) then some (i64 4, []) else ca9q n g (er 0) (es 0) (ca9q2 n g (er 0) (es 0) (some (i64 0, []))) := by kernel_rfl
theorem ca9_ev3 (n : Nat) (g : Nat → Nat × (Nat → List Value)) (es : Nat → Nat) (er : Nat → Nat → Nat) (k1 k2 id : Nat) : fnMS (ca9C n g (er 0) (es 0) (.exit 0) 0 k1 .ret 3 k2) 60 Try.f62 (bodyOf Try.f62) (cArgsF [.fm kP9 n g] 0) (cMemF es er [.fm kP9 n g] 0) 0 id =
    bif decide ((n : Int) > 8) then some (i64 4, []) else ca9q n g (er 0) (es 0) (ca9q2 n g (er 0) (es 0) (some (i64 3, []))) := by kernel_rfl
theorem ca9_ev4 (n : Nat) (g : Nat → Nat × (Nat → List Value)) (es : Nat → Nat) (er : Nat → Nat → Nat) (k1 id : Nat) : fnMS ⟨tab, ca9S, 42, [([1, 1, 0, 1, 0], atSt ca9N1 ca9I 7 (ca9St1 n g (er 0) (es 0) 0 0) .ret (ca9St1 n g (er 0) (es 0) 4 (k1 : Int)))]⟩ 60 Try.f62 (bodyOf Try.f62) (cArgsF [.fm kP9 n g] 0) (cMemF es er [.fm kP9 n g] 0) 0 id =
    bif decide ((n : Int) > 8) then some (i64 4, []) else ca9q n g (er 0) (es 0) (some (i64 4, [])) := by kernel_rfl
theorem ca9_evb (n : Nat) (g : Nat → Nat × (Nat → List Value)) (es : Nat → Nat) (er : Nat → Nat → Nat) (id : Nat) : fnMS ⟨tab, ca9S, 42, [([1, 1, 0, 1, 0], fun _ => [])]⟩ 60 Try.f62 (bodyOf Try.f62) (cArgsF [.fm kP9 n g] 0) (cMemF es er [.fm kP9 n g] 0) 0 id =
    bif decide ((n : Int) > 8) then some (i64 4, []) else none := by kernel_rfl
theorem ca9_msum : MSum Try.prog 62 CkaF := by
  intro w0 R fm w hm vs args' hl mm hsub id hlt v l hpick hnew
  match vs, hl, hpick with
  | [a], hl, hpick =>
    obtain ⟨hc, rfl, rfl⟩ := pick_one hpick
    simp only [Bool.and_eq_true] at hc
    obtain ⟨ha, hn⟩ := hc
    generalize hqa : srcF mm kP9 a = qa at ha hn ⊢
    obtain ⟨ok1, n, g⟩ := qa
    simp only at ha hn ⊢
    subst ha
    obtain ⟨hn1, ho⟩ := okFm_iff.1 hn
    refine msum_atF (c := (bodyOf Try.f62)) (fuel := 60) (next := 0) Try.func62 (by kernel_rfl) (by kernel_rfl) hm hl hsub hlt (A := [.fm kP9 n g]) ⟨hqa, trivial⟩ (by show 1 ≤ Try.f62.ntmps; decide +kernel) (.inl rfl) hnew (fun es er => ?_)
    by_cases hb : 8 < n
    · refine ⟨_, ⟨mixed, tabOk, ca9S_ok, noneL2⟩, rfl, (ca9_evb n g es er id).trans ?_⟩
      rw [decide_eq_true (by omega), cond_true, smE_big g hb]
    have hd : decide ((n : Int) > 8) = false := decide_eq_false (by omega)
    have ho := ho (by omega)
    by_cases h1 : LstOk n g
    · by_cases h2 : AllP n g
      · refine ⟨_, ⟨mixed, tabOk, ca9S_ok, consL (ca9_ok1 hn1 h1) (oneL (ca9_ok2 hn1 ho h2))⟩, rfl, (ca9_ev0 n g es er n n id).trans ?_⟩
        unfold ca9q ca9q2
        rw [hd, cond_false, req_true (stEq_refl rfl), req_true (stEq_refl rfl), smE_ok (by omega) h1 h2]
      · obtain ⟨k, hk, hb, ha⟩ := first_out n h2
        refine ⟨_, ⟨mixed, tabOk, ca9S_ok, consL (ca9_ok1 hn1 h1) (oneL (ca9_bad2 hn1 ho hk (by rw [Bool.eq_false_iff]; exact hb) ha))⟩, rfl, (ca9_ev3 n g es er n k id).trans ?_⟩
        unfold ca9q ca9q2
        rw [hd, cond_false, req_true (stEq_refl rfl), req_true (stEq_refl rfl), smE_no (by omega) h1 h2]
    · obtain ⟨k, hk, hb, ha⟩ := first_out n h1
      refine ⟨_, ⟨mixed, tabOk, ca9S_ok, oneL (ca9_bad1 hn1 hk hb ha)⟩, rfl, (ca9_ev4 n g es er k id).trans ?_⟩
      unfold ca9q
      rw [hd, cond_false, req_true (stEq_refl rfl), smE_len h1]
  | [], _, h => simp [CkaF, pickM] at h
  | _ :: _ :: _, _, h => simp [CkaF, pickM] at h

end Go.Proofs.Ytbklbmiddacaiaa

/-
  Package feld: Sum.
-/
namespace Go.Proofs.Ytbklbmiddacaiaa
set_option maxRecDepth 100000
open Go.W

noncomputable def smS : Sums := [(62, CkaF), (63, CAddF)]
theorem smS_ok : SumsOk Try.prog smS := sums_consM ca9_msum (sums_cons cAd_sum sums_nil)
noncomputable def smC0 : Cfg := ⟨tab, smS, 57, []⟩
theorem sm_at1 : codeAt [1, 1, 1, 1, 1, 0, 1, 0] (bodyOf Try.f33) = some (.loop (loopAt [1, 1, 1, 1, 1, 0, 1, 0] (bodyOf Try.f33))) := by kernel_rfl
theorem sm_at2 : codeAt [1, 1, 1, 1, 1, 0, 1, 0, 0, 1, 1, 0, 0, 1, 1, 0] (bodyOf Try.f33) = some (.loop (loopAt [1, 1, 1, 1, 1, 0, 1, 0, 0, 1, 1, 0, 0, 1, 1, 0] (bodyOf Try.f33))) := by kernel_rfl
def smB : Nat := nid 14 0
def smT : Nat := nid 22 0
def smR : Nat := nid 27 0
def smN1 : List Nat := [5, 29, 30, 31]
def smI1 : List Nat := [smB, smT, 1500000]
def smN2 : List Nat := [5, 29, 30, 31, 35, 36, 37]
def smI2 : List Nat := [smB, smT, smR, 1500000]
structure SmP where
  q : Nat
  g : Nat → Nat × (Nat → List Value)
  er : Nat → Nat
  e0 : Nat
  m : Nat
def smSt (p : SmP) (U : Nat → List Value) (k : Int) : St :=
  ⟨[(5, .slice (some ⟨smB, 0, none⟩) p.m p.m), (29, .slice (some ⟨smT, 0, none⟩) p.q p.q), (30, i64 (p.q : Nat)), (31, i64 k)], [(smB, ⟨.row kP9 p.m U, 45, true⟩), (smT, ⟨.tail 1500000 1 p.q 1, 40, false⟩), (1500000, ⟨.fam kP9 (p.q + 1) p.er p.g, p.e0, false⟩)], 25⟩
def snSt (p : SmP) (U : Nat → List Value) (k : Int) (L : Nat) (V : Nat → List Value) (e1 : Nat) (j : Int) : St :=
  ⟨[(5, .slice (some ⟨smB, 0, none⟩) p.m p.m), (29, .slice (some ⟨smT, 0, none⟩) p.q p.q), (30, i64 (p.q : Nat)), (31, i64 k), (35, .slice (some ⟨smR, 0, none⟩) L L), (36, i64 (L : Nat)), (37, i64 j)], [(smB, ⟨.row kP9 p.m U, 45, true⟩), (smT, ⟨.tail 1500000 1 p.q 1, 40, false⟩), (smR, ⟨.row kP9 L V, e1, false⟩), (1500000, ⟨.fam kP9 (p.q + 1) p.er p.g, p.e0, false⟩)], 32⟩
theorem sn_r (p : SmP) (U : Nat → RP) (k : Int) (L : Nat) (V : Nat → RP) (e1 j : Nat) : roundS smC0 60 [1, 1, 1, 1, 1, 0, 1, 0, 0, 1, 1, 0, 0, 1, 1, 0, 0] (loopAt [1, 1, 1, 1, 1, 0, 1, 0, 0, 1, 1, 0, 0, 1, 1, 0] (bodyOf Try.f33)) smN2 smI2 32 smN2 smI2 32 (snSt p (ptF U) k L (ptF V) e1 (j : Int)) =
    bif decide ((j : Int) < (L : Int)) then rdR j L (rdR j p.m (req (isPt (ptV (U (0 + j))) && isPt (ptV (V (0 + j)))) (rdR j p.m
      (some (.normal, snSt p (updR (ptF U) (0 + j) (ptC (if (ckR (unPt (ptV (U (0 + j)))) && ckR (unPt (ptV (V (0 + j))))) = true then addS (unPt (ptV (U (0 + j)))) (unPt (ptV (V (0 + j)))) else zR))) k L (ptF V) e1 (IntKind.i64.wrap ((j : Int) + 1)))))))
    else some (.exit 2, snSt p (ptF U) k L (ptF V) e1 (j : Int)) := by kernel_rfl
noncomputable def smK (p : SmP) (U : Nat → RP) (k : Nat) (V : Nat → RP) : Cfg := ⟨tab, smS, 57, [([1, 1, 1, 1, 1, 0, 1, 0, 0, 1, 1, 0, 0, 1, 1, 0], atSt smN2 smI2 32 (snSt p (ptF (suP U V 0)) (k : Int) (p.g (1 + k)).1 (ptF V) (p.er (1 + k)) 0) (.exit 2) (snSt p (ptF (suP U V p.m)) (k : Int) (p.g (1 + k)).1 (ptF V) (p.er (1 + k)) ((p.g (1 + k)).1 : Int)))]⟩
noncomputable def smKn : Cfg := ⟨tab, smS, 57, [([1, 1, 1, 1, 1, 0, 1, 0, 0, 1, 1, 0, 0, 1, 1, 0], fun _ => [])]⟩
theorem sm_r (p : SmP) (U : Nat → RP) (k : Nat) (V : Nat → RP) : roundS (smK p U k V) 60 [1, 1, 1, 1, 1, 0, 1, 0, 0] (loopAt [1, 1, 1, 1, 1, 0, 1, 0] (bodyOf Try.f33)) smN1 smI1 25 smN1 smI1 25 (smSt p (ptF U) (k : Int)) =
    bif decide ((k : Int) < (p.q : Int)) then req (inR (k : Int) p.q) (req (Nat.blt k p.q && Nat.blt (1 + k) (p.q + 1) && true && true) (req (stEq (snSt p (ptF U) (k : Int) (p.g (1 + k)).1 (p.g (1 + k)).2 (p.er (1 + k)) 0) (snSt p (ptF (suP U V 0)) (k : Int) (p.g (1 + k)).1 (ptF V) (p.er (1 + k)) 0)) (some (.normal, smSt p (ptF (suP U V p.m)) (IntKind.i64.wrap ((k : Int) + 1))))))
    else some (.exit 0, smSt p (ptF U) (k : Int)) := by kernel_rfl
theorem sm_out (p : SmP) (U : Nat → RP) (k : Nat) : roundS smKn 60 [1, 1, 1, 1, 1, 0, 1, 0, 0] (loopAt [1, 1, 1, 1, 1, 0, 1, 0] (bodyOf Try.f33)) smN1 smI1 25 smN1 smI1 25 (smSt p (ptF U) (k : Int)) =
    bif decide ((k : Int) < (p.q : Int)) then req (inR (k : Int) p.q) (req (Nat.blt k p.q && Nat.blt (1 + k) (p.q + 1) && true && true) none)
    else some (.exit 0, smSt p (ptF U) (k : Int)) := by kernel_rfl
theorem sn_loop {p : SmP} {U V : Nat → RP} {k : Int} {e1 : Nat} (hm : p.m ≤ 1000) (hU : ∀ j, j < p.m → ckR (U j) = true) (hV : ∀ j, j < p.m → ckR (V j) = true) : LoopOk Try.prog 57 (loopAt [1, 1, 1, 1, 1, 0, 1, 0, 0, 1, 1, 0, 0, 1, 1, 0] (bodyOf Try.f33)) (atSt smN2 smI2 32 (snSt p (ptF (suP U V 0)) k p.m (ptF V) e1 0) (.exit 2) (snSt p (ptF (suP U V p.m)) k p.m (ptF V) e1 (p.m : Int))) := by
  refine loopE (fun _ => smC0) p.m (fun _ _ => ⟨mixed, tabOk, smS_ok, noL⟩) (fun _ => rfl) sm_at2 (m := 60) (nt := smN2) (ni := smI2) (et := smN2) (ei := smI2) (nx := 32) (ex := 32) (fun j => snSt p (ptF (suP U V j)) k p.m (ptF V) e1 (j : Int)) rfl (by intro h; cases h) ?_ ?_
  · intro j hj
    refine ⟨snSt p (updR (ptF (suP U V j)) j (ptC (addS (U j) (V j)))) k p.m (ptF V) e1 ((j + 1 : Nat) : Int), ?_, stEq_mk rfl (mRow suP_row (mSame rfl (mSame rfl (mSame rfl mNil))))⟩
    refine (sn_r p _ k p.m V e1 j).trans ?_
    have e : suP U V j j = U j := by unfold suP; rw [if_neg (by omega)]
    rw [decide_eq_true (by omega), cond_true, rdR_eq hj, rdR_eq hj, isPt_ptV, isPt_ptV, req_true (b := true && true) rfl, rdR_eq hj, Nat.zero_add, e, unPt_ptV (ck_okR (hU j hj)), unPt_ptV (ck_okR (hV j hj)), hU j hj, hV j hj, if_pos (show (true && true) = true from rfl), wrap_i64 (by omega)]; rfl
  · refine ⟨_, ?_, stEq_refl rfl⟩
    refine (sn_r p _ k p.m V e1 p.m).trans ?_
    rw [decide_eq_false (by omega), cond_false]
theorem sm_loop {p : SmP} (hq : p.q + 1 ≤ 8) (hp : p.m = (p.g 0).1) (ho : ∀ j, j < p.q + 1 → okP (p.g j).1 (p.g j).2 = true) (hl : LstOk (p.q + 1) p.g) (ha : AllP (p.q + 1) p.g) : LoopOk Try.prog 57 (loopAt [1, 1, 1, 1, 1, 0, 1, 0] (bodyOf Try.f33)) (atSt smN1 smI1 25 (smSt p (ptF (sgN p.g 0)) 0) (.exit 0) (smSt p (ptF (sgN p.g p.q)) (p.q : Int))) := by
  have hm : p.m ≤ 64 := by rw [hp]; exact (hl 0 (by omega)).2
  refine loopE (fun k => if k < p.q then smK p (sgN p.g k) k (pA (p.g (1 + k)).2) else smKn) p.q ?_ (fun k => by by_cases h : k < p.q <;> simp only [h, if_true, if_false] <;> rfl) sm_at1 (m := 60) (nt := smN1) (ni := smI1) (et := smN1) (ei := smI1) (nx := 25) (ex := 25) (fun k => smSt p (ptF (sgN p.g k)) (k : Int)) rfl (by intro h; cases h) ?_ ?_
  · intro k _
    by_cases h : k < p.q
    · rw [if_pos h]
      have hL : (p.g (1 + k)).1 = p.m := by rw [hp]; exact (hl (1 + k) (by omega)).1
      refine ⟨mixed, tabOk, smS_ok, oneL ?_⟩
      rw [hL]
      exact sn_loop (by omega) (fun j hj => sgN_ck hl ha k (by omega) j (by rw [← hp]; exact hj)) (fun j hj => alP_iff.1 (ha (1 + k) (by omega)) j (by rw [hL]; exact hj))
    · rw [if_neg h]; exact ⟨mixed, tabOk, smS_ok, noneL2⟩
  · intro k hk
    rw [if_pos hk]
    refine ⟨smSt p (ptF (suP (sgN p.g k) (pA (p.g (1 + k)).2) p.m)) ((k + 1 : Nat) : Int), ?_, stEq_mk rfl (mRow (fun j hj => ?_) (mSame rfl (mSame rfl mNil)))⟩
    · refine (sm_r p _ k _).trans ?_
      rw [decide_eq_true (by omega), cond_true, iR hk, req_true rfl, bL hk, bL (show 1 + k < p.q + 1 by omega), req_true (b := true && true && true && true) rfl, wrap_i64 (by omega)]
      refine (req_true (stEq_mk rfl (mRow (fun j hj => ?_) (mSame rfl (mRow (row_pt (ho (1 + k) (by omega))) (mSame rfl mNil)))))).trans rfl
      show nrmK kP9 (ptC _) = nrmK kP9 (ptC _)
      rw [suP_start]
    · show nrmK kP9 (ptC (suP (sgN p.g k) (pA (p.g (1 + k)).2) p.m j)) = nrmK kP9 (ptC (sgN p.g (k + 1) j))
      congr 2
      unfold suP
      rw [if_pos hj, Nat.add_comm 1 k]; rfl
  · rw [if_neg (by omega)]
    refine ⟨_, ?_, stEq_refl rfl⟩
    refine (sm_out p _ p.q).trans ?_
    rw [decide_eq_false (by omega), cond_false]
noncomputable def smC (p : SmP) (U D : Nat → RP) : Cfg := ⟨tab, smS, 57, [([1, 1, 1, 1, 1, 0, 1, 0], atSt smN1 smI1 25 (smSt p (ptF U) 0) (.exit 0) (smSt p (ptF D) (p.q : Int)))]⟩
def smCp (L : Nat) (V : Nat → List Value) : Nat → List Value := cpyF (fun _ => z9) 0 (min L L) (sg9 L V)
noncomputable def smq (n L : Nat) (k : Option (Value × List (Nat × Blk))) : Option (Value × List (Nat × Blk)) :=
  rdF 0 n (req (mk9 (L : Int)) (rdF 0 n (req (true && Nat.ble L L && true) (req (true && true && Nat.ble L L && true) (req (true && decide ((1 : Int) ≤ (n : Int))) (req (Nat.ble n n) k))))))
noncomputable def smH (n : Nat) (g : Nat → Nat × (Nat → List Value)) (k : Option (Value × List (Nat × Blk))) : Option (Value × List (Nat × Blk)) :=
  req (kb4 n && okFm n g) (bif smE n g != 0 then some (.tuple #[.slice none 0 0, i64 (smE n g)], []) else bif ((n : Int) == 0) then some (.tuple #[.slice none 0 0, i64 0], []) else smq n (g 0).1 k)
theorem sm_evn (n : Nat) (g : Nat → Nat × (Nat → List Value)) (es : Nat → Nat) (er : Nat → Nat → Nat) (id : Nat) : fnMS ⟨tab, smS, 57, [([1, 1, 1, 1, 1, 0, 1, 0], fun _ => [])]⟩ 60 Try.f33 (bodyOf Try.f33) (cArgsF [.fm kP9 n g] 0) (cMemF es er [.fm kP9 n g] 0) 0 id =
    smH n g none := by kernel_rfl
theorem sm_evk (q : Nat) (g : Nat → Nat × (Nat → List Value)) (U D : Nat → RP) (es : Nat → Nat) (er : Nat → Nat → Nat) (id : Nat) : fnMS (smC ⟨q, g, er 0, es 0, (g 0).1⟩ U D) 60 Try.f33 (bodyOf Try.f33) (cArgsF [.fm kP9 (q + 1) g] 0) (cMemF es er [.fm kP9 (q + 1) g] 0) 0 id =
    smH (q + 1) g (req (stEq (smSt ⟨q, g, er 0, es 0, (g 0).1⟩ (smCp (g 0).1 (g 0).2) 0) (smSt ⟨q, g, er 0, es 0, (g 0).1⟩ (ptF U) 0)) (req (Nat.ble (g 0).1 (g 0).1) (some (.tuple #[nSl id (g 0).1, i64 0], rw9 45 id (g 0).1 (ptF D))))) := by kernel_rfl
theorem smCp_row {L : Nat} {V : Nat → List Value} (h : okP L V = true) : ∀ j, j < L → nrmK kP9 (smCp L V j) = nrmK kP9 (ptF (pA V) j) := by
  intro j hj
  unfold smCp cpyF
  rw [Nat.min_self, show Nat.ble 0 j = true from bE (Nat.zero_le _), bL (show j < 0 + L by omega), Bool.true_and, cond_true, Nat.sub_zero]
  have e : nrmK kP9 (sg9 L V j) = nrmK kP9 (ptF (pA (sg9 L V)) j) := row_pt (by rw [okP_sg]; exact h) j hj
  rw [pA_sg] at e
  exact e
theorem smH_n {n : Nat} {g : Nat → Nat × (Nat → List Value)} (h : okFm n g = true) (he : smE n g ≠ 0) (k : Option (Value × List (Nat × Blk))) : smH n g k = some (.tuple #[.slice none 0 0, i64 (smE n g)], []) := by
  unfold smH
  rw [kb4_true, h, req_true (b := true && true) rfl, show (smE n g != 0) = true from by rw [bne_iff_ne]; exact he, cond_true]
theorem smH_k {q : Nat} {g : Nat → Nat × (Nat → List Value)} (h : okFm (q + 1) g = true) (he : smE (q + 1) g = 0) (hL : (g 0).1 ≤ 1000) (k : Option (Value × List (Nat × Blk))) : smH (q + 1) g k = k := by
  unfold smH smq
  rw [kb4_true, h, req_true (b := true && true) rfl, he, show ((0 : Int) != 0) = false from rfl, cond_false, show (((q + 1 : Nat) : Int) == 0) = false from by rw [beq_eq_false_iff_ne]; omega, cond_false, rdF_eq (by omega), mk9_true (by omega), req_true rfl, rdF_eq (by omega), bE (Nat.le_refl _), req_true (b := true && true && true) rfl, req_true (b := true && true && true && true) rfl, decide_eq_true (by omega), req_true (b := true && true) rfl, bE (Nat.le_refl _), req_true rfl]
theorem smk_msum : MSum Try.prog 33 (SumkF 45) := by
  intro w0 R fm w hm vs args' hl mm hsub id hlt v l hpick hnew
  match vs, hl, hpick with
  | [a], hl, hpick =>
    obtain ⟨hc, rfl, rfl⟩ := pick_one hpick
    simp only [Bool.and_eq_true, beq_iff_eq] at hc
    obtain ⟨⟨⟨ha, hn⟩, he⟩, h1⟩ := hc
    generalize hqa : srcF mm kP9 a = qa at ha hn he h1 hnew ⊢
    obtain ⟨ok1, n, g⟩ := qa
    simp only at ha hn he h1 hnew ⊢
    subst ha
    have h1 := Nat.le_of_ble_eq_true h1
    obtain ⟨q, rfl⟩ : ∃ q, n = q + 1 := ⟨n - 1, by omega⟩
    obtain ⟨h8, hlen, hal⟩ := smE_zero he
    have ho := (okFm_iff.1 hn).2 h8
    refine msum_atF (c := (bodyOf Try.f33)) (fuel := 60) (next := 0) Try.func33 (by kernel_rfl) (by kernel_rfl) hm hl hsub hlt (A := [.fm kP9 (q + 1) g]) ⟨hqa, trivial⟩ (by show 1 ≤ Try.f33.ntmps; decide +kernel) (.inr ⟨_, rfl⟩) hnew (fun es er => ?_)
    refine ⟨smC ⟨q, g, er 0, es 0, (g 0).1⟩ (sgN g 0) (sgN g q), ⟨mixed, tabOk, smS_ok, oneL (sm_loop h8 rfl ho hlen hal)⟩, rfl, (sm_evk q g _ _ es er id).trans ?_⟩
    rw [smH_k hn he (by have := (hlen 0 (by omega)).2; omega)]
    refine Eq.trans (req_true (stEq_mk rfl (mRow (smCp_row (ho 0 (by omega))) (mSame rfl (mSame rfl mNil))))) ?_
    rw [bE (Nat.le_refl _), req_true rfl]; rfl
  | [], _, h => simp [SumkF, pickM] at h
  | _ :: _ :: _, _, h => simp [SumkF, pickM] at h
theorem smn_msum : MSum Try.prog 33 SumnF := by
  intro w0 R fm w hm vs args' hl mm hsub id hlt v l hpick hnew
  match vs, hl, hpick with
  | [a], hl, hpick =>
    obtain ⟨hc, rfl, rfl⟩ := pick_one hpick
    simp only [Bool.and_eq_true, bne_iff_ne] at hc
    obtain ⟨⟨ha, hn⟩, he⟩ := hc
    generalize hqa : srcF mm kP9 a = qa at ha hn he ⊢
    obtain ⟨ok1, n, g⟩ := qa
    simp only at ha hn he ⊢
    subst ha
    refine msum_atF (c := (bodyOf Try.f33)) (fuel := 60) (next := 0) Try.func33 (by kernel_rfl) (by kernel_rfl) hm hl hsub hlt (A := [.fm kP9 n g]) ⟨hqa, trivial⟩ (by show 1 ≤ Try.f33.ntmps; decide +kernel) (.inl rfl) hnew (fun es er => ?_)
    refine ⟨_, ⟨mixed, tabOk, smS_ok, noneL2⟩, rfl, (sm_evn n g es er id).trans ?_⟩
    exact smH_n hn he none
  | [], _, h => simp [SumnF, pickM] at h
  | _ :: _ :: _, _, h => simp [SumnF, pickM] at h
theorem smz_msum : MSum Try.prog 33 SumzF := by
  intro w0 R fm w hm vs args' hl mm hsub id hlt v l hpick hnew
  match vs, hl, hpick with
  | [a], hl, hpick =>
    obtain ⟨hc, rfl, rfl⟩ := pick_one hpick
    simp only [Bool.and_eq_true] at hc
    obtain ⟨ha, h0⟩ := hc
    generalize hqa : srcF mm kP9 a = qa at ha h0
    obtain ⟨ok1, n, g⟩ := qa
    simp only at ha h0
    subst ha
    have h0 : n = 0 := Nat.eq_of_beq_eq_true h0
    subst h0
    refine msum_atF (c := (bodyOf Try.f33)) (fuel := 60) (next := 0) Try.func33 (by kernel_rfl) (by kernel_rfl) hm hl hsub hlt (A := [.fm kP9 0 g]) ⟨hqa, trivial⟩ (by show 1 ≤ Try.f33.ntmps; decide +kernel) (.inl rfl) hnew (fun es er => ?_)
    refine ⟨_, ⟨mixed, tabOk, smS_ok, noneL2⟩, rfl, (sm_evn 0 g es er id).trans ?_⟩
    have ho : okFm 0 g = true := okFm_iff.2 ⟨by omega, fun _ j hj => absurd hj (by omega)⟩
    have he : smE 0 g = 0 := smE_ok (by omega) (fun j hj => absurd hj (by omega)) (fun j hj => absurd hj (by omega))
    unfold smH
    rw [kb4_true, ho, req_true (b := true && true) rfl, he]; rfl
  | [], _, h => simp [SumzF, pickM] at h
  | _ :: _ :: _, _, h => simp [SumzF, pickM] at h

end Go.Proofs.Ytbklbmiddacaiaa
