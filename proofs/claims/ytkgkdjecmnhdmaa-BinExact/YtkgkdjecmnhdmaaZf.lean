/-
  Several texts in one: Vc M83 Vd.
-/
import Derived.Test.YtkgkdjecmnhdmaaZe
namespace Go.Proofs.Ytkgkdjecmnhdmaa
set_option maxRecDepth 100000
open Go.W
def iszC : Cfg := ⟨tab, [], 9, []⟩
theorem iszOk : CfgOk Try.prog iszC (bodyOf Try.f19) := ⟨mixed, tabOk, sums_nil, noL⟩
theorem isz_ev (s : Int) : fnS iszC 60 Try.f19 (bodyOf Try.f19) [i64 s] = bif decide (1 ≤ s) then some (.bool (decide (s ≤ 7))) else some (.bool false) := by kernel_rfl
theorem isz_sum : Sum Try.prog 19 IszF := by
  refine sum_of iszOk Try.func19 (by kernel_rfl) (by kernel_rfl) rfl (fuel := 60) fun args v h hpl => ?_
  unfold IszF at h
  split at h
  · simp only [Option.some.injEq, Prod.mk.injEq] at h
    rename_i s
    obtain ⟨_, rfl⟩ := h
    refine ⟨by show 1 ≤ Try.f19.ntmps; decide +kernel, (isz_ev s).trans ?_, rfl⟩
    cases decide (1 ≤ s) <;> rfl
  · simp at h
def copC : Cfg := ⟨tab, [], 17, []⟩
theorem copOk : CfgOk Try.prog copC (bodyOf Try.f21) := ⟨mixed, tabOk, sums_nil, noL⟩
theorem cop_ev (m : Nat) (g : Nat → List Value) (k : Int) (es : Nat → Nat) (id : Nat) : fnMS copC 60 Try.f21 (bodyOf Try.f21) (cArgs [.sl kB m g, .pl (i64 k)] 0) (cMem es [.sl kB m g, .pl (i64 k)] 0) 0 id =
    req (mkC (m : Int) (IntKind.i64.wrap ((m : Int) + k))) (req (kb3 m) (req (kb3 m) (req (Nat.ble m m) (some (nSl id m, rw1 5 id m (cpR m g)))))) := by kernel_rfl
theorem cop_msum : MSum Try.prog 21 (CopF 5) := by
  refine msum_of copOk Try.func21 (by kernel_rfl) (by kernel_rfl) rfl (fuel := 60) (next := 0) fun vs mm id v l hpick hlt => ?_
  unfold CopF at hpick
  split at hpick
  · rename_i b k
    obtain ⟨hc, rfl, rfl⟩ := pick_one hpick
    simp only [Bool.and_eq_true, decide_eq_true_eq] at hc
    obtain ⟨ha, hm, h0, h1⟩ := hc
    generalize hqa : srcB mm kB b = qa at ha hm ⊢
    obtain ⟨ok1, m, g⟩ := qa
    simp only at ha hm ⊢
    subst ha
    have hm := Nat.le_of_ble_eq_true hm
    refine ⟨[.sl kB m g, .pl (i64 k)], ⟨hqa, rfl, rfl, trivial⟩, by show 2 ≤ Try.f21.ntmps; decide +kernel, .inr ⟨_, rfl⟩, fun es => ?_⟩
    refine (cop_ev m g k es id).trans ?_
    rw [mkC_true h0 (by omega), req_true rfl, kb3_true, req_true rfl, req_true rfl, bE (Nat.le_refl _), req_true rfl]
  · simp [pickM] at hpick
def laiC0 : Cfg := ⟨tab, [], 23, []⟩
theorem laiOk0 : CfgOk Try.prog laiC0 (bodyOf Try.f20) := ⟨mixed, tabOk, sums_nil, noL⟩
theorem lai_at : codeAt [1, 0, 1, 0] (bodyOf Try.f20) = some (.loop (loopAt [1, 0, 1, 0] (bodyOf Try.f20))) := by kernel_rfl
def laiNt : List Nat := [0, 1, 7]
def laiNi : Ren := [(999999, nid 13 0), (1400000, 1400000)]
def laiEi : Ren := [(999999, 999999), (1400000, 1400000)]
def laiSt (n : Int) (L : Nat) (F : Nat → List Value) (i : Int) : St := ⟨[(0, .slice (some ⟨999999, 0, none⟩) L L), (1, i64 n), (7, i64 i)], [(999999, ⟨.row kB L F, 5, true⟩), (1400000, ⟨.lst [], 5, false⟩)], 4⟩
theorem lai_r (n : Int) (L : Nat) (F : Nat → List Value) (i : Int) : roundS laiC0 60 [1, 0, 1, 0, 0] (loopAt [1, 0, 1, 0] (bodyOf Try.f20)) laiNt laiNi 4 laiNt laiEi 4 (laiSt n L F i) =
    bif decide (i ≥ 0) then bif decide (IntKind.i64.wrap (8 * i) < 0) then none else apB L (some (.normal, laiSt n (L + 1) (appF L F (lstF [.int .u8 (IntKind.u8.wrap (iShr .i64 n (IntKind.i64.wrap (8 * i))))] 0 1)) (IntKind.i64.wrap (i - 1))))
    else some (.exit 0, laiSt n L F i) := by kernel_rfl
theorem lai_loop {m : Nat} {g : Nat → List Value} {n s : Int} (hm : m ≤ 900000) (hok : pkOk n s) : LoopOk Try.prog 23 (loopAt [1, 0, 1, 0] (bodyOf Try.f20)) (atSt laiNt laiEi 4 (laiSt n m (pkR m g n s) (s - 1)) (.exit 0) (laiSt n (m + s.toNat) (pkR m g n s) (-1))) := by
  obtain ⟨h1, h7, hn, _⟩ := hok
  refine loopE (fun _ => laiC0) s.toNat (fun _ _ => laiOk0) (fun _ => rfl) lai_at (m := 60) (nt := laiNt) (ni := laiNi) (et := laiNt) (ei := laiEi) (nx := 4) (ex := 4) (fun k => laiSt n (m + k) (pkR m g n s) (s - 1 - (k : Int))) (by show laiSt _ _ _ _ = laiSt _ _ _ _; rw [Nat.add_zero, Int.natCast_zero, Int.sub_zero]) (by intro h; cases h) ?_ ?_
  · intro k hk
    have hi : s - 1 - (k : Int) = ((s.toNat - 1 - k : Nat) : Int) := by omega
    refine ⟨_, ?_, stEq_mk (sl := [(0, .slice (some ⟨999999, 0, none⟩) (m + k + 1) (m + k + 1)), (1, i64 n), (7, i64 (s - 1 - ((k + 1 : Nat) : Int)))]) rfl (mRow (pk_step m g n s k) (mSame rfl mNil))⟩
    refine (lai_r n (m + k) _ _).trans ?_
    rw [decide_eq_true (by omega), cond_true, hi, sh8i (by omega), decide_eq_false (by omega), cond_false, apB_eq (by omega), ← sh8i (show s.toNat - 1 - k ≤ 7 by omega), byt_i hn (by omega), wrap_i64 (by omega), show ((s.toNat - 1 - k : Nat) : Int) - 1 = s - 1 - ((k + 1 : Nat) : Int) from by omega]; rfl
  · refine ⟨_, ?_, stEq_refl rfl⟩
    refine (lai_r n (m + s.toNat) _ _).trans ?_
    rw [show s - 1 - ((s.toNat : Nat) : Int) = -1 from by omega, decide_eq_false (by omega), cond_false]
noncomputable def laiC (n : Int) (m : Nat) (F : Nat → List Value) (s : Int) (L : Nat) : Cfg := ⟨tab, [], 23, [([1, 0, 1, 0], atSt laiNt laiEi 4 (laiSt n m F (s - 1)) (.exit 0) (laiSt n L F (-1)))]⟩
theorem lai_ev (m : Nat) (g : Nat → List Value) (n s : Int) (F : Nat → List Value) (L : Nat) (es : Nat → Nat) : fnT (laiC n m F s L) 60 Try.f20 (bodyOf Try.f20) (.slice (some ⟨999999, 0, none⟩) m m :: cArgs [.pl (i64 n), .pl (i64 s)] 1) ((999999, ⟨.row kB m g, 5, true⟩) :: (1400000, ⟨.lst [], 5, false⟩) :: cMem es [.pl (i64 n), .pl (i64 s)] 1) 0 5 =
    req (stEq (laiSt n m g (IntKind.i64.wrap (s - 1))) (laiSt n m F (s - 1))) (req (Nat.ble L L && Nat.beq L L && true) (some (L, ⟨.row kB L F, 5, true⟩))) := by kernel_rfl
theorem lai_msum : MSum Try.prog 20 (LaiF 5) := by
  intro w0 R fm w hm vs args' hl mm hsub id hlt v l hpick hnew
  unfold LaiF at hpick
  split at hpick
  · rename_i b n s
    obtain ⟨hc, rfl, rfl⟩ := pick_one hpick
    simp only [Bool.and_eq_true] at hc
    obtain ⟨ha, hle, hok⟩ := hc
    generalize hqa : srcW mm kB 5 b = qa at ha hle hnew ⊢
    obtain ⟨ok1, i, m, g⟩ := qa
    simp only at ha hle hnew ⊢
    subst ha
    have hle := Nat.le_of_ble_eq_true hle
    have hok := pkB_iff.1 hok
    refine msum_take (c := bodyOf Try.f20) (fuel := 60) (next := 0) Try.func20 (by kernel_rfl) (by kernel_rfl) hm hl hsub hlt hqa (A := [.pl (i64 n), .pl (i64 s)]) ⟨rfl, rfl, rfl, rfl, trivial⟩ rfl (by show 3 ≤ Try.f20.ntmps; decide +kernel) (new_free hnew) (fun es => ?_)
    refine ⟨laiC n m (pkR m g n s) s (m + s.toNat), ⟨mixed, tabOk, sums_nil, oneL (lai_loop hle hok)⟩, rfl, ?_⟩
    refine (lai_ev m g n s _ _ es).trans ?_
    rw [wrap_i64 (by have := hok.1; have := hok.2.1; omega)]
    refine (req_true (stEq_mk (sl := [(0, .slice (some ⟨999999, 0, none⟩) m m), (1, i64 n), (7, i64 (s - 1))]) rfl (mRow (pk_id m g n s) (mSame rfl mNil)))).trans ?_
    rw [bE (Nat.le_refl _), Nat.beq_refl, req_true (b := true && true && true) rfl]
  · simp [pickM] at hpick
noncomputable def pbtS : Sums := [(19, IszF), (21, CopF 5), (20, LaiF 5)]
theorem pbtS_ok : SumsOk Try.prog pbtS := sums_cons isz_sum (sums_consM cop_msum (sums_consM lai_msum sums_nil))
noncomputable def pbtC : Cfg := ⟨tab, pbtS, 28, []⟩
theorem pbtOk : CfgOk Try.prog pbtC (bodyOf Try.f8) := ⟨mixed, tabOk, pbtS_ok, noL⟩
theorem pbt_ev (m : Nat) (g : Nat → List Value) (n s : Int) (es : Nat → Nat) (id : Nat) : fnMS pbtC 60 Try.f8 (bodyOf Try.f8) (cArgs [.sl kB m g, .pl (i64 n), .pl (i64 s)] 0) (cMem es [.sl kB m g, .pl (i64 n), .pl (i64 s)] 0) 0 id =
    pkT n s (req (kb4 m && (Nat.ble m 1000000 && (decide (0 ≤ s) && decide (s ≤ 1000000)))) (req (kw m && (Nat.ble m 900000 && pkB n s)) (req (Nat.ble (m + s.toNat) (m + s.toNat)) (some (.tuple #[nSl id (m + s.toNat), i64 0], rw1 5 id (m + s.toNat) (pkR m (cpR m (sgF m g)) n s)))))) := by kernel_rfl
theorem put_msum : MSum Try.prog 8 (PutF 5) := by
  intro w0 R fm w hm vs args' hl mm hsub id hlt v l hpick hnew
  unfold PutF at hpick
  split at hpick
  · rename_i a n s
    obtain ⟨hc, rfl, rfl⟩ := pick_one hpick
    simp only [Bool.and_eq_true] at hc
    obtain ⟨ha, hle⟩ := hc
    generalize hqa : srcB mm kB a = qa at ha hle hnew ⊢
    obtain ⟨ok1, m, g⟩ := qa
    simp only at ha hle hnew ⊢
    subst ha
    have hle := Nat.le_of_ble_eq_true hle
    have hA : AOk mm [a, i64 n, i64 s] [.sl kB m g, .pl (i64 n), .pl (i64 s)] := ⟨hqa, rfl, rfl, rfl, rfl, trivial⟩
    by_cases hok : pkOk n s
    · rw [pkL_ok hok] at hnew ⊢
      rw [pkE_ok hok]
      refine invokes_eqv (pk_cp m g n s _) ?_
      refine msum_at (c := bodyOf Try.f8) (fuel := 60) (next := 0) Try.func8 (by kernel_rfl) (by kernel_rfl) hm hl hsub hlt hA (by show 3 ≤ Try.f8.ntmps; decide +kernel) (.inr ⟨_, rfl⟩) (new_any hnew) (fun es => ?_)
      refine ⟨pbtC, pbtOk, rfl, ?_⟩
      refine (pbt_ev m g n s es id).trans ?_
      rw [pkT_eq, if_pos hok, kb4_true, bE (show m ≤ 1000000 by omega), decide_eq_true (by have := hok.1; omega), decide_eq_true (by have := hok.2.1; omega), req_true (b := true && (true && (true && true))) rfl, kw_true, bE hle, pkB_iff.2 hok, req_true (b := true && (true && true)) rfl, bE (Nat.le_refl _), req_true rfl]; rfl
    · rw [pkL_no hok] at hnew ⊢
      rw [pkE_no hok]
      refine invokes_nilT (rest := [i64 1]) hlt (new_free hnew) (msum_at (v := .tuple #[.slice none 0 0, i64 1]) (l := []) (c := bodyOf Try.f8) (fuel := 60) (next := 0) Try.func8 (by kernel_rfl) (by kernel_rfl) hm hl hsub hlt hA (by show 3 ≤ Try.f8.ntmps; decide +kernel) (.inl rfl) nofun (fun es => ?_))
      refine ⟨pbtC, pbtOk, rfl, ?_⟩
      refine (pbt_ev m g n s es id).trans ?_
      rw [pkT_eq, if_neg hok]; rfl
  · simp [pickM] at hpick
noncomputable def gbtS : Sums := [(19, IszF)]
theorem gbtS_ok : SumsOk Try.prog gbtS := sums_cons isz_sum sums_nil
noncomputable def gbtC0 : Cfg := ⟨tab, gbtS, 50, []⟩
theorem gbtOk0 : CfgOk Try.prog gbtC0 (bodyOf Try.f12) := ⟨mixed, tabOk, gbtS_ok, noL⟩
theorem gbt_at : codeAt [1, 1, 1, 1, 0, 1, 0] (bodyOf Try.f12) = some (.loop (loopAt [1, 1, 1, 1, 0, 1, 0] (bodyOf Try.f12))) := by kernel_rfl
def gbtNt : List Nat := [6, 7, 36, 37, 38]
def gbtNi : Ren := [(1500000, 1500000), (nid 29 0, nid 29 0)]
def gbtSt (m : Nat) (g : Nat → List Value) (e0 l c : Nat) (q x i : Int) : St := ⟨[(6, i64 x), (7, i64 q), (36, .slice (some ⟨nid 29 0, 0, none⟩) c (m - l)), (37, i64 ((c : Nat) : Int)), (38, i64 i)], [(1500000, ⟨.row kB m g, e0, false⟩), (nid 29 0, ⟨.tail 1500000 l c 1, 5, false⟩)], 32⟩
theorem gbt_r (m : Nat) (g : Nat → List Value) (e0 l c : Nat) (q x i : Int) : roundS gbtC0 60 [1, 1, 1, 1, 0, 1, 0, 0] (loopAt [1, 1, 1, 1, 0, 1, 0] (bodyOf Try.f12)) gbtNt gbtNi 32 gbtNt gbtNi 32 (gbtSt m g e0 l c q x i) =
    bif decide (i < ((c : Nat) : Int)) then rdT i l c m (some (.normal, gbtSt m g e0 l c q (iOr .i64 (iShl .i64 x 8) (IntKind.i64.wrap (bI g (l + i.toNat)))) (IntKind.i64.wrap (i + 1)))) else some (.exit 0, gbtSt m g e0 l c q x i) := by kernel_rfl
theorem gbt_loop {m : Nat} {g : Nat → List Value} {e0 : Nat} {a s : Int} (hg : ∀ j, j < m → 0 ≤ bI g j ∧ bI g j < 256) (hok : gtE0 m a s = 0) : LoopOk Try.prog 50 (loopAt [1, 1, 1, 1, 0, 1, 0] (bodyOf Try.f12)) (atSt gbtNt gbtNi 32 (gbtSt m g e0 a.toNat s.toNat (a + s) 0 0) (.exit 0) (gbtSt m g e0 a.toNat s.toNat (a + s) ((gtV g a.toNat s.toNat : Nat) : Int) s)) := by
  obtain ⟨h1, h7, ha, hs⟩ := gtE0_ok hok
  refine loopE (fun _ => gbtC0) s.toNat (fun _ _ => gbtOk0) (fun _ => rfl) gbt_at (m := 60) (nt := gbtNt) (ni := gbtNi) (et := gbtNt) (ei := gbtNi) (nx := 32) (ex := 32) (fun k => gbtSt m g e0 a.toNat s.toNat (a + s) ((gtV g a.toNat k : Nat) : Int) (k : Int)) rfl (by intro h; cases h) ?_ ?_
  · intro k hk
    refine ⟨_, ?_, stEq_refl rfl⟩
    refine (gbt_r m g e0 a.toNat s.toNat (a + s) _ _).trans ?_
    have hx : gtV g a.toNat k < 2 ^ (8 * k) := gtV_lt hg (a := a.toNat) k (by omega)
    have hx : gtV g a.toNat k < 281474976710656 := Nat.lt_of_lt_of_le hx (Nat.le_trans (Nat.pow_le_pow_right (by decide) (show 8 * k ≤ 48 by omega)) (by decide))
    have hb := hg (a.toNat + k) (by omega)
    have hc : bI g (a.toNat + k) = (((bI g (a.toNat + k)).toNat : Nat) : Int) := by omega
    rw [decide_eq_true (by omega), cond_true, rdT_eq hk (by omega), Int.toNat_natCast, hc, get8 hx (by omega), wrap_i64 (by omega)]; rfl
  · refine ⟨_, ?_, stEq_refl rfl⟩
    refine (gbt_r m g e0 a.toNat s.toNat (a + s) _ _).trans ?_
    rw [decide_eq_false (by omega), cond_false, show ((s.toNat : Nat) : Int) = s from by omega]
noncomputable def gbtC (m : Nat) (g : Nat → List Value) (e0 l c : Nat) (q x s : Int) : Cfg := ⟨tab, gbtS, 50, [([1, 1, 1, 1, 0, 1, 0], atSt gbtNt gbtNi 32 (gbtSt m g e0 l c q 0 0) (.exit 0) (gbtSt m g e0 l c q x s))]⟩
theorem gbt_ev (m : Nat) (g : Nat → List Value) (a s : Int) (l c : Nat) (q x : Int) (es : Nat → Nat) (id : Nat) : fnMS (gbtC m g (es 0) l c q x s) 60 Try.f12 (bodyOf Try.f12) (cArgs [.sl kB m g, .pl (i64 a), .pl (i64 s)] 0) (cMem es [.sl kB m g, .pl (i64 a), .pl (i64 s)] 0) 0 id =
    gtT2 m a s (paT m a (IntKind.i64.wrap (a + s)) (req (stEq (gbtSt m g (es 0) a.toNat ((IntKind.i64.wrap (a + s)).toNat - a.toNat) (IntKind.i64.wrap (a + s)) 0 0) (gbtSt m g (es 0) l c q 0 0)) (some (.tuple #[i64 x, i64 q, i64 0], [])))) := by kernel_rfl
theorem gbt_evN (m : Nat) (g : Nat → List Value) (a s : Int) (es : Nat → Nat) (id : Nat) : fnMS ⟨tab, gbtS, 50, [([1, 1, 1, 1, 0, 1, 0], fun _ => [])]⟩ 60 Try.f12 (bodyOf Try.f12) (cArgs [.sl kB m g, .pl (i64 a), .pl (i64 s)] 0) (cMem es [.sl kB m g, .pl (i64 a), .pl (i64 s)] 0) 0 id =
    gtT2 m a s (paT m a (IntKind.i64.wrap (a + s)) none) := by kernel_rfl
theorem get_msum : MSum Try.prog 12 GetF := by
  intro w0 R fm w hm vs args' hl mm hsub id hlt v l hpick hnew
  unfold GetF at hpick
  split at hpick
  · rename_i b a s
    obtain ⟨hc, rfl, rfl⟩ := pick_one hpick
    simp only [Bool.and_eq_true] at hc
    obtain ⟨ha, hy, hle⟩ := hc
    generalize hqa : srcB mm kB b = qa at ha hy hle ⊢
    obtain ⟨ok1, m, g⟩ := qa
    simp only at ha hy hle ⊢
    subst ha
    have hle := Nat.le_of_ble_eq_true hle
    have hy := okY_iff.1 hy
    have hA : AOk mm [b, i64 a, i64 s] [.sl kB m g, .pl (i64 a), .pl (i64 s)] := ⟨hqa, rfl, rfl, rfl, rfl, trivial⟩
    refine msum_at (c := bodyOf Try.f12) (fuel := 60) (next := 0) Try.func12 (by kernel_rfl) (by kernel_rfl) hm hl hsub hlt hA (by show 3 ≤ Try.f12.ntmps; decide +kernel) (.inl rfl) nofun (fun es => ?_)
    unfold gtN gtX gtE
    rw [hide_eq, hide_eq, hide_eq]
    by_cases hok : gtE0 m a s = 0
    · refine ⟨gbtC m g (es 0) a.toNat s.toNat (a + s) _ s, ⟨mixed, tabOk, gbtS_ok, oneL (gbt_loop hy hok)⟩, rfl, ?_⟩
      refine (gbt_ev m g a s a.toNat s.toNat (a + s) _ es id).trans ?_
      obtain ⟨h1, h7, h0, hs⟩ := gtE0_ok hok
      rw [gtT2_eq hle, if_pos hok, if_pos hok, if_pos hok, hok, wrap_i64 (by omega), paT_eq (by omega) (by omega) (by omega), show (a + s).toNat - a.toNat = s.toNat from by omega, req_true (stEq_refl rfl)]
    · refine ⟨⟨tab, gbtS, 50, [([1, 1, 1, 1, 0, 1, 0], fun _ => [])]⟩, ⟨mixed, tabOk, gbtS_ok, noneL2⟩, rfl, ?_⟩
      refine (gbt_evN m g a s es id).trans ?_
      rw [gtT2_eq hle, if_neg hok, if_neg hok, if_neg hok]; rfl
  · simp [pickM] at hpick
noncomputable def pbpS : Sums := [(21, CopF 5), (20, LaiF 5)]
theorem pbpS_ok : SumsOk Try.prog pbpS := sums_consM cop_msum (sums_consM lai_msum sums_nil)
noncomputable def pbpC : Cfg := ⟨tab, pbpS, 21, []⟩
theorem pbpOk : CfgOk Try.prog pbpC (bodyOf Try.f14) := ⟨mixed, tabOk, pbpS_ok, noL⟩
theorem pbp_ev (m : Nat) (g : Nat → List Value) (k : Nat) (p : Nat → List Value) (es : Nat → Nat) (id : Nat) : fnMS pbpC 60 Try.f14 (bodyOf Try.f14) (cArgs [.sl kB m g, .sl kB k p] 0) (cMem es [.sl kB m g, .sl kB k p] 0) 0 id =
    bif decide ((k : Int) > 16384) then ppErr else req (kb4 m && (Nat.ble m 1000000 && (decide (0 ≤ IntKind.i64.wrap (4 + (k : Int))) && decide (IntKind.i64.wrap (4 + (k : Int)) ≤ 1000000)))) (req (kw m && (Nat.ble m 900000 && pkB (k : Nat) 4)) (apK (m + 4) k (req (Nat.ble (m + 4 + k) (m + 4 + k))
      (some (.tuple #[nSl id (m + 4 + k), i64 0], rw1 5 id (m + 4 + k) (appF (m + 4) (pkR m (cpR m (sgF m g)) (k : Nat) 4) (sgF k p))))))) := by kernel_rfl
theorem ptp_msum : MSum Try.prog 14 (PtpF 5) := by
  intro w0 R fm w hm vs args' hl mm hsub id hlt v l hpick hnew
  match vs, hl, hpick with
  | [a, b], hl, hpick =>
    obtain ⟨hc, rfl, rfl⟩ := pick_one hpick
    simp only [Bool.and_eq_true] at hc
    obtain ⟨⟨ha, hb⟩, hle⟩ := hc
    generalize hqa : srcB mm kB a = qa at ha hle hnew ⊢
    generalize hqb : srcB mm kB b = qb at hb hnew ⊢
    obtain ⟨ok1, m, g⟩ := qa
    obtain ⟨ok2, k, p⟩ := qb
    simp only at ha hb hle hnew ⊢
    subst ha hb
    have hle := Nat.le_of_ble_eq_true hle
    have hA : AOk mm [a, b] [.sl kB m g, .sl kB k p] := ⟨hqa, hqb, trivial⟩
    unfold ppL at hnew ⊢
    unfold ppE
    rw [hide_eq] at hnew ⊢
    rw [hide_eq]
    by_cases hok : k ≤ 16384
    · rw [if_pos hok] at hnew ⊢
      rw [if_pos hok]
      refine invokes_eqv (pp_cp m g k p) ?_
      refine msum_at (c := bodyOf Try.f14) (fuel := 60) (next := 0) Try.func14 (by kernel_rfl) (by kernel_rfl) hm hl hsub hlt hA (by show 2 ≤ Try.f14.ntmps; decide +kernel) (.inr ⟨_, rfl⟩) (new_any hnew) (fun es => ?_)
      refine ⟨pbpC, pbpOk, rfl, ?_⟩
      refine (pbp_ev m g k p es id).trans ?_
      rw [decide_eq_false (by omega), cond_false, kb4_true, bE (show m ≤ 1000000 by omega), wrap_i64 (by omega), decide_eq_true (by omega), decide_eq_true (by omega), req_true (b := true && (true && (true && true))) rfl, kw_true, bE hle, pkB_iff.2 (pk_len k hok), req_true (b := true && (true && true)) rfl, apK_eq (by omega), bE (Nat.le_refl _), req_true rfl]; rfl
    · rw [if_neg hok] at hnew ⊢
      rw [if_neg hok]
      refine invokes_nilT (rest := [i64 4]) hlt (new_free hnew) (msum_at (v := .tuple #[.slice none 0 0, i64 4]) (l := []) (c := bodyOf Try.f14) (fuel := 60) (next := 0) Try.func14 (by kernel_rfl) (by kernel_rfl) hm hl hsub hlt hA (by show 2 ≤ Try.f14.ntmps; decide +kernel) (.inl rfl) nofun (fun es => ?_))
      refine ⟨pbpC, pbpOk, rfl, ?_⟩
      refine (pbp_ev m g k p es id).trans ?_
      rw [decide_eq_true (by omega), cond_true]; rfl
  | [], _, h => simp [PtpF, pickM] at h
  | [_], _, h => simp [PtpF, pickM] at h
  | _ :: _ :: _ :: _, _, h => simp [PtpF, pickM] at h
noncomputable def gbpS : Sums := [(21, CopF 5), (12, GetF)]
theorem gbpS_ok : SumsOk Try.prog gbpS := sums_consM cop_msum (sums_consM get_msum sums_nil)
noncomputable def gbpC : Cfg := ⟨tab, gbpS, 38, []⟩
theorem gbpOk : CfgOk Try.prog gbpC (bodyOf Try.f16) := ⟨mixed, tabOk, gbpS_ok, noL⟩
theorem gbp_ev (m : Nat) (g : Nat → List Value) (a : Int) (es : Nat → Nat) (id : Nat) : fnMS gbpC 60 Try.f16 (bodyOf Try.f16) (cArgs [.sl kB m g, .pl (i64 a)] 0) (cMem es [.sl kB m g, .pl (i64 a)] 0) 0 id =
    req (gtk m g) (gpT 5 m g a id) := by kernel_rfl
theorem gtp_msum : MSum Try.prog 16 (GtpF 5) := by
  intro w0 R fm w hm vs args' hl mm hsub id hlt v l hpick hnew
  unfold GtpF at hpick
  split at hpick
  · rename_i b a
    obtain ⟨hc, rfl, rfl⟩ := pick_one hpick
    simp only [Bool.and_eq_true] at hc
    obtain ⟨ha, hy, hle⟩ := hc
    generalize hqa : srcB mm kB b = qa at ha hy hle hnew ⊢
    obtain ⟨ok1, m, g⟩ := qa
    simp only at ha hy hle hnew ⊢
    subst ha
    have hle := Nat.le_of_ble_eq_true hle
    have hy := okY_iff.1 hy
    have hA : AOk mm [b, i64 a] [.sl kB m g, .pl (i64 a)] := ⟨hqa, rfl, rfl, trivial⟩
    unfold gpL at hnew ⊢
    unfold gpX gpE
    rw [hide_eq] at hnew ⊢
    rw [hide_eq, hide_eq]
    by_cases hok : gpE0 m g a = 0
    · rw [if_pos hok] at hnew ⊢
      rw [if_pos hok, hok]
      refine invokes_eqv (gp_cp m g a _) ?_
      refine msum_at (c := bodyOf Try.f16) (fuel := 60) (next := 0) Try.func16 (by kernel_rfl) (by kernel_rfl) hm hl hsub hlt hA (by show 2 ≤ Try.f16.ntmps; decide +kernel) (.inr ⟨_, rfl⟩) (new_any hnew) (fun es => ?_)
      refine ⟨gbpC, gbpOk, rfl, ?_⟩
      refine (gbp_ev m g a es id).trans ?_
      rw [gtk_true hle hy, req_true rfl]
      exact gpT_good hle hok id
    · rw [if_neg hok] at hnew ⊢
      rw [if_neg hok]
      refine invokes_nilT (rest := [i64 0, i64 (gpE0 m g a)]) hlt (new_free hnew) (msum_at (v := .tuple #[.slice none 0 0, i64 0, i64 (gpE0 m g a)]) (l := []) (c := bodyOf Try.f16) (fuel := 60) (next := 0) Try.func16 (by kernel_rfl) (by kernel_rfl) hm hl hsub hlt hA (by show 2 ≤ Try.f16.ntmps; decide +kernel) (.inl rfl) nofun (fun es => ?_))
      refine ⟨gbpC, gbpOk, rfl, ?_⟩
      refine (gbp_ev m g a es id).trans ?_
      rw [gtk_true hle hy, req_true rfl]
      exact gpT_bad hle hok id
  · simp [pickM] at hpick
end Go.Proofs.Ytkgkdjecmnhdmaa

namespace Go.W
noncomputable def qPut {α : Type} (m : Nat) (F : Nat → List Value) (n s : Int) (K : Nat → Int → (Nat → List Value) → Option α) : Option α := req (kb4 m && Nat.ble m 900000) (K (pkL m n s) (pkE n s) (pkR m F n s))
noncomputable def qGet {α : Type} (m : Nat) (F : Nat → List Value) (a s : Int) (K : Int → Int → Int → Option α) : Option α := req (kb4 m && (okY m F && Nat.ble m 1000000)) (K (gtN m F a s) (gtX m a s) (gtE m a s))
noncomputable def qPtp {α : Type} (m : Nat) (F : Nat → List Value) (k : Nat) (P : Nat → List Value) (K : Nat → Int → (Nat → List Value) → Option α) : Option α := req (kb4 m && kb4 k && Nat.ble m 900000) (K (ppL m k) (ppE k) (ppR m F k P))
noncomputable def qGtp {α : Type} (m : Nat) (F : Nat → List Value) (a : Int) (K : Nat → Int → Int → (Nat → List Value) → Option α) : Option α := req (kb4 m && (okY m F && Nat.ble m 1000000)) (K (gpL m F a) (gpX m F a) (gpE m F a) (gpR F a))
noncomputable def qKb {α : Type} (L : Nat) (F : Nat → List Value) (M : Nat) (G : Nat → List Value) (K : Bool → Option α) : Option α := req (kb4 L && kb4 M && Nat.ble L 9223372036854775807) (K (eqR L F M G))
def kbW (L : Nat) : Bool := true && true && true && true && Nat.beq L L && true && Nat.ble L L
theorem kbW_true (L : Nat) : kbW L = true := by unfold kbW; rw [Nat.beq_refl, bE (Nat.le_refl _)]; rfl
def qSpo {α : Type} (L : Nat) (x : Option α) : Option α := req (kbW L && Nat.ble L 1000000) x
def qTw {α : Type} (m : Nat) (x : Option α) : Option α := req (kb4 m && szOk m 1) x
theorem qPut_eq {α : Type} {m : Nat} (h : m ≤ 900000) (F : Nat → List Value) (n s : Int) (K : Nat → Int → (Nat → List Value) → Option α) : qPut m F n s K = K (pkL m n s) (pkE n s) (pkR m F n s) := by
  unfold qPut; rw [kb4_true, bE h, req_true (b := true && true) rfl]
theorem qGet_eq {α : Type} {m : Nat} (h : m ≤ 1000000) {F : Nat → List Value} (hF : okY m F = true) (a s : Int) (K : Int → Int → Int → Option α) : qGet m F a s K = K (gtN m F a s) (gtX m a s) (gtE m a s) := by
  unfold qGet; rw [kb4_true, bE h, hF, req_true (b := true && (true && true)) rfl]
theorem qPtp_eq {α : Type} {m : Nat} (h : m ≤ 900000) (F : Nat → List Value) (k : Nat) (P : Nat → List Value) (K : Nat → Int → (Nat → List Value) → Option α) : qPtp m F k P K = K (ppL m k) (ppE k) (ppR m F k P) := by
  unfold qPtp; rw [kb4_true, kb4_true, bE h, req_true (b := true && true && true) rfl]
theorem qGtp_eq {α : Type} {m : Nat} (h : m ≤ 1000000) {F : Nat → List Value} (hF : okY m F = true) (a : Int) (K : Nat → Int → Int → (Nat → List Value) → Option α) : qGtp m F a K = K (gpL m F a) (gpX m F a) (gpE m F a) (gpR F a) := by
  unfold qGtp; rw [kb4_true, bE h, hF, req_true (b := true && (true && true)) rfl]
theorem qKb_eq {α : Type} {L : Nat} (h : L ≤ 2000000) (F : Nat → List Value) (M : Nat) (G : Nat → List Value) (K : Bool → Option α) : qKb L F M G K = K (eqR L F M G) := by
  unfold qKb; rw [kb4_true, kb4_true, bE (by omega), req_true (b := true && true && true) rfl]
theorem qSpo_eq {α : Type} {L : Nat} (h : L ≤ 1000000) (x : Option α) : qSpo L x = x := by
  unfold qSpo; rw [kbW_true, bE h, req_true (b := true && true) rfl]
theorem qTw_eq {α : Type} {m : Nat} (h : m ≤ 1000000) (x : Option α) : qTw m x = x := by
  unfold qTw; rw [kb4_true, szOk_small (by omega), req_true (b := true && true) rfl]
theorem pkJ_congr {m : Nat} {F G : Nat → List Value} (h : ∀ j, j < m → bI F j = bI G j) (n s : Int) (j : Nat) : pkJ m F n s j = pkJ m G n s j := by
  unfold pkJ
  by_cases hj : j < m
  · rw [if_pos hj, if_pos hj, h j hj]
  · rw [if_neg hj, if_neg hj]
theorem eq_pk {L m : Nat} {F G : Nat → List Value} (h : ∀ j, j < m → bI F j = bI G j) (n s : Int) : eqR L (sgF L (pkR m F n s)) L (sgF L (pkR m G n s)) = true :=
  eqR_iff.2 ⟨rfl, fun j _ => by rw [bI_sg, bI_sg, bI_pk, bI_pk, pkJ_congr h]⟩
theorem ppJ_congr {m k : Nat} {F G P Q : Nat → List Value} (h : ∀ j, j < m → bI F j = bI G j) (h2 : ∀ j, j < k → bI P j = bI Q j) {j : Nat} (hj : j < m + 4 + k) : ppJ m F k P j = ppJ m G k Q j := by
  unfold ppJ
  by_cases h3 : j < m + 4
  · rw [if_pos h3, if_pos h3, pkJ_congr h]
  · rw [if_neg h3, if_neg h3, h2 _ (by omega)]
theorem ppL_le (m k : Nat) : ppL m k ≤ m + 4 + k := by
  unfold ppL; rw [hide_eq]
  split <;> omega
theorem pkL_le (m : Nat) (n s : Int) : pkL m n s ≤ m + 7 := by
  unfold pkL; rw [hide_eq]
  split
  · rename_i h; have := h.2.1; omega
  · omega
theorem eq_pp {m k : Nat} {F G P Q : Nat → List Value} (h : ∀ j, j < m → bI F j = bI G j) (h2 : ∀ j, j < k → bI P j = bI Q j) : eqR (ppL m k) (sgF (ppL m k) (ppR m F k P)) (ppL m k) (sgF (ppL m k) (ppR m G k Q)) = true :=
  eqR_iff.2 ⟨rfl, fun j hj => by rw [bI_sg, bI_sg, bI_pp, bI_pp]; exact ppJ_congr h h2 (Nat.lt_of_lt_of_le hj (ppL_le m k))⟩
theorem gtN_congr {m : Nat} {F G : Nat → List Value} (h : ∀ j, j < m → bI F j = bI G j) (a s : Int) : gtN m F a s = gtN m G a s := by
  unfold gtN
  rw [hide_eq, hide_eq]
  by_cases h0 : gtE0 m a s = 0
  · obtain ⟨_, _, h3, h4⟩ := gtE0_ok h0
    rw [if_pos h0, if_pos h0, gtV_congr (g := G) s.toNat fun j _ h6 => h j (by omega)]
  · rw [if_neg h0, if_neg h0]
theorem gpE0_congr {m : Nat} {F G : Nat → List Value} (h : ∀ j, j < m → bI F j = bI G j) (a : Int) : gpE0 m F a = gpE0 m G a ∧ (gtE0 m a 4 = 0 → gtV F a.toNat 4 = gtV G a.toNat 4) := by
  have hv : gtE0 m a 4 = 0 → gtV F a.toNat 4 = gtV G a.toNat 4 := fun h0 => by
    obtain ⟨_, _, h3, h4⟩ := gtE0_ok h0
    exact gtV_congr 4 fun j _ h6 => h j (by omega)
  refine ⟨?_, hv⟩
  unfold gpE0
  by_cases h0 : gtE0 m a 4 = 0
  · rw [hv h0]
  · rw [if_pos h0, if_pos h0]
theorem gp_congr {m : Nat} {F G : Nat → List Value} (h : ∀ j, j < m → bI F j = bI G j) (a : Int) : gpL m F a = gpL m G a ∧ gpX m F a = gpX m G a ∧ gpE m F a = gpE m G a := by
  obtain ⟨h1, h2⟩ := gpE0_congr h a
  unfold gpL gpX gpE
  rw [hide_eq, hide_eq, hide_eq, hide_eq, hide_eq, hide_eq, h1]
  by_cases h0 : gpE0 m G a = 0
  · rw [if_pos h0, if_pos h0, if_pos h0, if_pos h0, h2 (gpE0_ok h0).1]
    exact ⟨rfl, rfl, rfl⟩
  · rw [if_neg h0, if_neg h0, if_neg h0, if_neg h0]
    exact ⟨rfl, rfl, rfl⟩
theorem gpL_le {m : Nat} {F : Nat → List Value} {a : Int} : a.toNat + 4 + gpL m F a ≤ m ∨ gpL m F a = 0 := by
  unfold gpL; rw [hide_eq]
  by_cases h0 : gpE0 m F a = 0
  · rw [if_pos h0]; exact .inl (gpE0_ok h0).2.2.2
  · rw [if_neg h0]; exact .inr rfl
theorem eq_gp {m : Nat} {F G : Nat → List Value} (h : ∀ j, j < m → bI F j = bI G j) (a : Int) : eqR (gpL m F a) (sgF (gpL m F a) (gpR F a)) (gpL m F a) (sgF (gpL m F a) (gpR G a)) = true :=
  eqR_iff.2 ⟨rfl, fun j hj => by
    rw [bI_sg, bI_sg, bI_gp, bI_gp]
    rcases gpL_le (m := m) (F := F) (a := a) with h1 | h1
    · exact h _ (by omega)
    · omega⟩
theorem okY_congr {m : Nat} {F G : Nat → List Value} (h : ∀ j, j < m → bI F j = bI G j) (hF : okY m F = true) : okY m G = true := okY_iff.2 fun j hj => h j hj ▸ okY_iff.1 hF j hj
noncomputable def wak10T : Option Value := qPut 0 (fun _ => []) 258 2 fun L E R => qGet L (sgF L R) 0 2 fun n x e =>
  bif E == 0 then (bif e == 0 then (bif ((L : Nat) : Int) == 2 then rdR 0 L (bif bI R (0 + 0) == 1 then rdR 1 L (bif bI R (0 + 1) == 2 then (bif n == 258 then some (.bool (x == 2)) else some (.bool false)) else some (.bool false)) else some (.bool false)) else some (.bool false)) else some (.bool false)) else some (.bool false)
theorem wk_ok : pkOk 258 2 := ⟨by decide, by decide, by decide, by decide⟩
set_option maxRecDepth 100000 in
theorem wak10T_eq : wak10T = some (.bool true) := by
  have hL : pkL 0 258 2 = 2 := pkL_ok wk_ok
  have hE : pkE 258 2 = 0 := pkE_ok wk_ok
  have h0 : bI (pkR 0 (fun _ => []) 258 2) 0 = 1 := by rw [bI_pk]; decide
  have h1 : bI (pkR 0 (fun _ => []) 258 2) 1 = 2 := by rw [bI_pk]; decide
  have s0 : bI (sgF 2 (pkR 0 (fun _ => []) 258 2)) 0 = 1 := by rw [bI_sg]; exact h0
  have s1 : bI (sgF 2 (pkR 0 (fun _ => []) 258 2)) 1 = 2 := by rw [bI_sg]; exact h1
  have hy : okY 2 (sgF 2 (pkR 0 (fun _ => []) 258 2)) = true := okY_iff.2 fun j hj => by
    match j, hj with
    | 0, _ => rw [s0]; decide
    | 1, _ => rw [s1]; decide
  obtain ⟨e1, e2, e3⟩ := gt_hid (m := 2) (g := sgF 2 (pkR 0 (fun _ => []) 258 2)) (a := 0) (s := 2) (by decide)
  have hv : gtV (sgF 2 (pkR 0 (fun _ => []) 258 2)) (0 : Int).toNat (2 : Int).toNat = 258 := by
    show (0 * 256 + (bI (sgF 2 (pkR 0 (fun _ => []) 258 2)) (0 + 0)).toNat) * 256 + (bI (sgF 2 (pkR 0 (fun _ => []) 258 2)) (0 + 1)).toNat = 258
    rw [Nat.zero_add, Nat.zero_add, s0, s1]; rfl
  rw [hv] at e3
  unfold wak10T
  rw [qPut_eq (by omega), hL, hE, qGet_eq (by omega) hy, e1, e2, e3, rdR_eq (by omega), rdR_eq (by omega), Nat.zero_add, Nat.zero_add, h0, h1]
  rfl
noncomputable def tru10 : Option Value := some (.bool true)
noncomputable def fls10 : Option Value := some (.bool false)
noncomputable def Wk10F : List Value → Option (Bool × Value)
  | [] => some (true, .bool true)
  | _ => none
noncomputable def BExT (m : Nat) (g : Nat → List Value) (k : Nat) (p : Nat → List Value) (n a s : Int) : Option Value :=
  bif decide ((m : Int) > 2000) then tru10 else bif decide ((k : Int) > 2000) then tru10 else qTw m <| qTw k <|
  qPut m (sgF m (twF (sgF m g))) n s fun L E R => qPut m (sgF m g) n s fun L2 E2 R2 => qKb L (sgF L R) L2 (sgF L2 R2) fun o => bif !o then fls10 else bif E != E2 then fls10 else qSpo L <|
  qGet m (sgF m (twF (sgF m g))) a s fun u x e => qGet m (sgF m g) a s fun u2 x2 e2 => bif u != u2 then fls10 else bif x != x2 then fls10 else bif e != e2 then fls10 else
  qPtp m (sgF m (twF (sgF m g))) k (sgF k (twF (sgF k p))) fun L E R => qPtp m (sgF m g) k (sgF k p) fun L2 E2 R2 => qKb L (sgF L R) L2 (sgF L2 R2) fun o => bif !o then fls10 else bif E != E2 then fls10 else qSpo L <|
  qGtp m (sgF m (twF (sgF m g))) a fun L x e R => qGtp m (sgF m g) a fun L2 x2 e2 R2 => qKb L (sgF L R) L2 (sgF L2 R2) fun o => bif !o then fls10 else bif x != x2 then fls10 else bif e != e2 then fls10 else qSpo L <|
  qKb m (sgF m (twF (sgF m g))) m (sgF m g) fun o => bif o then qKb k (sgF k (twF (sgF k p))) k (sgF k p) fun o => bif o then tru10 else fls10 else fls10
theorem bne_self' (x : Int) : (x != x) = false := bne_self_eq_false x
set_option maxRecDepth 100000 in
theorem BExT_eq {m : Nat} {g : Nat → List Value} (hg : ∀ j, 0 ≤ bI g j ∧ bI g j < 256) (k : Nat) (p : Nat → List Value) (n a s : Int) : BExT m g k p n a s = tru10 := by
  unfold BExT
  by_cases h1 : (m : Int) > 2000
  · rw [decide_eq_true h1, cond_true]
  by_cases h2 : (k : Int) > 2000
  · rw [decide_eq_false h1, decide_eq_true h2]; rfl
  have hI : ∀ j, j < m → bI (sgF m (twF (sgF m g))) j = bI (sgF m g) j := fun j _ => by rw [bI_sg, bI_tw]
  have hP : ∀ j, j < k → bI (sgF k (twF (sgF k p))) j = bI (sgF k p) j := fun j _ => by rw [bI_sg, bI_tw]
  have hy : okY m (sgF m g) = true := okY_iff.2 fun j _ => by rw [bI_sg]; exact hg j
  have hy2 : okY m (sgF m (twF (sgF m g))) = true := okY_congr (fun j hj => (hI j hj).symm) hy
  have hL := pkL_le m n s
  have hL2 := ppL_le m k
  obtain ⟨c1, c2, c3⟩ := gp_congr hI a
  have hL3 : gpL m (sgF m g) a ≤ m := by rcases gpL_le (m := m) (F := sgF m g) (a := a) with h | h <;> omega
  have hL4 : gpL m (sgF m (twF (sgF m g))) a ≤ m := c1 ▸ hL3
  rw [decide_eq_false h1, decide_eq_false h2, cond_false, cond_false, qTw_eq (by omega), qTw_eq (by omega), qPut_eq (by omega), qPut_eq (by omega), qKb_eq (by omega), eq_pk hI, Bool.not_true, cond_false, bne_self', cond_false, qSpo_eq (by omega),
    qGet_eq (by omega) hy2, qGet_eq (by omega) hy, gtN_congr hI, bne_self', bne_self', bne_self', cond_false, cond_false, cond_false, qPtp_eq (by omega), qPtp_eq (by omega), qKb_eq (by omega), eq_pp hI hP, Bool.not_true, cond_false, bne_self', cond_false, qSpo_eq (by omega),
    qGtp_eq (by omega) hy2, qGtp_eq (by omega) hy, qKb_eq (by omega), ← c1, eq_gp hI, c2, c3, bne_self', bne_self', qSpo_eq (by omega)]
  rw [Bool.not_true, cond_false, cond_false, cond_false, qKb_eq (by omega), eqR_iff.2 ⟨rfl, hI⟩, cond_true, qKb_eq (by omega), eqR_iff.2 ⟨rfl, hP⟩, cond_true]
end Go.W

namespace Go.Proofs.Ytkgkdjecmnhdmaa
set_option maxRecDepth 100000
open Go.W
open Go.RowKit (Below)
noncomputable def wk10S : Sums := [(8, PutF 5), (12, GetF)]
theorem wk10S_ok : SumsOk Try.prog wk10S := sums_consM put_msum (sums_consM get_msum sums_nil)
noncomputable def wk10C : Cfg := ⟨tab, wk10S, 47, []⟩
theorem wk10Ok : CfgOk Try.prog wk10C (bodyOf Try.f18) := ⟨mixed, tabOk, wk10S_ok, noL⟩
theorem wk10_ev : fnS wk10C 60 Try.f18 (bodyOf Try.f18) [] = wak10T := by kernel_rfl
theorem wk10_sum : Sum Try.prog 18 Wk10F := by
  refine sum_of wk10Ok Try.func18 (by kernel_rfl) (by kernel_rfl) rfl (fuel := 60) fun args v h hpl => ?_
  unfold Wk10F at h
  split at h
  · simp only [Option.some.injEq, Prod.mk.injEq] at h
    obtain ⟨_, rfl⟩ := h
    exact ⟨Nat.zero_le _, wk10_ev.trans wak10T_eq, rfl⟩
  · simp at h
noncomputable def bexS : Sums := [(7, TwnF 5), (10, KbF), (11, SpoF 5), (8, PutF 5), (12, GetF), (14, PtpF 5), (16, GtpF 5),
  (9, PutF 5), (13, GetF), (15, PtpF 5), (17, GtpF 5), (18, Wk10F)]
theorem bexS_ok : SumsOk Try.prog bexS := sums_consM twn_msum (sums_consM kb_msum (sums_consM spo_msum (sums_consM put_msum (sums_consM get_msum (sums_consM ptp_msum (sums_consM gtp_msum (sums_consM rpu_msum (sums_consM rgt_msum (sums_consM rpp_msum (sums_consM rgp_msum (sums_cons wk10_sum sums_nil)))))))))))
noncomputable def bexC : Cfg := ⟨tab, bexS, 151, []⟩
theorem bexOk : CfgOk Try.prog bexC (bodyOf Try.f3) := ⟨mixed, tabOk, bexS_ok, noL⟩
theorem bex_ev (m : Nat) (g : Nat → List Value) (k : Nat) (p : Nat → List Value) (n a s : Int) (es : Nat → Nat) : fnA bexC 60 Try.f3 (bodyOf Try.f3) (cArgs [.sl kB m g, .sl kB k p, .pl (i64 n), .pl (i64 a), .pl (i64 s)] 0) (cMem es [.sl kB m g, .sl kB k p, .pl (i64 n), .pl (i64 a), .pl (i64 s)] 0) 0 = BExT m g k p n a s := by kernel_rfl
theorem bex_calls {m : Nat} {g : Nat → List Value} {k : Nat} {p : Nat → List Value} {n a s : Int} {v u : Value} {W : World} (hu : ∀ j, ∃ x : Nat, x < 256 ∧ g j = [.int .u8 (x : Int)]) (hv : SrcW W kB m g v) (hw : SrcW W kB k p u) :
    Calls Try.prog 3 #[v, u, .int .i64 n, .int .i64 a, .int .i64 s] W fun e W' => e = .returned (.bool true) ∧ Below W.heap.size W W' :=
  law_sound (c := bodyOf Try.f3) (fuel := 60) (next := 0) (A := [.sl kB m g, .sl kB k p, .pl (i64 n), .pl (i64 a), .pl (i64 s)]) (args' := [v, u, .int .i64 n, .int .i64 a, .int .i64 s]) Try.func3 (by kernel_rfl) ⟨hv, hw, rfl, rfl, rfl, rfl, rfl, rfl, trivial⟩ (GOk_nil _)
    (by show 5 ≤ Try.f3.ntmps; decide +kernel) rfl nofun
    fun es => ⟨bexC, bexOk, rfl, (bex_ev m g k p n a s es).trans (BExT_eq (fun j => by obtain ⟨x, hx, e⟩ := hu j; unfold bI; rw [e]; show 0 ≤ ((x : Nat) : Int) ∧ ((x : Nat) : Int) < 256; omega) k p n a s)⟩
end Go.Proofs.Ytkgkdjecmnhdmaa
