/-
  Several texts in one.
-/
import Derived.Test.YtafeeiodgfgepaaGreatDoorSg
import Derived.Test.YtafeeiodgfgepaaGreatDoorSb
import Derived.Test.YtafeeiodgfgepaaGreatDoorEh
import Derived.Test.YtafeeiodgfgepaaGreatDoorEi
/-
  The document's scalars.
-/
namespace Go.Proofs.YtafeeiodgfgepaaGreatDoor
set_option maxRecDepth 100000
open Go.W
def WideC : Cfg := ⟨tab, [(77, FoldF)], 11, []⟩
theorem WideOk : CfgOk Tryz.prog WideC (bodyOf Tryz.f84) := ⟨mixed, tabOk, sums_cons fold_sum sums_nil, noL⟩
theorem Wide_ev (w : Int) (H L : Nat) : fnS WideC 60 Tryz.f84 (bodyOf Tryz.f84) [i64 w, num H, num L] = req (okW w && isNum (num L) && isNum (num H)) (some (num (foldN w (unnum (num L)) (unnum (num H))))) := by kernel_rfl
theorem Wide_sum : Sum Tryz.prog 84 WideF := by
  refine sum_of WideOk Tryz.func84 (by kernel_rfl) (by kernel_rfl) rfl (fuel := 60) fun args v h _ => ?_
  unfold WideF at h
  split at h
  · simp only [Option.some.injEq, Prod.mk.injEq, Bool.and_eq_true] at h
    obtain ⟨⟨⟨hw, h1⟩, h2⟩, rfl⟩ := h
    obtain ⟨L, hL, rfl⟩ := isNum_some h1
    obtain ⟨H, hH, rfl⟩ := isNum_some h2
    exact ⟨by show 3 ≤ Tryz.f84.ntmps; decide +kernel, (Wide_ev _ _ _).trans (by rw [hw, isNum_num, isNum_num, req_true (b := true && true && true) rfl]), rfl⟩
  · simp at h
noncomputable def skG : Sums := [(81, JdF 5), (83, JnF 5), (82, SuF), (85, OfF), (84, WideF)]
theorem skG_ok : SumsOk Tryz.prog skG := sums_consM jd_msum (sums_consM jn_msum (sums_consM d_msum (sums_cons OfR_sum (sums_cons Wide_sum sums_nil))))
noncomputable def skC : Cfg := ⟨tab, skG, 34, []⟩
theorem skOk : CfgOk Tryz.prog skC (bodyOf Tryz.f50) := ⟨mixed, tabOk, skG_ok, noL⟩
noncomputable def skX (L : Nat) (J : Nat → List Value) (b : Int) : S8 := shN (L + 1) (bN (sgF (L + 1) (appF L (sgF L (sgF L J)) (sgF 1 (lstF [.int .u8 b] 0 1)))))
noncomputable def skT (L : Nat) (J : Nat → List Value) : Option (Value × List (Nat × Blk)) :=
  req (okN L && true) (req (okN (L + 1)) (req (okN L && true) (req (okN (L + 1)) (req (isB32 (tdV (skX L J 0))) (req (isB32 (tdV (skX L J 1))) (req (isNum (num (unbytes (tdV (skX L J 1)))) && isNum (num (unbytes (tdV (skX L J 0)))))
    (some (.tuple #[num (foldN 1 (unnum (num (unbytes (tdV (skX L J 1))))) (unnum (num (unbytes (tdV (skX L J 0)))))), .bool true], []))))))))
theorem sk_ev (s : ByteArray) (n : Nat) (g : Nat → Nat × (Nat → List Value)) (es : Nat → Nat) (er : Nat → Nat → Nat) (id : Nat) : fnMS skC 60 Tryz.f50 (bodyOf Tryz.f50) (cArgsF [.pl (.string s), .fm kB n g] 0) (cMemF es er [.pl (.string s), .fm kB n g] 0) 0 id =
    bif kbk n && Nat.ble n 1000000 && Nat.ble (jl s g n) 65536 then skT (jl s g n) (dF s g n) else req (kbk n && Nat.ble n 1000000) (some (.tuple #[num 0, .bool false], [])) := by kernel_rfl
theorem skX_eq (L : Nat) {J J2 : Nat → List Value} (h : ∀ j, bI J j = bI J2 j) (b : Int) : skX L J b = sum1 L J2 b := by
  unfold skX sum1
  refine shN_congr fun j hj => bN_congr ?_
  rw [bI_sg, bI_app, bI_app]
  by_cases hj2 : j < L
  · rw [if_pos hj2, if_pos hj2, bI_sg, bI_sg, h j]
  · rw [if_neg hj2, if_neg hj2]
theorem skT_eq {L : Nat} {J J2 : Nat → List Value} (h : ∀ j, bI J j = bI J2 j) (hL : L ≤ 65536) : skT L J = some (skV L J2, []) := by
  unfold skT
  rw [okN_true (by omega), okN_true (by omega), req_true (b := true && true) rfl, req_true rfl, req_true (b := true && true) rfl, req_true rfl, isB32_td, isB32_td, req_true rfl, req_true rfl, isNum_num, isNum_num, req_true (b := true && true) rfl,
    unnum_lt (unbytes_lt _), unnum_lt (unbytes_lt _), foldN_mod, skX_eq L h, skX_eq L h]
  unfold skV skS scN
  rw [hide_eq, if_pos hL, hide_eq]
theorem sk_msum : MSum Tryz.prog 50 SkF := by
  intro w0 R fm w hm vs args' hl mm hsub id hlt v l hpick hnew
  unfold SkF at hpick
  split at hpick
  · rename_i s a
    obtain ⟨hc, rfl, rfl⟩ := pick_one hpick
    simp only [Bool.and_eq_true] at hc
    obtain ⟨ha, hn⟩ := hc
    generalize hqa : srcF mm kB a = qa at ha hn ⊢
    obtain ⟨ok1, n, g⟩ := qa
    simp only at ha hn ⊢
    subst ha
    refine msum_atF (c := bodyOf Tryz.f50) (fuel := 60) (next := 0) Tryz.func50 (by kernel_rfl) (by kernel_rfl) hm hl hsub hlt (A := [.pl (.string s), .fm kB n g]) ⟨rfl, rfl, hqa, trivial⟩ (by show 2 ≤ Tryz.f50.ntmps; decide +kernel) (.inl rfl) hnew (fun es er => ⟨skC, skOk, rfl, ?_⟩)
    refine (sk_ev s n g es er id).trans ?_
    rw [kbk_true, hn]
    by_cases hj : jl s g n ≤ 65536
    · rw [ble_of hj, show (true && true && true) = true from rfl, cond_true]
      exact skT_eq (dF_eq s g n) hj
    · rw [show Nat.ble (jl s g n) 65536 = false from by rw [Bool.eq_false_iff, ne_eq, Nat.ble_eq]; exact hj, show (true && true && false) = false from rfl, cond_false, req_true (b := true && true) rfl]
      unfold skV skS
      rw [hide_eq, if_neg hj]
  · simp [pickM] at hpick
end Go.Proofs.YtafeeiodgfgepaaGreatDoor
/-
  The document's numbers modulo n.
-/
namespace Go.Proofs.YtafeeiodgfgepaaGreatDoor
set_option maxRecDepth 100000
open Go.W
def rssC : Cfg := ⟨tab, [(53, FSubF)], 8, []⟩
theorem rss_ev (A B : Nat) : fnS rssC 60 Tryz.f25 (bodyOf Tryz.f25) [num A, num B] = r2 (num A) (num B) (some (num (fsubN 1 (unnum (num A)) (unnum (num B))))) := by kernel_rfl
theorem rss_sum : Sum Tryz.prog 25 PSubF := by
  refine sum_of (C := rssC) (c := bodyOf Tryz.f25) ⟨mixed, tabOk, sums_cons FSubR_sum sums_nil, noL⟩ Tryz.func25 (by kernel_rfl) (by kernel_rfl) rfl (fuel := 60) fun args v h _ => ?_
  obtain ⟨a, b, ha, hb, rfl, rfl⟩ := arg2 (f := fun x y => num (nSub (unnum x) (unnum y))) h
  exact ⟨by show 2 ≤ Tryz.f25.ntmps; decide +kernel, (rss_ev _ _).trans (by rw [r2_num, nSub_def]), rfl⟩
def rmmC : Cfg := ⟨tab, [(47, FMulF)], 8, []⟩
theorem rm_ev (A B : Nat) : fnS rmmC 60 Tryz.f26 (bodyOf Tryz.f26) [num A, num B] = r2 (num A) (num B) (some (num (fmulN 1 (unnum (num A)) (unnum (num B))))) := by kernel_rfl
theorem rm_sum : Sum Tryz.prog 26 PMulF := by
  refine sum_of (C := rmmC) (c := bodyOf Tryz.f26) ⟨mixed, tabOk, sums_cons FMulR_sum sums_nil, noL⟩ Tryz.func26 (by kernel_rfl) (by kernel_rfl) rfl (fuel := 60) fun args v h _ => ?_
  obtain ⟨a, b, ha, hb, rfl, rfl⟩ := arg2 (f := fun x y => num (nMul (unnum x) (unnum y))) h
  exact ⟨by show 2 ≤ Tryz.f26.ntmps; decide +kernel, (rm_ev _ _).trans (by rw [r2_num, nMul_def]), rfl⟩
end Go.Proofs.YtafeeiodgfgepaaGreatDoor
