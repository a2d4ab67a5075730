/-
  The document's scalars.
-/
import Derived.Test.YteenpdjanlcipaaDoorSg
import Derived.Test.YteenpdjanlcipaaDoorSb
import Derived.Test.YteenpdjanlcipaaDoorEh
namespace Go.Proofs.YteenpdjanlcipaaDoor
set_option maxRecDepth 100000
open Go.W

def WideC : Cfg := ⟨tab, [(57, FoldF)], 11, []⟩
theorem WideOk : CfgOk Tryd.prog WideC (bodyOf Tryd.f36) := ⟨mixed, tabOk, sums_cons fold_sum sums_nil, noL⟩
theorem Wide_ev (w : Int) (H L : Nat) : fnS WideC 60 Tryd.f36 (bodyOf Tryd.f36) [i64 w, num H, num L] = req (okW w && isNum (num L) && isNum (num H)) (some (num (foldN w (unnum (num L)) (unnum (num H))))) := by kernel_rfl
theorem Wide_sum : Sum Tryd.prog 36 WideF := by
  refine sum_of WideOk Tryd.func36 (by kernel_rfl) (by kernel_rfl) rfl (fuel := 60) fun args v h _ => ?_
  unfold WideF at h
  split at h
  · simp only [Option.some.injEq, Prod.mk.injEq, Bool.and_eq_true] at h
    obtain ⟨⟨⟨hw, h1⟩, h2⟩, rfl⟩ := h
    obtain ⟨L, hL, rfl⟩ := isNum_some h1
    obtain ⟨H, hH, rfl⟩ := isNum_some h2
    exact ⟨by show 3 ≤ Tryd.f36.ntmps; decide +kernel, (Wide_ev _ _ _).trans (by rw [hw, isNum_num, isNum_num, req_true (b := true && true && true) rfl]), rfl⟩
  · simp at h

noncomputable def skG : Sums := [(33, JdF 5), (35, JnF 5), (34, SuF), (37, OfF), (36, WideF)]
theorem skG_ok : SumsOk Tryd.prog skG := sums_consM jd_msum (sums_consM jn_msum (sums_consM d_msum (sums_cons OfR_sum (sums_cons Wide_sum sums_nil))))
noncomputable def skC : Cfg := ⟨tab, skG, 34, []⟩
theorem skOk : CfgOk Tryd.prog skC (bodyOf Tryd.f12) := ⟨mixed, tabOk, skG_ok, noL⟩
noncomputable def skX (L : Nat) (J : Nat → List Value) (b : Int) : S8 := shN (L + 1) (bN (sgF (L + 1) (appF L (sgF L (sgF L J)) (sgF 1 (lstF [.int .u8 b] 0 1)))))
noncomputable def skT (L : Nat) (J : Nat → List Value) : Option (Value × List (Nat × Blk)) :=
  req (okN L && true) (req (okN (L + 1)) (req (okN L && true) (req (okN (L + 1)) (req (isB32 (tdV (skX L J 0))) (req (isB32 (tdV (skX L J 1))) (req (isNum (num (unbytes (tdV (skX L J 1)))) && isNum (num (unbytes (tdV (skX L J 0)))))
    (some (.tuple #[num (foldN 1 (unnum (num (unbytes (tdV (skX L J 1))))) (unnum (num (unbytes (tdV (skX L J 0)))))), .bool true], []))))))))
theorem sk_ev (s : ByteArray) (n : Nat) (g : Nat → Nat × (Nat → List Value)) (es : Nat → Nat) (er : Nat → Nat → Nat) (id : Nat) : fnMS skC 60 Tryd.f12 (bodyOf Tryd.f12) (cArgsF [.pl (.string s), .fm kB n g] 0) (cMemF es er [.pl (.string s), .fm kB n g] 0) 0 id =
    bif kbk n && Nat.ble n 1000000 && Nat.ble (jl s g n) 65536 then skT (jl s g n) (dF s g n) else req (kbk n && Nat.ble n 1000000) (some (.tuple #[num 0, .bool false], [])) := by kernel_rfl
theorem skX_eq (L : Nat) {J J2 : Nat → List Value} (h : ∀ j, bI J j = bI J2 j) (b : Int) : skX L J b = sum1 L J2 b := by
  unfold skX sum1
  refine shN_congr fun j hj => bN_congr ?_
  rw [bI_sg, bI_app, bI_app]
  by_cases hj2 : j < L
  · rw [if_pos hj2, if_pos hj2, bI_sg, bI_sg, h j]
  · rw [if_neg hj2, if_neg hj2]
theorem skT_eq {L : Nat} {J J2 : Nat → List Value} (h : ∀ j, bI J j = bI J2 j) (hL : L ≤ 65536) : skT L J = some (skV L J2, []) := by
  unfold skT
  rw [okN_true (by omega), okN_true (by omega), req_true (b := true && true) rfl, req_true rfl, req_true (b := true && true) rfl, req_true rfl, isB32_td, isB32_td, req_true rfl, req_true rfl, isNum_num, isNum_num, req_true (b := true && true) rfl,
    unnum_lt (unbytes_lt _), unnum_lt (unbytes_lt _), foldN_mod, skX_eq L h, skX_eq L h]
  unfold skV skS scN
  rw [hide_eq, if_pos hL, hide_eq]
theorem sk_msum : MSum Tryd.prog 12 SkF := by
  intro w0 R fm w hm vs args' hl mm hsub id hlt v l hpick hnew
  unfold SkF at hpick
  split at hpick
  · rename_i s a
    obtain ⟨hc, rfl, rfl⟩ := pick_one hpick
    simp only [Bool.and_eq_true] at hc
    obtain ⟨ha, hn⟩ := hc
    generalize hqa : srcF mm kB a = qa at ha hn ⊢
    obtain ⟨ok1, n, g⟩ := qa
    simp only at ha hn ⊢
    subst ha
    refine msum_atF (c := bodyOf Tryd.f12) (fuel := 60) (next := 0) Tryd.func12 (by kernel_rfl) (by kernel_rfl) hm hl hsub hlt (A := [.pl (.string s), .fm kB n g]) ⟨rfl, rfl, hqa, trivial⟩ (by show 2 ≤ Tryd.f12.ntmps; decide +kernel) (.inl rfl) hnew (fun es er => ⟨skC, skOk, rfl, ?_⟩)
    refine (sk_ev s n g es er id).trans ?_
    rw [kbk_true, hn]
    by_cases hj : jl s g n ≤ 65536
    · rw [ble_of hj, show (true && true && true) = true from rfl, cond_true]
      exact skT_eq (dF_eq s g n) hj
    · rw [show Nat.ble (jl s g n) 65536 = false from by rw [Bool.eq_false_iff, ne_eq, Nat.ble_eq]; exact hj, show (true && true && false) = false from rfl, cond_false, req_true (b := true && true) rfl]
      unfold skV skS
      rw [hide_eq, if_neg hj]
  · simp [pickM] at hpick

end Go.Proofs.YteenpdjanlcipaaDoor
