/-
  Several texts in one: M113 M92 M115 M79 M117 M118 Yn.
-/
import Derived.Test.YtckbmhegopjnmaaZi
namespace Go.W
open Go
theorem pyB_byte (K : RP) : ∀ b ∈ pyB K, b < 256 := by
 intro b hb
 unfold pyB at hb
 split at hb
 · rw [List.mem_singleton.1 hb]; decide
 · rcases List.mem_cons.1 hb with rfl | hb
  · omega
  · exact beL_byte _ _ b hb
theorem txB_byte (s : ByteArray) : ∀ b ∈ txB s, b < 256 := by
 intro b hb
 unfold txB at hb
 obtain ⟨x, _, rfl⟩ := List.mem_map.1 hb
 exact x.toNat_lt
theorem syS_byte (S : Nat -> Nat) : ∀ n, ∀ b ∈ syS S n, b < 256
 | 0, b, h => by cases h
 | n + 1, b, h => by
  rw [syS] at h
  rcases List.mem_append.1 h with h | h
  · exact syS_byte S n b h
  · exact beL_byte _ _ b h
theorem pyS_byte (V : Nat -> RP) : ∀ n, ∀ b ∈ pyS V n, b < 256
 | 0, b, h => by cases h
 | n + 1, b, h => by
  rw [pyS] at h
  rcases List.mem_append.1 h with h | h
  · exact pyS_byte V n b h
  · exact pyB_byte _ b h
theorem app_byte {l k : List Nat} (h1 : ∀ b ∈ l, b < 256) (h2 : ∀ b ∈ k, b < 256) : ∀ b ∈ l ++ k, b < 256 := fun b hb => by
 rcases List.mem_append.1 hb with h | h
 · exact h1 b h
 · exact h2 b h
theorem one_byte {x : Nat} (h : x < 256) : ∀ b ∈ [x], b < 256 := fun b hb => by rw [List.mem_singleton.1 hb]; exact h
theorem wr0_byte {a : AR} (h : Right a) : (∀ b ∈ wr0 a, b < 256) ∧ (wr0 a).length <= 4000 := by
 have pl : ∀ K : RP, (pyB K).length <= 33 := fun K => by rw [pyB_len]; exact pbL_le K
 rcases h with ⟨k, c1, c2, c3⟩ | ⟨k, c1, c2, c3, c4, c5, c6, c7, c8⟩ | ⟨k, c1, c2, c3, c4, c5, c6⟩ | ⟨k, c⟩ | ⟨k, c⟩
 · rw [wr0_1 k]
  refine ⟨app_byte (app_byte (one_byte (by decide)) (pyB_byte _)) (app_byte (beL_byte _ _) (txB_byte _)), ?_⟩
  have := pl a.K
  have := lbl_size c2
  simp only [List.length_append, beL_len, txB_len, List.length_cons, List.length_nil]; omega
 · rw [wr0_2 k]
  unfold l1A l0A
  refine ⟨app_byte (app_byte (app_byte (app_byte (one_byte (by decide)) (one_byte (by omega))) (syS_byte _ _)) (one_byte (by omega))) (pyS_byte _ _), ?_⟩
  have := pyL_le a.V a.m
  simp only [List.length_append, syS_len, pyS_len, List.length_cons, List.length_nil]; omega
 · rw [wr0_3 k]
  refine ⟨app_byte (app_byte (app_byte (one_byte (by decide)) (one_byte (by omega))) (pyB_byte _)) (app_byte (beL_byte _ _) (beL_byte _ _)), ?_⟩
  have := pl a.K
  simp only [List.length_append, beL_len, List.length_cons, List.length_nil]; omega
 · rw [wr0_4 k]
  refine ⟨app_byte (app_byte (one_byte (by decide)) (pyB_byte _)) (app_byte (beL_byte _ _) (beL_byte _ _)), ?_⟩
  have := pl a.K
  simp only [List.length_append, beL_len, List.length_cons, List.length_nil]; omega
 · have e : wr0 a = [5] := by unfold wr0; rw [k]; rfl
  rw [e]; exact ⟨one_byte (by decide), by decide⟩
theorem okY_li {l : List Nat} (h : ∀ b ∈ l, b < 256) (n : Nat) (hn : n <= l.length) : okY n (liF l) = true := okY_iff.2 fun j hj => by
 rw [bI_li, List.getD_eq_getElem?_getD, List.getElem?_eq_getElem (by omega), Option.getD_some]
 have := h _ (List.getElem_mem (show j < l.length by omega))
 omega
theorem okY_sgF {n m : Nat} {f : Nat -> List Value} (h : okY n f = true) : okY n (sgF m f) = true := okY_iff.2 fun j hj => by
 rw [bI_sg]; exact okY_iff.1 h j hj
theorem lsB_sg {n m : Nat} {f : Nat -> List Value} {l : List Nat} (h : okY n f = true) (hf : Holds n f l) : lsB n (sgF m f) = l := rep_uniq (rep_ls (okY_sgF h)) (rep_sg m hf) rfl
theorem wrA_byte (A : AR) : (∀ b ∈ wrA A, b < 256) ∧ (wrA A).length <= 4000 := by
 by_cases h : ckE A = 0
 · rw [wrA_ok h]; exact wr0_byte (ckE_iff.1 h)
 · rw [wrA_no h]; exact ⟨fun b hb => (by cases hb), (by decide)⟩
theorem holds_wr (A : AR) : Holds (wrL A) (liF (wrA A)) (wrA A) ∧ okY (wrL A) (liF (wrA A)) = true := by
 rw [wrL_eq]
 exact ⟨rep_li _, okY_li (wrA_byte A).1 _ (Nat.le_refl _)⟩
theorem lsW_eq (A : AR) : lsW A = wrA A := lsB_sg (holds_wr A).2 (holds_wr A).1
theorem rdcW_eq (A : AR) : rdcW A = true := by
 have := (wrA_byte A).2
 unfold rdcW
 rw [whN_true, okY_sgF (holds_wr A).2, Nat.ble_eq_true_of_le (by rw [wrL_eq]; omega)]; rfl
end Go.W

namespace Go.W
open Go
theorem rN_lit {s : ByteArray} (n : Nat) (h : (∀ k, k < n -> ps s k < s.size) ∧ ps s n = s.size) : rN s = n := rN_of h
theorem lbl_lit {s : ByteArray} (n : Nat) (h : (∀ k, k < n -> ps s k < s.size) ∧ ps s n = s.size) (h1 : 1 <= n ∧ n <= 24 ∧ (∀ k, k < n -> okC (rc s k)) ∧ rc s 0 ≠ 32 ∧ rc s (n - 1) ≠ 32) : lbl s := by
 unfold lbl; rw [rN_lit n h]; exact h1
def tA : ByteArray := ⟨#[65, 100, 97, 32, 76, 46]⟩
def tE : ByteArray := ⟨#[195, 164, 98]⟩
end Go.W

namespace Go.W
open Go
theorem wrL_no {A : AR} (h : ckE A ≠ 0) : ((wrL A : Nat) : Int) = 0 := by rw [wrL_eq, wrA_no h]; rfl
end Go.W

namespace Go.W
theorem bas1 : basS 1 = gR := rp_ext (ck_bas 1) gR_ck (by rw [pt_bas, gR_pt, mulP_one])
end Go.W

namespace Go.W
open Go
noncomputable def okVb (mm : Nat -> Option Blk) (v : Value) : Bool := isA mm v && Nat.ble (unA mm v).l.size 1000000
noncomputable def enB (mm : Nat -> Option Blk) (v : Value) (want : Int) : Option Value :=
 req (okVb mm v) (bif ckE (unA mm v) != want then ff12 else req (okVb mm v) (bif ckE (unA mm v) != want then ff12 else bif ((wrL (unA mm v) : Nat) : Int) == 0 then tt12 else ff12))
noncomputable def enG (mm : Nat -> Option Blk) (v : Value) (k : Int) (n m : Nat) : Option Value :=
 req (okVb mm v) (bif ckE (unA mm v) != 0 then ff12 else req (okVb mm v) (bif ckE (unA mm v) != 0 then ff12 else req (rdcW (unA mm v)) (bif raE (lsW (unA mm v)) == 0 then
  (bif (raA (lsW (unA mm v))).k == k then (bif (((raA (lsW (unA mm v))).n : Nat) : Int) == ((n : Nat) : Int) then (bif (((raA (lsW (unA mm v))).m : Nat) : Int) == ((m : Nat) : Int) then tt12 else ff12) else ff12) else ff12) else ff12)))
theorem enB_eq {mm : Nat -> Option Blk} {v : Value} {U : AR} {want : Int} (h1 : isA mm v = true) (h2 : unA mm v = U) (hl : U.l.size <= 1000000) (hc : ckE U = want) (h0 : want ≠ 0) : enB mm v want = some (.bool true) := by
 unfold enB okVb
 rw [h1, h2, Nat.ble_eq_true_of_le hl, req_true (b := true && true) rfl, hc, bne_self_eq_false, cond_false, req_true (b := true && true) rfl, cond_false, wrL_no (by rw [hc]; exact h0)]; rfl
theorem enG_eq {mm : Nat -> Option Blk} {v : Value} {U A : AR} {k : Int} {n m : Nat} (h1 : isA mm v = true) (h2 : unA mm v = U) (hl : U.l.size <= 1000000) (hs : Sam U A) (hR : Right A) (hw : Wsl A) (hk : A.k = k) (hn : A.n = n) (hm : A.m = m) : enG mm v k n m = some (.bool true) := by
 have hRU := Right_sam hs hR
 have hc := ckE_iff.2 hRU
 have hwU : Wsl U := fun j hj => by
  have e := hs.2.2.2.2.1 j hj
  rw [e]
  exact hw j (by have := hs.2.2.2.1; omega)
 have hL : wrA U = wr0 U := wrA_ok hc
 have hs2 : Sam U (raA (wrA U)) := raA_of hRU hwU hL.symm
 have hs3 := hs.symm.trans hs2
 have hr : isRd (wrA U) := ⟨U, hRU, hwU, hL.symm⟩
 have a1 : (raA (wrA U)).k = k := by rw [<- hs3.1]; exact hk
 have a2 : (raA (wrA U)).n = n := by rw [<- hs3.2.2.2.1]; exact hn
 have a3 : (raA (wrA U)).m = m := by rw [<- hs3.2.2.2.2.2.1]; exact hm
 unfold enG okVb
 rw [h1, h2, Nat.ble_eq_true_of_le hl, req_true (b := true && true) rfl, hc, bne_self_eq_false, cond_false, req_true (b := true && true) rfl, cond_false, rdcW_eq, req_true rfl, lsW_eq, raE_yes hr, a1, a2, a3]; simp only [beq_self_eq_true]; rfl
noncomputable def bdG : RP := basS (unnum (.agg #[u64 1, u64 0, u64 0, u64 0]))
theorem bdG_eq : bdG = gR := by
 unfold bdG
 rw [show unnum (.agg #[u64 1, u64 0, u64 0, u64 0]) = 1 from by decide +kernel, bas1]
theorem bdG_ok : okR bdG ∧ ckR bdG = true ∧ bdG.1 = false ∧ fulB bdG = true := by
 rw [bdG_eq]
 refine ⟨ck_okR gR_ck, gR_ck, rfl, ?_⟩
 unfold fulB
 rw [gR_ck]; rfl
noncomputable def bdO (ov : Int) : Int := IntKind.i64.wrap ((IntKind.u64.wrap ov).tmod 2)
noncomputable def bdW (wh : Int) : Int := (IntKind.u64.wrap wh).tmod 6
theorem bdO_eq (ov : Int) : bdO ov = 0 ∨ bdO ov = 1 := by
 unfold bdO
 rw [wrap_u64]
 have h2 : 0 <= ov % 18446744073709551616 := by omega
 rw [Int.tmod_eq_emod_of_nonneg h2, wrap_i64 (by omega)]
 omega
def mkN32 (l : Int) : Bool := decide (l = l) && decide (0 <= l) && szOk l.toNat 32 && true && true && true && true && true
theorem mkN32_true {l : Int} (h0 : 0 <= l) (h : l <= 1000) : mkN32 l = true := by
 unfold mkN32
 rw [decide_eq_true rfl, decide_eq_true h0, szOk_mul (by omega)]; rfl
def bdC (K : RP) : Nat × Blk := (bCo, ⟨.lst (ptC K), 0, true⟩)
def bd0M (n : Nat) (K : RP) : Nat -> Option Blk := look [bsR 0 n (slF fun _ => 0), bdC K]
def bd0V (n : Nat) : Value := acV 2 zR ⟨#[]⟩ (bsS n) (bsC 1) 0 (0, 0)
def bd1M (m : Nat) (F : Nat -> List Value) : Nat -> Option Blk := look [bcR 0 m F]
def bd1V (m : Nat) : Value := acV 2 zR ⟨#[]⟩ nilS (bsC m) 0 (0, 0)
def bd2M (K : RP) : Nat -> Option Blk := look [bdC K]
def bdN : Nat -> Option Blk := fun _ => none
def bd3V (K : RP) (g : Int) : Value := acV 3 K ⟨#[]⟩ nilS nilS g (0, 0)
def bd4V (K : RP) (c : Nat) : Value := acV 4 K ⟨#[]⟩ nilS nilS 0 (c, 0)
def bd5V (K : RP) : Value := acV 1 K ⟨#[120]⟩ nilS nilS 0 (0, 0)
def bdX (tA tP b c : Nat) (F : Nat -> List Value) (i O : Int) : St :=
 ⟨[(1, i64 O), (6, .pointer (some ⟨13, 0, none⟩)), (7, i64 0), (8, i64 i)], [(13, ⟨.lst (acC 2 zR ⟨#[]⟩ nilS (.slice (some ⟨b, 0, none⟩) c c) 0 (0, 0)), tA, true⟩), (b, ⟨.row kP9 c F, tP, true⟩)], 24⟩
def bdY (tA tP b c : Nat) (F : Nat -> List Value) (O : Int) : St :=
 ⟨[(1, i64 O), (6, .pointer (some ⟨13, 0, none⟩)), (7, i64 0)], [(13, ⟨.lst (acC 2 zR ⟨#[]⟩ nilS (.slice (some ⟨b, 0, none⟩) c c) 0 (0, 0)), tA, true⟩), (b, ⟨.row kP9 c F, tP, true⟩)], 24⟩
def bdZ (tA tP : Nat) (K : RP) (O : Int) : St :=
 ⟨[(1, i64 O), (6, .pointer (some ⟨13, 0, none⟩)), (7, i64 0), (8, i64 1)], [(13, ⟨.lst (acC 2 zR ⟨#[]⟩ nilS (.slice (some ⟨11, 0, none⟩) 1 1) 0 (0, 0)), tA, true⟩), (11, ⟨.lst (ptC K), tP, true⟩)], 24⟩
def bdV (K : RP) (j : Nat) : RP := bif Nat.beq j 0 then K else infR
theorem row_bd0 (K : RP) : ∀ x, x < 2 -> nrmK kP9 (appF 1 (lstF (ptC K) 0 9) (lstF (ptC infR) 0 9) x) = nrmK kP9 (ptF (bdV K) x) := by
 intro x hx
 obtain rfl | rfl : x = 0 ∨ x = 1 := by omega
 · rfl
 · rfl
theorem row_bd1 (K : RP) (k : Nat) : ∀ x, x < k + 1 + 1 -> nrmK kP9 (appF (k + 1) (ptF (bdV K)) (lstF (ptC infR) 0 9) x) = nrmK kP9 (ptF (bdV K) x) :=
 app_row (ks := kP9) (fun _ _ => rfl) rfl
def bdS (tA tP : Nat) (K : RP) (O : Int) : Nat -> St
 | 0 => bdZ tA tP K O
 | k + 1 => bdX tA tP bCo (k + 2) (ptF (bdV K)) ((k + 2 : Nat) : Int) O
noncomputable def bdTr (wh ov : Int) (t1 : Option Value) : Option Value :=
 bif bdW wh == 0 then req (mkN32 (IntKind.i64.wrap (8 + bdO ov))) (bif decide (bdO ov > 0) then enB (bd0M (IntKind.i64.wrap (8 + bdO ov)).toNat bdG) (bd0V (IntKind.i64.wrap (8 + bdO ov)).toNat) 4 else enG (bd0M (IntKind.i64.wrap (8 + bdO ov)).toNat bdG) (bd0V (IntKind.i64.wrap (8 + bdO ov)).toNat) 2 (IntKind.i64.wrap (8 + bdO ov)).toNat 1) else
 bif bdW wh == 1 then t1 else
 bif bdW wh == 2 then (bif decide (bdO ov > 0) then enB (bd2M infR) (bd1V 1) 3 else enG (bd2M bdG) (bd1V 1) 2 0 1) else
 bif bdW wh == 3 then (bif decide (bdO ov > 0) then enB bdN (bd3V bdG (IntKind.i64.wrap (8 + bdO ov))) 1 else enG bdN (bd3V bdG (IntKind.i64.wrap (8 + bdO ov))) 3 0 0) else
 bif bdW wh == 4 then (bif decide (bdO ov > 0) then enB bdN (bd4V bdG (primeN 1)) 2 else enG bdN (bd4V bdG 0) 4 0 0) else
 (bif decide (bdO ov > 0) then enB bdN (bd5V infR) 3 else enG bdN (bd5V bdG) 1 0 0)
noncomputable def bd1T (m : Nat) (F : Nat -> List Value) (O : Int) : Option Value := bif decide (O > 0) then enB (bd1M m F) (bd1V m) 4 else enG (bd1M m F) (bd1V m) 2 0 m
end Go.W

namespace Go.W
open Go
theorem l0E : (⟨#[]⟩ : ByteArray).size <= 1000000 := by decide
theorem l1E : (⟨#[120]⟩ : ByteArray).size <= 1000000 := by decide
theorem ck_post {n m : Nat} {S : Nat -> Nat} {V : Nat -> RP} : ckE ⟨2, zR, ⟨#[]⟩, n, S, m, V, 0, (0, 0)⟩ = if 8 < n ∨ m < 1 ∨ 64 < m then 4 else if alP V m = false ∨ (V 0).1 = true then 3 else 0 := by
 have hb : bare ⟨2, zR, ⟨#[]⟩, n, S, m, V, 0, (0, 0)⟩ = true := rfl
 unfold ckE
 rw [if_neg (show ¬ ((2 : Int) < 1 ∨ (5 : Int) < 2) by decide), if_neg (by rw [hb]; decide), if_neg (show ¬ ((2 : Int) = 1) by decide), if_pos rfl]
theorem right_post {n m : Nat} {S : Nat -> Nat} {V : Nat -> RP} (hn : n <= 8) (h1 : 1 <= m) (h2 : m <= 64) (h3 : alP V m = true) (h4 : (V 0).1 = false) : Right ⟨2, zR, ⟨#[]⟩, n, S, m, V, 0, (0, 0)⟩ :=
 .inr (.inl ⟨rfl, rfl, rfl, rfl, rfl, hn, h1, h2, h3, h4⟩)
theorem src_nil32 (mm : Nat -> Option Blk) : srcB mm k32 nilS = (true, 0, nilF) := rfl
theorem src_nil9 (mm : Nat -> Option Blk) : srcB mm kP9 nilS = (true, 0, nilF) := rfl
theorem okSl_0 (f : Nat -> List Value) : okSl 0 f = true := okSl_iff.2 ⟨by decide, fun j hj => absurd hj (Nat.not_lt_zero _)⟩
theorem okP_0 (f : Nat -> List Value) : okP 0 f = true := okP_iff.2 ⟨by decide, fun j hj => absurd hj (Nat.not_lt_zero _)⟩
theorem wsl_0 {k : Int} {K : RP} {l : ByteArray} {S : Nat -> Nat} {m : Nat} {V : Nat -> RP} {g : Int} {X : Nat × Nat} : Wsl ⟨k, K, l, 0, S, m, V, g, X⟩ := fun _ hj => absurd hj (Nat.not_lt_zero _)
theorem wsl_z {k : Int} {K : RP} {l : ByteArray} {n : Nat} {m : Nat} {V : Nat -> RP} {g : Int} {X : Nat × Nat} : Wsl ⟨k, K, l, n, slA (sg32 n (slF fun _ => 0)), m, V, g, X⟩ := fun j _ => by
 show slA (sg32 n (slF fun _ => 0)) j < 2 ^ 256
 rw [slA_sg, slA_slF (by decide)]; decide
theorem src_one {mm : Nat -> Option Blk} (K : RP) (h : mm bCo = some (bdC K).2) : srcB mm kP9 (bsC 1) = (true, 1, lstF (ptC K) 0 9) := by
 unfold srcB bsC
 simp only [h]
 rfl
theorem pA_one {K : RP} (h : okR K) : pA (lstF (ptC K) 0 9) 0 = K := pA_pt (V := fun _ => K) (j := 0) h
theorem okP_one (K : RP) : okP 1 (lstF (ptC K) 0 9) = true := okP_iff.2 ⟨by decide, fun j hj => by
 have : j = 0 := by omega
 subst this
 exact isPt_ptV K⟩
theorem alP_one {K : RP} (h : ckR K = true) : alP (pA (lstF (ptC K) 0 9)) 1 = true := alP_iff.2 fun j hj => by
 have : j = 0 := by omega
 subst this
 rw [pA_one (ck_okR h)]; exact h
theorem okR_zR : okR zR := ⟨by decide, by decide⟩
theorem okR_infR : okR infR := ⟨by decide, by decide⟩
theorem bd0_facts {n : Nat} (hn : n <= 9) (K : RP) : isA (bd0M n K) (bd0V n) = true ∧ unA (bd0M n K) (bd0V n) = ⟨2, zR, ⟨#[]⟩, n, slA (sg32 n (slF fun _ => 0)), 1, pA (lstF (ptC K) 0 9), 0, (0, 0)⟩ := by
 have e1 : srcB (bd0M n K) k32 (bsS n) = (Nat.beq 0 0 && Nat.ble n n && ksEq k32 k32 && Nat.ble n n, n, sg32 n (slF fun _ => 0)) := rfl
 have s1 : srcB (bd0M n K) k32 (bsS n) = (true, n, sg32 n (slF fun _ => 0)) := by
  rw [e1, Nat.ble_eq_true_of_le (Nat.le_refl n)]; rfl
 have s2 : srcB (bd0M n K) kP9 (bsC 1) = (true, 1, lstF (ptC K) 0 9) := src_one K rfl
 have o1 : okSl n (sg32 n (slF fun _ => 0)) = true := by rw [okSl_sg]; exact okSl_slF (by omega)
 exact ⟨isA_ac s1 o1 s2 (okP_one K), unA_ac okR_zR (by decide) (by decide) s1 s2⟩
theorem bd0_bad {n : Nat} (hn : n <= 9) {K : RP} (h : 8 < n) : enB (bd0M n K) (bd0V n) 4 = some (.bool true) := by
 obtain ⟨h1, h2⟩ := bd0_facts hn K
 refine enB_eq h1 h2 l0E ?_ (by decide)
 rw [ck_post, if_pos (.inl h)]
theorem bd0_good {n : Nat} (hn : n <= 9) {K : RP} (hK : ckR K = true) (hI : K.1 = false) (h : n <= 8) : enG (bd0M n K) (bd0V n) 2 n 1 = some (.bool true) := by
 obtain ⟨h1, h2⟩ := bd0_facts hn K
 exact enG_eq h1 h2 l0E (Sam.refl _) (right_post h (Nat.le_refl _) (by decide) (alP_one hK) (by rw [pA_one (ck_okR hK)]; exact hI)) wsl_z rfl rfl rfl
theorem bd1_facts {m : Nat} (hm : m <= 65) (K : RP) : isA (bd1M m (ptF (bdV K))) (bd1V m) = true ∧ unA (bd1M m (ptF (bdV K))) (bd1V m) = ⟨2, zR, ⟨#[]⟩, 0, slA nilF, m, pA (sg9 m (ptF (bdV K))), 0, (0, 0)⟩ := by
 have e2 : srcB (bd1M m (ptF (bdV K))) kP9 (bsC m) = (Nat.beq 0 0 && Nat.ble m m && ksEq kP9 kP9 && Nat.ble m m, m, sg9 m (ptF (bdV K))) := rfl
 have s2 : srcB (bd1M m (ptF (bdV K))) kP9 (bsC m) = (true, m, sg9 m (ptF (bdV K))) := by
  rw [e2, Nat.ble_eq_true_of_le (Nat.le_refl m)]; rfl
 have o2 : okP m (sg9 m (ptF (bdV K))) = true := by rw [okP_sg]; exact okP_pt (by omega)
 exact ⟨isA_ac (src_nil32 _) (okSl_0 _) s2 o2, unA_ac okR_zR (by decide) (by decide) (src_nil32 _) s2⟩
theorem bdV_ck {K : RP} (hK : ckR K = true) : ∀ j, ckR (bdV K j) = true := fun j => by
 unfold bdV
 cases Nat.beq j 0 with
 | true => exact hK
 | false => exact (show ckR infR = true by decide)
theorem bd1_bad {m : Nat} (hm : m <= 65) {K : RP} (h : 64 < m) : enB (bd1M m (ptF (bdV K))) (bd1V m) 4 = some (.bool true) := by
 obtain ⟨h1, h2⟩ := bd1_facts hm K
 refine enB_eq h1 h2 l0E ?_ (by decide)
 rw [ck_post, if_pos (.inr (.inr h))]
theorem bd1_good {m : Nat} (hm : m <= 65) (h1m : 1 <= m) {K : RP} (hK : ckR K = true) (hI : K.1 = false) (h : m <= 64) : enG (bd1M m (ptF (bdV K))) (bd1V m) 2 0 m = some (.bool true) := by
 obtain ⟨h1, h2⟩ := bd1_facts hm K
 have hp : ∀ j, pA (sg9 m (ptF (bdV K))) j = bdV K j := fun j => by rw [pA_sg, pA_pt (ck_okR (bdV_ck hK j))]
 refine enG_eq h1 h2 l0E (Sam.refl _) (right_post (by decide) h1m h (alP_iff.2 fun j _ => ?_) ?_) wsl_0 rfl rfl rfl
 · rw [hp]; exact bdV_ck hK j
 · rw [hp]; exact hI
theorem bd1T_eq {O : Int} (hO : O = 0 ∨ O = 1) {K : RP} (hK : ckR K = true) (hI : K.1 = false) : bd1T (64 + O.toNat) (ptF (bdV K)) O = some (.bool true) := by
 unfold bd1T
 rcases hO with rfl | rfl
 · exact bd1_good (by decide) (by decide) hK hI (by decide)
 · exact bd1_bad (by decide) (by decide)
theorem bd2_facts (K : RP) : isA (bd2M K) (bd1V 1) = true ∧ unA (bd2M K) (bd1V 1) = ⟨2, zR, ⟨#[]⟩, 0, slA nilF, 1, pA (lstF (ptC K) 0 9), 0, (0, 0)⟩ := by
 have s2 : srcB (bd2M K) kP9 (bsC 1) = (true, 1, lstF (ptC K) 0 9) := src_one K rfl
 exact ⟨isA_ac (src_nil32 _) (okSl_0 _) s2 (okP_one K), unA_ac okR_zR (by decide) (by decide) (src_nil32 _) s2⟩
theorem bd2_bad : enB (bd2M infR) (bd1V 1) 3 = some (.bool true) := by
 obtain ⟨h1, h2⟩ := bd2_facts infR
 refine enB_eq h1 h2 l0E ?_ (by decide)
 rw [ck_post, if_neg (by decide), if_pos (.inr (by rw [pA_one okR_infR]; rfl))]
theorem bd2_good {K : RP} (hK : ckR K = true) (hI : K.1 = false) : enG (bd2M K) (bd1V 1) 2 0 1 = some (.bool true) := by
 obtain ⟨h1, h2⟩ := bd2_facts K
 exact enG_eq h1 h2 l0E (Sam.refl _) (right_post (by decide) (Nat.le_refl _) (by decide) (alP_one hK) (by rw [pA_one (ck_okR hK)]; exact hI)) wsl_0 rfl rfl rfl
theorem bdN_facts (k : Int) {K : RP} (hK : okR K) (l : ByteArray) (g : Int) {X : Nat × Nat} (h1 : X.1 < 2 ^ 256) (h2 : X.2 < 2 ^ 256) : isA bdN (acV k K l nilS nilS g X) = true ∧ unA bdN (acV k K l nilS nilS g X) = ⟨k, K, l, 0, slA nilF, 0, pA nilF, g, X⟩ :=
 ⟨isA_ac (src_nil32 _) (okSl_0 _) (src_nil9 _) (okP_0 _), unA_ac hK h1 h2 (src_nil32 _) (src_nil9 _)⟩
section
variable {K : RP} (hK : okR K) (hf : fulB K = true)
include hK
theorem bd3_bad : enB bdN (bd3V K 9) 1 = some (.bool true) := by
 obtain ⟨h1, h2⟩ := bdN_facts 3 hK ⟨#[]⟩ 9 (X := (0, 0)) (by decide) (by decide)
 refine enB_eq h1 h2 l0E ?_ (by decide)
 unfold ckE
 rw [if_neg (show ¬ ((3 : Int) < 1 ∨ (5 : Int) < 3) by decide), if_neg (by rw [show bare ⟨3, K, ⟨#[]⟩, 0, slA nilF, 0, pA nilF, 9, (0, 0)⟩ = true from rfl]; decide), if_neg (show ¬ ((3 : Int) = 1) by decide), if_neg (show ¬ ((3 : Int) = 2) by decide), if_neg (show ¬ ((3 : Int) = 5) by decide), if_pos ⟨rfl, .inr (show (8 : Int) < 9 by decide)⟩]
include hf
theorem bd3_good : enG bdN (bd3V K 8) 3 0 0 = some (.bool true) := by
 obtain ⟨h1, h2⟩ := bdN_facts 3 hK ⟨#[]⟩ 8 (X := (0, 0)) (by decide) (by decide)
 exact enG_eq h1 h2 l0E (Sam.refl _) (.inr (.inr (.inl ⟨rfl, rfl, rfl, rfl, (show (1 : Int) <= 8 by decide), (show (8 : Int) <= 8 by decide), hf, (show 0 < pN by decide), (show 0 < pN by decide)⟩))) wsl_0 rfl rfl rfl
theorem bd4_bad : enB bdN (bd4V K (primeN 1)) 2 = some (.bool true) := by
 obtain ⟨h1, h2⟩ := bdN_facts 4 hK ⟨#[]⟩ 0 (X := (primeN 1, 0)) (show primeN 1 < 2 ^ 256 by decide) (by decide)
 refine enB_eq h1 h2 l0E ?_ (by decide)
 unfold ckE
 rw [if_neg (show ¬ ((4 : Int) < 1 ∨ (5 : Int) < 4) by decide), if_neg (by rw [show bare ⟨4, K, ⟨#[]⟩, 0, slA nilF, 0, pA nilF, 0, (primeN 1, 0)⟩ = true from rfl]; decide), if_neg (show ¬ ((4 : Int) = 1) by decide), if_neg (show ¬ ((4 : Int) = 2) by decide), if_neg (show ¬ ((4 : Int) = 5) by decide), if_neg (fun h => absurd h.1 (show ¬ ((4 : Int) = 3) by decide)), if_neg (by rw [hf]; decide), if_pos (fun h => absurd h.1 (show ¬ (pN < pN) from Nat.lt_irrefl _))]
theorem bd4_good : enG bdN (bd4V K 0) 4 0 0 = some (.bool true) := by
 obtain ⟨h1, h2⟩ := bdN_facts 4 hK ⟨#[]⟩ 0 (X := (0, 0)) (by decide) (by decide)
 exact enG_eq h1 h2 l0E (Sam.refl _) (.inr (.inr (.inr (.inl ⟨rfl, rfl, rfl, rfl, rfl, hf, (show 0 < pN by decide), (show 0 < pN by decide)⟩)))) wsl_0 rfl rfl rfl
theorem bd5_good : enG bdN (bd5V K) 1 0 0 = some (.bool true) := by
 obtain ⟨h1, h2⟩ := bdN_facts 1 hK ⟨#[120]⟩ 0 (X := (0, 0)) (by decide) (by decide)
 have hl : lblB ⟨#[120]⟩ = true := lblB_iff.2 (lbl_lit 1 (by decide +kernel) (by decide +kernel))
 exact enG_eq h1 h2 l1E (Sam.refl _) (.inl ⟨rfl, hf, hl, rfl, rfl, rfl, rfl⟩) wsl_0 rfl rfl rfl
end
theorem bd5_bad : enB bdN (bd5V infR) 3 = some (.bool true) := by
 obtain ⟨h1, h2⟩ := bdN_facts 1 okR_infR ⟨#[120]⟩ 0 (X := (0, 0)) (by decide) (by decide)
 refine enB_eq h1 h2 l1E ?_ (by decide)
 unfold ckE
 rw [if_neg (show ¬ ((1 : Int) < 1 ∨ (5 : Int) < 1) by decide), if_neg (by rw [show bare ⟨1, infR, ⟨#[120]⟩, 0, slA nilF, 0, pA nilF, 0, (0, 0)⟩ = true from rfl]; decide), if_pos rfl, if_pos (show fulB infR = false from rfl)]
theorem bdTr_eq (wh ov : Int) {t1 : Option Value} (ht : t1 = some (.bool true)) : bdTr wh ov t1 = some (.bool true) := by
 obtain ⟨g1, g2, g3, g4⟩ := bdG_ok
 have hO := bdO_eq ov
 unfold bdTr
 generalize bdO ov = O at hO ⊢
 generalize bdG = K at g1 g2 g3 g4 ⊢
 generalize bdW wh = w
 cases w == 0 with
 | true =>
  rw [cond_true]
  rcases hO with rfl | rfl
  · rw [mkN32_true (by decide) (by decide), req_true rfl]; exact bd0_good (n := 8) (by decide) g2 g3 (by decide)
  · rw [mkN32_true (by decide) (by decide), req_true rfl]; exact bd0_bad (n := 9) (by decide) (by decide)
 | false =>
 rw [cond_false]
 cases w == 1 with
 | true => rw [cond_true]; exact ht
 | false =>
 rw [cond_false]
 cases w == 2 with
 | true =>
  rw [cond_true]
  rcases hO with rfl | rfl
  · exact bd2_good g2 g3
  · exact bd2_bad
 | false =>
 rw [cond_false]
 cases w == 3 with
 | true =>
  rw [cond_true]
  rcases hO with rfl | rfl
  · exact bd3_good g1 g4
  · exact bd3_bad g1
 | false =>
 rw [cond_false]
 cases w == 4 with
 | true =>
  rw [cond_true]
  rcases hO with rfl | rfl
  · exact bd4_good g1 g4
  · exact bd4_bad g1 g4
 | false =>
 rw [cond_false]
 rcases hO with rfl | rfl
 · exact bd5_good g1 g4
 · exact bd5_bad
end Go.W

namespace Go.Proofs.Ytckbmhegopjnmaa
set_option maxRecDepth 100000
open Go.W
open Go.RowKit (Below)
noncomputable def abdS : Sums := [(7, .me (BabF 5)), (15, .me CkeF), (9, .me (RacF 94 26)), (8, .pl Wk12F), (13, .pl CBasF), (14, .pl PrimeF)]
theorem abdS_ok : SumsOk Try.prog abdS := sums_consM aby_msum (sums_consM ack_msum (sums_consM ard_msum (sums_cons wk12_sum (sums_cons cBa_sum (sums_cons Prime_sum sums_nil)))))
noncomputable def abdC0 : Cfg := ⟨tab, abdS, 135, [([1, 1, 1, 1, 1, 0, 1, 0, 1, 1, 1, 0, 0, 1, 0], fun _ => [])]⟩
theorem abd_at : codeAt [1, 1, 1, 1, 1, 0, 1, 0, 1, 1, 1, 0, 0, 1, 0] (bodyOf Try.f5) = some (.loop (loopAt [1, 1, 1, 1, 1, 0, 1, 0, 1, 1, 1, 0, 0, 1, 0] (bodyOf Try.f5))) := by kernel_rfl
theorem abd_r0 (K : RP) (O : Int) :
  roundS abdC0 60 [1, 1, 1, 1, 1, 0, 1, 0, 1, 1, 1, 0, 0, 1, 0, 0] (loopAt [1, 1, 1, 1, 1, 0, 1, 0, 1, 1, 1, 0, 0, 1, 0] (bodyOf Try.f5)) [1, 6, 7, 8] [(13, 13), (bCo, nid 32 0)] 24 [1, 6, 7] [(13, 13), (bCo, bCo)] 24
   (bdZ 32 26 K O) =
  bif decide (1 < IntKind.i64.wrap (64 + O)) then some (.normal, bdX 32 26 bCo 2 (appF 1 (lstF (ptC K) 0 9) (lstF (ptC infR) 0 9)) (IntKind.i64.wrap (1 + 1)) O)
   else none := by kernel_rfl
theorem abd_r1 (c : Nat) (F : Nat -> List Value) (i O : Int) :
  roundS abdC0 60 [1, 1, 1, 1, 1, 0, 1, 0, 1, 1, 1, 0, 0, 1, 0, 0] (loopAt [1, 1, 1, 1, 1, 0, 1, 0, 1, 1, 1, 0, 0, 1, 0] (bodyOf Try.f5)) [1, 6, 7, 8] [(13, 13), (bCo, nid 32 0)] 24 [1, 6, 7] [(13, 13), (bCo, bCo)] 24
   (bdX 32 26 bCo c F i O) =
  bif decide (i < IntKind.i64.wrap (64 + O)) then req (szOk (c + 1) 72) (req (true && Nat.beq c c && true && true) (some (.normal, bdX 32 26 bCo (c + 1) (appF c F (lstF (ptC infR) 0 9)) (IntKind.i64.wrap (i + 1)) O)))
   else some (.exit 1, bdY 32 26 bCo c F O) := by kernel_rfl
theorem abd_l (K : RP) {O : Int} (hO : O = 0 ∨ O = 1) :
  LoopOk Try.prog 135 (loopAt [1, 1, 1, 1, 1, 0, 1, 0, 1, 1, 1, 0, 0, 1, 0] (bodyOf Try.f5)) (atSt [1, 6, 7, 8] [(13, 13), (11, 11)] 24
   (bdZ 32 26 K O) (.exit 1) (bdY 32 26 bCo (64 + O.toNat) (ptF (bdV K)) O)) := by
 have hw : IntKind.i64.wrap (64 + O) = 64 + O := wrap_i64 (by omega)
 refine loopW (fun _ => abdC0) (63 + O.toNat) (fun _ _ => ⟨mixed, tabOk, abdS_ok, noneL2⟩) (fun _ => rfl) abd_at (m := 60) (nt := fun _ => [1, 6, 7, 8]) (ni := fun _ => [(13, 13), (bCo, nid 32 0)]) (et := fun _ => [1, 6, 7]) (ei := fun _ => [(13, 13), (bCo, bCo)]) (nx := 24) (ex := 24)
  (bdS 32 26 K O) (fun _ R _ _ h => ⟨R, h⟩) (by intro h; cases h) ?_ ?_
 · intro k hk
  match k, hk with
  | 0, hk =>
   refine ⟨_, (abd_r0 K O).trans ?_, stEq_mk rfl (mSame rfl (mRow (row_bd0 K) mNil))⟩
   rw [hw, decide_eq_true (by omega), cond_true]; rfl
  | k + 1, hk =>
   refine ⟨_, (abd_r1 (k + 2) (ptF (bdV K)) ((k + 2 : Nat) : Int) O).trans ?_, stEq_mk rfl (mSame rfl (mRow (row_bd1 K (k + 1)) mNil))⟩
   rw [hw, decide_eq_true (by omega), cond_true, szOk_mul (show (k + 2 + 1) * 72 <= 1000000 by omega), req_true rfl, bb3, req_true rfl, wrap_i64 (by omega)]; rfl
 · rw [show 63 + O.toNat = (62 + O.toNat) + 1 from by omega]
  refine ⟨_, (abd_r1 (62 + O.toNat + 2) (ptF (bdV K)) ((62 + O.toNat + 2 : Nat) : Int) O).trans ?_, stEq_refl rfl⟩
  rw [hw, decide_eq_false (by omega), cond_false, show 62 + O.toNat + 2 = 64 + O.toNat from by omega]
noncomputable def abdC (K : RP) (O : Int) (c : Nat) (F : Nat -> List Value) : Cfg := ⟨tab, abdS, 135, [([1, 1, 1, 1, 1, 0, 1, 0, 1, 1, 1, 0, 0, 1, 0], atSt [1, 6, 7, 8] [(13, 13), (11, 11)] 24
   (bdZ 32 26 K O) (.exit 1) (bdY 32 26 bCo c F O))]⟩
theorem abd_ev (wh ov : Int) (K : RP) (O : Int) (c : Nat) (F : Nat -> List Value) : fnS (abdC K O c F) 60 Try.f5 (bodyOf Try.f5) [i64 wh, i64 ov] =
  bdTr wh ov (req (stEq (bdZ 32 26 bdG (bdO ov)) (bdZ 32 26 K O)) (bd1T c F O)) := by kernel_rfl
theorem abd_calls {wh ov : Int} {W : World} : Calls Try.prog 5 #[.int .i64 wh, .int .i64 ov] W fun e W' => e = .returned (.bool true) ∧ Below W.heap.size W W' :=
 fn_sound (C := abdC bdG (bdO ov) (64 + (bdO ov).toNat) (ptF (bdV bdG))) ⟨mixed, tabOk, abdS_ok, oneL (abd_l bdG (bdO_eq ov))⟩ Try.func5 (by kernel_rfl) rfl (args := [.int .i64 wh, .int .i64 ov]) (fuel := 60) (by show 2 <= Try.f5.ntmps; decide +kernel) (by kernel_rfl)
  ((abd_ev wh ov _ _ _ _).trans (bdTr_eq wh ov ((req_true (stEq_refl rfl)).trans (bd1T_eq (bdO_eq ov) bdG_ok.2.1 bdG_ok.2.2.1)))) rfl W (GOk_nil _)
end Go.Proofs.Ytckbmhegopjnmaa
