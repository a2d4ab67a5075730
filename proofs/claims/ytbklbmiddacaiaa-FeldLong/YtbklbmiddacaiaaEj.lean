/-
  Several texts in one.
-/
import Derived.Test.YtbklbmiddacaiaaEd
import Derived.Test.YtbklbmiddacaiaaEi
import Derived.Test.YtbklbmiddacaiaaEh
/-
  Rows of points.
-/
namespace Go.W

def kP9 : List CK := [.b, .i .u64, .i .u64, .i .u64, .i .u64, .i .u64, .i .u64, .i .u64, .i .u64]
def ptF (V : Nat → RP) : Nat → List Value := fun j => ptC (V j)
def el9 (f : Nat → List Value) (j : Nat) : Value := .agg (nrmK kP9 (f j)).toArray
def pA (f : Nat → List Value) (j : Nat) : RP := unPt (el9 f j)
noncomputable def okP (n : Nat) (f : Nat → List Value) : Bool := @decide (n ≤ 1000 ∧ ∀ j, j < n → isPt (el9 f j) = true) (Classical.propDecidable _)
theorem okP_iff {n : Nat} {f : Nat → List Value} : okP n f = true ↔ n ≤ 1000 ∧ ∀ j, j < n → isPt (el9 f j) = true := by
  unfold okP
  exact ⟨fun h => @of_decide_eq_true _ (Classical.propDecidable _) h, fun h => @decide_eq_true _ (Classical.propDecidable _) h⟩
theorem el_pt {n : Nat} {f : Nat → List Value} (h : okP n f = true) {j : Nat} (hj : j < n) : el9 f j = ptV (pA f j) ∧ okR (pA f j) := by
  obtain ⟨X, hX, e⟩ := isPt_some ((okP_iff.1 h).2 j hj)
  have : pA f j = X := by unfold pA; rw [e, unPt_ptV hX]
  rw [this]; exact ⟨e, hX⟩
theorem row_pt {n : Nat} {f : Nat → List Value} (h : okP n f = true) : ∀ j, j < n → nrmK kP9 (f j) = nrmK kP9 (ptF (pA f) j) := by
  intro j hj
  have e := (el_pt h hj).1
  have := congrArg (fun v : Value => v.cells.toList) e
  exact this
theorem pA_pt {V : Nat → RP} {j : Nat} (h : okR (V j)) : pA (ptF V) j = V j := unPt_ptV h
theorem okP_pt {n : Nat} {V : Nat → RP} (hn : n ≤ 1000) : okP n (ptF V) = true := okP_iff.2 ⟨hn, fun j _ => isPt_ptV (V j)⟩
def sg9 (n : Nat) (f : Nat → List Value) : Nat → List Value := segF ⟨0, 0, n, kP9, n, f, 0, false, []⟩
theorem el9_sg (n : Nat) (f : Nat → List Value) (j : Nat) : el9 (sg9 n f) j = el9 f j := by show el9 f (0 + j) = el9 f j; rw [Nat.zero_add]
theorem pA_sg (n : Nat) (f : Nat → List Value) : pA (sg9 n f) = pA f := by funext j; unfold pA; rw [el9_sg]
theorem okP_sg (m n : Nat) (f : Nat → List Value) : okP m (sg9 n f) = okP m f := by
  rw [Bool.eq_iff_iff, okP_iff, okP_iff]; simp only [el9_sg]
def updP (V : Nat → RP) (k : Nat) (v : RP) : Nat → RP := fun j => if j = k then v else V j
theorem updP_row {n : Nat} (V : Nat → RP) (k : Nat) (v : RP) : ∀ j, j < n → nrmK kP9 (updR (ptF V) k (ptC v) j) = nrmK kP9 (ptF (updP V k v) j) := by
  intro j _
  show nrmK kP9 (bif Nat.beq j k then ptC v else ptC (V j)) = nrmK kP9 (ptC (if j = k then v else V j))
  by_cases h : j = k
  · subst h; rw [Nat.beq_refl, if_pos rfl]; rfl
  · rw [if_neg h, show Nat.beq j k = false from by rw [Bool.eq_false_iff, ne_eq, Nat.beq_eq]; exact h]; rfl
def filP (w : Nat → RP) (k : Nat) : Nat → RP := fun j => if j < k then w j else zR
theorem filP_row {n : Nat} (w : Nat → RP) (k : Nat) : ∀ j, j < n → nrmK kP9 (updR (ptF (filP w k)) k (ptC (w k)) j) = nrmK kP9 (ptF (filP w (k + 1)) j) := by
  intro j hj
  rw [updP_row (n := n) (filP w k) k (w k) j hj]
  show nrmK kP9 (ptC (if j = k then w k else if j < k then w j else zR)) = nrmK kP9 (ptC (if j < k + 1 then w j else zR))
  by_cases h : j = k
  · subst h; rw [if_pos rfl, if_pos (by omega)]
  · rw [if_neg h]
    by_cases h2 : j < k
    · rw [if_pos h2, if_pos (by omega)]
    · rw [if_neg h2, if_neg (by omega)]
def z9 : List Value := [.bool false, u64 0, u64 0, u64 0, u64 0, u64 0, u64 0, u64 0, u64 0]
theorem filP_zero {n : Nat} (w : Nat → RP) : ∀ j, j < n → nrmK kP9 z9 = nrmK kP9 (ptF (filP w 0) j) := by
  intro j _
  show _ = nrmK kP9 (ptC (if j < 0 then w j else zR))
  rw [if_neg (by omega)]; rfl
theorem filP_all {n : Nat} (w : Nat → RP) : ∀ j, j < n → nrmK kP9 (ptF (filP w n) j) = nrmK kP9 (ptF w j) := by
  intro j hj
  show nrmK kP9 (ptC (if j < n then w j else zR)) = _
  rw [if_pos hj]; rfl
theorem ptF_congr {n : Nat} {V W : Nat → RP} (h : ∀ j, j < n → V j = W j) : ∀ j, j < n → nrmK kP9 (ptF V j) = nrmK kP9 (ptF W j) := by
  intro j hj; unfold ptF; rw [h j hj]

noncomputable def alP (V : Nat → RP) (n : Nat) : Bool := @decide (∀ j, j < n → ckR (V j) = true) (Classical.propDecidable _)
theorem alP_iff {V : Nat → RP} {n : Nat} : alP V n = true ↔ ∀ j, j < n → ckR (V j) = true := by
  unfold alP
  exact ⟨fun h => @of_decide_eq_true _ (Classical.propDecidable _) h, fun h => @decide_eq_true _ (Classical.propDecidable _) h⟩
theorem alP_congr {V W : Nat → RP} {n : Nat} (h : ∀ j, j < n → V j = W j) : alP V n = alP W n := by
  rw [Bool.eq_iff_iff, alP_iff, alP_iff]
  exact ⟨fun a j hj => (h j hj) ▸ a j hj, fun a j hj => (h j hj).symm ▸ a j hj⟩
theorem alP_no {V : Nat → RP} {n k : Nat} (hk : k < n) (h : ckR (V k) = false) : alP V n = false := by
  rw [Bool.eq_false_iff, ne_eq, alP_iff]
  intro a; rw [a k hk] at h; cases h
theorem first_no {V : Nat → RP} {n : Nat} (h : alP V n = false) : ∃ k, k < n ∧ ckR (V k) = false ∧ ∀ j, j < k → ckR (V j) = true := by
  have hne : ∃ i, i < n ∧ ckR (V i) = false := by
    refine Classical.byContradiction fun hn => ?_
    have : alP V n = true := alP_iff.2 fun j hj => by
      cases e : ckR (V j) with
      | true => rfl
      | false => exact absurd ⟨j, hj, e⟩ hn
    rw [this] at h; cases h
  obtain ⟨i, a, b, c⟩ := first_bad hne
  refine ⟨i, a, b, fun j hj => ?_⟩
  cases e : ckR (V j) with
  | true => rfl
  | false => exact absurd e (c j hj)
noncomputable def PckF : List Value → (Nat → Option Blk) → Nat → List (Bool × Value × List (Nat × Blk))
  | [c], mm, _ => [((srcB mm kP9 c).1 && okP (srcB mm kP9 c).2.1 (srcB mm kP9 c).2.2, i64 (errP (alP (pA (srcB mm kP9 c).2.2) (srcB mm kP9 c).2.1)), [])]
  | _, _, _ => []

def mk9 (m : Int) : Bool := decide (m = m) && decide ((0 : Int) ≤ m) && szOk m.toNat 72 && true && true && true && true && true
theorem mk9_true {m : Nat} (h : m ≤ 2000) : mk9 (m : Int) = true := by
  unfold mk9
  rw [decide_eq_true rfl, decide_eq_true (by omega), show szOk ((m : Int)).toNat 72 = true from by unfold szOk; rw [Nat.ble_eq, Int.toNat_natCast]; omega]; rfl

noncomputable def cmN (X : Nat → Nat) (j : Nat) : RP := basS (X j)
def rw9 (e id n : Nat) (f : Nat → List Value) : List (Nat × Blk) := [(nid id 0, ⟨.row kP9 n f, e, true⟩)]
noncomputable def CmkF (e : Nat) : List Value → (Nat → Option Blk) → Nat → List (Bool × Value × List (Nat × Blk))
  | [c], mm, id => [((srcB mm kN4 c).1 && okV (srcB mm kN4 c).2.1 (srcB mm kN4 c).2.2 && Nat.ble (srcB mm kN4 c).2.1 64, .tuple #[nSl id (srcB mm kN4 c).2.1, i64 0], rw9 e id (srcB mm kN4 c).2.1 (ptF (cmN (nA (srcB mm kN4 c).2.2))))]
  | _, _, _ => []
noncomputable def CmnF : List Value → (Nat → Option Blk) → Nat → List (Bool × Value × List (Nat × Blk))
  | [c], mm, _ => [((srcB mm kN4 c).1 && okV (srcB mm kN4 c).2.1 (srcB mm kN4 c).2.2 && Nat.blt 64 (srcB mm kN4 c).2.1, .tuple #[.slice none 0 0, i64 4], [])]
  | _, _, _ => []

noncomputable def haK (V : Nat → RP) (x n : Nat) : Nat → RP
  | 0 => infR
  | k + 1 => twoS (nRed x) (haK V x n k) 1 (V (n - 1 - k))
noncomputable def atR (V : Nat → RP) (n x : Nat) : RP := hide (haK V x n n)
theorem atR_def (V : Nat → RP) (n x : Nat) : atR V n x = haK V x n n := hide_eq _
theorem ha_ck {V : Nat → RP} {x n : Nat} (h : ∀ j, j < n → ckR (V j) = true) : ∀ k, k ≤ n → ckR (haK V x n k) = true
  | 0, _ => ck_inf
  | k + 1, hk => ck_two _ _ (ha_ck h k (by omega)) (h _ (by omega))
theorem at_ck {V : Nat → RP} {x n : Nat} (h : ∀ j, j < n → ckR (V j) = true) : ckR (atR V n x) = true := by rw [atR_def]; exact ha_ck h n (Nat.le_refl _)
theorem ha_congr {V W : Nat → RP} {x n : Nat} (h : ∀ j, j < n → V j = W j) : ∀ k, k ≤ n → haK V x n k = haK W x n k
  | 0, _ => rfl
  | k + 1, hk => by rw [haK, haK, ha_congr h k (by omega), h _ (by omega)]
theorem at_congr {V W : Nat → RP} {x n : Nat} (h : ∀ j, j < n → V j = W j) : atR V n x = atR W n x := by rw [atR_def, atR_def]; exact ha_congr h n (Nat.le_refl _)
noncomputable def atE (V : Nat → RP) (n : Nat) : Int := if 64 < n then 4 else errP (alP V n)
noncomputable def atZ (V : Nat → RP) (n x : Nat) : RP := @ite _ (atE V n = 0) (Classical.propDecidable _) (atR V n x) zR
theorem atE_ok {V : Nat → RP} {n : Nat} (hn : n ≤ 64) (h : ∀ j, j < n → ckR (V j) = true) : atE V n = 0 := by unfold atE; rw [if_neg (by omega), alP_iff.2 h]; rfl
theorem atE_len {V : Nat → RP} {n : Nat} (hn : 64 < n) : atE V n = 4 := by unfold atE; rw [if_pos hn]
theorem atE_no {V : Nat → RP} {n : Nat} (hn : n ≤ 64) (h : alP V n = false) : atE V n = 3 := by unfold atE; rw [if_neg (by omega), h]; rfl
theorem atE_zero {V : Nat → RP} {n : Nat} (h : atE V n = 0) : n ≤ 64 ∧ ∀ j, j < n → ckR (V j) = true := by
  unfold atE at h
  by_cases h1 : 64 < n
  · rw [if_pos h1] at h; cases h
  · rw [if_neg h1] at h
    refine ⟨by omega, ?_⟩
    cases e : alP V n with
    | true => exact alP_iff.1 e
    | false => rw [e] at h; cases h
theorem atZ_ok {V : Nat → RP} {n x : Nat} (h : atE V n = 0) : atZ V n x = atR V n x := by unfold atZ; rw [if_pos h]
theorem atZ_no {V : Nat → RP} {n x : Nat} (h : atE V n ≠ 0) : atZ V n x = zR := by unfold atZ; rw [if_neg h]
theorem atE_congr {V W : Nat → RP} {n : Nat} (h : ∀ j, j < n → V j = W j) : atE V n = atE W n := by unfold atE; rw [alP_congr h]
theorem atZ_congr {V W : Nat → RP} {n x : Nat} (h : ∀ j, j < n → V j = W j) : atZ V n x = atZ W n x := by unfold atZ; rw [atE_congr h, at_congr h]
theorem okR_atZ (V : Nat → RP) (n x : Nat) : okR (atZ V n x) := by
  by_cases h : atE V n = 0
  · rw [atZ_ok h]; exact ck_okR (at_ck (atE_zero h).2)
  · rw [atZ_no h]; exact okR_z
noncomputable def AtF : List Value → (Nat → Option Blk) → Nat → List (Bool × Value × List (Nat × Blk))
  | [c, x], mm, _ => [((srcB mm kP9 c).1 && okP (srcB mm kP9 c).2.1 (srcB mm kP9 c).2.2 && isNum x, .tuple #[ptV (atZ (pA (srcB mm kP9 c).2.2) (srcB mm kP9 c).2.1 (unnum x)), i64 (atE (pA (srcB mm kP9 c).2.2) (srcB mm kP9 c).2.1)], [])]
  | _, _, _ => []
noncomputable def fiB (V : Nat → RP) (n x y : Nat) : Bool := @decide (atE V n = 0 ∧ atR V n x = basS y) (Classical.propDecidable _)
theorem fiB_iff {V : Nat → RP} {n x y : Nat} : fiB V n x y = true ↔ atE V n = 0 ∧ atR V n x = basS y := by
  unfold fiB
  exact ⟨fun h => @of_decide_eq_true _ (Classical.propDecidable _) h, fun h => @decide_eq_true _ (Classical.propDecidable _) h⟩
noncomputable def FtsF : List Value → (Nat → Option Blk) → Nat → List (Bool × Value × List (Nat × Blk))
  | [c, x, y], mm, _ => [((srcB mm kP9 c).1 && okP (srcB mm kP9 c).2.1 (srcB mm kP9 c).2.2 && isNum x && isNum y, .tuple #[.bool (fiB (pA (srcB mm kP9 c).2.2) (srcB mm kP9 c).2.1 (unnum x) (unnum y)), i64 (atE (pA (srcB mm kP9 c).2.2) (srcB mm kP9 c).2.1)], [])]
  | _, _, _ => []

theorem two_bas (x h c : Nat) : twoS (nRed x) (basS h) 1 (basS c) = basS (nAdd (nMul h x) c) := by
  refine rp_ext (ck_two _ _ (ck_bas _) (ck_bas _)) (ck_bas _) ?_
  rw [pt_two, pt_bas, pt_bas, pt_bas, mulP_one, nRed_eq, nAdd_eq, nMul_eq, mul_modN2, ← mulP_mul fldP G_on, ← mulP_add fldP G_on]
  rw [mul_modN, ← mul_modN (x * h + c), ← mul_modN (h * x % pN + c), Nat.mul_comm x h, Nat.mod_add_mod]
theorem bas_zero : basS 0 = infR := by
  refine rp_ext (ck_bas _) ck_inf ?_
  rw [pt_bas]; rfl
theorem ha_bas (X : Nat → Nat) (x n : Nat) : ∀ k, haK (cmN X) x n k = basS (hvN X x n k)
  | 0 => bas_zero.symm
  | k + 1 => by rw [haK, hvN, ha_bas X x n k]; exact two_bas _ _ _
theorem at_bas (X : Nat → Nat) (x n : Nat) : atR (cmN X) n x = basS (evN X n x) := by rw [atR_def, evN_def]; exact ha_bas X x n n
theorem bas_mod (A : Nat) : basS (A % pN) = basS A := by
  refine rp_ext (ck_bas _) (ck_bas _) ?_
  rw [pt_bas, pt_bas, mul_modN]
theorem ha_red {V : Nat → RP} {x y n : Nat} (h : nRed x = nRed y) : ∀ k, haK V x n k = haK V y n k
  | 0 => rfl
  | k + 1 => by rw [haK, haK, ha_red h k, h]
theorem at_red {V : Nat → RP} {x y n : Nat} (h : nRed x = nRed y) : atR V n x = atR V n y := by rw [atR_def, atR_def]; exact ha_red h n
theorem bas_inj {A B : Nat} (h : basS A = basS B) : A % pN = B % pN := by
  have h1 : mulP invP A Gp = mulP invP B Gp := by rw [← pt_bas, ← pt_bas, h]
  have hp : 0 < pN := n1_pos
  have hm := Nat.mod_lt B hp
  have hd : mulP invP (A + (pN - B % pN)) Gp = .inf := by
    rw [mulP_add fldP G_on, h1, ← mulP_add fldP G_on, ← mul_modN, show (B + (pN - B % pN)) % pN = 0 from ?_]
    · rfl
    · have := Nat.div_add_mod B pN
      rw [show B + (pN - B % pN) = pN * (B / pN + 1) from by rw [Nat.mul_add, Nat.mul_one]; omega, Nat.mul_mod_right]
  by_cases hz : (pN : Int) ∣ ((A + (pN - B % pN) : Nat) : Int)
  · have h2 : (A + (pN - B % pN)) % pN = 0 := by
      have := Int.emod_eq_zero_of_dvd hz
      omega
    have e1 := Nat.div_add_mod A pN
    have e2 := Nat.mod_lt A hp
    rw [← Nat.mod_add_mod] at h2
    rcases Nat.lt_or_ge (A % pN + (pN - B % pN)) pN with h3 | h3
    · rw [Nat.mod_eq_of_lt h3] at h2; omega
    · rw [Nat.mod_eq_sub_mod h3, Nat.mod_eq_of_lt (by omega)] at h2; omega
  · exfalso
    have hc := cInv hz
    have h4 : ((A + (pN - B % pN)) * nInv (A + (pN - B % pN))) % pN = 1 := by
      have h5 : ((((A + (pN - B % pN)) * nInv (A + (pN - B % pN)) : Nat) : Int)) % (pN : Int) = 1 % (pN : Int) := by
        rw [Int.natCast_mul]
        exact Int.emod_eq_emod_iff_emod_sub_eq_zero.2 (Int.emod_eq_zero_of_dvd hc)
      have h6 : (1 : Int) % (pN : Int) = 1 := by decide
      rw [h6] at h5
      omega
    have h7 : mulP invP (nInv (A + (pN - B % pN)) * (A + (pN - B % pN))) Gp = .inf := by rw [mulP_mul fldP G_on, hd, mulP_inf]
    rw [← mul_modN, Nat.mul_comm, h4, mulP_one] at h7
    cases h7
theorem cm_ck (X : Nat → Nat) (j : Nat) : ckR (cmN X j) = true := ck_bas _
end Go.W

/-
  Calls of package feld inside trees.
-/
namespace Go.W

noncomputable def cmq {α : Type} (n : Nat) (f : Nat → List Value) (k : (Nat → RP) → Option α) : Option α := req (kb4 n && okV n (sg4 n f) && Nat.ble n 64) (k (cmN (nA (sg4 n f))))
theorem cmq_nm {α : Type} {n : Nat} {X : Nat → Nat} (hn : n ≤ 64) (k : (Nat → RP) → Option α) : cmq n (nmF X) k = k (cmN (nA (nmF X))) := by
  unfold cmq
  rw [kb4_true, okV_sg, okV_nm (by omega), bE hn, req_true (b := true && true && true) rfl, nA_sg]
theorem cm_nm {X : Nat → Nat} {n : Nat} (hX : ∀ j, j < n → X j < 2 ^ 256) : ∀ j, j < n → cmN (nA (nmF X)) j = cmN X j := fun j hj => by unfold cmN; rw [nA_nm (hX j hj)]
noncomputable def atq {α : Type} (n : Nat) (f : Nat → List Value) (x : Value) (k : RP → Int → Option α) : Option α := req (kb4 n && okP n (sg9 n f) && isNum x) (k (atZ (pA (sg9 n f)) n (unnum x)) (atE (pA (sg9 n f)) n))
theorem atq_pt {α : Type} {n : Nat} {V : Nat → RP} (hn : n ≤ 1000) (hV : ∀ j, j < n → okR (V j)) {X : Nat} (hX : X < 2 ^ 256) (k : RP → Int → Option α) : atq n (ptF V) (num X) k = k (atZ V n X) (atE V n) := by
  unfold atq
  rw [kb4_true, okP_sg, okP_pt hn, isNum_num, req_true (b := true && true && true) rfl, pA_sg, unnum_lt hX, atZ_congr (W := V) (fun j hj => pA_pt (hV j hj)), atE_congr (W := V) (fun j hj => pA_pt (hV j hj))]
theorem atq_ck {α : Type} {n : Nat} {V : Nat → RP} (hn : n ≤ 64) (hV : ∀ j, j < n → ckR (V j) = true) {X : Nat} (hX : X < 2 ^ 256) (k : RP → Int → Option α) : atq n (ptF V) (num X) k = k (atR V n X) 0 := by
  rw [atq_pt (by omega) (fun j hj => ck_okR (hV j hj)) hX, atE_ok hn hV, atZ_ok (atE_ok hn hV)]
noncomputable def ftq {α : Type} (n : Nat) (f : Nat → List Value) (x y : Value) (k : Bool → Int → Option α) : Option α := req (kb4 n && okP n (sg9 n f) && isNum x && isNum y) (k (fiB (pA (sg9 n f)) n (unnum x) (unnum y)) (atE (pA (sg9 n f)) n))
theorem fiB_congr {V W : Nat → RP} {n x y : Nat} (h : ∀ j, j < n → V j = W j) : fiB V n x y = fiB W n x y := by unfold fiB; rw [atE_congr h, at_congr h]
theorem ftq_pt {α : Type} {n : Nat} {V : Nat → RP} (hn : n ≤ 1000) (hV : ∀ j, j < n → okR (V j)) {X Y : Nat} (hX : X < 2 ^ 256) (hY : Y < 2 ^ 256) (k : Bool → Int → Option α) : ftq n (ptF V) (num X) (num Y) k = k (fiB V n X Y) (atE V n) := by
  unfold ftq
  rw [kb4_true, okP_sg, okP_pt hn, isNum_num, isNum_num, req_true (b := true && true && true && true) rfl, pA_sg, unnum_lt hX, unnum_lt hY, fiB_congr (W := V) (fun j hj => pA_pt (hV j hj)), atE_congr (W := V) (fun j hj => pA_pt (hV j hj))]
theorem ftq_ck {α : Type} {n : Nat} {V : Nat → RP} (hn : n ≤ 64) (hV : ∀ j, j < n → ckR (V j) = true) {X Y : Nat} (hX : X < 2 ^ 256) (hY : Y < 2 ^ 256) (k : Bool → Int → Option α) : ftq n (ptF V) (num X) (num Y) k = k (fiB V n X Y) 0 := by
  rw [ftq_pt (by omega) (fun j hj => ck_okR (hV j hj)) hX hY, atE_ok hn hV]
theorem fi_bas {X : Nat → Nat} {n x y : Nat} (hn : n ≤ 64) : fiB (cmN X) n x y = decide (evN X n x = y % pN) := by
  rw [Bool.eq_iff_iff, fiB_iff, decide_eq_true_iff, at_bas]
  have h0 := atE_ok (V := cmN X) hn (fun j _ => cm_ck X j)
  constructor
  · rintro ⟨_, h⟩
    have := bas_inj h
    rwa [Nat.mod_eq_of_lt (evN_p _ _ _)] at this
  · intro h
    exact ⟨h0, by rw [h, bas_mod]⟩
def wk7V : Nat → Nat := fun j => if j = 0 then 5 else 3
def wk7L : List Value := cells4 5 ++ cells4 3
def wk7F : Nat → List Value := lstF wk7L 0 4
theorem wk7_row : ∀ j, j < 2 → nrmK kN4 (wk7F j) = nrmK kN4 (nmF wk7V j) := by
  intro j hj
  match j, hj with
  | 0, _ => rfl
  | 1, _ => rfl
theorem wk7_ok : okV 2 wk7F = true := by rw [okV_congr wk7_row]; exact okV_nm (by omega)
theorem wk7_nA : ∀ j, j < 2 → nA wk7F j = wk7V j := by
  intro j hj
  have : nA wk7F j = nA (nmF wk7V) j := by unfold nA el4; rw [wk7_row j hj]
  rw [this]
  refine nA_nm ?_
  unfold wk7V; split <;> decide
theorem wk7_ev : evN wk7V 2 2 = 11 := by
  rw [evN_def]
  show nAdd (nMul (nAdd (nMul 0 2) (wk7V 1)) 2) (wk7V 0) = 11
  rw [nAdd_eq, nMul_eq, nAdd_eq, nMul_eq]; decide
noncomputable def Wk7F : List Value → Option (Bool × Value)
  | [] => some (true, .bool true)
  | _ => none
end Go.W

/-
  The document's commitments; rows of points that are the same.
-/
namespace Go.W

noncomputable def sameP (n : Nat) (f : Nat → List Value) (m : Nat) (g : Nat → List Value) : Bool := @decide (n = m ∧ ∀ j, j < n → pA f j = pA g j) (Classical.propDecidable _)
theorem sameP_iff {n m : Nat} {f g : Nat → List Value} : sameP n f m g = true ↔ n = m ∧ ∀ j, j < n → pA f j = pA g j := by
  unfold sameP
  exact ⟨fun h => @of_decide_eq_true _ (Classical.propDecidable _) h, fun h => @decide_eq_true _ (Classical.propDecidable _) h⟩
noncomputable def PtsF : List Value → (Nat → Option Blk) → Nat → List (Bool × Value × List (Nat × Blk))
  | [a, b], mm, _ => [((srcB mm kP9 a).1 && (srcB mm kP9 b).1 && okP (srcB mm kP9 a).2.1 (srcB mm kP9 a).2.2 && okP (srcB mm kP9 b).2.1 (srcB mm kP9 b).2.2 && sameP (srcB mm kP9 a).2.1 (srcB mm kP9 a).2.2 (srcB mm kP9 b).2.1 (srcB mm kP9 b).2.2, .bool true, [])]
  | _, _, _ => []
def TpF (e : Nat) : List Value → (Nat → Option Blk) → Nat → List (Bool × Value × List (Nat × Blk))
  | [a], mm, id => [((srcB mm kP9 a).1 && szOk (srcB mm kP9 a).2.1 72, nSl id (srcB mm kP9 a).2.1, rw9 e id (srcB mm kP9 a).2.1 (sg9 (srcB mm kP9 a).2.1 (srcB mm kP9 a).2.2))]
  | _, _, _ => []
noncomputable def RckF (e : Nat) : List Value → (Nat → Option Blk) → Nat → List (Bool × Value × List (Nat × Blk))
  | [l], mm, id => [((srcB mm kN4 l).1 && okV (srcB mm kN4 l).2.1 (srcB mm kN4 l).2.2 && Nat.ble 1 (srcB mm kN4 l).2.1, nSl id (srcB mm kN4 l).2.1, rw9 e id (srcB mm kN4 l).2.1 (ptF (cmN (nA (srcB mm kN4 l).2.2))))]
  | _, _, _ => []
noncomputable def RczF : List Value → (Nat → Option Blk) → Nat → List (Bool × Value × List (Nat × Blk))
  | [l], mm, _ => [((srcB mm kN4 l).1 && Nat.beq (srcB mm kN4 l).2.1 0, .slice none 0 0, [])]
  | _, _, _ => []
noncomputable def RpsF : List Value → (Nat → Option Blk) → Nat → List (Bool × Value × List (Nat × Blk))
  | [l], mm, _ => [((srcB mm kP9 l).1 && okP (srcB mm kP9 l).2.1 (srcB mm kP9 l).2.2, .bool (alP (pA (srcB mm kP9 l).2.2) (srcB mm kP9 l).2.1), [])]
  | _, _, _ => []
noncomputable def RatF : List Value → (Nat → Option Blk) → Nat → List (Bool × Value × List (Nat × Blk))
  | [l, x], mm, _ => [((srcB mm kP9 l).1 && okP (srcB mm kP9 l).2.1 (srcB mm kP9 l).2.2 && alP (pA (srcB mm kP9 l).2.2) (srcB mm kP9 l).2.1 && isNum x, ptV (atR (pA (srcB mm kP9 l).2.2) (srcB mm kP9 l).2.1 (unnum x)), [])]
  | _, _, _ => []
noncomputable def rfB (V : Nat → RP) (n x y : Nat) : Bool := @decide (atR V n x = basS y) (Classical.propDecidable _)
theorem rfB_iff {V : Nat → RP} {n x y : Nat} : rfB V n x y = true ↔ atR V n x = basS y := by
  unfold rfB
  exact ⟨fun h => @of_decide_eq_true _ (Classical.propDecidable _) h, fun h => @decide_eq_true _ (Classical.propDecidable _) h⟩
noncomputable def RfiF : List Value → (Nat → Option Blk) → Nat → List (Bool × Value × List (Nat × Blk))
  | [l, x, y], mm, _ => [((srcB mm kP9 l).1 && okP (srcB mm kP9 l).2.1 (srcB mm kP9 l).2.2 && alP (pA (srcB mm kP9 l).2.2) (srcB mm kP9 l).2.1 && isNum x && isNum y, .bool (rfB (pA (srcB mm kP9 l).2.2) (srcB mm kP9 l).2.1 (unnum x) (unnum y)), [])]
  | _, _, _ => []
theorem two_ref {x : Nat} {p q : RP} (hp : ckR p = true) (hq : ckR q = true) : sumR (timR (nRed x) p) q = twoS (nRed x) p 1 q := by
  rw [← timS_ok (p_lt (nRed_p x)) hp, ← addS_ok (ck_tim _ hp) hq]
  refine rp_ext (ck_add (ck_tim _ hp) hq) (ck_two _ _ hp hq) ?_
  rw [pt_add, pt_tim, pt_two, mulP_one]
def ap9 {α : Type} (m : Nat) (k : Option α) : Option α := req (szOk (m + 1) 72) (req (true && true && Nat.beq m m && true && true) k)
theorem ap9_eq {α : Type} {m : Nat} (h : m ≤ 1000) (k : Option α) : ap9 m k = k := by
  unfold ap9
  rw [show szOk (m + 1) 72 = true from by unfold szOk; rw [Nat.ble_eq]; omega, req_true rfl, Nat.beq_refl, req_true (b := true && true && true && true && true) rfl]
noncomputable def ratq {α : Type} (n : Nat) (f : Nat → List Value) (x : Value) (k : RP → Option α) : Option α := req (kb4 n && okP n (sg9 n f) && alP (pA (sg9 n f)) n && isNum x) (k (atR (pA (sg9 n f)) n (unnum x)))
end Go.W

/-
  The engine, part 26: arguments that are lists of points, opened.
-/
namespace Go.W
section
variable {P : Program} {H : Type} {enc : TypeId × Value → H} {W : World} {base b0 : Nat} {held : Bool} {r : Reach} {t e : TypeId} {v : Value} {d : DataW H} {p : List MemPlace}

theorem open_points {u tn tb : TypeId} {fs : Array Field} (ht : P.underlying t = some (.slice e)) (he : P.underlying e = some (.struct fs)) (hfs : fs.toList.map (fun f => (f.offset, f.type)) = [(0, tb), (1, tn), (5, tn)]) (hb : P.underlying tb = some .bool) (hn : P.underlying tn = some (.array 4 u)) (hu : P.underlying u = some (.int .u64)) (hcu : P.cellsOf u = 1) (hcn : P.cellsOf tn = 4) (hcb : P.cellsOf tb = 1) (hce : P.cellsOf e = 9)
    (hv : Value.okWide P W r base t v) (h : DataW.Trod enc P W b0 (fun _ => true) held t v d p) :
    ∃ (n : Nat) (X : Nat → RP), SrcW W kP9 n (fun i => ptC (X i)) v ∧ ∀ i, okR (X i) :=
  open_els (k := 9) (by omega) rfl zR ptC okR okR_z (fun _ _ => rfl) ht hce (fun fuel cs x hf => by
    obtain ⟨xs, m, rfl, _, hl, hxl, hget⟩ := DataW.trod_struct he hf
    obtain ⟨f0, f1, f2, rfl, o0, t0, o1, t1, o2, t2⟩ : ∃ f0 f1 f2, fs = #[f0, f1, f2] ∧ f0.offset = 0 ∧ f0.type = tb ∧ f1.offset = 1 ∧ f1.type = tn ∧ f2.offset = 5 ∧ f2.type = tn := by
      obtain ⟨l, rfl⟩ : ∃ l, fs = List.toArray l := ⟨fs.toList, by simp⟩
      rw [List.toList_toArray] at hfs
      have hl3 : l.length = 3 := by simpa using congrArg List.length hfs
      match l, hl3, hfs with
      | [f0, f1, f2], _, hfs =>
        simp only [List.map_cons, List.map_nil, List.cons.injEq, Prod.mk.injEq, and_true] at hfs
        exact ⟨f0, f1, f2, rfl, hfs.1.1, hfs.1.2, hfs.2.1.1, hfs.2.1.2, hfs.2.2.1, hfs.2.2.2⟩
    have hxl : xs.length = 3 := by rw [hxl]; rfl
    have g0 := hget 0 f0 rfl
    have g1 := hget 1 f1 rfl
    have g2 := hget 2 f2 rfl
    rw [o0, t0, hcb, List.drop_zero, List.getElem?_eq_getElem (by omega)] at g0
    rw [o1, t1, hcn, List.getElem?_eq_getElem (by omega)] at g1
    rw [o2, t2, hcn, List.getElem?_eq_getElem (by omega)] at g2
    obtain ⟨b, hb0, _⟩ := DataW.trod_bool hb g0
    obtain ⟨a1, a2⟩ := trod_row hn hu hcu hcn g1
    obtain ⟨b1, b2⟩ := trod_row hn hu hcu hcn g2
    obtain ⟨X, hX, eX⟩ := row_num a1 a2
    obtain ⟨Y, hY, eY⟩ := row_num b1 b2
    refine ⟨(b, X, Y), ⟨hX, hY⟩, ?_⟩
    have hlen : cs.length = 9 := by rw [hl, hce]
    match cs, hlen with
    | [c0, c1, c2, c3, c4, c5, c6, c7, c8], _ =>
      simp only [List.drop_succ_cons, List.drop_zero, List.take_succ_cons, List.take_zero, List.cons.injEq, and_true] at hb0 eX eY
      obtain ⟨h1, h2, h3, h4⟩ := eX
      obtain ⟨h5, h6, h7, h8⟩ := eY
      subst hb0 h1 h2 h3 h4 h5 h6 h7 h8
      rfl) hv h
end
end Go.W

/-
  FeldExact as a tree.
-/
namespace Go.W

noncomputable def tnq {α : Type} (n : Nat) (f : Nat → List Value) (k : (Nat → List Value) → Option α) : Option α := req (kb4 n && szOk n 32) (k (sg4 n (sg4 n f)))
noncomputable def tpq {α : Type} (n : Nat) (f : Nat → List Value) (k : (Nat → List Value) → Option α) : Option α := req (kb4 n && szOk n 72) (k (sg9 n (sg9 n f)))
noncomputable def rckq {α : Type} (n : Nat) (f : Nat → List Value) (k : (Nat → RP) → Option α) : Option α := req (kb4 n && okV n (sg4 n f) && Nat.ble 1 n) (k (cmN (nA (sg4 n f))))
noncomputable def ptsq {α : Type} (n : Nat) (f : Nat → List Value) (m : Nat) (g : Nat → List Value) (k : Option α) : Option α := req (kb4 n && kb4 m && okP n (sg9 n f) && okP m (sg9 m g) && sameP n (sg9 n f) m (sg9 m g)) k
noncomputable def nusq {α : Type} (n : Nat) (f : Nat → List Value) (m : Nat) (g : Nat → List Value) (k : Option α) : Option α := req (kb4 n && kb4 m && okV n (sg4 n f) && okV m (sg4 m g) && sameN n (sg4 n f) m (sg4 m g)) k
noncomputable def rpsq {α : Type} (n : Nat) (f : Nat → List Value) (k : Bool → Option α) : Option α := req (kb4 n && okP n (sg9 n f)) (k (alP (pA (sg9 n f)) n))
noncomputable def rfiq {α : Type} (n : Nat) (f : Nat → List Value) (x y : Value) (k : Bool → Option α) : Option α := req (kb4 n && okP n (sg9 n f) && alP (pA (sg9 n f)) n && isNum x && isNum y) (k (rfB (pA (sg9 n f)) n (unnum x) (unnum y)))

theorem nA_sg2 (n : Nat) (f : Nat → List Value) : nA (sg4 n (sg4 n f)) = nA f := by rw [nA_sg, nA_sg]
theorem pA_sg2 (n : Nat) (f : Nat → List Value) : pA (sg9 n (sg9 n f)) = pA f := by rw [pA_sg, pA_sg]
theorem sz32 {n : Nat} (h : n ≤ 1000) : szOk n 32 = true := by unfold szOk; rw [Nat.ble_eq]; omega
theorem sz72 {n : Nat} (h : n ≤ 1000) : szOk n 72 = true := by unfold szOk; rw [Nat.ble_eq]; omega
theorem tnq_eq {α : Type} {n : Nat} (h : n ≤ 1000) (f : Nat → List Value) (k : (Nat → List Value) → Option α) : tnq n f k = k (sg4 n (sg4 n f)) := by unfold tnq; rw [kb4_true, sz32 h, req_true (b := true && true) rfl]
theorem tpq_eq {α : Type} {n : Nat} (h : n ≤ 1000) (f : Nat → List Value) (k : (Nat → List Value) → Option α) : tpq n f k = k (sg9 n (sg9 n f)) := by unfold tpq; rw [kb4_true, sz72 h, req_true (b := true && true) rfl]
theorem ptsq_eq {α : Type} {n : Nat} {f g : Nat → List Value} (hf : okP n f = true) (hg : okP n g = true) (h : ∀ j, j < n → pA f j = pA g j) (k : Option α) : ptsq n f n g k = k := by
  unfold ptsq
  rw [kb4_true, okP_sg, okP_sg, hf, hg, show sameP n (sg9 n f) n (sg9 n g) = true from sameP_iff.2 ⟨rfl, fun j hj => by rw [pA_sg, pA_sg]; exact h j hj⟩, req_true (b := true && true && true && true && true) rfl]
theorem nusq_eq {α : Type} {n : Nat} {f g : Nat → List Value} (hf : okV n f = true) (hg : okV n g = true) (h : ∀ j, j < n → nA f j = nA g j) (k : Option α) : nusq n f n g k = k := by
  unfold nusq
  rw [kb4_true, okV_sg, okV_sg, hf, hg, show sameN n (sg4 n f) n (sg4 n g) = true from sameN_iff.2 ⟨rfl, fun j hj => by rw [nA_sg, nA_sg]; exact h j hj⟩, req_true (b := true && true && true && true && true) rfl]

theorem cmq_ok {α : Type} {n : Nat} {f : Nat → List Value} (h : okV n f = true) (hn : n ≤ 64) (k : (Nat → RP) → Option α) : cmq n f k = k (cmN (nA f)) := by
  unfold cmq
  rw [kb4_true, okV_sg, h, bE hn, req_true (b := true && true && true) rfl, nA_sg]
theorem atq_ok {α : Type} {n : Nat} {f : Nat → List Value} (h : okP n f = true) {X : Nat} (hX : X < 2 ^ 256) (k : RP → Int → Option α) : atq n f (num X) k = k (atZ (pA f) n X) (atE (pA f) n) := by
  unfold atq
  rw [kb4_true, okP_sg, h, isNum_num, req_true (b := true && true && true) rfl, pA_sg, unnum_lt hX]
theorem ftq_ok {α : Type} {n : Nat} {f : Nat → List Value} (h : okP n f = true) {X Y : Nat} (hX : X < 2 ^ 256) (hY : Y < 2 ^ 256) (k : Bool → Int → Option α) : ftq n f (num X) (num Y) k = k (fiB (pA f) n X Y) (atE (pA f) n) := by
  unfold ftq
  rw [kb4_true, okP_sg, h, isNum_num, isNum_num, req_true (b := true && true && true && true) rfl, pA_sg, unnum_lt hX, unnum_lt hY]
def no9 : Nat → List Value := fun _ => []
theorem no_okP : okP 0 no9 = true := okP_iff.2 ⟨by omega, fun j hj => absurd hj (by omega)⟩

noncomputable def feR (nl : Nat) (L : Nat → List Value) (x y : Value) (p : RP) (f : Int) (b : Bool) (g : Int) : Option Value :=
  rpsq nl L fun al => bif !al then (bif f == 3 then (bif g == 3 then (qKp (ptV p) (ptV zR) fun l => bif l then (bif !b then some (.bool true) else some (.bool false)) else some (.bool false)) else some (.bool false)) else some (.bool false))
  else bif f == 0 then (bif g == 0 then (ratq nl L x fun S => qKp (ptV p) (ptV S) fun l => bif l then (rfiq nl L x y fun r => bif b == r then some (.bool true) else some (.bool false)) else some (.bool false)) else some (.bool false)) else some (.bool false)
theorem feR_eq {n : Nat} {V : Nat → RP} {x y : Nat} (hn : n ≤ 64) (hV : ∀ j, okR (V j)) (hx : x < 2 ^ 256) (hy : y < 2 ^ 256) : feR n (ptF V) (num x) (num y) (atZ V n x) (atE V n) (fiB V n x y) (atE V n) = some (.bool true) := by
  have hc : ∀ j, j < n → pA (ptF V) j = V j := fun j _ => pA_pt (hV j)
  unfold feR rpsq
  rw [kb4_true, okP_sg, okP_pt (by omega), req_true (b := true && true) rfl, pA_sg, alP_congr hc]
  cases e : alP V n with
  | false =>
    have h3 := atE_no hn e
    have hf : fiB V n x y = false := by
      rw [Bool.eq_false_iff, ne_eq, fiB_iff, h3]
      exact fun e => absurd e.1 (by decide)
    rw [h3, atZ_no (by rw [h3]; decide), hf]
    show (qKp (ptV zR) (ptV zR) fun l => bif l then some (.bool true) else some (.bool false)) = some (.bool true)
    rw [qKp_pt okR_z okR_z, decide_eq_true rfl]; rfl
  | true =>
    have ha := alP_iff.1 e
    have h0 := atE_ok hn ha
    have hr : rfB V n x y = fiB V n x y := by
      rw [Bool.eq_iff_iff, rfB_iff, fiB_iff]
      exact ⟨fun e => ⟨h0, e⟩, fun e => e.2⟩
    have hr2 : rfB (pA (ptF V)) n x y = rfB V n x y := by unfold rfB; rw [at_congr hc]
    rw [h0, atZ_ok h0]
    show (ratq n (ptF V) (num x) fun S => qKp (ptV (atR V n x)) (ptV S) fun l => bif l then (rfiq n (ptF V) (num x) (num y) fun r => bif fiB V n x y == r then some (.bool true) else some (.bool false)) else some (.bool false)) = some (.bool true)
    unfold ratq rfiq
    rw [kb4_true, okP_sg, okP_pt (by omega), pA_sg, alP_congr hc, e, isNum_num, isNum_num, req_true (b := true && true && true && true) rfl, unnum_lt hx, unnum_lt hy, at_congr hc]
    dsimp only
    rw [qKp_pt (ck_okR (at_ck ha)) (ck_okR (at_ck ha)), decide_eq_true rfl, cond_true, req_true (b := true && true && true && true && true) rfl, hr2, hr, show (fiB V n x y == fiB V n x y) = true from beq_self_eq_true _]; rfl
end Go.W

/-
  Sums of lists of points: what is wrong with lists, place by place the sum.
-/
namespace Go.W

def Fm : Type := Nat → Nat × (Nat → List Value)
noncomputable def okFm (n : Nat) (g : Nat → Nat × (Nat → List Value)) : Bool := @decide (n ≤ 1000 ∧ (n ≤ 8 → ∀ j, j < n → okP (g j).1 (g j).2 = true)) (Classical.propDecidable _)
theorem okFm_iff {n : Nat} {g : Nat → Nat × (Nat → List Value)} : okFm n g = true ↔ n ≤ 1000 ∧ (n ≤ 8 → ∀ j, j < n → okP (g j).1 (g j).2 = true) := by
  unfold okFm
  exact ⟨fun h => @of_decide_eq_true _ (Classical.propDecidable _) h, fun h => @decide_eq_true _ (Classical.propDecidable _) h⟩
def LenB (g : Nat → Nat × (Nat → List Value)) (j : Nat) : Prop := (g j).1 = (g 0).1 ∧ (g j).1 ≤ 64
def LstOk (n : Nat) (g : Nat → Nat × (Nat → List Value)) : Prop := ∀ j, j < n → LenB g j
def AllP (n : Nat) (g : Nat → Nat × (Nat → List Value)) : Prop := ∀ j, j < n → alP (pA (g j).2) (g j).1 = true
noncomputable def smE (n : Nat) (g : Nat → Nat × (Nat → List Value)) : Int :=
  @ite _ (n ≤ 8 ∧ LstOk n g) (Classical.propDecidable _) (errP (@decide (AllP n g) (Classical.propDecidable _))) 4
theorem smE_big {n : Nat} (g : Nat → Nat × (Nat → List Value)) (h : 8 < n) : smE n g = 4 := by unfold smE; rw [if_neg (fun h2 => by omega)]
theorem smE_len {n : Nat} {g : Nat → Nat × (Nat → List Value)} (h : ¬ LstOk n g) : smE n g = 4 := by unfold smE; rw [if_neg (fun h2 => h h2.2)]
theorem smE_no {n : Nat} {g : Nat → Nat × (Nat → List Value)} (h : n ≤ 8) (h2 : LstOk n g) (h3 : ¬ AllP n g) : smE n g = 3 := by
  unfold smE; rw [if_pos ⟨h, h2⟩, @decide_eq_false _ (Classical.propDecidable _) h3]; rfl
theorem smE_ok {n : Nat} {g : Nat → Nat × (Nat → List Value)} (h : n ≤ 8) (h2 : LstOk n g) (h3 : AllP n g) : smE n g = 0 := by
  unfold smE; rw [if_pos ⟨h, h2⟩, @decide_eq_true _ (Classical.propDecidable _) h3]; rfl
theorem smE_zero {n : Nat} {g : Nat → Nat × (Nat → List Value)} (h : smE n g = 0) : n ≤ 8 ∧ LstOk n g ∧ AllP n g := by
  by_cases h1 : 8 < n
  · rw [smE_big g h1] at h; omega
  by_cases h2 : LstOk n g
  · by_cases h3 : AllP n g
    · exact ⟨by omega, h2, h3⟩
    · rw [smE_no (by omega) h2 h3] at h; omega
  · rw [smE_len h2] at h; omega
theorem first_out {Q : Nat → Prop} : ∀ n, ¬ (∀ j, j < n → Q j) → ∃ k, k < n ∧ ¬ Q k ∧ ∀ j, j < k → Q j
  | 0, h => absurd (fun j hj => absurd hj (by omega)) h
  | n + 1, h => by
    by_cases h2 : ∀ j, j < n → Q j
    · refine ⟨n, by omega, fun h3 => h fun j hj => ?_, h2⟩
      by_cases e : j = n
      · rw [e]; exact h3
      · exact h2 j (by omega)
    · obtain ⟨k, h3, h4, h5⟩ := first_out n h2
      exact ⟨k, by omega, h4, h5⟩
noncomputable def sgN (g : Nat → Nat × (Nat → List Value)) : Nat → Nat → RP
  | 0 => pA (g 0).2
  | k + 1 => fun j => addS (sgN g k j) (pA (g (k + 1)).2 j)
theorem sgN_ck {n : Nat} {g : Nat → Nat × (Nat → List Value)} (h1 : LstOk n g) (h2 : AllP n g) : ∀ k, k < n → ∀ j, j < (g 0).1 → ckR (sgN g k j) = true
  | 0, hk, j, hj => alP_iff.1 (h2 0 hk) j hj
  | k + 1, hk, j, hj => by
    have h3 := sgN_ck h1 h2 k (by omega) j hj
    have h4 : ckR (pA (g (k + 1)).2 j) = true := alP_iff.1 (h2 (k + 1) hk) j (by rw [(h1 (k + 1) hk).1]; exact hj)
    show ckR (addS _ _) = true
    exact ck_add h3 h4
noncomputable def suP (U V : Nat → RP) (k : Nat) (j : Nat) : RP := if j < k then addS (U j) (V j) else U j
theorem suP_row {U V : Nat → RP} {k n : Nat} : ∀ j, j < n → nrmK kP9 (updR (ptF (suP U V k)) k (ptC (addS (U k) (V k))) j) = nrmK kP9 (ptF (suP U V (k + 1)) j) := by
  intro j hj
  rw [updP_row (n := n) _ _ _ j hj]
  show nrmK kP9 (ptC (if j = k then _ else suP U V k j)) = nrmK kP9 (ptC (suP U V (k + 1) j))
  congr 2
  by_cases h : j = k
  · subst h; rw [if_pos rfl]; unfold suP; rw [if_pos (by omega)]
  · rw [if_neg h]; unfold suP
    by_cases h2 : j < k
    · rw [if_pos h2, if_pos (by omega)]
    · rw [if_neg h2, if_neg (by omega)]
theorem suP_start (U V : Nat → RP) (j : Nat) : suP U V 0 j = U j := by unfold suP; rw [if_neg (by omega)]
noncomputable def CkaF : List Value → (Nat → Option Blk) → Nat → List (Bool × Value × List (Nat × Blk))
  | [l], mm, _ => [((srcF mm kP9 l).1 && okFm (srcF mm kP9 l).2.1 (srcF mm kP9 l).2.2, i64 (smE (srcF mm kP9 l).2.1 (srcF mm kP9 l).2.2), [])]
  | _, _, _ => []
noncomputable def SumkF (e : Nat) : List Value → (Nat → Option Blk) → Nat → List (Bool × Value × List (Nat × Blk))
  | [l], mm, id => [((srcF mm kP9 l).1 && okFm (srcF mm kP9 l).2.1 (srcF mm kP9 l).2.2 && (smE (srcF mm kP9 l).2.1 (srcF mm kP9 l).2.2 == 0) && Nat.ble 1 (srcF mm kP9 l).2.1,
      .tuple #[nSl id ((srcF mm kP9 l).2.2 0).1, i64 0], rw9 e id ((srcF mm kP9 l).2.2 0).1 (ptF (sgN (srcF mm kP9 l).2.2 ((srcF mm kP9 l).2.1 - 1))))]
  | _, _, _ => []
noncomputable def SumnF : List Value → (Nat → Option Blk) → Nat → List (Bool × Value × List (Nat × Blk))
  | [l], mm, _ => [((srcF mm kP9 l).1 && okFm (srcF mm kP9 l).2.1 (srcF mm kP9 l).2.2 && (smE (srcF mm kP9 l).2.1 (srcF mm kP9 l).2.2 != 0), .tuple #[.slice none 0 0, i64 (smE (srcF mm kP9 l).2.1 (srcF mm kP9 l).2.2)], [])]
  | _, _, _ => []
noncomputable def SumzF : List Value → (Nat → Option Blk) → Nat → List (Bool × Value × List (Nat × Blk))
  | [l], mm, _ => [((srcF mm kP9 l).1 && Nat.beq (srcF mm kP9 l).2.1 0, .tuple #[.slice none 0 0, i64 0], [])]
  | _, _, _ => []
end Go.W

/-
  Sums of two and three lists of points.
-/
namespace Go.W

theorem okFm_congr {n : Nat} {g h : Nat → Nat × (Nat → List Value)} (e : ∀ j, j < n → g j = h j) : okFm n g = okFm n h := by
  rw [Bool.eq_iff_iff, okFm_iff, okFm_iff]
  exact ⟨fun ⟨h1, h2⟩ => ⟨h1, fun h8 j hj => by rw [← e j hj]; exact h2 h8 j hj⟩, fun ⟨h1, h2⟩ => ⟨h1, fun h8 j hj => by rw [e j hj]; exact h2 h8 j hj⟩⟩
theorem smE_congr {n : Nat} {g h : Nat → Nat × (Nat → List Value)} (e : ∀ j, j < n → g j = h j) : smE n g = smE n h := by
  by_cases h0 : n = 0
  · subst h0
    rw [smE_ok (by omega) (fun j hj => absurd hj (by omega)) (fun j hj => absurd hj (by omega)), smE_ok (by omega) (fun j hj => absurd hj (by omega)) (fun j hj => absurd hj (by omega))]
  have e0 := e 0 (by omega)
  have h1 : LstOk n g ↔ LstOk n h := ⟨fun hh j hj => by have := hh j hj; unfold LenB at this ⊢; rw [← e j hj, ← e0]; exact this, fun hh j hj => by have := hh j hj; unfold LenB at this ⊢; rw [e j hj, e0]; exact this⟩
  have h2 : AllP n g ↔ AllP n h := ⟨fun hh j hj => by rw [← e j hj]; exact hh j hj, fun hh j hj => by rw [e j hj]; exact hh j hj⟩
  by_cases h8 : 8 < n
  · rw [smE_big g h8, smE_big h h8]
  by_cases hl : LstOk n g
  · by_cases ha : AllP n g
    · rw [smE_ok (by omega) hl ha, smE_ok (by omega) (h1.1 hl) (h2.1 ha)]
    · rw [smE_no (by omega) hl ha, smE_no (by omega) (h1.1 hl) (fun hh => ha (h2.2 hh))]
  · rw [smE_len hl, smE_len (fun hh => hl (h1.2 hh))]
theorem sgN_congr {g h : Nat → Nat × (Nat → List Value)} : ∀ k, (∀ j, j ≤ k → g j = h j) → sgN g k = sgN h k
  | 0, e => by rw [sgN, sgN, e 0 (Nat.le_refl _)]
  | k + 1, e => by
    funext j
    show addS (sgN g k j) (pA (g (k + 1)).2 j) = addS (sgN h k j) (pA (h (k + 1)).2 j)
    rw [sgN_congr k (fun j hj => e j (by omega)), e (k + 1) (Nat.le_refl _)]
def t2 (a b : Nat × (Nat → List Value)) : Nat → Nat × (Nat → List Value) := fun j => bif Nat.beq j 0 then a else b
def t3 (a b c : Nat × (Nat → List Value)) : Nat → Nat × (Nat → List Value) := fun j => bif Nat.beq j 0 then a else bif Nat.beq j 1 then b else c
noncomputable def Sum2F (e : Nat) : List Value → (Nat → Option Blk) → Nat → List (Bool × Value × List (Nat × Blk))
  | [l], mm, id => [((srcF mm kP9 l).1 && Nat.beq (srcF mm kP9 l).2.1 2 && okFm 2 (t2 ((srcF mm kP9 l).2.2 0) ((srcF mm kP9 l).2.2 1)) && (smE 2 (t2 ((srcF mm kP9 l).2.2 0) ((srcF mm kP9 l).2.2 1)) == 0),
      .tuple #[nSl id ((srcF mm kP9 l).2.2 0).1, i64 0], rw9 e id ((srcF mm kP9 l).2.2 0).1 (ptF (sgN (t2 ((srcF mm kP9 l).2.2 0) ((srcF mm kP9 l).2.2 1)) 1)))]
  | _, _, _ => []
theorem t2_eq (g : Nat → Nat × (Nat → List Value)) : ∀ j, j < 2 → g j = t2 (g 0) (g 1) j
  | 0, _ => rfl
  | 1, _ => rfl
theorem t3_eq (g : Nat → Nat × (Nat → List Value)) : ∀ j, j < 3 → g j = t3 (g 0) (g 1) (g 2) j
  | 0, _ => rfl
  | 1, _ => rfl
  | 2, _ => rfl
theorem Sum2F_sub (e : Nat) : ∀ vs mm id v l, pickM (Sum2F e vs mm id) = some (v, l) → pickM (SumkF e vs mm id) = some (v, l) := by
  intro vs mm id v l h
  match vs, h with
  | [a], h =>
    obtain ⟨hc, rfl, rfl⟩ := pick_one h
    simp only [SumkF, pickM]
    generalize hqa : srcF mm kP9 a = qa at hc ⊢
    obtain ⟨ok1, n, g⟩ := qa
    simp only [Bool.and_eq_true] at hc ⊢
    obtain ⟨⟨⟨h1, h2⟩, h3⟩, h4⟩ := hc
    have h2 : n = 2 := Nat.eq_of_beq_eq_true h2
    subst h2
    rw [okFm_congr (t2_eq g), smE_congr (t2_eq g), h1, h3, h4]
    show some _ = some _
    congr 3
  | [], h => simp [Sum2F, pickM] at h
  | _ :: _ :: _, h => simp [Sum2F, pickM] at h
noncomputable def s2q {α : Type} (n1 : Nat) (f1 : Nat → List Value) (n2 : Nat) (f2 : Nat → List Value) (k : (Nat → RP) → Option α) : Option α :=
  req ((true && (kb4 n1 && (kb4 n2 && true)) && true) && true && okFm 2 (t2 (n1, sg9 n1 f1) (n2, sg9 n2 f2)) && (smE 2 (t2 (n1, sg9 n1 f1) (n2, sg9 n2 f2)) == 0)) (k (sgN (t2 (n1, sg9 n1 f1) (n2, sg9 n2 f2)) 1))
theorem lst2_ok {n : Nat} {U V : Nat → RP} (hn : n ≤ 64) (hU : ∀ j, j < n → ckR (U j) = true) (hV : ∀ j, j < n → ckR (V j) = true) : okFm 2 (t2 (n, sg9 n (ptF U)) (n, sg9 n (ptF V))) = true ∧ smE 2 (t2 (n, sg9 n (ptF U)) (n, sg9 n (ptF V))) = 0 := by
  have hu : ∀ j, j < n → pA (sg9 n (ptF U)) j = U j := fun j hj => by rw [pA_sg, pA_pt (ck_okR (hU j hj))]
  have hv : ∀ j, j < n → pA (sg9 n (ptF V)) j = V j := fun j hj => by rw [pA_sg, pA_pt (ck_okR (hV j hj))]
  refine ⟨okFm_iff.2 ⟨by omega, fun _ j hj => ?_⟩, smE_ok (by omega) (fun j hj => ?_) (fun j hj => ?_)⟩
  · match j, hj with
    | 0, _ => show okP n (sg9 n (ptF U)) = true; rw [okP_sg]; exact okP_pt (by omega)
    | 1, _ => show okP n (sg9 n (ptF V)) = true; rw [okP_sg]; exact okP_pt (by omega)
  · match j, hj with
    | 0, _ => exact ⟨rfl, hn⟩
    | 1, _ => exact ⟨rfl, hn⟩
  · match j, hj with
    | 0, _ => exact alP_iff.2 fun j hj => by show ckR (pA (sg9 n (ptF U)) j) = true; rw [hu j hj]; exact hU j hj
    | 1, _ => exact alP_iff.2 fun j hj => by show ckR (pA (sg9 n (ptF V)) j) = true; rw [hv j hj]; exact hV j hj
theorem s2q_eq {α : Type} {n : Nat} {U V : Nat → RP} (hn : n ≤ 64) (hU : ∀ j, j < n → ckR (U j) = true) (hV : ∀ j, j < n → ckR (V j) = true) (k : (Nat → RP) → Option α) : s2q n (ptF U) n (ptF V) k = k (sgN (t2 (n, sg9 n (ptF U)) (n, sg9 n (ptF V))) 1) := by
  obtain ⟨h1, h2⟩ := lst2_ok hn hU hV
  unfold s2q
  rw [kb4_true, h1, h2, req_true (b := (true && (true && (true && true)) && true) && true && true && ((0 : Int) == 0)) rfl]
theorem sg2_at {n : Nat} {U V : Nat → RP} (hU : ∀ j, j < n → ckR (U j) = true) (hV : ∀ j, j < n → ckR (V j) = true) {j : Nat} (hj : j < n) : sgN (t2 (n, sg9 n (ptF U)) (n, sg9 n (ptF V))) 1 j = addS (U j) (V j) := by
  show addS (pA (sg9 n (ptF U)) j) (pA (sg9 n (ptF V)) j) = _
  rw [pA_sg, pA_sg, pA_pt (ck_okR (hU j hj)), pA_pt (ck_okR (hV j hj))]
theorem add_bas (a b : Nat) : addS (basS a) (basS b) = basS (nAdd a b) := by
  refine rp_ext (ck_add (ck_bas _) (ck_bas _)) (ck_bas _) ?_
  rw [pt_add, pt_bas, pt_bas, pt_bas, nAdd_eq, ← mulP_add fldP G_on, mul_modN]
end Go.W

/-
  FeldRows, FeldSums as trees.
-/
namespace Go.W

def mnZ (na nb : Nat) : Int := if (nb : Int) < (na : Int) then (nb : Int) else (na : Int)
def slq {α : Type} (n : Nat) (Z : Int) (k : Option α) : Option α := req (decide ((0 : Int) ≤ Z) && decide (Z ≤ (n : Int))) (req (Nat.ble Z.toNat n) k)
theorem slq_eq {α : Type} {n m : Nat} (h : m ≤ n) (k : Option α) : slq n (m : Int) k = k := by
  unfold slq
  rw [decide_eq_true (by omega), decide_eq_true (by omega), req_true (b := true && true) rfl, Int.toNat_natCast, bE h, req_true rfl]
noncomputable def ctq {α : Type} (m n : Nat) (f : Nat → List Value) (k : (Nat → RP) → Option α) : Option α :=
  req (((true && Nat.ble (0 + m) n) && (true && Nat.ble m m && true && Nat.ble m n)) && okV m (sg4 n f) && Nat.ble m 64) (k (cmN (nA (sg4 n f))))
theorem ctq_eq {α : Type} {m n : Nat} {X : Nat → Nat} (h : m ≤ n) (hm : m ≤ 64) (k : (Nat → RP) → Option α) : ctq m n (nmF X) k = k (cmN (nA (nmF X))) := by
  unfold ctq
  rw [bE (show 0 + m ≤ n by omega), bE (Nat.le_refl m), bE h, okV_sg, okV_nm (by omega), bE hm, req_true (b := ((true && true) && (true && true && true && true)) && true && true) rfl, nA_sg]
noncomputable def adq {α : Type} (p q : Value) (k : RP → Int → Option α) : Option α :=
  req (isPt p && isPt q) (k (if (ckR (unPt p) && ckR (unPt q)) = true then addS (unPt p) (unPt q) else zR) (errP (ckR (unPt p) && ckR (unPt q))))
theorem adq_ck {α : Type} {p q : RP} (hp : ckR p = true) (hq : ckR q = true) (k : RP → Int → Option α) : adq (ptV p) (ptV q) k = k (addS p q) 0 := by
  unfold adq
  rw [isPt_ptV, isPt_ptV, req_true (b := true && true) rfl, unPt_ptV (ck_okR hp), unPt_ptV (ck_okR hq), hp, hq, if_pos (show (true && true) = true from rfl)]; rfl
end Go.W

/-
  FeldSums as a tree.
-/
namespace Go.W

def fsNo (mm : Nat → Option Blk) (l : Value) : Nat :=
  match l with
  | .slice (some ⟨b, _, none⟩) _ _ => (match mm b with
    | some blk => (match blk.cells with
      | .lst (_ :: .slice (some a) _ _ :: _) => a.block
      | _ => 0)
    | none => 0)
  | _ => 0
def fsG (g : Nat → Nat × (Nat → List Value)) : Nat → Nat × (Nat → List Value) := t3 (g 0) (g 1) (g 2)
noncomputable def FsSumF (e b1 : Nat) : List Value → (Nat → Option Blk) → Nat → List (Bool × Value × List (Nat × Blk))
  | [l], mm, id => [(Nat.beq (fsNo mm l) b1 && Nat.beq (srcF mm kP9 l).2.1 3 && (srcF mm kP9 l).1 && okFm 3 (fsG (srcF mm kP9 l).2.2) && (smE 3 (fsG (srcF mm kP9 l).2.2) == 0),
      .tuple #[nSl id ((srcF mm kP9 l).2.2 0).1, i64 0], rw9 e id ((srcF mm kP9 l).2.2 0).1 (ptF (sgN (fsG (srcF mm kP9 l).2.2) 2))),
      (!(Nat.beq (fsNo mm l) b1) && Nat.beq (srcF mm kP9 l).2.1 3 && (srcF mm kP9 l).1 && okFm 3 (fsG (srcF mm kP9 l).2.2) && (smE 3 (fsG (srcF mm kP9 l).2.2) != 0),
      .tuple #[.slice none 0 0, i64 (smE 3 (fsG (srcF mm kP9 l).2.2))], []),
      (Nat.beq (srcF mm kP9 l).2.1 0 && (srcF mm kP9 l).1, .tuple #[.slice none 0 0, i64 0], [])]
  | _, _, _ => []
theorem FsSum_ok {P : Program} [Laid P] {f : FuncId} {e b1 : Nat} (hk : MSum P f (SumkF e)) (hn : MSum P f SumnF) (hz : MSum P f SumzF) : MSum P f (FsSumF e b1) := by
  intro w0 R fm w hm vs args' hl mm hsub id hlt v l hpick hnew
  have key : pickM (SumkF e vs mm id) = some (v, l) ∨ pickM (SumnF vs mm id) = some (v, l) ∨ pickM (SumzF vs mm id) = some (v, l) := by
    match vs, hpick with
    | [a], h =>
      simp only [FsSumF, SumkF, SumnF, SumzF, pickM] at h ⊢
      generalize hqa : srcF mm kP9 a = qa at h ⊢
      obtain ⟨ok1, n, g⟩ := qa
      simp only at h ⊢
      have ec := okFm_congr (t3_eq g)
      have es := smE_congr (t3_eq g)
      have eg : sgN g 2 = sgN (fsG g) 2 := sgN_congr 2 (fun j hj => t3_eq g j (by omega))
      cases h1 : (Nat.beq (fsNo mm a) b1 && Nat.beq n 3 && ok1 && okFm 3 (fsG g) && (smE 3 (fsG g) == 0)) with
      | true =>
        rw [h1, cond_true] at h
        simp only [Bool.and_eq_true] at h1
        obtain ⟨⟨⟨⟨_, h2⟩, h3⟩, h4⟩, h5⟩ := h1
        have h2 : n = 3 := Nat.eq_of_beq_eq_true h2
        subst h2
        refine .inl ?_
        rw [h3, ec, es, show okFm 3 (t3 (g 0) (g 1) (g 2)) = true from h4, show (smE 3 (t3 (g 0) (g 1) (g 2)) == 0) = true from h5]
        show some _ = _
        rw [← h, ← eg]
      | false =>
        rw [h1, cond_false] at h
        cases h6 : (!(Nat.beq (fsNo mm a) b1) && Nat.beq n 3 && ok1 && okFm 3 (fsG g) && (smE 3 (fsG g) != 0)) with
        | true =>
          rw [h6, cond_true] at h
          simp only [Bool.and_eq_true] at h6
          obtain ⟨⟨⟨⟨_, h2⟩, h3⟩, h4⟩, h5⟩ := h6
          have h2 : n = 3 := Nat.eq_of_beq_eq_true h2
          subst h2
          refine .inr (.inl ?_)
          rw [h3, ec, es, show okFm 3 (t3 (g 0) (g 1) (g 2)) = true from h4, show (smE 3 (t3 (g 0) (g 1) (g 2)) != 0) = true from h5]
          exact h
        | false =>
          rw [h6, cond_false] at h
          refine .inr (.inr ?_)
          cases h7 : (Nat.beq n 0 && ok1) with
          | true =>
            rw [h7, cond_true] at h
            simp only [Bool.and_eq_true] at h7
            rw [h7.1, h7.2]; exact h
          | false => rw [h7] at h; simp at h
    | [], h => simp [FsSumF, pickM] at h
    | _ :: _ :: _, h => simp [FsSumF, pickM] at h
  rcases key with h | h | h
  · exact hk w0 R fm w hm vs args' hl mm hsub id hlt v l h hnew
  · exact hn w0 R fm w hm vs args' hl mm hsub id hlt v l h hnew
  · exact hz w0 R fm w hm vs args' hl mm hsub id hlt v l h hnew
noncomputable def s3q {α : Type} (n1 : Nat) (f1 : Nat → List Value) (n2 : Nat) (f2 : Nat → List Value) (n3 : Nat) (f3 : Nat → List Value) (k : (Nat → RP) → Option α) : Option α :=
  req (true && true && (true && (kb4 n1 && (kb4 n2 && (kb4 n3 && true))) && true) && okFm 3 (t3 (n1, sg9 n1 f1) (n2, sg9 n2 f2) (n3, sg9 n3 f3)) && (smE 3 (t3 (n1, sg9 n1 f1) (n2, sg9 n2 f2) (n3, sg9 n3 f3)) == 0)) (k (sgN (t3 (n1, sg9 n1 f1) (n2, sg9 n2 f2) (n3, sg9 n3 f3)) 2))
def rdT {α : Type} (j k n : Nat) (x : Option α) : Option α := req (inR (j : Int) k) (req (Nat.ble (0 + k) n) (req (Nat.blt j k && true) x))
theorem rdT_eq {α : Type} {j k n : Nat} (h : j < k) (h2 : k ≤ n) (x : Option α) : rdT j k n x = x := by
  unfold rdT
  rw [iR h, req_true rfl, bE (show 0 + k ≤ n by omega), req_true rfl, bL h, req_true (b := true && true) rfl]
def v51 : RP := (false, 5, 1)
theorem v51_ok : okR v51 := by unfold okR v51; decide
theorem v51_no : ckR v51 = false := by decide +kernel
section
variable {n : Nat} {U V W : Nat → RP}
theorem pA_sgp (hU : ∀ j, j < n → ckR (U j) = true) : ∀ j, j < n → pA (sg9 n (ptF U)) j = U j := fun j hj => by rw [pA_sg, pA_pt (ck_okR (hU j hj))]
theorem lst3_ok {f : Nat → List Value} (hn : n ≤ 64) (hf : okP n f = true) (hU : ∀ j, j < n → ckR (pA f j) = true) (hV : ∀ j, j < n → ckR (V j) = true) (hW : ∀ j, j < n → ckR (W j) = true) : okFm 3 (t3 (n, sg9 n f) (n, sg9 n (ptF V)) (n, sg9 n (ptF W))) = true ∧ smE 3 (t3 (n, sg9 n f) (n, sg9 n (ptF V)) (n, sg9 n (ptF W))) = 0 := by
  refine ⟨okFm_iff.2 ⟨by omega, fun _ j hj => ?_⟩, smE_ok (by omega) (fun j hj => ?_) (fun j hj => ?_)⟩
  · match j, hj with
    | 0, _ => show okP n (sg9 n f) = true; rw [okP_sg]; exact hf
    | 1, _ => show okP n (sg9 n (ptF V)) = true; rw [okP_sg]; exact okP_pt (by omega)
    | 2, _ => show okP n (sg9 n (ptF W)) = true; rw [okP_sg]; exact okP_pt (by omega)
  · match j, hj with
    | 0, _ => exact ⟨rfl, hn⟩
    | 1, _ => exact ⟨rfl, hn⟩
    | 2, _ => exact ⟨rfl, hn⟩
  · match j, hj with
    | 0, _ => exact alP_iff.2 fun j hj => by show ckR (pA (sg9 n f) j) = true; rw [pA_sg]; exact hU j hj
    | 1, _ => exact alP_iff.2 fun j hj => by show ckR (pA (sg9 n (ptF V)) j) = true; rw [pA_sgp hV j hj]; exact hV j hj
    | 2, _ => exact alP_iff.2 fun j hj => by show ckR (pA (sg9 n (ptF W)) j) = true; rw [pA_sgp hW j hj]; exact hW j hj
theorem s3q_eq {α : Type} {f : Nat → List Value} (hn : n ≤ 64) (hf : okP n f = true) (hU : ∀ j, j < n → ckR (pA f j) = true) (hV : ∀ j, j < n → ckR (V j) = true) (hW : ∀ j, j < n → ckR (W j) = true) (k : (Nat → RP) → Option α) : s3q n f n (ptF V) n (ptF W) k = k (sgN (t3 (n, sg9 n f) (n, sg9 n (ptF V)) (n, sg9 n (ptF W))) 2) := by
  obtain ⟨h1, h2⟩ := lst3_ok hn hf hU hV hW
  unfold s3q
  rw [kb4_true, h1, h2, req_true (b := true && true && (true && (true && (true && (true && true))) && true) && true && ((0 : Int) == 0)) rfl]
theorem sg3_at {f : Nat → List Value} (hV : ∀ j, j < n → ckR (V j) = true) (hW : ∀ j, j < n → ckR (W j) = true) {j : Nat} (hj : j < n) : sgN (t3 (n, sg9 n f) (n, sg9 n (ptF V)) (n, sg9 n (ptF W))) 2 j = addS (addS (pA f j) (V j)) (W j) := by
  show addS (addS (pA (sg9 n f) j) (pA (sg9 n (ptF V)) j)) (pA (sg9 n (ptF W)) j) = _
  rw [pA_sg, pA_sgp hV j hj, pA_sgp hW j hj]
theorem cut3 {m : Nat} {f : Nat → List Value} (hn : n ≤ 64) (hm : m < n) (hf : okP n f = true) : okFm 3 (t3 (n, sg9 n f) (m, sg9 n (ptF V)) (n, sg9 n (ptF W))) = true ∧ smE 3 (t3 (n, sg9 n f) (m, sg9 n (ptF V)) (n, sg9 n (ptF W))) = 4 := by
  refine ⟨okFm_iff.2 ⟨by omega, fun _ j hj => ?_⟩, smE_len (fun h => ?_)⟩
  · match j, hj with
    | 0, _ => show okP n (sg9 n f) = true; rw [okP_sg]; exact hf
    | 1, _ => show okP m (sg9 n (ptF V)) = true; rw [okP_sg]; exact okP_pt (by omega)
    | 2, _ => show okP n (sg9 n (ptF W)) = true; rw [okP_sg]; exact okP_pt (by omega)
  · have h1 : m = n := (h 1 (by omega)).1
    omega
theorem el9_upd {g : Nat → List Value} (hg : ∀ j, el9 g j = el9 (ptF V) j) (k : Nat) (v : RP) (j : Nat) : el9 (updR g k (ptC v)) j = el9 (ptF (updP V k v)) j := by
  unfold el9
  have := hg j
  unfold el9 at this
  show Value.agg (nrmK kP9 (bif Nat.beq j k then ptC v else g j)).toArray = Value.agg (nrmK kP9 (ptC (if j = k then v else V j))).toArray
  by_cases h : j = k
  · rw [if_pos h, h, Nat.beq_refl]; rfl
  · rw [if_neg h, show Nat.beq j k = false from by rw [Bool.eq_false_iff, ne_eq, Nat.beq_eq]; exact h, cond_false]
    exact this
theorem bad3 {k : Nat} {f g : Nat → List Value} (hn : n ≤ 64) (hk : k < n) (hf : okP n f = true) (hg : ∀ j, el9 g j = el9 (ptF V) j) : okFm 3 (t3 (n, sg9 n f) (n, sg9 n (updR g k (ptC v51))) (n, sg9 n (ptF W))) = true ∧ smE 3 (t3 (n, sg9 n f) (n, sg9 n (updR g k (ptC v51))) (n, sg9 n (ptF W))) = 3 := by
  refine ⟨okFm_iff.2 ⟨by omega, fun _ j hj => ?_⟩, smE_no (by omega) (fun j hj => ?_) (fun h => ?_)⟩
  · match j, hj with
    | 0, _ => show okP n (sg9 n f) = true; rw [okP_sg]; exact hf
    | 1, _ =>
      show okP n (sg9 n (updR g k (ptC v51))) = true
      rw [okP_sg]
      exact okP_iff.2 ⟨by omega, fun j _ => by rw [el9_upd hg]; exact isPt_ptV _⟩
    | 2, _ => show okP n (sg9 n (ptF W)) = true; rw [okP_sg]; exact okP_pt (by omega)
  · match j, hj with
    | 0, _ => exact ⟨rfl, hn⟩
    | 1, _ => exact ⟨rfl, hn⟩
    | 2, _ => exact ⟨rfl, hn⟩
  · have h1 : ckR (pA (sg9 n (updR g k (ptC v51))) k) = true := alP_iff.1 (h 1 (by omega)) k hk
    have h2 : pA (sg9 n (updR g k (ptC v51))) k = v51 := by
      rw [pA_sg]
      unfold pA
      rw [el9_upd hg]
      show unPt (ptV (if k = k then v51 else V k)) = v51
      rw [if_pos rfl, unPt_ptV v51_ok]
    rw [h2, v51_no] at h1
    simp at h1
end
end Go.W

/-
  FeldLong as a tree: lists that are all the same.
-/
namespace Go.W

def tabL {α : Type} : Nat → (Nat → α) → List α
  | 0, _ => []
  | n + 1, g => tabL n g ++ [g n]
def lfG (l : List (Nat × (Nat → List Value))) : Nat → Nat × (Nat → List Value) := fun j => l.getD j (0, no9)
theorem tabL_len {α : Type} (g : Nat → α) : ∀ n, (tabL n g).length = n
  | 0 => rfl
  | n + 1 => by rw [tabL, List.length_append, tabL_len g n]; rfl
theorem tabL_get {α : Type} (g : Nat → α) (d : α) : ∀ n j, j < n → (tabL n g).getD j d = g j
  | n + 1, j, h => by
    rw [tabL]
    by_cases e : j = n
    · subst e
      rw [List.getD_eq_getElem?_getD, List.getElem?_append_right (by rw [tabL_len]; exact Nat.le_refl _), tabL_len, Nat.sub_self]; rfl
    · rw [List.getD_eq_getElem?_getD, List.getElem?_append_left (by rw [tabL_len]; omega), ← List.getD_eq_getElem?_getD]
      exact tabL_get g d n j (by omega)
theorem lfG_eq (n : Nat) (g : Nat → Nat × (Nat → List Value)) : ∀ j, j < n → g j = lfG (tabL n g) j := fun j hj => (tabL_get g _ n j hj).symm
noncomputable def FlSumF (e : Nat) : List Value → (Nat → Option Blk) → Nat → List (Bool × Value × List (Nat × Blk))
  | [l], mm, id => [(Nat.ble 1 (srcF mm kP9 l).2.1 && Nat.ble (srcF mm kP9 l).2.1 8 && (srcF mm kP9 l).1 && okFm (srcF mm kP9 l).2.1 (lfG (tabL (srcF mm kP9 l).2.1 (srcF mm kP9 l).2.2)) && (smE (srcF mm kP9 l).2.1 (lfG (tabL (srcF mm kP9 l).2.1 (srcF mm kP9 l).2.2)) == 0),
      .tuple #[nSl id (lfG (tabL (srcF mm kP9 l).2.1 (srcF mm kP9 l).2.2) 0).1, i64 0], rw9 e id (lfG (tabL (srcF mm kP9 l).2.1 (srcF mm kP9 l).2.2) 0).1 (ptF (sgN (lfG (tabL (srcF mm kP9 l).2.1 (srcF mm kP9 l).2.2)) ((srcF mm kP9 l).2.1 - 1)))),
      (Nat.ble 9 (srcF mm kP9 l).2.1 && Nat.ble (srcF mm kP9 l).2.1 1000 && (srcF mm kP9 l).1, .tuple #[.slice none 0 0, i64 4], []),
      (Nat.beq (srcF mm kP9 l).2.1 0 && (srcF mm kP9 l).1, .tuple #[.slice none 0 0, i64 0], [])]
  | _, _, _ => []
theorem FlSum_ok {P : Program} [Laid P] {f : FuncId} {e : Nat} (hk : MSum P f (SumkF e)) (hn : MSum P f SumnF) (hz : MSum P f SumzF) : MSum P f (FlSumF e) := by
  intro w0 R fm w hm vs args' hl mm hsub id hlt v l hpick hnew
  have key : pickM (SumkF e vs mm id) = some (v, l) ∨ pickM (SumnF vs mm id) = some (v, l) ∨ pickM (SumzF vs mm id) = some (v, l) := by
    match vs, hpick with
    | [a], h =>
      simp only [FlSumF, SumkF, SumnF, SumzF, pickM] at h ⊢
      generalize hqa : srcF mm kP9 a = qa at h ⊢
      obtain ⟨ok1, n, g⟩ := qa
      simp only at h ⊢
      have ec := okFm_congr (lfG_eq n g)
      have es := smE_congr (lfG_eq n g)
      cases h1 : (Nat.ble 1 n && Nat.ble n 8 && ok1 && okFm n (lfG (tabL n g)) && (smE n (lfG (tabL n g)) == 0)) with
      | true =>
        rw [h1, cond_true] at h
        simp only [Bool.and_eq_true] at h1
        obtain ⟨⟨⟨⟨h2, _⟩, h3⟩, h4⟩, h5⟩ := h1
        have h2' := Nat.le_of_ble_eq_true h2
        have eg : sgN g (n - 1) = sgN (lfG (tabL n g)) (n - 1) := sgN_congr (n - 1) (fun j hj => lfG_eq n g j (by omega))
        have e0 : g 0 = lfG (tabL n g) 0 := lfG_eq n g 0 (by omega)
        refine .inl ?_
        rw [h3, ec, es, h4, h5, h2, eg, e0]
        exact h
      | false =>
        rw [h1, cond_false] at h
        cases h6 : (Nat.ble 9 n && Nat.ble n 1000 && ok1) with
        | true =>
          rw [h6, cond_true] at h
          simp only [Bool.and_eq_true] at h6
          obtain ⟨⟨h2, h3⟩, h4⟩ := h6
          have h2 := Nat.le_of_ble_eq_true h2
          have h3 := Nat.le_of_ble_eq_true h3
          refine .inr (.inl ?_)
          rw [h4, smE_big g (by omega), show okFm n g = true from okFm_iff.2 ⟨h3, fun h8 => absurd h8 (by omega)⟩]
          exact h
        | false =>
          rw [h6, cond_false] at h
          refine .inr (.inr ?_)
          cases h7 : (Nat.beq n 0 && ok1) with
          | true =>
            rw [h7, cond_true] at h
            simp only [Bool.and_eq_true] at h7
            rw [h7.1, h7.2]; exact h
          | false => rw [h7] at h; simp at h
    | [], h => simp [FlSumF, pickM] at h
    | _ :: _ :: _, h => simp [FlSumF, pickM] at h
  rcases key with h | h | h
  · exact hk w0 R fm w hm vs args' hl mm hsub id hlt v l h hnew
  · exact hn w0 R fm w hm vs args' hl mm hsub id hlt v l h hnew
  · exact hz w0 R fm w hm vs args' hl mm hsub id hlt v l h hnew
def inP (k : Nat) : Nat → RP := fun j => if j < k then infR else zR
theorem inP_row {k n : Nat} : ∀ j, j < n → nrmK kP9 (updR (ptF (inP k)) k (ptC infR) j) = nrmK kP9 (ptF (inP (k + 1)) j) := by
  intro j hj
  rw [updP_row (n := n) _ _ _ j hj]
  show nrmK kP9 (ptC (if j = k then _ else inP k j)) = nrmK kP9 (ptC (inP (k + 1) j))
  congr 2
  by_cases h : j = k
  · subst h; rw [if_pos rfl]; unfold inP; rw [if_pos (by omega)]
  · rw [if_neg h]; unfold inP
    by_cases h2 : j < k
    · rw [if_pos h2, if_pos (by omega)]
    · rw [if_neg h2, if_neg (by omega)]
theorem inP_start {n : Nat} : ∀ j, j < n → nrmK kP9 z9 = nrmK kP9 (ptF (inP 0) j) := by
  intro j _
  show nrmK kP9 z9 = nrmK kP9 (ptC (inP 0 j))
  unfold inP; rw [if_neg (by omega)]; rfl
theorem bas00 : basS 0 = infR := bas_zero
theorem inf_ok : okR infR := by rw [← bas00]; exact ck_okR (ck_bas 0)
theorem inf_ck : ckR infR = true := by rw [← bas00]; exact ck_bas 0
theorem addInf : addS infR infR = infR := by
  rw [← bas00, add_bas]
  have e : nAdd 0 0 = 0 := by rw [nAdd_eq]; exact Nat.mod_eq_of_lt n1_pos
  rw [e]
theorem inP_at {n j : Nat} (h : j < n) : inP n j = infR := by unfold inP; rw [if_pos h]
theorem ev_none (n x : Nat) : evN (fun _ => 0) n x = 0 := by
  refine cg_eq (evN_p _ _ _) n1_pos (cg_trans (ev_cg _ _ _) (cg_of ?_))
  rw [pfl_zero n 0 (fun _ _ => rfl)]; rfl
theorem at_inf (n x : Nat) : atR (inP n) n x = infR := by
  rw [at_congr (W := cmN (fun _ => 0)) (fun j hj => by rw [inP_at hj, ← bas00]; rfl), at_bas, ev_none, bas00]
end Go.W
