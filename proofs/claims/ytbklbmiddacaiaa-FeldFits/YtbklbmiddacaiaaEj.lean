/-
  Several texts in one.
-/
import Derived.Test.YtbklbmiddacaiaaEd
import Derived.Test.YtbklbmiddacaiaaEi
/-
  Rows of points.
-/
namespace Go.W

def kP9 : List CK := [.b, .i .u64, .i .u64, .i .u64, .i .u64, .i .u64, .i .u64, .i .u64, .i .u64]
def ptF (V : Nat → RP) : Nat → List Value := fun j => ptC (V j)
def el9 (f : Nat → List Value) (j : Nat) : Value := .agg (nrmK kP9 (f j)).toArray
def pA (f : Nat → List Value) (j : Nat) : RP := unPt (el9 f j)
noncomputable def okP (n : Nat) (f : Nat → List Value) : Bool := @decide (n ≤ 1000 ∧ ∀ j, j < n → isPt (el9 f j) = true) (Classical.propDecidable _)
theorem okP_iff {n : Nat} {f : Nat → List Value} : okP n f = true ↔ n ≤ 1000 ∧ ∀ j, j < n → isPt (el9 f j) = true := by
  unfold okP
  exact ⟨fun h => @of_decide_eq_true _ (Classical.propDecidable _) h, fun h => @decide_eq_true _ (Classical.propDecidable _) h⟩
theorem el_pt {n : Nat} {f : Nat → List Value} (h : okP n f = true) {j : Nat} (hj : j < n) : el9 f j = ptV (pA f j) ∧ okR (pA f j) := by
  obtain ⟨X, hX, e⟩ := isPt_some ((okP_iff.1 h).2 j hj)
  have : pA f j = X := by unfold pA; rw [e, unPt_ptV hX]
  rw [this]; exact ⟨e, hX⟩
theorem row_pt {n : Nat} {f : Nat → List Value} (h : okP n f = true) : ∀ j, j < n → nrmK kP9 (f j) = nrmK kP9 (ptF (pA f) j) := by
  intro j hj
  have e := (el_pt h hj).1
  have := congrArg (fun v : Value => v.cells.toList) e
  exact this
theorem pA_pt {V : Nat → RP} {j : Nat} (h : okR (V j)) : pA (ptF V) j = V j := unPt_ptV h
theorem okP_pt {n : Nat} {V : Nat → RP} (hn : n ≤ 1000) : okP n (ptF V) = true := okP_iff.2 ⟨hn, fun j _ => isPt_ptV (V j)⟩
/-- As a callee has it. -/
def sg9 (n : Nat) (f : Nat → List Value) : Nat → List Value := segF ⟨0, 0, n, kP9, n, f, 0, false, []⟩
theorem el9_sg (n : Nat) (f : Nat → List Value) (j : Nat) : el9 (sg9 n f) j = el9 f j := by show el9 f (0 + j) = el9 f j; rw [Nat.zero_add]
theorem pA_sg (n : Nat) (f : Nat → List Value) : pA (sg9 n f) = pA f := by funext j; unfold pA; rw [el9_sg]
theorem okP_sg (m n : Nat) (f : Nat → List Value) : okP m (sg9 n f) = okP m f := by
  rw [Bool.eq_iff_iff, okP_iff, okP_iff]; simp only [el9_sg]
def updP (V : Nat → RP) (k : Nat) (v : RP) : Nat → RP := fun j => if j = k then v else V j
theorem updP_row {n : Nat} (V : Nat → RP) (k : Nat) (v : RP) : ∀ j, j < n → nrmK kP9 (updR (ptF V) k (ptC v) j) = nrmK kP9 (ptF (updP V k v) j) := by
  intro j _
  show nrmK kP9 (bif Nat.beq j k then ptC v else ptC (V j)) = nrmK kP9 (ptC (if j = k then v else V j))
  by_cases h : j = k
  · subst h; rw [Nat.beq_refl, if_pos rfl]; rfl
  · rw [if_neg h, show Nat.beq j k = false from by rw [Bool.eq_false_iff, ne_eq, Nat.beq_eq]; exact h]; rfl
/-- So many are filled. -/
def filP (w : Nat → RP) (k : Nat) : Nat → RP := fun j => if j < k then w j else zR
theorem filP_row {n : Nat} (w : Nat → RP) (k : Nat) : ∀ j, j < n → nrmK kP9 (updR (ptF (filP w k)) k (ptC (w k)) j) = nrmK kP9 (ptF (filP w (k + 1)) j) := by
  intro j hj
  rw [updP_row (n := n) (filP w k) k (w k) j hj]
  show nrmK kP9 (ptC (if j = k then w k else if j < k then w j else zR)) = nrmK kP9 (ptC (if j < k + 1 then w j else zR))
  by_cases h : j = k
  · subst h; rw [if_pos rfl, if_pos (by omega)]
  · rw [if_neg h]
    by_cases h2 : j < k
    · rw [if_pos h2, if_pos (by omega)]
    · rw [if_neg h2, if_neg (by omega)]
def z9 : List Value := [.bool false, u64 0, u64 0, u64 0, u64 0, u64 0, u64 0, u64 0, u64 0]
theorem filP_zero {n : Nat} (w : Nat → RP) : ∀ j, j < n → nrmK kP9 z9 = nrmK kP9 (ptF (filP w 0) j) := by
  intro j _
  show _ = nrmK kP9 (ptC (if j < 0 then w j else zR))
  rw [if_neg (by omega)]; rfl
theorem filP_all {n : Nat} (w : Nat → RP) : ∀ j, j < n → nrmK kP9 (ptF (filP w n) j) = nrmK kP9 (ptF w j) := by
  intro j hj
  show nrmK kP9 (ptC (if j < n then w j else zR)) = _
  rw [if_pos hj]; rfl
theorem ptF_congr {n : Nat} {V W : Nat → RP} (h : ∀ j, j < n → V j = W j) : ∀ j, j < n → nrmK kP9 (ptF V j) = nrmK kP9 (ptF W j) := by
  intro j hj; unfold ptF; rw [h j hj]

/-! ## All are points -/
noncomputable def alP (V : Nat → RP) (n : Nat) : Bool := @decide (∀ j, j < n → ckR (V j) = true) (Classical.propDecidable _)
theorem alP_iff {V : Nat → RP} {n : Nat} : alP V n = true ↔ ∀ j, j < n → ckR (V j) = true := by
  unfold alP
  exact ⟨fun h => @of_decide_eq_true _ (Classical.propDecidable _) h, fun h => @decide_eq_true _ (Classical.propDecidable _) h⟩
theorem alP_congr {V W : Nat → RP} {n : Nat} (h : ∀ j, j < n → V j = W j) : alP V n = alP W n := by
  rw [Bool.eq_iff_iff, alP_iff, alP_iff]
  exact ⟨fun a j hj => (h j hj) ▸ a j hj, fun a j hj => (h j hj).symm ▸ a j hj⟩
theorem alP_no {V : Nat → RP} {n k : Nat} (hk : k < n) (h : ckR (V k) = false) : alP V n = false := by
  rw [Bool.eq_false_iff, ne_eq, alP_iff]
  intro a; rw [a k hk] at h; cases h
theorem first_no {V : Nat → RP} {n : Nat} (h : alP V n = false) : ∃ k, k < n ∧ ckR (V k) = false ∧ ∀ j, j < k → ckR (V j) = true := by
  have hne : ∃ i, i < n ∧ ckR (V i) = false := by
    refine Classical.byContradiction fun hn => ?_
    have : alP V n = true := alP_iff.2 fun j hj => by
      cases e : ckR (V j) with
      | true => rfl
      | false => exact absurd ⟨j, hj, e⟩ hn
    rw [this] at h; cases h
  obtain ⟨i, a, b, c⟩ := first_bad hne
  refine ⟨i, a, b, fun j hj => ?_⟩
  cases e : ckR (V j) with
  | true => rfl
  | false => exact absurd e (c j hj)
noncomputable def PckF : List Value → (Nat → Option Blk) → Nat → List (Bool × Value × List (Nat × Blk))
  | [c], mm, _ => [((srcB mm kP9 c).1 && okP (srcB mm kP9 c).2.1 (srcB mm kP9 c).2.2, i64 (errP (alP (pA (srcB mm kP9 c).2.2) (srcB mm kP9 c).2.1)), [])]
  | _, _, _ => []

def mk9 (m : Int) : Bool := decide (m = m) && decide ((0 : Int) ≤ m) && szOk m.toNat 72 && true && true && true && true && true
theorem mk9_true {m : Nat} (h : m ≤ 2000) : mk9 (m : Int) = true := by
  unfold mk9
  rw [decide_eq_true rfl, decide_eq_true (by omega), show szOk ((m : Int)).toNat 72 = true from by unfold szOk; rw [Nat.ble_eq, Int.toNat_natCast]; omega]; rfl

/-! ## Commitments -/
noncomputable def cmN (X : Nat → Nat) (j : Nat) : RP := basS (X j)
def rw9 (e id n : Nat) (f : Nat → List Value) : List (Nat × Blk) := [(nid id 0, ⟨.row kP9 n f, e, true⟩)]
noncomputable def CmkF (e : Nat) : List Value → (Nat → Option Blk) → Nat → List (Bool × Value × List (Nat × Blk))
  | [c], mm, id => [((srcB mm kN4 c).1 && okV (srcB mm kN4 c).2.1 (srcB mm kN4 c).2.2 && Nat.ble (srcB mm kN4 c).2.1 64, .tuple #[nSl id (srcB mm kN4 c).2.1, i64 0], rw9 e id (srcB mm kN4 c).2.1 (ptF (cmN (nA (srcB mm kN4 c).2.2))))]
  | _, _, _ => []
noncomputable def CmnF : List Value → (Nat → Option Blk) → Nat → List (Bool × Value × List (Nat × Blk))
  | [c], mm, _ => [((srcB mm kN4 c).1 && okV (srcB mm kN4 c).2.1 (srcB mm kN4 c).2.2 && Nat.blt 64 (srcB mm kN4 c).2.1, .tuple #[.slice none 0 0, i64 4], [])]
  | _, _, _ => []

/-! ## What commitments are worth -/
noncomputable def haK (V : Nat → RP) (x n : Nat) : Nat → RP
  | 0 => infR
  | k + 1 => twoS (nRed x) (haK V x n k) 1 (V (n - 1 - k))
noncomputable def atR (V : Nat → RP) (n x : Nat) : RP := hide (haK V x n n)
theorem atR_def (V : Nat → RP) (n x : Nat) : atR V n x = haK V x n n := hide_eq _
theorem ha_ck {V : Nat → RP} {x n : Nat} (h : ∀ j, j < n → ckR (V j) = true) : ∀ k, k ≤ n → ckR (haK V x n k) = true
  | 0, _ => ck_inf
  | k + 1, hk => ck_two _ _ (ha_ck h k (by omega)) (h _ (by omega))
theorem at_ck {V : Nat → RP} {x n : Nat} (h : ∀ j, j < n → ckR (V j) = true) : ckR (atR V n x) = true := by rw [atR_def]; exact ha_ck h n (Nat.le_refl _)
theorem ha_congr {V W : Nat → RP} {x n : Nat} (h : ∀ j, j < n → V j = W j) : ∀ k, k ≤ n → haK V x n k = haK W x n k
  | 0, _ => rfl
  | k + 1, hk => by rw [haK, haK, ha_congr h k (by omega), h _ (by omega)]
theorem at_congr {V W : Nat → RP} {x n : Nat} (h : ∀ j, j < n → V j = W j) : atR V n x = atR W n x := by rw [atR_def, atR_def]; exact ha_congr h n (Nat.le_refl _)
noncomputable def atE (V : Nat → RP) (n : Nat) : Int := if 64 < n then 4 else errP (alP V n)
noncomputable def atZ (V : Nat → RP) (n x : Nat) : RP := @ite _ (atE V n = 0) (Classical.propDecidable _) (atR V n x) zR
theorem atE_ok {V : Nat → RP} {n : Nat} (hn : n ≤ 64) (h : ∀ j, j < n → ckR (V j) = true) : atE V n = 0 := by unfold atE; rw [if_neg (by omega), alP_iff.2 h]; rfl
theorem atE_len {V : Nat → RP} {n : Nat} (hn : 64 < n) : atE V n = 4 := by unfold atE; rw [if_pos hn]
theorem atE_no {V : Nat → RP} {n : Nat} (hn : n ≤ 64) (h : alP V n = false) : atE V n = 3 := by unfold atE; rw [if_neg (by omega), h]; rfl
theorem atE_zero {V : Nat → RP} {n : Nat} (h : atE V n = 0) : n ≤ 64 ∧ ∀ j, j < n → ckR (V j) = true := by
  unfold atE at h
  by_cases h1 : 64 < n
  · rw [if_pos h1] at h; cases h
  · rw [if_neg h1] at h
    refine ⟨by omega, ?_⟩
    cases e : alP V n with
    | true => exact alP_iff.1 e
    | false => rw [e] at h; cases h
theorem atZ_ok {V : Nat → RP} {n x : Nat} (h : atE V n = 0) : atZ V n x = atR V n x := by unfold atZ; rw [if_pos h]
theorem atZ_no {V : Nat → RP} {n x : Nat} (h : atE V n ≠ 0) : atZ V n x = zR := by unfold atZ; rw [if_neg h]
theorem atE_congr {V W : Nat → RP} {n : Nat} (h : ∀ j, j < n → V j = W j) : atE V n = atE W n := by unfold atE; rw [alP_congr h]
theorem atZ_congr {V W : Nat → RP} {n x : Nat} (h : ∀ j, j < n → V j = W j) : atZ V n x = atZ W n x := by unfold atZ; rw [atE_congr h, at_congr h]
theorem okR_atZ (V : Nat → RP) (n x : Nat) : okR (atZ V n x) := by
  by_cases h : atE V n = 0
  · rw [atZ_ok h]; exact ck_okR (at_ck (atE_zero h).2)
  · rw [atZ_no h]; exact okR_z
noncomputable def AtF : List Value → (Nat → Option Blk) → Nat → List (Bool × Value × List (Nat × Blk))
  | [c, x], mm, _ => [((srcB mm kP9 c).1 && okP (srcB mm kP9 c).2.1 (srcB mm kP9 c).2.2 && isNum x, .tuple #[ptV (atZ (pA (srcB mm kP9 c).2.2) (srcB mm kP9 c).2.1 (unnum x)), i64 (atE (pA (srcB mm kP9 c).2.2) (srcB mm kP9 c).2.1)], [])]
  | _, _, _ => []
noncomputable def fiB (V : Nat → RP) (n x y : Nat) : Bool := @decide (atE V n = 0 ∧ atR V n x = basS y) (Classical.propDecidable _)
theorem fiB_iff {V : Nat → RP} {n x y : Nat} : fiB V n x y = true ↔ atE V n = 0 ∧ atR V n x = basS y := by
  unfold fiB
  exact ⟨fun h => @of_decide_eq_true _ (Classical.propDecidable _) h, fun h => @decide_eq_true _ (Classical.propDecidable _) h⟩
noncomputable def FtsF : List Value → (Nat → Option Blk) → Nat → List (Bool × Value × List (Nat × Blk))
  | [c, x, y], mm, _ => [((srcB mm kP9 c).1 && okP (srcB mm kP9 c).2.1 (srcB mm kP9 c).2.2 && isNum x && isNum y, .tuple #[.bool (fiB (pA (srcB mm kP9 c).2.2) (srcB mm kP9 c).2.1 (unnum x) (unnum y)), i64 (atE (pA (srcB mm kP9 c).2.2) (srcB mm kP9 c).2.1)], [])]
  | _, _, _ => []

/-! ## What is known of multiples of G -/
theorem two_bas (x h c : Nat) : twoS (nRed x) (basS h) 1 (basS c) = basS (nAdd (nMul h x) c) := by
  refine rp_ext (ck_two _ _ (ck_bas _) (ck_bas _)) (ck_bas _) ?_
  rw [pt_two, pt_bas, pt_bas, pt_bas, mulP_one, nRed_eq, nAdd_eq, nMul_eq, mul_modN2, ← mulP_mul fldP G_on, ← mulP_add fldP G_on]
  rw [mul_modN, ← mul_modN (x * h + c), ← mul_modN (h * x % pN + c), Nat.mul_comm x h, Nat.mod_add_mod]
theorem bas_zero : basS 0 = infR := by
  refine rp_ext (ck_bas _) ck_inf ?_
  rw [pt_bas]; rfl
theorem ha_bas (X : Nat → Nat) (x n : Nat) : ∀ k, haK (cmN X) x n k = basS (hvN X x n k)
  | 0 => bas_zero.symm
  | k + 1 => by rw [haK, hvN, ha_bas X x n k]; exact two_bas _ _ _
theorem at_bas (X : Nat → Nat) (x n : Nat) : atR (cmN X) n x = basS (evN X n x) := by rw [atR_def, evN_def]; exact ha_bas X x n n
theorem bas_mod (A : Nat) : basS (A % pN) = basS A := by
  refine rp_ext (ck_bas _) (ck_bas _) ?_
  rw [pt_bas, pt_bas, mul_modN]
theorem ha_red {V : Nat → RP} {x y n : Nat} (h : nRed x = nRed y) : ∀ k, haK V x n k = haK V y n k
  | 0 => rfl
  | k + 1 => by rw [haK, haK, ha_red h k, h]
theorem at_red {V : Nat → RP} {x y n : Nat} (h : nRed x = nRed y) : atR V n x = atR V n y := by rw [atR_def, atR_def]; exact ha_red h n
theorem bas_inj {A B : Nat} (h : basS A = basS B) : A % pN = B % pN := by
  have h1 : mulP invP A Gp = mulP invP B Gp := by rw [← pt_bas, ← pt_bas, h]
  have hp : 0 < pN := n1_pos
  have hm := Nat.mod_lt B hp
  have hd : mulP invP (A + (pN - B % pN)) Gp = .inf := by
    rw [mulP_add fldP G_on, h1, ← mulP_add fldP G_on, ← mul_modN, show (B + (pN - B % pN)) % pN = 0 from ?_]
    · rfl
    · have := Nat.div_add_mod B pN
      rw [show B + (pN - B % pN) = pN * (B / pN + 1) from by rw [Nat.mul_add, Nat.mul_one]; omega, Nat.mul_mod_right]
  by_cases hz : (pN : Int) ∣ ((A + (pN - B % pN) : Nat) : Int)
  · have h2 : (A + (pN - B % pN)) % pN = 0 := by
      have := Int.emod_eq_zero_of_dvd hz
      omega
    have e1 := Nat.div_add_mod A pN
    have e2 := Nat.mod_lt A hp
    rw [← Nat.mod_add_mod] at h2
    rcases Nat.lt_or_ge (A % pN + (pN - B % pN)) pN with h3 | h3
    · rw [Nat.mod_eq_of_lt h3] at h2; omega
    · rw [Nat.mod_eq_sub_mod h3, Nat.mod_eq_of_lt (by omega)] at h2; omega
  · exfalso
    have hc := cInv hz
    have h4 : ((A + (pN - B % pN)) * nInv (A + (pN - B % pN))) % pN = 1 := by
      have h5 : ((((A + (pN - B % pN)) * nInv (A + (pN - B % pN)) : Nat) : Int)) % (pN : Int) = 1 % (pN : Int) := by
        rw [Int.natCast_mul]
        exact Int.emod_eq_emod_iff_emod_sub_eq_zero.2 (Int.emod_eq_zero_of_dvd hc)
      have h6 : (1 : Int) % (pN : Int) = 1 := by decide
      rw [h6] at h5
      omega
    have h7 : mulP invP (nInv (A + (pN - B % pN)) * (A + (pN - B % pN))) Gp = .inf := by rw [mulP_mul fldP G_on, hd, mulP_inf]
    rw [← mul_modN, Nat.mul_comm, h4, mulP_one] at h7
    cases h7
theorem cm_ck (X : Nat → Nat) (j : Nat) : ckR (cmN X j) = true := ck_bas _
end Go.W

/-
  Calls of package feld inside trees.
-/
namespace Go.W

noncomputable def cmq {α : Type} (n : Nat) (f : Nat → List Value) (k : (Nat → RP) → Option α) : Option α := req (kb4 n && okV n (sg4 n f) && Nat.ble n 64) (k (cmN (nA (sg4 n f))))
theorem cmq_nm {α : Type} {n : Nat} {X : Nat → Nat} (hn : n ≤ 64) (k : (Nat → RP) → Option α) : cmq n (nmF X) k = k (cmN (nA (nmF X))) := by
  unfold cmq
  rw [kb4_true, okV_sg, okV_nm (by omega), bE hn, req_true (b := true && true && true) rfl, nA_sg]
theorem cm_nm {X : Nat → Nat} {n : Nat} (hX : ∀ j, j < n → X j < 2 ^ 256) : ∀ j, j < n → cmN (nA (nmF X)) j = cmN X j := fun j hj => by unfold cmN; rw [nA_nm (hX j hj)]
noncomputable def atq {α : Type} (n : Nat) (f : Nat → List Value) (x : Value) (k : RP → Int → Option α) : Option α := req (kb4 n && okP n (sg9 n f) && isNum x) (k (atZ (pA (sg9 n f)) n (unnum x)) (atE (pA (sg9 n f)) n))
theorem atq_pt {α : Type} {n : Nat} {V : Nat → RP} (hn : n ≤ 1000) (hV : ∀ j, j < n → okR (V j)) {X : Nat} (hX : X < 2 ^ 256) (k : RP → Int → Option α) : atq n (ptF V) (num X) k = k (atZ V n X) (atE V n) := by
  unfold atq
  rw [kb4_true, okP_sg, okP_pt hn, isNum_num, req_true (b := true && true && true) rfl, pA_sg, unnum_lt hX, atZ_congr (W := V) (fun j hj => pA_pt (hV j hj)), atE_congr (W := V) (fun j hj => pA_pt (hV j hj))]
/-- Of points. -/
theorem atq_ck {α : Type} {n : Nat} {V : Nat → RP} (hn : n ≤ 64) (hV : ∀ j, j < n → ckR (V j) = true) {X : Nat} (hX : X < 2 ^ 256) (k : RP → Int → Option α) : atq n (ptF V) (num X) k = k (atR V n X) 0 := by
  rw [atq_pt (by omega) (fun j hj => ck_okR (hV j hj)) hX, atE_ok hn hV, atZ_ok (atE_ok hn hV)]
noncomputable def ftq {α : Type} (n : Nat) (f : Nat → List Value) (x y : Value) (k : Bool → Int → Option α) : Option α := req (kb4 n && okP n (sg9 n f) && isNum x && isNum y) (k (fiB (pA (sg9 n f)) n (unnum x) (unnum y)) (atE (pA (sg9 n f)) n))
theorem fiB_congr {V W : Nat → RP} {n x y : Nat} (h : ∀ j, j < n → V j = W j) : fiB V n x y = fiB W n x y := by unfold fiB; rw [atE_congr h, at_congr h]
theorem ftq_pt {α : Type} {n : Nat} {V : Nat → RP} (hn : n ≤ 1000) (hV : ∀ j, j < n → okR (V j)) {X Y : Nat} (hX : X < 2 ^ 256) (hY : Y < 2 ^ 256) (k : Bool → Int → Option α) : ftq n (ptF V) (num X) (num Y) k = k (fiB V n X Y) (atE V n) := by
  unfold ftq
  rw [kb4_true, okP_sg, okP_pt hn, isNum_num, isNum_num, req_true (b := true && true && true && true) rfl, pA_sg, unnum_lt hX, unnum_lt hY, fiB_congr (W := V) (fun j hj => pA_pt (hV j hj)), atE_congr (W := V) (fun j hj => pA_pt (hV j hj))]
theorem ftq_ck {α : Type} {n : Nat} {V : Nat → RP} (hn : n ≤ 64) (hV : ∀ j, j < n → ckR (V j) = true) {X Y : Nat} (hX : X < 2 ^ 256) (hY : Y < 2 ^ 256) (k : Bool → Int → Option α) : ftq n (ptF V) (num X) (num Y) k = k (fiB V n X Y) 0 := by
  rw [ftq_pt (by omega) (fun j hj => ck_okR (hV j hj)) hX hY, atE_ok hn hV]
theorem fi_bas {X : Nat → Nat} {n x y : Nat} (hn : n ≤ 64) : fiB (cmN X) n x y = decide (evN X n x = y % pN) := by
  rw [Bool.eq_iff_iff, fiB_iff, decide_eq_true_iff, at_bas]
  have h0 := atE_ok (V := cmN X) hn (fun j _ => cm_ck X j)
  constructor
  · rintro ⟨_, h⟩
    have := bas_inj h
    rwa [Nat.mod_eq_of_lt (evN_p _ _ _)] at this
  · intro h
    exact ⟨h0, by rw [h, bas_mod]⟩
/-! ## wakes: 5 and 3 x, at 2 -/
def wk7V : Nat → Nat := fun j => if j = 0 then 5 else 3
def wk7L : List Value := cells4 5 ++ cells4 3
def wk7F : Nat → List Value := lstF wk7L 0 4
theorem wk7_row : ∀ j, j < 2 → nrmK kN4 (wk7F j) = nrmK kN4 (nmF wk7V j) := by
  intro j hj
  match j, hj with
  | 0, _ => rfl
  | 1, _ => rfl
theorem wk7_ok : okV 2 wk7F = true := by rw [okV_congr wk7_row]; exact okV_nm (by omega)
theorem wk7_nA : ∀ j, j < 2 → nA wk7F j = wk7V j := by
  intro j hj
  have : nA wk7F j = nA (nmF wk7V) j := by unfold nA el4; rw [wk7_row j hj]
  rw [this]
  refine nA_nm ?_
  unfold wk7V; split <;> decide
theorem wk7_ev : evN wk7V 2 2 = 11 := by
  rw [evN_def]
  show nAdd (nMul (nAdd (nMul 0 2) (wk7V 1)) 2) (wk7V 0) = 11
  rw [nAdd_eq, nMul_eq, nAdd_eq, nMul_eq]; decide
noncomputable def Wk7F : List Value → Option (Bool × Value)
  | [] => some (true, .bool true)
  | _ => none
end Go.W
