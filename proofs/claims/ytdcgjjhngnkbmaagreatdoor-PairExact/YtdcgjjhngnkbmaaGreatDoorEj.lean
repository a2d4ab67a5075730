/-
  Several texts in one.
-/
import Derived.Test.YtdcgjjhngnkbmaaGreatDoorEh
import Derived.Test.YtdcgjjhngnkbmaaGreatDoorEd
/-
  Bytes turned by bytes.
-/
namespace Go.W

def xB (a b : Int) : Int := IntKind.u8.wrap (BitVec.ofInt IntKind.u8.bits a ^^^ BitVec.ofInt IntKind.u8.bits b).toNat
theorem xB_nat {a b : Nat} (ha : a < 256) (hb : b < 256) : xB (a : Int) (b : Int) = ((a ^^^ b : Nat) : Int) := by
  have h : (BitVec.ofInt IntKind.u8.bits (a : Int) ^^^ BitVec.ofInt IntKind.u8.bits (b : Int)).toNat = a ^^^ b := by
    show (BitVec.ofInt 8 (a : Int) ^^^ BitVec.ofInt 8 (b : Int)).toNat = a ^^^ b
    rw [BitVec.ofInt_natCast, BitVec.ofInt_natCast, BitVec.toNat_xor, BitVec.toNat_ofNat, BitVec.toNat_ofNat, Nat.mod_eq_of_lt (by omega), Nat.mod_eq_of_lt (by omega)]
  unfold xB
  rw [h, wrap_u8]
  have : a ^^^ b < 2 ^ 8 := Nat.xor_lt_two_pow ha hb
  omega
theorem xB_back {a b : Nat} (ha : a < 256) (hb : b < 256) : xB (xB (a : Int) (b : Int)) (b : Int) = (a : Int) := by
  have h : a ^^^ b < 2 ^ 8 := Nat.xor_lt_two_pow ha hb
  rw [xB_nat ha hb, xB_nat h hb, Nat.xor_assoc, Nat.xor_self, Nat.xor_zero]

def kyF (L : Nat) (B : Nat → List Value) (a b : Int) : Nat → List Value := sgF (L + 2) (appF L (sgF L B) (lstF [.int .u8 (IntKind.u8.wrap a), .int .u8 (IntKind.u8.wrap b)] 0 1))
noncomputable def kyS (p : RP) (a b : Int) : Nat → List Value :=
  if p.1 = true then rsF 3 (kyF 1 (lstF [.int .u8 0] 0 1) a b) 32 else rsF 35 (kyF 33 (pbF (hdY p.2.2) (bytesL 32 p.2.1)) a b) 32
noncomputable def RstF (e : Nat) : List Value → (Nat → Option Blk) → Nat → List (Bool × Value × List (Nat × Blk))
  | [p, .int .i64 a, .int .i64 b], _, id => [(isPt p, .slice (some ⟨nid id 0, 0, none⟩) 32 32, [(nid id 0, ⟨.row kB 32 (kyS (unPt p) a b), e, true⟩)])]
  | _, _, _ => []
def bLn (b : Nat → Int) : Nat → Nat → List Value
  | _, 0 => []
  | lo, n + 1 => .int .u8 (b lo) :: bLn b (lo + 1) n
def byN (X : Nat) (j : Nat) : Int := toI ((bytesL 32 X).getD j (.bool false))
def tuB (b : Nat → Int) (g : Nat → List Value) (k : Nat) : Nat → Int := fun j => bif Nat.blt j k then xB (b j) (bI g j) else b j
def tuV (b : Nat → Int) (g : Nat → List Value) : Value := .agg (bLn (fun j => xB (b j) (bI g j)) 0 32).toArray
noncomputable def SeaRF : List Value → Option (Bool × Value)
  | [p, .int .i64 a, .int .i64 b, x] => some (isPt p && isNum x, tuV (byN (unnum x)) (kyS (unPt p) a b))
  | _ => none
theorem xB_range (a b : Int) : 0 ≤ xB a b ∧ xB a b < 256 := by unfold xB; rw [wrap_u8]; omega
theorem tuV_b32 (b : Nat → Int) (g : Nat → List Value) : isB32 (tuV b g) = true := by
  have key : ∀ (c : Nat → Int), (∀ j, 0 ≤ c j ∧ c j < 256) → ∀ n lo, (bLn c lo n).length = n ∧ ∀ v ∈ bLn c lo n, ∃ x : Int, v = .int .u8 x ∧ 0 ≤ x ∧ x < 256 := by
    intro c hc n
    induction n with
    | zero => intro lo; exact ⟨rfl, fun v hv => by simp [bLn] at hv⟩
    | succ n ih =>
      intro lo
      obtain ⟨h1, h2⟩ := ih (lo + 1)
      refine ⟨by rw [bLn, List.length_cons, h1], fun v hv => ?_⟩
      rw [bLn, List.mem_cons] at hv
      rcases hv with rfl | hv
      · exact ⟨c lo, rfl, hc lo⟩
      · exact h2 v hv
  obtain ⟨h1, h2⟩ := key (fun j => xB (b j) (bI g j)) (fun j => xB_range _ _) 32 0
  refine isB32_of h1 (List.all_eq_true.2 fun v hv => ?_)
  obtain ⟨x, rfl, h3, h4⟩ := h2 v hv
  unfold isU8
  simp only [Bool.and_eq_true, decide_eq_true_eq, Nat.ble_eq]
  omega
noncomputable def OpeRF : List Value → Option (Bool × Value)
  | [p, .int .i64 a, .int .i64 b, s] => some (isPt p && isB32 s, num (unbytes (tuV (byN (unbytes s)) (kyS (unPt p) a b))))
  | _ => none
end Go.W

/-
  The first bytes of one key's stream, worked out.
-/
namespace Go.W

theorem rep_val {p : Pt Kp} {X Y Z x y : Kp} (h : Rep p X Y Z) (hz : Z ≠ 0) (hx : X = Z * x) (hy : Y = Z * y) : p = .aff x y := by
  obtain ⟨c, hc, h1, h2, h3⟩ := h
  cases p with
  | inf => exact absurd (h3.trans (g27 _)) hz
  | aff a b =>
    have h3 : Z = c := h3.trans (g10 _)
    have h1 : X = c * a := h1
    have h2 : Y = c * b := h2
    subst h3
    have key : ∀ u v : Kp, Z * u = Z * v → u = v := by
      intro u v h
      have e : invP Z * (Z * u) = invP Z * (Z * v) := by rw [h]
      have hi := fldP.inv Z hc
      clear h hx hy h1 h2
      grind
    rw [key a x (h1.symm.trans hx), key b y (h2.symm.trans hy)]

def x5 : Nat := 21505829891763648114329055987619236494102133314575206970830385799158076338148
def y5 : Nat := 98003708678762621233683240503080860129026887322874138805529884920309963580118
def r5 : RP := (false, x5, y5)
theorem r5_ck : ckR r5 = true := by decide +kernel
def m5 : N3 := mul3 G3 3 5
theorem m5_z : isZ (m5.2.2 % pP) = false := by kernel_rfl
theorem m5_x : m5.1 % pP = m5.2.2 * x5 % pP := nbeq.1 (by kernel_rfl)
theorem m5_y : m5.2.1 % pP = m5.2.2 * y5 % pP := nbeq.1 (by kernel_rfl)
theorem bas5 : basS 5 = r5 := by
  refine rp_ext (ck_bas 5) r5_ck ?_
  rw [pt_bas]
  have h := rp_mul G_on G3_rep 3 5 (by decide)
  refine rep_val h ?_ ?_ ?_
  · intro e
    have : m5.2.2 % pP = 0 := by
      have := zP_eq.1 (e.trans zP_zero.symm)
      rwa [Nat.zero_mod] at this
    have h2 := m5_z
    rw [this] at h2
    cases h2
  · rw [← zP_mul]; exact zP_eq.2 m5_x
  · rw [← zP_mul]; exact zP_eq.2 m5_y

theorem fin_one {s E : S8} {n L : Nat} (B : List Nat) (hn : n ≤ 55) (hp : allB (fun j => Nat.blt j n || Nat.beq (pdB n (fun _ => 0) L j) (B.getD j 0)) 64 = true) (hE : (mixF s (win (fun j => B.getD j 0) 0)).beq E = true) (F : Nat → Nat) (h : ∀ j, j < n → F j = B.getD j 0) : finN s n F L = E := by
  rw [← S8.beq_eq hE, ← mix_win]
  unfold finN
  have hb : (padL n + 8) / 64 = 0 + 1 := by
    unfold padL padZ
    omega
  rw [hb, hs, hs]
  refine mixN_congr (fun j hj => ?_) _
  rw [Nat.mul_zero, Nat.zero_add]
  by_cases hjn : j < n
  · unfold pdB
    rw [if_pos hjn]; exact h j hjn
  · have := allB_at (p := fun j => Nat.blt j n || Nat.beq (pdB n (fun _ => 0) L j) (B.getD j 0)) hp hj
    rw [show Nat.blt j n = false from by rw [Bool.eq_false_iff, ne_eq, Nat.blt_eq]; exact hjn, Bool.false_or] at this
    rw [← nbeq.1 this]
    unfold pdB
    rw [if_neg hjn, if_neg hjn]
theorem mix_lit {s E : S8} (B : List Nat) (hE : (mixF s (win (fun j => B.getD j 0) 0)).beq E = true) (F : Nat → Nat) (h : allB (fun j => Nat.beq (F j) (B.getD j 0)) 64 = true) : mixN s F = E := by
  rw [← S8.beq_eq hE, ← mix_win]
  exact mixN_congr (fun j hj => nbeq.1 (allB_at (p := fun j => Nat.beq (F j) (B.getD j 0)) h hj)) _

def k5A : List Nat := [52, 25, 189, 232, 123, 44, 49, 22, 165, 99, 130, 145, 19, 60, 106, 103, 30, 222, 189, 178, 139, 234, 87, 172, 129, 253, 158, 227, 95, 132, 118, 217, 210, 55, 52, 54, 54, 54, 54, 54, 54, 54, 54, 54, 54, 54, 54, 54, 54, 54, 54, 54, 54, 54, 54, 54, 54, 54, 54, 54, 54, 54, 54, 54]
def k5B : List Nat := [94, 115, 215, 130, 17, 70, 91, 124, 207, 9, 232, 251, 121, 86, 0, 13, 116, 180, 215, 216, 225, 128, 61, 198, 235, 151, 244, 137, 53, 238, 28, 179, 184, 93, 94, 92, 92, 92, 92, 92, 92, 92, 92, 92, 92, 92, 92, 92, 92, 92, 92, 92, 92, 92, 92, 92, 92, 92, 92, 92, 92, 92, 92, 92]
def k5C : List Nat := [0, 0, 0, 0, 0, 0, 0, 0, 128, 0, 0, 0, 0, 0, 0, 0, 0, 0, 0, 0, 0, 0, 0, 0, 0, 0, 0, 0, 0, 0, 0, 0, 0, 0, 0, 0, 0, 0, 0, 0, 0, 0, 0, 0, 0, 0, 0, 0, 0, 0, 0, 0, 0, 0, 0, 0, 0, 0, 0, 0, 0, 0, 2, 64]
def k5D : List Nat := [207, 255, 248, 199, 185, 192, 27, 17, 132, 193, 19, 114, 129, 145, 14, 71, 5, 237, 169, 73, 131, 39, 171, 2, 78, 108, 185, 217, 18, 71, 51, 22, 128, 0, 0, 0, 0, 0, 0, 0, 0, 0, 0, 0, 0, 0, 0, 0, 0, 0, 0, 0, 0, 0, 0, 0, 0, 0, 0, 0, 0, 0, 3, 0]
def k5a : S8 := ⟨4149431326, 1762723688, 1674107931, 4230737740, 3099744133, 1092056677, 420452894, 2905542375⟩
def k5b : S8 := ⟨3489659079, 3116374801, 2227245938, 2173767239, 99461449, 2200414978, 1315748313, 306656022⟩
def k5c : S8 := ⟨536032058, 4231071473, 192686830, 3196740214, 891531208, 700151229, 3052597394, 2627721593⟩
def k5d : S8 := ⟨1629000723, 3362721413, 2829887500, 1340644866, 2041336238, 1031992767, 147173685, 1582974879⟩

noncomputable def k5W : Nat → List Value := whF 35 (kyF 33 (pbF (hdY r5.2.2) (bytesL 32 r5.2.1)) 1 2)
theorem k5_i : mixN h0 (bN (xoF k5W 54)) = k5a := mix_lit k5A (by kernel_rfl) _ (by kernel_rfl)
theorem k5_o : mixN h0 (bN (xoF k5W 92)) = k5c := mix_lit k5B (by kernel_rfl) _ (by kernel_rfl)
theorem k5_m : finN k5a 8 (bN (sgF 8 (la8 ((0 : Nat) : Int)))) (64 + 8) = k5b := fin_one (n := 8) k5C (by decide) (by kernel_rfl) (by kernel_rfl) _ fun j hj => nbeq.1 (allB_at (p := fun j => Nat.beq (bN (sgF 8 (la8 ((0 : Nat) : Int))) j) (k5C.getD j 0)) (n := 8) (by kernel_rfl) hj)
theorem k5_e : finN k5c 32 (tdN k5b) 96 = k5d := fin_one (n := 32) k5D (by decide) (by kernel_rfl) (by kernel_rfl) _ fun j hj => nbeq.1 (allB_at (p := fun j => Nat.beq (tdN k5b j) (k5D.getD j 0)) (n := 32) (by kernel_rfl) hj)
theorem k5_pc : pcS k5W 0 = k5d := by
  unfold pcS mcN
  rw [k5_i, k5_o, k5_m, k5_e]
theorem k5_sm : smN k5W 0 = 97 := by
  unfold smN
  rw [show 0 / 32 = 0 from rfl, show 0 % 32 = 0 from rfl, k5_pc]
  exact nbeq.1 (by kernel_rfl)
end Go.W

/-
  Package pair: the stream's bytes, keys, seals.
-/
namespace Go.W

def kzF (L : Nat) (B : Nat → List Value) (a b : Int) : Nat → List Value := sgF (L + 2) (appF L B (lstF [.int .u8 (IntKind.u8.wrap a), .int .u8 (IntKind.u8.wrap b)] 0 1))
theorem kz_ky (L : Nat) (B : Nat → List Value) (a b : Int) (j : Nat) : bI (kyF L B a b) j = bI (kzF L B a b) j := by
  unfold kyF kzF
  rw [bI_sg, bI_sg, bI_app, bI_app, bI_sg]
noncomputable def skS (p : RP) (a b : Int) : Nat → List Value :=
  if p.1 = true then smF (whF 3 (kzF 1 (lstF [.int .u8 0] 0 1) a b)) 32 else smF (whF 35 (kzF 33 (pbF (hdY p.2.2) (bytesL 32 p.2.1)) a b)) 32
noncomputable def skN (p : RP) (a b : Int) (j : Nat) : Nat :=
  if p.1 = true then smN (whF 3 (kyF 1 (lstF [.int .u8 0] 0 1) a b)) j else smN (whF 35 (kyF 33 (pbF (hdY p.2.2) (bytesL 32 p.2.1)) a b)) j
theorem wh_kz (n L : Nat) (B : Nat → List Value) (a b : Int) (j : Nat) : smN (whF n (kzF L B a b)) j = smN (whF n (kyF L B a b)) j :=
  smN_congr (fun i _ => whF_congr (fun i _ => (kz_ky L B a b i).symm) i) j
theorem skS_get (p : RP) (a b : Int) {j : Nat} (h : j < 32) : bI (skS p a b) j = ((skN p a b j : Nat) : Int) := by
  unfold skS skN
  cases p.1 with
  | true => rw [if_pos rfl, if_pos rfl, ← wh_kz]; exact smF_get _ h
  | false => rw [if_neg Bool.false_ne_true, if_neg Bool.false_ne_true, ← wh_kz]; exact smF_get _ h
theorem kyS_get (p : RP) (a b : Int) {j : Nat} (h : j < 32) : bI (kyS p a b) j = ((skN p a b j : Nat) : Int) := by
  unfold kyS skN
  cases p.1 with
  | true => rw [if_pos rfl, if_pos rfl]; exact rsF_get _ _ h
  | false => rw [if_neg Bool.false_ne_true, if_neg Bool.false_ne_true]; exact rsF_get _ _ h
theorem skN_lt (p : RP) (a b : Int) (j : Nat) : skN p a b j < 256 := by
  unfold skN
  split <;> exact tdN_lt _ _
theorem bLn_congr {b c : Nat → Int} : ∀ (n lo : Nat), (∀ j, j < lo + n → b j = c j) → bLn b lo n = bLn c lo n
  | 0, _, _ => rfl
  | n + 1, lo, h => by rw [bLn, bLn, h lo (by omega), bLn_congr n (lo + 1) fun j hj => h j (by omega)]
theorem tuV_congr {b c : Nat → Int} {g h : Nat → List Value} (h1 : ∀ j, j < 32 → b j = c j) (h2 : ∀ j, j < 32 → bI g j = bI h j) : tuV b g = tuV c h := by
  unfold tuV
  rw [bLn_congr 32 0 fun j hj => by rw [h1 j (by omega), h2 j (by omega)]]
theorem tuV_sk (b : Nat → Int) (p : RP) (x y : Int) : tuV b (kyS p x y) = tuV b (skS p x y) := tuV_congr (fun _ _ => rfl) fun j hj => by rw [kyS_get p x y hj, skS_get p x y hj]


theorem bLn_get (b : Nat → Int) : ∀ (n lo j : Nat), j < n → (bLn b lo n)[j]? = some (.int .u8 (b (lo + j)))
  | 0, _, _, h => absurd h (by omega)
  | n + 1, lo, 0, _ => rfl
  | n + 1, lo, j + 1, h => by
    rw [bLn, List.getElem?_cons_succ, bLn_get b n (lo + 1) j (by omega), show lo + 1 + j = lo + (j + 1) from by omega]
theorem bLn_len (b : Nat → Int) : ∀ (n lo : Nat), (bLn b lo n).length = n
  | 0, _ => rfl
  | n + 1, lo => by rw [bLn, List.length_cons, bLn_len b n (lo + 1)]
theorem bLn_b32 {c : Nat → Int} (hc : ∀ j, j < 32 → 0 ≤ c j ∧ c j < 256) : isB32 (.agg (bLn c 0 32).toArray) = true := by
  refine isB32_of (bLn_len c 32 0) (List.all_eq_true.2 fun v hv => ?_)
  obtain ⟨j, hj⟩ := List.mem_iff_getElem?.1 hv
  have hlt : j < 32 := by
    rcases Nat.lt_or_ge j 32 with h | h
    · exact h
    · rw [List.getElem?_eq_none (by rw [bLn_len]; exact h)] at hj; cases hj
  rw [bLn_get c 32 0 j hlt, Nat.zero_add] at hj
  rw [← Option.some.inj hj]
  obtain ⟨h1, h2⟩ := hc j hlt
  unfold isU8
  simp only [Bool.and_eq_true, decide_eq_true_eq, Nat.ble_eq]
  omega
theorem byN_of {c : Nat → Int} (h : isB32 (.agg (bLn c 0 32).toArray) = true) {j : Nat} (hj : j < 32) : byN (unbytes (.agg (bLn c 0 32).toArray)) j = c j := by
  obtain ⟨X, hX, h1, h2⟩ := isB32_some h
  rw [h2]
  have h3 : bLn c 0 32 = bytesL 32 X := by
    have := congrArg (fun v : Value => v.cells.toList) h1
    exact this
  unfold byN
  rw [← h3, List.getD, bLn_get c 32 0 j hj, Nat.zero_add]
  rfl
theorem by_eq76 (X : Nat) : bytesL 32 X = bLn (byN X) 0 32 := by kernel_rfl
theorem bytes_bLn (X : Nat) : bytesV X = .agg (bLn (byN X) 0 32).toArray := by unfold bytesV; rw [by_eq76]
theorem byN_nat (X : Nat) {j : Nat} (hj : j < 32) : ∃ n : Nat, n < 256 ∧ byN X j = (n : Int) := by
  have h := isB32_bytesV X
  have hl := bytesL_len 32 X
  have hu := bytesL_u8 32 X
  have hm : (bytesL 32 X)[j]'(by rw [hl]; exact hj) ∈ bytesL 32 X := List.getElem_mem _
  have h1 := List.all_eq_true.1 hu _ hm
  have h2 := congrArg (fun l : List Value => l[j]?) (by_eq76 X)
  simp only [bLn_get (byN X) 32 0 j hj, Nat.zero_add] at h2
  rw [List.getElem?_eq_getElem (by rw [hl]; exact hj)] at h2
  rw [Option.some.inj h2] at h1
  unfold isU8 at h1
  simp only [Bool.and_eq_true, decide_eq_true_eq, Nat.ble_eq] at h1
  exact ⟨(byN X j).toNat, by omega, by omega⟩

def rw32 (F : Nat → List Value) : Value := .agg (rowL kB F 0 32).toArray
theorem rw32_eq (F : Nat → List Value) : rw32 F = .agg (bLn (bI F) 0 32).toArray := by kernel_rfl


def numB (a : Int) : Bool := decide (1 ≤ a) && decide (a ≤ 8)
def pE (p : RP) (a b : Int) : Int := if (numB a && numB b) = true then errP (ckR p) else 1
def IsnF : List Value → Option (Bool × Value)
  | [.int .i64 a] => some (true, .bool (numB a))
  | _ => none
noncomputable def mkV (p : RP) (a b : Int) : Value := .agg (bLn (fun j => if pE p a b = 0 then bI (skS p a b) j else 0) 0 32).toArray
theorem zero32 : (.agg (bLn (fun _ => 0) 0 32).toArray : Value) = bytesV 0 := by kernel_rfl
theorem mkV_ok {p : RP} {a b : Int} (h : pE p a b = 0) : mkV p a b = .agg (bLn (bI (skS p a b)) 0 32).toArray := by
  unfold mkV; simp only [if_pos h]
theorem mkV_no {p : RP} {a b : Int} (h : pE p a b ≠ 0) : mkV p a b = bytesV 0 := by
  unfold mkV; simp only [if_neg h]; exact zero32
theorem mkV_b32 (p : RP) (a b : Int) : isB32 (mkV p a b) = true := bLn_b32 fun j hj => by
  have := skN_lt p a b j
  split
  · rw [skS_get p a b hj]; omega
  · omega
theorem mkV_by {p : RP} {a b : Int} (h : pE p a b = 0) {j : Nat} (hj : j < 32) : byN (unbytes (mkV p a b)) j = bI (skS p a b) j := by
  refine (byN_of (mkV_b32 p a b) hj).trans ?_
  rw [if_pos h]
def xoV (b c : Nat → Int) : Value := .agg (bLn (fun j => xB (b j) (c j)) 0 32).toArray
theorem xoV_congr {b b2 c c2 : Nat → Int} (h : ∀ j, j < 32 → b j = b2 j) (h2 : ∀ j, j < 32 → c j = c2 j) : xoV b c = xoV b2 c2 := by
  unfold xoV
  rw [bLn_congr 32 0 fun j hj => by rw [h j (by omega), h2 j (by omega)]]
theorem xoV_b32 (b c : Nat → Int) : isB32 (xoV b c) = true := bLn_b32 fun _ _ => xB_range _ _
theorem tuV_xo (b : Nat → Int) (g : Nat → List Value) : tuV b g = xoV b (bI g) := rfl
def XorF : List Value → Option (Bool × Value)
  | [a, b] => some (isB32 a && isB32 b, xoV (byN (unbytes a)) (byN (unbytes b)))
  | _ => none
noncomputable def MskF : List Value → Option (Bool × Value)
  | [p, .int .i64 a, .int .i64 b] => some (isPt p, .tuple #[mkV (unPt p) a b, i64 (pE (unPt p) a b)])
  | _ => none
noncomputable def slV (p : RP) (a b : Int) (X : Nat) : Value := .agg (bLn (fun j => if pE p a b = 0 then xB (byN X j) (bI (skS p a b) j) else 0) 0 32).toArray
noncomputable def opN (p : RP) (a b : Int) (X : Nat) : Nat := if pE p a b = 0 then unbytes (tuV (byN X) (skS p a b)) else 0
theorem slV_ok {p : RP} {a b : Int} (h : pE p a b = 0) (X : Nat) : slV p a b X = tuV (byN X) (skS p a b) := by
  unfold slV tuV; simp only [if_pos h]
theorem slV_no {p : RP} {a b : Int} (h : pE p a b ≠ 0) (X : Nat) : slV p a b X = bytesV 0 := by
  unfold slV; simp only [if_neg h]; exact zero32
theorem opN_ok {p : RP} {a b : Int} (h : pE p a b = 0) (X : Nat) : opN p a b X = unbytes (tuV (byN X) (skS p a b)) := if_pos h
theorem opN_no {p : RP} {a b : Int} (h : pE p a b ≠ 0) (X : Nat) : opN p a b X = 0 := if_neg h
noncomputable def SelF : List Value → Option (Bool × Value)
  | [p, .int .i64 a, .int .i64 b, x] => some (isPt p && isNum x, .tuple #[slV (unPt p) a b (unnum x), i64 (pE (unPt p) a b)])
  | _ => none
noncomputable def OpnF : List Value → Option (Bool × Value)
  | [p, .int .i64 a, .int .i64 b, s] => some (isPt p && isB32 s, .tuple #[num (opN (unPt p) a b (unbytes s)), i64 (pE (unPt p) a b)])
  | _ => none
theorem slV_b32 (p : RP) (a b : Int) (X : Nat) : isB32 (slV p a b X) = true := bLn_b32 fun j _ => by
  split
  · exact xB_range _ _
  · omega
theorem opN_lt (p : RP) (a b : Int) (X : Nat) : lt6 (opN p a b X) := by
  unfold opN
  split
  · obtain ⟨Y, hY, _, h⟩ := isB32_some (tuV_b32 (byN X) (skS p a b))
    rw [h]; exact hY
  · exact lt6_0
theorem tuV_twice (p : RP) (a b : Int) (X : Nat) : tuV (byN (unbytes (tuV (byN X) (skS p a b)))) (skS p a b) = bytesV X := by
  have h := tuV_b32 (byN X) (skS p a b)
  rw [bytes_bLn]
  show xoV _ _ = _
  unfold xoV
  rw [bLn_congr 32 0 (c := byN X) fun j hj => ?_]
  have hj : j < 32 := by omega
  rw [show byN (unbytes (tuV (byN X) (skS p a b))) j = xB (byN X j) (bI (skS p a b) j) from byN_of h hj]
  obtain ⟨n, hn, e⟩ := byN_nat X hj
  rw [e, skS_get p a b hj]
  exact xB_back hn (skN_lt p a b j)
theorem open_seal {p : RP} {a b : Int} (h : pE p a b = 0) {X : Nat} (hX : lt6 X) : opN p a b (unbytes (slV p a b X)) = X := by
  rw [opN_ok h, slV_ok h, tuV_twice, unbytes_bytesV, Nat.mod_eq_of_lt hX]
theorem seal_open {p : RP} {a b : Int} (h : pE p a b = 0) (X : Nat) : slV p a b (opN p a b X) = bytesV X := by
  rw [opN_ok h, slV_ok h, tuV_twice]


noncomputable def qSel (p : Value) (a b : Int) (x : Value) (K : Value → Int → Option Value) : Option Value := req (isPt p && isNum x) (K (slV (unPt p) a b (unnum x)) (pE (unPt p) a b))
noncomputable def qOpn (p : Value) (a b : Int) (s : Value) (K : Value → Int → Option Value) : Option Value := req (isPt p && isB32 s) (K (num (opN (unPt p) a b (unbytes s))) (pE (unPt p) a b))
theorem qSel_pt {p : RP} (hp : okR p) {X : Nat} (hX : lt6 X) (a b : Int) (K : Value → Int → Option Value) : qSel (ptV p) a b (num X) K = K (slV p a b X) (pE p a b) := by
  unfold qSel; rw [isPt_ptV, isNum_num, req_true (b := true && true) rfl, unPt_ptV hp, unnum_lt hX]
theorem qOpn_pt {p : RP} (hp : okR p) {s : Value} (hs : isB32 s = true) (a b : Int) (K : Value → Int → Option Value) : qOpn (ptV p) a b s K = K (num (opN p a b (unbytes s))) (pE p a b) := by
  unfold qOpn; rw [isPt_ptV, hs, req_true (b := true && true) rfl, unPt_ptV hp]
theorem pE_ok {p : RP} (hp : ckR p = true) {a b : Int} (ha : numB a = true) (hb : numB b = true) : pE p a b = 0 := by
  unfold pE; rw [ha, hb, hp]; rfl
theorem eqV_by {X Y : Nat} (h : X = Y) : eqV (bytesV X) (bytesV Y) = true := by
  subst h
  have key : ∀ (b : Nat → Int) (n lo : Nat), eqL (bLn b lo n) (bLn b lo n) = true := by
    intro b n
    induction n with
    | zero => intro lo; rfl
    | succ n ih =>
      intro lo
      show (b lo == b lo && eqL (bLn b (lo + 1) n) (bLn b (lo + 1) n)) = true
      rw [beq_self_eq_true, ih]; rfl
  rw [bytes_bLn]
  exact key _ 32 0
def frI (f : Int) : Int := IntKind.i64.wrap (1 + IntKind.i64.wrap ((IntKind.u64.wrap f).tmod 8))
theorem frI_ok (f : Int) : numB (frI f) = true := by
  have h0 : 0 ≤ IntKind.u64.wrap f := by rw [wrap_u64]; omega
  obtain ⟨n, hn⟩ : ∃ n : Nat, IntKind.u64.wrap f = (n : Int) := ⟨(IntKind.u64.wrap f).toNat, by omega⟩
  have h1 : (IntKind.u64.wrap f).tmod 8 = ((n % 8 : Nat) : Int) := by rw [hn]; rfl
  unfold frI numB
  have h2 : IntKind.i64.wrap ((n % 8 : Nat) : Int) = ((n % 8 : Nat) : Int) := wrap_i64 (by omega)
  rw [h1, h2, wrap_i64 (by omega), Bool.and_eq_true, decide_eq_true_eq, decide_eq_true_eq]
  omega

noncomputable def wak8T : Option Value := qBas (num 5) fun k => qSel k 1 2 (num 77) fun s e => qOpn k 1 2 s fun n f => bif e == 0 then (bif f == 0 then (bif eqV n (num 77) then some (.bool (!(eqV s (bytesV 77)))) else fls) else fls) else fls
theorem lt6_s {n : Nat} (h : n < 2 ^ 64) : lt6 n := by
  unfold lt6
  exact Nat.lt_of_lt_of_le h (Nat.pow_le_pow_right (by decide) (by decide))
theorem wak8T_eq : wak8T = tru := by
  have h0 : pE r5 1 2 = 0 := pE_ok r5_ck (by decide) (by decide)
  have hk := ck_okR r5_ck
  unfold wak8T
  rw [qBas_pt (lt6_s (by decide)), bas5, qSel_pt hk (lt6_s (by decide)), qOpn_pt hk (slV_b32 _ _ _ _), h0, open_seal h0 (lt6_s (by decide))]
  have h1 : eqV (num 77) (num 77) = true := by rw [eqV_num]; exact decide_eq_true rfl
  rw [h1]
  have h2 : xB (byN 77 0) (bI (skS r5 1 2) 0) = 97 := by
    rw [skS_get r5 1 2 (by decide)]
    have : skN r5 1 2 0 = 97 := by
      unfold skN
      rw [if_neg (show ¬ (r5.1 = true) from by decide)]
      exact k5_sm
    rw [this]
    have : byN 77 0 = ((0 : Nat) : Int) := by kernel_rfl
    rw [this, xB_nat (by decide) (by decide)]; rfl
  have h3 : eqV (slV r5 1 2 77) (bytesV 77) = false := by
    rw [slV_ok h0, bytes_bLn]
    show eqL (.int .u8 (xB (byN 77 0) (bI (skS r5 1 2) 0)) :: bLn (fun j => xB (byN 77 j) (bI (skS r5 1 2) j)) 1 31) (.int .u8 (byN 77 0) :: bLn (byN 77) 1 31) = false
    rw [h2]
    have : byN 77 0 = ((0 : Nat) : Int) := by kernel_rfl
    rw [this]; rfl
  rw [h3]; rfl

noncomputable def PBkT (A B S : Value) (f t : Int) (L : Value) : Option Value :=
  qBas B fun pb => qTim A pb fun k e => qBas A fun pa => qTim B pa fun l g => bif e != 0 then fls else bif g != 0 then fls else qKp k l fun r => bif !r then fls else
  qSel k (frI f) (frI t) S fun s e => qOpn l (frI f) (frI t) s fun n g => bif e != 0 then fls else bif g != 0 then fls else bif !(eqV n S) then fls else
  qOpn k (frI f) (frI t) L fun m e => qSel l (frI f) (frI t) m fun u g => bif e == 0 then (bif g == 0 then (bif eqV u L then tru else fls) else fls) else fls
theorem PBkT_eq {A B S L : Nat} (hA : lt6 A) (hB : lt6 B) (hS : lt6 S) (hL : lt6 L) (f t : Int) : PBkT (num A) (num B) (num S) f t (bytesV L) = tru := by
  have hK : ckR (timS A (basS B)) = true := ck_tim A (ck_bas B)
  have hl : timS B (basS A) = timS A (basS B) := rp_ext (ck_tim B (ck_bas A)) hK (by
    rw [pt_tim, pt_tim, pt_bas, pt_bas, ← mulP_mul fldP G_on, ← mulP_mul fldP G_on, Nat.mul_comm])
  have hE : pE (timS A (basS B)) (frI f) (frI t) = 0 := pE_ok hK (frI_ok f) (frI_ok t)
  have hk := ck_okR hK
  unfold PBkT
  rw [qBas_pt hB, qTim_ck hA (ck_bas B), qBas_pt hA, qTim_ck hB (ck_bas A), hl]
  rw [show ((0 : Int) != 0) = false from rfl, cond_false, cond_false, qKp_eq hK hK rfl, Bool.not_true, cond_false, qSel_pt hk hS, qOpn_pt hk (slV_b32 _ _ _ _), hE, open_seal hE hS]
  have h1 : eqV (num S) (num S) = true := by rw [eqV_num]; exact decide_eq_true rfl
  rw [h1, show ((0 : Int) != 0) = false from rfl, cond_false, cond_false, Bool.not_true, cond_false, qOpn_pt hk (isB32_bytesV L), qSel_pt hk (opN_lt _ _ _ _), hE, seal_open hE, unbytes_bytesV, Nat.mod_eq_of_lt hL, eqV_by rfl]; rfl
theorem xB_two {a b c : Nat} (ha : a < 256) (hb : b < 256) (hc : c < 256) : xB (xB (a : Int) (c : Int)) (xB (b : Int) (c : Int)) = xB (a : Int) (b : Int) := by
  have h1 : a ^^^ c < 2 ^ 8 := Nat.xor_lt_two_pow ha hc
  have h2 : b ^^^ c < 2 ^ 8 := Nat.xor_lt_two_pow hb hc
  rw [xB_nat ha hc, xB_nat hb hc, xB_nat h1 h2, xB_nat ha hb, Nat.xor_comm b c, Nat.xor_assoc, ← Nat.xor_assoc c c b, Nat.xor_self, Nat.zero_xor]
theorem sl_two (p : RP) (a b : Int) (A B : Nat) {j : Nat} (hj : j < 32) : xB (xB (byN A j) (bI (skS p a b) j)) (xB (byN B j) (bI (skS p a b) j)) = xB (byN A j) (byN B j) := by
  obtain ⟨n, hn, e⟩ := byN_nat A hj
  obtain ⟨m, hm, e2⟩ := byN_nat B hj
  rw [e, e2, skS_get p a b hj]
  exact xB_two hn hm (skN_lt p a b j)
theorem slV_list {p : RP} {a b : Int} (h : pE p a b = 0) (X : Nat) : (slV p a b X).cells.toList = bLn (fun j => xB (byN X j) (bI (skS p a b) j)) 0 32 := by
  rw [slV_ok h]; rfl

noncomputable def PExW (want e g : Int) (s n : Value) : Option Value := bif e == want then (bif g == want then (bif eqV s (bytesV 0) then (bif eqV n (num 0) then tru else fls) else fls) else fls) else fls
noncomputable def PExK (q : Value) (f t : Int) (S L : Value) (e g : Int) (s n : Value) : Option Value :=
  bif e == 0 then (bif g == 0 then req (isPt q && isNum S) (bif eqV s (tuV (byN (unnum S)) (kyS (unPt q) f t)) then req (isPt q && isB32 L) (bif eqV n (num (unbytes (tuV (byN (unbytes L)) (kyS (unPt q) f t)))) then tru else fls) else fls) else fls) else fls
noncomputable def PExR (q : Value) (f t : Int) (S L : Value) : Option Value :=
  qSel q f t S fun s e => qOpn q f t L fun n g => bif decide (f < 1) then PExW 1 e g s n else bif decide (t < 1) then PExW 1 e g s n else bif decide (f > 8) then PExW 1 e g s n else bif decide (t > 8) then PExW 1 e g s n else
    qCk q fun c => bif !c then PExW 3 e g s n else PExK q f t S L e g s n
noncomputable def PExT (N p q : Value) (f t : Int) (S L : Value) : Option Value :=
  qTim N p fun k e => qCk p fun c => bif !c then (bif e != 3 then fls else qKp k (ptV zR) fun r => bif !r then fls else PExR q f t S L)
    else (bif e != 0 then fls else qTimR N p fun w => qKp k w fun r => bif !r then fls else PExR q f t S L)
theorem numB_iff {a : Int} : numB a = true ↔ 1 ≤ a ∧ a ≤ 8 := by
  unfold numB
  rw [Bool.and_eq_true, decide_eq_true_eq, decide_eq_true_eq]
theorem PExW_ok {q : RP} {f t : Int} {want : Int} (hw : pE q f t = want) (hn : want ≠ 0) (X Y : Nat) : PExW want (pE q f t) (pE q f t) (slV q f t X) (num (opN q f t Y)) = tru := by
  have h0 : pE q f t ≠ 0 := by rw [hw]; exact hn
  unfold PExW
  rw [hw, beq_self_eq_true, cond_true, cond_true, slV_no h0, opN_no h0, eqV_by rfl, eqV_num, decide_eq_true rfl]; rfl
theorem PExR_eq {q : RP} (hq : okR q) {S L : Nat} (hS : lt6 S) (hL : lt6 L) (f t : Int) : PExR (ptV q) f t (num S) (bytesV L) = tru := by
  unfold PExR
  rw [qSel_pt hq hS, qOpn_pt hq (isB32_bytesV L), unbytes_bytesV, Nat.mod_eq_of_lt hL, qCk_pt hq]
  have bad : (numB f && numB t) = false → pE q f t = 1 := fun h => by unfold pE; rw [h]; rfl
  have nf : ¬ (1 ≤ f ∧ f ≤ 8) → pE q f t = 1 := fun h => bad (by rw [Bool.and_eq_false_iff]; left; rw [Bool.eq_false_iff]; exact fun h2 => h (numB_iff.1 h2))
  have nt : ¬ (1 ≤ t ∧ t ≤ 8) → pE q f t = 1 := fun h => bad (by rw [Bool.and_eq_false_iff]; right; rw [Bool.eq_false_iff]; exact fun h2 => h (numB_iff.1 h2))
  by_cases h1 : f < 1
  · rw [decide_eq_true h1, cond_true]; exact PExW_ok (nf (by omega)) (by decide) S L
  rw [decide_eq_false h1, cond_false]
  by_cases h2 : t < 1
  · rw [decide_eq_true h2, cond_true]; exact PExW_ok (nt (by omega)) (by decide) S L
  rw [decide_eq_false h2, cond_false]
  by_cases h3 : f > 8
  · rw [decide_eq_true h3, cond_true]; exact PExW_ok (nf (by omega)) (by decide) S L
  rw [decide_eq_false h3, cond_false]
  by_cases h4 : t > 8
  · rw [decide_eq_true h4, cond_true]; exact PExW_ok (nt (by omega)) (by decide) S L
  rw [decide_eq_false h4, cond_false]
  have hf : numB f = true := numB_iff.2 ⟨by omega, by omega⟩
  have ht : numB t = true := numB_iff.2 ⟨by omega, by omega⟩
  have hE : pE q f t = errP (ckR q) := by unfold pE; rw [hf, ht]; rfl
  cases hc : ckR q with
  | false =>
    rw [hc] at hE
    exact PExW_ok hE (by decide) S L
  | true =>
    rw [hc] at hE
    have hE : pE q f t = 0 := hE
    rw [Bool.not_true, cond_false]
    unfold PExK
    have e1 : eqV (tuV (byN S) (skS q f t)) (tuV (byN S) (skS q f t)) = true := by
      obtain ⟨X, _, h, _⟩ := isB32_some (tuV_b32 (byN S) (skS q f t))
      rw [h]; exact eqV_by rfl
    rw [hE, beq_self_eq_true, cond_true, cond_true, isPt_ptV, isNum_num, req_true (b := true && true) rfl, unPt_ptV hq, unnum_lt hS, tuV_sk, tuV_sk, slV_ok hE, e1, cond_true, isB32_bytesV, req_true (b := true && true) rfl,
      unbytes_bytesV, Nat.mod_eq_of_lt hL, opN_ok hE, eqV_num, decide_eq_true rfl]; rfl
theorem PExT_eq {N S L : Nat} {p q : RP} (hN : lt6 N) (hp : okR p) (hq : okR q) (hS : lt6 S) (hL : lt6 L) (f t : Int) : PExT (num N) (ptV p) (ptV q) f t (num S) (bytesV L) = tru := by
  unfold PExT
  rw [qTim_pt hN hp, qCk_pt hp]
  cases hc : ckR p with
  | false =>
    rw [if_neg Bool.false_ne_true, Bool.not_false, cond_true, qKp_pt okR_z okR_z, decide_eq_true rfl, PExR_eq hq hS hL]; rfl
  | true =>
    rw [if_pos rfl, Bool.not_true, cond_false, qTimR_pt hN hp, qKp_pt (okR_tim N p) (okR_tR N p), decide_eq_true (by rw [timR_ok hN hc]; unfold timS; rw [hide_eq]), PExR_eq hq hS hL]; rfl
end Go.W
