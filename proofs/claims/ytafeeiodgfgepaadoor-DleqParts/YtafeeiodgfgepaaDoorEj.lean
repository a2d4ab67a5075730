/-
  Several texts in one.
-/
import Derived.Test.YtafeeiodgfgepaaDoorEd
import Derived.Test.YtafeeiodgfgepaaDoorEi
import Derived.Test.YtafeeiodgfgepaaDoorEh
/-
  Rows of points.
-/
namespace Go.W
def kP9 : List CK := [.b, .i .u64, .i .u64, .i .u64, .i .u64, .i .u64, .i .u64, .i .u64, .i .u64]
def ptF (V : Nat → RP) : Nat → List Value := fun j => ptC (V j)
def el9 (f : Nat → List Value) (j : Nat) : Value := .agg (nrmK kP9 (f j)).toArray
def pA (f : Nat → List Value) (j : Nat) : RP := unPt (el9 f j)
noncomputable def okP (n : Nat) (f : Nat → List Value) : Bool := @decide (n ≤ 1000 ∧ ∀ j, j < n → isPt (el9 f j) = true) (Classical.propDecidable _)
theorem okP_iff {n : Nat} {f : Nat → List Value} : okP n f = true ↔ n ≤ 1000 ∧ ∀ j, j < n → isPt (el9 f j) = true := by
  unfold okP
  exact ⟨fun h => @of_decide_eq_true _ (Classical.propDecidable _) h, fun h => @decide_eq_true _ (Classical.propDecidable _) h⟩
theorem el_pt {n : Nat} {f : Nat → List Value} (h : okP n f = true) {j : Nat} (hj : j < n) : el9 f j = ptV (pA f j) ∧ okR (pA f j) := by
  obtain ⟨X, hX, e⟩ := isPt_some ((okP_iff.1 h).2 j hj)
  have : pA f j = X := by unfold pA; rw [e, unPt_ptV hX]
  rw [this]; exact ⟨e, hX⟩
theorem row_pt {n : Nat} {f : Nat → List Value} (h : okP n f = true) : ∀ j, j < n → nrmK kP9 (f j) = nrmK kP9 (ptF (pA f) j) := by
  intro j hj
  have e := (el_pt h hj).1
  have := congrArg (fun v : Value => v.cells.toList) e
  exact this
theorem pA_pt {V : Nat → RP} {j : Nat} (h : okR (V j)) : pA (ptF V) j = V j := unPt_ptV h
theorem okP_pt {n : Nat} {V : Nat → RP} (hn : n ≤ 1000) : okP n (ptF V) = true := okP_iff.2 ⟨hn, fun j _ => isPt_ptV (V j)⟩
def sg9 (n : Nat) (f : Nat → List Value) : Nat → List Value := segF ⟨0, 0, n, kP9, n, f, 0, false, []⟩
theorem el9_sg (n : Nat) (f : Nat → List Value) (j : Nat) : el9 (sg9 n f) j = el9 f j := by show el9 f (0 + j) = el9 f j; rw [Nat.zero_add]
theorem pA_sg (n : Nat) (f : Nat → List Value) : pA (sg9 n f) = pA f := by funext j; unfold pA; rw [el9_sg]
theorem okP_sg (m n : Nat) (f : Nat → List Value) : okP m (sg9 n f) = okP m f := by
  rw [Bool.eq_iff_iff, okP_iff, okP_iff]; simp only [el9_sg]
noncomputable def alP (V : Nat → RP) (n : Nat) : Bool := @decide (∀ j, j < n → ckR (V j) = true) (Classical.propDecidable _)
theorem alP_iff {V : Nat → RP} {n : Nat} : alP V n = true ↔ ∀ j, j < n → ckR (V j) = true := by
  unfold alP
  exact ⟨fun h => @of_decide_eq_true _ (Classical.propDecidable _) h, fun h => @decide_eq_true _ (Classical.propDecidable _) h⟩
theorem alP_congr {V W : Nat → RP} {n : Nat} (h : ∀ j, j < n → V j = W j) : alP V n = alP W n := by
  rw [Bool.eq_iff_iff, alP_iff, alP_iff]
  exact ⟨fun a j hj => (h j hj) ▸ a j hj, fun a j hj => (h j hj).symm ▸ a j hj⟩
end Go.W
/-
  Proofs that two logarithms are the same: the challenge of five points.
-/
namespace Go.W
def pbL (p : RP) : Nat := if p.1 = true then 1 else 33
def pbR (p : RP) : Nat → List Value := if p.1 = true then lstF [.int .u8 0] 0 1 else pbF (hdY p.2.2) (bytesL 32 p.2.1)
theorem pbL_le (p : RP) : pbL p ≤ 33 := by unfold pbL; split <;> omega
def RPbF (e : Nat) : List Value → (Nat → Option Blk) → Nat → List (Bool × Value × List (Nat × Blk))
  | [p], _, id => [(isPt p, nSl id (pbL (unPt p)), rw1 e id (pbL (unPt p)) (pbR (unPt p)))]
  | _, _, _ => []
def CPbF (e : Nat) : List Value → (Nat → Option Blk) → Nat → List (Bool × Value × List (Nat × Blk))
  | [p], _, id => [(isPt p && ckR (unPt p), .tuple #[nSl id (pbL (unPt p)), i64 0], rw1 e id (pbL (unPt p)) (pbR (unPt p)))]
  | _, _, _ => []
theorem RPbF_sub (e : Nat) : ∀ vs mm id v l, pickM (RPbF e vs mm id) = some (v, l) → pickM (RBytF e vs mm id) = some (v, l) := by
  intro vs mm id v l h
  match vs, h with
  | [p], h =>
    obtain ⟨hc, rfl, rfl⟩ := pick_one h
    rw [RBytF_eq]
    simp only [pickM]
    unfold pbL pbR
    rw [hc]
    cases (unPt p).1 <;> rfl
  | [], h => simp [RPbF, pickM] at h
  | _ :: _ :: _, h => simp [RPbF, pickM] at h
theorem CPbF_sub (e : Nat) : ∀ vs mm id v l, pickM (CPbF e vs mm id) = some (v, l) → pickM (CBytF e vs mm id) = some (v, l) := by
  intro vs mm id v l h
  match vs, h with
  | [p], h =>
    obtain ⟨hc, rfl, rfl⟩ := pick_one h
    rw [Bool.and_eq_true] at hc
    rw [CBytF_eq]
    simp only [pickM]
    unfold pbL pbR
    rw [hc.1, hc.2]
    cases (unPt p).1 <;> rfl
  | [], h => simp [CPbF, pickM] at h
  | _ :: _ :: _, h => simp [CPbF, pickM] at h
def dlqT : ByteArray := ⟨#[100, 108, 101, 113]⟩
def pbG (V : Nat → RP) : Nat → Nat × (Nat → List Value) := fun j => (pbL (V j), pbR (V j))
noncomputable def dqN (V : Nat → RP) : Nat := hide (scN (jl dlqT (pbG V) 5) (jF dlqT (pbG V) 5))
theorem dq_len (g : Nat → Nat × (Nat → List Value)) (h : ∀ j, j < 5 → (g j).1 ≤ 33) : jl dlqT g 5 ≤ 65536 := by
  have h0 := h 0 (by omega)
  have h1 := h 1 (by omega)
  have h2 := h 2 (by omega)
  have h3 := h 3 (by omega)
  have h4 := h 4 (by omega)
  have hs : dlqT.size = 4 := rfl
  simp only [jl, hs]
  omega
def isPb (V : Nat → RP) (g : Nat → Nat × (Nat → List Value)) : Prop := ∀ j, j < 5 → (g j).1 = pbL (V j) ∧ ∀ x, x < (g j).1 → bI (g j).2 x = bI (pbR (V j)) x
theorem ch_sc {V : Nat → RP} {g : Nat → Nat × (Nat → List Value)} (h : isPb V g) : scS (jl dlqT g 5) (jF dlqT g 5) = (dqN V, 0) := by
  have hl : jl dlqT g 5 = jl dlqT (pbG V) 5 := jl_congr dlqT 5 fun k hk => (h k hk).1
  have hL : jl dlqT (pbG V) 5 ≤ 65536 := dq_len _ fun j _ => pbL_le _
  rw [scS_congr (g := jF dlqT (pbG V) 5) (fun j hj => jF_congr dlqT 5 (fun k hk => ⟨(h k hk).1, (h k hk).2⟩) j hj), hl]
  unfold scS dqN
  rw [hide_eq, hide_eq, if_pos hL]
theorem ch_sk {V : Nat → RP} {g : Nat → Nat × (Nat → List Value)} (h : isPb V g) : skS (jl dlqT g 5) (jF dlqT g 5) = (dqN V, true) := by
  have hl : jl dlqT g 5 = jl dlqT (pbG V) 5 := jl_congr dlqT 5 fun k hk => (h k hk).1
  have hL : jl dlqT (pbG V) 5 ≤ 65536 := dq_len _ fun j _ => pbL_le _
  have e := ch_sc h
  unfold scS at e
  rw [hide_eq, if_pos (by rw [hl]; exact hL)] at e
  unfold skS
  rw [hide_eq, if_pos (by rw [hl]; exact hL), (Prod.mk.inj e).1]
theorem dqN_lt (V : Nat → RP) : dqN V < primeN 1 := by unfold dqN; rw [hide_eq]; exact scN_lt _ _
theorem dqN_congr {V W : Nat → RP} (h : ∀ j, j < 5 → V j = W j) : dqN V = dqN W := by
  have e1 := ch_sc (V := V) (g := pbG V) fun j _ => ⟨rfl, fun _ _ => rfl⟩
  have e2 := ch_sc (V := W) (g := pbG V) fun j hj => ⟨by rw [← h j hj]; rfl, fun x _ => by rw [← h j hj]; rfl⟩
  exact (Prod.mk.inj (e1.symm.trans e2)).1
def five (a b c d e : RP) : Nat → RP
  | 0 => a
  | 1 => b
  | 2 => c
  | 3 => d
  | _ => e
noncomputable def ChF : List Value → (Nat → Option Blk) → Nat → List (Bool × Value × List (Nat × Blk))
  | [v], mm, _ => [((srcB mm kP9 v).1 && (okP (srcB mm kP9 v).2.1 (srcB mm kP9 v).2.2 && Nat.beq (srcB mm kP9 v).2.1 5), num (dqN (pA (srcB mm kP9 v).2.2)), [])]
  | _, _, _ => []
end Go.W
/-
  The engine, part 27: arguments that are two numbers in one struct, opened.
-/
namespace Go.W
def prL (X : Nat × Nat) : List Value := [u64 (dig X.1 0), u64 (dig X.1 1), u64 (dig X.1 2), u64 (dig X.1 3), u64 (dig X.2 0), u64 (dig X.2 1), u64 (dig X.2 2), u64 (dig X.2 3)]
def prV (c r : Nat) : Value := .agg (prL (c, r)).toArray
section
variable {P : Program} {H : Type} {enc : TypeId × Value → H} {W : World} {base b0 : Nat} {sp : Nat → Bool} {held : Bool} {r : Reach} {t tn e : TypeId} {v : Value} {d : DataW H} {p : List MemPlace}
theorem open_prf {fs : Array Field} (ht : P.underlying t = some (.struct fs)) (hfs : fs.toList.map (fun f => (f.offset, f.type)) = [(0, tn), (4, tn)]) (hn : P.underlying tn = some (.array 4 e))
    (he : P.underlying e = some (.int .u64)) (hce : P.cellsOf e = 1) (hcn : P.cellsOf tn = 4) (hct : P.cellsOf t = 8) (hv : Value.okWide P W r base t v) (h : DataW.Trod enc P W b0 sp held t v d p) :
    ∃ X : Nat × Nat, (X.1 < 2 ^ 256 ∧ X.2 < 2 ^ 256) ∧ v = prV X.1 X.2 := by
  have hv' : ∃ cs, v = .agg cs ∧ cs.size = P.cellsOf t ∧ Row.okWide P W r base t cs := by
    unfold Value.okWide at hv; rw [ht] at hv; exact hv
  obtain ⟨cs, rfl, hsz, _⟩ := hv'
  obtain ⟨fuel, hf⟩ := h
  obtain ⟨xs, m, rfl, _, hl, hxl, hget⟩ := DataW.trod_struct ht hf
  obtain ⟨f0, f1, rfl, o0, t0, o1, t1⟩ : ∃ f0 f1, fs = #[f0, f1] ∧ f0.offset = 0 ∧ f0.type = tn ∧ f1.offset = 4 ∧ f1.type = tn := by
    obtain ⟨l, rfl⟩ : ∃ l, fs = List.toArray l := ⟨fs.toList, by simp⟩
    rw [List.toList_toArray] at hfs
    have hl2 : l.length = 2 := by simpa using congrArg List.length hfs
    match l, hl2, hfs with
    | [f0, f1], _, hfs =>
      simp only [List.map_cons, List.map_nil, List.cons.injEq, Prod.mk.injEq, and_true] at hfs
      exact ⟨f0, f1, rfl, hfs.1.1, hfs.1.2, hfs.2.1, hfs.2.2⟩
  have hxl : xs.length = 2 := by rw [hxl]; rfl
  have g0 := hget 0 f0 rfl
  have g1 := hget 1 f1 rfl
  rw [o0, t0, hcn, List.drop_zero, List.getElem?_eq_getElem (by omega)] at g0
  rw [o1, t1, hcn, List.getElem?_eq_getElem (by omega)] at g1
  obtain ⟨a1, a2⟩ := trod_row hn he hce hcn g0
  obtain ⟨b1, b2⟩ := trod_row hn he hce hcn g1
  obtain ⟨X, hX, eX⟩ := row_num a1 a2
  obtain ⟨Y, hY, eY⟩ := row_num b1 b2
  refine ⟨(X, Y), ⟨hX, hY⟩, ?_⟩
  have hl' : cs.toList.length = 8 := by
    have : (Value.agg cs).cells.toList.length = 8 := by rw [hl, hct]
    exact this
  have h4 : (cs.toList.drop 4).take 4 = cs.toList.drop 4 := List.take_of_length_le (by rw [List.length_drop, hl']; omega)
  have e1 : cs.toList.take 4 = _ := eX
  have e2 : (cs.toList.drop 4).take 4 = _ := eY
  show Value.agg cs = Value.agg _
  congr 1
  refine Array.toList_inj.1 ?_
  rw [← List.take_append_drop 4 cs.toList, e1, ← h4, e2]; rfl
end
end Go.W
/-
  Proofs that two logarithms are the same: proofs as values, what is proved, what holds.
-/
namespace Go.W
def isPrf (v : Value) : Bool := aggK v (fun l => Nat.beq l.length 8 && (isNum (.agg (l.take 4).toArray) && isNum (.agg (l.drop 4).toArray))) false
def unPrf (v : Value) : Nat × Nat := (unnum (.agg (v.cells.toList.take 4).toArray), unnum (.agg (v.cells.toList.drop 4).toArray))
theorem isPrf_prV (c r : Nat) : isPrf (prV c r) = true := by
  show (true && (isNum (num c) && isNum (num r))) = true
  rw [isNum_num, isNum_num]; rfl
theorem unPrf_prV {c r : Nat} (hc : c < 2 ^ 256) (hr : r < 2 ^ 256) : unPrf (prV c r) = (c, r) := by
  show (unnum (num c), unnum (num r)) = (c, r)
  rw [unnum_lt hc, unnum_lt hr]
theorem isPrf_some {v : Value} (h : isPrf v = true) : ∃ X : Nat × Nat, (X.1 < 2 ^ 256 ∧ X.2 < 2 ^ 256) ∧ v = prV X.1 X.2 := by
  unfold isPrf aggK at h
  split at h
  · rename_i cs
    simp only [Bool.and_eq_true] at h
    obtain ⟨_, h1, h2⟩ := h
    obtain ⟨X, hX, e1⟩ := isNum_some h1
    obtain ⟨Y, hY, e2⟩ := isNum_some h2
    refine ⟨(X, Y), ⟨hX, hY⟩, ?_⟩
    have a1 := congrArg (fun v : Value => v.cells.toList) e1
    have a2 := congrArg (fun v : Value => v.cells.toList) e2
    have b1 : cs.toList.take 4 = (num X).cells.toList := a1
    have b2 : cs.toList.drop 4 = (num Y).cells.toList := a2
    show Value.agg cs = Value.agg _
    congr 1
    refine Array.toList_inj.1 ?_
    rw [← List.take_append_drop 4 cs.toList, b1, b2]; rfl
  · simp at h
def KprF : List Value → Option (Bool × Value)
  | [p, q] => some (isPrf p && isPrf q, .bool (decide (unPrf p = unPrf q)))
  | _ => none
noncomputable def chP (S N : Nat) (b : RP) : Nat := dqN (five (basS S) b (timS S b) (basS N) (timS N b))
noncomputable def chR (S N : Nat) (b : RP) : Nat := nSub N (nMul (chP S N b) S)
noncomputable def prE (S N : Nat) (b : RP) : Nat × Nat := if ckR b = true then (chP S N b, chR S N b) else (0, 0)
noncomputable def PrvF : List Value → Option (Bool × Value)
  | [s, n, b] => some (isNum s && isNum n && isPt b, .tuple #[prV (prE (unnum s) (unnum n) (unPt b)).1 (prE (unnum s) (unnum n) (unPt b)).2, i64 (errP (ckR (unPt b)))])
  | _ => none
theorem chP_p (S N : Nat) (b : RP) : chP S N b < pN := dqN_lt _
theorem chR_p (S N : Nat) (b : RP) : chR S N b < pN := nSub_p _ _
theorem prE_ok {S N : Nat} {b : RP} (h : ckR b = true) : prE S N b = (chP S N b, chR S N b) := if_pos h
theorem prE_no {S N : Nat} {b : RP} (h : ckR b = false) : prE S N b = (0, 0) := if_neg (by rw [h]; exact Bool.false_ne_true)
theorem prE_lt (S N : Nat) (b : RP) : (prE S N b).1 < 2 ^ 256 ∧ (prE S N b).2 < 2 ^ 256 := by
  have hp := n1_lt
  unfold prE
  split
  · exact ⟨Nat.lt_trans (chP_p _ _ _) hp, Nat.lt_trans (chR_p _ _ _) hp⟩
  · exact ⟨by decide, by decide⟩
noncomputable def hldB (a b k : RP) (X : Nat × Nat) : Bool := decide (X.1 < pN) && (decide (X.2 < pN) && decide (dqN (five a b k (twoS X.2 gR X.1 a) (twoS X.2 b X.1 k)) = X.1))
noncomputable def HldF : List Value → Option (Bool × Value)
  | [a, b, k, p] => some (isPt a && isPt b && isPt k && isPrf p, .tuple #[.bool (ckR (unPt a) && ckR (unPt b) && ckR (unPt k) && hldB (unPt a) (unPt b) (unPt k) (unPrf p)), i64 (errP (ckR (unPt a) && ckR (unPt b) && ckR (unPt k)))])
  | _ => none
theorem chR_sum (S N C : Nat) : (nSub N (nMul C S) + C * S) % pN = N % pN := by
  rw [nSub_eq, nMul_eq]
  have hp := n1_pos
  have h1 : C * S % pN < pN := Nat.mod_lt _ hp
  rw [Nat.mod_mod_of_dvd _ (Nat.dvd_refl pN), Nat.mod_add_mod]
  have h2 := Nat.div_add_mod (C * S) pN
  generalize C * S % pN = m at h1 h2
  generalize C * S / pN = q at h2
  rw [← h2, show N + (pN - m) + (pN * q + m) = N + pN * (q + 1) from by rw [Nat.mul_add, Nat.mul_one]; omega, Nat.add_mul_mod_self_left]
theorem pt_gR : toPt gR = Gp := gR_pt
theorem two_a (S N C : Nat) : twoS (nSub N (nMul C S)) gR C (basS S) = basS N := by
  refine rp_ext (ck_two _ _ gR_ck (ck_bas S)) (ck_bas N) ?_
  rw [pt_two, pt_gR, pt_bas, pt_bas, ← mulP_mul fldP G_on, ← mulP_add fldP G_on, ← mul_modN, chR_sum, mul_modN]
theorem two_b (S N C B : Nat) : twoS (nSub N (nMul C S)) (basS B) C (timS S (basS B)) = timS N (basS B) := by
  refine rp_ext (ck_two _ _ (ck_bas B) (ck_tim S (ck_bas B))) (ck_tim N (ck_bas B)) ?_
  rw [pt_two, pt_tim, pt_tim, pt_bas, ← mulP_mul fldP (mul_on fldP G_on B), ← mulP_add fldP (mul_on fldP G_on B), ← mul_modN2, chR_sum, mul_modN2]
theorem hld_prv (S N B : Nat) : hldB (basS S) (basS B) (timS S (basS B)) (chP S N (basS B), chR S N (basS B)) = true := by
  unfold hldB
  have h1 := chP_p S N (basS B)
  have h2 := chR_p S N (basS B)
  simp only
  rw [decide_eq_true h1, decide_eq_true h2, Bool.true_and, Bool.true_and]
  unfold chR
  rw [two_a, two_b]
  exact decide_eq_true rfl
theorem hld_big {a b k : RP} {X : Nat × Nat} (h : ¬ (X.1 < pN ∧ X.2 < pN)) : hldB a b k X = false := by
  unfold hldB
  by_cases h1 : X.1 < pN
  · rw [decide_eq_false (show ¬ X.2 < pN from fun h2 => h ⟨h1, h2⟩), Bool.false_and, Bool.and_false]
  · rw [decide_eq_false h1, Bool.false_and]
def dcG (e : Nat → Value) : Nat → Nat → Nat × (Nat → List Value)
  | 0 => fun _ => (pbL (unPt (e 0)), pbR (unPt (e 0)))
  | k + 1 => setN (k + 1) (pbL (unPt (e (k + 1))), pbR (unPt (e (k + 1)))) (dcG e k)
theorem dcG_at (e : Nat → Value) : ∀ k j, j ≤ k → dcG e k j = (pbL (unPt (e j)), pbR (unPt (e j)))
  | 0, j, h => by obtain rfl : j = 0 := by omega
                  rfl
  | k + 1, j, h => by
    show setN (k + 1) _ (dcG e k) j = _
    by_cases e' : j = k + 1
    · subst e'; exact setN_eq _ _ _
    · rw [setN_ne _ _ e']; exact dcG_at e k j (by omega)
def dcO (m : Nat) : Bool := Nat.ble m m && Nat.ble m m && true && true && true && true && true
theorem dcO_true (m : Nat) : dcO m = true := by unfold dcO; rw [ble_of (Nat.le_refl _)]; rfl
theorem isPb_dc (f : Nat → List Value) : isPb (pA f) (dcG (el9 f) 4) := fun j hj => by
  rw [dcG_at _ 4 j (by omega)]
  exact ⟨rfl, fun _ _ => rfl⟩
def dcQ {α : Type} (f : Nat → List Value) (k : Nat) (x : Option α) : Option α := req (isPt (el9 f k)) (req (dcO (pbL (unPt (el9 f k)))) x)
theorem dcQ_eq {α : Type} {n : Nat} {f : Nat → List Value} (h : okP n f = true) {k : Nat} (hk : k < n) (x : Option α) : dcQ f k x = x := by
  unfold dcQ
  rw [(okP_iff.1 h).2 k hk, req_true rfl, dcO_true, req_true rfl]
def f5F (a b c d e : Value) : Nat → List Value := lstF (a.cells.toList ++ (b.cells.toList ++ (c.cells.toList ++ (d.cells.toList ++ e.cells.toList)))) 0 9
theorem f5_el (a b c d e : RP) : ∀ j, j < 5 → el9 (f5F (ptV a) (ptV b) (ptV c) (ptV d) (ptV e)) j = ptV (five a b c d e j)
  | 0, _ => rfl
  | 1, _ => rfl
  | 2, _ => rfl
  | 3, _ => rfl
  | 4, _ => rfl
  | n + 5, h => absurd h (by omega)
theorem f5_ok (a b c d e : RP) : okP 5 (f5F (ptV a) (ptV b) (ptV c) (ptV d) (ptV e)) = true := okP_iff.2 ⟨by omega, fun j hj => by rw [f5_el a b c d e j hj]; exact isPt_ptV _⟩
theorem f5_pA {a b c d e : RP} (h : ∀ j, j < 5 → okR (five a b c d e j)) : dqN (pA (f5F (ptV a) (ptV b) (ptV c) (ptV d) (ptV e))) = dqN (five a b c d e) := dqN_congr fun j hj => by
  show unPt (el9 _ j) = _
  rw [f5_el a b c d e j hj, unPt_ptV (h j hj)]
theorem five_all {P : RP → Prop} {a b c d e : RP} (ha : P a) (hb : P b) (hc : P c) (hd : P d) (he : P e) : ∀ j, j < 5 → P (five a b c d e j)
  | 0, _ => ha
  | 1, _ => hb
  | 2, _ => hc
  | 3, _ => hd
  | 4, _ => he
  | n + 5, h => absurd h (by omega)
noncomputable def qCh {α : Type} (a b c d e : Value) (k : Nat → Option α) : Option α := req (okP 5 (f5F a b c d e) && true) (k (dqN (pA (f5F a b c d e))))
theorem qCh_pt {α : Type} {a b c d e : RP} (h : ∀ j, j < 5 → okR (five a b c d e j)) (k : Nat → Option α) : qCh (ptV a) (ptV b) (ptV c) (ptV d) (ptV e) k = k (dqN (five a b c d e)) := by
  unfold qCh
  rw [f5_ok, req_true (b := true && true) rfl, f5_pA h]
noncomputable def rprC (S N : Nat) (b : RP) : Nat := dqN (five (timR S gR) b (timR S b) (timR N gR) (timR N b))
noncomputable def RprF : List Value → Option (Bool × Value)
  | [s, n, b] => some (isNum s && isNum n && isPt b, prV (rprC (unnum s) (unnum n) (unPt b)) (nSub (unnum n) (nMul (rprC (unnum s) (unnum n) (unPt b)) (unnum s))))
  | _ => none
theorem dqN_l (V : Nat → RP) : lt6 (dqN V) := Nat.lt_trans (dqN_lt V) n1_lt
theorem rprC_eq {S N : Nat} (hS : lt6 S) (hN : lt6 N) {b : RP} (h : ckR b = true) : rprC S N b = chP S N b := by
  unfold rprC chP
  rw [basS_ok hS, basS_ok hN, timS_ok hS h, timS_ok hN h]
noncomputable def RblF : List Value → Option (Bool × Value)
  | [p] => some (isPrf p, .bool (decide ((unPrf p).1 < pN) && decide ((unPrf p).2 < pN)))
  | _ => none
noncomputable def rhlB (a b k : RP) (X : Nat × Nat) : Bool := decide (X.1 < pN) && (decide (X.2 < pN) && decide (dqN (five a b k (twoR X.2 gR X.1 a) (twoR X.2 b X.1 k)) = X.1))
noncomputable def RhlF : List Value → Option (Bool × Value)
  | [a, b, k, p] => some (isPt a && isPt b && isPt k && isPrf p, .bool (rhlB (unPt a) (unPt b) (unPt k) (unPrf p)))
  | _ => none
theorem rhlB_eq {a b k : RP} (ha : ckR a = true) (hb : ckR b = true) (hk : ckR k = true) {X : Nat × Nat} (h1 : lt6 X.1) (h2 : lt6 X.2) : rhlB a b k X = hldB a b k X := by
  unfold rhlB hldB
  rw [twoS_ok h2 h1 gR_ck ha, twoS_ok h2 h1 hb hk]
theorem below_cmp (a : Nat) : decide (cmpI a (primeN 1) < 0) = decide (a < pN) := by
  have hp : primeN 1 = pN := rfl
  rw [hp]
  unfold cmpI
  by_cases h : a < pN
  · rw [if_pos h, decide_eq_true h]; rfl
  · rw [if_neg h, decide_eq_false h]
    split <;> rfl
end Go.W
/-
  Proofs that two logarithms are the same: what the statements ask.
-/
namespace Go.W
theorem Sum_sub {P : Program} [Laid P] {g : FuncId} {F F' : List Value → Option (Bool × Value)} (h : Sum P g F) (hs : ∀ args v, F' args = some (true, v) → F args = some (true, v)) : Sum P g F' :=
  fun args v hv => h args v (hs args v hv)
noncomputable def NmuF : List Value → Option (Bool × Value)
  | [.int .i64 w, a, b] => some (isNum a && isNum b && decide (w = 1), num (nMul (unnum a) (unnum b)))
  | _ => none
noncomputable def NsuF : List Value → Option (Bool × Value)
  | [.int .i64 w, a, b] => some (isNum a && isNum b && decide (w = 1), num (nSub (unnum a) (unnum b)))
  | _ => none
theorem NmuF_sub : ∀ args v, NmuF args = some (true, v) → FMulF args = some (true, v) := by
  intro args v h
  unfold NmuF at h
  split at h
  · simp only [Option.some.injEq, Prod.mk.injEq, Bool.and_eq_true, decide_eq_true_eq] at h
    obtain ⟨⟨⟨h0, h1⟩, rfl⟩, rfl⟩ := h
    show some (_ && _, _) = _
    rw [h0, h1, nMul_def]; rfl
  · cases h
theorem NsuF_sub : ∀ args v, NsuF args = some (true, v) → FSubF args = some (true, v) := by
  intro args v h
  unfold NsuF at h
  split at h
  · simp only [Option.some.injEq, Prod.mk.injEq, Bool.and_eq_true, decide_eq_true_eq] at h
    obtain ⟨⟨⟨h0, h1⟩, rfl⟩, rfl⟩ := h
    show some (_ && _, _) = _
    rw [h0, h1, nSub_def]; rfl
  · cases h
noncomputable def adH (X Y : Nat) : Nat := hide (X + Y)
noncomputable def adK (X Y : Nat) : Nat := hide ((X + Y) / 2 ^ 256)
noncomputable def AdhF : List Value → Option (Bool × Value)
  | [x, y] => some (isNum x && isNum y, .tuple #[num (adH (unnum x) (unnum y)), u64 (adK (unnum x) (unnum y))])
  | _ => none
theorem AdhF_sub : ∀ args v, AdhF args = some (true, v) → AddF args = some (true, v) := by
  intro args v h
  unfold AdhF adH adK at h
  simp only [hide_eq] at h
  exact h
noncomputable def qPrv (s n b : Value) (K : Nat → Nat → Int → Option Value) : Option Value := req (isNum s && isNum n && isPt b) (K (prE (unnum s) (unnum n) (unPt b)).1 (prE (unnum s) (unnum n) (unPt b)).2 (errP (ckR (unPt b))))
noncomputable def qHld (a b k : Value) (c r : Nat) (K : Bool → Int → Option Value) : Option Value :=
  req (isPt a && isPt b && isPt k && isPrf (prV c r)) (K (ckR (unPt a) && ckR (unPt b) && ckR (unPt k) && hldB (unPt a) (unPt b) (unPt k) (unPrf (prV c r))) (errP (ckR (unPt a) && ckR (unPt b) && ckR (unPt k))))
def qKpr (c r c2 r2 : Nat) (K : Bool → Option Value) : Option Value := req (isPrf (prV c r) && isPrf (prV c2 r2)) (K (decide (unPrf (prV c r) = unPrf (prV c2 r2))))
noncomputable def qRpr (s n b : Value) (K : Nat → Nat → Option Value) : Option Value := req (isNum s && isNum n && isPt b) (K (rprC (unnum s) (unnum n) (unPt b)) (nSub (unnum n) (nMul (rprC (unnum s) (unnum n) (unPt b)) (unnum s))))
noncomputable def qRhl (a b k : Value) (c r : Nat) (K : Bool → Option Value) : Option Value := req (isPt a && isPt b && isPt k && isPrf (prV c r)) (K (rhlB (unPt a) (unPt b) (unPt k) (unPrf (prV c r))))
theorem qPrv_pt {S N : Nat} {b : RP} (hS : lt6 S) (hN : lt6 N) (hb : okR b) (K : Nat → Nat → Int → Option Value) : qPrv (num S) (num N) (ptV b) K = K (prE S N b).1 (prE S N b).2 (errP (ckR b)) := by
  unfold qPrv; rw [isNum_num, isNum_num, isPt_ptV, req_true (b := true && true && true) rfl, unnum_lt hS, unnum_lt hN, unPt_ptV hb]
theorem qHld_pt {a b k : RP} {c r : Nat} (ha : okR a) (hb : okR b) (hk : okR k) (hc : lt6 c) (hr : lt6 r) (K : Bool → Int → Option Value) : qHld (ptV a) (ptV b) (ptV k) c r K = K (ckR a && ckR b && ckR k && hldB a b k (c, r)) (errP (ckR a && ckR b && ckR k)) := by
  unfold qHld; rw [isPt_ptV, isPt_ptV, isPt_ptV, isPrf_prV, req_true (b := true && true && true && true) rfl, unPt_ptV ha, unPt_ptV hb, unPt_ptV hk, unPrf_prV hc hr]
theorem qHld_ck {a b k : RP} {c r : Nat} (ha : ckR a = true) (hb : ckR b = true) (hk : ckR k = true) (hc : lt6 c) (hr : lt6 r) (K : Bool → Int → Option Value) : qHld (ptV a) (ptV b) (ptV k) c r K = K (hldB a b k (c, r)) 0 := by
  rw [qHld_pt (ck_okR ha) (ck_okR hb) (ck_okR hk) hc hr, ha, hb, hk]; rfl
theorem qKpr_pt {c r c2 r2 : Nat} (hc : lt6 c) (hr : lt6 r) (hc2 : lt6 c2) (hr2 : lt6 r2) (K : Bool → Option Value) : qKpr c r c2 r2 K = K (decide ((c, r) = (c2, r2))) := by
  unfold qKpr; rw [isPrf_prV, isPrf_prV, req_true (b := true && true) rfl, unPrf_prV hc hr, unPrf_prV hc2 hr2]
theorem qRpr_pt {S N : Nat} {b : RP} (hS : lt6 S) (hN : lt6 N) (hb : okR b) (K : Nat → Nat → Option Value) : qRpr (num S) (num N) (ptV b) K = K (rprC S N b) (nSub N (nMul (rprC S N b) S)) := by
  unfold qRpr; rw [isNum_num, isNum_num, isPt_ptV, req_true (b := true && true && true) rfl, unnum_lt hS, unnum_lt hN, unPt_ptV hb]
theorem qRhl_pt {a b k : RP} {c r : Nat} (ha : okR a) (hb : okR b) (hk : okR k) (hc : lt6 c) (hr : lt6 r) (K : Bool → Option Value) : qRhl (ptV a) (ptV b) (ptV k) c r K = K (rhlB a b k (c, r)) := by
  unfold qRhl; rw [isPt_ptV, isPt_ptV, isPt_ptV, isPrf_prV, req_true (b := true && true && true && true) rfl, unPt_ptV ha, unPt_ptV hb, unPt_ptV hk, unPrf_prV hc hr]
noncomputable def wak9T : Option Value := qBas (num 9) fun b => qPrv (num 5) (num 7) b fun c r e => qTim (num 5) b fun k f => qBas (num 5) fun a => qHld a b k c r fun x g => qBas (num 5) fun a => qHld a b k (primeN 1) r fun y h =>
  bif e == 0 then (bif f == 0 then (bif g == 0 then (bif h == 0 then (bif x then some (.bool (!y)) else fls) else fls) else fls) else fls) else fls
theorem lt6_k {n : Nat} (h : n < 2 ^ 64) : lt6 n := by
  unfold lt6
  exact Nat.lt_of_lt_of_le h (Nat.pow_le_pow_right (by decide) (by decide))
theorem chP_l (S N : Nat) (b : RP) : lt6 (chP S N b) := Nat.lt_trans (chP_p S N b) n1_lt
theorem chR_l (S N : Nat) (b : RP) : lt6 (chR S N b) := Nat.lt_trans (chR_p S N b) n1_lt
theorem wak9T_eq : wak9T = tru := by
  have l5 : lt6 5 := lt6_k (by decide)
  have l7 : lt6 7 := lt6_k (by decide)
  have l9 : lt6 9 := lt6_k (by decide)
  have hb := ck_bas 9
  have hk := ck_tim 5 hb
  unfold wak9T
  rw [qBas_pt l9, qPrv_pt l5 l7 (ck_okR hb), prE_ok hb, hb, qTim_ck l5 hb, qBas_pt l5, qHld_ck (ck_bas 5) hb hk (chP_l _ _ _) (chR_l _ _ _), hld_prv, qBas_pt l5, qHld_ck (ck_bas 5) hb hk (show lt6 (primeN 1) from n1_lt) (chR_l _ _ _), hld_big (fun h => absurd h.1 (Nat.lt_irrefl _))]
  rfl
noncomputable def DPrT (S N b : Value) : Option Value :=
  qPrv S N b fun c r e => qCk b fun o => bif !o then (bif e == 3 then (qKpr c r 0 0 fun x => bif x then tru else fls) else fls) else (bif e == 0 then (qRpr S N b fun c2 r2 => qKpr c r c2 r2 fun x => bif x then tru else fls) else fls)
theorem DPrT_eq {S N : Nat} {b : RP} (hS : lt6 S) (hN : lt6 N) (hb : okR b) : DPrT (num S) (num N) (ptV b) = tru := by
  unfold DPrT
  rw [qPrv_pt hS hN hb, qCk_pt hb]
  cases hc : ckR b with
  | false =>
    rw [prE_no hc, qKpr_pt lt6_0 lt6_0 lt6_0 lt6_0, decide_eq_true rfl]; rfl
  | true =>
    rw [prE_ok hc, qRpr_pt hS hN hb, rprC_eq hS hN hc, qKpr_pt (chP_l _ _ _) (chR_l _ _ _) (chP_l _ _ _) (nSub_l _ _), show nSub N (nMul (chP S N b) S) = chR S N b from rfl, decide_eq_true rfl]; rfl
noncomputable def DHoE (x : Bool) (e : Int) : Option Value := bif e == 3 then (bif !x then tru else fls) else fls
noncomputable def DHoT (a b k : Value) (c r : Nat) : Option Value :=
  qHld a b k c r fun x e => qCk a fun oa => bif !oa then DHoE x e else qCk b fun ob => bif !ob then DHoE x e else qCk k fun ok => bif !ok then DHoE x e else (bif e == 0 then (qRhl a b k c r fun w => bif x == w then tru else fls) else fls)
theorem DHoT_eq {a b k : RP} {c r : Nat} (ha : okR a) (hb : okR b) (hk : okR k) (hc : lt6 c) (hr : lt6 r) : DHoT (ptV a) (ptV b) (ptV k) c r = tru := by
  unfold DHoT
  rw [qHld_pt ha hb hk hc hr, qCk_pt ha, qCk_pt hb, qCk_pt hk, qRhl_pt ha hb hk hc hr]
  cases h1 : ckR a with
  | false => rfl
  | true =>
  cases h2 : ckR b with
  | false => rfl
  | true =>
  cases h3 : ckR k with
  | false => rfl
  | true =>
    rw [rhlB_eq h1 h2 h3 (show lt6 (c, r).1 from hc) (show lt6 (c, r).2 from hr)]
    cases hldB a b k (c, r) <;> rfl
def fv (a b c d e : Value) : Nat → Value
  | 0 => a
  | 1 => b
  | 2 => c
  | 3 => d
  | _ => e
def dpQ (q : Value) (x : Option Value) : Option Value := req (isPt q && ckR (unPt q)) (req (dcO (pbL (unPt q))) x)
theorem dpQ_ck {p : RP} (h : ckR p = true) (x : Option Value) : dpQ (ptV p) x = x := by
  unfold dpQ
  rw [isPt_ptV, unPt_ptV (ck_okR h), h, req_true (b := true && true) rfl, dcO_true, req_true rfl]
theorem fv_pt {a b c d e : RP} (h : ∀ j, j < 5 → okR (five a b c d e j)) : ∀ j, j < 5 → unPt (fv (ptV a) (ptV b) (ptV c) (ptV d) (ptV e) j) = five a b c d e j
  | 0, hj => unPt_ptV (h 0 hj)
  | 1, hj => unPt_ptV (h 1 hj)
  | 2, hj => unPt_ptV (h 2 hj)
  | 3, hj => unPt_ptV (h 3 hj)
  | 4, hj => unPt_ptV (h 4 hj)
  | n + 5, h => absurd h (by omega)
def ck5 (a b c d e : Value) : Bool := (isPt a && ckR (unPt a)) && ((isPt b && ckR (unPt b)) && ((isPt c && ckR (unPt c)) && ((isPt d && ckR (unPt d)) && (isPt e && ckR (unPt e)))))
noncomputable def ChcF : List Value → Option (Bool × Value)
  | [a, b, c, d, e] => some (ck5 a b c d e, num (dqN (five (unPt a) (unPt b) (unPt c) (unPt d) (unPt e))))
  | _ => none
noncomputable def qChc {α : Type} (a b c d e : Value) (k : Nat → Option α) : Option α := req (ck5 a b c d e) (k (dqN (five (unPt a) (unPt b) (unPt c) (unPt d) (unPt e))))
theorem ck5_pt {a b c d e : RP} (ha : ckR a = true) (hb : ckR b = true) (hc : ckR c = true) (hd : ckR d = true) (he : ckR e = true) : ck5 (ptV a) (ptV b) (ptV c) (ptV d) (ptV e) = true := by
  unfold ck5
  rw [isPt_ptV, isPt_ptV, isPt_ptV, isPt_ptV, isPt_ptV, unPt_ptV (ck_okR ha), unPt_ptV (ck_okR hb), unPt_ptV (ck_okR hc), unPt_ptV (ck_okR hd), unPt_ptV (ck_okR he), ha, hb, hc, hd, he]; rfl
theorem qChc_ck {α : Type} {a b c d e : RP} (ha : ckR a = true) (hb : ckR b = true) (hc : ckR c = true) (hd : ckR d = true) (he : ckR e = true) (k : Nat → Option α) : qChc (ptV a) (ptV b) (ptV c) (ptV d) (ptV e) k = k (dqN (five a b c d e)) := by
  unfold qChc
  rw [ck5_pt ha hb hc hd he, req_true rfl, unPt_ptV (ck_okR ha), unPt_ptV (ck_okR hb), unPt_ptV (ck_okR hc), unPt_ptV (ck_okR hd), unPt_ptV (ck_okR he)]
theorem isPb_fv {a b c d e : RP} (h : ∀ j, j < 5 → okR (five a b c d e j)) : isPb (five a b c d e) (dcG (fv (ptV a) (ptV b) (ptV c) (ptV d) (ptV e)) 4) := fun j hj => by
  rw [dcG_at _ 4 j (by omega), fv_pt h j hj]
  exact ⟨rfl, fun _ _ => rfl⟩
def BlwF : List Value → Option (Bool × Value)
  | [a] => some (isNum a, .bool (decide (unnum a < pN)))
  | _ => none
theorem bas1 : basS 1 = gR := rp_ext (ck_bas 1) gR_ck (by rw [pt_bas, gR_pt, mulP_one])
end Go.W
/-
  Proofs that two logarithms are the same: their parts.
-/
namespace Go.W
noncomputable def DPaK (S N a b k u v : Value) (c r : Nat) (sc : Nat × Int) : Option Value :=
  qBas (num 1) fun g1 => qTwo (num r) g1 (num c) a fun x f => qTwo (num r) b (num c) k fun y g =>
    bif sc.2 == 0 then (bif f == 0 then (bif g == 0 then (bif eqV (num c) (num sc.1) then
      (req (isNum (num sc.1) && isNum S && true) (req (isNum N && isNum (num (nMul (unnum (num sc.1)) (unnum S))) && true) (bif eqV (num r) (num (nSub (unnum N) (unnum (num (nMul (unnum (num sc.1)) (unnum S)))))) then
        (qKp x u fun o => bif o then (qKp y v fun o => bif o then tru else fls) else fls) else fls))) else fls) else fls) else fls) else fls
noncomputable def DPaT (S N B : Value) : Option Value :=
  qBas B fun b => qBas S fun a => qTim S b fun k e => qBas N fun u => qTim N b fun v f => qPrv S N b fun c r g => bif e != 0 then fls else bif f != 0 then fls else bif g != 0 then fls else
    dpQ a (dpQ b (dpQ k (dpQ u (dpQ v (DPaK S N a b k u v c r (scS (jl dlqT (dcG (fv a b k u v) 4) 5) (jF dlqT (dcG (fv a b k u v) 4) 5)))))))
theorem DPaT_eq {S N B : Nat} (hS : lt6 S) (hN : lt6 N) (hB : lt6 B) : DPaT (num S) (num N) (num B) = tru := by
  have hb := ck_bas B
  have ha := ck_bas S
  have hk := ck_tim S hb
  have hu := ck_bas N
  have hv := ck_tim N hb
  have hsc : scS (jl dlqT (dcG (fv (ptV (basS S)) (ptV (basS B)) (ptV (timS S (basS B))) (ptV (basS N)) (ptV (timS N (basS B)))) 4) 5) (jF dlqT (dcG (fv (ptV (basS S)) (ptV (basS B)) (ptV (timS S (basS B))) (ptV (basS N)) (ptV (timS N (basS B)))) 4) 5) = (chP S N (basS B), 0) := by
    refine ch_sc (V := five (basS S) (basS B) (timS S (basS B)) (basS N) (timS N (basS B))) fun j hj => ?_
    rw [dcG_at _ 4 j (by omega), fv_pt (five_all (ck_okR ha) (ck_okR hb) (ck_okR hk) (ck_okR hu) (ck_okR hv)) j hj]
    exact ⟨rfl, fun _ _ => rfl⟩
  unfold DPaT
  rw [qBas_pt hB, qBas_pt hS, qTim_ck hS hb, qBas_pt hN, qTim_ck hN hb, qPrv_pt hS hN (ck_okR hb), prE_ok hb, hb, dpQ_ck ha, dpQ_ck hb, dpQ_ck hk, dpQ_ck hu, dpQ_ck hv, hsc]
  show DPaK (num S) (num N) (ptV (basS S)) (ptV (basS B)) (ptV (timS S (basS B))) (ptV (basS N)) (ptV (timS N (basS B))) (chP S N (basS B)) (chR S N (basS B)) (chP S N (basS B), 0) = tru
  have ht1 : twoS (chR S N (basS B)) gR (chP S N (basS B)) (basS S) = basS N := two_a S N _
  have ht2 : twoS (chR S N (basS B)) (basS B) (chP S N (basS B)) (timS S (basS B)) = timS N (basS B) := two_b S N _ B
  unfold DPaK
  rw [qBas_pt lt6_1, bas1, qTwo_ck (chR_l _ _ _) (chP_l _ _ _) gR_ck ha, qTwo_ck (chR_l _ _ _) (chP_l _ _ _) hb hk, ht1, ht2]
  have e1 : ∀ n : Nat, eqV (num n) (num n) = true := fun n => by rw [eqV_num]; exact decide_eq_true rfl
  simp only
  rw [e1, isNum_num, isNum_num, isNum_num, isNum_num, req_true (b := true && true && true) rfl, req_true (b := true && true && true) rfl, unnum_lt (chP_l _ _ _), unnum_lt hS, unnum_lt hN, unnum_lt (nMul_l _ _), show nSub N (nMul (chP S N (basS B)) S) = chR S N (basS B) from rfl, e1,
    qKp_eq hu hu rfl, qKp_eq hv hv rfl]
  rfl
noncomputable def DBaN (a b k : Value) (c r : Nat) (K : Option Value) : Option Value := qHld a b k c r fun x g => bif g != 0 then fls else bif x then fls else K
noncomputable def DBaT (S N B : Value) : Option Value :=
  qBas B fun b => qBas S fun a => qTim S b fun k e => qPrv S N b fun c r f => qHld a b k c r fun x g => bif e != 0 then fls else bif f != 0 then fls else bif g != 0 then fls else bif !x then fls else
    req (isNum (num c) && isNum (num (primeN 1))) (req (isNum (num r) && isNum (num (primeN 1)))
      (bif (((adK (unnum (num c)) (unnum (num (primeN 1))) : Nat) : Int) == 0) then
        DBaN a b k (adH (unnum (num c)) (unnum (num (primeN 1)))) r (bif (((adK (unnum (num r)) (unnum (num (primeN 1))) : Nat) : Int) == 0) then DBaN a b k c (adH (unnum (num r)) (unnum (num (primeN 1)))) tru else tru)
      else (bif (((adK (unnum (num r)) (unnum (num (primeN 1))) : Nat) : Int) == 0) then DBaN a b k c (adH (unnum (num r)) (unnum (num (primeN 1)))) tru else tru)))
theorem adK_zero {X Y : Nat} (h : (((adK X Y : Nat) : Int) == 0) = true) : lt6 (adH X Y) ∧ adH X Y = X + Y := by
  unfold adK at h
  rw [hide_eq, beq_iff_eq] at h
  unfold adH
  rw [hide_eq]
  have h2 : (X + Y) / 2 ^ 256 = 0 := by omega
  exact ⟨(Nat.div_eq_zero_iff.1 h2).resolve_left (by decide), rfl⟩
theorem DBaN_eq {a b k : RP} {c r : Nat} (ha : ckR a = true) (hb : ckR b = true) (hk : ckR k = true) (hc : lt6 c) (hr : lt6 r) (h : ¬ (c < pN ∧ r < pN)) (K : Option Value) : DBaN (ptV a) (ptV b) (ptV k) c r K = K := by
  unfold DBaN
  rw [qHld_ck ha hb hk hc hr, hld_big (X := (c, r)) h]; rfl
theorem DBaT_eq {S N B : Nat} (hS : lt6 S) (hN : lt6 N) (hB : lt6 B) : DBaT (num S) (num N) (num B) = tru := by
  have hb := ck_bas B
  have ha := ck_bas S
  have hk := ck_tim S hb
  have hp : primeN 1 = pN := rfl
  have lP : lt6 (primeN 1) := n1_lt
  unfold DBaT
  rw [qBas_pt hB, qBas_pt hS, qTim_ck hS hb, qPrv_pt hS hN (ck_okR hb), prE_ok hb, hb, qHld_ck ha hb hk (chP_l _ _ _) (chR_l _ _ _), hld_prv, isNum_num, isNum_num, isNum_num, req_true (b := true && true) rfl, req_true (b := true && true) rfl,
    unnum_lt (chP_l _ _ _), unnum_lt (chR_l _ _ _), unnum_lt lP]
  have key : ∀ K : Option Value, K = tru → (bif (((adK (chP S N (basS B)) (primeN 1) : Nat) : Int) == 0) then DBaN (ptV (basS S)) (ptV (basS B)) (ptV (timS S (basS B))) (adH (chP S N (basS B)) (primeN 1)) (chR S N (basS B)) K else K) = tru := by
    intro K hK
    cases h : (((adK (chP S N (basS B)) (primeN 1) : Nat) : Int) == 0) with
    | false => exact hK
    | true =>
      obtain ⟨h1, h2⟩ := adK_zero h
      rw [cond_true, DBaN_eq ha hb hk h1 (chR_l _ _ _) (fun h3 => by rw [h2, hp] at h3; omega)]
      exact hK
  refine key _ ?_
  cases h : (((adK (chR S N (basS B)) (primeN 1) : Nat) : Int) == 0) with
  | false => rfl
  | true =>
    obtain ⟨h1, h2⟩ := adK_zero h
    rw [cond_true, DBaN_eq ha hb hk (chP_l _ _ _) h1 (fun h3 => by rw [h2, hp] at h3; omega)]
end Go.W
