/-
  Several texts in one: M84 W30 M85 Vf.
-/
import Derived.Test.YtkgkdjecmnhdmaaZe
namespace Go.W
def boS (s : Int) : Int := IntKind.i64.wrap (1 + IntKind.i64.wrap ((IntKind.u64.wrap s).tmod 7))
def boM (t : Int) : Int := IntKind.i64.wrap (iShl .i64 1 (IntKind.u64.wrap (IntKind.i64.wrap (8 * t))) - 1)
theorem boS_eq (s : Int) : ∃ t : Nat, 1 ≤ t ∧ t ≤ 7 ∧ boS s = (t : Int) := by
  unfold boS
  have h1 : 0 ≤ IntKind.u64.wrap s := by rw [wrap_u64]; omega
  rw [Int.tmod_eq_emod_of_nonneg h1]
  have h3 : 0 ≤ IntKind.u64.wrap s % 7 := Int.emod_nonneg _ (by omega)
  have h4 : IntKind.u64.wrap s % 7 < 7 := Int.emod_lt_of_pos _ (by omega)
  rw [wrap_i64 (n := IntKind.u64.wrap s % 7) (by omega), wrap_i64 (by omega)]
  exact ⟨(1 + IntKind.u64.wrap s % 7).toNat, by omega, by omega, by omega⟩
theorem pow56 {t : Nat} (h : t ≤ 7) : 2 ^ (8 * t) ≤ 72057594037927936 := Nat.le_trans (Nat.pow_le_pow_right (by decide) (show 8 * t ≤ 56 by omega)) (by decide)
theorem boM_eq {t : Nat} (h7 : t ≤ 7) : boM (t : Int) = ((2 ^ (8 * t) - 1 : Nat) : Int) := by
  unfold boM
  rw [sh8 h7]
  have hp := pow56 h7
  have h0 := two_pos (8 * t)
  have e : iShl .i64 1 ((8 * t : Nat) : Int) = ((2 ^ (8 * t) : Nat) : Int) := by
    unfold iShl
    rw [show min ((8 * t : Nat) : Int).toNat IntKind.i64.bits = 8 * t from by show min (8 * t) 64 = 8 * t; omega, Int.one_mul]
    have e2 : ((2 : Int) ^ (8 * t)) = ((2 ^ (8 * t) : Nat) : Int) := by rw [Int.natCast_pow]; rfl
    rw [e2, wrap_i64 (by omega)]
  rw [e, wrap_i64 (by omega)]; omega
theorem and_low (a : Int) {k : Nat} (hk : k ≤ 56) : ∃ x : Nat, x < 2 ^ k ∧ iAnd .i64 a ((2 ^ k - 1 : Nat) : Int) = (x : Int) := by
  have hp : 2 ^ k ≤ 72057594037927936 := Nat.le_trans (Nat.pow_le_pow_right (by decide) hk) (by decide)
  have h0 := two_pos k
  have e : (BitVec.ofInt IntKind.i64.bits a &&& BitVec.ofInt IntKind.i64.bits ((2 ^ k - 1 : Nat) : Int)).toNat = (BitVec.ofInt 64 a).toNat % 2 ^ k := by
    show (BitVec.ofInt 64 a &&& BitVec.ofInt 64 ((2 ^ k - 1 : Nat) : Int)).toNat = _
    rw [BitVec.toNat_and, BitVec.ofInt_natCast, BitVec.toNat_ofNat, Nat.mod_eq_of_lt (a := 2 ^ k - 1) (by omega), Nat.and_two_pow_sub_one_eq_mod]
  have h1 : (BitVec.ofInt 64 a).toNat % 2 ^ k < 2 ^ k := Nat.mod_lt _ h0
  refine ⟨_, h1, ?_⟩
  unfold iAnd
  rw [e, wrap_i64 (by omega)]
theorem pk_nat {x t : Nat} (h1 : 1 ≤ t) (h7 : t ≤ 7) (h : x < 2 ^ (8 * t)) : pkOk (x : Int) (t : Int) := by
  refine ⟨by omega, by omega, by omega, ?_⟩
  have e2 : ((2 : Int) ^ (8 * t)) = ((2 ^ (8 * t) : Nat) : Int) := by rw [Int.natCast_pow]; rfl
  show (x : Int) < 2 ^ (8 * t)
  rw [e2]; exact Int.ofNat_lt.2 h
theorem pk_head {m : Nat} {g : Nat → List Value} {n s : Int} (j : Nat) : bI (pkR m g n s) (m + j) = ((pkY n s j : Nat) : Int) := by
  rw [bI_pk]; unfold pkJ
  rw [if_neg (by omega), show m + j - m = j from by omega]
end Go.W

namespace Go.W
def mapSlot (t : Nat) (v : Value) (l : List (Nat × Value)) : List (Nat × Value) := l.map fun p => bif Nat.beq p.1 t then (p.1, v) else p
theorem look_mapSlot {t : Nat} {v : Value} : ∀ {l : List (Nat × Value)} {x : Nat} {u : Value}, look (mapSlot t v l) x = some u → (x = t ∧ u = v ∧ (look l t).isSome = true) ∨ (x ≠ t ∧ look l x = some u)
  | [], x, u, h => by simp [mapSlot, look] at h
  | (y, w) :: l, x, u, h => by
    have h : look ((bif Nat.beq y t then (y, v) else (y, w)) :: mapSlot t v l) x = some u := h
    by_cases hy : y = t
    · subst hy
      rw [nbeq.2 rfl, cond_true, look_cons] at h
      by_cases hx : y = x
      · subst hx
        rw [upd_same] at h
        cases h
        exact .inl ⟨rfl, rfl, by rw [look_cons, upd_same]; rfl⟩
      · rw [upd_ne _ _ hx] at h
        rcases look_mapSlot h with ⟨h1, _, _⟩ | ⟨h1, h2⟩
        · exact absurd h1.symm hx
        · exact .inr ⟨h1, by rw [look_cons, upd_ne _ _ hx]; exact h2⟩
    · rw [show Nat.beq y t = false from by rw [Bool.eq_false_iff, ne_eq, nbeq]; exact hy, cond_false, look_cons] at h
      by_cases hx : y = x
      · subst hx
        rw [upd_same] at h
        cases h
        exact .inr ⟨hy, by rw [look_cons, upd_same]⟩
      · rw [upd_ne _ _ hx] at h
        rcases look_mapSlot h with ⟨h1, h2, h3⟩ | ⟨h1, h2⟩
        · exact .inl ⟨h1, h2, by rw [look_cons, upd_ne _ _ hy]; exact h3⟩
        · exact .inr ⟨h1, by rw [look_cons, upd_ne _ _ hx]; exact h2⟩
section
variable {GL : Glob} {w0 : Wb GL} {n : Nat} {R : Nat → Pl → Prop} {a : Act} {w : World}
theorem Rel.nilSlot {s : St} (h : Rel w0 n R s.f a w) {t B : Nat} (ht : look s.slots t = some (.slice none 0 0)) (hB : look s.mem B = none) (hlo : loose B = true) (hsm : B < 1000000) (ks : List CK) (f : Nat → List Value) (e : TypeId) (nx : Nat) :
    ∃ R', Rel w0 n R' (St.f ⟨mapSlot t (.slice (some ⟨B, 0, none⟩) 0 0) s.slots, (B, ⟨.row ks 0 f, e, true⟩) :: s.mem, nx⟩) a w := by
  refine ⟨_, h.defers, h.size, ?_, MRel.nilRow h.m hB hsm ks f e⟩
  intro x u hx
  rcases look_mapSlot hx with ⟨rfl, rfl, _⟩ | ⟨_, h2⟩
  · obtain ⟨v', h3, h4⟩ := h.slot x _ ht
    have : v' = .slice none 0 0 := (V2_plain (v := .slice none 0 0) rfl).1 h4
    subst this
    refine ⟨_, h3, ⟨none, 0, 0⟩, .inr ⟨rfl, rfl⟩, ?_⟩
    unfold SlOk
    rw [if_pos hlo]
    exact ⟨rfl, rfl, Nat.le_refl _, rfl, rfl, none, rfl⟩
  · obtain ⟨v', h3, h4⟩ := h.slot x u h2
    exact ⟨v', h3, V2_mono (fun _ _ hp => .inl hp) h4⟩
end
theorem loopW {P : Program} [Laid P] {code : Code} {n : Nat} (C : Nat → Cfg) (N : Nat) (hC : ∀ k, k ≤ N → CfgOk P (C k) code) (hn : ∀ k, (C k).n = n) {p : List Nat} (hp : codeAt p code = some (.loop (loopAt p code))) {m : Nat} {ts : List Nat} {is : Ren} {tx : Nat} {nt et : Nat → List Nat} {ni ei : Nat → Ren} {nx ex : Nat} (st : Nat → St) {e : Exit} {s0 sf : St}
    (h0 : ∀ (w0 : Wb (lay P)) (R : Nat → Pl → Prop) (a : Act) (w : World), Rel w0 n R s0.f a w → ∃ R', Rel w0 n R' (st 0).f a w) (he : e ≠ .normal)
    (step : ∀ k, k < N → ∃ s, roundS (C k) m (p ++ [0]) (loopAt p code) (nt k) (ni k) nx (et k) (ei k) ex (st k) = some (.normal, s) ∧ stEq s (st (k + 1)) = true)
    (last : ∃ s, roundS (C N) m (p ++ [0]) (loopAt p code) (nt N) (ni N) nx (et N) (ei N) ex (st N) = some (e, s) ∧ stEq s sf = true) :
    LoopOk P n (loopAt p code) (atSt ts is tx s0 e sf) := by
  refine atSt_ok fun w0 R a w hrel => ?_
  obtain ⟨R, hrel⟩ := h0 w0 R a w hrel
  have hx : codeAt (p ++ [0]) code = some (loopAt p code) := by rw [codeAt_app, hp]; rfl
  have key : ∀ j, j ≤ N → ∀ (R : Nat → Pl → Prop) (a : Act) (w : World), Rel w0 n R (st (N - j)).f a w → Code.rounds P (loopAt p code) (fun e' a' w' => e' = e ∧ ∃ R', Rel w0 n R' sf.f a' w') (j + 1) a w := by
    intro j
    induction j with
    | zero =>
      intro _ R a w hr
      rw [rounds_succ]
      obtain ⟨s, h1, h2⟩ := last
      have hs := round_sound (hC N (Nat.le_refl _)) hx h1 (w0 := w0) (R := R) (a := a) (w := w) (by rw [hn]; exact hr)
      rw [hn] at hs
      refine wp_mono hs ?_
      rintro e' a' w' ⟨rfl, R', hr'⟩
      cases e' with
      | normal => exact absurd rfl he
      | _ => exact ⟨rfl, R', hr'.eqv h2⟩
    | succ j ih =>
      intro hj R a w hr
      rw [rounds_succ]
      obtain ⟨s, h1, h2⟩ := step (N - (j + 1)) (by omega)
      have hs := round_sound (hC (N - (j + 1)) (by omega)) hx h1 (w0 := w0) (R := R) (a := a) (w := w) (by rw [hn]; exact hr)
      rw [hn] at hs
      refine wp_mono hs ?_
      rintro e' a' w' ⟨rfl, R', hr'⟩
      refine ih (by omega) R' a' w' ?_
      rw [show N - j = N - (j + 1) + 1 from by omega]
      exact hr'.eqv h2
  exact wp_loop_rounds (N + 1) (key N (Nat.le_refl N) R a w (by rw [Nat.sub_self]; exact hrel))
end Go.W

namespace Go.W
def rdJ {α : Type} (k n : Nat) (x : Option α) : Option α := req (inR (k : Int) n) (req (Nat.blt k n && true && true) x)
theorem rdJ_eq {α : Type} {k n : Nat} (h : k < n) (x : Option α) : rdJ k n x = x := by unfold rdJ; rw [iR h, req_true rfl, bL h, req_true (b := true && true && true) rfl]
def bbA (f : Nat → List Value) (t : Int) (k : Nat) : Int := iAnd .i64 (bI f (0 + k)) (boM t)
section
variable {α : Type} (n m k : Nat) (f : Nat → List Value) (g : Nat → Nat × (Nat → List Value)) (t : Int)
def bbO (body ex : Option α) : Option α := bif decide ((k : Int) < (n : Int)) then body else bif decide ((k : Int) < (m : Int)) then body else ex
noncomputable def bbP (L : Nat) (F : Nat → List Value) (rf rt : Option α) (nx : Nat → (Nat → List Value) → Option α) (el : Option α) : Option α :=
  bif decide ((k : Int) < (m : Int)) then rdJ k m (bif decide ((((g k).1 : Nat) : Int) > 2000) then rt else rdJ k m (qPtp L (sgF L F) (g k).1 (sgF (g k).1 (g k).2) fun L2 E2 R2 => bif E2 != 0 then rf else nx L2 R2)) else el
noncomputable def bbT (L : Nat) (F : Nat → List Value) (rf rt : Option α) (one two prt : Nat → (Nat → List Value) → Option α) (no ex : Option α) : Option α :=
  bbO n m k (bif decide ((k : Int) < (n : Int)) then rdR k n (bif decide (IntKind.u64.wrap (IntKind.i64.wrap (8 * t)) < 0) then none else qPut L (sgF L F) (bbA f t k) t fun L1 E1 R1 => bif E1 != 0 then rf else bbP m k g L1 R1 rf rt two (one L1 R1)) else bbP m k g L F rf rt prt no) ex
noncomputable def bbU (L : Nat) (F : Nat → List Value) (a : Int) (rf nx : Int → Option α) : Option α :=
  bif decide ((k : Int) < (m : Int)) then qGtp L (sgF L F) a (fun L1 x e R1 => bif e != 0 then rf a else rdJ k m (qKb L1 (sgF L1 R1) (g k).1 (sgF (g k).1 (g k).2) fun o => bif !o then rf a else nx x)) else nx a
noncomputable def bbV (L : Nat) (F : Nat → List Value) (a : Int) (rf nx : Int → Option α) (ex : Option α) : Option α :=
  bbO n m k (bif decide ((k : Int) < (n : Int)) then qGet L (sgF L F) a t (fun u x e => bif e != 0 then rf a else rdR k n (bif decide (IntKind.u64.wrap (IntKind.i64.wrap (8 * t)) < 0) then none else bif u != bbA f t k then rf a else bif x != IntKind.i64.wrap (a + t) then rf a else bbU m k g L F x rf nx)) else bbU m k g L F a rf nx) ex
noncomputable def bb1 (L : Nat) (F : Nat → List Value) : Nat × (Nat → List Value) := if k < n then (pkL L (bbA f t k) t, pkR L (sgF L F) (bbA f t k) t) else (L, F)
noncomputable def bb2 (L : Nat) (F : Nat → List Value) : Nat × (Nat → List Value) := if k < m then (ppL L (g k).1, ppR L (sgF L F) (g k).1 (sgF (g k).1 (g k).2)) else (L, F)
end
noncomputable def bbS (n m : Nat) (f : Nat → List Value) (g : Nat → Nat × (Nat → List Value)) (t : Int) : Nat → Nat × (Nat → List Value)
  | 0 => (0, fun _ => [])
  | k + 1 => bb2 m k g (bb1 n k f t (bbS n m f g t k).1 (bbS n m f g t k).2).1 (bb1 n k f t (bbS n m f g t k).1 (bbS n m f g t k).2).2
section
variable {α : Type} {n m : Nat} {f : Nat → List Value} {g : Nat → Nat × (Nat → List Value)} {t : Nat}
theorem bbA_ok (h1 : 1 ≤ t) (h7 : t ≤ 7) (k : Nat) : pkOk (bbA f t k) t := by
  unfold bbA
  rw [boM_eq h7]
  obtain ⟨x, hx, e⟩ := and_low (bI f (0 + k)) (k := 8 * t) (by omega)
  rw [e]
  exact pk_nat h1 h7 hx
theorem bb1_len (h1 : 1 ≤ t) (h7 : t ≤ 7) (k L : Nat) (F : Nat → List Value) : (bb1 n k f t L F).1 = L + (if k < n then t else 0) := by
  unfold bb1
  by_cases h : k < n
  · rw [if_pos h, if_pos h]; exact pkL_ok (bbA_ok h1 h7 k)
  · rw [if_neg h, if_neg h]; rfl
theorem bb2_len (k L : Nat) (F : Nat → List Value) (hg : k < m → (g k).1 ≤ 2000) : (bb2 m k g L F).1 = L + (if k < m then 4 + (g k).1 else 0) := by
  unfold bb2
  by_cases h : k < m
  · rw [if_pos h, if_pos h]
    show ppL L (g k).1 = _
    rw [ppL_ok (by have := hg h; omega)]; omega
  · rw [if_neg h, if_neg h]; rfl
theorem bbS_len (h1 : 1 ≤ t) (h7 : t ≤ 7) (k : Nat) (hg : k < m → (g k).1 ≤ 2000) : (bbS n m f g t (k + 1)).1 = (bbS n m f g t k).1 + (if k < n then t else 0) + (if k < m then 4 + (g k).1 else 0) := by
  rw [bbS, bb2_len _ _ _ hg, bb1_len h1 h7]
theorem bbS_le (h1 : 1 ≤ t) (h7 : t ≤ 7) : ∀ k, (∀ j, j < k → j < m → (g j).1 ≤ 2000) → (bbS n m f g t k).1 ≤ 2011 * k
  | 0, _ => Nat.le_refl _
  | k + 1, hg => by
    have ih := bbS_le h1 h7 k fun j hj => hg j (by omega)
    rw [bbS_len h1 h7 k (hg k (by omega))]
    have e1 : (if k < n then t else 0) ≤ 7 := by split <;> omega
    have e2 : (if k < m then 4 + (g k).1 else 0) ≤ 2004 := by
      split
      · rename_i h; have := hg k (by omega) h; omega
      · omega
    omega
theorem bb1_old (k L : Nat) (F : Nat → List Value) {j : Nat} (hj : j < L) : bI (bb1 n k f t L F).2 j = bI F j := by
  unfold bb1
  split
  · show bI (pkR L (sgF L F) _ _) j = _
    rw [bI_pk]; unfold pkJ; rw [if_pos hj, bI_sg]
  · rfl
theorem bb2_old (k L : Nat) (F : Nat → List Value) {j : Nat} (hj : j < L) : bI (bb2 m k g L F).2 j = bI F j := by
  unfold bb2
  split
  · show bI (ppR L (sgF L F) _ _) j = _
    rw [bI_pp]; unfold ppJ pkJ; rw [if_pos (by omega), if_pos hj, bI_sg]
  · rfl
theorem bbS_old (h1 : 1 ≤ t) (h7 : t ≤ 7) (k : Nat) {j : Nat} (hj : j < (bbS n m f g t k).1) : bI (bbS n m f g t (k + 1)).2 j = bI (bbS n m f g t k).2 j := by
  rw [bbS, bb2_old _ _ _ (by rw [bb1_len h1 h7]; omega), bb1_old _ _ _ hj]
theorem bbS_mono (h1 : 1 ≤ t) (h7 : t ≤ 7) {k : Nat} : ∀ N, k ≤ N → (∀ j, j < N → j < m → (g j).1 ≤ 2000) → (bbS n m f g t k).1 ≤ (bbS n m f g t N).1 ∧ ∀ j, j < (bbS n m f g t k).1 → bI (bbS n m f g t N).2 j = bI (bbS n m f g t k).2 j
  | 0, h, _ => by obtain rfl : k = 0 := by omega
                  exact ⟨Nat.le_refl _, fun _ _ => rfl⟩
  | N + 1, h, hg => by
    by_cases e : k = N + 1
    · subst e; exact ⟨Nat.le_refl _, fun _ _ => rfl⟩
    · obtain ⟨i1, i2⟩ := bbS_mono (k := k) h1 h7 N (by omega) fun j hj => hg j (by omega)
      have hl := bbS_len (n := n) (f := f) h1 h7 N (hg N (by omega))
      refine ⟨by omega, fun j hj => ?_⟩
      rw [bbS_old (j := j) h1 h7 N (by omega), i2 j hj]
theorem bb1_byt (k L : Nat) (F : Nat → List Value) (hF : ∀ j, j < L → 0 ≤ bI F j ∧ bI F j < 256) {j : Nat} (hj : j < (bb1 n k f t L F).1) : 0 ≤ bI (bb1 n k f t L F).2 j ∧ bI (bb1 n k f t L F).2 j < 256 := by
  unfold bb1 at hj ⊢
  split at hj
  · rename_i h
    rw [if_pos h]
    exact pk_byt (fun j hj => by rw [bI_sg]; exact hF j hj) j
  · rename_i h
    rw [if_neg h]; exact hF j hj
theorem bb2_byt (k L : Nat) (F : Nat → List Value) (hg : ∀ j, 0 ≤ bI (g k).2 j ∧ bI (g k).2 j < 256) (hF : ∀ j, j < L → 0 ≤ bI F j ∧ bI F j < 256) {j : Nat} (hj : j < (bb2 m k g L F).1) : 0 ≤ bI (bb2 m k g L F).2 j ∧ bI (bb2 m k g L F).2 j < 256 := by
  unfold bb2 at hj ⊢
  split at hj
  · rename_i h
    rw [if_pos h]
    exact pp_byt (fun j hj => by rw [bI_sg]; exact hF j hj) (fun j _ => by rw [bI_sg]; exact hg j) (Nat.lt_of_lt_of_le hj (ppL_le _ _))
  · rename_i h
    rw [if_neg h]; exact hF j hj
theorem bbS_byt (hg : ∀ k j, 0 ≤ bI (g k).2 j ∧ bI (g k).2 j < 256) : ∀ k j, j < (bbS n m f g t k).1 → 0 ≤ bI (bbS n m f g t k).2 j ∧ bI (bbS n m f g t k).2 j < 256
  | 0, _, h => absurd h (Nat.not_lt_zero _)
  | k + 1, _, hj => bb2_byt k _ _ (hg k) (fun _ hj => bb1_byt k _ _ (fun j hj => bbS_byt hg k j hj) hj) hj
theorem bbP_eq {k L : Nat} {F : Nat → List Value} (hL : L ≤ 900000) (hg : k < m → (g k).1 ≤ 2000) (rf rt : Option α) (nx : Nat → (Nat → List Value) → Option α) (el : Option α) :
    bbP m k g L F rf rt nx el = if k < m then nx (bb2 m k g L F).1 (bb2 m k g L F).2 else el := by
  unfold bbP bb2
  by_cases h : k < m
  · have := hg h
    rw [if_pos h, if_pos h, decide_eq_true (by omega), cond_true, rdJ_eq h, decide_eq_false (by omega), cond_false, rdJ_eq h, qPtp_eq hL, ppE_ok (by omega)]; rfl
  · rw [if_neg h, decide_eq_false (by omega), cond_false]
theorem bbT_eq (h1 : 1 ≤ t) (h7 : t ≤ 7) {k L : Nat} {F : Nat → List Value} (hL : L ≤ 800000) (hg : k < m → (g k).1 ≤ 2000) (rf rt : Option α) (one two prt : Nat → (Nat → List Value) → Option α) (no ex : Option α) :
    bbT n m k f g t L F rf rt one two prt no ex = if k < n then (if k < m then two (bb2 m k g (bb1 n k f t L F).1 (bb1 n k f t L F).2).1 (bb2 m k g (bb1 n k f t L F).1 (bb1 n k f t L F).2).2 else one (bb1 n k f t L F).1 (bb1 n k f t L F).2)
      else if k < m then prt (bb2 m k g L F).1 (bb2 m k g L F).2 else ex := by
  have hl := bb1_len (n := n) (f := f) h1 h7 k L F
  unfold bbT bbO
  by_cases h : k < n
  · rw [if_pos h] at hl ⊢
    rw [decide_eq_true (by omega), cond_true, cond_true, rdR_eq h, sh8 h7, decide_eq_false (by omega), cond_false, qPut_eq (by omega), pkE_ok (bbA_ok h1 h7 k), show ((0 : Int) != 0) = false from rfl, cond_false]
    have e : bb1 n k f t L F = (pkL L (bbA f t k) t, pkR L (sgF L F) (bbA f t k) t) := by unfold bb1; rw [if_pos h]
    rw [e] at hl ⊢
    exact bbP_eq (by omega) hg _ _ _ _
  · rw [if_neg h, decide_eq_false (by omega), cond_false, cond_false]
    by_cases h2 : k < m
    · rw [decide_eq_true (by omega), cond_true, bbP_eq (by omega) hg, if_pos h2, if_pos h2]
    · rw [decide_eq_false (by omega), cond_false, if_neg h2]
theorem bbT_ret (h1 : 1 ≤ t) (h7 : t ≤ 7) {k L : Nat} {F : Nat → List Value} (hL : L ≤ 800000) (hm : k < m) (hg : 2000 < (g k).1) (rf rt : Option α) (one two prt : Nat → (Nat → List Value) → Option α) (no ex : Option α) :
    bbT n m k f g t L F rf rt one two prt no ex = rt := by
  have key : ∀ (L : Nat) (F : Nat → List Value) (nx : Nat → (Nat → List Value) → Option α) (el : Option α), bbP m k g L F rf rt nx el = rt := fun L F nx el => by
    unfold bbP
    rw [decide_eq_true (by omega), cond_true, rdJ_eq hm, decide_eq_true (by omega), cond_true]
  unfold bbT bbO
  rw [decide_eq_true (show (k : Int) < (m : Int) by omega), cond_true]
  by_cases h : k < n
  · rw [decide_eq_true (by omega), cond_true, cond_true, rdR_eq h, sh8 h7, decide_eq_false (by omega), cond_false, qPut_eq (by omega), pkE_ok (bbA_ok h1 h7 k), show ((0 : Int) != 0) = false from rfl, cond_false, key]
  · rw [decide_eq_false (by omega), cond_false, cond_false, key]
theorem bbU_eq {k N : Nat} (h1 : 1 ≤ t) (h7 : t ≤ 7) (hk : k < N) (hN : N ≤ 50) (hgl : ∀ j, j < N → j < m → (g j).1 ≤ 2000) (hg : ∀ k j, 0 ≤ bI (g k).2 j ∧ bI (g k).2 j < 256) (rf nx : Int → Option α) :
    bbU m k g (bbS n m f g t N).1 (bbS n m f g t N).2 ((bb1 n k f t (bbS n m f g t k).1 (bbS n m f g t k).2).1 : Nat) rf nx = nx ((bbS n m f g t (k + 1)).1 : Nat) := by
  have hle := bbS_le (n := n) (f := f) h1 h7 N hgl
  obtain ⟨hmo, hst⟩ := bbS_mono (n := n) (f := f) h1 h7 (k := k + 1) N (by omega) hgl
  have hy : okY (bbS n m f g t N).1 (sgF (bbS n m f g t N).1 (bbS n m f g t N).2) = true := okY_iff.2 fun j hj => by rw [bI_sg]; exact bbS_byt hg N j hj
  unfold bbU
  by_cases h : k < m
  · have hgk := hgl k hk h
    have e : bbS n m f g t (k + 1) = (ppL (bb1 n k f t (bbS n m f g t k).1 (bbS n m f g t k).2).1 (g k).1, ppR (bb1 n k f t (bbS n m f g t k).1 (bbS n m f g t k).2).1 (sgF (bb1 n k f t (bbS n m f g t k).1 (bbS n m f g t k).2).1 (bb1 n k f t (bbS n m f g t k).1 (bbS n m f g t k).2).2) (g k).1 (sgF (g k).1 (g k).2)) := by
      rw [bbS]; unfold bb2; rw [if_pos h]
    generalize bb1 n k f t (bbS n m f g t k).1 (bbS n m f g t k).2 = p at e ⊢
    obtain ⟨a, P⟩ := p
    rw [ppL_ok (by omega)] at e
    rw [e] at hmo hst ⊢
    simp only at hmo hst ⊢
    have hbt : ∀ j, j < a + 4 + (g k).1 → bI (sgF (bbS n m f g t N).1 (bbS n m f g t N).2) j = ppJ a (sgF a P) (g k).1 (sgF (g k).1 (g k).2) j := fun j hj => by
      rw [bI_sg, hst j hj, bI_pp]
    obtain ⟨e1, e2, e3⟩ := gp_at (m := (bbS n m f g t N).1) (f := sgF (bbS n m f g t N).1 (bbS n m f g t N).2) (a := a) (k := (g k).1) (by omega) hmo (fun j hj => by
      rw [hbt _ (by omega), ← bI_pp]; exact pp_head hj)
    rw [decide_eq_true (by omega), cond_true, qGtp_eq (by omega) hy, e1, e2, e3, show ((0 : Int) != 0) = false from rfl, cond_false, rdJ_eq h, qKb_eq (by omega), eqR_iff.2 ⟨rfl, fun j hj => ?_⟩, Bool.not_true, cond_false]
    · congr 1
    · rw [bI_sg, bI_sg, bI_gp, Int.toNat_natCast, hbt _ (by omega)]
      unfold ppJ
      rw [if_neg (by omega), bI_sg, show a + 4 + j - (a + 4) = j from by omega]
  · rw [decide_eq_false (by omega), cond_false]
    have e : bbS n m f g t (k + 1) = bb1 n k f t (bbS n m f g t k).1 (bbS n m f g t k).2 := by
      rw [bbS]; unfold bb2; rw [if_neg h]
    rw [e]
theorem bbV_eq {k N : Nat} (h1 : 1 ≤ t) (h7 : t ≤ 7) (hk : k < N) (hN : N ≤ 50) (hnm : k < n ∨ k < m) (hgl : ∀ j, j < N → j < m → (g j).1 ≤ 2000) (hg : ∀ k j, 0 ≤ bI (g k).2 j ∧ bI (g k).2 j < 256) (rf nx : Int → Option α) (ex : Option α) :
    bbV n m k f g t (bbS n m f g t N).1 (bbS n m f g t N).2 ((bbS n m f g t k).1 : Nat) rf nx ex = nx ((bbS n m f g t (k + 1)).1 : Nat) := by
  have hle := bbS_le (n := n) (f := f) h1 h7 N hgl
  obtain ⟨hmo, hst⟩ := bbS_mono (n := n) (f := f) h1 h7 (k := k + 1) N (by omega) hgl
  have hu := bbU_eq (α := α) (n := n) (f := f) h1 h7 hk hN hgl hg rf nx
  have hl := bb1_len (n := n) (f := f) h1 h7 k (bbS n m f g t k).1 (bbS n m f g t k).2
  have hlen := bbS_len (n := n) (f := f) h1 h7 k (hgl k hk)
  have hy : okY (bbS n m f g t N).1 (sgF (bbS n m f g t N).1 (bbS n m f g t N).2) = true := okY_iff.2 fun j hj => by rw [bI_sg]; exact bbS_byt hg N j hj
  unfold bbV bbO
  have hbody : ∀ x y : Option α, (bif decide ((k : Int) < (n : Int)) then x else bif decide ((k : Int) < (m : Int)) then x else y) = x := fun x y => by
    rcases hnm with h | h
    · rw [decide_eq_true (by omega), cond_true]
    · rw [decide_eq_true (show (k : Int) < (m : Int) by omega), cond_true]
      cases decide ((k : Int) < (n : Int)) <;> rfl
  rw [hbody]
  by_cases h : k < n
  · rw [if_pos h] at hl hlen
    have hb : ∀ j, j < t → bI (sgF (bbS n m f g t N).1 (bbS n m f g t N).2) ((bbS n m f g t k).1 + j) = ((pkY (bbA f t k) t j : Nat) : Int) := fun j hj => by
      rw [bI_sg, hst _ (by omega), bbS, bb2_old _ _ _ (by omega)]
      unfold bb1
      rw [if_pos h]
      exact pk_head j
    obtain ⟨e1, e2, e3⟩ := gt_at (m := (bbS n m f g t N).1) (f := sgF (bbS n m f g t N).1 (bbS n m f g t N).2) (a := (bbS n m f g t k).1) (bbA_ok (f := f) h1 h7 k) (by rw [Int.toNat_natCast]; omega) (by rw [Int.toNat_natCast]; exact hb)
    rw [decide_eq_true (by omega), cond_true, qGet_eq (by omega) hy, e1, e2, e3, show ((0 : Int) != 0) = false from rfl, cond_false, rdR_eq h, sh8 h7, decide_eq_false (by omega), cond_false, bne_self', cond_false, wrap_i64 (by omega), bne_self', cond_false,
      show (((bbS n m f g t k).1 : Nat) : Int) + (t : Int) = (((bb1 n k f t (bbS n m f g t k).1 (bbS n m f g t k).2).1 : Nat) : Int) from by omega, hu]
  · rw [if_neg h] at hl
    rw [decide_eq_false (by omega), cond_false, show (bbS n m f g t k).1 = (bb1 n k f t (bbS n m f g t k).1 (bbS n m f g t k).2).1 from by omega, hu]
theorem bbV_out {k L : Nat} {F : Nat → List Value} {a : Int} (h : ¬ k < n) (h2 : ¬ k < m) (t : Int) (rf nx : Int → Option α) (ex : Option α) : bbV n m k f g t L F a rf nx ex = ex := by
  unfold bbV bbO
  rw [decide_eq_false (show ¬ ((k : Int) < (n : Int)) by omega), decide_eq_false (show ¬ ((k : Int) < (m : Int)) by omega)]; rfl
noncomputable def bbX {α : Type} (n m k : Nat) (f : Nat → List Value) (g : Nat → Nat × (Nat → List Value)) (t : Int) (L : Nat) (F : Nat → List Value) (rt ex : Option α) : Option α :=
  bbO n m k (bif decide ((k : Int) < (n : Int)) then rdR k n (bif decide (IntKind.u64.wrap (IntKind.i64.wrap (8 * t)) < 0) then none else qPut L (sgF L F) (bbA f t k) t fun L1 E1 R1 => bif E1 != 0 then none else bbP m k g L1 R1 none none (fun _ _ => none) none) else bbP m k g L F none rt (fun _ _ => none) none) ex
theorem bbX_out {k L : Nat} {F : Nat → List Value} (h : ¬ k < n) (h2 : ¬ k < m) (t : Int) (rt ex : Option α) : bbX n m k f g t L F rt ex = ex := by
  unfold bbX bbO
  rw [decide_eq_false (show ¬ ((k : Int) < (n : Int)) by omega), decide_eq_false (show ¬ ((k : Int) < (m : Int)) by omega)]; rfl
theorem first_long {m N : Nat} {g : Nat → Nat × (Nat → List Value)} (h : ¬ ∀ j, j < N → j < m → (g j).1 ≤ 2000) : ∃ k, k < N ∧ k < m ∧ 2000 < (g k).1 ∧ ∀ j, j < k → j < m → (g j).1 ≤ 2000 := by
  induction N with
  | zero => exact absurd (fun j hj => absurd hj (Nat.not_lt_zero j)) h
  | succ N ih =>
    by_cases hN : ∀ j, j < N → j < m → (g j).1 ≤ 2000
    · refine ⟨N, by omega, ?_⟩
      by_cases hm : N < m
      · by_cases hg : 2000 < (g N).1
        · exact ⟨hm, hg, hN⟩
        · exact absurd (fun j hj hjm => by
            by_cases e : j = N
            · subst e; omega
            · exact hN j (by omega) hjm) h
      · exact absurd (fun j hj hjm => hN j (by omega) hjm) h
    · obtain ⟨k, h1, h2, h3, h4⟩ := ih hN
      exact ⟨k, by omega, h2, h3, h4⟩
end
theorem SrcW.arg {w : World} {ks : List CK} {n : Nat} {g : Nat → List Value} {v' : Value} (h : SrcW w ks n g v') : ∃ (p : Pl) (e : TypeId), n ≤ p.c ∧ (match p.a with
      | some b => v' = .slice (some ⟨b, p.d, none⟩) n p.c ∧ ∃ cs fz, w.heap[b]? = some (.cells cs e fz) ∧ (cs.toList.drop p.d).take (n * ks.length) = rowL ks g 0 n
      | none => n = 0 ∧ p.c = 0 ∧ p.d = 0 ∧ Emp v') := by
  obtain ⟨p, e, h1, h2⟩ := h
  refine ⟨p, e, h1, ?_⟩
  cases hpa : p.a with
  | none => rw [hpa] at h2; exact h2
  | some b =>
    rw [hpa] at h2
    obtain ⟨k1, cs, fz, k2, k3⟩ := h2
    refine ⟨k1, cs, fz, k2, ?_⟩
    have := (LR_plain (r := V0 fun _ _ => False) (pl := pl0) (fun _ _ hv => V0_plain hv) (rowL_pl ks g n 0)).1 k3
    rw [rowL_len] at this; exact this
end Go.W

namespace Go.Proofs.Ytkgkdjecmnhdmaa
set_option maxRecDepth 100000
open Go.W
open Go.RowKit (Below)
noncomputable def bbaS : Sums := [(8, PutF 5), (14, PtpF 5), (12, GetF), (16, GtpF 5), (10, KbF), (18, Wk10F)]
theorem bbaS_ok : SumsOk Try.prog bbaS := sums_consM put_msum (sums_consM ptp_msum (sums_consM get_msum (sums_consM gtp_msum (sums_consM kb_msum (sums_cons wk10_sum sums_nil)))))
noncomputable def bbaC0 : Cfg := ⟨tab, bbaS, 164, []⟩
theorem bbaOk0 : CfgOk Try.prog bbaC0 (bodyOf Try.f4) := ⟨mixed, tabOk, bbaS_ok, noL⟩
theorem bba_at1 : codeAt [1, 1, 1, 1, 1, 0, 1, 0] (bodyOf Try.f4) = some (.loop (loopAt [1, 1, 1, 1, 1, 0, 1, 0] (bodyOf Try.f4))) := by kernel_rfl
theorem bba_at2 : codeAt [1, 1, 1, 1, 1, 1, 1, 0, 1, 0] (bodyOf Try.f4) = some (.loop (loopAt [1, 1, 1, 1, 1, 1, 1, 0, 1, 0] (bodyOf Try.f4))) := by kernel_rfl
def bbaB : Nat := nid 60 0
def bbaNt : List Nat := [0, 1, 2, 7, 9]
def bbaXt : List Nat := [0, 1, 2, 7]
def bbaN (b : Nat) : Ren := [(bbaB, b), (1500000, 1500000), (1500001, 1500001)]
def bbaSt (n m : Nat) (f : Nat → List Value) (g : Nat → Nat × (Nat → List Value)) (er : Nat → Nat) (e0 e1 : Nat) (t : Int) (L : Nat) (F : Nat → List Value) (k : Int) : St :=
  ⟨[(0, aSl 0 n), (1, aSl 1 m), (2, i64 t), (7, .slice (some ⟨bbaB, 0, none⟩) L L), (9, i64 k)], [(bbaB, ⟨.row kB L F, 5, true⟩), (1500000, ⟨.row kI1 n f, e0, false⟩), (1500001, ⟨.fam kB m er g, e1, false⟩)], 30⟩
def bbaE (n m : Nat) (f : Nat → List Value) (g : Nat → Nat × (Nat → List Value)) (er : Nat → Nat) (e0 e1 : Nat) (t : Int) (L : Nat) (F : Nat → List Value) : St :=
  ⟨[(0, aSl 0 n), (1, aSl 1 m), (2, i64 t), (7, .slice (some ⟨bbaB, 0, none⟩) L L)], [(bbaB, ⟨.row kB L F, 5, true⟩), (1500000, ⟨.row kI1 n f, e0, false⟩), (1500001, ⟨.fam kB m er g, e1, false⟩)], 30⟩
def bbaZ (b : Bool) : St := ⟨[(6, .bool b)], [], 30⟩
def bbaI (n m : Nat) (f : Nat → List Value) (g : Nat → Nat × (Nat → List Value)) (er : Nat → Nat) (e0 e1 : Nat) (t : Int) : St :=
  ⟨[(0, aSl 0 n), (1, aSl 1 m), (2, i64 t), (7, .slice none 0 0), (9, i64 0)], [(1500000, ⟨.row kI1 n f, e0, false⟩), (1500001, ⟨.fam kB m er g, e1, false⟩)], 30⟩
section
variable (n m : Nat) (f : Nat → List Value) (g : Nat → Nat × (Nat → List Value)) (er : Nat → Nat) (e0 e1 : Nat) (t : Int) (L : Nat) (F : Nat → List Value) (k : Nat)
theorem bba_rB : roundS bbaC0 60 [1, 1, 1, 1, 1, 0, 1, 0, 0] (loopAt [1, 1, 1, 1, 1, 0, 1, 0] (bodyOf Try.f4)) bbaNt (bbaN (nid 79 0)) 30 [99] (bbaN bbaB) 30 (bbaSt n m f g er e0 e1 t L F (k : Int)) =
    bbT n m k f g t L F none none (fun _ _ => none) (fun L F => some (.normal, bbaSt n m f g er e0 e1 t L F (IntKind.i64.wrap ((k : Int) + 1)))) (fun _ _ => none) none none := by kernel_rfl
theorem bba_rN : roundS bbaC0 60 [1, 1, 1, 1, 1, 0, 1, 0, 0] (loopAt [1, 1, 1, 1, 1, 0, 1, 0] (bodyOf Try.f4)) bbaNt (bbaN (nid 56 0)) 30 [99] (bbaN bbaB) 30 (bbaSt n m f g er e0 e1 t L F (k : Int)) =
    bbT n m k f g t L F none none (fun L F => some (.normal, bbaSt n m f g er e0 e1 t L F (IntKind.i64.wrap ((k : Int) + 1)))) (fun _ _ => none) (fun _ _ => none) none none := by kernel_rfl
theorem bba_rP : roundS bbaC0 60 [1, 1, 1, 1, 1, 0, 1, 0, 0] (loopAt [1, 1, 1, 1, 1, 0, 1, 0] (bodyOf Try.f4)) bbaNt (bbaN (nid 59 0)) 30 [99] (bbaN bbaB) 30 (bbaSt n m f g er e0 e1 t L F (k : Int)) =
    bbT n m k f g t L F none none (fun _ _ => none) (fun _ _ => none) (fun L F => some (.normal, bbaSt n m f g er e0 e1 t L F (IntKind.i64.wrap ((k : Int) + 1)))) none none := by kernel_rfl
theorem bba_rZ : roundS bbaC0 60 [1, 1, 1, 1, 1, 0, 1, 0, 0] (loopAt [1, 1, 1, 1, 1, 0, 1, 0] (bodyOf Try.f4)) [99] (bbaN bbaB) 30 [6] [] 30 (bbaSt n m f g er e0 e1 t L F (k : Int)) =
    bbT n m k f g t L F (some (.ret, bbaZ false)) (some (.ret, bbaZ true)) (fun _ _ => none) (fun _ _ => none) (fun _ _ => none) none none := by kernel_rfl
theorem bba_rX : roundS bbaC0 60 [1, 1, 1, 1, 1, 0, 1, 0, 0] (loopAt [1, 1, 1, 1, 1, 0, 1, 0] (bodyOf Try.f4)) [99] (bbaN bbaB) 30 bbaXt (bbaN bbaB) 30 (bbaSt n m f g er e0 e1 t L F (k : Int)) =
    bbX n m k f g t L F (some (.ret, bbaE n m f g er e0 e1 t L F)) (some (.exit 0, bbaE n m f g er e0 e1 t L F)) := by kernel_rfl
end
def bbaR (n m k : Nat) : Ren := if k < n then (if k < m then bbaN (nid 79 0) else bbaN (nid 56 0)) else bbaN (nid 59 0)
section
variable {n m : Nat} {f : Nat → List Value} {g : Nat → Nat × (Nat → List Value)} {er : Nat → Nat} {e0 e1 t : Nat}
theorem bba_step (h1 : 1 ≤ t) (h7 : t ≤ 7) {k : Nat} (hk : k < n ∨ k < m) (h50 : k ≤ 50) (hgl : ∀ j, j < k + 1 → j < m → (g j).1 ≤ 2000) : roundS bbaC0 60 [1, 1, 1, 1, 1, 0, 1, 0, 0] (loopAt [1, 1, 1, 1, 1, 0, 1, 0] (bodyOf Try.f4)) bbaNt (bbaR n m k) 30 [99] (bbaN bbaB) 30 (bbaSt n m f g er e0 e1 t (bbS n m f g t k).1 (bbS n m f g t k).2 (k : Int)) =
    some (.normal, bbaSt n m f g er e0 e1 t (bbS n m f g t (k + 1)).1 (bbS n m f g t (k + 1)).2 ((k + 1 : Nat) : Int)) := by
  have hle := bbS_le (n := n) (f := f) h1 h7 k fun j hj => hgl j (by omega)
  have hw : IntKind.i64.wrap ((k : Int) + 1) = ((k + 1 : Nat) : Int) := wrap_i64 (by omega)
  unfold bbaR
  by_cases hn : k < n
  · rw [if_pos hn]
    by_cases hm : k < m
    · rw [if_pos hm, bba_rB, bbT_eq h1 h7 (by omega) (hgl k (by omega)), if_pos hn, if_pos hm, hw]; rfl
    · rw [if_neg hm, bba_rN, bbT_eq h1 h7 (by omega) (hgl k (by omega)), if_pos hn, if_neg hm, hw, bbS]
      unfold bb2; rw [if_neg hm]
  · have hm : k < m := hk.resolve_left hn
    rw [if_neg hn, bba_rP, bbT_eq h1 h7 (by omega) (hgl k (by omega)), if_neg hn, if_pos hm, hw, bbS]
    unfold bb1; rw [if_neg hn]
theorem bba_start (w0 : Wb (lay Try.prog)) (R : Nat → Pl → Prop) (a : Act) (w : World) (h : Rel w0 164 R (bbaI n m f g er e0 e1 t).f a w) : ∃ R', Rel w0 164 R' (bbaSt n m f g er e0 e1 t (bbS n m f g t 0).1 (bbS n m f g t 0).2 ((0 : Nat) : Int)).f a w :=
  Rel.nilSlot h (t := 7) (B := bbaB) rfl rfl (by decide) (by decide) kB (fun _ => []) 5 30
theorem bba_loop (h1 : 1 ≤ t) (h7 : t ≤ 7) (hn : n ≤ 50) (hm : m ≤ 50) (hgl : ∀ j, j < max n m → j < m → (g j).1 ≤ 2000) : LoopOk Try.prog 164 (loopAt [1, 1, 1, 1, 1, 0, 1, 0] (bodyOf Try.f4)) (atSt bbaNt [(1500000, 1500000), (1500001, 1500001)] 30 (bbaI n m f g er e0 e1 t) (.exit 0) (bbaE n m f g er e0 e1 t (bbS n m f g t (max n m)).1 (bbS n m f g t (max n m)).2)) := by
  refine loopW (fun _ => bbaC0) (max n m) (fun _ _ => bbaOk0) (fun _ => rfl) bba_at1 (m := 60) (nt := fun k => if k < max n m then bbaNt else [99]) (ni := fun k => if k < max n m then bbaR n m k else bbaN bbaB) (et := fun k => if k < max n m then [99] else bbaXt) (ei := fun _ => bbaN bbaB) (nx := 30) (ex := 30) (fun k => bbaSt n m f g er e0 e1 t (bbS n m f g t k).1 (bbS n m f g t k).2 (k : Int)) bba_start (by intro h; cases h) ?_ ?_
  · intro k hk
    refine ⟨_, ?_, stEq_refl rfl⟩
    rw [if_pos hk, if_pos hk, if_pos hk]
    exact bba_step h1 h7 (by omega) (by omega) (fun j hj => hgl j (by omega))
  · refine ⟨_, ?_, stEq_refl rfl⟩
    rw [if_neg (Nat.lt_irrefl _), if_neg (Nat.lt_irrefl _), if_neg (Nat.lt_irrefl _)]
    refine (bba_rX _ _ _ _ _ _ _ _ _ _ _).trans ?_
    rw [bbX_out (by omega) (by omega)]
theorem bba_long (h1 : 1 ≤ t) (h7 : t ≤ 7) {k0 : Nat} (h50 : k0 ≤ 50) (hm : k0 < m) (hg0 : 2000 < (g k0).1) (hgl : ∀ j, j < k0 → j < m → (g j).1 ≤ 2000) : LoopOk Try.prog 164 (loopAt [1, 1, 1, 1, 1, 0, 1, 0] (bodyOf Try.f4)) (atSt bbaNt [(1500000, 1500000), (1500001, 1500001)] 30 (bbaI n m f g er e0 e1 t) .ret (bbaZ true)) := by
  refine loopW (fun _ => bbaC0) k0 (fun _ _ => bbaOk0) (fun _ => rfl) bba_at1 (m := 60) (nt := fun k => if k < k0 then bbaNt else [99]) (ni := fun k => if k < k0 then bbaR n m k else bbaN bbaB) (et := fun k => if k < k0 then [99] else [6]) (ei := fun k => if k < k0 then bbaN bbaB else []) (nx := 30) (ex := 30) (fun k => bbaSt n m f g er e0 e1 t (bbS n m f g t k).1 (bbS n m f g t k).2 (k : Int)) bba_start (by intro h; cases h) ?_ ?_
  · intro k hk
    refine ⟨_, ?_, stEq_refl rfl⟩
    rw [if_pos hk, if_pos hk, if_pos hk, if_pos hk]
    exact bba_step h1 h7 (.inr (by omega)) (by omega) (fun j hj => hgl j (by omega))
  · refine ⟨bbaZ true, ?_, stEq_refl rfl⟩
    have hle := bbS_le (n := n) (f := f) h1 h7 k0 hgl
    rw [if_neg (Nat.lt_irrefl _), if_neg (Nat.lt_irrefl _), if_neg (Nat.lt_irrefl _), if_neg (Nat.lt_irrefl _)]
    refine (bba_rZ _ _ _ _ _ _ _ _ _ _ _).trans ?_
    rw [bbT_ret h1 h7 (by omega) hm hg0]
end
def bbcNt : List Nat := [0, 1, 2, 7, 10, 11]
def bbcSt (n m : Nat) (f : Nat → List Value) (g : Nat → Nat × (Nat → List Value)) (er : Nat → Nat) (e0 e1 : Nat) (t : Int) (L : Nat) (F : Nat → List Value) (a k : Int) : St :=
  ⟨[(0, aSl 0 n), (1, aSl 1 m), (2, i64 t), (7, .slice (some ⟨bbaB, 0, none⟩) L L), (10, i64 a), (11, i64 k)], [(bbaB, ⟨.row kB L F, 5, true⟩), (1500000, ⟨.row kI1 n f, e0, false⟩), (1500001, ⟨.fam kB m er g, e1, false⟩)], 100⟩
def bbcE (L : Nat) (F : Nat → List Value) (a : Int) : St := ⟨[(7, .slice (some ⟨bbaB, 0, none⟩) L L), (10, i64 a)], [(bbaB, ⟨.row kB L F, 5, true⟩)], 100⟩
section
variable (n m : Nat) (f : Nat → List Value) (g : Nat → Nat × (Nat → List Value)) (er : Nat → Nat) (e0 e1 : Nat) (t : Int) (L : Nat) (F : Nat → List Value) (a : Int) (k : Nat)
theorem bbc_r : roundS bbaC0 60 [1, 1, 1, 1, 1, 1, 1, 0, 1, 0, 0] (loopAt [1, 1, 1, 1, 1, 1, 1, 0, 1, 0] (bodyOf Try.f4)) bbcNt (bbaN bbaB) 100 [99] [] 100 (bbcSt n m f g er e0 e1 t L F a (k : Int)) =
    bbV n m k f g t L F a (fun _ => none) (fun a => some (.normal, bbcSt n m f g er e0 e1 t L F a (IntKind.i64.wrap ((k : Int) + 1)))) none := by kernel_rfl
theorem bbc_x : roundS bbaC0 60 [1, 1, 1, 1, 1, 1, 1, 0, 1, 0, 0] (loopAt [1, 1, 1, 1, 1, 1, 1, 0, 1, 0] (bodyOf Try.f4)) [99] [] 100 [7, 10] [(bbaB, bbaB)] 100 (bbcSt n m f g er e0 e1 t L F a (k : Int)) =
    bbV n m k f g t L F a (fun a => some (.ret, bbcE L F a)) (fun _ => none) (some (.exit 2, bbcE L F a)) := by kernel_rfl
end
theorem bbc_loop {n m : Nat} {f : Nat → List Value} {g : Nat → Nat × (Nat → List Value)} {er : Nat → Nat} {e0 e1 t : Nat} (h1 : 1 ≤ t) (h7 : t ≤ 7) (hn : n ≤ 50) (hm : m ≤ 50) (hgl : ∀ j, j < max n m → j < m → (g j).1 ≤ 2000) (hg : ∀ k j, 0 ≤ bI (g k).2 j ∧ bI (g k).2 j < 256) :
    LoopOk Try.prog 164 (loopAt [1, 1, 1, 1, 1, 1, 1, 0, 1, 0] (bodyOf Try.f4)) (atSt bbcNt (bbaN bbaB) 100 (bbcSt n m f g er e0 e1 t (bbS n m f g t (max n m)).1 (bbS n m f g t (max n m)).2 0 0) (.exit 2) (bbcE (bbS n m f g t (max n m)).1 (bbS n m f g t (max n m)).2 ((bbS n m f g t (max n m)).1 : Nat))) := by
  refine loopW (fun _ => bbaC0) (max n m) (fun _ _ => bbaOk0) (fun _ => rfl) bba_at2 (m := 60) (nt := fun k => if k < max n m then bbcNt else [99]) (ni := fun k => if k < max n m then bbaN bbaB else []) (et := fun k => if k < max n m then [99] else [7, 10]) (ei := fun k => if k < max n m then [] else [(bbaB, bbaB)]) (nx := 100) (ex := 100) (fun k => bbcSt n m f g er e0 e1 t (bbS n m f g t (max n m)).1 (bbS n m f g t (max n m)).2 ((bbS n m f g t k).1 : Nat) (k : Int)) (fun _ R _ _ h => ⟨R, h⟩) (by intro h; cases h) ?_ ?_
  · intro k hk
    refine ⟨_, ?_, stEq_refl rfl⟩
    rw [if_pos hk, if_pos hk, if_pos hk, if_pos hk]
    refine (bbc_r _ _ _ _ _ _ _ _ _ _ _ _).trans ?_
    rw [bbV_eq h1 h7 hk (by omega) (by omega) hgl hg, wrap_i64 (by omega)]; rfl
  · refine ⟨_, ?_, stEq_refl rfl⟩
    rw [if_neg (Nat.lt_irrefl _), if_neg (Nat.lt_irrefl _), if_neg (Nat.lt_irrefl _), if_neg (Nat.lt_irrefl _)]
    refine (bbc_x _ _ _ _ _ _ _ _ _ _ _ _).trans ?_
    rw [bbV_out (by omega) (by omega)]
noncomputable def bbaC (n m : Nat) (f : Nat → List Value) (g : Nat → Nat × (Nat → List Value)) (er : Nat → Nat) (e0 e1 : Nat) (t : Int) (L : Nat) (F : Nat → List Value) (a : Int) : Cfg :=
  ⟨tab, bbaS, 164, [([1, 1, 1, 1, 1, 0, 1, 0], atSt bbaNt [(1500000, 1500000), (1500001, 1500001)] 30 (bbaI n m f g er e0 e1 t) (.exit 0) (bbaE n m f g er e0 e1 t L F)), ([1, 1, 1, 1, 1, 1, 1, 0, 1, 0], atSt bbcNt (bbaN bbaB) 100 (bbcSt n m f g er e0 e1 t L F 0 0) (.exit 2) (bbcE L F a))]⟩
noncomputable def bbaD (n m : Nat) (f : Nat → List Value) (g : Nat → Nat × (Nat → List Value)) (er : Nat → Nat) (e0 e1 : Nat) (t : Int) : Cfg :=
  ⟨tab, bbaS, 164, [([1, 1, 1, 1, 1, 0, 1, 0], atSt bbaNt [(1500000, 1500000), (1500001, 1500001)] 30 (bbaI n m f g er e0 e1 t) .ret (bbaZ true))]⟩
theorem bba_ev (n m : Nat) (f : Nat → List Value) (g : Nat → Nat × (Nat → List Value)) (s t : Int) (L : Nat) (F : Nat → List Value) (a : Int) (es : Nat → Nat) (er : Nat → Nat → Nat) : fnA (bbaC n m f g (er 1) (es 0) (es 1) t L F a) 60 Try.f4 (bodyOf Try.f4) (cArgsF [.sl kI1 n f, .fm kB m g, .pl (i64 s)] 0) (cMemF es er [.sl kI1 n f, .fm kB m g, .pl (i64 s)] 0) 0 =
    bif decide ((n : Int) > 50) then tru10 else bif decide ((m : Int) > 50) then tru10 else req (stEq (bbaI n m f g (er 1) (es 0) (es 1) (boS s)) (bbaI n m f g (er 1) (es 0) (es 1) t)) (req (stEq (bbcSt n m f g (er 1) (es 0) (es 1) t L F 0 0) (bbcSt n m f g (er 1) (es 0) (es 1) t L F 0 0)) (bif a == (L : Int) then tru10 else fls10)) := by kernel_rfl
theorem bba_evN (n m : Nat) (f : Nat → List Value) (g : Nat → Nat × (Nat → List Value)) (s : Int) (es : Nat → Nat) (er : Nat → Nat → Nat) : fnA ⟨tab, bbaS, 164, [([1, 1, 1, 1, 1, 0, 1, 0], fun _ => [])]⟩ 60 Try.f4 (bodyOf Try.f4) (cArgsF [.sl kI1 n f, .fm kB m g, .pl (i64 s)] 0) (cMemF es er [.sl kI1 n f, .fm kB m g, .pl (i64 s)] 0) 0 =
    bif decide ((n : Int) > 50) then tru10 else bif decide ((m : Int) > 50) then tru10 else none := by kernel_rfl
theorem bba_evD (n m : Nat) (f : Nat → List Value) (g : Nat → Nat × (Nat → List Value)) (s t : Int) (es : Nat → Nat) (er : Nat → Nat → Nat) : fnA (bbaD n m f g (er 1) (es 0) (es 1) t) 60 Try.f4 (bodyOf Try.f4) (cArgsF [.sl kI1 n f, .fm kB m g, .pl (i64 s)] 0) (cMemF es er [.sl kI1 n f, .fm kB m g, .pl (i64 s)] 0) 0 =
    bif decide ((n : Int) > 50) then tru10 else bif decide ((m : Int) > 50) then tru10 else req (stEq (bbaI n m f g (er 1) (es 0) (es 1) (boS s)) (bbaI n m f g (er 1) (es 0) (es 1) t)) tru10 := by kernel_rfl
theorem bba_calls {n : Nat} {f : Nat → List Value} {m : Nat} {g : Nat → Nat × (Nat → List Value)} {s : Int} {args' : List Value} {W : World} {es : Nat → TypeId} {er : Nat → Nat → TypeId} {pl : Nat → Option Pl} (hu : ∀ j i, ∃ x : Nat, x < 256 ∧ (g j).2 i = [.int .u8 (x : Int)]) (hW : ArgsW W es er pl [.sl kI1 n f, .fm kB m g, .pl (i64 s)] args' 0) :
    Calls Try.prog 4 args'.toArray W fun e W' => e = .returned (.bool true) ∧ Below W.heap.size W W' := by
  have hg : ∀ k j, 0 ≤ bI (g k).2 j ∧ bI (g k).2 j < 256 := fun k j => by
    obtain ⟨x, hx, e⟩ := hu k j
    unfold bI; rw [e]; show 0 ≤ ((x : Nat) : Int) ∧ ((x : Nat) : Int) < 256; omega
  refine lawF_sound (c := bodyOf Try.f4) (fuel := 60) (next := 0) Try.func4 (by kernel_rfl) hW (GOk_nil _) (by show 3 ≤ Try.f4.ntmps; decide +kernel) rfl nofun fun es er => ?_
  obtain ⟨t, h1, h7, hs⟩ := boS_eq s
  by_cases hn : (n : Int) > 50
  · refine ⟨⟨tab, bbaS, 164, [([1, 1, 1, 1, 1, 0, 1, 0], fun _ => [])]⟩, ⟨mixed, tabOk, bbaS_ok, noneL2⟩, rfl, ?_⟩
    refine (bba_evN n m f g s es er).trans ?_
    rw [decide_eq_true hn]; rfl
  by_cases hm : (m : Int) > 50
  · refine ⟨⟨tab, bbaS, 164, [([1, 1, 1, 1, 1, 0, 1, 0], fun _ => [])]⟩, ⟨mixed, tabOk, bbaS_ok, noneL2⟩, rfl, ?_⟩
    refine (bba_evN n m f g s es er).trans ?_
    rw [decide_eq_false hn, decide_eq_true hm]; rfl
  by_cases hgl : ∀ j, j < max n m → j < m → (g j).1 ≤ 2000
  · refine ⟨bbaC n m f g (er 1) (es 0) (es 1) t (bbS n m f g t (max n m)).1 (bbS n m f g t (max n m)).2 ((bbS n m f g t (max n m)).1 : Nat), ⟨mixed, tabOk, bbaS_ok, consL (bba_loop h1 h7 (by omega) (by omega) hgl) (oneL (bbc_loop h1 h7 (by omega) (by omega) hgl hg))⟩, rfl, ?_⟩
    refine (bba_ev n m f g s t _ _ _ es er).trans ?_
    rw [decide_eq_false hn, decide_eq_false hm, hs, req_true (stEq_refl rfl), req_true (stEq_refl rfl), show ((((bbS n m f g t (max n m)).1 : Nat) : Int) == (((bbS n m f g t (max n m)).1 : Nat) : Int)) = true from beq_self_eq_true _]; rfl
  · obtain ⟨k, h2, h3, h4, h5⟩ := first_long hgl
    refine ⟨bbaD n m f g (er 1) (es 0) (es 1) t, ⟨mixed, tabOk, bbaS_ok, oneL (bba_long h1 h7 (by omega) h3 h4 h5)⟩, rfl, ?_⟩
    refine (bba_evD n m f g s t es er).trans ?_
    rw [decide_eq_false hn, decide_eq_false hm, hs, req_true (stEq_refl rfl)]; rfl
theorem bbk_calls {n : Nat} {f : Nat → List Value} {m : Nat} {g : Nat → Nat × (Nat → List Value)} {s : Int} {q : Pl} {et : TypeId} {er : Nat → TypeId} {v u : Value} {W : World} (hv : SrcW W kI1 n f v) (hw : FamW W et kB m er g q u) (hu : ∀ j i, ∃ x : Nat, x < 256 ∧ (g j).2 i = [.int .u8 (x : Int)]) :
    Calls Try.prog 4 #[v, u, .int .i64 s] W fun e W' => e = .returned (.bool true) ∧ Below W.heap.size W W' := by
  obtain ⟨p, e, h1, h2⟩ := hv.arg
  exact bba_calls (args' := [v, u, .int .i64 s]) (es := fun k => if k = 0 then e else et) (er := fun _ => er) (pl := fun k => if k = 0 then some p else some q) hu ⟨⟨p, rfl, h1, h2⟩, ⟨q, rfl, hw⟩, rfl, rfl, trivial⟩
end Go.Proofs.Ytkgkdjecmnhdmaa
