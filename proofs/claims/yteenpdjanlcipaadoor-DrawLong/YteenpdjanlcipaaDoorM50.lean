/-
  Tags and parts as long as may be.
-/
import Derived.Test.YteenpdjanlcipaaDoorM49a
import Derived.Test.YteenpdjanlcipaaDoorM49b
import Derived.Test.YteenpdjanlcipaaDoorM49c
import Derived.Test.YteenpdjanlcipaaDoorM49d
namespace Go.W

def z8F : Nat → List Value := fun _ => [.int .u8 0]
def jA (m : Int) : Nat → List Value := appF 8 (appF 4 (la4 0) (la4 m)) z8F
def jC (m : Int) : Nat → List Value := appF 4 (la4 m) z8F
theorem bI_z8 (j : Nat) : bI z8F j = 0 := rfl
theorem bI_jA {m : Int} {j : Nat} (h : 8 ≤ j) : bI (jA m) j = 0 := by unfold jA; rw [bI_app, if_neg (by omega)]; rfl
theorem bI_jC {m : Int} {j : Nat} (h : 4 ≤ j) : bI (jC m) j = 0 := by unfold jC; rw [bI_app, if_neg (by omega)]; rfl
theorem bN_zero {f : Nat → List Value} {j : Nat} (h : bI f j = 0) : bN f j = 0 := (bN_congr (g := z8F) (j := j) h).trans rfl
theorem all_eq {p q : Nat → Nat} {n : Nat} (h : allB (fun j => Nat.beq (p j) (q j)) n = true) : ∀ j, j < n → p j = q j := fun _ hj => nbeq.1 (allB_at (p := fun j => Nat.beq (p j) (q j)) h hj)
theorem lga_smC : smC 65536 (jA 65528) 2 = lgaE :=
  lga_sum _ (all_eq (by kernel_rfl)) (fun j h1 h2 => bN_zero (by rw [bI_app, if_pos h2]; exact bI_jA (by omega)))
    (fun j hj => all_eq (p := fun j => bN (appF 65536 (jA 65528) (sgF 4 (la4 ((2 : Nat) : Int)))) (65536 + j)) (q := fun j => lga1.getD j 0) (n := 4) (by kernel_rfl) j (by omega))
theorem lgb_smC : smC 65535 (jA 65527) 3 = lgbE :=
  lgb_sum _ (all_eq (by kernel_rfl)) (fun j h1 h2 => by
      by_cases h : j = 65535
      · subst h; exact nbeq.1 (by kernel_rfl)
      · exact bN_zero (by rw [bI_app, if_pos (by omega)]; exact bI_jA (by omega)))
    (fun j hj => all_eq (p := fun j => bN (appF 65535 (jA 65527) (sgF 4 (la4 ((3 : Nat) : Int)))) (65536 + j)) (q := fun j => lgb1.getD j 0) (n := 3) (by kernel_rfl) j (by omega))
theorem lgc_smC : smC 65536 (jC 65528) 2 = lgcE :=
  lgc_sum _ (all_eq (by kernel_rfl)) (fun j h1 h2 => bN_zero (by rw [bI_app, if_pos h2]; exact bI_jC (by omega)))
    (fun j hj => all_eq (p := fun j => bN (appF 65536 (jC 65528) (sgF 4 (la4 ((2 : Nat) : Int)))) (65536 + j)) (q := fun j => lgc1.getD j 0) (n := 4) (by kernel_rfl) j (by omega))
theorem lgd_smC : smC 65535 (jC 65527) 0 = lgdE :=
  lgd_sum _ (all_eq (by kernel_rfl)) (fun j h1 h2 => by
      by_cases h : j = 65535
      · subst h; exact nbeq.1 (by kernel_rfl)
      · exact bN_zero (by rw [bI_app, if_pos (by omega)]; exact bI_jC (by omega)))
    (fun j hj => all_eq (p := fun j => bN (appF 65535 (jC 65527) (sgF 4 (la4 ((0 : Nat) : Int)))) (65536 + j)) (q := fun j => lgd1.getD j 0) (n := 3) (by kernel_rfl) j (by omega))

theorem push_all : ∀ (l : List Int) (b : ByteArray), (l.foldl (fun r n => r.push (UInt8.ofNat n.toNat)) b).data.toList = b.data.toList ++ l.map (fun n => UInt8.ofNat n.toNat)
  | [], b => by simp
  | x :: l, b => by rw [List.foldl_cons, push_all l]; simp [ByteArray.push]
theorem rowS_list (n : Nat) (g : Nat → List Value) : (rowS n g).data.toList = (nsL g 0 n).map (fun n => UInt8.ofNat n.toNat) := by
  unfold rowS
  rw [push_all]; rfl
theorem rowS_size (n : Nat) (g : Nat → List Value) : (rowS n g).size = n := by
  show (rowS n g).data.size = n
  rw [← Array.length_toList, rowS_list, List.length_map, nsL_len]
theorem nsL_zero {g : Nat → List Value} (h : ∀ j, bI g j = 0) : ∀ n lo, ∀ x ∈ nsL g lo n, x = 0
  | 0, _, x, hx => by simp [nsL] at hx
  | n + 1, lo, x, hx => by
    rcases List.mem_cons.1 hx with rfl | hx
    · exact h lo
    · exact nsL_zero h n (lo + 1) x hx
theorem rowS_zero {g : Nat → List Value} (h : ∀ j, bI g j = 0) (n j : Nat) : bI (strF (rowS n g)) j = 0 := by
  show (((rowS n g).data.toList.getD j 0).toNat : Int) = 0
  rw [rowS_list]
  have : ((nsL g 0 n).map (fun n => UInt8.ofNat n.toNat)).getD j 0 = 0 := by
    rw [List.getD_eq_getElem?_getD]
    cases hj : ((nsL g 0 n).map (fun n => UInt8.ofNat n.toNat))[j]? with
    | none => rfl
    | some y =>
      rw [List.getElem?_map, Option.map_eq_some_iff] at hj
      obtain ⟨x, h1, h2⟩ := hj
      have := nsL_zero h n 0 x (List.mem_of_getElem? h1)
      rw [Option.getD_some, ← h2, this]; rfl
  rw [this]; rfl

theorem sc_fits {L : Nat} {J : Nat → List Value} (h : L ≤ 65536) : (scS L J).2 = 0 := by unfold scS; rw [hide_eq, if_pos h]
theorem sc_over {L : Nat} {J : Nat → List Value} (h : 65536 < L) : scS L J = (0, 4) := by unfold scS; rw [hide_eq, if_neg (by omega)]
theorem pt_over {s : ByteArray} {m : Nat} {h : Nat → List Value} (hl : 65536 < jl s (oneG m h) 1) : (ptS s m h).2.2 = 4 := by unfold ptS; rw [hide_eq, if_neg (by omega)]
theorem pt_fits {s : ByteArray} {m : Nat} {h : Nat → List Value} {L c : Nat} {J : Nat → List Value} {E : S8} (hl : jl s (oneG m h) 1 = L) (hL : L ≤ 65536) (hJ : ∀ j, j < L → bI (jF s (oneG m h) 1) j = bI J j) (hE : smC L J c = E) (hc : c < 256) (hp : ∀ {s : S8}, s = E → (trS s).2 = 0) : (ptS s m h).2.2 = 0 := by
  have h1 : (trN L (jF s (oneG m h) 1) c).2 = 0 := by
    unfold trN
    exact hp ((smC_congr hJ c).trans hE)
  obtain ⟨c', X, _, _, _, h5⟩ := fpS_ok hc h1
  unfold ptS
  rw [hide_eq, hl, if_pos hL, h5]

def e0B : ByteArray := ⟨#[]⟩
def z4B : ByteArray := ⟨#[48, 48, 48, 48]⟩
/-- The part's text, and the tag's. -/
theorem jl_part (m : Nat) (h : Nat → List Value) : jl e0B (oneG m h) 1 = m + 8 := by
  show 4 + 0 + 4 + m = _; omega
theorem jF_part (m : Nat) {h : Nat → List Value} (hz : ∀ j, bI h j = 0) (j : Nat) : bI (jF e0B (oneG m h) 1) j = bI (jA ((m : Nat) : Int)) j := by
  have e : jl e0B (oneG m h) 0 = 4 := rfl
  rw [jF_succ, e]
  unfold jA
  rw [bI_app, bI_app]
  by_cases h1 : j < 4
  · rw [if_pos h1, if_pos (by omega), if_pos h1, jF_zero, if_pos h1]; rfl
  · rw [if_neg h1]
    by_cases h2 : j < 8
    · rw [if_pos h2, if_pos h2, if_neg h1]; rfl
    · rw [if_neg h2, if_neg h2, bI_z8]; exact hz _
theorem jl_tag (s : ByteArray) (h : Nat → List Value) : jl s (oneG 0 h) 1 = s.size + 8 := by
  show 4 + s.size + 4 + 0 = _; omega
theorem jF_tag {s : ByteArray} {m : Nat} (hs : s.size = m) (hz : ∀ j, bI (strF s) j = 0) {h : Nat → List Value} (j : Nat) (hj : j < m + 8) : bI (jF s (oneG 0 h) 1) j = bI (jC ((m : Nat) : Int)) j := by
  have e : jl s (oneG 0 h) 0 = 4 + m := by show 4 + s.size = _; rw [hs]
  rw [jF_succ, e]
  unfold jC
  rw [bI_app]
  by_cases h1 : j < 4 + m
  · rw [if_pos h1, jF_zero]
    by_cases h2 : j < 4
    · rw [if_pos h2, if_pos h2, hs]
    · rw [if_neg h2, if_neg h2, bI_z8]; exact hz _
  · rw [if_neg h1, if_pos (by omega), if_neg (by omega), bI_z8]
    have h3 : j - (4 + m) < 4 := by omega
    exact all_z _ h3
where all_z : ∀ i, i < 4 → bI (la4 (((oneG 0 h 0).1 : Nat) : Int)) i = 0
  | 0, _ => rfl
  | 1, _ => rfl
  | 2, _ => rfl
  | 3, _ => rfl
  | i + 4, h => absurd h (by omega)

/-- What a statement asks of them. -/
noncomputable def dlE (X : Int) (E F : Int) (S : Nat) : Option Value :=
  bif decide (X > 0) then (bif E == 4 then (bif F == 4 then (bif eqV (num S) (num 0) then some (.bool true) else some (.bool false)) else some (.bool false)) else some (.bool false)) else (bif E == 0 then (bif F == 0 then some (.bool true) else some (.bool false)) else some (.bool false))
theorem dlE_over {X : Int} (h : 0 < X) : dlE X 4 4 0 = some (.bool true) := by
  unfold dlE; rw [decide_eq_true h, cond_true, eqV_self]; rfl
theorem dlE_fits {X : Int} (h : X ≤ 0) (S : Nat) : dlE X 0 0 S = some (.bool true) := by
  unfold dlE; rw [decide_eq_false (by omega), cond_false]; rfl
end Go.W
