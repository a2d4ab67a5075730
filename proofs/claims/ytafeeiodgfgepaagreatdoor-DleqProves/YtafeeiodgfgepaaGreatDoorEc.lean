/-
  Several texts in one.
-/
import Derived.Test.YtafeeiodgfgepaaGreatDoorEb
import Derived.KernelRfl
/-
  Primes by the road of Lucas: a number whose powers are all numbers below the modulus.
-/
namespace Go.W
def Prim (p : Nat) : Prop := 1 < p ∧ ∀ d, d ∣ p → d = 1 ∨ d = p
def powF : Nat → Nat → Nat → Nat → Nat
  | 0, _, _, m => 1 % m
  | f + 1, b, e, m => bif Nat.beq (e % 2) 1 then b * powF f (b * b % m) (e / 2) m % m else powF f (b * b % m) (e / 2) m
theorem powF_eq : ∀ (f b e m : Nat), e < 2 ^ f → powF f b e m = b ^ e % m
  | 0, b, e, m, h => by
    have : e = 0 := by simpa using h
    subst this; rfl
  | f + 1, b, e, m, h => by
    have he : e / 2 < 2 ^ f := by rw [Nat.pow_succ] at h; omega
    have ih := powF_eq f (b * b % m) (e / 2) m he
    have hsq : (b * b % m) ^ (e / 2) % m = b ^ (2 * (e / 2)) % m := by rw [← Nat.pow_mod, Nat.pow_mul]; congr 2; exact (Nat.pow_two b).symm
    unfold powF
    rw [ih, hsq]
    rcases Nat.mod_two_eq_zero_or_one e with h0 | h1
    · rw [h0]
      show b ^ (2 * (e / 2)) % m = _
      rw [show 2 * (e / 2) = e from by omega]
    · rw [h1]
      show b * (b ^ (2 * (e / 2)) % m) % m = _
      rw [Nat.mul_mod, Nat.mod_mod, ← Nat.mul_mod, ← Nat.pow_succ', show (2 * (e / 2)).succ = e from by omega]
def triB : Nat → Nat → Bool
  | 0, _ => true
  | k + 1, p => (Nat.ble (k + 1) 1 || !(Nat.beq (p % (k + 1)) 0)) && triB k p
theorem triB_at : ∀ (k p : Nat), triB k p = true → ∀ d, 2 ≤ d → d ≤ k → p % d ≠ 0
  | 0, _, _, d, h1, h2 => by omega
  | k + 1, p, h, d, h1, h2 => by
    simp only [triB, Bool.and_eq_true, Bool.or_eq_true, Nat.ble_eq, Bool.not_eq_true'] at h
    rcases Nat.lt_or_ge d (k + 1) with h3 | h3
    · exact triB_at k p h.2 d h1 (by omega)
    · have : d = k + 1 := by omega
      subst this
      rcases h.1 with h4 | h4
      · omega
      · intro h5
        rw [h5] at h4
        simp at h4
theorem prim_tri {k p : Nat} (h1 : 1 < p) (h : triB k p = true) (hk : p < (k + 1) * (k + 1)) : Prim p := by
  refine ⟨h1, fun d hd => ?_⟩
  obtain ⟨e, rfl⟩ := hd
  have hd0 : d ≠ 0 := by rintro rfl; simp at h1
  have he0 : e ≠ 0 := by rintro rfl; simp at h1
  by_cases hd1 : d = 1
  · exact .inl hd1
  · right
    by_cases he1 : e = 1
    · rw [he1, Nat.mul_one]
    · exfalso
      rcases Nat.lt_or_ge k d with h3 | h3
      · rcases Nat.lt_or_ge k e with h4 | h4
        · have := Nat.mul_le_mul (show k + 1 ≤ d by omega) (show k + 1 ≤ e by omega)
          omega
        · exact triB_at k _ h e (by omega) h4 (Nat.mul_mod_left d e)
      · exact triB_at k _ h d (by omega) h3 (Nat.mul_mod_right d e)
theorem pigeon : ∀ (n : Nat) (f : Nat → Nat), (∀ i, i < n → f i < n) → (∀ i j, i < j → j < n → f i ≠ f j) → ∀ y, y < n → ∃ i, i < n ∧ f i = y
  | 0, _, _, _, y, hy => by omega
  | n + 1, f, hf, hinj, y, hy => by
    -- where the last one goes, the first ones are moved off it
    let g : Nat → Nat := fun i => if f i = n then f n else f i
    have hg : ∀ i, i < n → g i < n := by
      intro i hi
      show (if f i = n then f n else f i) < n
      split
      · rename_i h
        have h1 := hf n (by omega)
        have h2 := hinj i n hi (by omega)
        omega
      · have := hf i (by omega); omega
    have hginj : ∀ i j, i < j → j < n → g i ≠ g j := by
      intro i j hij hj
      show (if f i = n then f n else f i) ≠ (if f j = n then f n else f j)
      have h1 := hinj i j hij (by omega)
      have h2 := hinj i n (by omega) (by omega)
      have h3 := hinj j n hj (by omega)
      split <;> split
      · omega
      · exact fun h => h3 h.symm
      · exact h2
      · exact h1
    by_cases hy' : y = f n
    · exact ⟨n, by omega, hy'.symm⟩
    · by_cases hyn : y = n
      · -- n is met: else all go below n, and f n too
        subst hyn
        have hfn : f y < y := by have := hf y (by omega); omega
        obtain ⟨i, hi, h⟩ := pigeon y g hg hginj (f y) hfn
        by_cases h1 : f i = y
        · exact ⟨i, by omega, h1⟩
        · exfalso
          have : g i = f i := if_neg h1
          exact hinj i y hi (by omega) (by rw [← this, h])
      · obtain ⟨i, hi, h⟩ := pigeon n g hg hginj y (by omega)
        by_cases h1 : f i = n
        · exfalso
          have : g i = f n := if_pos h1
          exact hy' (by rw [← h, this])
        · have : g i = f i := if_neg h1
          exact ⟨i, by omega, by rw [← this, h]⟩
theorem pow_one_mul {g p e k : Nat} (h : g ^ e % p = 1 % p) : g ^ (e * k) % p = 1 % p := by
  rw [Nat.pow_mul, Nat.pow_mod, h, ← Nat.pow_mod, Nat.one_pow]
theorem pow_one_gcd {g p : Nat} (e f : Nat) : g ^ e % p = 1 % p → g ^ f % p = 1 % p → g ^ (Nat.gcd e f) % p = 1 % p := by
  induction e, f using Nat.gcd.induction with
  | H0 f => intro _ h; rw [Nat.gcd_zero_left]; exact h
  | H1 e f hpos ih =>
    intro h1 h2
    rw [Nat.gcd_rec]
    refine ih ?_ h1
    have h3 : g ^ f = g ^ (f % e) * g ^ (e * (f / e)) := by rw [← Nat.pow_add, Nat.mod_add_div]
    rw [h3, Nat.mul_mod, pow_one_mul h1, ← Nat.mul_mod, Nat.mul_one] at h2
    exact h2
def prodL : List Nat → Nat
  | [] => 1
  | q :: l => q * prodL l
theorem prim_in {m : Nat} : ∀ (qs : List Nat), (∀ q ∈ qs, Prim q) → 1 < m → m ∣ prodL qs → ∃ q ∈ qs, q ∣ m
  | [], _, h1, h => by
    have := Nat.le_of_dvd (by decide) h
    simp only [prodL] at this; omega
  | q :: qs, hq, h1, h => by
    have hp := hq q (by simp)
    rcases hp.2 (Nat.gcd m q) (Nat.gcd_dvd_right m q) with hg | hg
    · have : m ∣ prodL qs := Nat.Coprime.dvd_of_dvd_mul_left hg h
      obtain ⟨r, hr, hd⟩ := prim_in qs (fun r hr => hq r (by simp [hr])) h1 this
      exact ⟨r, by simp [hr], hd⟩
    · exact ⟨q, by simp, by rw [← hg]; exact Nat.gcd_dvd_left m q⟩
def Gen (p g : Nat) : Prop := 1 < p ∧ g ^ (p - 1) % p = 1 ∧ ∀ a, 0 < a → a < p → ∃ k, k < p - 1 ∧ g ^ k % p = a
theorem gen_of {p g : Nat} {qs : List Nat} (hp : 1 < p) (hqs : ∀ q ∈ qs, Prim q) (hprod : prodL qs = p - 1) (h1 : g ^ (p - 1) % p = 1) (h2 : ∀ q ∈ qs, g ^ ((p - 1) / q) % p ≠ 1) : Gen p g := by
  have h1p : 1 % p = 1 := Nat.mod_eq_of_lt hp
  have hone : ∀ e, 0 < e → e < p - 1 → g ^ e % p ≠ 1 := by
    intro e he0 he h
    have hf := pow_one_gcd (g := g) (p := p) e (p - 1) (by rw [h1p]; exact h) (by rw [h1p]; exact h1)
    rw [h1p] at hf
    obtain ⟨m, hm⟩ := Nat.gcd_dvd_right e (p - 1)
    have hle : Nat.gcd e (p - 1) ≤ e := Nat.le_of_dvd he0 (Nat.gcd_dvd_left e (p - 1))
    have hm1 : 1 < m := by
      rcases Nat.lt_or_ge 1 m with h3 | h3
      · exact h3
      · exfalso
        have h4 : Nat.gcd e (p - 1) * m ≤ Nat.gcd e (p - 1) * 1 := Nat.mul_le_mul_left _ h3
        omega
    obtain ⟨q, hq, m', hm'⟩ := prim_in qs hqs hm1 (by rw [hprod]; exact ⟨Nat.gcd e (p - 1), by rw [Nat.mul_comm]; exact hm⟩)
    have hq1 := (hqs q hq).1
    have hdiv : (p - 1) / q = Nat.gcd e (p - 1) * m' := by
      have e1 : p - 1 = q * (Nat.gcd e (p - 1) * m') := by
        have e2 : Nat.gcd e (p - 1) * (q * m') = q * (Nat.gcd e (p - 1) * m') := by rw [Nat.mul_left_comm]
        rw [← hm'] at e2
        exact hm.trans e2
      have e3 : q * (Nat.gcd e (p - 1) * m') / q = Nat.gcd e (p - 1) * m' := Nat.mul_div_cancel_left _ (by omega)
      rw [← e1] at e3
      exact e3
    apply h2 q hq
    rw [hdiv]
    have := pow_one_mul (k := m') (show g ^ Nat.gcd e (p - 1) % p = 1 % p by rw [hf, h1p])
    rw [this, h1p]
  have hnz : ∀ i, i < p - 1 → g ^ i % p ≠ 0 := by
    intro i hi h
    have e1 : g ^ (p - 1) = g ^ i * g ^ (p - 1 - i) := by rw [← Nat.pow_add]; congr 1; omega
    rw [e1, Nat.mul_mod, h, Nat.zero_mul, Nat.zero_mod] at h1
    omega
  refine ⟨hp, h1, ?_⟩
  have hpig := pigeon (p - 1) (fun i => g ^ i % p - 1)
    (fun i hi => by have := hnz i hi; have := Nat.mod_lt (g ^ i) (show 0 < p by omega); omega)
    (fun i j hij hj => by
      intro h
      have hi0 := hnz i (by omega)
      have hj0 := hnz j hj
      have he : g ^ i % p = g ^ j % p := by
        have h' : g ^ i % p - 1 = g ^ j % p - 1 := h
        omega
      refine hone (j - i) (by omega) (by omega) ?_
      have e1 : g ^ (j - i) * g ^ (p - 1) = g ^ j * g ^ (p - 1 - i) := by rw [← Nat.pow_add, ← Nat.pow_add]; congr 1; omega
      have e2 : g ^ i * g ^ (p - 1 - i) = g ^ (p - 1) := by rw [← Nat.pow_add]; congr 1; omega
      have e3 : g ^ (j - i) % p = g ^ (j - i) * g ^ (p - 1) % p := by rw [Nat.mul_mod, h1, Nat.mul_one, Nat.mod_mod]
      rw [e3, e1, Nat.mul_mod, ← he, ← Nat.mul_mod, e2, h1])
  intro a ha0 hap
  obtain ⟨k, hk, h⟩ := hpig (a - 1) (by omega)
  have := hnz k hk
  have h' : g ^ k % p - 1 = a - 1 := h
  exact ⟨k, hk, by omega⟩
theorem Gen.prim {p g : Nat} (h : Gen p g) : Prim p := by
  refine ⟨h.1, fun d hd => ?_⟩
  have hp := h.1
  have hd0 : 0 < d := Nat.pos_of_dvd_of_pos hd (by omega)
  have hle := Nat.le_of_dvd (by omega) hd
  by_cases hdp : d = p
  · exact .inr hdp
  · left
    obtain ⟨k, hk, hk2⟩ := h.2.2 d hd0 (by omega)
    have e1 : d * g ^ (p - 1 - k) % p = 1 := by
      rw [← hk2, Nat.mul_mod, Nat.mod_mod, ← Nat.mul_mod, ← Nat.pow_add, show k + (p - 1 - k) = p - 1 from by omega]
      exact h.2.1
    have h3 : d ∣ d * g ^ (p - 1 - k) := Nat.dvd_mul_right d _
    have h4 : d ∣ 1 := by
      have h5 := Nat.div_add_mod (d * g ^ (p - 1 - k)) p
      rw [e1] at h5
      have h6 : d ∣ p * (d * g ^ (p - 1 - k) / p) := Nat.dvd_trans hd (Nat.dvd_mul_right p _)
      have h7 : d ∣ p * (d * g ^ (p - 1 - k) / p) + 1 := by rw [h5]; exact h3
      exact (Nat.dvd_add_right h6).1 h7
    exact Nat.eq_one_of_dvd_one h4
theorem Gen.fermat {p g a : Nat} (h : Gen p g) (ha : a % p ≠ 0) : a ^ (p - 1) % p = 1 := by
  have hp := h.1
  obtain ⟨k, _, hk⟩ := h.2.2 (a % p) (by omega) (Nat.mod_lt _ (by omega))
  rw [Nat.pow_mod, ← hk, ← Nat.pow_mod, ← Nat.pow_mul, Nat.mul_comm, Nat.pow_mul, Nat.pow_mod, h.2.1, Nat.one_pow, Nat.mod_eq_of_lt hp]
def cert (p g : Nat) (qs : List Nat) : Bool :=
  Nat.blt 1 p && Nat.beq (prodL qs) (p - 1) && Nat.blt p (2 ^ 256) && Nat.beq (powF 256 g (p - 1) p) 1 && qs.all (fun q => !(Nat.beq (powF 256 g ((p - 1) / q) p) 1))
theorem gen_cert {p g : Nat} {qs : List Nat} (h : cert p g qs = true) (hqs : ∀ q ∈ qs, Prim q) : Gen p g := by
  simp only [cert, Bool.and_eq_true, Nat.blt_eq, List.all_eq_true, Bool.not_eq_true'] at h
  obtain ⟨⟨⟨⟨h1, h2⟩, h3⟩, h4⟩, h5⟩ := h
  have h4 := Nat.eq_of_beq_eq_true h4
  rw [powF_eq _ _ _ _ (by omega)] at h4
  refine gen_of h1 hqs (Nat.eq_of_beq_eq_true h2) h4 fun q hq hone => ?_
  have := h5 q hq
  rw [powF_eq _ _ _ _ (Nat.lt_of_le_of_lt (Nat.div_le_self _ _) (by omega)), hone] at this
  simp at this
end Go.W
/-
  The two primes of the curve: written out.
-/
namespace Go.W
theorem pr2 : Prim 2 := prim_tri (k := 1) (by decide) (by decide +kernel) (by decide)
theorem pr3 : Prim 3 := prim_tri (k := 1) (by decide) (by decide +kernel) (by decide)
theorem pr5 : Prim 5 := prim_tri (k := 2) (by decide) (by decide +kernel) (by decide)
theorem pr7 : Prim 7 := prim_tri (k := 2) (by decide) (by decide +kernel) (by decide)
theorem pr11 : Prim 11 := prim_tri (k := 3) (by decide) (by decide +kernel) (by decide)
theorem pr17 : Prim 17 := prim_tri (k := 4) (by decide) (by decide +kernel) (by decide)
theorem pr29 : Prim 29 := prim_tri (k := 5) (by decide) (by decide +kernel) (by decide)
theorem pr31 : Prim 31 := prim_tri (k := 5) (by decide) (by decide +kernel) (by decide)
theorem pr41 : Prim 41 := prim_tri (k := 6) (by decide) (by decide +kernel) (by decide)
theorem pr53 : Prim 53 := prim_tri (k := 7) (by decide) (by decide +kernel) (by decide)
theorem pr59 : Prim 59 := prim_tri (k := 7) (by decide) (by decide +kernel) (by decide)
theorem pr97 : Prim 97 := prim_tri (k := 9) (by decide) (by decide +kernel) (by decide)
theorem pr109 : Prim 109 := prim_tri (k := 10) (by decide) (by decide +kernel) (by decide)
theorem pr149 : Prim 149 := prim_tri (k := 12) (by decide) (by decide +kernel) (by decide)
theorem pr293 : Prim 293 := prim_tri (k := 17) (by decide) (by decide +kernel) (by decide)
theorem pr461 : Prim 461 := prim_tri (k := 21) (by decide) (by decide +kernel) (by decide)
theorem pr631 : Prim 631 := prim_tri (k := 25) (by decide) (by decide +kernel) (by decide)
theorem pr797 : Prim 797 := prim_tri (k := 28) (by decide) (by decide +kernel) (by decide)
theorem pr971 : Prim 971 := prim_tri (k := 31) (by decide) (by decide +kernel) (by decide)
theorem pr1373 : Prim 1373 := prim_tri (k := 37) (by decide) (by decide +kernel) (by decide)
theorem pr1627 : Prim 1627 := prim_tri (k := 40) (by decide) (by decide +kernel) (by decide)
theorem pr1871 : Prim 1871 := prim_tri (k := 43) (by decide) (by decide +kernel) (by decide)
theorem pr2011 : Prim 2011 := prim_tri (k := 44) (by decide) (by decide +kernel) (by decide)
theorem pr2621 : Prim 2621 := prim_tri (k := 51) (by decide) (by decide +kernel) (by decide)
theorem pr2657 : Prim 2657 := prim_tri (k := 51) (by decide) (by decide +kernel) (by decide)
theorem pr4051 : Prim 4051 := prim_tri (k := 63) (by decide) (by decide +kernel) (by decide)
theorem pr4423 : Prim 4423 := prim_tri (k := 66) (by decide) (by decide +kernel) (by decide)
theorem pr5323 : Prim 5323 := prim_tri (k := 72) (by decide) (by decide +kernel) (by decide)
theorem pr7723 : Prim 7723 := prim_tri (k := 87) (by decide) (by decide +kernel) (by decide)
theorem pr9349 : Prim 9349 := prim_tri (k := 96) (by decide) (by decide +kernel) (by decide)
theorem pr13441 : Prim 13441 := prim_tri (k := 115) (by decide) (by decide +kernel) (by decide)
theorem pr16699 : Prim 16699 := prim_tri (k := 129) (by decide) (by decide +kernel) (by decide)
theorem pr20113 : Prim 20113 := prim_tri (k := 141) (by decide) (by decide +kernel) (by decide)
theorem pr24809 : Prim 24809 := prim_tri (k := 157) (by decide) (by decide +kernel) (by decide)
theorem pr28181 : Prim 28181 := prim_tri (k := 167) (by decide) (by decide +kernel) (by decide)
theorem pr41201 : Prim 41201 := prim_tri (k := 202) (by decide) (by decide +kernel) (by decide)
theorem pr85831 : Prim 85831 := prim_tri (k := 292) (by decide) (by decide +kernel) (by decide)
theorem pr96557 : Prim 96557 := prim_tri (k := 310) (by decide) (by decide +kernel) (by decide)
theorem pr120233 : Prim 120233 := prim_tri (k := 346) (by decide) (by decide +kernel) (by decide)
theorem pr305873 : Prim 305873 := prim_tri (k := 553) (by decide) (by decide +kernel) (by decide)
theorem allP_nil : ∀ q ∈ ([] : List Nat), Prim q := by simp
theorem allP_cons {q : Nat} {l : List Nat} (h : Prim q) (hl : ∀ r ∈ l, Prim r) : ∀ r ∈ q :: l, Prim r := by
  intro r hr
  rcases List.mem_cons.1 hr with rfl | hr
  · exact h
  · exact hl r hr
theorem ge13331831 : Gen 13331831 13 := gen_cert (qs := [2, 5, 971, 1373]) (by decide +kernel) (allP_cons pr2 (allP_cons pr5 (allP_cons pr971 (allP_cons pr1373 allP_nil))))
theorem pr13331831 : Prim 13331831 := ge13331831.prim
theorem ge173378833005251801 : Gen 173378833005251801 6 := gen_cert (qs := [2, 2, 2, 5, 5, 2621, 24809, 13331831]) (by decide +kernel) (allP_cons pr2 (allP_cons pr2 (allP_cons pr2 (allP_cons pr5 (allP_cons pr5 (allP_cons pr2621 (allP_cons pr24809 (allP_cons pr13331831 allP_nil))))))))
theorem pr173378833005251801 : Prim 173378833005251801 := ge173378833005251801.prim
theorem ge22149492674086928081353 : Gen 22149492674086928081353 5 := gen_cert (qs := [2, 2, 2, 3, 5323, 173378833005251801]) (by decide +kernel) (allP_cons pr2 (allP_cons pr2 (allP_cons pr2 (allP_cons pr3 (allP_cons pr5323 (allP_cons pr173378833005251801 allP_nil))))))
theorem pr22149492674086928081353 : Prim 22149492674086928081353 := ge22149492674086928081353.prim
theorem ge132896956044521568488119 : Gen 132896956044521568488119 6 := gen_cert (qs := [2, 3, 22149492674086928081353]) (by decide +kernel) (allP_cons pr2 (allP_cons pr3 (allP_cons pr22149492674086928081353 allP_nil)))
theorem pr132896956044521568488119 : Prim 132896956044521568488119 := ge132896956044521568488119.prim
theorem ge1206781 : Gen 1206781 10 := gen_cert (qs := [2, 2, 3, 5, 20113]) (by decide +kernel) (allP_cons pr2 (allP_cons pr2 (allP_cons pr3 (allP_cons pr5 (allP_cons pr20113 allP_nil)))))
theorem pr1206781 : Prim 1206781 := ge1206781.prim
theorem ge7240687 : Gen 7240687 3 := gen_cert (qs := [2, 3, 1206781]) (by decide +kernel) (allP_cons pr2 (allP_cons pr3 (allP_cons pr1206781 allP_nil)))
theorem pr7240687 : Prim 7240687 := ge7240687.prim
theorem ge107590001 : Gen 107590001 3 := gen_cert (qs := [2, 2, 2, 2, 5, 5, 5, 5, 7, 29, 53]) (by decide +kernel) (allP_cons pr2 (allP_cons pr2 (allP_cons pr2 (allP_cons pr2 (allP_cons pr5 (allP_cons pr5 (allP_cons pr5 (allP_cons pr5 (allP_cons pr7 (allP_cons pr29 (allP_cons pr53 allP_nil)))))))))))
theorem pr107590001 : Prim 107590001 := ge107590001.prim
theorem ge255515944373312847190720520512484175977 : Gen 255515944373312847190720520512484175977 3 := gen_cert (qs := [2, 2, 2, 7, 7, 11, 1627, 2657, 4423, 41201, 96557, 7240687, 107590001]) (by decide +kernel) (allP_cons pr2 (allP_cons pr2 (allP_cons pr2 (allP_cons pr7 (allP_cons pr7 (allP_cons pr11 (allP_cons pr1627 (allP_cons pr2657 (allP_cons pr4423 (allP_cons pr41201 (allP_cons pr96557 (allP_cons pr7240687 (allP_cons pr107590001 allP_nil)))))))))))))
theorem pr255515944373312847190720520512484175977 : Prim 255515944373312847190720520512484175977 := ge255515944373312847190720520512484175977.prim
theorem ge205115282021455665897114700593932402728804164701536103180137503955397371 : Gen 205115282021455665897114700593932402728804164701536103180137503955397371 10 := gen_cert (qs := [2, 3, 5, 29, 29, 31, 7723, 132896956044521568488119, 255515944373312847190720520512484175977]) (by decide +kernel) (allP_cons pr2 (allP_cons pr3 (allP_cons pr5 (allP_cons pr29 (allP_cons pr29 (allP_cons pr31 (allP_cons pr7723 (allP_cons pr132896956044521568488119 (allP_cons pr255515944373312847190720520512484175977 allP_nil)))))))))
theorem pr205115282021455665897114700593932402728804164701536103180137503955397371 : Prim 205115282021455665897114700593932402728804164701536103180137503955397371 := ge205115282021455665897114700593932402728804164701536103180137503955397371.prim
theorem ge115792089237316195423570985008687907853269984665640564039457584007908834671663 : Gen 115792089237316195423570985008687907853269984665640564039457584007908834671663 3 := gen_cert (qs := [2, 3, 7, 13441, 205115282021455665897114700593932402728804164701536103180137503955397371]) (by decide +kernel) (allP_cons pr2 (allP_cons pr3 (allP_cons pr7 (allP_cons pr13441 (allP_cons pr205115282021455665897114700593932402728804164701536103180137503955397371 allP_nil)))))
theorem pr115792089237316195423570985008687907853269984665640564039457584007908834671663 : Prim 115792089237316195423570985008687907853269984665640564039457584007908834671663 := ge115792089237316195423570985008687907853269984665640564039457584007908834671663.prim
theorem ge4681609 : Gen 4681609 23 := gen_cert (qs := [2, 2, 2, 3, 97, 2011]) (by decide +kernel) (allP_cons pr2 (allP_cons pr2 (allP_cons pr2 (allP_cons pr3 (allP_cons pr97 (allP_cons pr2011 allP_nil))))))
theorem pr4681609 : Prim 4681609 := ge4681609.prim
theorem ge107361793816595537 : Gen 107361793816595537 3 := gen_cert (qs := [2, 2, 2, 2, 16699, 85831, 4681609]) (by decide +kernel) (allP_cons pr2 (allP_cons pr2 (allP_cons pr2 (allP_cons pr2 (allP_cons pr16699 (allP_cons pr85831 (allP_cons pr4681609 allP_nil)))))))
theorem pr107361793816595537 : Prim 107361793816595537 := ge107361793816595537.prim
theorem ge44706919 : Gen 44706919 6 := gen_cert (qs := [2, 3, 797, 9349]) (by decide +kernel) (allP_cons pr2 (allP_cons pr3 (allP_cons pr797 (allP_cons pr9349 allP_nil))))
theorem pr44706919 : Prim 44706919 := ge44706919.prim
theorem ge174723607534414371449 : Gen 174723607534414371449 3 := gen_cert (qs := [2, 2, 2, 17, 59, 4051, 120233, 44706919]) (by decide +kernel) (allP_cons pr2 (allP_cons pr2 (allP_cons pr2 (allP_cons pr17 (allP_cons pr59 (allP_cons pr4051 (allP_cons pr120233 (allP_cons pr44706919 allP_nil))))))))
theorem pr174723607534414371449 : Prim 174723607534414371449 := ge174723607534414371449.prim
theorem ge545358713 : Gen 545358713 5 := gen_cert (qs := [2, 2, 2, 41, 59, 28181]) (by decide +kernel) (allP_cons pr2 (allP_cons pr2 (allP_cons pr2 (allP_cons pr41 (allP_cons pr59 (allP_cons pr28181 allP_nil))))))
theorem pr545358713 : Prim 545358713 := ge545358713.prim
theorem ge1627771 : Gen 1627771 3 := gen_cert (qs := [2, 3, 5, 29, 1871]) (by decide +kernel) (allP_cons pr2 (allP_cons pr3 (allP_cons pr5 (allP_cons pr29 (allP_cons pr1871 allP_nil)))))
theorem pr1627771 : Prim 1627771 := ge1627771.prim
theorem ge297159362677 : Gen 297159362677 2 := gen_cert (qs := [2, 2, 3, 3, 11, 461, 1627771]) (by decide +kernel) (allP_cons pr2 (allP_cons pr2 (allP_cons pr3 (allP_cons pr3 (allP_cons pr11 (allP_cons pr461 (allP_cons pr1627771 allP_nil)))))))
theorem pr297159362677 : Prim 297159362677 := ge297159362677.prim
theorem ge29047611873442575647497758179 : Gen 29047611873442575647497758179 2 := gen_cert (qs := [2, 293, 305873, 545358713, 297159362677]) (by decide +kernel) (allP_cons pr2 (allP_cons pr293 (allP_cons pr305873 (allP_cons pr545358713 (allP_cons pr297159362677 allP_nil)))))
theorem pr29047611873442575647497758179 : Prim 29047611873442575647497758179 := ge29047611873442575647497758179.prim
theorem ge341948486974166000522343609283189 : Gen 341948486974166000522343609283189 2 := gen_cert (qs := [2, 2, 3, 3, 3, 109, 29047611873442575647497758179]) (by decide +kernel) (allP_cons pr2 (allP_cons pr2 (allP_cons pr3 (allP_cons pr3 (allP_cons pr3 (allP_cons pr109 (allP_cons pr29047611873442575647497758179 allP_nil)))))))
theorem pr341948486974166000522343609283189 : Prim 341948486974166000522343609283189 := ge341948486974166000522343609283189.prim
theorem ge115792089237316195423570985008687907852837564279074904382605163141518161494337 : Gen 115792089237316195423570985008687907852837564279074904382605163141518161494337 7 := gen_cert (qs := [2, 2, 2, 2, 2, 2, 3, 149, 631, 107361793816595537, 174723607534414371449, 341948486974166000522343609283189]) (by decide +kernel) (allP_cons pr2 (allP_cons pr2 (allP_cons pr2 (allP_cons pr2 (allP_cons pr2 (allP_cons pr2 (allP_cons pr3 (allP_cons pr149 (allP_cons pr631 (allP_cons pr107361793816595537 (allP_cons pr174723607534414371449 (allP_cons pr341948486974166000522343609283189 allP_nil))))))))))))
theorem pr115792089237316195423570985008687907852837564279074904382605163141518161494337 : Prim 115792089237316195423570985008687907852837564279074904382605163141518161494337 := ge115792089237316195423570985008687907852837564279074904382605163141518161494337.prim
def pP : Nat := 115792089237316195423570985008687907853269984665640564039457584007908834671663
def pN : Nat := 115792089237316195423570985008687907852837564279074904382605163141518161494337
def gP : Nat := 3
def gN : Nat := 7
theorem genP : Gen pP gP := ge115792089237316195423570985008687907853269984665640564039457584007908834671663
theorem genN : Gen pN gN := ge115792089237316195423570985008687907852837564279074904382605163141518161494337
theorem pP_eq : pP = 2 ^ 256 - 2 ^ 32 - 977 := by decide
theorem pN_eq : pN = 2 ^ 256 - 432420386565659656852420866394968145599 := by decide
end Go.W
/-
  Numbers modulo a prime: inverses, roots.
-/
namespace Go.W
theorem Gen.mul_ne {p g a b : Nat} (h : Gen p g) (ha : a % p ≠ 0) (hb : b % p ≠ 0) : a * b % p ≠ 0 := by
  intro h0
  have h1 := h.fermat ha
  have h2 := h.fermat hb
  have h3 : (a * b) ^ (p - 1) % p = 1 := by rw [Nat.mul_pow, Nat.mul_mod, h1, h2]; exact Nat.mod_eq_of_lt h.1
  rw [Nat.pow_mod, h0] at h3
  have hp := h.1
  rw [Nat.zero_pow (by omega), Nat.zero_mod] at h3
  omega
theorem Gen.inv {p g a : Nat} (h : Gen p g) (ha : a % p ≠ 0) : a * a ^ (p - 2) % p = 1 := by
  have hp := h.1
  rw [← Nat.pow_succ', Nat.succ_eq_add_one, show p - 2 + 1 = p - 1 from by omega]
  exact h.fermat ha
theorem Gen.cancel {p g a b c : Nat} (h : Gen p g) (ha : a % p ≠ 0) (he : a * b % p = a * c % p) : b % p = c % p := by
  have hi := h.inv ha
  have key : ∀ x, x % p = a ^ (p - 2) * (a * x) % p := by
    intro x
    rw [← Nat.mul_assoc, Nat.mul_comm (a ^ (p - 2)) a, Nat.mul_mod, hi, Nat.one_mul, Nat.mod_mod]
  rw [key b, key c, Nat.mul_mod, he, ← Nat.mul_mod]
theorem Gen.pow_self {p g : Nat} (h : Gen p g) (a : Nat) : a ^ p % p = a % p := by
  have hp := h.1
  have e : a ^ p = a * a ^ (p - 1) := by rw [← Nat.pow_succ', Nat.succ_eq_add_one]; congr 1; omega
  by_cases ha : a % p = 0
  · rw [e, Nat.mul_mod, ha, Nat.zero_mul, Nat.zero_mod]
  · rw [e, Nat.mul_mod, h.fermat ha, Nat.mul_one, Nat.mod_mod]
theorem Gen.sq_eq {p g a b : Nat} (h : Gen p g) (he : a * a % p = b * b % p) : a % p = b % p ∨ (a + b) % p = 0 := by
  by_cases hs : (a + b) % p = 0
  · exact .inr hs
  · left
    have hp := h.1
    -- (a + b) a = a a + a b = b b + a b = (a + b) b
    refine h.cancel (a := a + b) hs ?_
    have e1 : (a + b) * a = a * a + a * b := by rw [Nat.add_mul, Nat.mul_comm b a]
    have e2 : (a + b) * b = b * b + a * b := by rw [Nat.add_mul, Nat.add_comm]
    rw [e1, e2, Nat.add_mod, he, ← Nat.add_mod]
theorem Gen.root {p g a b : Nat} (h : Gen p g) (h4 : p % 4 = 3) (hb : b * b % p = a % p) : a ^ ((p + 1) / 4) * a ^ ((p + 1) / 4) % p = a % p := by
  rw [← Nat.pow_add]
  have hp := h.1
  have hexp : (p + 1) / 4 + (p + 1) / 4 = (p - 1) / 2 + 1 := by omega
  rw [hexp]
  have e0 : a ^ ((p - 1) / 2 + 1) % p = (b * b) ^ ((p - 1) / 2 + 1) % p := by rw [Nat.pow_mod, ← hb, ← Nat.pow_mod]
  have e1 : (b * b) ^ ((p - 1) / 2 + 1) = b * b ^ p := by
    rw [show b * b = b ^ 2 from (Nat.pow_two b).symm, ← Nat.pow_mul, ← Nat.pow_succ']
    congr 1; omega
  rw [e0, e1, Nat.mul_mod, h.pow_self, ← Nat.mul_mod, hb]
end Go.W
/-
  The document's own answers, package field: what they come to.
-/
namespace Go.W
def sP : Nat := 4294968273
def sN : Nat := 432420386565659656852420866394968145599
def primeN (w : Int) : Nat := if w = 0 then pP else if w = 1 then pN else 0
def smallN (w : Int) : Nat := if w = 1 then sN else sP
def okW (w : Int) : Bool := w == 0 || w == 1
theorem okW_iff {w : Int} : okW w = true ↔ w = 0 ∨ w = 1 := by simp [okW]
theorem primeN_small {w : Int} (h : okW w = true) : primeN w + smallN w = 2 ^ 256 ∧ primeN w < 2 ^ 256 ∧ smallN w < 2 ^ 129 ∧ 2 ^ 255 < primeN w := by
  rcases okW_iff.1 h with rfl | rfl
  · show pP + sP = 2 ^ 256 ∧ pP < 2 ^ 256 ∧ sP < 2 ^ 129 ∧ 2 ^ 255 < pP
    unfold pP sP; omega
  · show pN + sN = 2 ^ 256 ∧ pN < 2 ^ 256 ∧ sN < 2 ^ 129 ∧ 2 ^ 255 < pN
    unfold pN sN; omega
theorem primeN_gen {w : Int} (h : okW w = true) : ∃ g, Gen (primeN w) g := by
  rcases okW_iff.1 h with rfl | rfl
  · exact ⟨gP, genP⟩
  · exact ⟨gN, genN⟩
def fdL (s lo hi : Nat) : Nat := (hi * s + lo) % 2 ^ 256
def fdH (s lo hi : Nat) : Nat := (hi * s + lo) / 2 ^ 256
def fdK (s lo hi : Nat) : Nat → Nat × Nat
  | 0 => (lo, hi)
  | k + 1 => (fdL s (fdK s lo hi k).1 (fdK s lo hi k).2, fdH s (fdK s lo hi k).1 (fdK s lo hi k).2)
theorem fd_mod {p s lo hi : Nat} (h : p + s = 2 ^ 256) : (fdH s lo hi * 2 ^ 256 + fdL s lo hi) % p = (hi * 2 ^ 256 + lo) % p := by
  have e : fdH s lo hi * 2 ^ 256 + fdL s lo hi = hi * s + lo := by unfold fdH fdL; rw [Nat.mul_comm]; exact Nat.div_add_mod _ _
  rw [e, ← h, Nat.mul_add, Nat.add_assoc, Nat.add_comm (hi * p), Nat.add_mul_mod_self_right]
theorem fdK_mod {p s lo hi : Nat} (h : p + s = 2 ^ 256) : ∀ k, ((fdK s lo hi k).2 * 2 ^ 256 + (fdK s lo hi k).1) % p = (hi * 2 ^ 256 + lo) % p
  | 0 => rfl
  | k + 1 => (fd_mod h).trans (fdK_mod h k)
theorem fdL_lt (s lo hi : Nat) : fdL s lo hi < 2 ^ 256 := Nat.mod_lt _ (by decide)
theorem fdK_lt {s lo hi : Nat} (hlo : lo < 2 ^ 256) (hhi : hi < 2 ^ 256) (hs : s < 2 ^ 129) : ∀ k, (fdK s lo hi k).1 < 2 ^ 256 ∧ (fdK s lo hi k).2 < 2 ^ 256
  | 0 => ⟨hlo, hhi⟩
  | k + 1 => by
    obtain ⟨h1, h2⟩ := fdK_lt hlo hhi hs k
    refine ⟨fdL_lt _ _ _, ?_⟩
    show fdH s (fdK s lo hi k).1 (fdK s lo hi k).2 < 2 ^ 256
    unfold fdH
    have : (fdK s lo hi k).2 * s ≤ (2 ^ 256 - 1) * (2 ^ 129 - 1) := Nat.mul_le_mul (by omega) (by omega)
    omega
theorem fdK_end {s lo hi : Nat} (hlo : lo < 2 ^ 256) (hhi : hi < 2 ^ 256) (hs : s < 2 ^ 129) : (fdK s lo hi 4).2 = 0 := by
  have step : ∀ k, (fdK s lo hi (k + 1)).2 = ((fdK s lo hi k).2 * s + (fdK s lo hi k).1) / 2 ^ 256 ∧ (fdK s lo hi (k + 1)).1 = ((fdK s lo hi k).2 * s + (fdK s lo hi k).1) % 2 ^ 256 := fun k => ⟨rfl, rfl⟩
  obtain ⟨a1, b1⟩ := step 0
  obtain ⟨a2, b2⟩ := step 1
  obtain ⟨a3, b3⟩ := step 2
  obtain ⟨a4, b4⟩ := step 3
  have l0 := (fdK_lt hlo hhi hs 0).1
  have l1 := (fdK_lt hlo hhi hs 1).1
  have l2 := (fdK_lt hlo hhi hs 2).1
  have m0 : (fdK s lo hi 0).2 * s ≤ (2 ^ 256 - 1) * (2 ^ 129 - 1) := Nat.mul_le_mul (by have := (fdK_lt hlo hhi hs 0).2; omega) (by omega)
  have c1 : (fdK s lo hi 1).2 ≤ 2 ^ 129 := by rw [a1]; omega
  have m1 : (fdK s lo hi 1).2 * s ≤ 2 ^ 129 * (2 ^ 129 - 1) := Nat.mul_le_mul c1 (by omega)
  have c2 : (fdK s lo hi 2).2 ≤ 4 := by rw [a2]; omega
  have m2 : (fdK s lo hi 2).2 * s ≤ 4 * (2 ^ 129 - 1) := Nat.mul_le_mul c2 (by omega)
  have c3 : (fdK s lo hi 3).2 ≤ 1 := by rw [a3]; omega
  rw [a4]
  have hcase : (fdK s lo hi 3).2 = 0 ∨ (fdK s lo hi 3).2 = 1 := by omega
  rcases hcase with h | h
  · have := (fdK_lt hlo hhi hs 3).1
    rw [h, Nat.zero_mul, Nat.zero_add, Nat.div_eq_of_lt this]
  · rw [h, Nat.one_mul]
    have hb3 : (fdK s lo hi 3).1 ≤ 4 * (2 ^ 129 - 1) := by
      rw [a3] at h
      rw [b3]
      omega
    omega
theorem fdK_first {s lo hi : Nat} (hlo : lo < 2 ^ 256) (hhi : hi < 2 ^ 256) (hs : s < 2 ^ 129) : ∃ N, (fdK s lo hi N).2 = 0 ∧ ∀ k, k < N → (fdK s lo hi k).2 ≠ 0 := by
  have h4 := fdK_end hlo hhi hs
  by_cases h0 : (fdK s lo hi 0).2 = 0
  · exact ⟨0, h0, by omega⟩
  by_cases h1 : (fdK s lo hi 1).2 = 0
  · refine ⟨1, h1, fun k hk => ?_⟩
    have : k = 0 := by omega
    subst this; exact h0
  by_cases h2 : (fdK s lo hi 2).2 = 0
  · refine ⟨2, h2, fun k hk => ?_⟩
    have : k = 0 ∨ k = 1 := by omega
    rcases this with rfl | rfl <;> assumption
  by_cases h3 : (fdK s lo hi 3).2 = 0
  · refine ⟨3, h3, fun k hk => ?_⟩
    have : k = 0 ∨ k = 1 ∨ k = 2 := by omega
    rcases this with rfl | rfl | rfl <;> assumption
  · refine ⟨4, h4, fun k hk => ?_⟩
    have : k = 0 ∨ k = 1 ∨ k = 2 ∨ k = 3 := by omega
    rcases this with rfl | rfl | rfl | rfl <;> assumption
theorem fold_last {p s lo hi N : Nat} (hp : p + s = 2 ^ 256) (hlo : lo < 2 ^ 256) (hhi : hi < 2 ^ 256) (hs : s < 2 ^ 129) (h : (fdK s lo hi N).2 = 0) :
    (if (fdK s lo hi N).1 < p then (fdK s lo hi N).1 else (fdK s lo hi N).1 - p) = (hi * 2 ^ 256 + lo) % p := by
  have hm := fdK_mod (lo := lo) (hi := hi) hp N
  rw [h, Nat.zero_mul, Nat.zero_add] at hm
  have hl := (fdK_lt hlo hhi hs N).1
  rw [← hm]
  split
  · rename_i h1; rw [Nat.mod_eq_of_lt h1]
  · rename_i h1
    rw [Nat.mod_eq_sub_mod (by omega), Nat.mod_eq_of_lt (by omega)]
def pwM (A E m k : Nat) : Nat := A ^ (E / 2 ^ (256 - k)) % m
theorem pwM_zero {A E m : Nat} (hE : E < 2 ^ 256) (hm : 1 < m) : pwM A E m 0 = 1 := by
  unfold pwM; rw [Nat.sub_zero, Nat.div_eq_of_lt hE, Nat.pow_zero, Nat.mod_eq_of_lt hm]
theorem pwM_last (A E m : Nat) : pwM A E m 256 = A ^ E % m := by
  unfold pwM; rw [Nat.sub_self, Nat.pow_zero, Nat.div_one]
theorem pwM_bits {E k : Nat} (hk : k < 256) : E / 2 ^ (256 - (k + 1)) = 2 * (E / 2 ^ (256 - k)) + bitN E (255 - k) := by
  unfold bitN
  rw [show 256 - k = (255 - k) + 1 from by omega, show 256 - (k + 1) = 255 - k from by omega, Nat.pow_succ, ← Nat.div_div_eq_div_mul]
  omega
theorem pwM_sq {A E m k : Nat} : pwM A E m k * pwM A E m k % m = A ^ (2 * (E / 2 ^ (256 - k))) % m := by
  unfold pwM
  rw [← Nat.mul_mod, ← Nat.pow_add]
  congr 2; omega
theorem pwM_step0 {A E m k : Nat} (hk : k < 256) (h : bitN E (255 - k) = 0) : pwM A E m k * pwM A E m k % m = pwM A E m (k + 1) := by
  rw [pwM_sq]; unfold pwM; rw [pwM_bits hk, h, Nat.add_zero]
theorem pwM_step1 {A E m k : Nat} (hk : k < 256) (h : bitN E (255 - k) = 1) : pwM A E m k * pwM A E m k % m * A % m = pwM A E m (k + 1) := by
  rw [pwM_sq]; unfold pwM; rw [pwM_bits hk, h, Nat.pow_succ, Nat.mul_mod, Nat.mod_mod, ← Nat.mul_mod]
end Go.W
/-
  The document's own answers, package field: contracts, and the ways of their texts.
-/
namespace Go.W
def SmallF : List Value → Option (Bool × Value)
  | [.int .i64 w] => some (true, num (smallN w))
  | _ => none
def smallT (w : Int) : Option Value := bif w == 1 then some (num sN) else some (num sP)
theorem smallT_eq (w : Int) : smallT w = some (num (smallN w)) := by
  unfold smallT smallN
  by_cases h : w = 1
  · subst h; rfl
  · rw [if_neg h, show (w == 1) = false from beq_eq_false_iff_ne.2 h]; rfl
def PrimeF : List Value → Option (Bool × Value)
  | [.int .i64 w] => some (true, num (primeN w))
  | _ => none
def PrimeRT (w : Int) : Option Value :=
  r2 (num 0) (num (smallN w)) <| bif w != 0 then (bif w != 1 then some (num 0) else some (sD (num 0) (num (smallN w)))) else some (sD (num 0) (num (smallN w)))
theorem sD_small {w : Int} (h : okW w = true) : sD (num 0) (num (smallN w)) = num (primeN w) := by
  obtain ⟨h1, h2, h3, h4⟩ := primeN_small h
  rw [sD_num, Nat.zero_mod, Nat.mod_eq_of_lt (show smallN w < 2 ^ 256 by omega)]
  congr 1; omega
theorem PrimeRT_eq (w : Int) : PrimeRT w = some (num (primeN w)) := by
  unfold PrimeRT
  rw [r2_num]
  by_cases h0 : w = 0
  · subst h0; rw [sD_small rfl]; rfl
  · by_cases h1 : w = 1
    · subst h1; rw [sD_small rfl]; rfl
    · rw [show (w != 0) = true from bne_iff_ne.2 h0, show (w != 1) = true from bne_iff_ne.2 h1]
      unfold primeN; rw [if_neg h0, if_neg h1]; rfl
def okF : List Value → Option (Bool × Value)
  | [.int .i64 w] => some (true, .bool (okW w))
  | _ => none
def okT (w : Int) : Option Value := bif w == 0 then some (.bool true) else some (.bool (w == 1))
theorem okT_eq (w : Int) : okT w = some (.bool (okW w)) := by
  unfold okT okW
  cases w == 0 <;> rfl
def foldN (w : Int) (lo hi : Nat) : Nat := (hi * 2 ^ 256 + lo) % primeN w
def FoldF : List Value → Option (Bool × Value)
  | [.int .i64 w, lo, hi] => some (okW w && isNum lo && isNum hi, num (foldN w (unnum lo) (unnum hi)))
  | _ => none
def fdR {α : Type} (lo hi s : Value) (k : Nat → Nat → Option α) (out : Option α) : Option α :=
  bif !(eqV hi (num 0)) then (r2 hi s <| r2 lo (mL hi s) <| r2 (mH hi s) (one (aC lo (mL hi s))) <| k (unnum lo + unnum (mL hi s)) (unnum (mH hi s) + unnum (one (aC lo (mL hi s))))) else out
theorem cells4_mod (X : Nat) : cells4 (X % 2 ^ 256) = cells4 X := by
  have := congrArg (fun v : Value => v.cells.toList) (num_mod X)
  exact this
theorem fdR_eq {α : Type} {lo hi s : Nat} (hlo : lo < 2 ^ 256) (hhi : hi < 2 ^ 256) (hs : s < 2 ^ 129) (h0 : hi ≠ 0) (K : List Value → List Value → Option α) (out : Option α) :
    fdR (num lo) (num hi) (num s) (fun x y => K (cells4 x) (cells4 y)) out = K (cells4 (fdL s lo hi)) (cells4 (fdH s lo hi)) := by
  have hs' : s < 2 ^ 256 := by omega
  unfold fdR
  have hne : eqV (num hi) (num 0) = false := by rw [eqV_num]; exact decide_eq_false (by rw [Nat.mod_eq_of_lt hhi]; simpa using h0)
  have hm : hi * s ≤ (2 ^ 256 - 1) * (2 ^ 129 - 1) := Nat.mul_le_mul (by omega) (by omega)
  rw [hne, mL_num, mH_num hhi hs', one_num (aC_lt _ _), r2_num, r2_num, r2_num, aC_num, unnum_num, unnum_num, unnum_num, unnum_num, Nat.mod_eq_of_lt hlo]
  show K (cells4 (lo + hi * s % 2 ^ 256)) (cells4 (hi * s / 2 ^ 256 % 2 ^ 256 + (lo + hi * s % 2 ^ 256) / 2 ^ 256 % 2 ^ 256)) = _
  unfold fdL fdH
  generalize hi * s = z at *
  have e1 : (z + lo) % 2 ^ 256 = (lo + z % 2 ^ 256) % 2 ^ 256 := by omega
  have e2 : z / 2 ^ 256 % 2 ^ 256 + (lo + z % 2 ^ 256) / 2 ^ 256 % 2 ^ 256 = (z + lo) / 2 ^ 256 := by omega
  rw [e1, cells4_mod, e2]
theorem fdR_out {α : Type} {lo s : Nat} (k : Nat → Nat → Option α) (out : Option α) : fdR (num lo) (num 0) (num s) k out = out := by
  unfold fdR
  rw [show eqV (num 0) (num 0) = true from by rw [eqV_num]; exact decide_eq_true rfl]; rfl
def foldEnd (lo p : Value) : Option Value := r2 lo p <| bif decide (cI lo p ≥ 0) then (r2 lo p <| some (sD lo p)) else some lo
theorem foldEnd_eq {L p : Nat} (hL : L < 2 ^ 256) (hp : p < 2 ^ 256) : foldEnd (num L) (num p) = some (num (if L < p then L else L - p)) := by
  unfold foldEnd
  rw [r2_num, r2_num, cI_num hL hp]
  by_cases h : L < p
  · rw [if_pos h, decide_eq_false (by unfold cmpI; rw [if_pos h]; decide)]; rfl
  · rw [if_neg h, decide_eq_true (by unfold cmpI; rw [if_neg h]; split <;> decide), sD_num, Nat.mod_eq_of_lt hL, Nat.mod_eq_of_lt hp, show 2 ^ 256 + L - p = L - p + 2 ^ 256 * 1 from by omega, num_add_mul]; rfl
def redN (w : Int) (A : Nat) : Nat := if okW w = true then A % primeN w else 0
def faddN (w : Int) (A B : Nat) : Nat := redN w (A + B)
def fmulN (w : Int) (A B : Nat) : Nat := redN w (A * B)
def fsubN (w : Int) (A B : Nat) : Nat := redN w (A + (primeN w - B % primeN w))
def RedF : List Value → Option (Bool × Value)
  | [.int .i64 w, a] => some (isNum a, num (redN w (unnum a)))
  | _ => none
def FAddF : List Value → Option (Bool × Value)
  | [.int .i64 w, a, b] => some (isNum a && isNum b, num (faddN w (unnum a) (unnum b)))
  | _ => none
def FSubF : List Value → Option (Bool × Value)
  | [.int .i64 w, a, b] => some (isNum a && isNum b, num (fsubN w (unnum a) (unnum b)))
  | _ => none
def FMulF : List Value → Option (Bool × Value)
  | [.int .i64 w, a, b] => some (isNum a && isNum b, num (fmulN w (unnum a) (unnum b)))
  | _ => none
theorem redN_lt {w : Int} (A : Nat) : redN w A < 2 ^ 256 := by
  unfold redN
  split
  · rename_i h
    obtain ⟨_, h2, _, h4⟩ := primeN_small h
    exact Nat.lt_trans (Nat.mod_lt _ (by omega)) h2
  · decide
def rFold (w : Int) (lo hi : Value) : Option Value := req (okW w && isNum lo && isNum hi) (some (num (foldN w (unnum lo) (unnum hi))))
theorem rFold_num {w : Int} (h : okW w = true) (X Y : Nat) : rFold w (num X) (num Y) = some (num ((Y % 2 ^ 256 * 2 ^ 256 + X % 2 ^ 256) % primeN w)) := by
  unfold rFold foldN
  rw [h, isNum_num, isNum_num, req_true (b := true && true && true) rfl, unnum_num, unnum_num]
def RedRT (w : Int) (a : Value) : Option Value := bif !(okW w) then some (num 0) else rFold w a (num 0)
theorem RedRT_eq {w : Int} {A : Nat} (hA : A < 2 ^ 256) : RedRT w (num A) = some (num (redN w A)) := by
  unfold RedRT redN
  by_cases h : okW w = true
  · rw [rFold_num h, h, if_pos rfl, Nat.mod_eq_of_lt hA]
    show some (num ((0 % 2 ^ 256 * 2 ^ 256 + A) % primeN w)) = _
    rw [Nat.zero_mod, Nat.zero_mul, Nat.zero_add]
  · rw [if_neg h, show okW w = false from Bool.eq_false_iff.2 h]; rfl
def rRed (w : Int) (a : Value) : Value := num (redN w (unnum a))
def FAddRT (w : Int) (a b : Value) : Option Value :=
  bif !(okW w) then some (num 0) else req (isNum a) <| req (isNum b) <| r2 (rRed w a) (rRed w b) <| rFold w (aS (rRed w a) (rRed w b)) (one (aC (rRed w a) (rRed w b)))
theorem FAddRT_eq {w : Int} {A B : Nat} (hA : A < 2 ^ 256) (hB : B < 2 ^ 256) : FAddRT w (num A) (num B) = some (num (faddN w A B)) := by
  unfold FAddRT faddN rRed
  by_cases h : okW w = true
  · have h1 := redN_lt (w := w) A
    have h2 := redN_lt (w := w) B
    rw [unnum_lt hA, unnum_lt hB, isNum_num, isNum_num, req_true rfl, req_true rfl, r2_num, aS_num, one_num (aC_lt _ _), rFold_num h, aC_num, h]
    show some _ = _
    rw [Nat.mod_eq_of_lt h1, Nat.mod_eq_of_lt h2]
    have e : (redN w A + redN w B) / 2 ^ 256 % 2 ^ 256 * 2 ^ 256 + (redN w A + redN w B) % 2 ^ 256 = redN w A + redN w B := by omega
    rw [e]
    unfold redN
    rw [h, if_pos rfl, if_pos rfl, if_pos rfl, ← Nat.add_mod]
  · unfold redN; rw [if_neg h, show okW w = false from Bool.eq_false_iff.2 h]; rfl
def FMulRT (w : Int) (a b : Value) : Option Value := bif !(okW w) then some (num 0) else r2 a b <| rFold w (mL a b) (mH a b)
theorem FMulRT_eq {w : Int} {A B : Nat} (hA : A < 2 ^ 256) (hB : B < 2 ^ 256) : FMulRT w (num A) (num B) = some (num (fmulN w A B)) := by
  unfold FMulRT fmulN redN
  by_cases h : okW w = true
  · rw [r2_num, mL_num, mH_num hA hB, rFold_num h, h, if_pos rfl]
    have hXY : A * B < 2 ^ 256 * 2 ^ 256 := Nat.mul_lt_mul'' hA hB
    generalize A * B = z at *
    have h2 : z / 2 ^ 256 < 2 ^ 256 := Nat.div_lt_of_lt_mul hXY
    rw [Nat.mod_eq_of_lt h2, show z / 2 ^ 256 * 2 ^ 256 + z % 2 ^ 256 = z from by omega]; rfl
  · rw [if_neg h, show okW w = false from Bool.eq_false_iff.2 h]; rfl
def FSubRT (w : Int) (a b : Value) : Option Value :=
  bif !(okW w) then some (num 0) else req (isNum b) <| r2 (num (primeN w)) (rRed w b) <| r2 a (sD (num (primeN w)) (rRed w b)) <| some (num (faddN w (unnum a) (unnum (sD (num (primeN w)) (rRed w b)))))
theorem FSubRT_eq {w : Int} {A B : Nat} (hA : A < 2 ^ 256) (hB : B < 2 ^ 256) : FSubRT w (num A) (num B) = some (num (fsubN w A B)) := by
  unfold FSubRT fsubN rRed
  by_cases h : okW w = true
  · obtain ⟨_, hp, _, hp2⟩ := primeN_small h
    have h2 := redN_lt (w := w) B
    rw [unnum_lt hA, unnum_lt hB, isNum_num, req_true rfl, r2_num, sD_num, r2_num, Nat.mod_eq_of_lt hp, Nat.mod_eq_of_lt h2, h]
    show some _ = _
    have hr : redN w B = B % primeN w := by unfold redN; rw [h, if_pos rfl]
    have hlt : B % primeN w < primeN w := Nat.mod_lt _ (by omega)
    rw [hr, show 2 ^ 256 + primeN w - B % primeN w = primeN w - B % primeN w + 2 ^ 256 * 1 from by omega, num_add_mul, unnum_lt (by omega)]
    rfl
  · unfold redN; rw [if_neg h, show okW w = false from Bool.eq_false_iff.2 h]; rfl
def powS (A E m : Nat) : Nat :=
  match A with
  | 0 => powF 256 0 E m
  | a + 1 => powF 256 (a + 1) E m
theorem powS_eq {A E m : Nat} (h : E < 2 ^ 256) : powS A E m = A ^ E % m := by
  cases A <;> exact powF_eq 256 _ E m h
def powN (w : Int) (A E : Nat) : Nat := if okW w = true then powS A E (primeN w) else 0
theorem powN_ok {w : Int} {A E : Nat} (hw : okW w = true) (hE : E < 2 ^ 256) : powN w A E = A ^ E % primeN w := by unfold powN; rw [if_pos hw, powS_eq hE]
theorem powN_no {w : Int} {A E : Nat} (hw : ¬ okW w = true) : powN w A E = 0 := by unfold powN; rw [if_neg hw]
theorem powN_lt {w : Int} {A E : Nat} (hE : E < 2 ^ 256) : powN w A E < 2 ^ 256 := by
  by_cases h : okW w = true
  · obtain ⟨_, h2, _, h4⟩ := primeN_small h
    rw [powN_ok h hE]; exact Nat.lt_trans (Nat.mod_lt _ (by omega)) h2
  · rw [powN_no h]; decide
def PowF : List Value → Option (Bool × Value)
  | [.int .i64 w, a, e] => some (isNum a && isNum e, num (powN w (unnum a) (unnum e)))
  | _ => none
def powR {α : Type} (w : Int) (a e o : Value) (i : Int) (k : Nat → Option α) : Option α :=
  r2 o o <| req (isNum e) <| bif bitI (unnum e) i == 1 then (r2 (num (fmulN w (unnum o) (unnum o))) a <| k (fmulN w (unnum (num (fmulN w (unnum o) (unnum o)))) (unnum a))) else k (fmulN w (unnum o) (unnum o))
theorem powR_eq {α : Type} {w : Int} (h : okW w = true) {A E k : Nat} (hA : A < 2 ^ 256) (hE : E < 2 ^ 256) (hk : k < 256) (K : Nat → Option α) :
    powR w (num A) (num E) (num (pwM A E (primeN w) k)) (255 - (k : Int)) K = K (pwM A E (primeN w) (k + 1)) := by
  obtain ⟨_, hp, _, hp2⟩ := primeN_small h
  have hM : ∀ j, pwM A E (primeN w) j < 2 ^ 256 := fun j => Nat.lt_trans (Nat.mod_lt _ (by omega)) hp
  have hmul : ∀ X Y, fmulN w X Y = X * Y % primeN w := fun X Y => by unfold fmulN redN; rw [h, if_pos rfl]
  have hi : (255 - (k : Int)) = ((255 - k : Nat) : Int) := by omega
  unfold powR
  rw [r2_num, isNum_num, req_true rfl, unnum_lt hE, hi, bitI_nat (by omega), unnum_lt (hM k), r2_num, unnum_lt hA, hmul, hmul, unnum_lt (Nat.lt_trans (Nat.mod_lt _ (by omega)) hp)]
  rcases Nat.mod_two_eq_zero_or_one (E / 2 ^ (255 - k)) with h0 | h1
  · have hb : bitN E (255 - k) = 0 := h0
    rw [hb, pwM_step0 hk hb]; rfl
  · have hb : bitN E (255 - k) = 1 := h1
    rw [hb, pwM_step1 hk hb]; rfl
def InvF : List Value → Option (Bool × Value)
  | [.int .i64 w, a] => some (isNum a, num (powN w (unnum a) (primeN w - 2)))
  | _ => none
def InvRT (w : Int) (a two : Value) : Option Value := r2 (num (primeN w)) two <| r2 a (sD (num (primeN w)) two) <| some (num (powN w (unnum a) (unnum (sD (num (primeN w)) two))))
theorem InvRT_eq {w : Int} {A : Nat} (hA : A < 2 ^ 256) : InvRT w (num A) (num 2) = some (num (powN w A (primeN w - 2))) := by
  unfold InvRT
  rw [sD_num, r2_num, r2_num, unnum_lt hA, unnum_num]
  by_cases h : okW w = true
  · obtain ⟨_, hp, _, hp2⟩ := primeN_small h
    rw [Nat.mod_eq_of_lt hp]
    congr 3
    omega
  · rw [powN_no h, powN_no h]
end Go.W
/-
  Roots modulo p; the laws of package field as trees over numbers.
-/
namespace Go.W
def qP : Nat := 28948022309329048855892746252171976963317496166410141009864396001977208667916
theorem qP_eq : qP = (pP + 1) / 4 := by decide
def rootR (A : Nat) : Nat := powN 0 (redN 0 A) qP
def rootIs (A : Nat) : Bool := decide (fmulN 0 (rootR A) (rootR A) = redN 0 A)
def rootNum (A : Nat) : Nat := if fmulN 0 (rootR A) (rootR A) = redN 0 A then (if rootR A % 2 = 1 then fsubN 0 0 (rootR A) else rootR A) else 0
def rootV (A : Nat) : Value := .tuple #[num (rootNum A), .bool (rootIs A)]
def RootF : List Value → Option (Bool × Value)
  | [a] => some (isNum a, rootV (unnum a))
  | _ => none
def RootEnd (r ra : Value) (x : Nat) : Option Value :=
  r2 r r <| bif !(eqV (num (fmulN 0 (unnum r) (unnum r))) ra) then some (.tuple #[num 0, .bool false]) else
    bif iAnd .u64 ((dig x 0 : Nat) : Int) 1 == 1 then (r2 (num 0) r <| some (.tuple #[num (fsubN 0 (unnum (num 0)) (unnum r)), .bool true])) else some (.tuple #[r, .bool true])
def RootRT (a : Value) : Option Value :=
  req (isNum a) <| r2 (rRed 0 a) (num qP) <| RootEnd (num (powN 0 (unnum (rRed 0 a)) (unnum (num qP)))) (rRed 0 a) (powN 0 (unnum (rRed 0 a)) (unnum (num qP)))
theorem qP_lt : qP < 2 ^ 256 := by decide
theorem RootEnd_eq {R B : Nat} (hR : R < 2 ^ 256) (hB : B < 2 ^ 256) : RootEnd (num R) (num B) R =
    some (.tuple #[num (if fmulN 0 R R = B then (if R % 2 = 1 then fsubN 0 0 R else R) else 0), .bool (decide (fmulN 0 R R = B))]) := by
  unfold RootEnd
  have hm : fmulN 0 R R < 2 ^ 256 := redN_lt _
  rw [r2_num, unnum_lt hR, eqV_num, Nat.mod_eq_of_lt hm, Nat.mod_eq_of_lt hB, unnum_lt (show 0 < 2 ^ 256 by decide), r2_num]
  by_cases h : fmulN 0 R R = B
  · rw [if_pos h, decide_eq_true h]
    have e : iAnd .u64 ((dig R 0 : Nat) : Int) 1 = ((R % 2 : Nat) : Int) := by
      have := iAnd_u (a := dig R 0) (b := 1) (dig_lt _ _) (by omega)
      rw [show ((1 : Nat) : Int) = 1 from rfl] at this
      rw [this, Nat.and_one_is_mod]
      congr 1
      show R % 18446744073709551616 % 2 = R % 2
      omega
    rw [e]
    rcases Nat.mod_two_eq_zero_or_one R with h0 | h1
    · rw [h0, if_neg (by decide)]; rfl
    · rw [h1, if_pos rfl]; rfl
  · rw [if_neg h, decide_eq_false h]; rfl
theorem RootRT_eq {A : Nat} (hA : A < 2 ^ 256) : RootRT (num A) = some (rootV A) := by
  unfold RootRT rRed rootV rootNum rootIs rootR
  rw [isNum_num, req_true rfl, r2_num, unnum_lt hA, unnum_lt (redN_lt A), unnum_lt qP_lt]
  exact RootEnd_eq (powN_lt qP_lt) (redN_lt _)
def readN (w : Int) (X : Nat) : Nat := if okW w = true then (if X < primeN w then X else 0) else 0
def readE (w : Int) (X : Nat) : Int := if okW w = true then (if X < primeN w then 0 else 2) else 1
def readV (w : Int) (X : Nat) : Value := .tuple #[num (readN w X), i64 (readE w X)]
def ReadF : List Value → Option (Bool × Value)
  | [.int .i64 w, b] => some (isB32 b, readV w (unbytes b))
  | _ => none
def oneN (w : Int) : Int := if w < 0 then w else if w > 20 then w else w.tmod 2
def OneF : List Value → Option (Bool × Value)
  | [.int .i64 w] => some (true, i64 (oneN w))
  | _ => none
def oneT (w : Int) : Option Value := bif decide (w < 0) then some (i64 w) else bif decide (w > 20) then some (i64 w) else some (i64 (w.tmod 2))
theorem oneT_eq (w : Int) : oneT w = some (i64 (oneN w)) := by
  unfold oneT oneN
  by_cases h : w < 0
  · rw [decide_eq_true h, if_pos h]; rfl
  · rw [decide_eq_false h, if_neg h]
    by_cases h2 : w > 20
    · rw [decide_eq_true h2, if_pos h2]; rfl
    · rw [decide_eq_false h2, if_neg h2]; rfl
def FExT (w : Int) (a b : Value) : Option Value :=
  bif eqV (num (primeN w)) (num (primeN w)) then (req (isNum a) <| req (isNum a) <| bif eqV (num (redN w (unnum a))) (num (redN w (unnum a))) then (r2 a b <| r2 a b <| bif eqV (num (faddN w (unnum a) (unnum b))) (num (faddN w (unnum a) (unnum b))) then
    (r2 a b <| r2 a b <| bif eqV (num (fsubN w (unnum a) (unnum b))) (num (fsubN w (unnum a) (unnum b))) then (r2 a b <| r2 a b <| bif eqV (num (fmulN w (unnum a) (unnum b))) (num (fmulN w (unnum a) (unnum b))) then tru else fls) else fls) else fls) else fls) else fls
theorem FExT_eq (w : Int) (A B : Nat) : FExT w (num A) (num B) = tru := by
  unfold FExT
  have e : ∀ X, eqV (num X) (num X) = true := fun X => by rw [eqV_num]; exact decide_eq_true rfl
  simp only [r2_num, isNum_num, e, cond_true, req_true]
def FPoT (w : Int) (a e : Value) : Option Value :=
  req (isNum a) <| req (isNum a) <| r2 a e <| r2 a e <| bif eqV (num (powN w (unnum a) (unnum e))) (num (powN w (unnum a) (unnum e))) then (req (isNum a) <| req (isNum a) <| bif eqV (num (powN w (unnum a) (primeN w - 2))) (num (powN w (unnum a) (primeN w - 2))) then
    (bif eqV (num (rootNum (unnum a))) (num (rootNum (unnum a))) then (bif rootIs (unnum a) == rootIs (unnum a) then tru else fls) else fls) else fls) else fls
theorem FPoT_eq (w : Int) (A B : Nat) : FPoT w (num A) (num B) = tru := by
  unfold FPoT
  have e : ∀ X, eqV (num X) (num X) = true := fun X => by rw [eqV_num]; exact decide_eq_true rfl
  simp only [r2_num, isNum_num, e, cond_true, req_true, beq_self_eq_true]
end Go.W
/-
  The document's own way from bytes to a number.
-/
namespace Go.W
def or8R (acc : Int) (x : Nat) : Int := iOr .u64 (iShl .u64 acc 8) (IntKind.u64.wrap (x : Int))
def of8R (x0 x1 x2 x3 x4 x5 x6 x7 : Nat) : Int := or8R (or8R (or8R (or8R (or8R (or8R (or8R (or8R 0 x0) x1) x2) x3) x4) x5) x6) x7
theorem or8R_eq {A x : Nat} (hA : A < 72057594037927936) (hx : x < 256) : or8R (A : Int) x = ((A * 256 + x : Nat) : Int) := by
  unfold or8R
  have e1 : IntKind.u64.wrap (x : Int) = (x : Int) := by rw [wrap_u64]; omega
  have e2 : iShl .u64 (A : Int) 8 = ((A * 256 : Nat) : Int) := by
    unfold iShl
    rw [show min (8 : Int).toNat IntKind.u64.bits = 8 from rfl, wrap_u64]
    omega
  rw [e1, e2, iOr_u (by omega) (by omega)]
  have := Nat.shiftLeft_add_eq_or_of_lt (b := x) (i := 8) hx A
  rw [Nat.shiftLeft_eq] at this
  rw [show A * 256 = A * 2 ^ 8 from rfl, ← this]
theorem of8R_eq {x0 x1 x2 x3 x4 x5 x6 x7 : Nat} (h0 : x0 < 256) (h1 : x1 < 256) (h2 : x2 < 256) (h3 : x3 < 256) (h4 : x4 < 256) (h5 : x5 < 256) (h6 : x6 < 256) (h7 : x7 < 256) :
    of8R x0 x1 x2 x3 x4 x5 x6 x7 = of8 x0 x1 x2 x3 x4 x5 x6 x7 := by
  rw [of8_eq h0 h1 h2 h3 h4 h5 h6 h7]
  unfold of8R
  have f0 := or8R_eq (A := 0) (x := x0) (by decide) h0
  rw [Nat.zero_mul, Nat.zero_add, show ((0 : Nat) : Int) = 0 from rfl] at f0
  rw [f0, or8R_eq (by omega) h1, or8R_eq (by omega) h2, or8R_eq (by omega) h3, or8R_eq (by omega) h4, or8R_eq (by omega) h5, or8R_eq (by omega) h6, or8R_eq (by omega) h7]
def OfRT (a0 a1 a2 a3 a4 a5 a6 a7 b0 b1 b2 b3 b4 b5 b6 b7 c0 c1 c2 c3 c4 c5 c6 c7 d0 d1 d2 d3 d4 d5 d6 d7 : Nat) : Option Value :=
  some (.agg #[.int .u64 (of8R d0 d1 d2 d3 d4 d5 d6 d7), .int .u64 (of8R c0 c1 c2 c3 c4 c5 c6 c7), .int .u64 (of8R b0 b1 b2 b3 b4 b5 b6 b7), .int .u64 (of8R a0 a1 a2 a3 a4 a5 a6 a7)])
theorem of8R_dig {a : Nat} (h : a < 18446744073709551616) : of8R (a / 2 ^ 56 % 256) (a / 2 ^ 48 % 256) (a / 2 ^ 40 % 256) (a / 2 ^ 32 % 256) (a / 2 ^ 24 % 256) (a / 2 ^ 16 % 256) (a / 2 ^ 8 % 256) (a % 256) = (a : Int) := by
  rw [of8R_eq (Nat.mod_lt _ (by decide)) (Nat.mod_lt _ (by decide)) (Nat.mod_lt _ (by decide)) (Nat.mod_lt _ (by decide)) (Nat.mod_lt _ (by decide)) (Nat.mod_lt _ (by decide)) (Nat.mod_lt _ (by decide)) (Nat.mod_lt _ (by decide)), of8_dig h]
end Go.W
/-
  What the laws of package field need of numbers modulo a prime.
-/
namespace Go.W
theorem redN_ok {w : Int} (h : okW w = true) (A : Nat) : redN w A = A % primeN w := by unfold redN; rw [if_pos h]
theorem faddN_ok {w : Int} (h : okW w = true) (A B : Nat) : faddN w A B = (A + B) % primeN w := redN_ok h _
theorem fmulN_ok {w : Int} (h : okW w = true) (A B : Nat) : fmulN w A B = A * B % primeN w := redN_ok h _
theorem fsubN_ok {w : Int} (h : okW w = true) (A B : Nat) : fsubN w A B = (A + (primeN w - B % primeN w)) % primeN w := redN_ok h _
theorem faddN_lt {w : Int} (A B : Nat) : faddN w A B < 2 ^ 256 := redN_lt _
theorem fmulN_lt {w : Int} (A B : Nat) : fmulN w A B < 2 ^ 256 := redN_lt _
theorem fsubN_lt {w : Int} (A B : Nat) : fsubN w A B < 2 ^ 256 := redN_lt _
theorem redN_no {w : Int} (h : ¬ okW w = true) (A : Nat) : redN w A = 0 := by unfold redN; rw [if_neg h]
theorem sub_add_mod {p A B : Nat} (hp : 0 < p) : ((A + (p - B % p)) % p + B) % p = A % p := by
  have h := Nat.mod_lt B hp
  have e := Nat.div_add_mod B p
  rw [Nat.mod_add_mod]
  have : A + (p - B % p) + B = A + p * (B / p + 1) := by rw [Nat.mul_add, Nat.mul_one]; omega
  rw [this, Nat.add_mul_mod_self_left]
theorem neg_add {p A : Nat} (hp : 0 < p) : ((0 + (p - A % p)) % p + A) % p = 0 := by rw [sub_add_mod hp, Nat.zero_mod]
theorem add_cancel_mod {p A B C : Nat} (hp : 0 < p) (h : (A + C) % p = (B + C) % p) : A % p = B % p := by
  have key : ∀ X, X % p = ((X + C) % p + (p - C % p)) % p := by
    intro X
    have h1 := Nat.mod_lt C hp
    have e := Nat.div_add_mod C p
    rw [Nat.mod_add_mod]
    have : X + C + (p - C % p) = X + p * (C / p + 1) := by rw [Nat.mul_add, Nat.mul_one]; omega
    rw [this, Nat.add_mul_mod_self_left]
  rw [key A, key B, h]
theorem okW_pos {w : Int} (h : okW w = true) : 1 < primeN w ∧ 0 < primeN w ∧ primeN w < 2 ^ 256 := by
  obtain ⟨_, h2, _, h4⟩ := primeN_small h; omega
theorem inv_ok {w : Int} (h : okW w = true) {A : Nat} (hA : A % primeN w ≠ 0) : A * powN w A (primeN w - 2) % primeN w = 1 := by
  obtain ⟨g, hg⟩ := primeN_gen h
  have hp := okW_pos h
  rw [powN_ok h (by omega), Nat.mul_mod_mod]
  exact hg.inv hA
theorem inv_zero {w : Int} (h : okW w = true) {A : Nat} (hA : A % primeN w = 0) : powN w A (primeN w - 2) = 0 := by
  obtain ⟨_, h2, _, h4⟩ := primeN_small h
  rw [powN_ok h (by omega), Nat.pow_mod, hA, Nat.zero_pow (by omega), Nat.zero_mod]
end Go.W
/-
  The laws of package field as trees over numbers: sums and products.
-/
namespace Go.W
def fA (w : Int) (x y : Value) : Value := num (faddN w (unnum x) (unnum y))
def fM (w : Int) (x y : Value) : Value := num (fmulN w (unnum x) (unnum y))
def fS (w : Int) (x y : Value) : Value := num (fsubN w (unnum x) (unnum y))
def fR (w : Int) (x : Value) : Value := num (redN w (unnum x))
def FRiM (w : Int) (a b c : Value) : Option Value :=
  r2 a b <| r2 a b <| r2 b a <| bif !(eqV (fA w a b) (fA w b a)) then fls else r2 b a <| bif !(eqV (fM w a b) (fM w b a)) then fls else
  r2 (fA w a b) c <| r2 b c <| r2 a (fA w b c) <| bif !(eqV (fA w (fA w a b) c) (fA w a (fA w b c))) then fls else
  r2 (fM w a b) c <| r2 b c <| r2 a (fM w b c) <| bif !(eqV (fM w (fM w a b) c) (fM w a (fM w b c))) then fls else
  r2 (fA w a b) c <| r2 a c <| r2 b c <| r2 (fM w a c) (fM w b c) <| bif eqV (fM w (fA w a b) c) (fA w (fM w a c) (fM w b c)) then
    (r2 a b <| r2 (fS w a b) b <| req (isNum a) <| bif eqV (fA w (fS w a b) b) (fR w a) then (r2 a (one 1) <| req (isNum a) <| bif eqV (fM w a (one 1)) (fR w a) then tru else fls) else fls) else fls
def FRiT (w : Int) (a b c : Value) : Option Value :=
  bif w != 0 then (bif w != 1 then (r2 a b <| bif eqV (fA w a b) (num 0) then tru else fls) else FRiM w a b c) else FRiM w a b c
theorem FRiM_eq {w : Int} (h : okW w = true) {A B C : Nat} (hA : A < 2 ^ 256) (hB : B < 2 ^ 256) (hC : C < 2 ^ 256) : FRiM w (num A) (num B) (num C) = tru := by
  obtain ⟨hp1, hp0, hp2⟩ := okW_pos h
  have eA : ∀ X Y, X < 2 ^ 256 → Y < 2 ^ 256 → fA w (num X) (num Y) = num ((X + Y) % primeN w) := fun X Y hX hY => by unfold fA; rw [unnum_lt hX, unnum_lt hY, faddN_ok h]
  have eM : ∀ X Y, X < 2 ^ 256 → Y < 2 ^ 256 → fM w (num X) (num Y) = num (X * Y % primeN w) := fun X Y hX hY => by unfold fM; rw [unnum_lt hX, unnum_lt hY, fmulN_ok h]
  have eS : ∀ X Y, X < 2 ^ 256 → Y < 2 ^ 256 → fS w (num X) (num Y) = num ((X + (primeN w - Y % primeN w)) % primeN w) := fun X Y hX hY => by unfold fS; rw [unnum_lt hX, unnum_lt hY, fsubN_ok h]
  have eR : fR w (num A) = num (A % primeN w) := by unfold fR; rw [unnum_lt hA, redN_ok h]
  have hlt : ∀ X, X % primeN w < 2 ^ 256 := fun X => Nat.lt_trans (Nat.mod_lt _ hp0) hp2
  have e1 : one 1 = num 1 := one_num (by decide)
  have req' : ∀ X Y, X = Y → eqV (num X) (num Y) = true := fun X Y hxy => by rw [hxy, eqV_num]; exact decide_eq_true rfl
  unfold FRiM
  rw [e1, eR]
  simp only [eA _ _ hA hB, eA _ _ hB hA, eM _ _ hA hB, eM _ _ hB hA, eA _ _ hB hC, eM _ _ hB hC, eM _ _ hA hC, eS _ _ hA hB, eM _ _ hA (show 1 < 2 ^ 256 by decide),
    eA _ _ (hlt (A + B)) hC, eA _ _ hA (hlt (B + C)), eM _ _ (hlt (A * B)) hC, eM _ _ hA (hlt (B * C)), eM _ _ (hlt (A + B)) hC, eA _ _ (hlt (A * C)) (hlt (B * C)), eA _ _ (hlt (A + (primeN w - B % primeN w))) hB, r2_num, isNum_num]
  rw [req' ((A + B) % primeN w) ((B + A) % primeN w) (by rw [Nat.add_comm]), req' (A * B % primeN w) (B * A % primeN w) (by rw [Nat.mul_comm]),
    req' (((A + B) % primeN w + C) % primeN w) ((A + (B + C) % primeN w) % primeN w) (by rw [Nat.mod_add_mod, Nat.add_mod_mod, Nat.add_assoc]),
    req' (A * B % primeN w * C % primeN w) (A * (B * C % primeN w) % primeN w) (by rw [Nat.mod_mul_mod, Nat.mul_mod_mod, Nat.mul_assoc]),
    req' ((A + B) % primeN w * C % primeN w) ((A * C % primeN w + B * C % primeN w) % primeN w) (by rw [Nat.mod_mul_mod, ← Nat.add_mod, Nat.add_mul]),
    req' (((A + (primeN w - B % primeN w)) % primeN w + B) % primeN w) (A % primeN w) (sub_add_mod hp0),
    req' (A * 1 % primeN w) (A % primeN w) (by rw [Nat.mul_one])]
  rfl
theorem FRiT_eq (w : Int) {A B C : Nat} (hA : A < 2 ^ 256) (hB : B < 2 ^ 256) (hC : C < 2 ^ 256) : FRiT w (num A) (num B) (num C) = tru := by
  unfold FRiT
  by_cases h0 : w = 0
  · subst h0; rw [FRiM_eq rfl hA hB hC]; rfl
  · by_cases h1 : w = 1
    · subst h1; rw [FRiM_eq rfl hA hB hC]; rfl
    · rw [show (w != 0) = true from bne_iff_ne.2 h0, show (w != 1) = true from bne_iff_ne.2 h1, r2_num]
      have hno : ¬ okW w = true := by rw [okW_iff]; omega
      have : fA w (num A) (num B) = num 0 := by unfold fA faddN; rw [redN_no hno]
      rw [this, eqV_num, decide_eq_true rfl]; rfl
end Go.W
/-
  The laws of package field as trees over numbers: inverses, powers.
-/
namespace Go.W
def oneI (x : Int) : Value := .agg #[.int .u64 x, u64 0, u64 0, u64 0]
def fP (w : Int) (a e : Value) : Value := num (powN w (unnum a) (unnum e))
def fI (w : Int) (a : Value) : Value := num (powN w (unnum a) (primeN w - 2))
def FInM (w : Int) (a : Value) (n m : Int) : Option Value :=
  let x := fP w a (oneI n); let y := fP w a (oneI m); let i := fI w a
  req (isNum a) <| req (isNum a) <| bif eqV (fR w a) (num 0) then (bif eqV i (num 0) then tru else fls) else
  r2 a (oneI n) <| r2 a (oneI m) <| r2 a i <| bif eqV (fM w a i) (one 1) then (req (isNum i) <| req (isNum a) <| bif eqV (fI w i) (fR w a) then
    (r2 x y <| r2 a (oneI (iAdd .u64 n m)) <| bif eqV (fM w x y) (fP w a (oneI (iAdd .u64 n m))) then (r2 a (num (primeN w)) <| req (isNum a) <| bif eqV (fP w a (num (primeN w))) (fR w a) then tru else fls) else fls) else fls) else fls
def FInT (w : Int) (a : Value) (n m : Int) : Option Value :=
  bif w != 0 then (bif w != 1 then (req (isNum a) <| bif eqV (fI w a) (num 0) then tru else fls) else FInM w a (iShr .u64 n 1) (iShr .u64 m 1)) else FInM w a (iShr .u64 n 1) (iShr .u64 m 1)
theorem oneI_num {n : Nat} (h : n < 18446744073709551616) : oneI (n : Int) = num n := one_num h
theorem FInM_eq {w : Int} (h : okW w = true) {A n m : Nat} (hA : A < 2 ^ 256) (hn : n < 9223372036854775808) (hm : m < 9223372036854775808) : FInM w (num A) (n : Int) (m : Int) = tru := by
  obtain ⟨hp1, hp0, hp2⟩ := okW_pos h
  obtain ⟨g, hg⟩ := primeN_gen h
  have hlt : ∀ X, X % primeN w < 2 ^ 256 := fun X => Nat.lt_trans (Nat.mod_lt _ hp0) hp2
  have req' : ∀ X Y, X = Y → eqV (num X) (num Y) = true := fun X Y hxy => by rw [hxy, eqV_num]; exact decide_eq_true rfl
  have e1 : one 1 = num 1 := one_num (by decide)
  have eadd : iAdd .u64 (n : Int) (m : Int) = ((n + m : Nat) : Int) := by unfold iAdd; rw [wrap_u64]; omega
  have eR : fR w (num A) = num (A % primeN w) := by unfold fR; rw [unnum_lt hA, redN_ok h]
  have eP : ∀ E, E < 2 ^ 256 → fP w (num A) (num E) = num (A ^ E % primeN w) := fun E hE => by unfold fP; rw [unnum_lt hA, unnum_lt hE, powN_ok h hE]
  have eI : fI w (num A) = num (powN w A (primeN w - 2)) := by unfold fI; rw [unnum_lt hA]
  have hIlt : powN w A (primeN w - 2) < 2 ^ 256 := powN_lt (by omega)
  unfold FInM
  rw [eadd, oneI_num (show n < 18446744073709551616 by omega), oneI_num (show m < 18446744073709551616 by omega), oneI_num (show n + m < 18446744073709551616 by omega), e1, eR, eI, eP n (by omega), eP m (by omega), eP (n + m) (by omega), eP (primeN w) hp2]
  simp only [isNum_num, r2_num]
  by_cases h0 : A % primeN w = 0
  · rw [req' (A % primeN w) 0 h0, req' (powN w A (primeN w - 2)) 0 (inv_zero h h0)]; rfl
  · have hne : eqV (num (A % primeN w)) (num 0) = false := by
      rw [eqV_num, Nat.mod_eq_of_lt (hlt A)]; exact decide_eq_false (by simpa using h0)
    have hinv := inv_ok h h0
    have eMI : fM w (num A) (num (powN w A (primeN w - 2))) = num 1 := by
      unfold fM; rw [unnum_lt hA, unnum_lt hIlt, fmulN_ok h, hinv]
    have hI0 : powN w A (primeN w - 2) % primeN w ≠ 0 := by
      intro hz
      rw [Nat.mul_mod, hz, Nat.mul_zero, Nat.zero_mod] at hinv
      omega
    have eII : fI w (num (powN w A (primeN w - 2))) = num (A % primeN w) := by
      unfold fI
      rw [unnum_lt hIlt]
      congr 1
      have h2 := inv_ok h hI0
      have h3 := hg.cancel hI0 (b := powN w (powN w A (primeN w - 2)) (primeN w - 2)) (c := A) (by rw [h2, Nat.mul_comm, hinv])
      rw [← h3, powN_ok h (by omega), Nat.mod_mod]
    have eXY : fM w (num (A ^ n % primeN w)) (num (A ^ m % primeN w)) = num (A ^ (n + m) % primeN w) := by
      unfold fM
      rw [unnum_lt (hlt _), unnum_lt (hlt _), fmulN_ok h, ← Nat.mul_mod, Nat.pow_add]
    rw [hne, eMI, eII, eXY, req' 1 1 rfl, req' (A % primeN w) _ rfl, req' (A ^ (n + m) % primeN w) _ rfl, req' (A ^ primeN w % primeN w) (A % primeN w) (hg.pow_self A)]
    rfl
theorem FInT_eq (w : Int) {A n m : Nat} (hA : A < 2 ^ 256) (hn : n < 18446744073709551616) (hm : m < 18446744073709551616) : FInT w (num A) (n : Int) (m : Int) = tru := by
  unfold FInT
  have s1 := iShr_u n 1 (by omega)
  have s2 := iShr_u m 1 (by omega)
  rw [show ((1 : Nat) : Int) = 1 from rfl] at s1 s2
  rw [s1, s2]
  by_cases h0 : w = 0
  · subst h0; rw [FInM_eq rfl hA (by omega) (by omega)]; rfl
  · by_cases h1 : w = 1
    · subst h1; rw [FInM_eq rfl hA (by omega) (by omega)]; rfl
    · rw [show (w != 0) = true from bne_iff_ne.2 h0, show (w != 1) = true from bne_iff_ne.2 h1, isNum_num, req_true rfl]
      have hno : ¬ okW w = true := by rw [okW_iff]; omega
      have : fI w (num A) = num 0 := by unfold fI; rw [powN_no hno]
      rw [this, eqV_num, decide_eq_true rfl]; rfl
end Go.W
/-
  The laws of package field as trees over numbers: reading, wide products, signs.
-/
namespace Go.W
def FReM (w : Int) (b : Value) (X : Nat) : Option Value :=
  req (isB32 b) <| r2 (num X) (num (primeN w)) <| bif decide (cI (num X) (num (primeN w)) ≥ 0) then (bif readE w X == 2 then (bif eqV (num (readN w X)) (num 0) then tru else fls) else fls)
    else (bif readE w X == 0 then (bif eqV (num (readN w X)) (num X) then tru else fls) else fls)
def FReT (w : Int) (b : Value) (X : Nat) : Option Value :=
  req (isB32 b) <| bif w != 0 then (bif w != 1 then (bif readE w X == 1 then (bif eqV (num (readN w X)) (num 0) then tru else fls) else fls) else FReM w b X) else FReM w b X
theorem eqV_self (X : Nat) : eqV (num X) (num X) = true := by rw [eqV_num]; exact decide_eq_true rfl
theorem FReM_eq {w : Int} (h : okW w = true) {b : Value} (hb : isB32 b = true) {X : Nat} (hX : X < 2 ^ 256) : FReM w b X = tru := by
  obtain ⟨hp1, hp0, hp2⟩ := okW_pos h
  unfold FReM readE readN
  rw [hb, req_true rfl, r2_num, cI_num hX hp2, if_pos h, if_pos h]
  by_cases hlt : X < primeN w
  · rw [decide_eq_false (by unfold cmpI; rw [if_pos hlt]; decide), if_pos hlt, if_pos hlt, eqV_self]; rfl
  · rw [decide_eq_true (by unfold cmpI; rw [if_neg hlt]; split <;> decide), if_neg hlt, if_neg hlt, eqV_self]; rfl
theorem FReT_eq (w : Int) {b : Value} (hb : isB32 b = true) {X : Nat} (hX : X < 2 ^ 256) : FReT w b X = tru := by
  unfold FReT
  rw [hb, req_true rfl]
  by_cases h0 : w = 0
  · subst h0; rw [FReM_eq rfl hb hX]; rfl
  · by_cases h1 : w = 1
    · subst h1; rw [FReM_eq rfl hb hX]; rfl
    · rw [show (w != 0) = true from bne_iff_ne.2 h0, show (w != 1) = true from bne_iff_ne.2 h1]
      have hno : ¬ okW w = true := by rw [okW_iff]; omega
      unfold readE readN
      rw [if_neg hno, if_neg hno, eqV_self]; rfl
def parN (w : Int) : Int := IntKind.i64.wrap ((IntKind.u64.wrap w).tmod 2)
theorem parN_ok (w : Int) : okW (parN w) = true := by
  unfold parN
  rw [wrap_u64]
  have h0 : 0 ≤ w % 18446744073709551616 := by omega
  rw [Int.tmod_eq_emod_of_nonneg h0, wrap_i64 (by omega), okW_iff]
  omega
def FWiT (w : Int) (a b : Value) : Option Value :=
  r2 a b <| r3 (mH a b) (mL a b) (num (primeN w)) <| bif okB (num (primeN w)) then (r2 a b <| bif eqV (fM w a b) (modR (mH a b) (mL a b) (num (primeN w))) then tru else fls) else fls
theorem FWiT_eq {w : Int} (h : okW w = true) {A B : Nat} (hA : A < 2 ^ 256) (hB : B < 2 ^ 256) : FWiT w (num A) (num B) = tru := by
  obtain ⟨hp1, hp0, hp2⟩ := okW_pos h
  unfold FWiT
  rw [mH_num hA hB, mL_num, r2_num, r3_num, r2_num]
  have eok : okB (num (primeN w)) = true := by unfold okB modEv modE; rw [unnum_lt hp2, if_neg (by omega)]; rfl
  have e1 : fM w (num A) (num B) = num (A * B % primeN w) := by unfold fM; rw [unnum_lt hA, unnum_lt hB, fmulN_ok h]
  have e2 : modR (num (A * B / 2 ^ 256)) (num (A * B)) (num (primeN w)) = num (A * B % primeN w) := by
    unfold modR modN
    rw [unnum_lt hp2, if_neg (by omega), unnum_num, unnum_num]
    have hXY : A * B < 2 ^ 256 * 2 ^ 256 := Nat.mul_lt_mul'' hA hB
    generalize A * B = z at *
    have h2 : z / 2 ^ 256 < 2 ^ 256 := Nat.div_lt_of_lt_mul hXY
    rw [Nat.mod_eq_of_lt h2, show z / 2 ^ 256 * 2 ^ 256 + z % 2 ^ 256 = z from by omega]
  rw [eok, e1, e2, eqV_self]; rfl
def FSiT (w : Int) (a b z : Value) : Option Value :=
  let n := fS w z a
  r2 z a <| r2 n a <| bif !(eqV (fA w n a) (num 0)) then fls else r2 n n <| r2 a a <| bif !(eqV (fM w n n) (fM w a a)) then fls else r2 a (one 2) <| r2 a a <| bif !(eqV (fM w a (one 2)) (fA w a a)) then fls else
  r2 a b <| r2 b a <| r2 z (fS w b a) <| bif !(eqV (fS w a b) (fS w z (fS w b a))) then fls else
  req (isNum b) <| bif eqV (fR w b) (num 0) then (req (isNum b) <| bif eqV (fI w b) (num 0) then tru else fls) else
  req (isNum b) <| r2 a (fI w b) <| r2 (fM w a (fI w b)) b <| req (isNum a) <| bif eqV (fM w (fM w a (fI w b)) b) (fR w a) then tru else fls
theorem FSiT_eq {w : Int} (h : okW w = true) {A B : Nat} (hA : A < 2 ^ 256) (hB : B < 2 ^ 256) : FSiT w (num A) (num B) (num 0) = tru := by
  obtain ⟨hp1, hp0, hp2⟩ := okW_pos h
  have z0 : (0 : Nat) < 2 ^ 256 := by decide
  have hlt : ∀ X, X % primeN w < 2 ^ 256 := fun X => Nat.lt_trans (Nat.mod_lt _ hp0) hp2
  have eA : ∀ X Y, X < 2 ^ 256 → Y < 2 ^ 256 → fA w (num X) (num Y) = num ((X + Y) % primeN w) := fun X Y hX hY => by unfold fA; rw [unnum_lt hX, unnum_lt hY, faddN_ok h]
  have eM : ∀ X Y, X < 2 ^ 256 → Y < 2 ^ 256 → fM w (num X) (num Y) = num (X * Y % primeN w) := fun X Y hX hY => by unfold fM; rw [unnum_lt hX, unnum_lt hY, fmulN_ok h]
  have eS : ∀ X Y, X < 2 ^ 256 → Y < 2 ^ 256 → fS w (num X) (num Y) = num ((X + (primeN w - Y % primeN w)) % primeN w) := fun X Y hX hY => by unfold fS; rw [unnum_lt hX, unnum_lt hY, fsubN_ok h]
  have eR : ∀ X, X < 2 ^ 256 → fR w (num X) = num (X % primeN w) := fun X hX => by unfold fR; rw [unnum_lt hX, redN_ok h]
  have eI : fI w (num B) = num (powN w B (primeN w - 2)) := by unfold fI; rw [unnum_lt hB]
  have hIlt : powN w B (primeN w - 2) < 2 ^ 256 := powN_lt (by omega)
  have req' : ∀ X Y, X = Y → eqV (num X) (num Y) = true := fun X Y hxy => by rw [hxy, eqV_num]; exact decide_eq_true rfl
  have e2 : one 2 = num 2 := one_num (by decide)
  -- what is turned about
  have hneg : ((0 + (primeN w - A % primeN w)) % primeN w + A) % primeN w = 0 := neg_add hp0
  have hsq : ((0 + (primeN w - A % primeN w)) % primeN w) * ((0 + (primeN w - A % primeN w)) % primeN w) % primeN w = A * A % primeN w := by
    generalize (0 + (primeN w - A % primeN w)) % primeN w = n at *
    -- n n + n a = 0 = n a + a a
    have h1 : (n * n + n * A) % primeN w = (A * A + n * A) % primeN w := by
      rw [← Nat.mul_add, Nat.mul_mod, hneg, Nat.mul_zero, Nat.zero_mod, Nat.add_comm (A * A), ← Nat.add_mul, Nat.mul_mod, hneg, Nat.zero_mul, Nat.zero_mod]
    exact add_cancel_mod hp0 h1
  have htw : (A + (primeN w - B % primeN w)) % primeN w = (0 + (primeN w - (B + (primeN w - A % primeN w)) % primeN w % primeN w)) % primeN w := by
    have h1 : ((0 + (primeN w - (B + (primeN w - A % primeN w)) % primeN w % primeN w)) % primeN w + (B + (primeN w - A % primeN w)) % primeN w) % primeN w = 0 := neg_add hp0
    have h2 : ((A + (primeN w - B % primeN w)) % primeN w + (B + (primeN w - A % primeN w)) % primeN w) % primeN w = 0 := by
      rw [← Nat.add_mod]
      have ha := Nat.div_add_mod A (primeN w)
      have hb := Nat.div_add_mod B (primeN w)
      have hal := Nat.mod_lt A hp0
      have hbl := Nat.mod_lt B hp0
      have : A + (primeN w - B % primeN w) + (B + (primeN w - A % primeN w)) = primeN w * (A / primeN w + B / primeN w + 2) := by
        rw [Nat.mul_add, Nat.mul_add]; omega
      rw [this, Nat.mul_mod_right]
    have := add_cancel_mod hp0 (h2.trans h1.symm)
    rwa [Nat.mod_mod, Nat.mod_mod] at this
  unfold FSiT
  rw [e2, eI]
  simp only [eS _ _ z0 hA, eS _ _ hA hB, eS _ _ hB hA, eA _ _ hA hA, eM _ _ hA hA, eM _ _ hA (show 2 < 2 ^ 256 by decide), eM _ _ hA hIlt, eR _ hA, eR _ hB, eA _ _ (hlt (0 + (primeN w - A % primeN w))) hA,
    eM _ _ (hlt (0 + (primeN w - A % primeN w))) (hlt (0 + (primeN w - A % primeN w))), eS _ _ z0 (hlt (B + (primeN w - A % primeN w))), eM _ _ (hlt (A * powN w B (primeN w - 2))) hB, r2_num, isNum_num]
  rw [req' _ _ hneg, req' _ _ hsq, req' (A * 2 % primeN w) ((A + A) % primeN w) (by rw [Nat.mul_two]), req' _ _ htw]
  by_cases h0 : B % primeN w = 0
  · rw [req' (B % primeN w) 0 h0, req' (powN w B (primeN w - 2)) 0 (inv_zero h h0)]; rfl
  · have hne : eqV (num (B % primeN w)) (num 0) = false := by
      rw [eqV_num, Nat.mod_eq_of_lt (hlt B)]; exact decide_eq_false (by simpa using h0)
    have hinv := inv_ok h h0
    rw [hne, req' (A * powN w B (primeN w - 2) % primeN w * B % primeN w) (A % primeN w) (by
      rw [Nat.mod_mul_mod, Nat.mul_assoc, Nat.mul_comm (powN w B (primeN w - 2)), Nat.mul_mod, hinv, Nat.mul_one, Nat.mod_mod])]
    rfl
end Go.W
/-
  The law of roots as a tree over numbers.
-/
namespace Go.W
def hP : Nat := 57896044618658097711785492504343953926634992332820282019728792003954417335831
theorem hP_eq : hP = (pP - 1) / 2 := by decide
def FRoC3 (is : Bool) (s : Value) : Option Value := bif is then tru else (bif eqV s (num 0) then tru else fls)
def FRoC2 (a s : Value) (is t : Bool) : Option Value :=
  bif is == t then (bif !is then FRoC3 is s else (r2 s s <| req (isNum a) <| bif eqV (fM 0 s s) (fR 0 a) then FRoC3 is s else fls)) else fls
def FRoK (a : Value) : Option Value :=
  req (isNum a) <| r2 a (num hP) <| req (isNum a) <| bif eqV (fR 0 a) (num 0) then FRoC2 a (num (rootNum (unnum a))) (rootIs (unnum a)) true else
    FRoC2 a (num (rootNum (unnum a))) (rootIs (unnum a)) (eqV (fP 0 a (num hP)) (one 1))
def FRoT (a : Value) : Option Value :=
  let q := fM 0 a a; let x := rootNum (unnum q); let r := num x
  r2 a a <| req (isNum q) <| bif !(rootIs (unnum q)) then fls else bif ((dig x 0 : Nat) : Int).tmod 2 != 0 then fls else
  r2 r r <| bif !(eqV (fM 0 r r) q) then fls else req (isNum a) <| bif !(eqV r (fR 0 a)) then (r2 r a <| bif !(eqV (fA 0 r a) (num 0)) then fls else FRoK a) else FRoK a
theorem ok0 : okW 0 = true := rfl
theorem prime0 : primeN 0 = pP := rfl
theorem pP_facts : 1 < pP ∧ pP < 2 ^ 256 ∧ pP % 4 = 3 ∧ pP % 2 = 1 := by decide
theorem rootR_eq (X : Nat) : rootR X = X ^ qP % pP := by
  unfold rootR
  rw [powN_ok ok0 qP_lt, redN_ok ok0, prime0, ← Nat.pow_mod]
theorem rootIs_iff (X : Nat) : rootIs X = true ↔ rootR X * rootR X % pP = X % pP := by
  unfold rootIs
  rw [fmulN_ok ok0, redN_ok ok0, prime0, decide_eq_true_eq]
theorem root_of_sq {X b : Nat} (h : b * b % pP = X % pP) : rootIs X = true := by
  rw [rootIs_iff, rootR_eq, ← Nat.mul_mod, qP_eq]
  exact genP.root pP_facts.2.2.1 h
theorem neg_sq {p R : Nat} (hp : 0 < p) : ((0 + (p - R % p)) % p) * ((0 + (p - R % p)) % p) % p = R * R % p := by
  have hneg : ((0 + (p - R % p)) % p + R) % p = 0 := neg_add hp
  generalize (0 + (p - R % p)) % p = n at *
  have h1 : (n * n + n * R) % p = (R * R + n * R) % p := by
    rw [← Nat.mul_add, Nat.mul_mod, hneg, Nat.mul_zero, Nat.zero_mod, Nat.add_comm (R * R), ← Nat.add_mul, Nat.mul_mod, hneg, Nat.zero_mul, Nat.zero_mod]
  exact add_cancel_mod hp h1
theorem root_sq {X : Nat} (h : rootIs X = true) : rootNum X * rootNum X % pP = X % pP ∧ rootNum X % 2 = 0 ∧ rootNum X < pP := by
  obtain ⟨h1, h2, h3, h4⟩ := pP_facts
  have hs := (rootIs_iff X).1 h
  have hR : rootR X < pP := by rw [rootR_eq]; exact Nat.mod_lt _ (by omega)
  have hc : fmulN 0 (rootR X) (rootR X) = redN 0 X := by rw [fmulN_ok ok0, redN_ok ok0, prime0]; exact hs
  unfold rootNum
  rw [if_pos hc]
  by_cases hodd : rootR X % 2 = 1
  · rw [if_pos hodd, fsubN_ok ok0, prime0]
    refine ⟨(neg_sq (by omega)).trans hs, ?_, Nat.mod_lt _ (by omega)⟩
    rw [Nat.mod_eq_of_lt hR, Nat.zero_add, Nat.mod_eq_of_lt (show pP - rootR X < pP by omega)]
    omega
  · rw [if_neg hodd]
    exact ⟨hs, by omega, hR⟩
theorem root_none {X : Nat} (h : rootIs X = false) : rootNum X = 0 := by
  have : ¬ fmulN 0 (rootR X) (rootR X) = redN 0 X := of_decide_eq_false h
  unfold rootNum
  rw [if_neg this]
theorem root_euler {A : Nat} (h0 : A % pP ≠ 0) : rootIs A = decide (A ^ hP % pP = 1) := by
  obtain ⟨h1, h2, h3, h4⟩ := pP_facts
  have key : rootR A * rootR A % pP = A * A ^ hP % pP := by
    rw [rootR_eq, ← Nat.mul_mod, ← Nat.pow_add, ← Nat.pow_succ']
    congr 2
  by_cases he : A ^ hP % pP = 1
  · rw [decide_eq_true he, rootIs_iff, key, Nat.mul_mod, he, Nat.mul_one, Nat.mod_mod]
  · rw [decide_eq_false he]
    rw [Bool.eq_false_iff]
    intro his
    have hs := (rootIs_iff A).1 his
    apply he
    have hR0 : rootR A % pP ≠ 0 := by
      intro hz
      rw [Nat.mul_mod, hz, Nat.zero_mul, Nat.zero_mod] at hs
      exact h0 hs.symm
    have hf := genP.fermat hR0
    rw [Nat.pow_mod, ← hs, ← Nat.pow_mod, ← Nat.pow_two, ← Nat.pow_mul]
    exact hf
theorem FRoK_eq {A : Nat} (hA : A < 2 ^ 256) : FRoK (num A) = tru := by
  obtain ⟨h1, h2, h3, h4⟩ := pP_facts
  have hH : hP < 2 ^ 256 := by decide
  have hlt : ∀ X, X % pP < 2 ^ 256 := fun X => Nat.lt_trans (Nat.mod_lt _ (by omega)) h2
  have eR : fR 0 (num A) = num (A % pP) := by unfold fR; rw [unnum_lt hA, redN_ok ok0, prime0]
  have eP : fP 0 (num A) (num hP) = num (A ^ hP % pP) := by unfold fP; rw [unnum_lt hA, unnum_lt hH, powN_ok ok0 hH, prime0]
  have e1 : one 1 = num 1 := one_num (by decide)
  have key : ∀ t, rootIs A = t → FRoC2 (num A) (num (rootNum A)) (rootIs A) t = tru := by
    intro t ht
    unfold FRoC2
    rw [ht, beq_self_eq_true, cond_true]
    cases t with
    | false =>
      unfold FRoC3
      rw [root_none ht, eqV_self]; rfl
    | true =>
      obtain ⟨k1, _, k3⟩ := root_sq ht
      have hs : rootNum A < 2 ^ 256 := by omega
      have eM : fM 0 (num (rootNum A)) (num (rootNum A)) = num (A % pP) := by unfold fM; rw [unnum_lt hs, fmulN_ok ok0, prime0, k1]
      rw [r2_num, isNum_num, req_true rfl, eM, eR, eqV_self]; rfl
  unfold FRoK
  rw [isNum_num, req_true rfl, r2_num, req_true rfl, eR, eP, e1, unnum_lt hA]
  by_cases h0 : A % pP = 0
  · rw [show eqV (num (A % pP)) (num 0) = true from by rw [h0, eqV_self]]
    exact key true (root_of_sq (b := 0) (by rw [h0, Nat.zero_mul, Nat.zero_mod]))
  · rw [show eqV (num (A % pP)) (num 0) = false from by rw [eqV_num, Nat.mod_eq_of_lt (hlt A)]; exact decide_eq_false (by simpa using h0)]
    refine key _ ?_
    rw [root_euler h0, eqV_num, Nat.mod_eq_of_lt (hlt _)]
theorem FRoT_eq {A : Nat} (hA : A < 2 ^ 256) : FRoT (num A) = tru := by
  obtain ⟨h1, h2, h3, h4⟩ := pP_facts
  have hlt : ∀ X, X % pP < 2 ^ 256 := fun X => Nat.lt_trans (Nat.mod_lt _ (by omega)) h2
  have eQ : fM 0 (num A) (num A) = num (A * A % pP) := by unfold fM; rw [unnum_lt hA, fmulN_ok ok0, prime0]
  have hQ : rootIs (A * A % pP) = true := root_of_sq (b := A) (by rw [Nat.mod_mod])
  obtain ⟨k1, k2, k3⟩ := root_sq hQ
  rw [Nat.mod_mod] at k1
  have eR : fR 0 (num A) = num (A % pP) := by unfold fR; rw [unnum_lt hA, redN_ok ok0, prime0]
  unfold FRoT
  simp only [eQ, unnum_lt (hlt (A * A)), r2_num, isNum_num, hQ]
  generalize rootNum (A * A % pP) = x at *
  have hx : x < 2 ^ 256 := by omega
  have eM : fM 0 (num x) (num x) = num (A * A % pP) := by unfold fM; rw [unnum_lt hx, fmulN_ok ok0, prime0, k1]
  have eA : fA 0 (num x) (num A) = num ((x + A) % pP) := by unfold fA; rw [unnum_lt hx, unnum_lt hA, faddN_ok ok0, prime0]
  have hev : (((dig x 0 : Nat) : Int).tmod 2 != 0) = false := by
    have : dig x 0 % 2 = 0 := by show x % 18446744073709551616 % 2 = 0; omega
    rw [Int.tmod_eq_emod_of_nonneg (by omega)]
    have e : ((dig x 0 : Nat) : Int) % 2 = 0 := by omega
    rw [e]; rfl
  rw [hev, eM, eA, eR, eqV_self, FRoK_eq hA]
  show (req true (bif !(eqV (num x) (num (A % pP))) then (bif !(eqV (num ((x + A) % pP)) (num 0)) then fls else tru) else tru)) = tru
  rw [req_true rfl]
  rcases genP.sq_eq (a := x) (b := A) k1 with hsame | hzero
  · rw [Nat.mod_eq_of_lt k3] at hsame
    rw [hsame, eqV_self]; rfl
  · rw [hzero, eqV_self]
    cases eqV (num x) (num (A % pP)) <;> rfl
end Go.W
/-
  Package field as it landed: what its functions come to, and the ways of their texts.
-/
namespace Go.W
noncomputable def hideN (n : Nat) : Nat := Classical.choose (⟨n, rfl⟩ : ∃ x : Nat, x = n)
theorem hideN_eq (n : Nat) : hideN n = n := Classical.choose_spec (⟨n, rfl⟩ : ∃ x : Nat, x = n)
noncomputable def Mul64H : List Value → Option (Bool × Value)
  | [x, y] => some (isU64 x && isU64 y, .tuple #[u64 (hideN (intN x * intN y) / 18446744073709551616), u64 (hideN (intN x * intN y) % 18446744073709551616)])
  | _ => none
theorem Mul64H_eq : Mul64H = Mul64F := by
  funext l
  unfold Mul64H Mul64F
  simp only [hideN_eq]
  rfl
def PrimeT (w : Int) : Option Value := bif w == 0 then some (num pP) else bif w == 1 then some (num pN) else some (num 0)
theorem PrimeT_eq (w : Int) : PrimeT w = some (num (primeN w)) := by
  unfold PrimeT primeN
  by_cases h0 : w = 0
  · subst h0; rfl
  · rw [if_neg h0, show (w == 0) = false from beq_eq_false_iff_ne.2 h0]
    by_cases h1 : w = 1
    · subst h1; rfl
    · rw [if_neg h1, show (w == 1) = false from beq_eq_false_iff_ne.2 h1]; rfl
def gapN (w : Int) : Nat := if w = 0 then sP else sN
noncomputable def GapF : List Value → Option (Bool × Value)
  | [.int .i64 w] => some (true, num (hideN (gapN w)))
  | _ => none
def gapT (w : Int) : Option Value := bif w == 0 then some (num sP) else some (num sN)
theorem gapT_eq (w : Int) : gapT w = some (num (hideN (gapN w))) := by
  rw [hideN_eq]; unfold gapT gapN
  by_cases h : w = 0
  · subst h; rfl
  · rw [if_neg h, show (w == 0) = false from beq_eq_false_iff_ne.2 h]; rfl
theorem gap_small {w : Int} (h : okW w = true) : gapN w = smallN w := by
  rcases okW_iff.1 h with rfl | rfl <;> rfl
def LowF : List Value → Option (Bool × Value)
  | [.int .i64 w, a] => some (okW w && isNum a, num (unnum a % primeN w))
  | _ => none
def lowT (w : Int) (a : Value) : Option Value := r2 a (num (primeN w)) <| bif ((sB a (num (primeN w)) : Nat) : Int) == 1 then some a else some (sD a (num (primeN w)))
theorem lowT_eq {w : Int} (h : okW w = true) {A : Nat} (hA : A < 2 ^ 256) : lowT w (num A) = some (num (A % primeN w)) := by
  obtain ⟨_, hp, _, hp2⟩ := primeN_small h
  unfold lowT
  rw [r2_num, sB_num, sD_num, Nat.mod_eq_of_lt hA, Nat.mod_eq_of_lt hp]
  by_cases hlt : A < primeN w
  · rw [if_pos hlt, Nat.mod_eq_of_lt hlt]; rfl
  · rw [if_neg hlt, Nat.mod_eq_sub_mod (by omega), Nat.mod_eq_of_lt (by omega), show 2 ^ 256 + A - primeN w = A - primeN w + 2 ^ 256 * 1 from by omega, num_add_mul]; rfl
def upS (g T : Nat) : Nat → Nat
  | 0 => T
  | k + 1 => upS g T k % 2 ^ 256 + g
def upN (g T : Nat) : Nat := if T < 2 ^ 256 then T else if T % 2 ^ 256 + g < 2 ^ 256 then T % 2 ^ 256 + g else (T % 2 ^ 256 + g) % 2 ^ 256 + g
theorem up_first {g T : Nat} (hg : g < 2 ^ 129) (hT : T < 2 ^ 256 + 2 ^ 256) : ∃ n, upS g T n = upN g T ∧ upN g T < 2 ^ 256 ∧ ∀ k, k < n → upS g T k / 2 ^ 256 = 1 := by
  unfold upN
  by_cases h0 : T < 2 ^ 256
  · exact ⟨0, by rw [if_pos h0]; rfl, by rw [if_pos h0]; exact h0, by omega⟩
  · rw [if_neg h0]
    by_cases h1 : T % 2 ^ 256 + g < 2 ^ 256
    · rw [if_pos h1]
      refine ⟨1, rfl, h1, fun k hk => ?_⟩
      have : k = 0 := by omega
      subst this
      show T / 2 ^ 256 = 1
      omega
    · rw [if_neg h1]
      refine ⟨2, rfl, by omega, fun k hk => ?_⟩
      have : k = 0 ∨ k = 1 := by omega
      rcases this with rfl | rfl
      · show T / 2 ^ 256 = 1
        omega
      · show (T % 2 ^ 256 + g) / 2 ^ 256 = 1
        omega
theorem up_mod {p g T : Nat} (hp : p + g = 2 ^ 256) (hg : g < 2 ^ 129) (hT : T < 2 ^ 256 + 2 ^ 256) : upN g T % p = T % p := by
  have step : ∀ X, X / 2 ^ 256 = 1 → (X % 2 ^ 256 + g) % p = X % p := by
    intro X hX
    have : X = X % 2 ^ 256 + g + p := by omega
    rw [show X % p = (X % 2 ^ 256 + g + p) % p from by rw [← this], Nat.add_mod_right]
  unfold upN
  split
  · rfl
  · split
    · exact step T (by omega)
    · rw [step (T % 2 ^ 256 + g) (by omega), step T (by omega)]
def AddUpF : List Value → Option (Bool × Value)
  | [.int .i64 w, a, b] => some (okW w && isNum a && isNum b, num (upN (gapN w) (unnum a + unnum b)))
  | _ => none
def upR {α : Type} (t g : Value) (c : Nat) (k : Nat → Nat → Option α) (out : Option α) : Option α :=
  bif ((c : Nat) : Int) == 1 then (r2 t g <| k (unnum t + unnum g) ((unnum t + unnum g) / 2 ^ 256)) else out
theorem upR_eq {α : Type} {T g c : Nat} (hg : g < 2 ^ 129) (hc : c = 1) (k : Nat → Nat → Option α) (out : Option α) : upR (num T) (num g) c k out = k (T % 2 ^ 256 + g) ((T % 2 ^ 256 + g) / 2 ^ 256) := by
  unfold upR
  rw [r2_num, unnum_num, unnum_lt (show g < 2 ^ 256 by omega), hc]; rfl
theorem upR_out {α : Type} {t g : Value} (k : Nat → Nat → Option α) (out : Option α) : upR t g 0 k out = out := rfl
def dnN (g A B : Nat) : Nat := if B ≤ A then A - B else if g ≤ 2 ^ 256 + A - B then 2 ^ 256 + A - B - g else 2 ^ 256 + (2 ^ 256 + A - B) - g - g
def dnS (g A B : Nat) : Nat → Nat × Nat
  | 0 => (2 ^ 256 + A - B, if A < B then 1 else 0)
  | k + 1 => (2 ^ 256 + (dnS g A B k).1 % 2 ^ 256 - g, if (dnS g A B k).1 % 2 ^ 256 < g then 1 else 0)
theorem dn_first {g A B : Nat} (hg : g < 2 ^ 129) (hA : A < 2 ^ 256) (hB : B < 2 ^ 256) : ∃ n, (dnS g A B n).2 = 0 ∧ (dnS g A B n).1 % 2 ^ 256 = dnN g A B ∧ ∀ k, k < n → (dnS g A B k).2 = 1 := by
  unfold dnN
  by_cases h0 : B ≤ A
  · refine ⟨0, ?_, ?_, by omega⟩
    · show (if A < B then 1 else 0) = 0
      rw [if_neg (by omega)]
    · show (2 ^ 256 + A - B) % 2 ^ 256 = _
      rw [if_pos h0]; omega
  · rw [if_neg h0]
    have b0 : (dnS g A B 0).2 = 1 := by show (if A < B then 1 else 0) = 1; rw [if_pos (by omega)]
    have m0 : (2 ^ 256 + A - B) % 2 ^ 256 = 2 ^ 256 + A - B := Nat.mod_eq_of_lt (by omega)
    by_cases h1 : g ≤ 2 ^ 256 + A - B
    · rw [if_pos h1]
      refine ⟨1, ?_, ?_, fun k hk => ?_⟩
      · show (if (2 ^ 256 + A - B) % 2 ^ 256 < g then 1 else 0) = 0
        rw [m0, if_neg (by omega)]
      · show (2 ^ 256 + (2 ^ 256 + A - B) % 2 ^ 256 - g) % 2 ^ 256 = _
        rw [m0]; omega
      · have : k = 0 := by omega
        subst this; exact b0
    · rw [if_neg h1]
      have m1 : (2 ^ 256 + (2 ^ 256 + A - B) % 2 ^ 256 - g) % 2 ^ 256 = 2 ^ 256 + (2 ^ 256 + A - B) - g := by rw [m0]; exact Nat.mod_eq_of_lt (by omega)
      refine ⟨2, ?_, ?_, fun k hk => ?_⟩
      · show (if (2 ^ 256 + (2 ^ 256 + A - B) % 2 ^ 256 - g) % 2 ^ 256 < g then 1 else 0) = 0
        rw [m1, if_neg (by omega)]
      · show (2 ^ 256 + (2 ^ 256 + (2 ^ 256 + A - B) % 2 ^ 256 - g) % 2 ^ 256 - g) % 2 ^ 256 = _
        rw [m1]; omega
      · have : k = 0 ∨ k = 1 := by omega
        rcases this with rfl | rfl
        · exact b0
        · show (if (2 ^ 256 + A - B) % 2 ^ 256 < g then 1 else 0) = 1
          rw [m0, if_pos (by omega)]
theorem dn_lt {g A B : Nat} (hg : g < 2 ^ 129) (hA : A < 2 ^ 256) (hB : B < 2 ^ 256) : dnN g A B < 2 ^ 256 := by
  unfold dnN; split
  · omega
  · split <;> omega
theorem dn_mod {p g A B : Nat} (hp : p + g = 2 ^ 256) (hg : g < 2 ^ 129) (hA : A < 2 ^ 256) (hB : B < 2 ^ 256) : dnN g A B % p = (A + (p - B % p)) % p := by
  have hp0 : 0 < p := by omega
  have e : (dnN g A B + B) % p = ((A + (p - B % p)) % p + B) % p := by
    rw [sub_add_mod hp0]
    unfold dnN; split
    · rw [show A - B + B = A from by omega]
    · split
      · rw [show 2 ^ 256 + A - B - g + B = A + p from by omega, Nat.add_mod_right]
      · rw [show 2 ^ 256 + (2 ^ 256 + A - B) - g - g + B = A + p + p from by omega, Nat.add_mod_right, Nat.add_mod_right]
  have := add_cancel_mod hp0 e
  rw [this, Nat.mod_mod]
def dnR {α : Type} (t g : Value) (c : Nat) (k : Nat → Nat → Option α) (out : Option α) : Option α :=
  bif ((c : Nat) : Int) == 1 then (r2 t g <| k (2 ^ 256 + unnum t - unnum g) (if unnum t < unnum g then 1 else 0)) else out
theorem dnR_eq {α : Type} {T g c : Nat} (hg : g < 2 ^ 129) (hc : c = 1) (k : Nat → Nat → Option α) (out : Option α) : dnR (num T) (num g) c k out = k (2 ^ 256 + T % 2 ^ 256 - g) (if T % 2 ^ 256 < g then 1 else 0) := by
  unfold dnR
  rw [r2_num, unnum_num, unnum_lt (show g < 2 ^ 256 by omega), hc]; rfl
def fdGo (s : Nat) : Nat → Nat → Nat → Nat
  | 0, lo, _ => lo
  | k + 1, lo, hi => if hi = 0 then lo else fdGo s k (fdL s lo hi) (fdH s lo hi)
theorem fdK_shift (s lo hi : Nat) : ∀ n, fdK s lo hi (n + 1) = fdK s (fdL s lo hi) (fdH s lo hi) n
  | 0 => rfl
  | n + 1 => by
    show (fdL s (fdK s lo hi (n + 1)).1 (fdK s lo hi (n + 1)).2, fdH s (fdK s lo hi (n + 1)).1 (fdK s lo hi (n + 1)).2) = _
    rw [fdK_shift s lo hi n]; rfl
theorem fdGo_eq {s : Nat} : ∀ (k : Nat) {lo hi n : Nat}, n ≤ k → (fdK s lo hi n).2 = 0 → (∀ j, j < n → (fdK s lo hi j).2 ≠ 0) → fdGo s k lo hi = (fdK s lo hi n).1
  | 0, lo, hi, n, hn, _, _ => by
    have : n = 0 := by omega
    subst this; rfl
  | k + 1, lo, hi, 0, _, h0, _ => by
    have : hi = 0 := h0
    show (if hi = 0 then lo else _) = lo
    rw [if_pos this]
  | k + 1, lo, hi, n + 1, hn, h0, h1 => by
    have hne : hi ≠ 0 := h1 0 (by omega)
    show (if hi = 0 then lo else _) = _
    rw [if_neg hne, fdK_shift]
    refine fdGo_eq k (by omega) (by rw [← fdK_shift]; exact h0) fun j hj => ?_
    rw [← fdK_shift]; exact h1 (j + 1) (by omega)
theorem fdGo_at {lo hi n : Nat} (hlo : lo < 2 ^ 256) (hhi : hi < 2 ^ 256) (hn : (fdK sN lo hi n).2 = 0) (hne : ∀ j, j < n → (fdK sN lo hi j).2 ≠ 0) : fdGo sN 4 lo hi = (fdK sN lo hi n).1 := by
  refine fdGo_eq 4 ?_ hn hne
  have hs : sN < 2 ^ 129 := by decide
  rcases Nat.lt_or_ge 4 n with h | h
  · exact absurd (fdK_end hlo hhi hs) (hne 4 h)
  · exact h
theorem fdGo_mod {lo hi : Nat} (hlo : lo < 2 ^ 256) (hhi : hi < 2 ^ 256) : fdGo sN 4 lo hi < 2 ^ 256 ∧ fdGo sN 4 lo hi % pN = (hi * 2 ^ 256 + lo) % pN := by
  have hs : sN < 2 ^ 129 := by decide
  obtain ⟨n, hn, hne⟩ := fdK_first hlo hhi hs
  rw [fdGo_at hlo hhi hn hne]
  refine ⟨(fdK_lt hlo hhi hs n).1, ?_⟩
  have := fdK_mod (lo := lo) (hi := hi) (p := pN) (s := sN) (by decide) n
  rw [hn, Nat.zero_mul, Nat.zero_add] at this
  exact this
def FoldNF : List Value → Option (Bool × Value)
  | [lo, hi] => some (isNum lo && isNum hi, num (fdGo sN 4 (unnum lo) (unnum hi)))
  | _ => none
def fpZ (lo hi : Nat) : Nat := lo + hi * sP
def fpN (lo hi : Nat) : Nat := upN sP (fpZ lo hi % 2 ^ 256 + fpZ lo hi / 2 ^ 256 * sP)
def FoldPF : List Value → Option (Bool × Value)
  | [lo, hi] => some (isNum lo && isNum hi, num (fpN (unnum lo) (unnum hi)))
  | _ => none
def q64 {α : Type} (x y : Value) (k : Option α) : Option α := req (isU64 x && isU64 y) k
noncomputable def fpT2 (v : Value) (t : Int) : Option Value :=
  q64 (.int .u64 t) (u64 4294968273) <| req (okW 0 && isNum v && isNum (.agg #[u64 (hideN (t.toNat * 4294968273) % 18446744073709551616), u64 (hideN (t.toNat * 4294968273) / 18446744073709551616), u64 0, u64 0])) <|
    some (num (upN (gapN 0) (unnum v + unnum (.agg #[u64 (hideN (t.toNat * 4294968273) % 18446744073709551616), u64 (hideN (t.toNat * 4294968273) / 18446744073709551616), u64 0, u64 0]))))
noncomputable def fpE (lo d e : Value) (c : Nat) : Option Value :=
  r2 lo d <| r2 (aS lo d) e <| fpT2 (aS (aS lo d) e) (iAdd .u64 (iAdd .u64 ((c : Nat) : Int) ((aC lo d : Nat) : Int)) ((aC (aS lo d) e : Nat) : Int))
noncomputable def fpT (lo : Value) (h0 h1 h2 h3 : Nat) : Option Value :=
  q64 (u64 h0) (u64 4294968273) <| q64 (u64 h1) (u64 4294968273) <| q64 (u64 h2) (u64 4294968273) <| q64 (u64 h3) (u64 4294968273) <|
  fpE lo (numd (hideN (h0 * 4294968273) % 18446744073709551616) (hideN (h1 * 4294968273) % 18446744073709551616) (hideN (h2 * 4294968273) % 18446744073709551616) (hideN (h3 * 4294968273) % 18446744073709551616))
    (numd 0 (hideN (h0 * 4294968273) / 18446744073709551616) (hideN (h1 * 4294968273) / 18446744073709551616) (hideN (h2 * 4294968273) / 18446744073709551616)) (hideN (h3 * 4294968273) / 18446744073709551616)
theorem q64_u {α : Type} {x y : Nat} (hx : x < 18446744073709551616) (hy : y < 18446744073709551616) (k : Option α) : q64 (u64 x) (u64 y) k = k := by
  unfold q64; rw [isU64_u64 hx, isU64_u64 hy, req_true (b := true && true) rfl]
theorem numd_hor {a b c d : Nat} (ha : a < 18446744073709551616) (hb : b < 18446744073709551616) (hc : c < 18446744073709551616) (hd : d < 18446744073709551616) : numd a b c d = num (hor a b c d) := by
  have := num_hor ha hb hc hd 0
  rw [Nat.mul_zero, Nat.add_zero] at this
  exact this.symm
theorem fpT2_eq {V t : Nat} (ht : t ≤ 4294968280) : fpT2 (num V) (t : Int) = some (num (upN sP (V % 2 ^ 256 + t * sP))) := by
  unfold fpT2
  simp only [hideN_eq]
  rw [show (Value.int .u64 (t : Int)) = u64 t from rfl, q64_u (by omega) (by omega), Int.toNat_natCast]
  have e : (Value.agg #[u64 (t * 4294968273 % 18446744073709551616), u64 (t * 4294968273 / 18446744073709551616), u64 0, u64 0]) = num (t * 4294968273) := by
    show numd _ _ _ _ = _
    rw [numd_hor (Nat.mod_lt _ (by decide)) (by omega) (by omega) (by omega)]
    congr 1; unfold hor; omega
  rw [e, isNum_num, isNum_num, req_true (b := okW 0 && true && true) rfl, unnum_num, unnum_lt (by omega)]
  rfl
theorem dvP {h : Nat} (l : h < 18446744073709551616) : h * 4294968273 / 18446744073709551616 < 4294968274 := by omega
theorem dvP' {h : Nat} (l : h < 18446744073709551616) : h * 4294968273 / 18446744073709551616 < 18446744073709551616 := Nat.lt_trans (dvP l) (by decide)
theorem fpE_eq {L D E c : Nat} (hL : L < 2 ^ 256) (hD : D < 2 ^ 256) (hE : E < 2 ^ 256) (hc : c < 4294968274) : fpE (num L) (num D) (num E) c =
    some (num (upN sP ((L + D + E + 2 ^ 256 * c) % 2 ^ 256 + (L + D + E + 2 ^ 256 * c) / 2 ^ 256 * sP))) := by
  unfold fpE
  rw [aS_num, aS_num, r2_num, r2_num, aC_num, aC_num, Nat.mod_eq_of_lt hL, Nat.mod_eq_of_lt hD, Nat.mod_eq_of_lt hE, iAdd_u, iAdd_u]
  have e1 : (c + (L + D) / 2 ^ 256) % 18446744073709551616 = c + (L + D) / 2 ^ 256 := Nat.mod_eq_of_lt (by omega)
  have e2 : (c + (L + D) / 2 ^ 256 + ((L + D) % 2 ^ 256 + E) / 2 ^ 256) % 18446744073709551616 = c + (L + D) / 2 ^ 256 + ((L + D) % 2 ^ 256 + E) / 2 ^ 256 := Nat.mod_eq_of_lt (by omega)
  rw [e1, e2, fpT2_eq (by omega)]
  have e3 : (L + D + E + 2 ^ 256 * c) % 2 ^ 256 = (L + D + E) % 2 ^ 256 := by omega
  have e4 : (L + D + E + 2 ^ 256 * c) / 2 ^ 256 = c + (L + D) / 2 ^ 256 + ((L + D) % 2 ^ 256 + E) / 2 ^ 256 := by omega
  rw [e3, e4]
theorem fpZ_hor (L h0 h1 h2 h3 : Nat) : fpZ L (hor h0 h1 h2 h3) = L + hor (h0 * 4294968273 % 18446744073709551616) (h1 * 4294968273 % 18446744073709551616) (h2 * 4294968273 % 18446744073709551616) (h3 * 4294968273 % 18446744073709551616)
      + hor 0 (h0 * 4294968273 / 18446744073709551616) (h1 * 4294968273 / 18446744073709551616) (h2 * 4294968273 / 18446744073709551616) + 2 ^ 256 * (h3 * 4294968273 / 18446744073709551616) := by
  unfold fpZ sP hor; omega
theorem fpT_eq {L h0 h1 h2 h3 : Nat} (hL : L < 2 ^ 256) (l0 : h0 < 18446744073709551616) (l1 : h1 < 18446744073709551616) (l2 : h2 < 18446744073709551616) (l3 : h3 < 18446744073709551616) :
    fpT (num L) h0 h1 h2 h3 = some (num (fpN L (hor h0 h1 h2 h3))) := by
  unfold fpT fpN
  simp only [hideN_eq]
  have g : (4294968273 : Nat) < 18446744073709551616 := by decide
  have m : ∀ x, x % 18446744073709551616 < 18446744073709551616 := fun x => Nat.mod_lt _ (by decide)
  rw [q64_u l0 g, q64_u l1 g, q64_u l2 g, q64_u l3 g, fpZ_hor]
  rw [numd_hor (m _) (m _) (m _) (m _), numd_hor (a := 0) (by decide) (dvP' l0) (dvP' l1) (dvP' l2)]
  exact fpE_eq hL (hor_lt (m _) (m _) (m _) (m _)) (hor_lt (by decide) (dvP' l0) (dvP' l1) (dvP' l2)) (dvP l3)
theorem fp_mod {lo hi : Nat} (hlo : lo < 2 ^ 256) (hhi : hi < 2 ^ 256) : fpN lo hi < 2 ^ 256 ∧ fpN lo hi % pP = (hi * 2 ^ 256 + lo) % pP := by
  have hp : pP + sP = 2 ^ 256 := by decide
  have hs : sP < 2 ^ 129 := by decide
  have hz : fpZ lo hi / 2 ^ 256 ≤ 4294968273 := by unfold fpZ sP; omega
  have hT : fpZ lo hi % 2 ^ 256 + fpZ lo hi / 2 ^ 256 * sP < 2 ^ 256 + 2 ^ 256 := by unfold sP; omega
  obtain ⟨_, _, h3, _⟩ := up_first hs hT
  refine ⟨h3, ?_⟩
  unfold fpN
  rw [up_mod hp hs hT]
  have key : ∀ (h l : Nat), (l + h * sP) % pP = (h * 2 ^ 256 + l) % pP := by
    intro h l
    rw [← hp, Nat.mul_add, Nat.add_assoc, Nat.add_comm (h * pP), Nat.add_mul_mod_self_right, Nat.add_comm]
  rw [key]
  rw [show fpZ lo hi / 2 ^ 256 * 2 ^ 256 + fpZ lo hi % 2 ^ 256 = fpZ lo hi from by omega]
  exact key hi lo
end Go.W
/-
  FieldSame and FieldBytes, as trees over numbers.
-/
namespace Go.W
def chkB (v m : Value) (k : Option Value) : Option Value := r2 v m <| bif decide (cI v m ≥ 0) then fls else k
def FSaE (w : Int) (a m : Value) : Option Value := r3 (num 0) a m <| bif okB m then (bif eqV (modR (num 0) a m) (fR w a) then tru else fls) else fls
def FSaY (w : Int) (a b y : Value) (k : Option Value) : Option Value :=
  req (isNum y) <| bif !(eqV (fR w y) (fR w a)) then fls else r2 y b <| r2 a b <| bif !(eqV (fA w y b) (fA w a b)) then fls else
  r2 y b <| r2 a b <| bif !(eqV (fM w y b) (fM w a b)) then fls else r2 b y <| r2 b a <| bif !(eqV (fS w b y) (fS w b a)) then fls else k
def FSaT (w : Int) (a b : Value) : Option Value :=
  req (isNum a) <| r2 (fR w a) (num (primeN w)) <| r2 a b <| r2 a b <| r2 a b <| req (isNum a) <|
  chkB (fR w a) (num (primeN w)) <| chkB (fA w a b) (num (primeN w)) <| chkB (fS w a b) (num (primeN w)) <| chkB (fM w a b) (num (primeN w)) <| chkB (fI w a) (num (primeN w)) <|
  bif ((aC (fR w a) (num (primeN w)) : Nat) : Int) == 0 then FSaY w a b (aS (fR w a) (num (primeN w))) (FSaE w a (num (primeN w))) else FSaE w a (num (primeN w))
theorem chkB_num {V p : Nat} (h : V < p) (hp : p < 2 ^ 256) (k : Option Value) : chkB (num V) (num p) k = k := by
  unfold chkB
  rw [r2_num, cI_num (by omega) hp, decide_eq_false (by unfold cmpI; rw [if_pos h]; decide)]; rfl
theorem eqV_no {X Y : Nat} (h : X = Y) (k : Option Value) : (bif !(eqV (num X) (num Y)) then fls else k) = k := by
  subst h; rw [eqV_self]; rfl
theorem FSaT_eq {w : Int} (h : okW w = true) {A B : Nat} (hA : A < 2 ^ 256) (hB : B < 2 ^ 256) : FSaT w (num A) (num B) = tru := by
  obtain ⟨hp1, hp0, hp2⟩ := okW_pos h
  have z0 : (0 : Nat) < 2 ^ 256 := by decide
  have hm : ∀ X, X % primeN w < primeN w := fun X => Nat.mod_lt _ hp0
  have eA : ∀ X Y, X < 2 ^ 256 → Y < 2 ^ 256 → fA w (num X) (num Y) = num ((X + Y) % primeN w) := fun X Y hX hY => by unfold fA; rw [unnum_lt hX, unnum_lt hY, faddN_ok h]
  have eM : ∀ X Y, X < 2 ^ 256 → Y < 2 ^ 256 → fM w (num X) (num Y) = num (X * Y % primeN w) := fun X Y hX hY => by unfold fM; rw [unnum_lt hX, unnum_lt hY, fmulN_ok h]
  have eS : ∀ X Y, X < 2 ^ 256 → Y < 2 ^ 256 → fS w (num X) (num Y) = num ((X + (primeN w - Y % primeN w)) % primeN w) := fun X Y hX hY => by unfold fS; rw [unnum_lt hX, unnum_lt hY, fsubN_ok h]
  have eR : ∀ X, X < 2 ^ 256 → fR w (num X) = num (X % primeN w) := fun X hX => by unfold fR; rw [unnum_lt hX, redN_ok h]
  have eI : fI w (num A) = num (A ^ (primeN w - 2) % primeN w) := by unfold fI; rw [unnum_lt hA, powN_ok h (by omega)]
  have e0 : FSaE w (num A) (num (primeN w)) = tru := by
    unfold FSaE
    have eok : okB (num (primeN w)) = true := by unfold okB modEv modE; rw [unnum_lt hp2, if_neg (by omega)]; rfl
    have e2 : modR (num 0) (num A) (num (primeN w)) = num (A % primeN w) := by
      unfold modR modN
      rw [unnum_lt hp2, if_neg (by omega), unnum_lt z0, unnum_lt hA, Nat.zero_mul, Nat.zero_add]
    rw [r3_num, eok, e2, eR A hA, eqV_self]; rfl
  unfold FSaT
  rw [eR A hA, eA A B hA hB, eM A B hA hB, eS A B hA hB, eI, isNum_num, r2_num, chkB_num (hm _) hp2, chkB_num (hm _) hp2, chkB_num (hm _) hp2, chkB_num (hm _) hp2, chkB_num (hm _) hp2, e0, aC_num, aS_num]
  simp only [req_true, r2_num]
  rw [Nat.mod_eq_of_lt (Nat.lt_trans (hm A) hp2), Nat.mod_eq_of_lt hp2]
  have hlt : A % primeN w < primeN w := hm A
  generalize hr : A % primeN w = r at *
  by_cases hc : r + primeN w < 2 ^ 256
  · rw [Nat.div_eq_of_lt hc]
    show FSaY w (num A) (num B) (num (r + primeN w)) tru = tru
    have hr2 : (r + primeN w) % primeN w = r := by rw [Nat.add_mod_right, Nat.mod_eq_of_lt hlt]
    have q1 : (r + primeN w + B) % primeN w = (A + B) % primeN w := by
      rw [Nat.add_mod, hr2, ← hr, ← Nat.add_mod]
    have q2 : (r + primeN w) * B % primeN w = A * B % primeN w := by
      rw [Nat.mul_mod, hr2, ← hr, ← Nat.mul_mod]
    unfold FSaY
    rw [isNum_num, req_true rfl, r2_num, r2_num, r2_num, r2_num, r2_num, r2_num, eR _ hc, eR A hA, eA _ _ hc hB, eA A B hA hB, eM _ _ hc hB, eM A B hA hB, eS _ _ hB hc, eS B A hB hA,
      eqV_no (by rw [hr2, hr]), eqV_no q1, eqV_no q2, eqV_no (by rw [hr2, hr])]
  · have : (r + primeN w) / 2 ^ 256 = 1 := by omega
    rw [this]; rfl
def chkR (w : Int) (v : Value) (k : Option Value) : Option Value :=
  req (isNum v) <| req (isB32 (bytesV (unnum v))) <| bif readE w (unbytes (bytesV (unnum v))) != 0 then fls else bif !(eqV (num (readN w (unbytes (bytesV (unnum v))))) v) then fls else k
def lessV (m : Nat) : Value := .agg #[.int .u64 (iSub .u64 ((dig m 0 : Nat) : Int) 1), u64 (dig m 1), u64 (dig m 2), u64 (dig m 3)]
def FByE (w : Int) (m q : Value) : Option Value :=
  req (isNum m) <| req (isB32 (bytesV (unnum m))) <| req (isNum q) <| req (isB32 (bytesV (unnum q))) <|
  bif readE w (unbytes (bytesV (unnum m))) == 2 then (bif readE w (unbytes (bytesV (unnum q))) == 0 then (bif eqV (num (readN w (unbytes (bytesV (unnum q))))) q then
    (r2 (num (readN w (unbytes (bytesV (unnum q))))) (num 1) <| bif eqV (fA w (num (readN w (unbytes (bytesV (unnum q))))) (num 1)) (num 0) then tru else fls) else fls) else fls) else fls
def FByT (w : Int) (a b : Value) : Option Value :=
  req (isNum a) <| r2 a b <| r2 a b <| r2 a b <|
  chkR w (fR w a) <| chkR w (fA w a b) <| chkR w (fM w a b) <| chkR w (fS w a b) <| FByE w (num (primeN w)) (lessV (primeN w))
theorem read_ok {w : Int} (h : okW w = true) {V : Nat} (hV : V < primeN w) : readE w (unbytes (bytesV (unnum (num V)))) = 0 ∧ readN w (unbytes (bytesV (unnum (num V)))) = V := by
  obtain ⟨_, _, hp2⟩ := okW_pos h
  rw [unnum_lt (by omega), unbytes_bytesV, Nat.mod_eq_of_lt (by omega)]
  unfold readE readN
  rw [if_pos h, if_pos hV, if_pos h, if_pos hV]
  exact ⟨rfl, rfl⟩
theorem chkR_num {w : Int} (h : okW w = true) {V : Nat} (hV : V < primeN w) (k : Option Value) : chkR w (num V) k = k := by
  obtain ⟨h1, h2⟩ := read_ok h hV
  unfold chkR
  rw [h1, h2, isNum_num, isB32_bytesV, eqV_self]; rfl
theorem lessV_eq {w : Int} (h : okW w = true) : lessV (primeN w) = num (primeN w - 1) := by
  rcases okW_iff.1 h with rfl | rfl <;> kernel_rfl
theorem FByT_eq {w : Int} (h : okW w = true) {A B : Nat} (hA : A < 2 ^ 256) (hB : B < 2 ^ 256) : FByT w (num A) (num B) = tru := by
  obtain ⟨hp1, hp0, hp2⟩ := okW_pos h
  have hm : ∀ X, X % primeN w < primeN w := fun X => Nat.mod_lt _ hp0
  have eA : ∀ X Y, X < 2 ^ 256 → Y < 2 ^ 256 → fA w (num X) (num Y) = num ((X + Y) % primeN w) := fun X Y hX hY => by unfold fA; rw [unnum_lt hX, unnum_lt hY, faddN_ok h]
  have eM : ∀ X Y, X < 2 ^ 256 → Y < 2 ^ 256 → fM w (num X) (num Y) = num (X * Y % primeN w) := fun X Y hX hY => by unfold fM; rw [unnum_lt hX, unnum_lt hY, fmulN_ok h]
  have eS : ∀ X Y, X < 2 ^ 256 → Y < 2 ^ 256 → fS w (num X) (num Y) = num ((X + (primeN w - Y % primeN w)) % primeN w) := fun X Y hX hY => by unfold fS; rw [unnum_lt hX, unnum_lt hY, fsubN_ok h]
  have eR : ∀ X, X < 2 ^ 256 → fR w (num X) = num (X % primeN w) := fun X hX => by unfold fR; rw [unnum_lt hX, redN_ok h]
  unfold FByT
  rw [eR A hA, eA A B hA hB, eM A B hA hB, eS A B hA hB, isNum_num, req_true rfl, r2_num, r2_num, r2_num, chkR_num h (hm _), chkR_num h (hm _), chkR_num h (hm _), chkR_num h (hm _), lessV_eq h]
  unfold FByE
  obtain ⟨h1, h2⟩ := read_ok h (show primeN w - 1 < primeN w by omega)
  have h3 : readE w (unbytes (bytesV (unnum (num (primeN w))))) = 2 := by
    rw [unnum_lt hp2, unbytes_bytesV, Nat.mod_eq_of_lt hp2]
    unfold readE; rw [if_pos h, if_neg (Nat.lt_irrefl _)]
  rw [h1, h2, h3, isNum_num, isNum_num, isB32_bytesV, isB32_bytesV, eqV_self, r2_num, eA _ _ (by omega) (by decide), show primeN w - 1 + 1 = primeN w from by omega, Nat.mod_self, eqV_self]; rfl
end Go.W
