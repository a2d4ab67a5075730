/-
  Several texts in one.
-/
import Derived.Test.YtbklbmiddacaiaaEc
import Derived.Test.YtbklbmiddacaiaaEf
import Derived.Test.YtbklbmiddacaiaaEh
import Derived.Test.YtbklbmiddacaiaaEd
/-
  Polynomials modulo a prime, by their coefficients, the lowest first: as many places as coefficients tell them; Lagrange's.
-/
namespace Go.W

def pEv : List Int → Int → Int
  | [], _ => 0
  | c :: t, x => c + x * pEv t x
def pQt : List Int → Int → List Int
  | [], _ => []
  | [_], _ => []
  | _ :: d :: t, a => pEv (d :: t) a :: pQt (d :: t) a
theorem pQt_len : ∀ (c : List Int) (a : Int), (pQt c a).length = c.length - 1
  | [], _ => rfl
  | [_], _ => rfl
  | _ :: d :: t, a => by
    have := pQt_len (d :: t) a
    simp only [pQt, List.length_cons] at this ⊢
    omega
theorem pQt_ev : ∀ (c : List Int) (a x : Int), pEv c x - pEv c a = (x - a) * pEv (pQt c a) x
  | [], a, x => by simp [pEv, pQt]
  | [c], a, x => by simp [pEv, pQt]
  | c :: d :: t, a, x => by
    have := pQt_ev (d :: t) a x
    simp only [pQt]
    rw [show pEv (c :: d :: t) x = c + x * pEv (d :: t) x from rfl, show pEv (c :: d :: t) a = c + a * pEv (d :: t) a from rfl, show pEv (pEv (d :: t) a :: pQt (d :: t) a) x = pEv (d :: t) a + x * pEv (pQt (d :: t) a) x from rfl]
    generalize pEv (d :: t) x = A at *
    generalize pEv (d :: t) a = B at *
    generalize pEv (pQt (d :: t) a) x = C at *
    grind
theorem pQt_all {p : Int} : ∀ (c : List Int) (a : Int), (∀ y ∈ pQt c a, p ∣ y) → p ∣ pEv c a → ∀ y ∈ c, p ∣ y
  | [], _, _, _, y, hy => by simp at hy
  | [c], a, _, h, y, hy => by
    rw [List.mem_singleton] at hy
    subst hy
    simpa [pEv] using h
  | c :: d :: t, a, h, h2, y, hy => by
    have h3 : p ∣ pEv (d :: t) a := h _ (by simp [pQt])
    rcases List.mem_cons.1 hy with rfl | hy
    · have : pEv (y :: d :: t) a = y + a * pEv (d :: t) a := rfl
      rw [this] at h2
      have h4 : p ∣ a * pEv (d :: t) a := Int.dvd_mul_of_dvd_right h3
      have := Int.dvd_sub h2 h4
      rwa [Int.add_sub_cancel] at this
    · exact pQt_all (d :: t) a (fun z hz => h z (by simp [pQt, hz])) h3 y hy

theorem pEv_zero {p : Int} (hp : ∀ a b : Int, p ∣ a * b → p ∣ a ∨ p ∣ b) : ∀ (xs c : List Int), xs.Pairwise (fun x y => ¬ p ∣ (x - y)) → c.length ≤ xs.length → (∀ x ∈ xs, p ∣ pEv c x) → ∀ y ∈ c, p ∣ y
  | [], c, _, hl, _, y, hy => by
    have : c = [] := List.length_eq_zero_iff.1 (by simpa using hl)
    subst this; simp at hy
  | a :: xs, c, hd, hl, hx, y, hy => by
    obtain ⟨h1, h2⟩ := List.pairwise_cons.1 hd
    refine pQt_all c a (pEv_zero hp xs (pQt c a) h2 (by rw [pQt_len]; simp only [List.length_cons] at hl; omega) fun x hxs => ?_) (hx a (by simp)) y hy
    have h3 : p ∣ (x - a) * pEv (pQt c a) x := by
      rw [← pQt_ev]
      exact Int.dvd_sub (hx x (by simp [hxs])) (hx a (by simp))
    rcases hp _ _ h3 with h4 | h4
    · exfalso
      refine h1 x hxs ?_
      have : a - x = -(x - a) := by omega
      rw [this]; exact Int.dvd_neg.2 h4
    · exact h4

def pAdd : List Int → List Int → List Int
  | [], d => d
  | c, [] => c
  | a :: c, b :: d => (a + b) :: pAdd c d
theorem pAdd_ev : ∀ (c d : List Int) (x : Int), pEv (pAdd c d) x = pEv c x + pEv d x
  | [], d, x => by simp [pAdd, pEv]
  | a :: c, [], x => by simp [pAdd, pEv]
  | a :: c, b :: d, x => by
    show (a + b) + x * pEv (pAdd c d) x = (a + x * pEv c x) + (b + x * pEv d x)
    rw [pAdd_ev c d x]; grind
theorem pAdd_len : ∀ (c d : List Int), (pAdd c d).length = max c.length d.length
  | [], d => by simp [pAdd]
  | a :: c, [] => by simp [pAdd]
  | a :: c, b :: d => by
    simp only [pAdd, List.length_cons, pAdd_len c d]; omega
def pMul (k : Int) (c : List Int) : List Int := c.map (k * ·)
theorem pMul_ev (k : Int) : ∀ (c : List Int) (x : Int), pEv (pMul k c) x = k * pEv c x
  | [], x => by simp [pMul, pEv]
  | a :: c, x => by
    show k * a + x * pEv (pMul k c) x = k * (a + x * pEv c x)
    rw [pMul_ev k c x]; grind
def pLin (a : Int) (c : List Int) : List Int := pAdd (0 :: c) (pMul (-a) c)
theorem pLin_ev (a : Int) (c : List Int) (x : Int) : pEv (pLin a c) x = (x - a) * pEv c x := by
  unfold pLin
  rw [pAdd_ev, pMul_ev]
  show 0 + x * pEv c x + -a * pEv c x = _
  grind
theorem pLin_len (a : Int) (c : List Int) : (pLin a c).length = c.length + 1 := by
  unfold pLin
  rw [pAdd_len]
  simp only [List.length_cons, pMul, List.length_map]; omega
def pRoots : List Int → List Int
  | [] => [1]
  | a :: l => pLin a (pRoots l)
def pProd : List Int → Int → Int
  | [], _ => 1
  | a :: l, x => (x - a) * pProd l x
theorem pRoots_ev : ∀ (l : List Int) (x : Int), pEv (pRoots l) x = pProd l x
  | [], x => by simp [pRoots, pEv, pProd]
  | a :: l, x => by
    show pEv (pLin a (pRoots l)) x = (x - a) * pProd l x
    rw [pLin_ev, pRoots_ev l x]
theorem pRoots_len : ∀ l : List Int, (pRoots l).length = l.length + 1
  | [] => rfl
  | a :: l => by
    show (pLin a (pRoots l)).length = _
    rw [pLin_len, pRoots_len l]; rfl
theorem pProd_at {l : List Int} {x : Int} (h : x ∈ l) : pProd l x = 0 := by
  induction l with
  | nil => simp at h
  | cons a l ih =>
    rcases List.mem_cons.1 h with rfl | h
    · show (x - x) * _ = 0; simp
    · show (x - a) * pProd l x = 0; rw [ih h, Int.mul_zero]
end Go.W

/-
  Lagrange's: the polynomial through places that are told by their numbers.
-/
namespace Go.W

def lgB (X : Nat → Int) (i : Nat) : Nat → List Int
  | 0 => [1]
  | j + 1 => if j = i then lgB X i j else pLin (X j) (lgB X i j)
def lgP (X : Nat → Int) (i : Nat) (x : Int) : Nat → Int
  | 0 => 1
  | j + 1 => if j = i then lgP X i x j else lgP X i x j * (x - X j)
theorem lgB_ev (X : Nat → Int) (i : Nat) (x : Int) : ∀ n, pEv (lgB X i n) x = lgP X i x n
  | 0 => by simp [lgB, lgP, pEv]
  | j + 1 => by
    unfold lgB lgP
    by_cases h : j = i
    · rw [if_pos h, if_pos h]; exact lgB_ev X i x j
    · rw [if_neg h, if_neg h, pLin_ev, lgB_ev X i x j, Int.mul_comm]
theorem lgB_len (X : Nat → Int) (i : Nat) : ∀ n, (lgB X i n).length = if i < n then n else n + 1
  | 0 => by simp [lgB]
  | j + 1 => by
    unfold lgB
    by_cases h : j = i
    · subst h
      rw [if_pos rfl, lgB_len X j j, if_neg (by omega), if_pos (by omega)]
    · rw [if_neg h, pLin_len, lgB_len X i j]
      by_cases h2 : i < j
      · rw [if_pos h2, if_pos (by omega)]
      · rw [if_neg h2, if_neg (by omega)]
theorem lgP_zero (X : Nat → Int) (i k : Nat) (hk : k ≠ i) : ∀ n, k < n → lgP X i (X k) n = 0
  | 0, h => absurd h (by omega)
  | j + 1, h => by
    unfold lgP
    by_cases e : j = i
    · rw [if_pos e]; exact lgP_zero X i k hk j (by omega)
    · rw [if_neg e]
      by_cases e2 : k = j
      · subst e2; rw [Int.sub_self, Int.mul_zero]
      · rw [lgP_zero X i k hk j (by omega), Int.zero_mul]
theorem lgP_ne {p : Int} (hp : ∀ a b : Int, p ∣ a * b → p ∣ a ∨ p ∣ b) (hp1 : ¬ p ∣ 1) (X : Nat → Int) (i : Nat) (x : Int) : ∀ n, (∀ j, j < n → j ≠ i → ¬ p ∣ (x - X j)) → ¬ p ∣ lgP X i x n
  | 0, _ => hp1
  | j + 1, h => by
    unfold lgP
    by_cases e : j = i
    · rw [if_pos e]; exact lgP_ne hp hp1 X i x j fun k hk => h k (by omega)
    · rw [if_neg e]
      intro hd
      rcases hp _ _ hd with h1 | h1
      · exact lgP_ne hp hp1 X i x j (fun k hk => h k (by omega)) h1
      · exact h j (by omega) e h1

def lgS (X f : Nat → Int) (n : Nat) : Nat → List Int
  | 0 => []
  | k + 1 => pAdd (lgS X f n k) (pMul (f k) (lgB X k n))
def lgV (X f : Nat → Int) (n : Nat) (x : Int) : Nat → Int
  | 0 => 0
  | k + 1 => lgV X f n x k + f k * lgP X k x n
theorem lgS_ev (X f : Nat → Int) (n : Nat) (x : Int) : ∀ m, pEv (lgS X f n m) x = lgV X f n x m
  | 0 => rfl
  | k + 1 => by
    unfold lgS lgV
    rw [pAdd_ev, pMul_ev, lgS_ev X f n x k, lgB_ev]
theorem lgS_len (X f : Nat → Int) (n : Nat) : ∀ m, m ≤ n → (lgS X f n m).length ≤ n
  | 0, _ => Nat.zero_le _
  | k + 1, h => by
    unfold lgS
    have h1 := lgS_len X f n k (by omega)
    have h2 : (pMul (f k) (lgB X k n)).length = n := by
      unfold pMul; rw [List.length_map, lgB_len, if_pos (by omega)]
    rw [pAdd_len, h2]; omega
theorem lgV_at (X f : Nat → Int) (n i : Nat) (hi : i < n) : ∀ m, lgV X f n (X i) m = if i < m then f i * lgP X i (X i) n else 0
  | 0 => by rw [if_neg (by omega)]; rfl
  | k + 1 => by
    unfold lgV
    rw [lgV_at X f n i hi k]
    by_cases e : i = k
    · subst e
      rw [if_neg (by omega), if_pos (by omega), Int.zero_add]
    · rw [lgP_zero X k i e n hi, Int.mul_zero, Int.add_zero]
      by_cases h : i < k
      · rw [if_pos h, if_pos (by omega)]
      · rw [if_neg h, if_neg (by omega)]

theorem pw_range {p : Int} {X : Nat → Int} {n : Nat} (h : ∀ i j, i < j → j < n → ¬ p ∣ (X i - X j)) : ((List.range n).map X).Pairwise (fun x y => ¬ p ∣ (x - y)) := by
  rw [List.pairwise_map, List.pairwise_iff_getElem]
  intro i j hi hj hij
  rw [List.getElem_range, List.getElem_range]
  exact h i j hij (by simpa using hj)
theorem lg_only {p : Int} (hp : ∀ a b : Int, p ∣ a * b → p ∣ a ∨ p ∣ b) {X f Y : Nat → Int} {n : Nat} (hX : ∀ i j, i < j → j < n → ¬ p ∣ (X i - X j)) (hf : ∀ i, i < n → p ∣ f i * lgP X i (X i) n - Y i) {c : List Int} (hl : c.length ≤ n) (hc : ∀ i, i < n → p ∣ pEv c (X i) - Y i) :
    ∀ y ∈ pAdd (lgS X f n n) (pMul (-1) c), p ∣ y := by
  refine pEv_zero hp ((List.range n).map X) _ (pw_range hX) ?_ ?_
  · rw [pAdd_len, List.length_map, List.length_range]
    have h1 := lgS_len X f n n (Nat.le_refl _)
    have h2 : (pMul (-1) c).length = c.length := by unfold pMul; rw [List.length_map]
    omega
  · intro x hx
    obtain ⟨i, hi, rfl⟩ := List.mem_map.1 hx
    have hi : i < n := by simpa using hi
    rw [pAdd_ev, pMul_ev, lgS_ev, lgV_at X f n i hi, if_pos hi]
    have := Int.dvd_sub (hf i hi) (hc i hi)
    have e : f i * lgP X i (X i) n - Y i - (pEv c (X i) - Y i) = f i * lgP X i (X i) n + -1 * pEv c (X i) := by omega
    rwa [e] at this
theorem pEv_dvd {p : Int} : ∀ {c : List Int}, (∀ y ∈ c, p ∣ y) → ∀ x, p ∣ pEv c x
  | [], _, x => Int.dvd_zero p
  | a :: c, h, x => by
    show p ∣ a + x * pEv c x
    exact Int.dvd_add (h a (by simp)) (Int.dvd_mul_of_dvd_right (pEv_dvd (fun y hy => h y (by simp [hy])) x))
theorem lg_worth {p : Int} (hp : ∀ a b : Int, p ∣ a * b → p ∣ a ∨ p ∣ b) {X f Y : Nat → Int} {n : Nat} (hX : ∀ i j, i < j → j < n → ¬ p ∣ (X i - X j)) (hf : ∀ i, i < n → p ∣ f i * lgP X i (X i) n - Y i) {c : List Int} (hl : c.length ≤ n) (hc : ∀ i, i < n → p ∣ pEv c (X i) - Y i) (x : Int) : p ∣ lgV X f n x n - pEv c x := by
  have := pEv_dvd (lg_only hp hX hf hl hc) x
  rw [pAdd_ev, pMul_ev, lgS_ev] at this
  have e : lgV X f n x n + -1 * pEv c x = lgV X f n x n - pEv c x := by omega
  rwa [e] at this
end Go.W

/-
  Both primes divide no product but one of its parts.
-/
namespace Go.W

theorem nat_euclid {w : Int} (h : okW w = true) {A B : Nat} (hd : A * B % primeN w = 0) : A % primeN w = 0 ∨ B % primeN w = 0 := by
  by_cases hA : A % primeN w = 0
  · exact .inl hA
  · right
    have h1 := inv_ok h hA
    have h2 : (A * powN w A (primeN w - 2)) * B % primeN w = B % primeN w := by
      rw [Nat.mul_mod, h1, Nat.one_mul, Nat.mod_mod]
    have h3 : (A * powN w A (primeN w - 2)) * B = (A * B) * powN w A (primeN w - 2) := by
      rw [Nat.mul_assoc, Nat.mul_comm (powN w A (primeN w - 2)) B, ← Nat.mul_assoc]
    rw [h3, Nat.mul_mod, hd, Nat.zero_mul, Nat.zero_mod] at h2
    exact h2.symm
theorem int_euclid {w : Int} (h : okW w = true) (a b : Int) (hd : ((primeN w : Nat) : Int) ∣ a * b) : ((primeN w : Nat) : Int) ∣ a ∨ ((primeN w : Nat) : Int) ∣ b := by
  have h1 : (primeN w : Nat) ∣ a.natAbs * b.natAbs := by
    rw [← Int.natAbs_mul]
    exact Int.ofNat_dvd_left.1 hd
  rcases nat_euclid h (Nat.mod_eq_zero_of_dvd h1) with h2 | h2
  · exact .inl (Int.ofNat_dvd_left.2 (Nat.dvd_of_mod_eq_zero h2))
  · exact .inr (Int.ofNat_dvd_left.2 (Nat.dvd_of_mod_eq_zero h2))
theorem int_one {w : Int} (h : okW w = true) : ¬ ((primeN w : Nat) : Int) ∣ 1 := by
  intro hd
  have h3 : primeN w ∣ 1 := Int.ofNat_dvd_left.1 hd
  have := Nat.le_of_dvd (by omega) h3
  have h2 := (okW_pos h).1
  omega
theorem mod_dvd {p : Nat} (a : Nat) : (p : Int) ∣ ((a % p : Nat) : Int) - (a : Int) := by
  have := Nat.mod_add_div a p
  refine ⟨-((a / p : Nat) : Int), ?_⟩
  have e : ((a % p : Nat) : Int) + (p : Int) * ((a / p : Nat) : Int) = (a : Int) := by
    rw [← Int.natCast_mul, ← Int.natCast_add, this]
  rw [Int.mul_neg]; omega
theorem dvd_mod {p a b : Nat} (h : (p : Int) ∣ (a : Int) - (b : Int)) : a % p = b % p := by
  have := Int.emod_emod_of_dvd (a : Int) (Int.dvd_refl (p : Int))
  have h2 : (a : Int) % (p : Int) = (b : Int) % (p : Int) := Int.emod_eq_emod_iff_emod_sub_eq_zero.2 (Int.emod_eq_zero_of_dvd h)
  exact_mod_cast h2
end Go.W

/-
  The engine, part 25: loops whose rounds come to what is told, cell by cell.
-/
namespace Go.W

theorem loopE {P : Program} [Laid P] {code : Code} {n : Nat} (C : Nat → Cfg) (N : Nat) (hC : ∀ k, k ≤ N → CfgOk P (C k) code) (hn : ∀ k, (C k).n = n) {p : List Nat} (hp : codeAt p code = some (.loop (loopAt p code))) {m : Nat} {ts : List Nat} {is : Ren} {tx : Nat} {nt et : List Nat} {ni ei : Ren} {nx ex : Nat} (st : Nat → St) {e : Exit} {s0 sf : St} (h0 : s0 = st 0) (he : e ≠ .normal)
    (step : ∀ k, k < N → ∃ s, roundS (C k) m (p ++ [0]) (loopAt p code) nt ni nx et ei ex (st k) = some (.normal, s) ∧ stEq s (st (k + 1)) = true)
    (last : ∃ s, roundS (C N) m (p ++ [0]) (loopAt p code) nt ni nx et ei ex (st N) = some (e, s) ∧ stEq s sf = true) :
    LoopOk P n (loopAt p code) (atSt ts is tx s0 e sf) := by
  refine atSt_ok fun w0 R a w hrel => ?_
  rw [h0] at hrel
  have hx : codeAt (p ++ [0]) code = some (loopAt p code) := by rw [codeAt_app, hp]; rfl
  have key : ∀ j, j ≤ N → ∀ (R : Nat → Pl → Prop) (a : Act) (w : World), Rel w0 n R (st (N - j)).f a w → Code.rounds P (loopAt p code) (fun e' a' w' => e' = e ∧ ∃ R', Rel w0 n R' sf.f a' w') (j + 1) a w := by
    intro j
    induction j with
    | zero =>
      intro _ R a w hr
      rw [rounds_succ]
      obtain ⟨s, h1, h2⟩ := last
      have hs := round_sound (hC N (Nat.le_refl _)) hx h1 (w0 := w0) (R := R) (a := a) (w := w) (by rw [hn]; exact hr)
      rw [hn] at hs
      refine wp_mono hs ?_
      rintro e' a' w' ⟨rfl, R', hr'⟩
      cases e' with
      | normal => exact absurd rfl he
      | _ => exact ⟨rfl, R', hr'.eqv h2⟩
    | succ j ih =>
      intro hj R a w hr
      rw [rounds_succ]
      obtain ⟨s, h1, h2⟩ := step (N - (j + 1)) (by omega)
      have hs := round_sound (hC (N - (j + 1)) (by omega)) hx h1 (w0 := w0) (R := R) (a := a) (w := w) (by rw [hn]; exact hr)
      rw [hn] at hs
      refine wp_mono hs ?_
      rintro e' a' w' ⟨rfl, R', hr'⟩
      refine ih (by omega) R' a' w' ?_
      rw [show N - j = N - (j + 1) + 1 from by omega]
      exact hr'.eqv h2
  exact wp_loop_rounds (N + 1) (key N (Nat.le_refl N) R a w (by rw [Nat.sub_self]; exact hrel))

theorem loopV {P : Program} [Laid P] {code : Code} {n : Nat} (C : Nat → Cfg) (N : Nat) (hC : ∀ k, k ≤ N → CfgOk P (C k) code) (hn : ∀ k, (C k).n = n) {p : List Nat} (hp : codeAt p code = some (.loop (loopAt p code))) {m : Nat} {ts : List Nat} {is : Ren} {tx : Nat} {nt et : List Nat} {ni ei : Nat → Ren} {nx ex : Nat} (st : Nat → St) {e : Exit} {s0 sf : St} (h0 : s0 = st 0) (he : e ≠ .normal)
    (step : ∀ k, k < N → ∃ s, roundS (C k) m (p ++ [0]) (loopAt p code) nt (ni k) nx et (ei k) ex (st k) = some (.normal, s) ∧ stEq s (st (k + 1)) = true)
    (last : ∃ s, roundS (C N) m (p ++ [0]) (loopAt p code) nt (ni N) nx et (ei N) ex (st N) = some (e, s) ∧ stEq s sf = true) :
    LoopOk P n (loopAt p code) (atSt ts is tx s0 e sf) := by
  refine atSt_ok fun w0 R a w hrel => ?_
  rw [h0] at hrel
  have hx : codeAt (p ++ [0]) code = some (loopAt p code) := by rw [codeAt_app, hp]; rfl
  have key : ∀ j, j ≤ N → ∀ (R : Nat → Pl → Prop) (a : Act) (w : World), Rel w0 n R (st (N - j)).f a w → Code.rounds P (loopAt p code) (fun e' a' w' => e' = e ∧ ∃ R', Rel w0 n R' sf.f a' w') (j + 1) a w := by
    intro j
    induction j with
    | zero =>
      intro _ R a w hr
      rw [rounds_succ]
      obtain ⟨s, h1, h2⟩ := last
      have hs := round_sound (hC N (Nat.le_refl _)) hx h1 (w0 := w0) (R := R) (a := a) (w := w) (by rw [hn]; exact hr)
      rw [hn] at hs
      refine wp_mono hs ?_
      rintro e' a' w' ⟨rfl, R', hr'⟩
      cases e' with
      | normal => exact absurd rfl he
      | _ => exact ⟨rfl, R', hr'.eqv h2⟩
    | succ j ih =>
      intro hj R a w hr
      rw [rounds_succ]
      obtain ⟨s, h1, h2⟩ := step (N - (j + 1)) (by omega)
      have hs := round_sound (hC (N - (j + 1)) (by omega)) hx h1 (w0 := w0) (R := R) (a := a) (w := w) (by rw [hn]; exact hr)
      rw [hn] at hs
      refine wp_mono hs ?_
      rintro e' a' w' ⟨rfl, R', hr'⟩
      refine ih (by omega) R' a' w' ?_
      rw [show N - j = N - (j + 1) + 1 from by omega]
      exact hr'.eqv h2
  exact wp_loop_rounds (N + 1) (key N (Nat.le_refl N) R a w (by rw [Nat.sub_self]; exact hrel))

theorem mNil : memEq [] [] = true := rfl
theorem mRow {a : Nat} {ks : List CK} {n : Nat} {f g : Nat → List Value} {e : TypeId} {o : Bool} {l m : List (Nat × Blk)} (h : ∀ j, j < n → nrmK ks (f j) = nrmK ks (g j)) (h2 : memEq l m = true) : memEq ((a, ⟨.row ks n f, e, o⟩) :: l) ((a, ⟨.row ks n g, e, o⟩) :: m) = true := memEq_cons (cellsEq_rr h) h2
theorem mSame {a : Nat} {c : Cells} {e : TypeId} {o : Bool} {l m : List (Nat × Blk)} (h : vokC c = true) (h2 : memEq l m = true) : memEq ((a, ⟨c, e, o⟩) :: l) ((a, ⟨c, e, o⟩) :: m) = true := memEq_cons (cellsEq_refl h) h2
end Go.W

/-
  Numbers modulo n that nothing computes; rows of numbers.
-/
namespace Go.W

noncomputable def nAdd (A B : Nat) : Nat := Classical.choose (⟨faddN 1 A B, rfl⟩ : ∃ x : Nat, x = faddN 1 A B)
theorem nAdd_def (A B : Nat) : nAdd A B = faddN 1 A B := Classical.choose_spec (⟨faddN 1 A B, rfl⟩ : ∃ x : Nat, x = faddN 1 A B)
noncomputable def nSub (A B : Nat) : Nat := Classical.choose (⟨fsubN 1 A B, rfl⟩ : ∃ x : Nat, x = fsubN 1 A B)
theorem nSub_def (A B : Nat) : nSub A B = fsubN 1 A B := Classical.choose_spec (⟨fsubN 1 A B, rfl⟩ : ∃ x : Nat, x = fsubN 1 A B)
noncomputable def nMul (A B : Nat) : Nat := Classical.choose (⟨fmulN 1 A B, rfl⟩ : ∃ x : Nat, x = fmulN 1 A B)
theorem nMul_def (A B : Nat) : nMul A B = fmulN 1 A B := Classical.choose_spec (⟨fmulN 1 A B, rfl⟩ : ∃ x : Nat, x = fmulN 1 A B)
noncomputable def nInv (A : Nat) : Nat := Classical.choose (⟨powN 1 A (primeN 1 - 2), rfl⟩ : ∃ x : Nat, x = powN 1 A (primeN 1 - 2))
theorem nInv_def (A : Nat) : nInv A = powN 1 A (primeN 1 - 2) := Classical.choose_spec (⟨powN 1 A (primeN 1 - 2), rfl⟩ : ∃ x : Nat, x = powN 1 A (primeN 1 - 2))
noncomputable def nRed (A : Nat) : Nat := Classical.choose (⟨redN 1 A, rfl⟩ : ∃ x : Nat, x = redN 1 A)
theorem nRed_def (A : Nat) : nRed A = redN 1 A := Classical.choose_spec (⟨redN 1 A, rfl⟩ : ∃ x : Nat, x = redN 1 A)

noncomputable def PAddF : List Value → Option (Bool × Value)
  | [a, b] => some (isNum a && isNum b, num (nAdd (unnum a) (unnum b)))
  | _ => none
noncomputable def PSubF : List Value → Option (Bool × Value)
  | [a, b] => some (isNum a && isNum b, num (nSub (unnum a) (unnum b)))
  | _ => none
noncomputable def PMulF : List Value → Option (Bool × Value)
  | [a, b] => some (isNum a && isNum b, num (nMul (unnum a) (unnum b)))
  | _ => none
noncomputable def PInvF : List Value → Option (Bool × Value)
  | [a] => some (isNum a, num (nInv (unnum a)))
  | _ => none

theorem n1_pos : 0 < pN := by decide
theorem n1_lt : pN < 2 ^ 256 := by decide
theorem nAdd_eq (A B : Nat) : nAdd A B = (A + B) % pN := by rw [nAdd_def, faddN_ok (w := 1) rfl]; rfl
theorem nMul_eq (A B : Nat) : nMul A B = A * B % pN := by rw [nMul_def, fmulN_ok (w := 1) rfl]; rfl
theorem nSub_eq (A B : Nat) : nSub A B = (A + (pN - B % pN)) % pN := by rw [nSub_def, fsubN_ok (w := 1) rfl]; rfl
theorem nRed_eq (A : Nat) : nRed A = A % pN := by rw [nRed_def, redN_ok (w := 1) rfl]; rfl
theorem nAdd_p (A B : Nat) : nAdd A B < pN := by rw [nAdd_eq]; exact Nat.mod_lt _ n1_pos
theorem nMul_p (A B : Nat) : nMul A B < pN := by rw [nMul_eq]; exact Nat.mod_lt _ n1_pos
theorem nSub_p (A B : Nat) : nSub A B < pN := by rw [nSub_eq]; exact Nat.mod_lt _ n1_pos
theorem nRed_p (A : Nat) : nRed A < pN := by rw [nRed_eq]; exact Nat.mod_lt _ n1_pos
theorem nInv_p (A : Nat) : nInv A < pN := by
  rw [nInv_def, powN_ok (w := 1) rfl (by decide)]; exact Nat.mod_lt _ n1_pos
theorem p_lt {A : Nat} (h : A < pN) : A < 2 ^ 256 := Nat.lt_trans h n1_lt
theorem uN {A : Nat} (h : A < pN) : unnum (num A) = A := unnum_lt (p_lt h)

def nmF (V : Nat → Nat) : Nat → List Value := fun j => nmL (V j)
def el4 (f : Nat → List Value) (j : Nat) : Value := .agg (nrmK kN4 (f j)).toArray
def nA (f : Nat → List Value) (j : Nat) : Nat := unnum (el4 f j)
noncomputable def okV (n : Nat) (f : Nat → List Value) : Bool := @decide (n ≤ 1000 ∧ ∀ j, j < n → isNum (el4 f j) = true) (Classical.propDecidable _)
theorem okV_iff {n : Nat} {f : Nat → List Value} : okV n f = true ↔ n ≤ 1000 ∧ ∀ j, j < n → isNum (el4 f j) = true := by
  unfold okV
  exact ⟨fun h => @of_decide_eq_true _ (Classical.propDecidable _) h, fun h => @decide_eq_true _ (Classical.propDecidable _) h⟩
theorem el_num {n : Nat} {f : Nat → List Value} (h : okV n f = true) {j : Nat} (hj : j < n) : el4 f j = num (nA f j) ∧ nA f j < 2 ^ 256 := by
  obtain ⟨X, hX, e⟩ := isNum_some ((okV_iff.1 h).2 j hj)
  have : nA f j = X := by unfold nA; rw [e, unnum_lt hX]
  rw [this]; exact ⟨e, hX⟩
theorem row_nm {n : Nat} {f : Nat → List Value} (h : okV n f = true) : ∀ j, j < n → nrmK kN4 (f j) = nrmK kN4 (nmF (nA f) j) := by
  intro j hj
  have e := (el_num h hj).1
  have := congrArg (fun v : Value => v.cells.toList) e
  exact this
theorem nA_nm {V : Nat → Nat} {j : Nat} (h : V j < 2 ^ 256) : nA (nmF V) j = V j := unnum_lt h
theorem okV_nm {n : Nat} {V : Nat → Nat} (hn : n ≤ 1000) : okV n (nmF V) = true := okV_iff.2 ⟨hn, fun j _ => isNum_num (V j)⟩
def sg4 (n : Nat) (f : Nat → List Value) : Nat → List Value := segF ⟨0, 0, n, kN4, n, f, 0, false, []⟩
theorem el4_sg (n : Nat) (f : Nat → List Value) (j : Nat) : el4 (sg4 n f) j = el4 f j := by show el4 f (0 + j) = el4 f j; rw [Nat.zero_add]
theorem nA_sg (n : Nat) (f : Nat → List Value) : nA (sg4 n f) = nA f := by funext j; unfold nA; rw [el4_sg]
theorem okV_sg (m n : Nat) (f : Nat → List Value) : okV m (sg4 n f) = okV m f := by
  rw [Bool.eq_iff_iff, okV_iff, okV_iff]; simp only [el4_sg]
theorem okV_congr {n : Nat} {f g : Nat → List Value} (h : ∀ j, j < n → nrmK kN4 (f j) = nrmK kN4 (g j)) : okV n f = okV n g := by
  rw [Bool.eq_iff_iff, okV_iff, okV_iff]
  have : ∀ j, j < n → el4 f j = el4 g j := fun j hj => by unfold el4; rw [h j hj]
  exact ⟨fun ⟨a, b⟩ => ⟨a, fun j hj => (this j hj) ▸ b j hj⟩, fun ⟨a, b⟩ => ⟨a, fun j hj => (this j hj) ▸ b j hj⟩⟩
def updN (V : Nat → Nat) (k v : Nat) : Nat → Nat := fun j => if j = k then v else V j
theorem updN_row {n : Nat} (V : Nat → Nat) (k v : Nat) : ∀ j, j < n → nrmK kN4 (updR (nmF V) k (cells4 v) j) = nrmK kN4 (nmF (updN V k v) j) := by
  intro j _
  show nrmK kN4 (bif Nat.beq j k then cells4 v else nmL (V j)) = nrmK kN4 (nmL (if j = k then v else V j))
  by_cases h : j = k
  · subst h; rw [Nat.beq_refl, if_pos rfl]; rfl
  · rw [if_neg h, show Nat.beq j k = false from by rw [Bool.eq_false_iff, ne_eq, Nat.beq_eq]; exact h]; rfl

def kx8 (f : Nat → List Value) (j : Nat) : Value := .agg ((nrmK kN8 (f j)).take 4).toArray
def ky8 (f : Nat → List Value) (j : Nat) : Value := .agg ((nrmK kN8 (f j)).drop 4).toArray
def xA (f : Nat → List Value) (j : Nat) : Nat := unnum (kx8 f j)
def yA (f : Nat → List Value) (j : Nat) : Nat := unnum (ky8 f j)
def shF (V : Nat → Nat × Nat) : Nat → List Value := fun j => shL (V j)
noncomputable def okS (n : Nat) (f : Nat → List Value) : Bool := @decide (n ≤ 1000 ∧ ∀ j, j < n → isNum (kx8 f j) = true ∧ isNum (ky8 f j) = true) (Classical.propDecidable _)
theorem okS_iff {n : Nat} {f : Nat → List Value} : okS n f = true ↔ n ≤ 1000 ∧ ∀ j, j < n → isNum (kx8 f j) = true ∧ isNum (ky8 f j) = true := by
  unfold okS
  exact ⟨fun h => @of_decide_eq_true _ (Classical.propDecidable _) h, fun h => @decide_eq_true _ (Classical.propDecidable _) h⟩
def sA (f : Nat → List Value) (j : Nat) : Nat × Nat := (xA f j, yA f j)
theorem el8_num {n : Nat} {f : Nat → List Value} (h : okS n f = true) {j : Nat} (hj : j < n) : kx8 f j = num (xA f j) ∧ xA f j < 2 ^ 256 ∧ ky8 f j = num (yA f j) ∧ yA f j < 2 ^ 256 := by
  obtain ⟨h1, h2⟩ := (okS_iff.1 h).2 j hj
  obtain ⟨X, hX, e⟩ := isNum_some h1
  obtain ⟨Y, hY, e'⟩ := isNum_some h2
  have a : xA f j = X := by unfold xA; rw [e, unnum_lt hX]
  have b : yA f j = Y := by unfold yA; rw [e', unnum_lt hY]
  rw [a, b]; exact ⟨e, hX, e', hY⟩
theorem row_sh {n : Nat} {f : Nat → List Value} (h : okS n f = true) : ∀ j, j < n → nrmK kN8 (f j) = nrmK kN8 (shF (sA f) j) := by
  intro j hj
  obtain ⟨e1, _, e2, _⟩ := el8_num h hj
  have a := congrArg (fun v : Value => v.cells.toList) e1
  have b := congrArg (fun v : Value => v.cells.toList) e2
  have : nrmK kN8 (f j) = (kx8 f j).cells.toList ++ (ky8 f j).cells.toList := rfl
  rw [this, e1, e2]; rfl
theorem sA_sh {V : Nat → Nat × Nat} {j : Nat} (h : (V j).1 < 2 ^ 256 ∧ (V j).2 < 2 ^ 256) : sA (shF V) j = V j := by
  show (unnum (num (V j).1), unnum (num (V j).2)) = V j
  rw [unnum_lt h.1, unnum_lt h.2]
theorem okS_sh {n : Nat} {V : Nat → Nat × Nat} (hn : n ≤ 1000) : okS n (shF V) = true := okS_iff.2 ⟨hn, fun j _ => ⟨isNum_num (V j).1, isNum_num (V j).2⟩⟩
def sg8 (n : Nat) (f : Nat → List Value) : Nat → List Value := segF ⟨0, 0, n, kN8, n, f, 0, false, []⟩
theorem kx8_sg (n : Nat) (f : Nat → List Value) (j : Nat) : kx8 (sg8 n f) j = kx8 f j := by show kx8 f (0 + j) = kx8 f j; rw [Nat.zero_add]
theorem ky8_sg (n : Nat) (f : Nat → List Value) (j : Nat) : ky8 (sg8 n f) j = ky8 f j := by show ky8 f (0 + j) = ky8 f j; rw [Nat.zero_add]
theorem sA_sg (n : Nat) (f : Nat → List Value) : sA (sg8 n f) = sA f := by funext j; unfold sA xA yA; rw [kx8_sg, ky8_sg]
theorem okS_sg (m n : Nat) (f : Nat → List Value) : okS m (sg8 n f) = okS m f := by
  rw [Bool.eq_iff_iff, okS_iff, okS_iff]; simp only [kx8_sg, ky8_sg]

noncomputable def hvN (X : Nat → Nat) (x n : Nat) : Nat → Nat
  | 0 => 0
  | k + 1 => nAdd (nMul (hvN X x n k) x) (X (n - 1 - k))
theorem hvN_p (X : Nat → Nat) (x n : Nat) : ∀ k, hvN X x n k < pN
  | 0 => n1_pos
  | _ + 1 => nAdd_p _ _
noncomputable def evN (X : Nat → Nat) (n x : Nat) : Nat := Classical.choose (⟨hvN X x n n, rfl⟩ : ∃ y : Nat, y = hvN X x n n)
theorem evN_def (X : Nat → Nat) (n x : Nat) : evN X n x = hvN X x n n := Classical.choose_spec (⟨hvN X x n n, rfl⟩ : ∃ y : Nat, y = hvN X x n n)
theorem evN_p (X : Nat → Nat) (n x : Nat) : evN X n x < pN := by rw [evN_def]; exact hvN_p _ _ _ _
theorem evN_congr {X Y : Nat → Nat} {n : Nat} (h : ∀ j, j < n → X j = Y j) (x : Nat) : evN X n x = evN Y n x := by
  rw [evN_def, evN_def]
  have : ∀ k, k ≤ n → hvN X x n k = hvN Y x n k := by
    intro k
    induction k with
    | zero => intro _; rfl
    | succ k ih => intro hk; rw [hvN, hvN, ih (by omega), h _ (by omega)]
  exact this n (Nat.le_refl _)
noncomputable def EvF : List Value → (Nat → Option Blk) → Nat → List (Bool × Value × List (Nat × Blk))
  | [c, x], mm, _ => [((srcB mm kN4 c).1 && okV (srcB mm kN4 c).2.1 (srcB mm kN4 c).2.2 && isNum x, num (evN (nA (srcB mm kN4 c).2.2) (srcB mm kN4 c).2.1 (unnum x)), [])]
  | _, _, _ => []
theorem iR {i n : Nat} (h : i < n) : inR (i : Int) n = true := by unfold inR; simp only [Bool.and_eq_true, decide_eq_true_eq]; omega
theorem bL {a b : Nat} (h : a < b) : Nat.blt a b = true := by rw [Nat.blt_eq]; exact h
theorem bE {a b : Nat} (h : a ≤ b) : Nat.ble a b = true := by rw [Nat.ble_eq]; exact h
end Go.W

/-
  Weights of places, and what is wrong with places.
-/
namespace Go.W

noncomputable def vM (a b : Value) : Nat := nMul (unnum a) (unnum b)
noncomputable def vA (a b : Value) : Nat := nAdd (unnum a) (unnum b)
noncomputable def vS (a b : Value) : Nat := nSub (unnum a) (unnum b)
noncomputable def vI (a : Value) : Nat := nInv (unnum a)
theorem vM_num {A B : Nat} (hA : A < 2 ^ 256) (hB : B < 2 ^ 256) : vM (num A) (num B) = nMul A B := by unfold vM; rw [unnum_lt hA, unnum_lt hB]
theorem vA_num {A B : Nat} (hA : A < 2 ^ 256) (hB : B < 2 ^ 256) : vA (num A) (num B) = nAdd A B := by unfold vA; rw [unnum_lt hA, unnum_lt hB]
theorem vS_num {A B : Nat} (hA : A < 2 ^ 256) (hB : B < 2 ^ 256) : vS (num A) (num B) = nSub A B := by unfold vS; rw [unnum_lt hA, unnum_lt hB]
theorem vI_num {A : Nat} (hA : A < 2 ^ 256) : vI (num A) = nInv A := by unfold vI; rw [unnum_lt hA]
theorem nAdd_l (A B : Nat) : nAdd A B < 2 ^ 256 := p_lt (nAdd_p _ _)
theorem nMul_l (A B : Nat) : nMul A B < 2 ^ 256 := p_lt (nMul_p _ _)
theorem nSub_l (A B : Nat) : nSub A B < 2 ^ 256 := p_lt (nSub_p _ _)
theorem nInv_l (A : Nat) : nInv A < 2 ^ 256 := p_lt (nInv_p _)

def rdR {α : Type} (k n : Nat) (x : Option α) : Option α := req (inR (k : Int) n) (req (Nat.blt k n && true) x)
theorem rdR_eq {α : Type} {k n : Nat} (h : k < n) (x : Option α) : rdR k n x = x := by unfold rdR; rw [iR h, req_true rfl, bL h, req_true (b := true && true) rfl]
def kb4 (n : Nat) : Bool := true && Nat.ble n n && true && Nat.ble n n
theorem kb4_true (n : Nat) : kb4 n = true := by unfold kb4; rw [bE (Nat.le_refl _)]; rfl
def mk4 (m : Int) : Bool := decide (m = m) && decide ((0 : Int) ≤ m) && szOk m.toNat 32 && true && true && true && true && true
theorem mk4_true {m : Nat} (h : m ≤ 2000) : mk4 (m : Int) = true := by
  unfold mk4
  rw [decide_eq_true rfl, decide_eq_true (by omega), show szOk ((m : Int)).toNat 32 = true from by unfold szOk; rw [Nat.ble_eq, Int.toNat_natCast]; omega]; rfl
def filN (w : Nat → Nat) (k : Nat) : Nat → Nat := fun j => if j < k then w j else 0
theorem fil_row {n : Nat} (w : Nat → Nat) (k : Nat) : ∀ j, j < n → nrmK kN4 (updR (nmF (filN w k)) k (cells4 (w k)) j) = nrmK kN4 (nmF (filN w (k + 1)) j) := by
  intro j hj
  rw [updN_row (n := n) (filN w k) k (w k) j hj]
  show nrmK kN4 (nmL (if j = k then w k else if j < k then w j else 0)) = nrmK kN4 (nmL (if j < k + 1 then w j else 0))
  by_cases h : j = k
  · subst h; rw [if_pos rfl, if_pos (by omega)]
  · rw [if_neg h]
    by_cases h2 : j < k
    · rw [if_pos h2, if_pos (by omega)]
    · rw [if_neg h2, if_neg (by omega)]
theorem fil_zero {n : Nat} (w : Nat → Nat) : ∀ j, j < n → nrmK kN4 [u64 0, u64 0, u64 0, u64 0] = nrmK kN4 (nmF (filN w 0) j) := by
  intro j _
  show _ = nrmK kN4 (nmL (if j < 0 then w j else 0))
  rw [if_neg (by omega)]; rfl
theorem fil_all {n : Nat} (w : Nat → Nat) : ∀ j, j < n → nrmK kN4 (nmF (filN w n) j) = nrmK kN4 (nmF w j) := by
  intro j hj
  show nrmK kN4 (nmL (if j < n then w j else 0)) = _
  rw [if_pos hj]; rfl

noncomputable def wtA (X : Nat → Nat) (i : Nat) : Nat → Nat
  | 0 => 1
  | k + 1 => if k = i then wtA X i k else nMul (wtA X i k) (X k)
noncomputable def wtB (X : Nat → Nat) (i : Nat) : Nat → Nat
  | 0 => 1
  | k + 1 => if k = i then wtB X i k else nMul (wtB X i k) (nSub (X k) (X i))
theorem wtA_l (X : Nat → Nat) (i : Nat) : ∀ k, wtA X i k < 2 ^ 256
  | 0 => (by decide : 1 < 2 ^ 256)
  | k + 1 => by unfold wtA; split; exact wtA_l X i k; exact nMul_l _ _
theorem wtB_l (X : Nat → Nat) (i : Nat) : ∀ k, wtB X i k < 2 ^ 256
  | 0 => (by decide : 1 < 2 ^ 256)
  | k + 1 => by unfold wtB; split; exact wtB_l X i k; exact nMul_l _ _
noncomputable def wtN (X : Nat → Nat) (n i : Nat) : Nat := Classical.choose (⟨nMul (wtA X i n) (nInv (wtB X i n)), rfl⟩ : ∃ y : Nat, y = nMul (wtA X i n) (nInv (wtB X i n)))
theorem wtN_def (X : Nat → Nat) (n i : Nat) : wtN X n i = nMul (wtA X i n) (nInv (wtB X i n)) := Classical.choose_spec (⟨nMul (wtA X i n) (nInv (wtB X i n)), rfl⟩ : ∃ y : Nat, y = nMul (wtA X i n) (nInv (wtB X i n)))
theorem wtN_l (X : Nat → Nat) (n i : Nat) : wtN X n i < 2 ^ 256 := by rw [wtN_def]; exact nMul_l _ _
theorem wtN_congr {X Y : Nat → Nat} {n i : Nat} (hi : i < n) (h : ∀ j, j < n → X j = Y j) : wtN X n i = wtN Y n i := by
  rw [wtN_def, wtN_def]
  have a : ∀ k, k ≤ n → wtA X i k = wtA Y i k ∧ wtB X i k = wtB Y i k := by
    intro k
    induction k with
    | zero => intro _; exact ⟨rfl, rfl⟩
    | succ k ih => intro hk; obtain ⟨h1, h2⟩ := ih (by omega); unfold wtA wtB; rw [h1, h2, h k (by omega), h i hi]; exact ⟨rfl, rfl⟩
  rw [(a n (Nat.le_refl _)).1, (a n (Nat.le_refl _)).2]
noncomputable def WtF : List Value → (Nat → Option Blk) → Nat → List (Bool × Value × List (Nat × Blk))
  | [c, .int .i64 i], mm, _ => [((srcB mm kN4 c).1 && okV (srcB mm kN4 c).2.1 (srcB mm kN4 c).2.2 && inR i (srcB mm kN4 c).2.1, num (wtN (nA (srcB mm kN4 c).2.2) (srcB mm kN4 c).2.1 i.toNat), [])]
  | _, _, _ => []

def Bad (X : Nat → Nat) (i : Nat) : Prop := ∃ j, j < i ∧ nSub (X i) (X j) = 0
noncomputable def ckN (X : Nat → Nat) (n : Nat) : Int := @ite _ (n = 0 ∨ 64 < n) (Classical.propDecidable _) 4 (@ite _ (∃ i, i < n ∧ Bad X i) (Classical.propDecidable _) 6 0)
theorem ckN_len {X : Nat → Nat} {n : Nat} (h : n = 0 ∨ 64 < n) : ckN X n = 4 := if_pos h
theorem ckN_bad {X : Nat → Nat} {n : Nat} (_ : n ≠ 0) (_ : n ≤ 64) (h : ∃ i, i < n ∧ Bad X i) : ckN X n = 6 := by unfold ckN; rw [if_neg (by omega), if_pos h]
theorem ckN_ok {X : Nat → Nat} {n : Nat} (_ : n ≠ 0) (_ : n ≤ 64) (h : ∀ i, i < n → ¬ Bad X i) : ckN X n = 0 := by
  unfold ckN
  rw [if_neg (by omega), if_neg (fun ⟨i, a, b⟩ => h i a b)]
theorem ckN_zero {X : Nat → Nat} {n : Nat} (h : ckN X n = 0) : n ≠ 0 ∧ n ≤ 64 ∧ ∀ i, i < n → ¬ Bad X i := by
  unfold ckN at h
  by_cases h1 : n = 0 ∨ 64 < n
  · rw [if_pos h1] at h; exact absurd h (by decide)
  · rw [if_neg h1] at h
    by_cases h2 : ∃ i, i < n ∧ Bad X i
    · rw [if_pos h2] at h; exact absurd h (by decide)
    · exact ⟨by omega, by omega, fun i hi hb => h2 ⟨i, hi, hb⟩⟩
theorem ckN_congr {X Y : Nat → Nat} {n : Nat} (h : ∀ j, j < n → X j = Y j) : ckN X n = ckN Y n := by
  have key : ∀ X Y : Nat → Nat, (∀ j, j < n → X j = Y j) → (∃ i, i < n ∧ Bad X i) → ∃ i, i < n ∧ Bad Y i := by
    rintro X Y h ⟨i, hi, j, hj, e⟩
    exact ⟨i, hi, j, hj, by rw [← h i hi, ← h j (by omega)]; exact e⟩
  by_cases h1 : n = 0 ∨ 64 < n
  · rw [ckN_len h1, ckN_len h1]
  · by_cases h2 : ∃ i, i < n ∧ Bad X i
    · rw [ckN_bad (by omega) (by omega) h2, ckN_bad (by omega) (by omega) (key X Y h h2)]
    · have h3 : ¬ ∃ i, i < n ∧ Bad Y i := fun h3 => h2 (key Y X (fun j hj => (h j hj).symm) h3)
      rw [ckN_ok (by omega) (by omega) (fun i hi hb => h2 ⟨i, hi, hb⟩), ckN_ok (by omega) (by omega) (fun i hi hb => h3 ⟨i, hi, hb⟩)]
theorem first_bad {P : Nat → Prop} {n : Nat} (h : ∃ i, i < n ∧ P i) : ∃ i, i < n ∧ P i ∧ ∀ j, j < i → ¬ P j := by
  induction n with
  | zero => obtain ⟨i, hi, _⟩ := h; omega
  | succ n ih =>
    by_cases h1 : ∃ i, i < n ∧ P i
    · obtain ⟨i, a, b, c⟩ := ih h1; exact ⟨i, by omega, b, c⟩
    · obtain ⟨i, a, b⟩ := h
      have : i = n := by
        rcases Nat.lt_or_ge i n with h2 | h2
        · exact absurd ⟨i, h2, b⟩ h1
        · omega
      subst this
      exact ⟨i, by omega, b, fun j hj hp => h1 ⟨j, hj, hp⟩⟩
noncomputable def CkpF : List Value → (Nat → Option Blk) → Nat → List (Bool × Value × List (Nat × Blk))
  | [c], mm, _ => [((srcB mm kN4 c).1 && okV (srcB mm kN4 c).2.1 (srcB mm kN4 c).2.2, i64 (ckN (nA (srcB mm kN4 c).2.2) (srcB mm kN4 c).2.1), [])]
  | _, _, _ => []
end Go.W

/-
  The places of shares; all weights; what shares tell at 0.
-/
namespace Go.W

def rw4 (e id n : Nat) (f : Nat → List Value) : List (Nat × Blk) := [(nid id 0, ⟨.row kN4 n f, e, true⟩)]
def plI (n : Nat) : Int := if (65 : Int) < (n : Int) then 65 else (n : Int)
def plM (n : Nat) : Nat := (plI n).toNat
theorem plM_eq (n : Nat) : plM n = min n 65 := by
  unfold plM plI
  by_cases h : (65 : Int) < (n : Int)
  · rw [if_pos h]; omega
  · rw [if_neg h]; omega
theorem plI_eq (n : Nat) : plI n = (plM n : Int) := by
  unfold plM plI
  by_cases h : (65 : Int) < (n : Int)
  · rw [if_pos h]; rfl
  · rw [if_neg h]; rfl
noncomputable def PlaF (e : Nat) : List Value → (Nat → Option Blk) → Nat → List (Bool × Value × List (Nat × Blk))
  | [l], mm, id => [((srcB mm kN8 l).1 && okS (srcB mm kN8 l).2.1 (srcB mm kN8 l).2.2, nSl id (plM (srcB mm kN8 l).2.1), rw4 e id (plM (srcB mm kN8 l).2.1) (nmF (xA (srcB mm kN8 l).2.2)))]
  | _, _, _ => []
theorem ckN_plM (X : Nat → Nat) (n : Nat) : ckN X (plM n) = ckN X n := by
  by_cases h : n ≤ 65
  · rw [plM_eq, Nat.min_eq_left h]
  · rw [plM_eq, ckN_len (by omega), ckN_len (by omega)]
noncomputable def WsF (e : Nat) : List Value → (Nat → Option Blk) → Nat → List (Bool × Value × List (Nat × Blk))
  | [c], mm, id => [((srcB mm kN4 c).1 && okV (srcB mm kN4 c).2.1 (srcB mm kN4 c).2.2 && (ckN (nA (srcB mm kN4 c).2.2) (srcB mm kN4 c).2.1 != 0), .tuple #[.slice none 0 0, i64 (ckN (nA (srcB mm kN4 c).2.2) (srcB mm kN4 c).2.1)], []),
      ((srcB mm kN4 c).1 && okV (srcB mm kN4 c).2.1 (srcB mm kN4 c).2.2 && (ckN (nA (srcB mm kN4 c).2.2) (srcB mm kN4 c).2.1 == 0), .tuple #[nSl id (srcB mm kN4 c).2.1, i64 0], rw4 e id (srcB mm kN4 c).2.1 (nmF (wtN (nA (srcB mm kN4 c).2.2) (srcB mm kN4 c).2.1)))]
  | _, _, _ => []

noncomputable def zsN (Y W : Nat → Nat) : Nat → Nat
  | 0 => 0
  | k + 1 => nAdd (zsN Y W k) (nMul (Y k) (W k))
theorem zsN_p (Y W : Nat → Nat) : ∀ k, zsN Y W k < pN
  | 0 => n1_pos
  | _ + 1 => nAdd_p _ _
theorem zsN_congr {Y Y' W W' : Nat → Nat} : ∀ {n : Nat}, (∀ j, j < n → Y j = Y' j ∧ W j = W' j) → zsN Y W n = zsN Y' W' n
  | 0, _ => rfl
  | n + 1, h => by rw [zsN, zsN, zsN_congr (n := n) (fun j hj => h j (by omega)), (h n (by omega)).1, (h n (by omega)).2]
noncomputable def zeN (X Y : Nat → Nat) (n : Nat) : Nat := @ite _ (ckN X n = 0) (Classical.propDecidable _) (zsN Y (wtN X n) n) 0
theorem zeN_ok {X Y : Nat → Nat} {n : Nat} (h : ckN X n = 0) : zeN X Y n = zsN Y (wtN X n) n := if_pos h
theorem zeN_no {X Y : Nat → Nat} {n : Nat} (h : ckN X n ≠ 0) : zeN X Y n = 0 := if_neg h
theorem zeN_p (X Y : Nat → Nat) (n : Nat) : zeN X Y n < pN := by
  by_cases h : ckN X n = 0
  · rw [zeN_ok h]; exact zsN_p _ _ _
  · rw [zeN_no h]; exact n1_pos
theorem zeN_congr {X Y X' Y' : Nat → Nat} {n : Nat} (h : ∀ j, j < n → X j = X' j ∧ Y j = Y' j) : zeN X Y n = zeN X' Y' n := by
  have hc : ckN X n = ckN X' n := ckN_congr fun j hj => (h j hj).1
  by_cases h1 : ckN X n = 0
  · rw [zeN_ok h1, zeN_ok (hc ▸ h1)]
    exact zsN_congr fun j hj => ⟨(h j hj).2, wtN_congr hj fun i hi => (h i hi).1⟩
  · rw [zeN_no h1, zeN_no (hc ▸ h1)]
noncomputable def ZeF : List Value → (Nat → Option Blk) → Nat → List (Bool × Value × List (Nat × Blk))
  | [l], mm, _ => [((srcB mm kN8 l).1 && okS (srcB mm kN8 l).2.1 (srcB mm kN8 l).2.2, .tuple #[num (zeN (xA (srcB mm kN8 l).2.2) (yA (srcB mm kN8 l).2.2) (srcB mm kN8 l).2.1), i64 (ckN (xA (srcB mm kN8 l).2.2) (srcB mm kN8 l).2.1)], [])]
  | _, _, _ => []
end Go.W

/-
  Numbers modulo n as integers: what a polynomial is worth, what shares tell.
-/
namespace Go.W

def cg (a b : Int) : Prop := ((pN : Nat) : Int) ∣ a - b
theorem cg_refl (a : Int) : cg a a := by unfold cg; rw [Int.sub_self]; exact Int.dvd_zero _
theorem cg_of {a b : Int} (h : a = b) : cg a b := h ▸ cg_refl a
theorem cg_symm {a b : Int} (h : cg a b) : cg b a := by
  unfold cg at *
  have e : b - a = -(a - b) := by omega
  rw [e]; exact Int.dvd_neg.2 h
theorem cg_trans {a b c : Int} (h : cg a b) (h2 : cg b c) : cg a c := by
  unfold cg at *
  have e : a - c = (a - b) + (b - c) := by omega
  rw [e]; exact Int.dvd_add h h2
theorem cg_add {a b c d : Int} (h : cg a b) (h2 : cg c d) : cg (a + c) (b + d) := by
  unfold cg at *
  have e : a + c - (b + d) = (a - b) + (c - d) := by omega
  rw [e]; exact Int.dvd_add h h2
theorem cg_sub {a b c d : Int} (h : cg a b) (h2 : cg c d) : cg (a - c) (b - d) := by
  unfold cg at *
  have e : a - c - (b - d) = (a - b) - (c - d) := by omega
  rw [e]; exact Int.dvd_sub h h2
theorem cg_mul {a b c d : Int} (h : cg a b) (h2 : cg c d) : cg (a * c) (b * d) := by
  unfold cg at *
  have e : a * c - b * d = (a - b) * c + b * (c - d) := by grind
  rw [e]; exact Int.dvd_add (Int.dvd_mul_of_dvd_left h) (Int.dvd_mul_of_dvd_right h2)
theorem cg_zero {a : Int} : cg a 0 ↔ ((pN : Nat) : Int) ∣ a := by unfold cg; rw [Int.sub_zero]
theorem cg_dvd {a b : Int} (h : cg a b) : ((pN : Nat) : Int) ∣ a ↔ ((pN : Nat) : Int) ∣ b :=
  ⟨fun h2 => cg_zero.1 (cg_trans (cg_symm h) (cg_zero.2 h2)), fun h2 => cg_zero.1 (cg_trans h (cg_zero.2 h2))⟩
theorem ep (a b : Int) (h : ((pN : Nat) : Int) ∣ a * b) : ((pN : Nat) : Int) ∣ a ∨ ((pN : Nat) : Int) ∣ b := int_euclid (w := 1) rfl a b h
theorem ep1 : ¬ ((pN : Nat) : Int) ∣ 1 := int_one (w := 1) rfl
theorem cg_eq {A B : Nat} (hA : A < pN) (hB : B < pN) (h : cg (A : Int) (B : Int)) : A = B := by
  have := dvd_mod h
  rwa [Nat.mod_eq_of_lt hA, Nat.mod_eq_of_lt hB] at this
theorem cg_mod (A : Nat) : cg ((A % pN : Nat) : Int) (A : Int) := mod_dvd A
theorem cAdd (A B : Nat) : cg ((nAdd A B : Nat) : Int) ((A : Int) + (B : Int)) := by
  rw [nAdd_eq]; exact cg_trans (cg_mod _) (cg_of (Int.natCast_add _ _))
theorem cMul (A B : Nat) : cg ((nMul A B : Nat) : Int) ((A : Int) * (B : Int)) := by
  rw [nMul_eq]; exact cg_trans (cg_mod _) (cg_of (Int.natCast_mul _ _))
theorem cRed (A : Nat) : cg ((nRed A : Nat) : Int) (A : Int) := by rw [nRed_eq]; exact cg_mod _
theorem cSub (A B : Nat) : cg ((nSub A B : Nat) : Int) ((A : Int) - (B : Int)) := by
  rw [nSub_eq]
  refine cg_trans (cg_mod _) ?_
  have h := cg_mod B
  have hlt := Nat.mod_lt B n1_pos
  have e : ((A + (pN - B % pN) : Nat) : Int) = (A : Int) + ((pN : Nat) : Int) - ((B % pN : Nat) : Int) := by omega
  rw [e]
  refine cg_sub ?_ h
  unfold cg
  have e2 : (A : Int) + ((pN : Nat) : Int) - (A : Int) = ((pN : Nat) : Int) := by omega
  rw [e2]; exact Int.dvd_refl _
theorem cInv {A : Nat} (h : ¬ ((pN : Nat) : Int) ∣ (A : Int)) : cg ((A : Int) * (nInv A : Nat)) 1 := by
  have hA : A % primeN 1 ≠ 0 := fun e => h (Int.ofNat_dvd_left.2 (show pN ∣ A from Nat.dvd_of_mod_eq_zero e))
  have h1 := inv_ok (w := 1) rfl hA
  rw [← nInv_def] at h1
  have h2 := cg_mod (A * nInv A)
  have h3 : A * nInv A % pN = 1 := h1
  rw [h3] at h2
  exact cg_trans (cg_of (Int.natCast_mul _ _).symm) (cg_symm h2)
theorem inv_ex {a : Int} (h : ¬ ((pN : Nat) : Int) ∣ a) : ∃ b : Int, cg (b * a) 1 := by
  have hp : (0 : Int) < ((pN : Nat) : Int) := by have := n1_pos; omega
  have h0 : 0 ≤ a % ((pN : Nat) : Int) := Int.emod_nonneg _ (by omega)
  obtain ⟨A, hA⟩ : ∃ A : Nat, a % ((pN : Nat) : Int) = (A : Int) := ⟨(a % ((pN : Nat) : Int)).toNat, by omega⟩
  have hc : cg a (A : Int) := by
    unfold cg
    rw [← hA]
    have := Int.mul_ediv_add_emod a ((pN : Nat) : Int)
    exact ⟨a / ((pN : Nat) : Int), by omega⟩
  have hA2 : ¬ ((pN : Nat) : Int) ∣ (A : Int) := fun e => h ((cg_dvd hc).2 e)
  refine ⟨(nInv A : Nat), ?_⟩
  refine cg_trans (cg_mul (cg_refl _) hc) ?_
  rw [Int.mul_comm]; exact cInv hA2

def pFL (V : Nat → Nat) : Nat → Nat → List Int
  | _, 0 => []
  | j, m + 1 => (V j : Int) :: pFL V (j + 1) m
theorem pFL_len (V : Nat → Nat) : ∀ m j, (pFL V j m).length = m
  | 0, _ => rfl
  | m + 1, j => by rw [pFL, List.length_cons, pFL_len V m]
theorem hv_cg (V : Nat → Nat) (x n : Nat) : ∀ k, k ≤ n → cg ((hvN V x n k : Nat) : Int) (pEv (pFL V (n - k) k) (x : Int))
  | 0, _ => cg_refl _
  | k + 1, h => by
    rw [hvN, show n - (k + 1) = n - 1 - k from by omega, pFL, pEv, show n - 1 - k + 1 = n - k from by omega]
    refine cg_trans (cAdd _ _) ?_
    rw [Int.add_comm]
    refine cg_add (cg_refl _) (cg_trans (cMul _ _) ?_)
    rw [Int.mul_comm]
    exact cg_mul (cg_refl _) (hv_cg V x n k (by omega))
theorem ev_cg (V : Nat → Nat) (n x : Nat) : cg ((evN V n x : Nat) : Int) (pEv (pFL V 0 n) (x : Int)) := by
  rw [evN_def]
  have := hv_cg V x n n (Nat.le_refl _)
  rwa [Nat.sub_self] at this
theorem pEv_zero_at : ∀ (c : List Int), pEv c 0 = c.headD 0
  | [] => rfl
  | a :: c => by show a + 0 * _ = a; rw [Int.zero_mul, Int.add_zero]
theorem pEv_cg : ∀ (c : List Int) {x y : Int}, cg x y → cg (pEv c x) (pEv c y)
  | [], _, _, _ => cg_refl _
  | _ :: c, _, _, h => cg_add (cg_refl _) (cg_mul h (pEv_cg c h))

def nI (X : Nat → Nat) (j : Nat) : Int := (X j : Int)
def Unlike (X : Nat → Nat) (n : Nat) : Prop := ∀ i j, i < j → j < n → ¬ ((pN : Nat) : Int) ∣ (nI X i - nI X j)
theorem unlike_of {X : Nat → Nat} {n : Nat} (h : ∀ i, i < n → ¬ Bad X i) : Unlike X n := by
  intro i j hij hj hd
  refine h j hj ⟨i, hij, ?_⟩
  have h1 : cg ((nSub (X j) (X i) : Nat) : Int) 0 := by
    refine cg_trans (cSub _ _) (cg_zero.2 ?_)
    have e : (X j : Int) - (X i : Int) = -(nI X i - nI X j) := by unfold nI; omega
    rw [e]; exact Int.dvd_neg.2 hd
  exact cg_eq (B := 0) (nSub_p _ _) n1_pos h1
theorem of_unlike {X : Nat → Nat} {n : Nat} (h : Unlike X n) : ∀ i, i < n → ¬ Bad X i := by
  rintro i hi ⟨j, hj, e⟩
  refine h j i hj hi ?_
  have h1 := cSub (X i) (X j)
  rw [e] at h1
  have h2 := cg_zero.1 (cg_symm h1)
  have e : nI X j - nI X i = -((X i : Int) - (X j : Int)) := by unfold nI; omega
  rw [e]; exact Int.dvd_neg.2 h2
theorem unlike_ne {X : Nat → Nat} {n : Nat} (h : Unlike X n) {i j : Nat} (hi : i < n) (hj : j < n) (hne : j ≠ i) : ¬ ((pN : Nat) : Int) ∣ (nI X i - nI X j) := by
  rcases Nat.lt_or_ge i j with h1 | h1
  · exact h i j h1 hj
  · intro hd
    refine h j i (by omega) hi ?_
    have e : nI X j - nI X i = -(nI X i - nI X j) := by omega
    rw [e]; exact Int.dvd_neg.2 hd
theorem wt_pq (X : Nat → Nat) (i : Nat) : ∀ k, cg ((wtA X i k : Int) * lgP (nI X) i (nI X i) k) ((wtB X i k : Int) * lgP (nI X) i 0 k)
  | 0 => cg_refl _
  | k + 1 => by
    have ih := wt_pq X i k
    unfold wtA wtB lgP
    by_cases h : k = i
    · rw [if_pos h, if_pos h, if_pos h, if_pos h]; exact ih
    · rw [if_neg h, if_neg h, if_neg h, if_neg h]
      refine cg_trans (cg_mul (cMul _ _) (cg_refl _)) ?_
      refine cg_trans ?_ (cg_symm (cg_mul (cg_trans (cMul _ _) (cg_mul (cg_refl _) (cSub _ _))) (cg_refl _)))
      have e1 : (wtA X i k : Int) * (X k : Int) * (lgP (nI X) i (nI X i) k * (nI X i - nI X k)) = ((wtA X i k : Int) * lgP (nI X) i (nI X i) k) * ((nI X i - nI X k) * (X k : Int)) := by grind
      have e2 : (wtB X i k : Int) * ((X k : Int) - (X i : Int)) * (lgP (nI X) i 0 k * (0 - nI X k)) = ((wtB X i k : Int) * lgP (nI X) i 0 k) * ((nI X i - nI X k) * (X k : Int)) := by unfold nI; grind
      rw [e1, e2]
      exact cg_mul ih (cg_refl _)
theorem wtB_ne {X : Nat → Nat} {n i : Nat} (h : Unlike X n) (hi : i < n) : ∀ k, k ≤ n → ¬ ((pN : Nat) : Int) ∣ (wtB X i k : Int)
  | 0, _ => ep1
  | k + 1, hk => by
    unfold wtB
    by_cases e : k = i
    · rw [if_pos e]; exact wtB_ne h hi k (by omega)
    · rw [if_neg e]
      intro hd
      have h1 := (cg_dvd (cg_trans (cMul (wtB X i k) (nSub (X k) (X i))) (cg_mul (cg_refl _) (cSub _ _)))).1 hd
      rcases ep _ _ h1 with h2 | h2
      · exact wtB_ne h hi k (by omega) h2
      · exact unlike_ne h (i := k) (j := i) (by omega) hi (by omega) h2
theorem wt_cg {X : Nat → Nat} {n i : Nat} (h : Unlike X n) (hi : i < n) : cg ((wtN X n i : Int) * lgP (nI X) i (nI X i) n) (lgP (nI X) i 0 n) := by
  rw [wtN_def]
  have hB := wtB_ne h hi n (Nat.le_refl _)
  refine cg_trans (cg_mul (cMul _ _) (cg_refl _)) ?_
  have e1 : (wtA X i n : Int) * (nInv (wtB X i n) : Int) * lgP (nI X) i (nI X i) n = ((wtA X i n : Int) * lgP (nI X) i (nI X i) n) * (nInv (wtB X i n) : Int) := by grind
  rw [e1]
  refine cg_trans (cg_mul (wt_pq X i n) (cg_refl _)) ?_
  have e2 : (wtB X i n : Int) * lgP (nI X) i 0 n * (nInv (wtB X i n) : Int) = ((wtB X i n : Int) * (nInv (wtB X i n) : Int)) * lgP (nI X) i 0 n := by grind
  rw [e2]
  refine cg_trans (cg_mul (cInv hB) (cg_refl _)) (cg_of ?_)
  rw [Int.one_mul]
theorem lgP_at {X : Nat → Nat} {n i : Nat} (h : Unlike X n) (hi : i < n) : ¬ ((pN : Nat) : Int) ∣ lgP (nI X) i (nI X i) n :=
  lgP_ne ep ep1 (nI X) i (nI X i) n fun _ hj hne => unlike_ne h hi hj hne
theorem f_ex {X : Nat → Nat} {n : Nat} (h : Unlike X n) (Y : Nat → Int) : ∃ f : Nat → Int, ∀ i, i < n → cg (f i * lgP (nI X) i (nI X i) n) (Y i) := by
  have : ∀ i, ∃ v : Int, i < n → cg (v * lgP (nI X) i (nI X i) n) (Y i) := by
    intro i
    by_cases hi : i < n
    · obtain ⟨b, hb⟩ := inv_ex (lgP_at h hi)
      refine ⟨Y i * b, fun _ => ?_⟩
      rw [Int.mul_assoc]
      exact cg_trans (cg_mul (cg_refl _) hb) (cg_of (Int.mul_one _))
    · exact ⟨0, fun h => absurd h hi⟩
  exact ⟨fun i => Classical.choose (this i), fun i hi => Classical.choose_spec (this i) hi⟩
theorem zs_lgV {X : Nat → Nat} {Y : Nat → Nat} {n : Nat} (h : Unlike X n) {f : Nat → Int} (hf : ∀ i, i < n → cg (f i * lgP (nI X) i (nI X i) n) (Y i : Int)) : ∀ m, m ≤ n → cg ((zsN Y (wtN X n) m : Nat) : Int) (lgV (nI X) f n 0 m)
  | 0, _ => cg_refl _
  | m + 1, hm => by
    unfold zsN lgV
    refine cg_trans (cAdd _ _) (cg_add (zs_lgV h hf m (by omega)) ?_)
    refine cg_trans (cMul _ _) ?_
    refine cg_trans (cg_mul (cg_symm (hf m (by omega))) (cg_refl _)) ?_
    have e : f m * lgP (nI X) m (nI X m) n * (wtN X n m : Int) = f m * ((wtN X n m : Int) * lgP (nI X) m (nI X m) n) := by grind
    rw [e]
    exact cg_mul (cg_refl _) (wt_cg h (by omega))
theorem zs_cg {X Y : Nat → Nat} {n : Nat} (h : Unlike X n) {c : List Int} (hl : c.length ≤ n) (hc : ∀ i, i < n → cg (pEv c (nI X i)) (Y i : Int)) : cg ((zsN Y (wtN X n) n : Nat) : Int) (pEv c 0) := by
  obtain ⟨f, hf⟩ := f_ex h (fun i => (Y i : Int))
  refine cg_trans (zs_lgV h hf n (Nat.le_refl _)) ?_
  exact lg_worth ep h hf hl hc 0
end Go.W

/-
  Two shares that wake the statements of layer 6.
-/
namespace Go.W

def wk6L : List Value := [u64 1, u64 0, u64 0, u64 0, u64 5, u64 0, u64 0, u64 0, u64 2, u64 0, u64 0, u64 0, u64 8, u64 0, u64 0, u64 0]
def wk6F : Nat → List Value := lstF wk6L 0 8
theorem lt2 {j : Nat} (h : j < 2) : j = 0 ∨ j = 1 := by omega
theorem wk6_ok : okS 2 wk6F = true := by
  refine okS_iff.2 ⟨by decide, fun j hj => ?_⟩
  rcases lt2 hj with rfl | rfl
  · exact ⟨rfl, rfl⟩
  · exact ⟨rfl, rfl⟩
theorem wk6_x0 : xA wk6F 0 = 1 := rfl
theorem wk6_x1 : xA wk6F 1 = 2 := rfl
theorem wk6_y0 : yA wk6F 0 = 5 := rfl
theorem wk6_y1 : yA wk6F 1 = 8 := rfl
theorem small_ne {a b : Nat} (ha : a < 1000000) (hb : b < 1000000) (h : a ≠ b) : ¬ ((pN : Nat) : Int) ∣ ((a : Int) - (b : Int)) := by
  rintro ⟨k, hk⟩
  have hp : (1000000 : Int) < ((pN : Nat) : Int) := by decide
  generalize ((pN : Nat) : Int) = P at hk hp
  rcases Int.lt_trichotomy k 0 with h0 | h0 | h0
  · have : P * k ≤ P * (-1) := Int.mul_le_mul_of_nonneg_left (by omega) (by omega)
    omega
  · rw [h0, Int.mul_zero] at hk; omega
  · have : P * 1 ≤ P * k := Int.mul_le_mul_of_nonneg_left (by omega) (by omega)
    omega
theorem wk6_unlike : Unlike (xA wk6F) 2 := by
  intro i j hij hj
  have h0 : i = 0 := by omega
  have h1 : j = 1 := by omega
  subst h0 h1
  unfold nI
  rw [wk6_x0, wk6_x1]
  exact small_ne (by decide) (by decide) (by decide)
theorem wk6_ck : ckN (xA wk6F) 2 = 0 := ckN_ok (by decide) (by decide) (of_unlike wk6_unlike)
theorem wk6_ze : zeN (xA wk6F) (yA wk6F) 2 = 2 := by
  rw [zeN_ok wk6_ck]
  refine cg_eq (zsN_p _ _ _) (by decide) ?_
  refine zs_cg (c := [2, 3]) wk6_unlike (by decide) fun i hi => cg_of ?_
  unfold nI
  rcases lt2 hi with rfl | rfl
  · rw [wk6_x0, wk6_y0]; rfl
  · rw [wk6_x1, wk6_y1]; rfl
def Wk6F : List Value → Option (Bool × Value)
  | [] => some (true, .bool true)
  | _ => none
end Go.W

/-
  The statements of layer 6 as trees: calls, lists that grow.
-/
namespace Go.W

theorem nrm_take : ∀ (ks : List CK) (l : List Value), nrmK ks (l.take ks.length) = nrmK ks l
  | [], _ => rfl
  | _ :: _, [] => by rw [List.take_nil]
  | k :: ks, a :: l => by
    show nrm1 k a :: nrmK ks (l.take ks.length) = nrm1 k a :: nrmK ks l
    rw [nrm_take ks l]
theorem lst0_row {ks : List CK} {L : List Value} (off : Nat) : nrmK ks (lstF L off ks.length 0) = nrmK ks (L.drop off) := by
  show nrmK ks ((L.drop (off + 0 * ks.length)).take ks.length) = _
  rw [Nat.zero_mul, Nat.add_zero, nrm_take]
theorem app_row {ks : List CK} {g h : Nat → List Value} {m : Nat} {L : List Value} (hg : ∀ j, j < m → nrmK ks (g j) = nrmK ks (h j)) (hL : nrmK ks L = nrmK ks (h m)) : ∀ j, j < m + 1 → nrmK ks (appF m g (lstF L 0 ks.length) j) = nrmK ks (h j) := by
  intro j hj
  unfold appF
  by_cases h1 : j < m
  · rw [bL h1, cond_true]; exact hg j h1
  · have : j = m := by omega
    subst this
    rw [show Nat.blt j j = false from by rw [Bool.eq_false_iff, ne_eq, Nat.blt_eq]; omega, cond_false, Nat.sub_self, lst0_row, List.drop_zero, hL]
theorem one_row {ks : List CK} {h : Nat → List Value} {L : List Value} (hL : nrmK ks L = nrmK ks (h 0)) : ∀ j, j < 1 → nrmK ks (lstF L 0 ks.length j) = nrmK ks (h j) := by
  intro j hj
  have : j = 0 := by omega
  subst this
  rw [lst0_row, List.drop_zero, hL]

def smI (x : Int) : Value := .agg #[.int .u64 x, u64 0, u64 0, u64 0]
theorem smI_num {x : Nat} (h : x < 18446744073709551616) : smI (x : Int) = num x := one_num h
def shC (x y : Value) : List Value := x.cells.toList ++ y.cells.toList
theorem shC_num (X Y : Nat) : shC (num X) (num Y) = shL (X, Y) := rfl
def wp1 (i : Int) : Int := IntKind.u64.wrap (IntKind.u64.wrap i + 1)
theorem wp1_eq {k : Nat} (h : k < 1000000) : wp1 (k : Int) = ((k + 1 : Nat) : Int) := by unfold wp1; rw [wrap_u64, wrap_u64]; omega

noncomputable def evq {α : Type} (n : Nat) (f : Nat → List Value) (x : Value) (k : Nat → Option α) : Option α := req (kb4 n && okV n (sg4 n f) && isNum x) (k (evN (nA (sg4 n f)) n (unnum x)))
theorem evq_eq {α : Type} {n : Nat} {f : Nat → List Value} (h : okV n f = true) {X : Nat} (hX : X < 2 ^ 256) (k : Nat → Option α) : evq n f (num X) k = k (evN (nA f) n X) := by
  unfold evq
  rw [kb4_true, okV_sg, h, isNum_num, req_true (b := true && true && true) rfl, nA_sg, unnum_lt hX]
theorem evq_nm {α : Type} {n : Nat} {V : Nat → Nat} (hn : n ≤ 1000) (hV : ∀ j, j < n → V j < 2 ^ 256) {X : Nat} (hX : X < 2 ^ 256) (k : Nat → Option α) : evq n (nmF V) (num X) k = k (evN V n X) := by
  rw [evq_eq (okV_nm hn) hX, evN_congr (Y := V) (fun j hj => nA_nm (hV j hj))]
def apq {α : Type} (m : Nat) (k : Option α) : Option α := req (szOk (m + 1) 64) (req (true && true && Nat.beq m m && true && true) k)
theorem apq_eq {α : Type} {m : Nat} (h : m ≤ 1000) (k : Option α) : apq m k = k := by
  unfold apq
  rw [show szOk (m + 1) 64 = true from by unfold szOk; rw [Nat.ble_eq]; omega, req_true rfl, Nat.beq_refl, req_true (b := true && true && true && true && true) rfl]
def apq4 {α : Type} (m : Nat) (k : Option α) : Option α := req (szOk (m + 1) 32) (req (true && true && Nat.beq m m && true && true) k)
theorem apq4_eq {α : Type} {m : Nat} (h : m ≤ 1000) (k : Option α) : apq4 m k = k := by
  unfold apq4
  rw [show szOk (m + 1) 32 = true from by unfold szOk; rw [Nat.ble_eq]; omega, req_true rfl, Nat.beq_refl, req_true (b := true && true && true && true && true) rfl]
def sX (S : Nat → Nat × Nat) (j : Nat) : Nat := (S j).1
def sY (S : Nat → Nat × Nat) (j : Nat) : Nat := (S j).2
theorem kx_congr {n : Nat} {g h : Nat → List Value} (e : ∀ j, j < n → nrmK kN8 (g j) = nrmK kN8 (h j)) : (∀ j, j < n → kx8 g j = kx8 h j ∧ ky8 g j = ky8 h j) := fun j hj => by
  unfold kx8 ky8; rw [e j hj]; exact ⟨rfl, rfl⟩
noncomputable def zeq {α : Type} (m : Nat) (g : Nat → List Value) (k : Nat → Int → Option α) : Option α := req (kb4 m && okS m (sg8 m g)) (k (zeN (xA (sg8 m g)) (yA (sg8 m g)) m) (ckN (xA (sg8 m g)) m))
theorem zeq_eq {α : Type} {m : Nat} {g : Nat → List Value} {S : Nat → Nat × Nat} (hm : m ≤ 1000) (hS : ∀ j, j < m → (S j).1 < 2 ^ 256 ∧ (S j).2 < 2 ^ 256) (e : ∀ j, j < m → nrmK kN8 (g j) = nrmK kN8 (shF S j)) (k : Nat → Int → Option α) : zeq m g k = k (zeN (sX S) (sY S) m) (ckN (sX S) m) := by
  have h1 := kx_congr e
  have hok : okS m g = true := okS_iff.2 ⟨hm, fun j hj => by
    rw [(h1 j hj).1, (h1 j hj).2]; exact ⟨isNum_num (S j).1, isNum_num (S j).2⟩⟩
  have hs := congrFun (sA_sg m g)
  have hx : ∀ j, j < m → xA (sg8 m g) j = sX S j := fun j hj => by
    unfold xA; rw [kx8_sg, (h1 j hj).1]; exact unnum_lt (hS j hj).1
  have hy : ∀ j, j < m → yA (sg8 m g) j = sY S j := fun j hj => by
    unfold yA; rw [ky8_sg, (h1 j hj).2]; exact unnum_lt (hS j hj).2
  unfold zeq
  rw [kb4_true, okS_sg, hok, req_true (b := true && true) rfl, zeN_congr (fun j hj => ⟨hx j hj, hy j hj⟩), ckN_congr hx]

theorem ze_poly {X Y V : Nat → Nat} {n m : Nat} (h0 : m ≠ 0) (h1 : m ≤ 64) (hu : Unlike X m) (hn : n ≤ m) (hY : ∀ j, j < m → Y j = evN V n (X j)) : ckN X m = 0 ∧ cg ((zeN X Y m : Nat) : Int) (pEv (pFL V 0 n) 0) := by
  have hc := ckN_ok h0 h1 (of_unlike hu)
  refine ⟨hc, ?_⟩
  rw [zeN_ok hc]
  refine zs_cg hu (by rw [pFL_len]; exact hn) fun i hi => ?_
  rw [hY i hi]
  exact cg_symm (ev_cg V n (X i))
theorem unlike_small {X : Nat → Nat} {m : Nat} (hX : ∀ j, j < m → X j < 1000000) (h : ∀ i j, i < j → j < m → X i ≠ X j) : Unlike X m := by
  intro i j hij hj
  exact small_ne (hX i (by omega)) (hX j hj) (h i j hij hj)

theorem ze_other {X Y V : Nat → Nat} {n M : Nat} (h1 : n + 1 ≤ 64) (hu : Unlike X (n + 1)) (hX : ∀ j, j < n + 1 → X j < 1000000 ∧ X j ≠ 0) (hY : ∀ j, j < n → Y j = evN V n (X j)) (hM : Y n = nAdd (evN V n (X n)) M) :
    (cg ((zeN X Y (n + 1) : Nat) : Int) (pEv (pFL V 0 n) 0) ↔ ((pN : Nat) : Int) ∣ (M : Int)) := by
  have hc : ckN X (n + 1) = 0 := ckN_ok (by omega) h1 (of_unlike hu)
  rw [zeN_ok hc]
  have hz := zs_cg (X := X) (Y := fun j => evN V n (X j)) hu (c := pFL V 0 n) (by rw [pFL_len]; omega) (fun i _ => cg_symm (ev_cg V n (X i)))
  have hW : ¬ ((pN : Nat) : Int) ∣ (wtN X (n + 1) n : Int) := by
    intro hd
    have hq := wt_cg hu (i := n) (by omega)
    have h3 : ((pN : Nat) : Int) ∣ lgP (nI X) n 0 (n + 1) := (cg_dvd hq).1 (Int.dvd_mul_of_dvd_left hd)
    refine lgP_ne ep ep1 (nI X) n 0 (n + 1) (fun j hj _ => ?_) h3
    have := small_ne (a := 0) (b := X j) (by decide) (hX j hj).1 (fun e => (hX j hj).2 e.symm)
    exact this
  have e1 : zsN Y (wtN X (n + 1)) n = zsN (fun j => evN V n (X j)) (wtN X (n + 1)) n := zsN_congr fun j hj => ⟨hY j hj, rfl⟩
  have key : cg ((zsN Y (wtN X (n + 1)) (n + 1) : Nat) : Int) (pEv (pFL V 0 n) 0 + (M : Int) * (wtN X (n + 1) n : Int)) := by
    refine cg_trans ?_ (cg_add hz (cg_refl ((M : Int) * (wtN X (n + 1) n : Int))))
    rw [zsN, zsN, e1, hM]
    refine cg_trans (cAdd _ _) ?_
    refine cg_trans (cg_add (cg_refl _) (cg_trans (cMul _ _) (cg_mul (cAdd _ _) (cg_refl _)))) ?_
    refine cg_trans ?_ (cg_symm (cg_add (cg_trans (cAdd _ _) (cg_add (cg_refl _) (cMul _ _))) (cg_refl _)))
    refine cg_of ?_
    rw [Int.add_mul, Int.add_assoc]
  constructor
  · intro h
    have h2 := cg_trans (cg_symm key) h
    unfold cg at h2
    have e : pEv (pFL V 0 n) 0 + (M : Int) * (wtN X (n + 1) n : Int) - pEv (pFL V 0 n) 0 = (M : Int) * (wtN X (n + 1) n : Int) := by omega
    rw [e] at h2
    rcases ep _ _ h2 with h3 | h3
    · exact h3
    · exact absurd h3 hW
  · intro h
    refine cg_trans key ?_
    unfold cg
    have e : pEv (pFL V 0 n) 0 + (M : Int) * (wtN X (n + 1) n : Int) - pEv (pFL V 0 n) 0 = (M : Int) * (wtN X (n + 1) n : Int) := by omega
    rw [e]; exact Int.dvd_mul_of_dvd_left h
end Go.W

/-
  Lists that are turned about.
-/
namespace Go.W

def rtN (t : Int) (n : Nat) : Nat := ((IntKind.u64.wrap t) % (n : Int)).toNat
def irI (i t n : Int) : Int := (IntKind.i64.wrap (i + IntKind.i64.wrap ((IntKind.u64.wrap t).tmod (IntKind.u64.wrap n)))).tmod n
theorem irI_eq {i n : Nat} {t : Int} (hn : 0 < n) (hn1 : n ≤ 1000) (hi : i < n) : irI (i : Int) t (n : Int) = (((i + rtN t n) % n : Nat) : Int) := by
  unfold irI rtN
  have h0 : 0 ≤ IntKind.u64.wrap t := by rw [wrap_u64]; omega
  have hw : IntKind.u64.wrap (n : Int) = (n : Int) := by rw [wrap_u64]; omega
  rw [hw]
  generalize IntKind.u64.wrap t = T at *
  rw [Int.tmod_eq_emod_of_nonneg h0]
  have h1 := Int.emod_nonneg T (show (n : Int) ≠ 0 by omega)
  have h2 := Int.emod_lt_of_pos T (show (0 : Int) < (n : Int) by omega)
  generalize T % (n : Int) = r at *
  obtain ⟨a, rfl⟩ : ∃ a : Nat, r = (a : Int) := ⟨r.toNat, by omega⟩
  clear hw
  rw [show IntKind.i64.wrap (a : Int) = (a : Int) from wrap_i64 (by omega), wrap_i64 (by omega), Int.tmod_eq_emod_of_nonneg (by omega), Int.toNat_natCast, ← Int.natCast_add, ← Int.natCast_emod]
theorem rt_ne {t : Int} {n i j : Nat} (hn : 0 < n) (hij : i < j) (hj : j < n) : (i + rtN t n) % n ≠ (j + rtN t n) % n := by
  intro h
  have h3 := congrArg (fun x : Nat => (x + (n - rtN t n % n)) % n) h
  have key : ∀ x, x < n → ((x + rtN t n) % n + (n - rtN t n % n)) % n = x := by
    intro x hx
    have hr := Nat.mod_lt (rtN t n) hn
    have hd := Nat.div_add_mod (rtN t n) n
    rw [Nat.mod_add_mod]
    have e : x + rtN t n + (n - rtN t n % n) = x + n * (rtN t n / n + 1) := by rw [Nat.mul_add, Nat.mul_one]; omega
    rw [e, Nat.add_mul_mod_self_left, Nat.mod_eq_of_lt hx]
  simp only [key i (by omega), key j hj] at h3
  omega
def extS (S : Nat → Nat × Nat) (m : Nat) (s : Nat × Nat) (j : Nat) : Nat × Nat := if j < m then S j else s
theorem ext_lt {S : Nat → Nat × Nat} {m : Nat} {s : Nat × Nat} {j : Nat} (h : j < m) : extS S m s j = S j := if_pos h
theorem ext_at {S : Nat → Nat × Nat} {m : Nat} {s : Nat × Nat} : extS S m s m = s := if_neg (Nat.lt_irrefl _)
theorem ext_row {S : Nat → Nat × Nat} {m : Nat} {s : Nat × Nat} : ∀ j, j < m + 1 → nrmK kN8 (appF m (shF S) (lstF (shL s) 0 8) j) = nrmK kN8 (shF (extS S m s) j) :=
  app_row (ks := kN8) (fun j hj => by show nrmK kN8 (shL (S j)) = nrmK kN8 (shL (extS S m s j)); rw [ext_lt hj]) (by show nrmK kN8 (shL s) = nrmK kN8 (shL (extS S m s m)); rw [ext_at])
theorem ext_ok {S : Nat → Nat × Nat} {m : Nat} {s : Nat × Nat} (hS : ∀ j, j < m → (S j).1 < 2 ^ 256 ∧ (S j).2 < 2 ^ 256) (hs : s.1 < 2 ^ 256 ∧ s.2 < 2 ^ 256) : ∀ j, j < m + 1 → (extS S m s j).1 < 2 ^ 256 ∧ (extS S m s j).2 < 2 ^ 256 := by
  intro j hj
  by_cases h : j < m
  · rw [ext_lt h]; exact hS j h
  · have : j = m := by omega
    subst this; rw [ext_at]; exact hs
theorem evN_l (V : Nat → Nat) (n x : Nat) : evN V n x < 2 ^ 256 := p_lt (evN_p _ _ _)
end Go.W

/-
  The polynomial through shares, as the landed code makes it.
-/
namespace Go.W

def rdI {α : Type} (z : Int) (q : Nat) (x : Option α) : Option α := req (inR z q) (req (Nat.blt z.toNat q && true) x)
theorem rdI_eq {α : Type} {k q : Nat} {z : Int} (h : z = (k : Int)) (hk : k < q) (x : Option α) : rdI z q x = x := by
  subst h
  unfold rdI
  rw [iR hk, req_true rfl, Int.toNat_natCast, bL hk, req_true (b := true && true) rfl]

noncomputable def vaN (X : Nat → Nat) : Nat → Nat → Nat
  | 0 => fun k => if k = 0 then 1 else 0
  | i + 1 => fun k => if k = 0 then nSub 0 (nMul (vaN X i 0) (X i)) else if k ≤ i + 1 then nSub (vaN X i (k - 1)) (nMul (vaN X i k) (X i)) else vaN X i k
noncomputable def vbN (V : Nat → Nat) (x i j : Nat) (k : Nat) : Nat := if i + 1 - j < k ∧ k ≤ i + 1 then nSub (V (k - 1)) (nMul (V k) x) else V k
theorem vaN_l (X : Nat → Nat) : ∀ i k, vaN X i k < 2 ^ 256
  | 0, k => by
    show (if k = 0 then 1 else 0) < 2 ^ 256
    split <;> decide
  | i + 1, k => by
    show (if k = 0 then nSub 0 (nMul (vaN X i 0) (X i)) else if k ≤ i + 1 then nSub (vaN X i (k - 1)) (nMul (vaN X i k) (X i)) else vaN X i k) < 2 ^ 256
    split
    · exact nSub_l _ _
    · split
      · exact nSub_l _ _
      · exact vaN_l X i k
theorem vbN_l {V : Nat → Nat} (hV : ∀ k, V k < 2 ^ 256) (x i j k : Nat) : vbN V x i j k < 2 ^ 256 := by
  unfold vbN; split
  · exact nSub_l _ _
  · exact hV k
theorem vbN_zero (V : Nat → Nat) (x i k : Nat) : vbN V x i 0 k = V k := by unfold vbN; rw [if_neg (by omega)]
theorem vb_row {V : Nat → Nat} {x i j n : Nat} (hj : j ≤ i) : ∀ k, k < n → nrmK kN4 (updR (nmF (vbN V x i j)) (i + 1 - j) (cells4 (nSub (V (i - j)) (nMul (V (i + 1 - j)) x))) k) = nrmK kN4 (nmF (vbN V x i (j + 1)) k) := by
  intro k hk
  rw [updN_row (n := n) _ _ _ k hk]
  show nrmK kN4 (nmL (if k = i + 1 - j then _ else vbN V x i j k)) = nrmK kN4 (nmL (vbN V x i (j + 1) k))
  congr 2
  by_cases h : k = i + 1 - j
  · rw [if_pos h]; unfold vbN; rw [if_pos (by omega), h, show i + 1 - j - 1 = i - j from by omega]
  · rw [if_neg h]; unfold vbN
    by_cases h2 : i + 1 - j < k ∧ k ≤ i + 1
    · rw [if_pos h2, if_pos (by omega)]
    · rw [if_neg h2, if_neg (by omega)]
theorem va_row {X : Nat → Nat} {i n : Nat} : ∀ k, k < n → nrmK kN4 (updR (nmF (vbN (vaN X i) (X i) i (i + 1))) 0 (cells4 (nSub 0 (nMul (vaN X i 0) (X i)))) k) = nrmK kN4 (nmF (vaN X (i + 1)) k) := by
  intro k hk
  rw [updN_row (n := n) _ _ _ k hk]
  show nrmK kN4 (nmL (if k = 0 then _ else vbN (vaN X i) (X i) i (i + 1) k)) = nrmK kN4 (nmL (if k = 0 then nSub 0 (nMul (vaN X i 0) (X i)) else if k ≤ i + 1 then nSub (vaN X i (k - 1)) (nMul (vaN X i k) (X i)) else vaN X i k))
  congr 2
  by_cases h : k = 0
  · rw [if_pos h, if_pos h]
  · rw [if_neg h, if_neg h]; unfold vbN
    by_cases h2 : k ≤ i + 1
    · rw [if_pos (by omega), if_pos h2]
    · rw [if_neg (by omega), if_neg h2]
theorem va_start {X : Nat → Nat} {n : Nat} : ∀ k, k < n → nrmK kN4 (updR (fun _ => [u64 0, u64 0, u64 0, u64 0]) 0 (cells4 1) k) = nrmK kN4 (nmF (vaN X 0) k) := by
  intro k _
  show nrmK kN4 (bif Nat.beq k 0 then cells4 1 else [u64 0, u64 0, u64 0, u64 0]) = nrmK kN4 (nmL (if k = 0 then 1 else 0))
  cases k with
  | zero => rfl
  | succ k => rw [if_neg (by omega)]; rfl
def vaL (n : Nat) : Nat := (IntKind.i64.wrap ((n : Int) + 1)).toNat
theorem vaL_eq {n : Nat} (h : n ≤ 1000) : vaL n = n + 1 := by unfold vaL; rw [wrap_i64 (by omega)]; omega
noncomputable def VaF (e : Nat) : List Value → (Nat → Option Blk) → Nat → List (Bool × Value × List (Nat × Blk))
  | [c], mm, id => [((srcB mm kN4 c).1 && okV (srcB mm kN4 c).2.1 (srcB mm kN4 c).2.2, nSl id ((srcB mm kN4 c).2.1 + 1), rw4 e id ((srcB mm kN4 c).2.1 + 1) (nmF (vaN (nA (srcB mm kN4 c).2.2) (srcB mm kN4 c).2.1)))]
  | _, _, _ => []
theorem vaN_congr {X Y : Nat → Nat} {n : Nat} (h : ∀ j, j < n → X j = Y j) : ∀ i, i ≤ n → vaN X i = vaN Y i
  | 0, _ => rfl
  | i + 1, hi => by
    funext k
    show (if k = 0 then _ else _) = (if k = 0 then _ else _)
    rw [vaN_congr h i (by omega), h i (by omega)]

noncomputable def cyN (V : Nat → Nat) (a n : Nat) : Nat → Nat
  | 0 => 0
  | j + 1 => nAdd (V (n - j)) (nMul (cyN V a n j) a)
theorem cyN_p (V : Nat → Nat) (a n : Nat) : ∀ j, cyN V a n j < pN
  | 0 => n1_pos
  | _ + 1 => nAdd_p _ _
noncomputable def woN (V : Nat → Nat) (n a k : Nat) : Nat := cyN V a n (n - k)
theorem woN_l (V : Nat → Nat) (n a k : Nat) : woN V n a k < 2 ^ 256 := p_lt (cyN_p _ _ _ _)
noncomputable def wbN (V : Nat → Nat) (n a j : Nat) (k : Nat) : Nat := if n - j ≤ k then woN V n a k else 0
theorem wb_row {V : Nat → Nat} {n a j : Nat} (hj : j < n) : ∀ k, k < n → nrmK kN4 (updR (nmF (wbN V n a j)) (n - 1 - j) (cells4 (cyN V a n (j + 1))) k) = nrmK kN4 (nmF (wbN V n a (j + 1)) k) := by
  intro k hk
  rw [updN_row (n := n) _ _ _ k hk]
  show nrmK kN4 (nmL (if k = n - 1 - j then _ else wbN V n a j k)) = nrmK kN4 (nmL (wbN V n a (j + 1) k))
  congr 2
  by_cases h : k = n - 1 - j
  · rw [if_pos h]; unfold wbN woN; rw [if_pos (by omega), show n - k = j + 1 from by omega]
  · rw [if_neg h]; unfold wbN
    by_cases h2 : n - j ≤ k
    · rw [if_pos h2, if_pos (by omega)]
    · rw [if_neg h2, if_neg (by omega)]
theorem wb_start {V : Nat → Nat} {n a : Nat} : ∀ k, k < n → nrmK kN4 [u64 0, u64 0, u64 0, u64 0] = nrmK kN4 (nmF (wbN V n a 0) k) := by
  intro k hk
  show _ = nrmK kN4 (nmL (wbN V n a 0 k))
  unfold wbN; rw [if_neg (by omega)]; rfl
theorem wb_all {V : Nat → Nat} {n a : Nat} : ∀ k, k < n → nrmK kN4 (nmF (wbN V n a n) k) = nrmK kN4 (nmF (woN V n a) k) := by
  intro k hk
  show nrmK kN4 (nmL (wbN V n a n k)) = _
  unfold wbN; rw [if_pos (by omega)]; rfl
def woL (m : Nat) : Nat := (IntKind.i64.wrap ((m : Int) - 1)).toNat
theorem woL_eq {m : Nat} (h : m ≤ 1001) : woL m = m - 1 := by unfold woL; rw [wrap_i64 (by omega)]; omega
noncomputable def WoF (e : Nat) : List Value → (Nat → Option Blk) → Nat → List (Bool × Value × List (Nat × Blk))
  | [c, a], mm, id => [((srcB mm kN4 c).1 && okV (srcB mm kN4 c).2.1 (srcB mm kN4 c).2.2 && isNum a && Nat.ble 1 (srcB mm kN4 c).2.1, nSl id ((srcB mm kN4 c).2.1 - 1), rw4 e id ((srcB mm kN4 c).2.1 - 1) (nmF (woN (nA (srcB mm kN4 c).2.2) ((srcB mm kN4 c).2.1 - 1) (unnum a))))]
  | _, _, _ => []
theorem woN_congr {X Y : Nat → Nat} {n : Nat} (h : ∀ j, j < n + 1 → X j = Y j) (a : Nat) : woN X n a = woN Y n a := by
  funext k
  unfold woN
  have : ∀ j, cyN X a n j = cyN Y a n j := by
    intro j
    induction j with
    | zero => rfl
    | succ j ih => rw [cyN, cyN, ih, h _ (by omega)]
  exact this _

noncomputable def tmN (A X Y : Nat → Nat) (n i : Nat) : Nat := nMul (Y i) (nInv (evN (woN A n (X i)) n (X i)))
noncomputable def thN (A X Y : Nat → Nat) (n : Nat) : Nat → Nat → Nat
  | 0 => fun _ => 0
  | i + 1 => fun k => nAdd (thN A X Y n i k) (nMul (tmN A X Y n i) (woN A n (X i) k))
theorem th_zero {A X Y : Nat → Nat} {n : Nat} (k : Nat) : nrmK kN4 [u64 0, u64 0, u64 0, u64 0] = nrmK kN4 (nmF (thN A X Y n 0) k) := by
  show _ = nrmK kN4 (nmL (thN A X Y n 0 k))
  rw [thN]; show _ = nrmK kN4 (nmL 0); rfl
theorem thN_p (A X Y : Nat → Nat) (n : Nat) : ∀ i k, thN A X Y n i k < pN
  | 0, _ => n1_pos
  | _ + 1, _ => nAdd_p _ _
noncomputable def tcN (U P : Nat → Nat) (T j : Nat) (k : Nat) : Nat := if k < j then nAdd (U k) (nMul T (P k)) else U k
theorem tcN_l {U : Nat → Nat} (hU : ∀ k, U k < 2 ^ 256) (P : Nat → Nat) (T j k : Nat) : tcN U P T j k < 2 ^ 256 := by
  unfold tcN; split
  · exact nAdd_l _ _
  · exact hU k
theorem tc_row {U P : Nat → Nat} {T j n : Nat} : ∀ k, k < n → nrmK kN4 (updR (nmF (tcN U P T j)) j (cells4 (nAdd (U j) (nMul T (P j)))) k) = nrmK kN4 (nmF (tcN U P T (j + 1)) k) := by
  intro k hk
  rw [updN_row (n := n) _ _ _ k hk]
  show nrmK kN4 (nmL (if k = j then _ else tcN U P T j k)) = nrmK kN4 (nmL (tcN U P T (j + 1) k))
  congr 2
  by_cases h : k = j
  · subst h; rw [if_pos rfl]; unfold tcN; rw [if_pos (by omega)]
  · rw [if_neg h]; unfold tcN
    by_cases h2 : k < j
    · rw [if_pos h2, if_pos (by omega)]
    · rw [if_neg h2, if_neg (by omega)]
theorem tc_start (U P : Nat → Nat) (T k : Nat) : tcN U P T 0 k = U k := by unfold tcN; rw [if_neg (by omega)]
theorem tc_all {A X Y : Nat → Nat} {n i : Nat} : ∀ k, k < n → nrmK kN4 (nmF (tcN (thN A X Y n i) (woN A n (X i)) (tmN A X Y n i) n) k) = nrmK kN4 (nmF (thN A X Y n (i + 1)) k) := by
  intro k hk
  show nrmK kN4 (nmL (tcN (thN A X Y n i) (woN A n (X i)) (tmN A X Y n i) n k)) = _
  unfold tcN; rw [if_pos hk]; rfl
noncomputable def trhN (X Y : Nat → Nat) (n : Nat) : Nat → Nat := Classical.choose (⟨thN (vaN X n) X Y n n, rfl⟩ : ∃ f : Nat → Nat, f = thN (vaN X n) X Y n n)
theorem trhN_def (X Y : Nat → Nat) (n : Nat) : trhN X Y n = thN (vaN X n) X Y n n := Classical.choose_spec (⟨thN (vaN X n) X Y n n, rfl⟩ : ∃ f : Nat → Nat, f = thN (vaN X n) X Y n n)
theorem trhN_p (X Y : Nat → Nat) (n k : Nat) : trhN X Y n k < pN := by rw [trhN_def]; exact thN_p _ _ _ _ _ _
theorem thN_congr {A A' X X' Y Y' : Nat → Nat} {n : Nat} (hA : ∀ j, j < n + 1 → A j = A' j) (h : ∀ j, j < n → X j = X' j ∧ Y j = Y' j) : ∀ i, i ≤ n → thN A X Y n i = thN A' X' Y' n i
  | 0, _ => rfl
  | i + 1, hi => by
    funext k
    have e : tmN A X Y n i = tmN A' X' Y' n i := by unfold tmN; rw [(h i (by omega)).1, (h i (by omega)).2, woN_congr hA]
    show nAdd (thN A X Y n i k) (nMul (tmN A X Y n i) (woN A n (X i) k)) = nAdd (thN A' X' Y' n i k) (nMul (tmN A' X' Y' n i) (woN A' n (X' i) k))
    rw [thN_congr hA h i (by omega), e, (h i (by omega)).1, woN_congr hA]
theorem trhN_congr {X X' Y Y' : Nat → Nat} {n : Nat} (h : ∀ j, j < n → X j = X' j ∧ Y j = Y' j) : trhN X Y n = trhN X' Y' n := by
  rw [trhN_def, trhN_def, vaN_congr (fun j hj => (h j hj).1) n (Nat.le_refl _)]
  exact thN_congr (fun _ _ => rfl) h n (Nat.le_refl _)
noncomputable def ThF (e : Nat) : List Value → (Nat → Option Blk) → Nat → List (Bool × Value × List (Nat × Blk))
  | [l], mm, id => [((srcB mm kN8 l).1 && okS (srcB mm kN8 l).2.1 (srcB mm kN8 l).2.2 && (ckN (xA (srcB mm kN8 l).2.2) (srcB mm kN8 l).2.1 != 0), .tuple #[.slice none 0 0, i64 (ckN (xA (srcB mm kN8 l).2.2) (srcB mm kN8 l).2.1)], []),
      ((srcB mm kN8 l).1 && okS (srcB mm kN8 l).2.1 (srcB mm kN8 l).2.2 && (ckN (xA (srcB mm kN8 l).2.2) (srcB mm kN8 l).2.1 == 0), .tuple #[nSl id (srcB mm kN8 l).2.1, i64 0], rw4 e id (srcB mm kN8 l).2.1 (nmF (trhN (xA (srcB mm kN8 l).2.2) (yA (srcB mm kN8 l).2.2) (srcB mm kN8 l).2.1)))]
  | _, _, _ => []
end Go.W

/-
  The polynomial through shares: it is worth at each place what it should be, and there is no other.
-/
namespace Go.W

theorem pfl_lin {U P Q : Nat → Nat} {q x : Int} : ∀ m a b c, (∀ k, k < m → cg (U (a + k) : Int) ((P (b + k) : Int) + q * (Q (c + k) : Int))) → cg (pEv (pFL U a m) x) (pEv (pFL P b m) x + q * pEv (pFL Q c m) x)
  | 0, _, _, _, _ => cg_of (by show (0 : Int) = 0 + q * 0; rw [Int.mul_zero]; rfl)
  | m + 1, a, b, c, h => by
    have h0 := h 0 (by omega)
    have ih := pfl_lin (x := x) m (a + 1) (b + 1) (c + 1) (fun k hk => by
      have := h (k + 1) (by omega)
      rw [show a + 1 + k = a + (k + 1) from by omega, show b + 1 + k = b + (k + 1) from by omega, show c + 1 + k = c + (k + 1) from by omega]; exact this)
    refine cg_trans (cg_add h0 (cg_mul (cg_refl x) ih)) (cg_of ?_)
    show (P (b + 0) : Int) + q * (Q (c + 0) : Int) + x * (pEv (pFL P (b + 1) m) x + q * pEv (pFL Q (c + 1) m) x) = ((P b : Int) + x * pEv (pFL P (b + 1) m) x) + q * ((Q c : Int) + x * pEv (pFL Q (c + 1) m) x)
    rw [Nat.add_zero, Nat.add_zero]; grind
theorem pfl_cg {U P : Nat → Nat} {x : Int} {m a b : Nat} (h : ∀ k, k < m → cg (U (a + k) : Int) (P (b + k) : Int)) : cg (pEv (pFL U a m) x) (pEv (pFL P b m) x) := by
  have := pfl_lin (U := U) (P := P) (Q := P) (q := 0) (x := x) m a b b (fun k hk => by rw [Int.zero_mul, Int.add_zero]; exact h k hk)
  rwa [Int.zero_mul, Int.add_zero] at this
theorem pfl_zero {V : Nat → Nat} {x : Int} : ∀ m a, (∀ k, k < m → V (a + k) = 0) → pEv (pFL V a m) x = 0
  | 0, _, _ => rfl
  | m + 1, a, h => by
    show (V a : Int) + x * pEv (pFL V (a + 1) m) x = 0
    have h0 := h 0 (by omega)
    rw [Nat.add_zero] at h0
    rw [h0, pfl_zero m (a + 1) (fun k hk => by rw [show a + 1 + k = a + (k + 1) from by omega]; exact h (k + 1) (by omega)), Int.mul_zero]; rfl
theorem pfl_last {V : Nat → Nat} {x : Int} : ∀ m a, V (a + m) = 0 → pEv (pFL V a (m + 1)) x = pEv (pFL V a m) x
  | 0, a, h => by
    show (V a : Int) + x * 0 = 0
    rw [Nat.add_zero] at h
    rw [h, Int.mul_zero]; rfl
  | m + 1, a, h => by
    show (V a : Int) + x * pEv (pFL V (a + 1) (m + 1)) x = (V a : Int) + x * pEv (pFL V (a + 1) m) x
    rw [pfl_last m (a + 1) (by rw [show a + 1 + m = a + (m + 1) from by omega]; exact h)]
theorem pfl_mem {V : Nat → Nat} : ∀ m a k, k < m → (V (a + k) : Int) ∈ pFL V a m
  | m + 1, a, 0, _ => by show (V a : Int) ∈ (V a : Int) :: pFL V (a + 1) m; simp
  | m + 1, a, k + 1, h => by
    have := pfl_mem (V := V) m (a + 1) k (by omega)
    rw [show a + 1 + k = a + (k + 1) from by omega] at this
    exact List.mem_cons_of_mem _ this

def prI (X : Nat → Nat) (x : Int) : Nat → Int
  | 0 => 1
  | k + 1 => prI X x k * (x - nI X k)
theorem pr_zero (X : Nat → Nat) {j : Nat} : ∀ n, j < n → prI X (nI X j) n = 0
  | n + 1, h => by
    unfold prI
    by_cases e : j = n
    · subst e; rw [Int.sub_self, Int.mul_zero]
    · rw [pr_zero X n (by omega), Int.zero_mul]
theorem va_zero (X : Nat → Nat) : ∀ i k, i < k → vaN X i k = 0
  | 0, k, h => by
    show (if k = 0 then 1 else 0) = 0
    rw [if_neg (by omega)]
  | i + 1, k, h => by
    show (if k = 0 then _ else if k ≤ i + 1 then _ else vaN X i k) = 0
    rw [if_neg (by omega), if_neg (by omega), va_zero X i k (by omega)]
theorem va_step (X : Nat → Nat) (i k : Nat) : cg (vaN X (i + 1) (k + 1) : Int) ((vaN X i k : Int) + (-(X i : Int)) * (vaN X i (k + 1) : Int)) := by
  have e : vaN X (i + 1) (k + 1) = if k + 1 ≤ i + 1 then nSub (vaN X i k) (nMul (vaN X i (k + 1)) (X i)) else vaN X i (k + 1) := rfl
  rw [e]
  by_cases h : k + 1 ≤ i + 1
  · rw [if_pos h]
    refine cg_trans (cSub _ _) (cg_trans (cg_sub (cg_refl _) (cMul _ _)) (cg_of ?_))
    grind
  · rw [if_neg h, va_zero X i (k + 1) (by omega), va_zero X i k (by omega)]
    exact cg_of (by simp)
theorem va_step0 (X : Nat → Nat) (i : Nat) : cg (vaN X (i + 1) 0 : Int) (-(X i : Int) * (vaN X i 0 : Int)) := by
  have e : vaN X (i + 1) 0 = nSub 0 (nMul (vaN X i 0) (X i)) := rfl
  rw [e]
  refine cg_trans (cSub _ _) (cg_trans (cg_sub (cg_refl _) (cMul _ _)) (cg_of ?_))
  show (0 : Int) - _ = _
  grind
theorem va_ev (X : Nat → Nat) (x : Int) : ∀ i m, i ≤ m → cg (pEv (pFL (vaN X i) 0 (m + 1)) x) (prI X x i)
  | 0, m, _ => by
    refine cg_of ?_
    show ((vaN X 0 0 : Nat) : Int) + x * pEv (pFL (vaN X 0) 1 m) x = 1
    rw [pfl_zero m 1 (fun k _ => va_zero X 0 (1 + k) (by omega)), Int.mul_zero]; rfl
  | i + 1, m, h => by
    have ih := va_ev X x i m (by omega)
    have h1 := pfl_lin (U := vaN X (i + 1)) (P := vaN X i) (Q := vaN X i) (q := -(X i : Int)) (x := x) m 1 0 1 (fun k _ => by
      rw [show 1 + k = k + 1 from by omega, Nat.zero_add]; exact va_step X i k)
    have h2 : pEv (pFL (vaN X i) 0 (m + 1)) x = pEv (pFL (vaN X i) 0 m) x := pfl_last m 0 (by rw [Nat.zero_add]; exact va_zero X i m (by omega))
    have h3 : pEv (pFL (vaN X i) 0 (m + 1)) x = ((vaN X i 0 : Nat) : Int) + x * pEv (pFL (vaN X i) 1 m) x := rfl
    show cg (((vaN X (i + 1) 0 : Nat) : Int) + x * pEv (pFL (vaN X (i + 1)) 1 m) x) (prI X x i * (x - nI X i))
    refine cg_trans (cg_add (va_step0 X i) (cg_mul (cg_refl x) h1)) ?_
    refine cg_trans (cg_of ?_) (cg_mul ih (cg_refl (x - nI X i)))
    rw [← h2, h3]
    unfold nI
    grind
theorem va_lead (X : Nat → Nat) : ∀ i, cg (vaN X i i : Int) 1
  | 0 => cg_refl _
  | i + 1 => by
    refine cg_trans (va_step X i i) ?_
    rw [va_zero X i (i + 1) (by omega)]
    refine cg_trans (cg_of ?_) (va_lead X i)
    show _ + -(X i : Int) * 0 = _
    rw [Int.mul_zero, Int.add_zero]

theorem cy_cg (V : Nat → Nat) (a n : Nat) : ∀ j, j ≤ n → cg (cyN V a n j : Int) (pEv (pFL V (n - j + 1) j) (a : Int))
  | 0, _ => cg_refl _
  | j + 1, h => by
    rw [cyN, show n - (j + 1) + 1 = n - j from by omega, pFL, pEv]
    refine cg_trans (cAdd _ _) (cg_add (cg_refl _) (cg_trans (cMul _ _) ?_))
    rw [Int.mul_comm]
    exact cg_mul (cg_refl _) (cy_cg V a n j (by omega))
theorem wo_cg (V : Nat → Nat) (n a : Nat) (x : Int) : ∀ m j, j + m = n → cg (pEv (pFL (woN V n a) j m) x) (pEv (pQt (pFL V j (m + 1)) (a : Int)) x)
  | 0, _, _ => cg_refl _
  | m + 1, j, h => by
    have ih := wo_cg V n a x m (j + 1) (by omega)
    have h0 := cy_cg V a n (n - j) (by omega)
    rw [show n - (n - j) + 1 = j + 1 from by omega, show n - j = m + 1 from by omega] at h0
    show cg ((woN V n a j : Int) + x * pEv (pFL (woN V n a) (j + 1) m) x) (pEv (pFL V (j + 1) (m + 1)) (a : Int) + x * pEv (pQt (pFL V (j + 1) (m + 1)) (a : Int)) x)
    refine cg_add ?_ (cg_mul (cg_refl x) ih)
    unfold woN
    rw [show n - j = m + 1 from by omega]; exact h0
theorem wo_prod (V : Nat → Nat) (n a : Nat) (x : Int) : cg ((x - (a : Int)) * pEv (pFL (woN V n a) 0 n) x) (pEv (pFL V 0 (n + 1)) x - pEv (pFL V 0 (n + 1)) (a : Int)) := by
  rw [pQt_ev]
  exact cg_mul (cg_refl _) (wo_cg V n a x n 0 (by omega))

section
variable {X : Nat → Nat} {n : Nat}
theorem part_zero (h : Unlike X n) {i j : Nat} (hi : i < n) (hj : j < n) (hne : j ≠ i) : ((pN : Nat) : Int) ∣ pEv (pFL (woN (vaN X n) n (X i)) 0 n) (nI X j) := by
  have h1 := wo_prod (vaN X n) n (X i) (nI X j)
  have h2 : cg (pEv (pFL (vaN X n) 0 (n + 1)) (nI X j)) 0 := by
    have := va_ev X (nI X j) n n (Nat.le_refl _); rwa [pr_zero X n hj] at this
  have h3 : cg (pEv (pFL (vaN X n) 0 (n + 1)) (X i : Int)) 0 := by
    have := va_ev X (nI X i) n n (Nat.le_refl _); rwa [pr_zero X n hi] at this
  have h4 := cg_trans h1 (cg_sub h2 h3)
  rw [Int.sub_zero] at h4
  rcases ep _ _ (cg_zero.1 h4) with h5 | h5
  · exact absurd h5 (unlike_ne h (i := j) (j := i) hj hi (fun e => hne e.symm))
  · exact h5
theorem part_at (h : Unlike X n) {i : Nat} (hi : i < n) : ¬ ((pN : Nat) : Int) ∣ pEv (pFL (woN (vaN X n) n (X i)) 0 n) (nI X i) := by
  intro hd
  have hall := pEv_zero ep ((List.range n).map (nI X)) (pFL (woN (vaN X n) n (X i)) 0 n) (pw_range h) (by rw [pFL_len, List.length_map, List.length_range]; exact Nat.le_refl _) (fun x hx => by
    obtain ⟨j, hj, rfl⟩ := List.mem_map.1 hx
    have hj : j < n := by simpa using hj
    by_cases e : j = i
    · subst e; exact hd
    · exact part_zero h hi hj e)
  have hm := hall _ (pfl_mem n 0 (n - 1) (by omega))
  rw [Nat.zero_add] at hm
  have e1 : woN (vaN X n) n (X i) (n - 1) = nAdd (vaN X n n) (nMul 0 (X i)) := by
    unfold woN
    rw [show n - (n - 1) = 0 + 1 from by omega, cyN, cyN, Nat.sub_zero]
  rw [e1] at hm
  have h2 : cg (nAdd (vaN X n n) (nMul 0 (X i)) : Int) 1 := by
    refine cg_trans (cAdd _ _) ?_
    refine cg_trans (cg_add (va_lead X n) (cMul _ _)) (cg_of ?_)
    show (1 : Int) + 0 * _ = 1
    rw [Int.zero_mul]; rfl
  exact ep1 ((cg_dvd h2).1 hm)
theorem tm_cg (h : Unlike X n) (Y : Nat → Nat) {i : Nat} (hi : i < n) : cg ((tmN (vaN X n) X Y n i : Int) * pEv (pFL (woN (vaN X n) n (X i)) 0 n) (nI X i)) (Y i : Int) := by
  have h1 := ev_cg (woN (vaN X n) n (X i)) n (X i)
  have h2 : ¬ ((pN : Nat) : Int) ∣ (evN (woN (vaN X n) n (X i)) n (X i) : Int) := fun hd => part_at h hi ((cg_dvd h1).1 hd)
  unfold tmN
  refine cg_trans (cg_mul (cMul _ _) (cg_symm h1)) ?_
  rw [Int.mul_assoc]
  refine cg_trans (cg_mul (cg_refl _) ?_) (cg_of (Int.mul_one _))
  rw [Int.mul_comm]; exact cInv h2
theorem th_val (h : Unlike X n) (Y : Nat → Nat) {j : Nat} (hj : j < n) : ∀ i, i ≤ n → cg (pEv (pFL (thN (vaN X n) X Y n i) 0 n) (nI X j)) (if j < i then (Y j : Int) else 0)
  | 0, _ => by
    rw [if_neg (by omega)]
    refine cg_of (pfl_zero n 0 fun k _ => ?_)
    show thN (vaN X n) X Y n 0 (0 + k) = 0
    rw [thN]
  | i + 1, hi => by
    have h1 := pfl_lin (U := thN (vaN X n) X Y n (i + 1)) (P := thN (vaN X n) X Y n i) (Q := woN (vaN X n) n (X i)) (q := (tmN (vaN X n) X Y n i : Int)) (x := nI X j) n 0 0 0 (fun k _ => by
      rw [Nat.zero_add]
      show cg ((nAdd (thN (vaN X n) X Y n i k) (nMul (tmN (vaN X n) X Y n i) (woN (vaN X n) n (X i) k)) : Nat) : Int) _
      exact cg_trans (cAdd _ _) (cg_add (cg_refl _) (cMul _ _)))
    refine cg_trans h1 ?_
    have ih := th_val h Y hj i (by omega)
    by_cases e : j = i
    · subst e
      rw [if_neg (by omega)] at ih
      rw [if_pos (by omega)]
      exact cg_trans (cg_add ih (tm_cg h Y hj)) (cg_of (Int.zero_add _))
    · have h2 : cg ((tmN (vaN X n) X Y n i : Int) * pEv (pFL (woN (vaN X n) n (X i)) 0 n) (nI X j)) 0 := cg_zero.2 (Int.dvd_mul_of_dvd_right (part_zero h (by omega) hj e))
      refine cg_trans (cg_add ih h2) (cg_of ?_)
      rw [Int.add_zero]
      by_cases h3 : j < i
      · rw [if_pos h3, if_pos (by omega)]
      · rw [if_neg h3, if_neg (by omega)]
theorem th_at (h : Unlike X n) (Y : Nat → Nat) {j : Nat} (hj : j < n) : cg (pEv (pFL (trhN X Y n) 0 n) (nI X j)) (Y j : Int) := by
  rw [trhN_def]
  have := th_val h Y hj n (Nat.le_refl _)
  rwa [if_pos hj] at this
theorem pfl_diff {U D : Nat → Nat} : ∀ m a, (∀ y ∈ pAdd (pFL U a m) (pMul (-1) (pFL D a m)), ((pN : Nat) : Int) ∣ y) → ∀ k, k < m → cg (U (a + k) : Int) (D (a + k) : Int)
  | m + 1, a, h, 0, _ => by
    have := h ((U a : Int) + -1 * (D a : Int)) (by show _ ∈ ((U a : Int) + -1 * (D a : Int)) :: pAdd (pFL U (a + 1) m) (pMul (-1) (pFL D (a + 1) m)); simp)
    unfold cg
    rw [Nat.add_zero]
    have e : (U a : Int) - (D a : Int) = (U a : Int) + -1 * (D a : Int) := by omega
    rw [e]; exact this
  | m + 1, a, h, k + 1, hk => by
    have := pfl_diff m (a + 1) (fun y hy => h y (by show _ ∈ ((U a : Int) + -1 * (D a : Int)) :: pAdd (pFL U (a + 1) m) (pMul (-1) (pFL D (a + 1) m)); exact List.mem_cons_of_mem _ hy)) k (by omega)
    rwa [show a + 1 + k = a + (k + 1) from by omega] at this
theorem th_only (h : Unlike X n) {U D : Nat → Nat} (hv : ∀ j, j < n → cg (pEv (pFL U 0 n) (nI X j)) (pEv (pFL D 0 n) (nI X j))) : ∀ k, k < n → cg (U k : Int) (D k : Int) := by
  have := pfl_diff (U := U) (D := D) n 0 (pEv_zero ep ((List.range n).map (nI X)) _ (pw_range h) (by
    rw [pAdd_len, List.length_map, List.length_range, pFL_len]
    unfold pMul; rw [List.length_map, pFL_len]; omega) (fun x hx => by
    obtain ⟨j, hj, rfl⟩ := List.mem_map.1 hx
    have hj : j < n := by simpa using hj
    rw [pAdd_ev, pMul_ev]
    have := hv j hj
    unfold cg at this
    have e : pEv (pFL U 0 n) (nI X j) + -1 * pEv (pFL D 0 n) (nI X j) = pEv (pFL U 0 n) (nI X j) - pEv (pFL D 0 n) (nI X j) := by omega
    rw [e]; exact this))
  intro k hk
  have h2 := this k hk
  rwa [Nat.zero_add] at h2
theorem th_zero0 (h : Unlike X n) (h0 : n ≠ 0) (h1 : n ≤ 64) (Y : Nat → Nat) : zeN X Y n = trhN X Y n 0 := by
  have hc := ckN_ok h0 h1 (of_unlike h)
  rw [zeN_ok hc]
  refine cg_eq (zsN_p _ _ _) (trhN_p _ _ _ _) ?_
  have := zs_cg (Y := Y) h (c := pFL (trhN X Y n) 0 n) (by rw [pFL_len]; exact Nat.le_refl _) (fun i hi => th_at h Y hi)
  rw [pEv_zero_at] at this
  obtain ⟨m, rfl⟩ : ∃ m, n = m + 1 := ⟨n - 1, by omega⟩
  exact this
end
end Go.W

/-
  The statements about the polynomial through shares, as trees.
-/
namespace Go.W

theorem MSum_sub {P : Program} [Laid P] {g : FuncId} {F F' : List Value → (Nat → Option Blk) → Nat → List (Bool × Value × List (Nat × Blk))} (h : MSum P g F) (hs : ∀ vs mm id v l, pickM (F' vs mm id) = some (v, l) → pickM (F vs mm id) = some (v, l)) : MSum P g F' := by
  intro w0 R fm w hm vs args' hl mm hsub id hlt v l hpick hnew
  exact h w0 R fm w hm vs args' hl mm hsub id hlt v l (hs _ _ _ _ _ hpick) hnew
noncomputable def ThkF (e : Nat) : List Value → (Nat → Option Blk) → Nat → List (Bool × Value × List (Nat × Blk))
  | [l], mm, id => [((srcB mm kN8 l).1 && okS (srcB mm kN8 l).2.1 (srcB mm kN8 l).2.2 && (ckN (xA (srcB mm kN8 l).2.2) (srcB mm kN8 l).2.1 == 0), .tuple #[nSl id (srcB mm kN8 l).2.1, i64 0], rw4 e id (srcB mm kN8 l).2.1 (nmF (trhN (xA (srcB mm kN8 l).2.2) (yA (srcB mm kN8 l).2.2) (srcB mm kN8 l).2.1)))]
  | _, _, _ => []
theorem ThkF_sub (e : Nat) : ∀ vs mm id v l, pickM (ThkF e vs mm id) = some (v, l) → pickM (ThF e vs mm id) = some (v, l) := by
  intro vs mm id v l h
  match vs, h with
  | [a], h =>
    obtain ⟨hc, rfl, rfl⟩ := pick_one h
    have hc' := hc
    simp only [Bool.and_eq_true, beq_iff_eq] at hc
    simp only [ThF, pickM]
    rw [hc.2, hc.1.1, hc.1.2]; rfl
  | [], h => simp [ThkF, pickM] at h
  | _ :: _ :: _, h => simp [ThkF, pickM] at h
noncomputable def ThnF : List Value → (Nat → Option Blk) → Nat → List (Bool × Value × List (Nat × Blk))
  | [l], mm, _ => [((srcB mm kN8 l).1 && okS (srcB mm kN8 l).2.1 (srcB mm kN8 l).2.2 && (ckN (xA (srcB mm kN8 l).2.2) (srcB mm kN8 l).2.1 != 0), .tuple #[.slice none 0 0, i64 (ckN (xA (srcB mm kN8 l).2.2) (srcB mm kN8 l).2.1)], [])]
  | _, _, _ => []
theorem ThnF_sub (e : Nat) : ∀ vs mm id v l, pickM (ThnF vs mm id) = some (v, l) → pickM (ThF e vs mm id) = some (v, l) := by
  intro vs mm id v l h
  match vs, h with
  | [a], h =>
    obtain ⟨hc, rfl, rfl⟩ := pick_one h
    simp only [ThF, pickM]
    rw [hc]; rfl
  | [], h => simp [ThnF, pickM] at h
  | _ :: _ :: _, h => simp [ThnF, pickM] at h
noncomputable def thkq {α : Type} (m : Nat) (g : Nat → List Value) (k : (Nat → Nat) → Option α) : Option α := req (kb4 m && okS m (sg8 m g) && (ckN (xA (sg8 m g)) m == 0)) (k (trhN (xA (sg8 m g)) (yA (sg8 m g)) m))
theorem row_xy {m : Nat} {g : Nat → List Value} {S : Nat → Nat × Nat} (hm : m ≤ 1000) (hS : ∀ j, j < m → (S j).1 < 2 ^ 256 ∧ (S j).2 < 2 ^ 256) (e : ∀ j, j < m → nrmK kN8 (g j) = nrmK kN8 (shF S j)) : okS m (sg8 m g) = true ∧ (∀ j, j < m → xA (sg8 m g) j = sX S j) ∧ ∀ j, j < m → yA (sg8 m g) j = sY S j := by
  have h1 := kx_congr e
  refine ⟨?_, fun j hj => ?_, fun j hj => ?_⟩
  · rw [okS_sg]
    exact okS_iff.2 ⟨hm, fun j hj => by rw [(h1 j hj).1, (h1 j hj).2]; exact ⟨isNum_num (S j).1, isNum_num (S j).2⟩⟩
  · unfold xA; rw [kx8_sg, (h1 j hj).1]; exact unnum_lt (hS j hj).1
  · unfold yA; rw [ky8_sg, (h1 j hj).2]; exact unnum_lt (hS j hj).2
theorem thkq_eq {α : Type} {m : Nat} {g : Nat → List Value} {S : Nat → Nat × Nat} (hm : m ≤ 1000) (hS : ∀ j, j < m → (S j).1 < 2 ^ 256 ∧ (S j).2 < 2 ^ 256) (e : ∀ j, j < m → nrmK kN8 (g j) = nrmK kN8 (shF S j)) (hc : ckN (sX S) m = 0) (k : (Nat → Nat) → Option α) : thkq m g k = k (trhN (sX S) (sY S) m) := by
  obtain ⟨h1, h2, h3⟩ := row_xy hm hS e
  unfold thkq
  rw [kb4_true, h1, ckN_congr h2, hc, req_true (b := true && true && ((0 : Int) == 0)) rfl, trhN_congr (fun j hj => ⟨h2 j hj, h3 j hj⟩)]
noncomputable def thnq {α : Type} (m : Nat) (g : Nat → List Value) (k : Int → Option α) : Option α := req (kb4 m && okS m (sg8 m g) && (ckN (xA (sg8 m g)) m != 0)) (k (ckN (xA (sg8 m g)) m))
theorem thnq_eq {α : Type} {m : Nat} {g : Nat → List Value} {S : Nat → Nat × Nat} (hm : m ≤ 1000) (hS : ∀ j, j < m → (S j).1 < 2 ^ 256 ∧ (S j).2 < 2 ^ 256) (e : ∀ j, j < m → nrmK kN8 (g j) = nrmK kN8 (shF S j)) (hc : ckN (sX S) m ≠ 0) (k : Int → Option α) : thnq m g k = k (ckN (sX S) m) := by
  obtain ⟨h1, h2, h3⟩ := row_xy hm hS e
  unfold thnq
  rw [kb4_true, h1, ckN_congr h2, show (ckN (sX S) m != 0) = true from by rw [bne_iff_ne]; exact hc, req_true (b := true && true && true) rfl]
def ti7 (t i : Int) : Int := IntKind.u64.wrap ((IntKind.u64.wrap t).tmod 1000 + IntKind.u64.wrap (IntKind.u64.wrap i * 7))
def t7 (t : Int) : Nat := (IntKind.u64.wrap t % 1000).toNat
theorem ti7_eq {t : Int} {k : Nat} (h : k < 1000) : ti7 t (k : Int) = ((t7 t + k * 7 : Nat) : Int) ∧ t7 t < 1000 := by
  unfold ti7 t7
  have h0 : 0 ≤ IntKind.u64.wrap t := by rw [wrap_u64]; omega
  rw [Int.tmod_eq_emod_of_nonneg h0]
  generalize IntKind.u64.wrap t = T at *
  rw [wrap_u64, wrap_u64, wrap_u64]
  omega
theorem eqq {A : Nat} : eqV (num A) (num A) = true := by rw [eqV_num]; exact decide_eq_true rfl
end Go.W

/-
  Lists of places, each once.
-/
namespace Go.W

def ddL (q : Nat → Nat) : Nat → List Nat
  | 0 => []
  | i + 1 => if q i ∈ ddL q i then ddL q i else ddL q i ++ [q i]
def ddP (q : Nat → Nat) (i j : Nat) : Nat := (ddL q i).getD j 0
theorem dd_in {q : Nat → Nat} {i : Nat} (h : q i ∈ ddL q i) : ddL q (i + 1) = ddL q i := by rw [ddL, if_pos h]
theorem dd_out {q : Nat → Nat} {i : Nat} (h : ¬ q i ∈ ddL q i) : ddL q (i + 1) = ddL q i ++ [q i] := by rw [ddL, if_neg h]
theorem dd_len (q : Nat → Nat) : ∀ i, (ddL q i).length ≤ i
  | 0 => Nat.le_refl _
  | i + 1 => by
    have := dd_len q i
    by_cases h : q i ∈ ddL q i
    · rw [dd_in h]; omega
    · rw [dd_out h, List.length_append]; simp only [List.length_cons, List.length_nil]; omega
theorem dd_nodup (q : Nat → Nat) : ∀ i, (ddL q i).Nodup
  | 0 => List.nodup_nil
  | i + 1 => by
    by_cases h : q i ∈ ddL q i
    · rw [dd_in h]; exact dd_nodup q i
    · rw [dd_out h, List.nodup_append]
      refine ⟨dd_nodup q i, by simp, fun a ha b hb => ?_⟩
      rw [List.mem_singleton] at hb
      subst hb
      exact fun e => h (e ▸ ha)
theorem dd_all {q : Nat → Nat} {p : Nat → Prop} (hq : ∀ i, p (q i)) : ∀ i, ∀ x ∈ ddL q i, p x
  | 0, x, h => by simp [ddL] at h
  | i + 1, x, h => by
    by_cases h1 : q i ∈ ddL q i
    · rw [dd_in h1] at h; exact dd_all hq i x h
    · rw [dd_out h1, List.mem_append, List.mem_singleton] at h
      rcases h with h | h
      · exact dd_all hq i x h
      · subst h; exact hq i
theorem ddP_mem {q : Nat → Nat} {i j : Nat} (h : j < (ddL q i).length) : ddP q i j ∈ ddL q i := by
  unfold ddP
  rw [List.getD_eq_getElem?_getD, List.getElem?_eq_getElem h]; exact List.getElem_mem h
theorem ddP_ne {q : Nat → Nat} {i a b : Nat} (hab : a < b) (hb : b < (ddL q i).length) : ddP q i a ≠ ddP q i b := by
  have := dd_nodup q i
  rw [List.nodup_iff_pairwise_ne, List.pairwise_iff_getElem] at this
  unfold ddP
  rw [List.getD_eq_getElem?_getD, List.getD_eq_getElem?_getD, List.getElem?_eq_getElem hb, List.getElem?_eq_getElem (show a < (ddL q i).length by omega)]
  exact this a b (by omega) hb hab
theorem ddP_old {q : Nat → Nat} {i j : Nat} (h : ¬ q i ∈ ddL q i) (hj : j < (ddL q i).length) : ddP q (i + 1) j = ddP q i j := by
  unfold ddP
  rw [dd_out h, List.getD_eq_getElem?_getD, List.getD_eq_getElem?_getD, List.getElem?_append_left hj]
theorem ddP_new {q : Nat → Nat} {i : Nat} (h : ¬ q i ∈ ddL q i) : ddP q (i + 1) (ddL q i).length = q i := by
  unfold ddP
  rw [dd_out h, List.getD_eq_getElem?_getD, List.getElem?_append_right (Nat.le_refl _), Nat.sub_self]; rfl
def twB (P : Nat → Nat) (x : Nat) : Nat → Bool
  | 0 => false
  | j + 1 => twB P x j || decide (P j = x)
theorem twB_iff {P : Nat → Nat} {x : Nat} : ∀ m, twB P x m = true ↔ ∃ j, j < m ∧ P j = x
  | 0 => by simp [twB]
  | m + 1 => by
    rw [twB, Bool.or_eq_true, twB_iff m, decide_eq_true_eq]
    constructor
    · rintro (⟨j, hj, e⟩ | e)
      · exact ⟨j, by omega, e⟩
      · exact ⟨m, by omega, e⟩
    · rintro ⟨j, hj, e⟩
      by_cases h : j = m
      · subst h; exact .inr e
      · exact .inl ⟨j, by omega, e⟩
theorem tw_mem {q : Nat → Nat} {i : Nat} : twB (ddP q i) (q i) (ddL q i).length = decide (q i ∈ ddL q i) := by
  rw [Bool.eq_iff_iff, twB_iff, decide_eq_true_eq]
  constructor
  · rintro ⟨j, hj, e⟩; rw [← e]; exact ddP_mem hj
  · intro h
    obtain ⟨j, hj, e⟩ := List.mem_iff_getElem.1 h
    refine ⟨j, hj, ?_⟩
    unfold ddP
    rw [List.getD_eq_getElem?_getD, List.getElem?_eq_getElem hj]; exact e
def qI (M z : Int) : Int := IntKind.u64.wrap (1 + (IntKind.u64.wrap z).tmod M)
def qN (M : Nat) (z : Int) : Nat := 1 + (IntKind.u64.wrap z % (M : Int)).toNat
theorem qI_eq {M : Nat} {z : Int} (hM : 0 < M) (hM1 : M ≤ 1000) : qI (M : Int) z = (qN M z : Int) ∧ 0 < qN M z ∧ qN M z ≤ M := by
  unfold qI qN
  have h0 : 0 ≤ IntKind.u64.wrap z := by rw [wrap_u64]; omega
  rw [Int.tmod_eq_emod_of_nonneg h0]
  generalize IntKind.u64.wrap z = T at *
  have h1 := Int.emod_nonneg T (show (M : Int) ≠ 0 by omega)
  have h2 := Int.emod_lt_of_pos T (show (0 : Int) < (M : Int) by omega)
  generalize T % (M : Int) = r at *
  rw [wrap_u64]
  omega
def smL (z : Int) : List Value := [.int .u64 z, u64 0, u64 0, u64 0]
theorem smL_eq {x : Nat} (h : x < 18446744073709551616) : smL (x : Int) = cells4 x := by
  have := congrArg (fun v : Value => v.cells.toList) (smI_num h)
  exact this
end Go.W

/-
  Sums of polynomials; weights that add up.
-/
namespace Go.W

noncomputable def WskF (e : Nat) : List Value → (Nat → Option Blk) → Nat → List (Bool × Value × List (Nat × Blk))
  | [c], mm, id => [((srcB mm kN4 c).1 && okV (srcB mm kN4 c).2.1 (srcB mm kN4 c).2.2 && (ckN (nA (srcB mm kN4 c).2.2) (srcB mm kN4 c).2.1 == 0), .tuple #[nSl id (srcB mm kN4 c).2.1, i64 0], rw4 e id (srcB mm kN4 c).2.1 (nmF (wtN (nA (srcB mm kN4 c).2.2) (srcB mm kN4 c).2.1)))]
  | _, _, _ => []
theorem WskF_sub (e : Nat) : ∀ vs mm id v l, pickM (WskF e vs mm id) = some (v, l) → pickM (WsF e vs mm id) = some (v, l) := by
  intro vs mm id v l h
  match vs, h with
  | [a], h =>
    obtain ⟨hc, rfl, rfl⟩ := pick_one h
    simp only [Bool.and_eq_true, beq_iff_eq] at hc
    simp only [WsF, pickM]
    rw [hc.2, hc.1.1, hc.1.2]; rfl
  | [], h => simp [WskF, pickM] at h
  | _ :: _ :: _, h => simp [WskF, pickM] at h
noncomputable def WsnF : List Value → (Nat → Option Blk) → Nat → List (Bool × Value × List (Nat × Blk))
  | [c], mm, _ => [((srcB mm kN4 c).1 && okV (srcB mm kN4 c).2.1 (srcB mm kN4 c).2.2 && (ckN (nA (srcB mm kN4 c).2.2) (srcB mm kN4 c).2.1 != 0), .tuple #[.slice none 0 0, i64 (ckN (nA (srcB mm kN4 c).2.2) (srcB mm kN4 c).2.1)], [])]
  | _, _, _ => []
theorem WsnF_sub (e : Nat) : ∀ vs mm id v l, pickM (WsnF vs mm id) = some (v, l) → pickM (WsF e vs mm id) = some (v, l) := by
  intro vs mm id v l h
  match vs, h with
  | [a], h =>
    obtain ⟨hc, rfl, rfl⟩ := pick_one h
    simp only [WsF, pickM]
    rw [hc]; rfl
  | [], h => simp [WsnF, pickM] at h
  | _ :: _ :: _, h => simp [WsnF, pickM] at h
noncomputable def wskq {α : Type} (m : Nat) (g : Nat → List Value) (k : (Nat → Nat) → Option α) : Option α := req (kb4 m && okV m (sg4 m g) && (ckN (nA (sg4 m g)) m == 0)) (k (wtN (nA (sg4 m g)) m))
theorem wt_one {X : Nat → Nat} {n : Nat} (h : Unlike X n) (h0 : n ≠ 0) : zsN (fun _ => 1) (wtN X n) n = 1 := by
  refine cg_eq (zsN_p _ _ _) (by decide) ?_
  have := zs_cg (Y := fun _ => 1) h (c := [1]) (by simp only [List.length_cons, List.length_nil]; omega) (fun i _ => cg_of (by show (1 : Int) + _ * 0 = 1; rw [Int.mul_zero]; rfl))
  exact this
theorem zs_one (W : Nat → Nat) (k : Nat) (hW : W k < pN) : zsN (fun _ => 1) W (k + 1) = nAdd (zsN (fun _ => 1) W k) (W k) := by
  rw [zsN, nMul_eq, Nat.one_mul, Nat.mod_eq_of_lt hW]
theorem wtN_p (X : Nat → Nat) (n i : Nat) : wtN X n i < pN := by rw [wtN_def]; exact nMul_p _ _

def padN (A : Nat → Nat) (n : Nat) (j : Nat) : Nat := if j < n then A j else 0
theorem pad_ev {A : Nat → Nat} {n : Nat} {x : Int} : ∀ m, n ≤ m → pEv (pFL (padN A n) 0 m) x = pEv (pFL A 0 n) x
  | 0, h => by have : n = 0 := by omega
               subst this; rfl
  | m + 1, h => by
    by_cases e : n = m + 1
    · subst e
      have key : ∀ k a, a + k = m + 1 → pFL (padN A (m + 1)) a k = pFL A a k := by
        intro k
        induction k with
        | zero => intro a _; rfl
        | succ k ih =>
          intro a ha
          rw [pFL, pFL, ih (a + 1) (by omega)]
          unfold padN; rw [if_pos (by omega)]
      rw [key (m + 1) 0 (by omega)]
    · rw [pfl_last m 0 (by unfold padN; rw [if_neg (by omega)]), pad_ev m (by omega)]
noncomputable def suN (A : Nat → Nat) (na : Nat) (B : Nat → Nat) (nb : Nat) (j : Nat) : Nat := nAdd (padN A na j) (padN B nb j)
theorem su_ev {A B : Nat → Nat} {na nb m x : Nat} (ha : na ≤ m) (hb : nb ≤ m) : evN (suN A na B nb) m x = nAdd (evN A na x) (evN B nb x) := by
  refine cg_eq (evN_p _ _ _) (nAdd_p _ _) (cg_trans (ev_cg _ _ _) ?_)
  refine cg_trans ?_ (cg_symm (cg_trans (cAdd _ _) (cg_add (ev_cg _ _ _) (ev_cg _ _ _))))
  have := pfl_lin (U := suN A na B nb) (P := padN A na) (Q := padN B nb) (q := 1) (x := (x : Int)) m 0 0 0 (fun k _ => by rw [Int.one_mul]; exact cAdd _ _)
  rw [Int.one_mul, pad_ev m ha, pad_ev m hb] at this
  exact this
theorem app4_row {V : Nat → Nat} {m : Nat} {L : List Value} (hL : nrmK kN4 L = nrmK kN4 (nmF V m)) : ∀ j, j < m + 1 → nrmK kN4 (appF m (nmF V) (lstF L 0 4) j) = nrmK kN4 (nmF V j) := app_row (ks := kN4) (fun _ _ => rfl) hL
def noF4 : Nat → List Value := fun _ => []
theorem no_okV : okV 0 noF4 = true := okV_iff.2 ⟨by decide, fun j hj => absurd hj (by omega)⟩
end Go.W

/-
  The document's polynomials, and rows of numbers that are the same.
-/
namespace Go.W

noncomputable def sameN (n : Nat) (f : Nat → List Value) (m : Nat) (g : Nat → List Value) : Bool := @decide (n = m ∧ ∀ j, j < n → nA f j = nA g j) (Classical.propDecidable _)
theorem sameN_iff {n m : Nat} {f g : Nat → List Value} : sameN n f m g = true ↔ n = m ∧ ∀ j, j < n → nA f j = nA g j := by
  unfold sameN
  exact ⟨fun h => @of_decide_eq_true _ (Classical.propDecidable _) h, fun h => @decide_eq_true _ (Classical.propDecidable _) h⟩
noncomputable def NumsF : List Value → (Nat → Option Blk) → Nat → List (Bool × Value × List (Nat × Blk))
  | [a, b], mm, _ => [((srcB mm kN4 a).1 && (srcB mm kN4 b).1 && okV (srcB mm kN4 a).2.1 (srcB mm kN4 a).2.2 && okV (srcB mm kN4 b).2.1 (srcB mm kN4 b).2.2 && sameN (srcB mm kN4 a).2.1 (srcB mm kN4 a).2.2 (srcB mm kN4 b).2.1 (srcB mm kN4 b).2.2, .bool true, [])]
  | _, _, _ => []
noncomputable def XskF (e : Nat) : List Value → (Nat → Option Blk) → Nat → List (Bool × Value × List (Nat × Blk))
  | [l], mm, id => [((srcB mm kN8 l).1 && okS (srcB mm kN8 l).2.1 (srcB mm kN8 l).2.2 && Nat.ble 1 (srcB mm kN8 l).2.1, nSl id (srcB mm kN8 l).2.1, rw4 e id (srcB mm kN8 l).2.1 (nmF (xA (srcB mm kN8 l).2.2)))]
  | _, _, _ => []
noncomputable def XszF : List Value → (Nat → Option Blk) → Nat → List (Bool × Value × List (Nat × Blk))
  | [l], mm, _ => [((srcB mm kN8 l).1 && Nat.beq (srcB mm kN8 l).2.1 0, .slice none 0 0, [])]
  | _, _, _ => []
theorem LoopOk_eqv {P : Program} [Laid P] {n : Nat} {body : Code} {ts : List Nat} {is : Ren} {nx : Nat} {s0 : St} {e : Exit} {sf sg : St} (h : LoopOk P n body (atSt ts is nx s0 e sf)) (he : stEq sf sg = true) : LoopOk P n body (atSt ts is nx s0 e sg) := by
  intro w0 R s a w hrel e' s' hp
  unfold atSt at hp
  cases hr : restS ts is nx s with
  | none => rw [hr] at hp; simp [oK, pickL] at hp
  | some s1 =>
    rw [hr] at hp
    simp only [oK, pickL, cond_some] at hp
    obtain ⟨h1, h2⟩ := hp
    cases h2
    have := h w0 R s a w hrel e sf (by unfold atSt; rw [hr]; simp only [oK, pickL, cond_some]; exact ⟨h1, trivial⟩)
    refine wp_mono this ?_
    rintro e2 a2 w2 ⟨rfl, R', hr'⟩
    exact ⟨rfl, R', hr'.eqv he⟩
noncomputable def rwN (X : Nat → Nat) (i : Nat) : Nat → Nat
  | 0 => 1
  | k + 1 => if k = i then rwN X i k else nMul (rwN X i k) (nMul (X k) (nInv (nSub (X k) (X i))))
theorem rwN_p (X : Nat → Nat) (i : Nat) : ∀ k, rwN X i k < pN
  | 0 => (by decide : 1 < pN)
  | k + 1 => by unfold rwN; split; exact rwN_p X i k; exact nMul_p _ _
theorem rw_cg {X : Nat → Nat} {n i : Nat} (h : Unlike X n) (hi : i < n) : ∀ k, k ≤ n → cg ((rwN X i k : Int) * (wtB X i k : Int)) (wtA X i k : Int)
  | 0, _ => cg_refl _
  | k + 1, hk => by
    have ih := rw_cg h hi k (by omega)
    unfold rwN wtB wtA
    by_cases e : k = i
    · rw [if_pos e, if_pos e, if_pos e]; exact ih
    · rw [if_neg e, if_neg e, if_neg e]
      have hd : ¬ ((pN : Nat) : Int) ∣ (nSub (X k) (X i) : Int) := fun hd => unlike_ne h (i := k) (j := i) (by omega) hi (fun e2 => e e2.symm) ((cg_dvd (cSub _ _)).1 hd)
      refine cg_trans (cg_mul (cg_trans (cMul _ _) (cg_mul (cg_refl _) (cMul _ _))) (cMul _ _)) ?_
      have e1 : (rwN X i k : Int) * ((X k : Int) * (nInv (nSub (X k) (X i)) : Int)) * ((wtB X i k : Int) * (nSub (X k) (X i) : Int)) = ((rwN X i k : Int) * (wtB X i k : Int)) * ((X k : Int) * ((nSub (X k) (X i) : Int) * (nInv (nSub (X k) (X i)) : Int))) := by grind
      rw [e1]
      refine cg_trans (cg_mul ih (cg_mul (cg_refl _) (cInv hd))) (cg_trans (cg_of ?_) (cg_symm (cMul _ _)))
      rw [Int.mul_one]
theorem rw_wt {X : Nat → Nat} {n i : Nat} (h : Unlike X n) (hi : i < n) : rwN X i n = wtN X n i := by
  refine cg_eq (rwN_p _ _ _) (wtN_p _ _ _) ?_
  rw [wtN_def]
  have hB := wtB_ne h hi n (Nat.le_refl _)
  refine cg_trans ?_ (cg_symm (cg_trans (cMul _ _) (cg_mul (cg_symm (rw_cg h hi n (Nat.le_refl _))) (cg_refl _))))
  have e : (rwN X i n : Int) * (wtB X i n : Int) * (nInv (wtB X i n) : Int) = (rwN X i n : Int) * ((wtB X i n : Int) * (nInv (wtB X i n) : Int)) := by grind
  rw [e]
  refine cg_trans (cg_of (Int.mul_one _).symm) (cg_mul (cg_refl _) (cg_symm (cInv hB)))
def Odd (X : Nat → Nat) (n i : Nat) : Prop := ∃ j, j < n ∧ j ≠ i ∧ nSub (X j) (X i) = 0
theorem sub_sym {a b : Nat} (h : nSub a b = 0) : nSub b a = 0 := by
  have h1 := cSub a b
  rw [h] at h1
  refine cg_eq (B := 0) (nSub_p _ _) n1_pos (cg_trans (cSub _ _) (cg_zero.2 ?_))
  have h2 := cg_zero.1 (cg_symm h1)
  have e : (b : Int) - (a : Int) = -((a : Int) - (b : Int)) := by omega
  rw [e]; exact Int.dvd_neg.2 h2
theorem odd_bad {X : Nat → Nat} {n : Nat} : (∃ i, i < n ∧ Odd X n i) ↔ ∃ i, i < n ∧ Bad X i := by
  constructor
  · rintro ⟨i, hi, j, hj, hne, e⟩
    rcases Nat.lt_or_ge j i with h | h
    · exact ⟨i, hi, j, h, sub_sym e⟩
    · exact ⟨j, hj, i, by omega, e⟩
  · rintro ⟨i, hi, j, hj, e⟩
    exact ⟨i, hi, j, by omega, by omega, sub_sym e⟩
end Go.W

/-
  The polynomial through shares, as the document makes it.
-/
namespace Go.W

def TnF (e : Nat) : List Value → (Nat → Option Blk) → Nat → List (Bool × Value × List (Nat × Blk))
  | [a], mm, id => [((srcB mm kN4 a).1 && szOk (srcB mm kN4 a).2.1 32, nSl id (srcB mm kN4 a).2.1, rw4 e id (srcB mm kN4 a).2.1 (sg4 (srcB mm kN4 a).2.1 (srcB mm kN4 a).2.2))]
  | _, _, _ => []

noncomputable def pxN (C : Nat → Nat) (a m : Nat) (t : Nat) : Nat :=
  if t = 0 then nSub 0 (nMul (C 0) a) else if t < m then nSub (nAdd 0 (C (t - 1))) (nMul (C t) a) else if t = m then nAdd 0 (C (t - 1)) else 0
noncomputable def pyN (C : Nat → Nat) (a m k : Nat) (t : Nat) : Nat :=
  if t < k then pxN C a m t else if t = k ∧ k ≠ 0 then nAdd 0 (C (k - 1)) else 0
theorem pxN_l (C : Nat → Nat) (a m t : Nat) : pxN C a m t < 2 ^ 256 := by
  unfold pxN
  split
  · exact nSub_l _ _
  · split
    · exact nSub_l _ _
    · split
      · exact nAdd_l _ _
      · decide
theorem pyN_l (C : Nat → Nat) (a m k t : Nat) : pyN C a m k t < 2 ^ 256 := by
  unfold pyN
  split
  · exact pxN_l _ _ _ _
  · split
    · exact nAdd_l _ _
    · decide
theorem py_start (C : Nat → Nat) (a m t : Nat) : pyN C a m 0 t = 0 := by unfold pyN; rw [if_neg (by omega), if_neg (by omega)]
theorem py_all {C : Nat → Nat} {a m t : Nat} (hm : m ≠ 0) (ht : t < m + 1) : pyN C a m m t = pxN C a m t := by
  unfold pyN
  by_cases h : t < m
  · rw [if_pos h]
  · have : t = m := by omega
    subst this
    rw [if_neg (by omega), if_pos ⟨rfl, hm⟩]; unfold pxN; rw [if_neg hm, if_neg (by omega), if_pos rfl]
theorem py_step {C : Nat → Nat} {a m k t : Nat} (hk : k < m) : updN (updN (pyN C a m k) (k + 1) (nAdd 0 (C k))) k (nSub (pyN C a m k k) (nMul (C k) a)) t = pyN C a m (k + 1) t := by
  have hself : nSub (pyN C a m k k) (nMul (C k) a) = pxN C a m k := by
    unfold pyN pxN
    by_cases h0 : k = 0
    · subst h0; rw [if_neg (by omega), if_neg (by omega), if_pos rfl]
    · rw [if_neg (by omega), if_pos ⟨rfl, h0⟩, if_neg h0, if_pos hk]
  unfold updN
  by_cases h1 : t = k
  · rw [if_pos h1, hself, h1]; unfold pyN; rw [if_pos (by omega)]
  · rw [if_neg h1]
    by_cases h2 : t = k + 1
    · rw [if_pos h2, h2]; unfold pyN; rw [if_neg (by omega), if_pos ⟨rfl, by omega⟩, show k + 1 - 1 = k from by omega]
    · rw [if_neg h2]; unfold pyN
      by_cases h3 : t < k
      · rw [if_pos h3, if_pos (by omega)]
      · rw [if_neg h3, if_neg (by omega), if_neg (by omega), if_neg (by omega)]
theorem px_c0 (C : Nat → Nat) (a m : Nat) : cg (pxN C a m 0 : Int) (-(a : Int) * (C 0 : Int)) := by
  unfold pxN
  rw [if_pos rfl]
  refine cg_trans (cSub _ _) (cg_trans (cg_sub (cg_refl _) (cMul _ _)) (cg_of ?_))
  show (0 : Int) - _ = _
  grind

theorem px_cs {C : Nat → Nat} {a m : Nat} {t : Nat} (ht : t < m) : cg (pxN C a m (t + 1) : Int) ((padN C m t : Int) + -(a : Int) * (padN C m (t + 1) : Int)) := by
  unfold pxN padN
  rw [if_neg (by omega), if_pos ht]
  by_cases h : t + 1 < m
  · rw [if_pos h, if_pos h, show t + 1 - 1 = t from by omega]
    refine cg_trans (cSub _ _) (cg_trans (cg_sub (cAdd _ _) (cMul _ _)) (cg_of ?_))
    show (0 : Int) + _ - _ = _
    grind
  · rw [if_neg h, if_neg h, if_pos (by omega), show t + 1 - 1 = t from by omega]
    refine cg_trans (cAdd _ _) (cg_of ?_)
    show (0 : Int) + _ = _ + _ * 0
    rw [Int.mul_zero, Int.zero_add, Int.add_zero]
theorem px_ev {C : Nat → Nat} {a m : Nat} (hm : m ≠ 0) (x : Int) : cg (pEv (pFL (pxN C a m) 0 (m + 1)) x) ((x - (a : Int)) * pEv (pFL C 0 m) x) := by
  have h1 := pfl_lin (U := pxN C a m) (P := padN C m) (Q := padN C m) (q := -(a : Int)) (x := x) m 1 0 1 (fun k hk => by
    rw [show 1 + k = k + 1 from by omega, Nat.zero_add]; exact px_cs hk)
  have h2 : pEv (pFL (padN C m) 0 m) x = pEv (pFL C 0 m) x := pad_ev m (Nat.le_refl _)
  have h3 : pEv (pFL (padN C m) 0 (m + 1)) x = pEv (pFL C 0 m) x := pad_ev (m + 1) (by omega)
  have h4 : pEv (pFL (padN C m) 0 (m + 1)) x = ((padN C m 0 : Nat) : Int) + x * pEv (pFL (padN C m) 1 m) x := rfl
  have h5 : padN C m 0 = C 0 := by unfold padN; rw [if_pos (by omega)]
  show cg (((pxN C a m 0 : Nat) : Int) + x * pEv (pFL (pxN C a m) 1 m) x) _
  refine cg_trans (cg_add (px_c0 C a m) (cg_mul (cg_refl x) h1)) (cg_of ?_)
  rw [h5, h3] at h4
  rw [h2]
  generalize pEv (pFL C 0 m) x = A at *
  generalize pEv (pFL (padN C m) 1 m) x = B at *
  grind
end Go.W
