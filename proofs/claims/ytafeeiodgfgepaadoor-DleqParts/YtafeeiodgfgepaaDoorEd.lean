/-
  Several texts in one.
-/
import Derived.KernelRfl
import Derived.Test.YtafeeiodgfgepaaDoorEc
import Derived.Test.YtafeeiodgfgepaaDoorEb
import Derived.ChangeArms
import Derived.Test.YtafeeiodgfgepaaDoorEe
import Derived.Deep.Slices
/-
  Identities of polynomials in three pairs x, y with y y = x x x + 7, in any commutative ring, out of one computation with great numbers.
-/
namespace Go.W
structure Ops (A : Type) where
  zero : A
  one : A
  add : A → A → A
  sub : A → A → A
  mul : A → A → A
structure ORel {A B : Type} (o : Ops A) (o' : Ops B) (R : A → B → Prop) : Prop where
  zero : R o.zero o'.zero
  one : R o.one o'.one
  add : ∀ a b a' b', R a a' → R b b' → R (o.add a b) (o'.add a' b')
  sub : ∀ a b a' b', R a a' → R b b' → R (o.sub a b) (o'.sub a' b')
  mul : ∀ a b a' b', R a a' → R b b' → R (o.mul a b) (o'.mul a' b')
inductive PE where
  | v (i : Nat)
  | one
  | add (a b : PE)
  | sub (a b : PE)
  | mul (a b : PE)
def PE.ev {A : Type} (o : Ops A) (env : Nat → A) : PE → A
  | .v i => env i
  | .one => o.one
  | .add a b => o.add (a.ev o env) (b.ev o env)
  | .sub a b => o.sub (a.ev o env) (b.ev o env)
  | .mul a b => o.mul (a.ev o env) (b.ev o env)
theorem PE.rel {A B : Type} {o : Ops A} {o' : Ops B} {R : A → B → Prop} (h : ORel o o' R) {env : Nat → A} {env' : Nat → B} (he : ∀ i, R (env i) (env' i)) : ∀ e : PE, R (e.ev o env) (e.ev o' env')
  | .v i => he i
  | .one => h.one
  | .add a b => h.add _ _ _ _ (PE.rel h he a) (PE.rel h he b)
  | .sub a b => h.sub _ _ _ _ (PE.rel h he a) (PE.rel h he b)
  | .mul a b => h.mul _ _ _ _ (PE.rel h he a) (PE.rel h he b)
section
variable {A : Type} (o : Ops A)
def addL : List A → List A → List A
  | [], m => m
  | a :: l, [] => a :: l
  | a :: l, b :: m => o.add a b :: addL l m
def subL : List A → List A → List A
  | [], m => m.map (o.sub o.zero)
  | a :: l, [] => a :: l
  | a :: l, b :: m => o.sub a b :: subL l m
def mulL : List A → List A → List A
  | [], _ => []
  | a :: l, m => addL o (m.map (o.mul a)) (o.zero :: mulL l m)
def lOps : Ops (List A) := ⟨[], [o.one], addL o, subL o, mulL o⟩
def yOps (r : A) : Ops (A × A) :=
  ⟨(o.zero, o.zero), (o.one, o.zero), fun u v => (o.add u.1 v.1, o.add u.2 v.2), fun u v => (o.sub u.1 v.1, o.sub u.2 v.2),
   fun u v => (o.add (o.mul u.1 v.1) (o.mul (o.mul u.2 v.2) r), o.add (o.mul u.1 v.2) (o.mul u.2 v.1))⟩
end
structure RgOk {K : Type} (k : Ops K) : Prop where
  r1 : ∀ b, k.add k.zero b = b
  r2 : ∀ a, k.add a k.zero = a
  r3 : ∀ a b l m t, k.add (k.add a b) (k.mul t (k.add l m)) = k.add (k.add a (k.mul t l)) (k.add b (k.mul t m))
  r4 : k.sub k.zero k.zero = k.zero
  r5 : ∀ a l t, k.add (k.sub k.zero a) (k.mul t (k.sub k.zero l)) = k.sub k.zero (k.add a (k.mul t l))
  r6 : ∀ a, k.sub a k.zero = a
  r7 : ∀ a b l m t, k.add (k.sub a b) (k.mul t (k.sub l m)) = k.sub (k.add a (k.mul t l)) (k.add b (k.mul t m))
  r8 : ∀ a, k.mul a k.zero = k.zero
  r9 : ∀ a b l t, k.add (k.mul a b) (k.mul t (k.mul a l)) = k.mul a (k.add b (k.mul t l))
  r10 : ∀ m, k.mul k.zero m = k.zero
  r11 : ∀ a l m t, k.add (k.mul a m) (k.add k.zero (k.mul t (k.mul l m))) = k.mul (k.add a (k.mul t l)) m
  r14 : ∀ a b c d y, k.add (k.add a c) (k.mul (k.add b d) y) = k.add (k.add a (k.mul b y)) (k.add c (k.mul d y))
  r15 : ∀ a b c d y, k.add (k.sub a c) (k.mul (k.sub b d) y) = k.sub (k.add a (k.mul b y)) (k.add c (k.mul d y))
  r16 : ∀ a b c d y, k.add (k.add (k.mul a c) (k.mul (k.mul b d) (k.mul y y))) (k.mul (k.add (k.mul a d) (k.mul b c)) y) = k.mul (k.add a (k.mul b y)) (k.add c (k.mul d y))
section
variable {A K : Type} {k : Ops K} {o : Ops A} {φ : A → K} {t : K}
def evL (k : Ops K) (φ : A → K) (t : K) : List A → K
  | [] => k.zero
  | a :: l => k.add (φ a) (k.mul t (evL k φ t l))
abbrev Hom (k : Ops K) (o : Ops A) (φ : A → K) : Prop := ORel o k (fun a x => φ a = x)
theorem Hom.z (h : Hom k o φ) : φ o.zero = k.zero := h.zero
theorem Hom.a (h : Hom k o φ) (a b : A) : φ (o.add a b) = k.add (φ a) (φ b) := h.add _ _ _ _ rfl rfl
theorem Hom.s (h : Hom k o φ) (a b : A) : φ (o.sub a b) = k.sub (φ a) (φ b) := h.sub _ _ _ _ rfl rfl
theorem Hom.m (h : Hom k o φ) (a b : A) : φ (o.mul a b) = k.mul (φ a) (φ b) := h.mul _ _ _ _ rfl rfl
theorem evL_add (hk : RgOk k) (h : Hom k o φ) : ∀ l m : List A, evL k φ t (addL o l m) = k.add (evL k φ t l) (evL k φ t m)
  | [], m => by simp only [addL, evL, hk.r1]
  | a :: l, [] => by simp only [addL, evL, hk.r2]
  | a :: l, b :: m => by simp only [addL, evL, h.a, evL_add hk h l m, hk.r3]
theorem evL_neg (hk : RgOk k) (h : Hom k o φ) : ∀ m : List A, evL k φ t (m.map (o.sub o.zero)) = k.sub k.zero (evL k φ t m)
  | [] => by simp only [List.map_nil, evL, hk.r4]
  | a :: l => by simp only [List.map_cons, evL, h.s, h.z, evL_neg hk h l, hk.r5]
theorem evL_sub (hk : RgOk k) (h : Hom k o φ) : ∀ l m : List A, evL k φ t (subL o l m) = k.sub (evL k φ t l) (evL k φ t m)
  | [], m => by simp only [subL, evL_neg hk h, evL]
  | a :: l, [] => by simp only [subL, evL, hk.r6]
  | a :: l, b :: m => by simp only [subL, evL, h.s, evL_sub hk h l m, hk.r7]
theorem evL_scale (hk : RgOk k) (h : Hom k o φ) (a : A) : ∀ m : List A, evL k φ t (m.map (o.mul a)) = k.mul (φ a) (evL k φ t m)
  | [] => by simp only [List.map_nil, evL, hk.r8]
  | b :: l => by simp only [List.map_cons, evL, h.m, evL_scale hk h a l, hk.r9]
theorem evL_mul (hk : RgOk k) (h : Hom k o φ) : ∀ l m : List A, evL k φ t (mulL o l m) = k.mul (evL k φ t l) (evL k φ t m)
  | [], m => by simp only [mulL, evL, hk.r10]
  | a :: l, m => by simp only [mulL, evL, evL_add hk h, evL_scale hk h, h.z, evL_mul hk h l m, hk.r11]
theorem hom_lOps (hk : RgOk k) (h : Hom k o φ) : Hom k (lOps o) (evL k φ t) where
  zero := rfl
  one := by show k.add (φ o.one) (k.mul t k.zero) = k.one; rw [show φ o.one = k.one from h.one, hk.r8, hk.r2]
  add := by rintro a b _ _ rfl rfl; exact evL_add hk h a b
  sub := by rintro a b _ _ rfl rfl; exact evL_sub hk h a b
  mul := by rintro a b _ _ rfl rfl; exact evL_mul hk h a b
theorem hom_yOps (hk : RgOk k) (h : Hom k o φ) {r : A} {y : K} (hy : k.mul y y = φ r) : Hom k (yOps o r) (fun q => k.add (φ q.1) (k.mul (φ q.2) y)) where
  zero := by show k.add (φ o.zero) (k.mul (φ o.zero) y) = k.zero; rw [h.z, hk.r10, hk.r2]
  one := by show k.add (φ o.one) (k.mul (φ o.zero) y) = k.one; rw [h.z, show φ o.one = k.one from h.one, hk.r10, hk.r2]
  add := by rintro a b _ _ rfl rfl; simp only [yOps, h.a, hk.r14]
  sub := by rintro a b _ _ rfl rfl; simp only [yOps, h.s, hk.r15]
  mul := by rintro a b _ _ rfl rfl; simp only [yOps, h.a, h.m, ← hy, hk.r16]
end
section
variable {A : Type} {o : Ops A} {ν : A → Nat} {w : Nat}
structure Nrm (o : Ops A) (ν : A → Nat) : Prop where
  zero : ν o.zero = 0
  one : ν o.one ≤ 1
  add : ∀ a b, ν (o.add a b) ≤ ν a + ν b
  sub : ∀ a b, ν (o.sub a b) ≤ ν a + ν b
  mul : ∀ a b, ν (o.mul a b) ≤ ν a * ν b
def nL (ν : A → Nat) (w : Nat) : List A → Nat
  | [] => 0
  | a :: l => ν a + w * nL ν w l
theorem nL_add (h : Nrm o ν) : ∀ l m : List A, nL ν w (addL o l m) ≤ nL ν w l + nL ν w m
  | [], m => by simp only [addL, nL]; omega
  | a :: l, [] => by simp only [addL, nL]; omega
  | a :: l, b :: m => by
    have h1 := h.add a b
    have h2 := Nat.mul_le_mul_left w (nL_add h l m)
    rw [Nat.mul_add] at h2
    simp only [addL, nL]; omega
theorem nL_neg (h : Nrm o ν) : ∀ m : List A, nL ν w (m.map (o.sub o.zero)) ≤ nL ν w m
  | [] => by simp [nL]
  | a :: l => by
    have h1 := h.sub o.zero a
    rw [h.zero] at h1
    have h2 := Nat.mul_le_mul_left w (nL_neg h l)
    simp only [List.map_cons, nL]; omega
theorem nL_sub (h : Nrm o ν) : ∀ l m : List A, nL ν w (subL o l m) ≤ nL ν w l + nL ν w m
  | [], m => by simp only [subL, nL, Nat.zero_add]; exact nL_neg h m
  | a :: l, [] => by simp only [subL, nL]; omega
  | a :: l, b :: m => by
    have h1 := h.sub a b
    have h2 := Nat.mul_le_mul_left w (nL_sub h l m)
    rw [Nat.mul_add] at h2
    simp only [subL, nL]; omega
theorem nL_scale (h : Nrm o ν) (a : A) : ∀ m : List A, nL ν w (m.map (o.mul a)) ≤ ν a * nL ν w m
  | [] => by simp [nL]
  | b :: l => by
    have h1 := h.mul a b
    have h2 := Nat.mul_le_mul_left w (nL_scale h a l)
    simp only [List.map_cons, nL, Nat.mul_add]
    rw [Nat.mul_left_comm w] at h2
    omega
theorem nL_mul (h : Nrm o ν) : ∀ l m : List A, nL ν w (mulL o l m) ≤ nL ν w l * nL ν w m
  | [], m => by simp [mulL, nL]
  | a :: l, m => by
    have h1 := nL_add (w := w) h (m.map (o.mul a)) (o.zero :: mulL o l m)
    have h2 := nL_scale (w := w) h a m
    have h3 := Nat.mul_le_mul_left w (nL_mul h l m)
    simp only [nL, h.zero, Nat.zero_add] at h1
    simp only [mulL, nL, Nat.add_mul, Nat.mul_assoc]
    omega
theorem nrm_lOps (h : Nrm o ν) : Nrm (lOps o) (nL ν w) where
  zero := rfl
  one := by show ν o.one + w * 0 ≤ 1; have := h.one; omega
  add := nL_add h
  sub := nL_sub h
  mul := nL_mul h
def aOps : Ops Nat := ⟨0, 1, (· + ·), (· + ·), (· * ·)⟩
theorem nrm_rel (h : Nrm o ν) : ORel o aOps (fun a n => ν a ≤ n) where
  zero := by show ν o.zero ≤ 0; rw [h.zero]; exact Nat.le_refl _
  one := h.one
  add := fun a b a' b' h1 h2 => Nat.le_trans (h.add a b) (Nat.add_le_add h1 h2)
  sub := fun a b a' b' h1 h2 => Nat.le_trans (h.sub a b) (Nat.add_le_add h1 h2)
  mul := fun a b a' b' h1 h2 => Nat.le_trans (h.mul a b) (Nat.mul_le_mul h1 h2)
theorem rel_yOps {B : Type} {o' : Ops B} {R : A → B → Prop} (h : ORel o o' R) {r : A} {r' : B} (hr : R r r') : ORel (yOps o r) (yOps o' r') (fun q q' => R q.1 q'.1 ∧ R q.2 q'.2) where
  zero := ⟨h.zero, h.zero⟩
  one := ⟨h.one, h.zero⟩
  add := fun _ _ _ _ h1 h2 => ⟨h.add _ _ _ _ h1.1 h2.1, h.add _ _ _ _ h1.2 h2.2⟩
  sub := fun _ _ _ _ h1 h2 => ⟨h.sub _ _ _ _ h1.1 h2.1, h.sub _ _ _ _ h1.2 h2.2⟩
  mul := fun _ _ _ _ h1 h2 => ⟨h.add _ _ _ _ (h.mul _ _ _ _ h1.1 h2.1) (h.mul _ _ _ _ (h.mul _ _ _ _ h1.2 h2.2) hr), h.add _ _ _ _ (h.mul _ _ _ _ h1.1 h2.2) (h.mul _ _ _ _ h1.2 h2.1)⟩
end
end Go.W
/-
  Identities of polynomials, continued: one run with great numbers tells them all.
-/
namespace Go.W
def oI : Ops Int := ⟨0, 1, (· + ·), (· - ·), (· * ·)⟩
theorem rgI : RgOk oI := by
  constructor <;> simp only [oI] <;> (intros; grind)
def oF (P0 : Nat) [NeZero P0] : Ops (Fin P0) := ⟨0, 1, (· + ·), (· - ·), (· * ·)⟩
theorem rgF (P0 : Nat) [NeZero P0] : RgOk (oF P0) := by
  constructor <;> simp only [oF] <;> (intros; grind)
section
variable {A : Type} {φ : A → Int} {ν : A → Nat}
theorem nL_mem (ν : A → Nat) : ∀ (l : List A) (a : A), a ∈ l → ν a ≤ nL ν 1 l
  | b :: l, a, h => by
    rcases List.mem_cons.1 h with rfl | h
    · simp only [nL]; omega
    · have := nL_mem ν l a h
      simp only [nL]; omega
theorem natAbs_evL (h : ∀ a, (φ a).natAbs ≤ ν a) (N : Nat) : ∀ l : List A, (evL oI φ (N : Int) l).natAbs ≤ nL ν N l
  | [] => Nat.le_refl 0
  | a :: l => by
    have h1 := h a
    have h2 := Nat.mul_le_mul_left N (natAbs_evL h N l)
    have h3 := Int.natAbs_add_le (φ a) ((N : Int) * evL oI φ (N : Int) l)
    have h4 : ((N : Int) * evL oI φ (N : Int) l).natAbs = N * (evL oI φ (N : Int) l).natAbs := by rw [Int.natAbs_mul, Int.natAbs_natCast]
    show (φ a + (N : Int) * evL oI φ (N : Int) l).natAbs ≤ ν a + N * nL ν N l
    omega
theorem stepZ (h : ∀ a, (φ a).natAbs ≤ ν a) {N : Nat} : ∀ (l : List A), nL ν 1 l < N → evL oI φ (N : Int) l = 0 → ∀ a ∈ l, φ a = 0
  | [], _, _, a, ha => by simp at ha
  | b :: l, hn, hz, a, ha => by
    simp only [nL, Nat.one_mul] at hn
    replace hz : φ b + (N : Int) * evL oI φ (N : Int) l = 0 := hz
    have h1 := h b
    have hb : φ b = 0 := by
      have hd : (N : Int) ∣ φ b := ⟨-(evL oI φ (N : Int) l), by rw [Int.mul_neg]; omega⟩
      refine Int.eq_zero_of_dvd_of_natAbs_lt_natAbs hd ?_
      rw [Int.natAbs_natCast]; omega
    rw [hb, Int.zero_add] at hz
    have hl : evL oI φ (N : Int) l = 0 := by
      rcases Int.mul_eq_zero.1 hz with h | h
      · omega
      · exact h
    rcases List.mem_cons.1 ha with rfl | ha
    · exact hb
    · exact stepZ h l (by omega) hl a ha
theorem evL_zero {K : Type} {k : Ops K} (hk : RgOk k) {φ : A → K} {t : K} : ∀ (l : List A), (∀ a ∈ l, φ a = k.zero) → evL k φ t l = k.zero
  | [], _ => rfl
  | a :: l, h => by
    simp only [evL, h a (by simp), evL_zero hk l fun b hb => h b (by simp [hb]), hk.r8, hk.r2]
end
abbrev P1 := List Int
abbrev P2 := List P1
abbrev P3 := List P2
def o1 : Ops P1 := lOps oI
def o2 : Ops P2 := lOps o1
def o3 : Ops P3 := lOps o2
def X1 : P3 := [[[0, 1]]]
def X2 : P3 := [[[], [1]]]
def X3 : P3 := [[], [[1]]]
def idI (z : Int) : Int := z
theorem homI : Hom oI oI idI := ⟨rfl, rfl, by rintro _ _ _ _ rfl rfl; rfl, by rintro _ _ _ _ rfl rfl; rfl, by rintro _ _ _ _ rfl rfl; rfl⟩
theorem fin_ext {P0 : Nat} {a b : Fin P0} (h : (a.val : Int) = (b.val : Int)) : a = b := Fin.ext (by omega)
section
variable {P0 : Nat} [NeZero P0]
def castI (P0 : Nat) [NeZero P0] (z : Int) : Fin P0 := Fin.ofNat P0 (z % (P0 : Int)).toNat
theorem cast_val (z : Int) : ((castI P0 z).val : Int) = z % (P0 : Int) := by
  have hp : 0 < P0 := Nat.pos_of_ne_zero (NeZero.ne P0)
  have h1 : 0 ≤ z % (P0 : Int) := Int.emod_nonneg _ (by omega)
  have h2 : z % (P0 : Int) < P0 := Int.emod_lt_of_pos _ (by omega)
  show (((z % (P0 : Int)).toNat % P0 : Nat) : Int) = _
  rw [Nat.mod_eq_of_lt (by omega)]; omega
theorem cast0 : castI P0 0 = 0 := by
  apply fin_ext; rw [cast_val]
  show (0 : Int) % _ = (((0 : Nat) % P0 : Nat) : Int)
  rw [Nat.zero_mod, Int.zero_emod]; rfl
theorem cast1 : castI P0 1 = 1 := by
  apply fin_ext; rw [cast_val]
  show (1 : Int) % _ = (((1 : Nat) % P0 : Nat) : Int)
  rw [Int.natCast_emod]; rfl
theorem homK : Hom (oF P0) oI (castI P0) where
  zero := cast0
  one := cast1
  add := by
    rintro a b _ _ rfl rfl
    apply fin_ext
    show ((castI P0 (a + b)).val : Int) = ((((castI P0 a).val + (castI P0 b).val) % P0 : Nat) : Int)
    rw [cast_val, Int.natCast_emod, Int.natCast_add, cast_val, cast_val, ← Int.add_emod]
  sub := by
    rintro a b _ _ rfl rfl
    have key : castI P0 (a - b) + castI P0 b = castI P0 a := by
      apply fin_ext
      show ((((castI P0 (a - b)).val + (castI P0 b).val) % P0 : Nat) : Int) = _
      rw [Int.natCast_emod, Int.natCast_add, cast_val, cast_val, cast_val, ← Int.add_emod, Int.sub_add_cancel]
    show castI P0 (a - b) = castI P0 a - castI P0 b
    rw [← key]; grind
  mul := by
    rintro a b _ _ rfl rfl
    apply fin_ext
    show ((castI P0 (a * b)).val : Int) = ((((castI P0 a).val * (castI P0 b).val) % P0 : Nat) : Int)
    rw [cast_val, Int.natCast_emod, Int.natCast_mul, cast_val, cast_val, ← Int.mul_emod]
end
theorem nrmI : Nrm oI Int.natAbs where
  zero := rfl
  one := by decide
  add := Int.natAbs_add_le
  sub := fun a b => by show (a - b).natAbs ≤ _; omega
  mul := fun a b => Nat.le_of_eq (Int.natAbs_mul a b)
def φ3 {K : Type} (k : Ops K) (f : Int → K) (a b c : K) : P3 → K := evL k (evL k (evL k f a) b) c
def ν3 (a b c : Nat) : P3 → Nat := nL (nL (nL Int.natAbs a) b) c
theorem hom3 {K : Type} {k : Ops K} (hk : RgOk k) {f : Int → K} (h : Hom k oI f) (a b c : K) : Hom k o3 (φ3 k f a b c) := hom_lOps hk (hom_lOps hk (hom_lOps hk h))
theorem nrm3 (a b c : Nat) : Nrm o3 (ν3 a b c) := nrm_lOps (nrm_lOps (nrm_lOps nrmI))
theorem zero3 {N1 N2 N3 M : Nat} {p : P3} (h0 : (M : Int) ∣ φ3 oI idI (N1 : Int) (N2 : Int) (N3 : Int) p) (hM : ν3 N1 N2 N3 p < M) (h3 : ν3 N1 N2 1 p < N3) (h2 : ν3 N1 1 1 p < N2) (h1 : ν3 1 1 1 p < N1)
    {P0 : Nat} [NeZero P0] (a b c : Fin P0) : φ3 (oF P0) (castI P0) a b c p = 0 := by
  have q0 : ∀ z : Int, (idI z).natAbs ≤ Int.natAbs z := fun z => Nat.le_refl _
  have q1 : ∀ l : P1, (evL oI idI (N1 : Int) l).natAbs ≤ nL Int.natAbs N1 l := natAbs_evL q0 N1
  have q2 : ∀ l : P2, (evL oI (evL oI idI (N1 : Int)) (N2 : Int) l).natAbs ≤ nL (nL Int.natAbs N1) N2 l := natAbs_evL q1 N2
  have q3 : (φ3 oI idI (N1 : Int) (N2 : Int) (N3 : Int) p).natAbs ≤ ν3 N1 N2 N3 p := natAbs_evL q2 N3 p
  have hz : φ3 oI idI (N1 : Int) (N2 : Int) (N3 : Int) p = 0 := Int.eq_zero_of_dvd_of_natAbs_lt_natAbs h0 (by rw [Int.natAbs_natCast]; omega)
  have z2 := stepZ q2 p h3 hz
  refine evL_zero (rgF P0) p fun q hq => ?_
  have n2 : nL (nL Int.natAbs N1) 1 q < N2 := Nat.lt_of_le_of_lt (nL_mem (nL (nL Int.natAbs N1) 1) p q hq) h2
  have z1 := stepZ q1 q n2 (z2 q hq)
  refine evL_zero (rgF P0) q fun s hs => ?_
  have n1 : nL Int.natAbs 1 s < N1 := Nat.lt_of_le_of_lt (nL_mem (nL Int.natAbs 1) q s hs) (Nat.lt_of_le_of_lt (nL_mem (nL (nL Int.natAbs 1) 1) p q hq) h1)
  have z0 := stepZ q0 s n1 (z1 s hs)
  refine evL_zero (rgF P0) s fun z hz => ?_
  have : z = 0 := z0 z hz
  rw [this]; exact cast0
abbrev T8 (A : Type) := ((A × A) × (A × A)) × ((A × A) × (A × A))
section
variable {A : Type} (o : Ops A)
def seven : A := o.add (o.add (o.add o.one o.one) (o.add o.one o.one)) (o.add (o.add o.one o.one) o.one)
def cub (x : A) : A := o.add (o.mul (o.mul x x) x) (seven o)
def tow (x1 x2 x3 : A) : Ops (T8 A) := yOps (yOps (yOps o (cub o x1)) (cub o x2, o.zero)) ((cub o x3, o.zero), (o.zero, o.zero))
def env8 (x1 x2 x3 : A) : Nat → T8 A
  | 0 => (((x1, o.zero), (o.zero, o.zero)), ((o.zero, o.zero), (o.zero, o.zero)))
  | 1 => (((o.zero, o.one), (o.zero, o.zero)), ((o.zero, o.zero), (o.zero, o.zero)))
  | 2 => (((x2, o.zero), (o.zero, o.zero)), ((o.zero, o.zero), (o.zero, o.zero)))
  | 3 => (((o.zero, o.zero), (o.one, o.zero)), ((o.zero, o.zero), (o.zero, o.zero)))
  | 4 => (((x3, o.zero), (o.zero, o.zero)), ((o.zero, o.zero), (o.zero, o.zero)))
  | _ => (((o.zero, o.zero), (o.zero, o.zero)), ((o.one, o.zero), (o.zero, o.zero)))
end
def all8 {A B : Type} (R : A → B → Prop) (u : T8 A) (v : T8 B) : Prop :=
  ((R u.1.1.1 v.1.1.1 ∧ R u.1.1.2 v.1.1.2) ∧ (R u.1.2.1 v.1.2.1 ∧ R u.1.2.2 v.1.2.2)) ∧ ((R u.2.1.1 v.2.1.1 ∧ R u.2.1.2 v.2.1.2) ∧ (R u.2.2.1 v.2.2.1 ∧ R u.2.2.2 v.2.2.2))
section
variable {A B : Type} {o : Ops A} {o' : Ops B} {R : A → B → Prop}
theorem rel_seven (h : ORel o o' R) : R (seven o) (seven o') := by
  unfold seven
  have h2 := h.add _ _ _ _ h.one h.one
  exact h.add _ _ _ _ (h.add _ _ _ _ h2 h2) (h.add _ _ _ _ h2 h.one)
theorem rel_cub (h : ORel o o' R) {x : A} {x' : B} (hx : R x x') : R (cub o x) (cub o' x') := h.add _ _ _ _ (h.mul _ _ _ _ (h.mul _ _ _ _ hx hx) hx) (rel_seven h)
theorem rel_tow (h : ORel o o' R) {x1 x2 x3 : A} {y1 y2 y3 : B} (h1 : R x1 y1) (h2 : R x2 y2) (h3 : R x3 y3) : ORel (tow o x1 x2 x3) (tow o' y1 y2 y3) (all8 R) :=
  rel_yOps (rel_yOps (rel_yOps h (rel_cub h h1)) ⟨rel_cub h h2, h.zero⟩) ⟨⟨rel_cub h h3, h.zero⟩, ⟨h.zero, h.zero⟩⟩
theorem rel_env (h : ORel o o' R) {x1 x2 x3 : A} {y1 y2 y3 : B} (h1 : R x1 y1) (h2 : R x2 y2) (h3 : R x3 y3) (i : Nat) : all8 R (env8 o x1 x2 x3 i) (env8 o' y1 y2 y3 i) := by
  have z := h.zero
  have e := h.one
  match i with
  | 0 => exact ⟨⟨⟨h1, z⟩, z, z⟩, ⟨z, z⟩, z, z⟩
  | 1 => exact ⟨⟨⟨z, e⟩, z, z⟩, ⟨z, z⟩, z, z⟩
  | 2 => exact ⟨⟨⟨h2, z⟩, z, z⟩, ⟨z, z⟩, z, z⟩
  | 3 => exact ⟨⟨⟨z, z⟩, e, z⟩, ⟨z, z⟩, z, z⟩
  | 4 => exact ⟨⟨⟨h3, z⟩, z, z⟩, ⟨z, z⟩, z, z⟩
  | _ + 5 => exact ⟨⟨⟨z, z⟩, z, z⟩, ⟨e, z⟩, z, z⟩
end
def mOps (M : Nat) : Ops Nat := ⟨0, 1, fun a b => (a + b) % M, fun a b => (a + (M - b % M)) % M, fun a b => a * b % M⟩
def mdR (M : Nat) (f : P3 → Int) (p : P3) (n : Nat) : Prop := (M : Int) ∣ f p - (n : Int)
theorem rel_mod {M : Nat} (hM : 0 < M) {f : P3 → Int} (h : Hom oI o3 f) : ORel o3 (mOps M) (mdR M f) := by
  have red : ∀ (z : Int) (n : Nat), (M : Int) ∣ z - (n : Int) → (M : Int) ∣ z - ((n % M : Nat) : Int) := by
    intro z n hz
    have e : (n : Int) = (M : Int) * ((n / M : Nat) : Int) + ((n % M : Nat) : Int) := by exact_mod_cast (Nat.div_add_mod n M).symm
    obtain ⟨k, hk⟩ := hz
    exact ⟨k + ((n / M : Nat) : Int), by rw [Int.mul_add]; omega⟩
  have Z0 : f o3.zero = 0 := h.z
  have Ad : ∀ a b, f (o3.add a b) = f a + f b := fun a b => h.a a b
  have Sb : ∀ a b, f (o3.sub a b) = f a - f b := fun a b => h.s a b
  have Mu : ∀ a b, f (o3.mul a b) = f a * f b := fun a b => h.m a b
  refine ⟨?_, ?_, ?_, ?_, ?_⟩
  · show (M : Int) ∣ f o3.zero - ((0 : Nat) : Int); rw [Z0]; exact ⟨0, by simp⟩
  · show (M : Int) ∣ f o3.one - ((1 : Nat) : Int); rw [show f o3.one = 1 from h.one]; exact ⟨0, by simp⟩
  · rintro a b m n ⟨k, hk⟩ ⟨l, hl⟩
    refine red _ _ ⟨k + l, ?_⟩
    rw [Ad, Int.mul_add]; omega
  · rintro a b m n ⟨k, hk⟩ ⟨l, hl⟩
    refine red _ _ ?_
    have hlt : n % M < M := Nat.mod_lt _ hM
    have e : (n : Int) = (M : Int) * ((n / M : Nat) : Int) + ((n % M : Nat) : Int) := by exact_mod_cast (Nat.div_add_mod n M).symm
    refine ⟨k - l - ((n / M : Nat) : Int) - 1, ?_⟩
    rw [Sb, Int.mul_sub, Int.mul_sub, Int.mul_sub]; omega
  · rintro a b m n ⟨k, hk⟩ ⟨l, hl⟩
    refine red _ _ ⟨k * f b + (m : Int) * l, ?_⟩
    rw [Mu]
    have e1 : f a = (m : Int) + (M : Int) * k := by omega
    have e2 : f b = (n : Int) + (M : Int) * l := by omega
    rw [e1, e2, Int.natCast_mul]
    grind
def frc {R : Type} (n : Nat) (k : Nat → R) : R :=
  match n with
  | 0 => k 0
  | m + 1 => k (m + 1)
theorem frc_eq {R : Type} (n : Nat) (k : Nat → R) : frc n k = k n := by cases n <;> rfl
def frc8 (u : T8 Nat) : T8 Nat :=
  frc u.1.1.1 fun a => frc u.1.1.2 fun b => frc u.1.2.1 fun c => frc u.1.2.2 fun d => frc u.2.1.1 fun e => frc u.2.1.2 fun f => frc u.2.2.1 fun g => frc u.2.2.2 fun h => (((a, b), (c, d)), ((e, f), (g, h)))
theorem frc8_eq (u : T8 Nat) : frc8 u = u := by simp only [frc8, frc_eq]
def fOps (o : Ops (T8 Nat)) : Ops (T8 Nat) := ⟨o.zero, o.one, fun u v => frc8 (o.add u v), fun u v => frc8 (o.sub u v), fun u v => frc8 (o.mul u v)⟩
theorem fOps_eq (o : Ops (T8 Nat)) : fOps o = o := by unfold fOps; simp only [frc8_eq]
def lt8 (N : Nat) (u : T8 Nat) : Bool := Nat.blt u.1.1.1 N && Nat.blt u.1.1.2 N && Nat.blt u.1.2.1 N && Nat.blt u.1.2.2 N && Nat.blt u.2.1.1 N && Nat.blt u.2.1.2 N && Nat.blt u.2.2.1 N && Nat.blt u.2.2.2 N
def absOk (a b c N : Nat) (e : PE) : Bool := lt8 N (e.ev (fOps (tow aOps a b c)) (env8 aOps a b c))
def modOk (a b c M : Nat) (e : PE) : Bool := lt8 1 (e.ev (fOps (tow (mOps M) a b c)) (env8 (mOps M) a b c))
def chkP (N1 N2 N3 M : Nat) (e : PE) : Bool := absOk 1 1 1 N1 e && absOk N1 1 1 N2 e && absOk N1 N2 1 N3 e && absOk N1 N2 N3 M e && modOk N1 N2 N3 M e
theorem lt8_iff {N : Nat} {u : T8 Nat} (h : lt8 N u = true) : ((u.1.1.1 < N ∧ u.1.1.2 < N) ∧ (u.1.2.1 < N ∧ u.1.2.2 < N)) ∧ ((u.2.1.1 < N ∧ u.2.1.2 < N) ∧ (u.2.2.1 < N ∧ u.2.2.2 < N)) := by
  simp only [lt8, Bool.and_eq_true, Nat.blt_eq] at h
  obtain ⟨⟨⟨⟨⟨⟨⟨h0, h1⟩, h2⟩, h3⟩, h4⟩, h5⟩, h6⟩, h7⟩ := h
  exact ⟨⟨⟨h0, h1⟩, h2, h3⟩, ⟨h4, h5⟩, h6, h7⟩
def PE.p8 (e : PE) : T8 P3 := e.ev (tow o3 X1 X2 X3) (env8 o3 X1 X2 X3)
theorem abs_le (a b c N : Nat) (e : PE) (h : absOk a b c N e = true) : all8 (fun (p : P3) (_ : Nat) => ν3 a b c p < N) e.p8 (((0, 0), (0, 0)), ((0, 0), (0, 0))) := by
  unfold absOk at h
  rw [fOps_eq] at h
  have hr := nrm_rel (nrm3 a b c)
  have x1 : ν3 a b c X1 ≤ a := by simp [ν3, X1, nL]
  have x2 : ν3 a b c X2 ≤ b := by simp [ν3, X2, nL]
  have x3 : ν3 a b c X3 ≤ c := by simp [ν3, X3, nL]
  have key := PE.rel (rel_tow hr x1 x2 x3) (rel_env hr x1 x2 x3) e
  obtain ⟨⟨⟨k0, k1⟩, k2, k3⟩, ⟨k4, k5⟩, k6, k7⟩ := key
  obtain ⟨⟨⟨l0, l1⟩, l2, l3⟩, ⟨l4, l5⟩, l6, l7⟩ := lt8_iff h
  exact ⟨⟨⟨Nat.lt_of_le_of_lt k0 l0, Nat.lt_of_le_of_lt k1 l1⟩, Nat.lt_of_le_of_lt k2 l2, Nat.lt_of_le_of_lt k3 l3⟩, ⟨Nat.lt_of_le_of_lt k4 l4, Nat.lt_of_le_of_lt k5 l5⟩, Nat.lt_of_le_of_lt k6 l6, Nat.lt_of_le_of_lt k7 l7⟩
theorem mod_zero (a b c M : Nat) (hM : 0 < M) (e : PE) (h : modOk a b c M e = true) : all8 (fun (p : P3) (_ : Nat) => (M : Int) ∣ φ3 oI idI (a : Int) (b : Int) (c : Int) p) e.p8 (((0, 0), (0, 0)), ((0, 0), (0, 0))) := by
  unfold modOk at h
  rw [fOps_eq] at h
  have hr := rel_mod hM (hom3 rgI homI (a : Int) (b : Int) (c : Int))
  have x1 : mdR M (φ3 oI idI (a : Int) (b : Int) (c : Int)) X1 a := ⟨0, by simp [φ3, X1, evL, idI, oI]⟩
  have x2 : mdR M (φ3 oI idI (a : Int) (b : Int) (c : Int)) X2 b := ⟨0, by simp [φ3, X2, evL, idI, oI]⟩
  have x3 : mdR M (φ3 oI idI (a : Int) (b : Int) (c : Int)) X3 c := ⟨0, by simp [φ3, X3, evL, idI, oI]⟩
  have key := PE.rel (rel_tow hr x1 x2 x3) (rel_env hr x1 x2 x3) e
  have z : ∀ (p : P3) (n : Nat), mdR M (φ3 oI idI (a : Int) (b : Int) (c : Int)) p n → n < 1 → (M : Int) ∣ φ3 oI idI (a : Int) (b : Int) (c : Int) p := by
    intro p n hp hn
    have : n = 0 := by omega
    subst this
    obtain ⟨k, hk⟩ := hp
    exact ⟨k, by omega⟩
  obtain ⟨⟨⟨k0, k1⟩, k2, k3⟩, ⟨k4, k5⟩, k6, k7⟩ := key
  obtain ⟨⟨⟨l0, l1⟩, l2, l3⟩, ⟨l4, l5⟩, l6, l7⟩ := lt8_iff h
  exact ⟨⟨⟨z _ _ k0 l0, z _ _ k1 l1⟩, z _ _ k2 l2, z _ _ k3 l3⟩, ⟨z _ _ k4 l4, z _ _ k5 l5⟩, z _ _ k6 l6, z _ _ k7 l7⟩
section
variable {P0 : Nat} [NeZero P0]
def envK (x1 y1 x2 y2 x3 y3 : Fin P0) : Nat → Fin P0
  | 0 => x1
  | 1 => y1
  | 2 => x2
  | 3 => y2
  | 4 => x3
  | _ => y3
theorem e8a (a y1 y2 y3 : Fin P0) : ((a + 0 * y1) + (0 + 0 * y1) * y2) + ((0 + 0 * y1) + (0 + 0 * y1) * y2) * y3 = a := by grind
theorem e8b (y1 y2 y3 : Fin P0) : ((0 + 1 * y1) + (0 + 0 * y1) * y2) + ((0 + 0 * y1) + (0 + 0 * y1) * y2) * y3 = y1 := by grind
theorem e8c (y1 y2 y3 : Fin P0) : ((0 + 0 * y1) + (1 + 0 * y1) * y2) + ((0 + 0 * y1) + (0 + 0 * y1) * y2) * y3 = y2 := by grind
theorem e8d (y1 y2 y3 : Fin P0) : ((0 + 0 * y1) + (0 + 0 * y1) * y2) + ((1 + 0 * y1) + (0 + 0 * y1) * y2) * y3 = y3 := by grind
theorem e8s (x1 x2 x3 : Fin P0) : φ3 (oF P0) (castI P0) x1 x2 x3 (seven o3) = 7 := by
  have := rel_seven (hom3 (rgF P0) (homK (P0 := P0)) x1 x2 x3)
  rw [this]; simp only [seven, oF]; grind
theorem e8x (x1 x2 x3 : Fin P0) : φ3 (oF P0) (castI P0) x1 x2 x3 X1 = x1 := by simp only [φ3, X1, evL, cast0, cast1, oF]; grind
theorem e8y (x1 x2 x3 : Fin P0) : φ3 (oF P0) (castI P0) x1 x2 x3 X2 = x2 := by simp only [φ3, X2, evL, cast1, oF]; grind
theorem e8z (x1 x2 x3 : Fin P0) : φ3 (oF P0) (castI P0) x1 x2 x3 X3 = x3 := by simp only [φ3, X3, evL, cast1, oF]; grind
theorem e8r (a y : Fin P0) : a + 0 * y = a := by grind
theorem poly_zero {N1 N2 N3 M : Nat} {e : PE} (hM : 0 < M) (h : chkP N1 N2 N3 M e = true) {x1 y1 x2 y2 x3 y3 : Fin P0} (h1 : y1 * y1 = x1 * x1 * x1 + 7) (h2 : y2 * y2 = x2 * x2 * x2 + 7) (h3 : y3 * y3 = x3 * x3 * x3 + 7) :
    e.ev (oF P0) (envK x1 y1 x2 y2 x3 y3) = 0 := by
  simp only [chkP, Bool.and_eq_true] at h
  obtain ⟨⟨⟨⟨a1, a2⟩, a3⟩, a4⟩, a5⟩ := h
  have b1 := abs_le _ _ _ _ e a1
  have b2 := abs_le _ _ _ _ e a2
  have b3 := abs_le _ _ _ _ e a3
  have b4 := abs_le _ _ _ _ e a4
  have b5 := mod_zero _ _ _ _ hM e a5
  have z : ∀ p : P3, ((M : Int) ∣ φ3 oI idI (N1 : Int) (N2 : Int) (N3 : Int) p) → ν3 N1 N2 N3 p < M → ν3 N1 N2 1 p < N3 → ν3 N1 1 1 p < N2 → ν3 1 1 1 p < N1 → φ3 (oF P0) (castI P0) x1 x2 x3 p = 0 :=
    fun p q0 q1 q2 q3 q4 => zero3 q0 q1 q2 q3 q4 x1 x2 x3
  have hφ := hom3 (rgF P0) (homK (P0 := P0)) x1 x2 x3
  have s7 := e8s x1 x2 x3
  have c1 := e8x x1 x2 x3
  have c2 := e8y x1 x2 x3
  have c3 := e8z x1 x2 x3
  generalize φ3 (oF P0) (castI P0) x1 x2 x3 = φ at hφ s7 c1 c2 c3 z
  have hz : φ o3.zero = 0 := hφ.z
  have ho : φ o3.one = 1 := hφ.one
  have cu : ∀ (X : P3) (x : Fin P0), φ X = x → φ (cub o3 X) = x * x * x + 7 := by
    intro X x hx
    have e : φ (cub o3 X) = φ X * φ X * φ X + φ (seven o3) := by unfold cub; rw [hφ.a, hφ.m, hφ.m]; rfl
    rw [e, hx, s7]
  have H1 := hom_yOps (rgF P0) hφ (r := cub o3 X1) (y := y1) (by rw [cu _ _ c1]; exact h1)
  have H2 := hom_yOps (rgF P0) H1 (r := (cub o3 X2, o3.zero)) (y := y2) (by
    show y2 * y2 = φ (cub o3 X2) + φ o3.zero * y1
    rw [cu _ _ c2, hz, e8r, h2])
  have H3 := hom_yOps (rgF P0) H2 (r := ((cub o3 X3, o3.zero), (o3.zero, o3.zero))) (y := y3) (by
    show y3 * y3 = (φ (cub o3 X3) + φ o3.zero * y1) + (φ o3.zero + φ o3.zero * y1) * y2
    rw [cu _ _ c3, hz, e8r, e8r, e8r, h3])
  have key := PE.rel H3 (env := env8 o3 X1 X2 X3) (env' := envK x1 y1 x2 y2 x3 y3) (by
    intro i
    match i with
    | 0 =>
      show ((φ X1 + φ o3.zero * y1) + (φ o3.zero + φ o3.zero * y1) * y2) + ((φ o3.zero + φ o3.zero * y1) + (φ o3.zero + φ o3.zero * y1) * y2) * y3 = x1
      rw [hz, c1]; exact e8a _ _ _ _
    | 1 =>
      show ((φ o3.zero + φ o3.one * y1) + (φ o3.zero + φ o3.zero * y1) * y2) + ((φ o3.zero + φ o3.zero * y1) + (φ o3.zero + φ o3.zero * y1) * y2) * y3 = y1
      rw [hz, ho]; exact e8b _ _ _
    | 2 =>
      show ((φ X2 + φ o3.zero * y1) + (φ o3.zero + φ o3.zero * y1) * y2) + ((φ o3.zero + φ o3.zero * y1) + (φ o3.zero + φ o3.zero * y1) * y2) * y3 = x2
      rw [hz, c2]; exact e8a _ _ _ _
    | 3 =>
      show ((φ o3.zero + φ o3.zero * y1) + (φ o3.one + φ o3.zero * y1) * y2) + ((φ o3.zero + φ o3.zero * y1) + (φ o3.zero + φ o3.zero * y1) * y2) * y3 = y2
      rw [hz, ho]; exact e8c _ _ _
    | 4 =>
      show ((φ X3 + φ o3.zero * y1) + (φ o3.zero + φ o3.zero * y1) * y2) + ((φ o3.zero + φ o3.zero * y1) + (φ o3.zero + φ o3.zero * y1) * y2) * y3 = x3
      rw [hz, c3]; exact e8a _ _ _ _
    | _ + 5 =>
      show ((φ o3.zero + φ o3.zero * y1) + (φ o3.zero + φ o3.zero * y1) * y2) + ((φ o3.one + φ o3.zero * y1) + (φ o3.zero + φ o3.zero * y1) * y2) * y3 = y3
      rw [hz, ho]; exact e8d _ _ _) e
  rw [← key]
  show ((φ e.p8.1.1.1 + φ e.p8.1.1.2 * y1) + (φ e.p8.1.2.1 + φ e.p8.1.2.2 * y1) * y2) + ((φ e.p8.2.1.1 + φ e.p8.2.1.2 * y1) + (φ e.p8.2.2.1 + φ e.p8.2.2.2 * y1) * y2) * y3 = 0
  rw [z _ b5.1.1.1 b4.1.1.1 b3.1.1.1 b2.1.1.1 b1.1.1.1, z _ b5.1.1.2 b4.1.1.2 b3.1.1.2 b2.1.1.2 b1.1.1.2, z _ b5.1.2.1 b4.1.2.1 b3.1.2.1 b2.1.2.1 b1.1.2.1, z _ b5.1.2.2 b4.1.2.2 b3.1.2.2 b2.1.2.2 b1.1.2.2,
    z _ b5.2.1.1 b4.2.1.1 b3.2.1.1 b2.2.1.1 b1.2.1.1, z _ b5.2.1.2 b4.2.1.2 b3.2.1.2 b2.2.1.2 b1.2.1.2, z _ b5.2.2.1 b4.2.2.1 b3.2.2.1 b2.2.2.1 b1.2.2.1, z _ b5.2.2.2 b4.2.2.2 b3.2.2.2 b2.2.2.2 b1.2.2.2]
  exact e8a 0 _ _ _
end
end Go.W
/-
  Sums of points by formulas without cases: whose order does not matter.
-/
namespace Go.W
section
variable {P0 : Nat} [NeZero P0]
def fX (X1 Y1 Z1 X2 Y2 Z2 : (Fin P0)) : (Fin P0) := (X1 * Y2 + X2 * Y1) * (Y1 * Y2 - 21 * (Z1 * Z2)) - 21 * (Y1 * Z2 + Y2 * Z1) * (X1 * Z2 + X2 * Z1)
def fY (X1 Y1 Z1 X2 Y2 Z2 : (Fin P0)) : (Fin P0) := (Y1 * Y2 + 21 * (Z1 * Z2)) * (Y1 * Y2 - 21 * (Z1 * Z2)) + 63 * (X1 * X2) * (X1 * Z2 + X2 * Z1)
def fZ (X1 Y1 Z1 X2 Y2 Z2 : (Fin P0)) : (Fin P0) := (Y1 * Z2 + Y2 * Z1) * (Y1 * Y2 + 21 * (Z1 * Z2)) + 3 * (X1 * X2) * (X1 * Y2 + X2 * Y1)
end
def e3 : PE := .add (.add .one .one) .one
def e7 : PE := .add (.add (.add .one .one) (.add .one .one)) e3
def e21 : PE := .mul e3 e7
def e63 : PE := .mul e3 e21
def eX (X1 Y1 Z1 X2 Y2 Z2 : PE) : PE := .sub (.mul (.add (.mul X1 Y2) (.mul X2 Y1)) (.sub (.mul Y1 Y2) (.mul e21 (.mul Z1 Z2)))) (.mul (.mul e21 (.add (.mul Y1 Z2) (.mul Y2 Z1))) (.add (.mul X1 Z2) (.mul X2 Z1)))
def eY (X1 Y1 Z1 X2 Y2 Z2 : PE) : PE := .add (.mul (.add (.mul Y1 Y2) (.mul e21 (.mul Z1 Z2))) (.sub (.mul Y1 Y2) (.mul e21 (.mul Z1 Z2)))) (.mul (.mul e63 (.mul X1 X2)) (.add (.mul X1 Z2) (.mul X2 Z1)))
def eZ (X1 Y1 Z1 X2 Y2 Z2 : PE) : PE := .add (.mul (.add (.mul Y1 Z2) (.mul Y2 Z1)) (.add (.mul Y1 Y2) (.mul e21 (.mul Z1 Z2)))) (.mul (.mul e3 (.mul X1 X2)) (.add (.mul X1 Y2) (.mul X2 Y1)))
def ePQ (f : PE → PE → PE → PE → PE → PE → PE) : PE := f (.v 0) (.v 1) .one (.v 2) (.v 3) .one
def eQR (f : PE → PE → PE → PE → PE → PE → PE) : PE := f (.v 2) (.v 3) .one (.v 4) (.v 5) .one
def eL (f : PE → PE → PE → PE → PE → PE → PE) : PE := f (ePQ eX) (ePQ eY) (ePQ eZ) (.v 4) (.v 5) .one
def eR (f : PE → PE → PE → PE → PE → PE → PE) : PE := f (.v 0) (.v 1) .one (eQR eX) (eQR eY) (eQR eZ)
def asX : PE := .sub (.mul (eL eX) (eR eZ)) (.mul (eL eZ) (eR eX))
def asY : PE := .sub (.mul (eL eY) (eR eZ)) (.mul (eL eZ) (eR eY))
theorem asX_chk : chkP (2 ^ 49) (2 ^ 472) (2 ^ 6114) (2 ^ 61036) asX = true := by kernel_rfl
theorem asY_chk : chkP (2 ^ 49) (2 ^ 472) (2 ^ 6114) (2 ^ 61036) asY = true := by kernel_rfl
section
variable {P0 : Nat} [NeZero P0]
theorem e3_ev (env : Nat → (Fin P0)) : e3.ev (oF P0) env = 3 := by simp only [e3, PE.ev, oF]; grind
theorem e7_ev (env : Nat → (Fin P0)) : e7.ev (oF P0) env = 7 := by simp only [e7, e3, PE.ev, oF]; grind
theorem e21_ev (env : Nat → (Fin P0)) : e21.ev (oF P0) env = 21 := by
  show e3.ev (oF P0) env * e7.ev (oF P0) env = 21
  rw [e3_ev, e7_ev]; grind
theorem e63_ev (env : Nat → (Fin P0)) : e63.ev (oF P0) env = 63 := by
  show e3.ev (oF P0) env * e21.ev (oF P0) env = 63
  rw [e3_ev, e21_ev]; grind
theorem eX_ev (env : Nat → (Fin P0)) (a b c d e f : PE) : (eX a b c d e f).ev (oF P0) env = fX (a.ev (oF P0) env) (b.ev (oF P0) env) (c.ev (oF P0) env) (d.ev (oF P0) env) (e.ev (oF P0) env) (f.ev (oF P0) env) := by
  unfold fX
  rw [← e21_ev env]; rfl
theorem eY_ev (env : Nat → (Fin P0)) (a b c d e f : PE) : (eY a b c d e f).ev (oF P0) env = fY (a.ev (oF P0) env) (b.ev (oF P0) env) (c.ev (oF P0) env) (d.ev (oF P0) env) (e.ev (oF P0) env) (f.ev (oF P0) env) := by
  unfold fY
  rw [← e21_ev env, ← e63_ev env]; rfl
theorem eZ_ev (env : Nat → (Fin P0)) (a b c d e f : PE) : (eZ a b c d e f).ev (oF P0) env = fZ (a.ev (oF P0) env) (b.ev (oF P0) env) (c.ev (oF P0) env) (d.ev (oF P0) env) (e.ev (oF P0) env) (f.ev (oF P0) env) := by
  unfold fZ
  rw [← e21_ev env, ← e3_ev env]; rfl
theorem assocX {x1 y1 x2 y2 x3 y3 : (Fin P0)} (h1 : y1 * y1 = x1 * x1 * x1 + 7) (h2 : y2 * y2 = x2 * x2 * x2 + 7) (h3 : y3 * y3 = x3 * x3 * x3 + 7) :
    fX (fX x1 y1 1 x2 y2 1) (fY x1 y1 1 x2 y2 1) (fZ x1 y1 1 x2 y2 1) x3 y3 1 * fZ x1 y1 1 (fX x2 y2 1 x3 y3 1) (fY x2 y2 1 x3 y3 1) (fZ x2 y2 1 x3 y3 1) =
    fZ (fX x1 y1 1 x2 y2 1) (fY x1 y1 1 x2 y2 1) (fZ x1 y1 1 x2 y2 1) x3 y3 1 * fX x1 y1 1 (fX x2 y2 1 x3 y3 1) (fY x2 y2 1 x3 y3 1) (fZ x2 y2 1 x3 y3 1) := by
  have h := poly_zero (Nat.two_pow_pos _) asX_chk h1 h2 h3
  have e : asX.ev (oF P0) (envK x1 y1 x2 y2 x3 y3) = (eL eX).ev (oF P0) (envK x1 y1 x2 y2 x3 y3) * (eR eZ).ev (oF P0) (envK x1 y1 x2 y2 x3 y3) - (eL eZ).ev (oF P0) (envK x1 y1 x2 y2 x3 y3) * (eR eX).ev (oF P0) (envK x1 y1 x2 y2 x3 y3) := rfl
  rw [e] at h
  simp only [eL, eR, ePQ, eQR, eX_ev, eY_ev, eZ_ev, PE.ev, envK] at h
  have o : (oF P0).one = 1 := rfl
  rw [o] at h
  generalize fX (fX x1 y1 1 x2 y2 1) (fY x1 y1 1 x2 y2 1) (fZ x1 y1 1 x2 y2 1) x3 y3 1 = A at *
  generalize fZ (fX x1 y1 1 x2 y2 1) (fY x1 y1 1 x2 y2 1) (fZ x1 y1 1 x2 y2 1) x3 y3 1 = B at *
  generalize fX x1 y1 1 (fX x2 y2 1 x3 y3 1) (fY x2 y2 1 x3 y3 1) (fZ x2 y2 1 x3 y3 1) = C at *
  generalize fZ x1 y1 1 (fX x2 y2 1 x3 y3 1) (fY x2 y2 1 x3 y3 1) (fZ x2 y2 1 x3 y3 1) = D at *
  grind
theorem assocY {x1 y1 x2 y2 x3 y3 : (Fin P0)} (h1 : y1 * y1 = x1 * x1 * x1 + 7) (h2 : y2 * y2 = x2 * x2 * x2 + 7) (h3 : y3 * y3 = x3 * x3 * x3 + 7) :
    fY (fX x1 y1 1 x2 y2 1) (fY x1 y1 1 x2 y2 1) (fZ x1 y1 1 x2 y2 1) x3 y3 1 * fZ x1 y1 1 (fX x2 y2 1 x3 y3 1) (fY x2 y2 1 x3 y3 1) (fZ x2 y2 1 x3 y3 1) =
    fZ (fX x1 y1 1 x2 y2 1) (fY x1 y1 1 x2 y2 1) (fZ x1 y1 1 x2 y2 1) x3 y3 1 * fY x1 y1 1 (fX x2 y2 1 x3 y3 1) (fY x2 y2 1 x3 y3 1) (fZ x2 y2 1 x3 y3 1) := by
  have h := poly_zero (Nat.two_pow_pos _) asY_chk h1 h2 h3
  have e : asY.ev (oF P0) (envK x1 y1 x2 y2 x3 y3) = (eL eY).ev (oF P0) (envK x1 y1 x2 y2 x3 y3) * (eR eZ).ev (oF P0) (envK x1 y1 x2 y2 x3 y3) - (eL eZ).ev (oF P0) (envK x1 y1 x2 y2 x3 y3) * (eR eY).ev (oF P0) (envK x1 y1 x2 y2 x3 y3) := rfl
  rw [e] at h
  simp only [eL, eR, ePQ, eQR, eX_ev, eY_ev, eZ_ev, PE.ev, envK] at h
  have o : (oF P0).one = 1 := rfl
  rw [o] at h
  generalize fY (fX x1 y1 1 x2 y2 1) (fY x1 y1 1 x2 y2 1) (fZ x1 y1 1 x2 y2 1) x3 y3 1 = A at *
  generalize fZ (fX x1 y1 1 x2 y2 1) (fY x1 y1 1 x2 y2 1) (fZ x1 y1 1 x2 y2 1) x3 y3 1 = B at *
  generalize fY x1 y1 1 (fX x2 y2 1 x3 y3 1) (fY x2 y2 1 x3 y3 1) (fZ x2 y2 1 x3 y3 1) = C at *
  generalize fZ x1 y1 1 (fX x2 y2 1 x3 y3 1) (fY x2 y2 1 x3 y3 1) (fZ x2 y2 1 x3 y3 1) = D at *
  grind
end
end Go.W
/-
  The points of y y = x x x + 7 over a field without points of order two: sums by chord and tangent; they are a group.
-/
namespace Go.W
section
variable {P0 : Nat} [NeZero P0]
theorem g1 {a b c x : (Fin P0)} (h : a - b - c = x) : a = x + b + c := by grind
theorem g2 (k x1 y1 x3 : (Fin P0)) : (k * (x1 - x3) - y1) * (k * (x1 - x3) - y1) = (k * k) * ((x3 - x1) * (x3 - x1)) + (2 * k * y1) * (x3 - x1) + y1 * y1 := by grind
theorem g3 {a b c : (Fin P0)} (h : a - b - c = 0) : c = a - b := by grind
theorem g4 (x1 x2 x3 : (Fin P0)) : (x3 + x1 + x2) * ((x3 - x1) * (x3 - x1)) + (x1 * x1 + x1 * x2 + x2 * x2 - (x3 + x1 + x2) * (x2 - x1)) * (x3 - x1) + (x1 * x1 * x1 + 7) = x3 * x3 * x3 + 7 := by grind
theorem g5 {a b c : (Fin P0)} (h1 : a * a = c) (h2 : b * b = c) : (a + b) * (a - b) = 0 := by grind
theorem g6 {a b : (Fin P0)} (h : a - b = 0) : a = b := by grind
theorem g6' {a b : (Fin P0)} (h : a = b) : a - b = 0 := by grind
theorem g7 (x1 y1 x2 k : (Fin P0)) : (x2 - x1) * (x1 * x1 + x1 * x2 + x2 * x2 - k * k * (x2 - x1) - 2 * k * y1) = (x2 * x2 * x2 + 7) - (x1 * x1 * x1 + 7) - (k * (x2 - x1)) * (k * (x2 - x1) + 2 * y1) := by grind
theorem g8 (y1 y2 : (Fin P0)) : y2 * y2 - y1 * y1 - (y2 - y1) * (y2 - y1 + 2 * y1) = 0 := by grind
theorem g9 (a i d : (Fin P0)) : a * i * d = a * (d * i) := by grind
theorem g10 (a : (Fin P0)) : a * 1 = a := by grind
theorem g11 (y : (Fin P0)) : (0 - y) * (0 - y) = y * y := by grind
theorem g12 (k d x1 x2 y1 : (Fin P0)) : (k * d) * ((x1 + x1 + x2) * (d * d) - (k * d) * (k * d)) - y1 * (d * d * d) = d * (d * (d * (k * (x1 - (k * k - x1 - x2)) - y1))) := by grind
theorem g13 (C k d x1 x2 : (Fin P0)) : C * ((k * d) * (k * d) - (x1 + x2) * (d * d)) = d * d * (C * (k * k - x1 - x2)) := by grind
theorem g14 (C k d x1 x2 y1 : (Fin P0)) : C * ((k * d) * ((x1 + x1 + x2) * (d * d) - (k * d) * (k * d)) - y1 * (d * d * d)) = d * d * d * (C * (k * (x1 - (k * k - x1 - x2)) - y1)) := by grind
theorem g15 (k d x : (Fin P0)) : d * ((k * d) * (k * d) - (x + x) * (d * d)) = d * (d * d) * (k * k - x - x) := by grind
theorem g16 (k d x y : (Fin P0)) : (k * d) * ((x + x + x) * (d * d) - (k * d) * (k * d)) - y * (d * (d * d)) = d * (d * d) * (k * (x - (k * k - x - x)) - y) := by grind
theorem g17 (a : (Fin P0)) : a = a * 1 := by grind
theorem g18 {a b : (Fin P0)} (h : a + b = 0) : b = 0 - a := by grind
theorem g19 (a b c : (Fin P0)) : a * a * (b * c) = a * a * b * c := by grind
theorem g20 (y : (Fin P0)) : y + (0 - y) = 0 := by grind
theorem g21 {c d x1 x2 : (Fin P0)} (h : c * x1 * (d * 1) = c * 1 * (d * x2)) : c * d * x1 = c * d * x2 := by grind
theorem g22 {c d y : (Fin P0)} (h : c * 1 * (d * 1) = c * 0 * (d * y)) : c * d = 0 := by grind
theorem g23 {c d y : (Fin P0)} (h : c * y * (d * 0) = c * 1 * (d * 1)) : c * d = 0 := by grind
theorem g24 {a b c : (Fin P0)} (h : a * b = a * c) : a * (b - c) = 0 := by grind
theorem g25 {x y k : (Fin P0)} (hk : k * (2 * y) = 3 * (x * x)) : x * x + x * x + x * x - k * k * (x - x) - 2 * k * y = 0 := by grind
theorem g26 (a i b : (Fin P0)) (h : a * i = 1) : b = i * (a * b) := by grind
theorem g27 (a : (Fin P0)) : a * 0 = 0 := by grind
theorem g28 (a b c d : (Fin P0)) : a * (b * (c * d)) = a * (b * c) * d := by grind
theorem g29 (a : (Fin P0)) : 1 * a = a := by grind
theorem g30 (a b : (Fin P0)) : a * b = b * a := by grind
end
structure Fld (P0 : Nat) [NeZero P0] (inv : Fin P0 → Fin P0) : Prop where
  inv : ∀ a : (Fin P0), a ≠ 0 → a * inv a = 1
  one : (1 : (Fin P0)) ≠ 0
  two : (2 : (Fin P0)) ≠ 0
  tor : ∀ x y : (Fin P0), y * y = x * x * x + 7 → y ≠ 0
inductive Pt (KK : Type) where
  | inf
  | aff (x y : KK)
  deriving DecidableEq
section
variable {P0 : Nat} [NeZero P0]
theorem gz {x1 y1 x2 y2 : (Fin P0)} (h1 : y1 * y1 = x1 * x1 * x1 + 7) (h2 : y2 * y2 = x2 * x2 * x2 + 7) :
    fZ x1 y1 1 x2 y2 1 = (0 - y2 - y1) * ((x1 + x1 + x2) * ((x2 - x1) * (x2 - x1)) - (0 - y2 - y1) * (0 - y2 - y1)) - y1 * ((x2 - x1) * (x2 - x1) * (x2 - x1)) := by unfold fZ; grind
theorem gxx {x1 y1 x2 y2 : (Fin P0)} (h1 : y1 * y1 = x1 * x1 * x1 + 7) (h2 : y2 * y2 = x2 * x2 * x2 + 7) :
    (x2 - x1) * (x2 - x1) * fX x1 y1 1 x2 y2 1 = fZ x1 y1 1 x2 y2 1 * ((y2 - y1) * (y2 - y1) - (x1 + x2) * ((x2 - x1) * (x2 - x1))) := by unfold fX fZ; grind
theorem gyy {x1 y1 x2 y2 : (Fin P0)} (h1 : y1 * y1 = x1 * x1 * x1 + 7) (h2 : y2 * y2 = x2 * x2 * x2 + 7) :
    (x2 - x1) * (x2 - x1) * (x2 - x1) * fY x1 y1 1 x2 y2 1 = fZ x1 y1 1 x2 y2 1 * ((y2 - y1) * ((x1 + x1 + x2) * ((x2 - x1) * (x2 - x1)) - (y2 - y1) * (y2 - y1)) - y1 * ((x2 - x1) * (x2 - x1) * (x2 - x1))) := by unfold fY fZ; grind
theorem gtz {x y : (Fin P0)} (h1 : y * y = x * x * x + 7) : fZ x y 1 x y 1 = (2 * y) * ((2 * y) * (2 * y)) := by unfold fZ; grind
theorem gtx {x y : (Fin P0)} (h1 : y * y = x * x * x + 7) : fX x y 1 x y 1 = (2 * y) * ((3 * (x * x)) * (3 * (x * x)) - (x + x) * ((2 * y) * (2 * y))) := by unfold fX; grind
theorem gty {x y : (Fin P0)} (h1 : y * y = x * x * x + 7) : fY x y 1 x y 1 = (3 * (x * x)) * ((x + x + x) * ((2 * y) * (2 * y)) - (3 * (x * x)) * (3 * (x * x))) - y * ((2 * y) * ((2 * y) * (2 * y))) := by unfold fY; grind
theorem gox (x y : (Fin P0)) : fX x y 1 x (0 - y) 1 = 0 := by unfold fX; grind
theorem goz (x y : (Fin P0)) : fZ x y 1 x (0 - y) 1 = 0 := by unfold fZ; grind
theorem goy {x y : (Fin P0)} (h1 : y * y = x * x * x + 7) : fY x y 1 x (0 - y) 1 = (3 * (x * x)) * ((x + x + x) * ((2 * y) * (2 * y)) - (3 * (x * x)) * (3 * (x * x))) - y * ((2 * y) * (2 * y) * (2 * y)) := by unfold fY; grind
end
section
variable {P0 : Nat} [NeZero P0] {inv : Fin P0 → Fin P0}
theorem Fld.dom (F : Fld P0 inv) {a b : (Fin P0)} (h : a * b = 0) : a = 0 ∨ b = 0 := by
  by_cases ha : a = 0
  · exact .inl ha
  · right
    have h1 := F.inv a ha
    rw [g26 a (inv a) b h1, h, g27]
theorem Fld.mul_ne (F : Fld P0 inv) {a b : (Fin P0)} (ha : a ≠ 0) (hb : b ≠ 0) : a * b ≠ 0 := fun h => (F.dom h).elim ha hb
theorem Fld.cancel (F : Fld P0 inv) {a b c : (Fin P0)} (ha : a ≠ 0) (h : a * b = a * c) : b = c := by
  rcases F.dom (g24 h) with h1 | h1
  · exact absurd h1 ha
  · exact g6 h1
def On : Pt (Fin P0) → Prop
  | .inf => True
  | .aff x y => y * y = x * x * x + 7
def negP : Pt (Fin P0) → Pt (Fin P0)
  | .inf => .inf
  | .aff x y => .aff x (0 - y)
def line (k x1 y1 x2 : (Fin P0)) : Pt (Fin P0) := .aff (k * k - x1 - x2) (k * (x1 - (k * k - x1 - x2)) - y1)
theorem line_on {k x1 y1 x2 : (Fin P0)} (h1 : y1 * y1 = x1 * x1 * x1 + 7) (hE : x1 * x1 + x1 * x2 + x2 * x2 - k * k * (x2 - x1) - 2 * k * y1 = 0) : On (line k x1 y1 x2) := by
  show (k * (x1 - (k * k - x1 - x2)) - y1) * (k * (x1 - (k * k - x1 - x2)) - y1) = (k * k - x1 - x2) * (k * k - x1 - x2) * (k * k - x1 - x2) + 7
  generalize hx : k * k - x1 - x2 = x3
  have hk : k * k = x3 + x1 + x2 := g1 hx
  have e2 := g3 hE
  rw [hk] at e2
  rw [g2, e2, hk, h1]; exact g4 x1 x2 x3
theorem sq_eq (F : Fld P0 inv) {x y1 y2 : (Fin P0)} (h1 : y1 * y1 = x * x * x + 7) (h2 : y2 * y2 = x * x * x + 7) : y1 + y2 = 0 ∨ y1 = y2 := by
  rcases F.dom (g5 h1 h2) with h | h
  · exact .inl h
  · exact .inr (g6 h)
theorem chord_E (F : Fld P0 inv) {x1 y1 x2 y2 k : (Fin P0)} (h1 : y1 * y1 = x1 * x1 * x1 + 7) (h2 : y2 * y2 = x2 * x2 * x2 + 7) (hd : x2 - x1 ≠ 0) (hk : k * (x2 - x1) = y2 - y1) :
    x1 * x1 + x1 * x2 + x2 * x2 - k * k * (x2 - x1) - 2 * k * y1 = 0 := by
  have e := g7 x1 y1 x2 k
  rw [hk, ← h1, ← h2, g8] at e
  exact (F.dom e).resolve_left hd
theorem tan_E {x y k : (Fin P0)} (hk : k * (2 * y) = 3 * (x * x)) : x * x + x * x + x * x - k * k * (x - x) - 2 * k * y = 0 := g25 hk
theorem chord_k (F : Fld P0 inv) {x1 y1 x2 y2 : (Fin P0)} (hd : x2 - x1 ≠ 0) : (y2 - y1) * inv (x2 - x1) * (x2 - x1) = y2 - y1 := by
  rw [g9, F.inv _ hd, g10]
theorem tan_k (F : Fld P0 inv) {x y : (Fin P0)} (hd : 2 * y ≠ 0) : 3 * (x * x) * inv (2 * y) * (2 * y) = 3 * (x * x) := by
  rw [g9, F.inv _ hd, g10]
def pX : Pt (Fin P0) → (Fin P0)
  | .inf => 0
  | .aff x _ => x
def pY : Pt (Fin P0) → (Fin P0)
  | .inf => 1
  | .aff _ y => y
def pZ : Pt (Fin P0) → (Fin P0)
  | .inf => 0
  | .aff _ _ => 1
def Is (c : (Fin P0)) (p : Pt (Fin P0)) (X Y Z : (Fin P0)) : Prop := X = c * pX p ∧ Y = c * pY p ∧ Z = c * pZ p
theorem chord_is (F : Fld P0 inv) {x1 y1 x2 y2 k : (Fin P0)} (h1 : y1 * y1 = x1 * x1 * x1 + 7) (h2 : y2 * y2 = x2 * x2 * x2 + 7) (hd : x2 - x1 ≠ 0) (hk : k * (x2 - x1) = y2 - y1) :
    fZ x1 y1 1 x2 y2 1 ≠ 0 ∧ Is (fZ x1 y1 1 x2 y2 1) (line k x1 y1 x2) (fX x1 y1 1 x2 y2 1) (fY x1 y1 1 x2 y2 1) (fZ x1 y1 1 x2 y2 1) := by
  constructor
  · -- the other point's counterpart
    have h2' : (0 - y2) * (0 - y2) = x2 * x2 * x2 + 7 := by rw [g11, h2]
    have hk' := chord_k F (y1 := y1) (y2 := 0 - y2) hd
    have hon := line_on h1 (chord_E F h1 h2' hd hk')
    generalize (0 - y2 - y1) * inv (x2 - x1) = k' at hk' hon
    have hy := F.tor _ _ hon
    have e : fZ x1 y1 1 x2 y2 1 = (x2 - x1) * ((x2 - x1) * ((x2 - x1) * (k' * (x1 - (k' * k' - x1 - x2)) - y1))) := by
      rw [gz h1 h2, ← hk']; exact g12 _ _ _ _ _
    rw [e]
    exact F.mul_ne hd (F.mul_ne hd (F.mul_ne hd hy))
  · have gx := gxx h1 h2
    have gy := gyy h1 h2
    generalize fX x1 y1 1 x2 y2 1 = A at *
    generalize fY x1 y1 1 x2 y2 1 = B at *
    generalize fZ x1 y1 1 x2 y2 1 = C at *
    have hd2 := F.mul_ne hd hd
    refine ⟨F.cancel hd2 ?_, F.cancel (F.mul_ne hd2 hd) ?_, ?_⟩
    · show (x2 - x1) * (x2 - x1) * A = (x2 - x1) * (x2 - x1) * (C * (k * k - x1 - x2))
      rw [gx, ← hk]; exact g13 _ _ _ _ _
    · show (x2 - x1) * (x2 - x1) * (x2 - x1) * B = (x2 - x1) * (x2 - x1) * (x2 - x1) * (C * (k * (x1 - (k * k - x1 - x2)) - y1))
      rw [gy, ← hk]; exact g14 _ _ _ _ _ _
    · show C = C * 1
      exact g17 _
theorem tan_is (F : Fld P0 inv) {x y k : (Fin P0)} (h1 : y * y = x * x * x + 7) (hk : k * (2 * y) = 3 * (x * x)) :
    fZ x y 1 x y 1 ≠ 0 ∧ Is (fZ x y 1 x y 1) (line k x y x) (fX x y 1 x y 1) (fY x y 1 x y 1) (fZ x y 1 x y 1) := by
  have hy := F.tor _ _ h1
  have h2 := F.mul_ne F.two hy
  have hz := gtz h1
  constructor
  · rw [hz]; exact F.mul_ne h2 (F.mul_ne h2 h2)
  · have gx := gtx h1
    have gy := gty h1
    refine ⟨?_, ?_, ?_⟩
    · show _ = fZ x y 1 x y 1 * (k * k - x - x)
      rw [gx, hz, ← hk]; exact g15 _ _ _
    · show _ = fZ x y 1 x y 1 * (k * (x - (k * k - x - x)) - y)
      rw [gy, hz, ← hk]; exact g16 _ _ _ _
    · show _ = fZ x y 1 x y 1 * 1
      exact g17 _
theorem same_pt (F : Fld P0 inv) {p q : Pt (Fin P0)} {c d X Y Z X' Y' Z' : (Fin P0)} (hc : c ≠ 0) (hd : d ≠ 0) (hp : Is c p X Y Z) (hq : Is d q X' Y' Z') (hx : X * Z' = Z * X') (hy : Y * Z' = Z * Y') : p = q := by
  obtain ⟨rfl, rfl, rfl⟩ := hp
  obtain ⟨rfl, rfl, rfl⟩ := hq
  have hcd := F.mul_ne hc hd
  match p, q, hx, hy with
  | .inf, .inf, _, _ => rfl
  | .inf, .aff x y, hx, hy =>
    simp only [pY, pZ] at hy
    exact absurd (g22 hy) hcd
  | .aff x y, .inf, hx, hy =>
    simp only [pY, pZ] at hy
    exact absurd (g23 hy) hcd
  | .aff x1 y1, .aff x2 y2, hx, hy =>
    simp only [pX, pY, pZ] at hx hy
    have e1 : x1 = x2 := F.cancel hcd (g21 hx)
    have e2 : y1 = y2 := F.cancel hcd (g21 hy)
    rw [e1, e2]
theorem f_left (c X Y Z X' Y' Z' : (Fin P0)) : fX (c * X) (c * Y) (c * Z) X' Y' Z' = c * c * fX X Y Z X' Y' Z' ∧ fY (c * X) (c * Y) (c * Z) X' Y' Z' = c * c * fY X Y Z X' Y' Z' ∧ fZ (c * X) (c * Y) (c * Z) X' Y' Z' = c * c * fZ X Y Z X' Y' Z' := by
  refine ⟨?_, ?_, ?_⟩
  · unfold fX; grind
  · unfold fY; grind
  · unfold fZ; grind
theorem f_right (c X Y Z X' Y' Z' : (Fin P0)) : fX X' Y' Z' (c * X) (c * Y) (c * Z) = c * c * fX X' Y' Z' X Y Z ∧ fY X' Y' Z' (c * X) (c * Y) (c * Z) = c * c * fY X' Y' Z' X Y Z ∧ fZ X' Y' Z' (c * X) (c * Y) (c * Z) = c * c * fZ X' Y' Z' X Y Z := by
  refine ⟨?_, ?_, ?_⟩
  · unfold fX; grind
  · unfold fY; grind
  · unfold fZ; grind
theorem neg_on {p : Pt (Fin P0)} (hp : On p) : On (negP p) := by
  cases p with
  | inf => trivial
  | aff x y =>
    have hp' : y * y = x * x * x + 7 := hp
    show (0 - y) * (0 - y) = x * x * x + 7
    rw [← hp']; exact g11 _
def addP (inv : (Fin P0) → (Fin P0)) : Pt (Fin P0) → Pt (Fin P0) → Pt (Fin P0)
  | .inf, q => q
  | .aff x y, .inf => .aff x y
  | .aff x1 y1, .aff x2 y2 =>
    if x1 = x2 then (if y1 + y2 = 0 then .inf else line (3 * (x1 * x1) * inv (2 * y1)) x1 y1 x1)
    else line ((y2 - y1) * inv (x2 - x1)) x1 y1 x2
theorem addP_aff (x1 y1 x2 y2 : (Fin P0)) : addP inv (.aff x1 y1) (.aff x2 y2) = if x1 = x2 then (if y1 + y2 = 0 then .inf else line (3 * (x1 * x1) * inv (2 * y1)) x1 y1 x1)
    else line ((y2 - y1) * inv (x2 - x1)) x1 y1 x2 := rfl
theorem add_on (F : Fld P0 inv) {p q : Pt (Fin P0)} (hp : On p) (hq : On q) : On (addP inv p q) := by
  match p, q, hp, hq with
  | .inf, q, _, hq => exact hq
  | .aff x y, .inf, hp, _ => exact hp
  | .aff x1 y1, .aff x2 y2, hp, hq =>
    rw [addP_aff]
    split
    · rename_i hx
      split
      · trivial
      · have hy : y1 ≠ 0 := F.tor _ _ hp
        exact line_on hp (tan_E (tan_k F (F.mul_ne F.two hy)))
    · rename_i hx
      have hd : x2 - x1 ≠ 0 := fun h => hx (g6 h).symm
      exact line_on hp (chord_E F hp hq hd (chord_k F hd))
theorem add_is (F : Fld P0 inv) {p q : Pt (Fin P0)} (hp : On p) (hq : On q) : ∃ c, c ≠ 0 ∧
    Is c (addP inv p q) (fX (pX p) (pY p) (pZ p) (pX q) (pY q) (pZ q)) (fY (pX p) (pY p) (pZ p) (pX q) (pY q) (pZ q)) (fZ (pX p) (pY p) (pZ p) (pX q) (pY q) (pZ q)) := by
  match p, q, hp, hq with
  | .inf, .inf, _, _ =>
    refine ⟨1, F.one, ?_, ?_, ?_⟩ <;> simp only [fX, fY, fZ, pX, pY, pZ, addP] <;> grind
  | .inf, .aff x y, _, hq =>
    refine ⟨y, F.tor _ _ hq, ?_, ?_, ?_⟩ <;> simp only [fX, fY, fZ, pX, pY, pZ, addP] <;> grind
  | .aff x y, .inf, hp, _ =>
    refine ⟨y, F.tor _ _ hp, ?_, ?_, ?_⟩ <;> simp only [fX, fY, fZ, pX, pY, pZ, addP] <;> grind
  | .aff x1 y1, .aff x2 y2, hp, hq =>
    rw [addP_aff]
    split
    · rename_i hx
      subst hx
      split
      · rename_i hy
        have e : y2 = 0 - y1 := g18 hy
        subst e
        have hy1 := F.tor _ _ hp
        have hk := tan_k F (x := x1) (F.mul_ne F.two hy1)
        have hon := line_on hp (tan_E hk)
        generalize 3 * (x1 * x1) * inv (2 * y1) = k at hk hon
        have hy3 := F.tor _ _ hon
        have h2 := F.mul_ne F.two hy1
        have e : fY x1 y1 1 x1 (0 - y1) 1 = (2 * y1) * ((2 * y1) * ((2 * y1) * (k * (x1 - (k * k - x1 - x1)) - y1))) := by
          rw [goy hp, ← hk]; exact g12 _ _ _ _ _
        refine ⟨fY x1 y1 1 x1 (0 - y1) 1, by rw [e]; exact F.mul_ne h2 (F.mul_ne h2 (F.mul_ne h2 hy3)), ?_, ?_, ?_⟩
        · show fX x1 y1 1 x1 (0 - y1) 1 = _ * 0
          rw [gox, g27]
        · show _ = fY x1 y1 1 x1 (0 - y1) 1 * 1
          exact g17 _
        · show fZ x1 y1 1 x1 (0 - y1) 1 = _ * 0
          rw [goz, g27]
      · rename_i hy
        have e : y1 = y2 := (sq_eq F hp hq).resolve_left hy
        subst e
        have hy1 := F.tor _ _ hp
        exact ⟨_, tan_is F hp (tan_k F (F.mul_ne F.two hy1))⟩
    · rename_i hx
      have hd : x2 - x1 ≠ 0 := fun h => hx (g6 h).symm
      exact ⟨_, chord_is F hp hq hd (chord_k F hd)⟩
theorem add_comm (F : Fld P0 inv) {p q : Pt (Fin P0)} (hp : On p) (hq : On q) : addP inv p q = addP inv q p := by
  obtain ⟨c, hc, h1⟩ := add_is F hp hq
  obtain ⟨d, hd, h2⟩ := add_is F hq hp
  refine same_pt F hc hd h1 h2 ?_ ?_
  · have a : ∀ X1 Y1 Z1 X2 Y2 Z2 : (Fin P0), fX X1 Y1 Z1 X2 Y2 Z2 = fX X2 Y2 Z2 X1 Y1 Z1 := by intros; unfold fX; grind
    have b : ∀ X1 Y1 Z1 X2 Y2 Z2 : (Fin P0), fZ X1 Y1 Z1 X2 Y2 Z2 = fZ X2 Y2 Z2 X1 Y1 Z1 := by intros; unfold fZ; grind
    rw [a (pX p), b (pX p)]; exact g30 _ _
  · have a : ∀ X1 Y1 Z1 X2 Y2 Z2 : (Fin P0), fY X1 Y1 Z1 X2 Y2 Z2 = fY X2 Y2 Z2 X1 Y1 Z1 := by intros; unfold fY; grind
    have b : ∀ X1 Y1 Z1 X2 Y2 Z2 : (Fin P0), fZ X1 Y1 Z1 X2 Y2 Z2 = fZ X2 Y2 Z2 X1 Y1 Z1 := by intros; unfold fZ; grind
    rw [a (pX p), b (pX p)]; exact g30 _ _
theorem add_inf (p : Pt (Fin P0)) : addP inv p .inf = p := by cases p <;> rfl
theorem inf_add (p : Pt (Fin P0)) : addP inv .inf p = p := rfl
theorem add_assoc (F : Fld P0 inv) {p q r : Pt (Fin P0)} (hp : On p) (hq : On q) (hr : On r) : addP inv (addP inv p q) r = addP inv p (addP inv q r) := by
  match p, q, r, hp, hq, hr with
  | .inf, q, r, _, _, _ => rfl
  | .aff x1 y1, .inf, r, _, _, _ => rfl
  | .aff x1 y1, .aff x2 y2, .inf, _, _, _ => rw [add_inf, add_inf]
  | .aff x1 y1, .aff x2 y2, .aff x3 y3, hp, hq, hr =>
    obtain ⟨c1, n1, a1, a2, a3⟩ := add_is F hp hq
    obtain ⟨c2, n2, b1, b2, b3⟩ := add_is F (add_on F hp hq) hr
    obtain ⟨c3, n3, d1, d2, d3⟩ := add_is F hq hr
    obtain ⟨c4, n4, g1, g2, g3⟩ := add_is F hp (add_on F hq hr)
    replace a1 : fX x1 y1 1 x2 y2 1 = _ := a1
    replace a2 : fY x1 y1 1 x2 y2 1 = _ := a2
    replace a3 : fZ x1 y1 1 x2 y2 1 = _ := a3
    replace d1 : fX x2 y2 1 x3 y3 1 = _ := d1
    replace d2 : fY x2 y2 1 x3 y3 1 = _ := d2
    replace d3 : fZ x2 y2 1 x3 y3 1 = _ := d3
    have hX := assocX hp hq hr
    have hY := assocY hp hq hr
    rw [a1, a2, a3, d1, d2, d3] at hX hY
    obtain ⟨l1, l2, l3⟩ := f_left c1 (pX (addP inv (.aff x1 y1) (.aff x2 y2))) (pY (addP inv (.aff x1 y1) (.aff x2 y2))) (pZ (addP inv (.aff x1 y1) (.aff x2 y2))) x3 y3 1
    obtain ⟨r1, r2, r3⟩ := f_right c3 (pX (addP inv (.aff x2 y2) (.aff x3 y3))) (pY (addP inv (.aff x2 y2) (.aff x3 y3))) (pZ (addP inv (.aff x2 y2) (.aff x3 y3))) x1 y1 1
    rw [l1, l3, r1, r3] at hX
    rw [l2, l3, r2, r3] at hY
    have k1 : c1 * c1 * c2 ≠ 0 := F.mul_ne (F.mul_ne n1 n1) n2
    have k2 : c3 * c3 * c4 ≠ 0 := F.mul_ne (F.mul_ne n3 n3) n4
    refine same_pt F k1 k2 (X := c1 * c1 * fX (pX (addP inv (.aff x1 y1) (.aff x2 y2))) (pY (addP inv (.aff x1 y1) (.aff x2 y2))) (pZ (addP inv (.aff x1 y1) (.aff x2 y2))) x3 y3 1) (Y := c1 * c1 * fY (pX (addP inv (.aff x1 y1) (.aff x2 y2))) (pY (addP inv (.aff x1 y1) (.aff x2 y2))) (pZ (addP inv (.aff x1 y1) (.aff x2 y2))) x3 y3 1) (Z := c1 * c1 * fZ (pX (addP inv (.aff x1 y1) (.aff x2 y2))) (pY (addP inv (.aff x1 y1) (.aff x2 y2))) (pZ (addP inv (.aff x1 y1) (.aff x2 y2))) x3 y3 1)
      (X' := c3 * c3 * fX x1 y1 1 (pX (addP inv (.aff x2 y2) (.aff x3 y3))) (pY (addP inv (.aff x2 y2) (.aff x3 y3))) (pZ (addP inv (.aff x2 y2) (.aff x3 y3)))) (Y' := c3 * c3 * fY x1 y1 1 (pX (addP inv (.aff x2 y2) (.aff x3 y3))) (pY (addP inv (.aff x2 y2) (.aff x3 y3))) (pZ (addP inv (.aff x2 y2) (.aff x3 y3)))) (Z' := c3 * c3 * fZ x1 y1 1 (pX (addP inv (.aff x2 y2) (.aff x3 y3))) (pY (addP inv (.aff x2 y2) (.aff x3 y3))) (pZ (addP inv (.aff x2 y2) (.aff x3 y3)))) ?_ ?_ hX hY
    · refine ⟨?_, ?_, ?_⟩
      · rw [show fX (pX (addP inv (.aff x1 y1) (.aff x2 y2))) (pY (addP inv (.aff x1 y1) (.aff x2 y2))) (pZ (addP inv (.aff x1 y1) (.aff x2 y2))) x3 y3 1 = _ from b1]; exact g19 _ _ _
      · rw [show fY (pX (addP inv (.aff x1 y1) (.aff x2 y2))) (pY (addP inv (.aff x1 y1) (.aff x2 y2))) (pZ (addP inv (.aff x1 y1) (.aff x2 y2))) x3 y3 1 = _ from b2]; exact g19 _ _ _
      · rw [show fZ (pX (addP inv (.aff x1 y1) (.aff x2 y2))) (pY (addP inv (.aff x1 y1) (.aff x2 y2))) (pZ (addP inv (.aff x1 y1) (.aff x2 y2))) x3 y3 1 = _ from b3]; exact g19 _ _ _
    · refine ⟨?_, ?_, ?_⟩
      · rw [show fX x1 y1 1 (pX (addP inv (.aff x2 y2) (.aff x3 y3))) (pY (addP inv (.aff x2 y2) (.aff x3 y3))) (pZ (addP inv (.aff x2 y2) (.aff x3 y3))) = _ from g1]; exact g19 _ _ _
      · rw [show fY x1 y1 1 (pX (addP inv (.aff x2 y2) (.aff x3 y3))) (pY (addP inv (.aff x2 y2) (.aff x3 y3))) (pZ (addP inv (.aff x2 y2) (.aff x3 y3))) = _ from g2]; exact g19 _ _ _
      · rw [show fZ x1 y1 1 (pX (addP inv (.aff x2 y2) (.aff x3 y3))) (pY (addP inv (.aff x2 y2) (.aff x3 y3))) (pZ (addP inv (.aff x2 y2) (.aff x3 y3))) = _ from g3]; exact g19 _ _ _
theorem add_neg (p : Pt (Fin P0)) : addP inv p (negP p) = .inf := by
  cases p with
  | inf => rfl
  | aff x y =>
    show (if x = x then (if y + (0 - y) = 0 then Pt.inf else _) else _) = _
    rw [if_pos rfl, if_pos (g20 _)]
end
end Go.W
/-
  Multiples of points.
-/
namespace Go.W
section
variable {P0 : Nat} [NeZero P0] {inv : Fin P0 → Fin P0}
def Rep (p : Pt (Fin P0)) (X Y Z : (Fin P0)) : Prop := ∃ c, c ≠ 0 ∧ Is c p X Y Z
theorem rep_inf {p : Pt (Fin P0)} {X Y Z : (Fin P0)} (h : Rep p X Y Z) : p = .inf ↔ Z = 0 := by
  obtain ⟨c, hc, _, _, rfl⟩ := h
  constructor
  · rintro rfl; exact g27 _
  · intro h
    cases p with
    | inf => rfl
    | aff x y =>
      have : c * 1 = 0 := h
      rw [g10] at this
      exact absurd this hc
theorem rep_self (F : Fld P0 inv) (p : Pt (Fin P0)) : Rep p (pX p) (pY p) (pZ p) := ⟨1, F.one, (g29 _).symm, (g29 _).symm, (g29 _).symm⟩
end
section
variable {P0 : Nat} [NeZero P0] {inv : Fin P0 → Fin P0}
def mulP (inv : (Fin P0) → (Fin P0)) : Nat → Pt (Fin P0) → Pt (Fin P0)
  | 0, _ => .inf
  | n + 1, p => addP inv p (mulP inv n p)
theorem mul_on (F : Fld P0 inv) {p : Pt (Fin P0)} (hp : On p) : ∀ n, On (mulP inv n p)
  | 0 => trivial
  | n + 1 => add_on F hp (mul_on F hp n)
theorem mulP_add (F : Fld P0 inv) {p : Pt (Fin P0)} (hp : On p) (m : Nat) : ∀ n, mulP inv (n + m) p = addP inv (mulP inv n p) (mulP inv m p)
  | 0 => by rw [Nat.zero_add]; rfl
  | n + 1 => by
    rw [Nat.add_right_comm]
    show addP inv p (mulP inv (n + m) p) = addP inv (addP inv p (mulP inv n p)) (mulP inv m p)
    rw [mulP_add F hp m n, add_assoc F hp (mul_on F hp n) (mul_on F hp m)]
theorem mulP_inf (inv : (Fin P0) → (Fin P0)) : ∀ n, mulP inv n (.inf : Pt (Fin P0)) = .inf
  | 0 => rfl
  | n + 1 => by show addP inv .inf (mulP inv n .inf) = .inf; rw [mulP_inf inv n]; rfl
theorem mulP_one (p : Pt (Fin P0)) : mulP inv 1 p = p := add_inf p
theorem mulP_mul (F : Fld P0 inv) {p : Pt (Fin P0)} (hp : On p) (m : Nat) : ∀ n, mulP inv (n * m) p = mulP inv n (mulP inv m p)
  | 0 => by rw [Nat.zero_mul]; rfl
  | n + 1 => by
    rw [Nat.add_mul, Nat.one_mul, Nat.add_comm, mulP_add F hp (n * m) m, mulP_mul F hp m n]; rfl
theorem add_four (F : Fld P0 inv) {a b c d : Pt (Fin P0)} (ha : On a) (hb : On b) (hc : On c) (hd : On d) : addP inv (addP inv a b) (addP inv c d) = addP inv (addP inv a c) (addP inv b d) := by
  rw [add_assoc F ha hb (add_on F hc hd), ← add_assoc F hb hc hd, add_comm F hb hc, add_assoc F hc hb hd, ← add_assoc F ha hc (add_on F hb hd)]
theorem mulP_addP (F : Fld P0 inv) {p q : Pt (Fin P0)} (hp : On p) (hq : On q) : ∀ n, mulP inv n (addP inv p q) = addP inv (mulP inv n p) (mulP inv n q)
  | 0 => rfl
  | n + 1 => by
    show addP inv (addP inv p q) (mulP inv n (addP inv p q)) = addP inv (addP inv p (mulP inv n p)) (addP inv q (mulP inv n q))
    rw [mulP_addP F hp hq n, add_four F hp hq (mul_on F hp n) (mul_on F hq n)]
theorem add_cancel (F : Fld P0 inv) {p q r : Pt (Fin P0)} (hp : On p) (hq : On q) (hr : On r) (h : addP inv p q = addP inv p r) : q = r := by
  have key : ∀ s : Pt (Fin P0), On s → addP inv (negP p) (addP inv p s) = s := by
    intro s hs
    rw [← add_assoc F (neg_on hp) hp hs, add_comm F (neg_on hp) hp, add_neg]; rfl
  rw [← key q hq, ← key r hr, h]
theorem neg_uniq (F : Fld P0 inv) {p q : Pt (Fin P0)} (hp : On p) (hq : On q) (h : addP inv p q = .inf) : q = negP p :=
  add_cancel F hp hq (neg_on hp) (h.trans (add_neg p).symm)
theorem negP_add (F : Fld P0 inv) {p q : Pt (Fin P0)} (hp : On p) (hq : On q) : negP (addP inv p q) = addP inv (negP p) (negP q) := by
  refine (neg_uniq F (add_on F hp hq) (add_on F (neg_on hp) (neg_on hq)) ?_).symm
  rw [add_four F hp hq (neg_on hp) (neg_on hq), add_neg, add_neg]; rfl
theorem mulP_neg (F : Fld P0 inv) {p : Pt (Fin P0)} (hp : On p) : ∀ n, mulP inv n (negP p) = negP (mulP inv n p)
  | 0 => rfl
  | n + 1 => by
    show addP inv (negP p) (mulP inv n (negP p)) = negP (addP inv p (mulP inv n p))
    rw [mulP_neg F hp n, negP_add F hp (mul_on F hp n)]
theorem mulP_mod (F : Fld P0 inv) {p : Pt (Fin P0)} (hp : On p) {N : Nat} (h : mulP inv N p = .inf) (n : Nat) : mulP inv (n % N) p = mulP inv n p := by
  have e := Nat.div_add_mod n N
  have : mulP inv n p = addP inv (mulP inv (N * (n / N)) p) (mulP inv (n % N) p) := by rw [← mulP_add F hp, e]
  rw [this, Nat.mul_comm N, mulP_mul F hp N (n / N), h, mulP_inf]; rfl
theorem mulP_two (F : Fld P0 inv) {p : Pt (Fin P0)} (hp : On p) (n : Nat) : mulP inv (2 * n) p = addP inv (mulP inv n p) (mulP inv n p) := by rw [Nat.two_mul, mulP_add F hp]
theorem rep_add (F : Fld P0 inv) {p q : Pt (Fin P0)} (hp : On p) (hq : On q) {X Y Z X' Y' Z' : (Fin P0)} (h : Rep p X Y Z) (h' : Rep q X' Y' Z') :
    Rep (addP inv p q) (fX X Y Z X' Y' Z') (fY X Y Z X' Y' Z') (fZ X Y Z X' Y' Z') := by
  obtain ⟨c, hc, rfl, rfl, rfl⟩ := h
  obtain ⟨d, hd, rfl, rfl, rfl⟩ := h'
  obtain ⟨e, he, h1, h2, h3⟩ := add_is F hp hq
  obtain ⟨l1, l2, l3⟩ := f_left c (pX p) (pY p) (pZ p) (d * pX q) (d * pY q) (d * pZ q)
  obtain ⟨r1, r2, r3⟩ := f_right d (pX q) (pY q) (pZ q) (pX p) (pY p) (pZ p)
  refine ⟨(c * c) * ((d * d) * e), F.mul_ne (F.mul_ne hc hc) (F.mul_ne (F.mul_ne hd hd) he), ?_, ?_, ?_⟩
  · rw [l1, r1, h1]; exact g28 _ _ _ _
  · rw [l2, r2, h2]; exact g28 _ _ _ _
  · rw [l3, r3, h3]; exact g28 _ _ _ _
end
end Go.W
/-
  The field of p elements, and the points of the curve over it.
-/
namespace Go.W
instance neP : NeZero pP := ⟨by decide⟩
abbrev Kp := Fin pP
def zP (X : Nat) : Kp := Fin.ofNat pP X
theorem zP_val (X : Nat) : (zP X).val = X % pP := rfl
theorem zP_self (a : Kp) : zP a.val = a := by
  apply Fin.ext
  show a.val % pP = a.val
  exact Nat.mod_eq_of_lt a.isLt
theorem zP_eq {X Y : Nat} : zP X = zP Y ↔ X % pP = Y % pP := by
  constructor
  · intro h; exact congrArg Fin.val h
  · intro h; exact Fin.ext h
theorem zP_mod (X : Nat) : zP (X % pP) = zP X := zP_eq.2 (Nat.mod_mod _ _)
theorem zP_add (X Y : Nat) : zP (X + Y) = zP X + zP Y := by
  apply Fin.ext
  show (X + Y) % pP = (X % pP + Y % pP) % pP
  exact Nat.add_mod _ _ _
theorem zP_mul (X Y : Nat) : zP (X * Y) = zP X * zP Y := by
  apply Fin.ext
  show (X * Y) % pP = (X % pP * (Y % pP)) % pP
  exact Nat.mul_mod _ _ _
theorem zP_sub (X Y : Nat) : zP (X + (pP - Y % pP)) = zP X - zP Y := by
  apply Fin.ext
  show (X + (pP - Y % pP)) % pP = (pP - Y % pP + X % pP) % pP
  rw [Nat.add_comm, Nat.add_mod_mod]
theorem zP_zero : zP 0 = 0 := rfl
theorem zP_one : zP 1 = 1 := rfl
theorem zP_lit (n : Nat) : zP n = (OfNat.ofNat n : Kp) := rfl
noncomputable def invP (a : Kp) : Kp := zP (powN 0 a.val (pP - 2))
theorem prime_pos : 0 < pP ∧ 1 < pP := by decide
theorem val_ne {a : Kp} (h : a ≠ 0) : a.val % pP ≠ 0 := by
  intro e
  apply h
  rw [← zP_self a, ← zP_zero]
  exact zP_eq.2 (by rw [e, Nat.zero_mod])
theorem fermat {A : Nat} (h : A % pP ≠ 0) : A ^ (pP - 1) % pP = 1 := by
  have := genP.inv h
  rw [show pP - 1 = (pP - 2) + 1 from by have := prime_pos; omega, Nat.pow_succ, Nat.mul_comm]
  exact this
def thP : Nat := 38597363079105398474523661669562635951089994888546854679819194669302944890554
theorem thP_eq : 3 * thP = pP - 1 := by decide
theorem seven_not_cube : powF 256 (pP - 7) thP pP ≠ 1 := by
  have h : Nat.beq (powF 256 (pP - 7) thP pP) 1 = false := by kernel_rfl
  intro e; rw [e] at h; simp at h
theorem no_cube (X : Nat) : (X * X * X + 7) % pP ≠ 0 := by
  intro h
  have h7 : X * X * X % pP = pP - 7 := by
    have e := Nat.div_add_mod (X * X * X) pP
    have hlt := Nat.mod_lt (X * X * X) prime_pos.1
    rw [Nat.add_mod] at h
    have h77 : 7 % pP = 7 := by decide
    rw [h77] at h
    have big : 7 < pP := by decide
    generalize X * X * X % pP = r at *
    by_cases hr : r + 7 < pP
    · rw [Nat.mod_eq_of_lt hr] at h; omega
    · have : r + 7 - pP = 0 := by
        have h2 : (r + 7) % pP = r + 7 - pP := by rw [Nat.mod_eq_sub_mod (by omega), Nat.mod_eq_of_lt (by omega)]
        omega
      omega
  have hX : X % pP ≠ 0 := by
    intro hx
    have : X * X * X % pP = 0 := by rw [Nat.mul_mod, hx, Nat.mul_zero, Nat.zero_mod]
    rw [this] at h7
    have big : 7 < pP := by decide
    omega
  have hf := fermat hX
  rw [← thP_eq, Nat.pow_mul] at hf
  have e3 : X ^ 3 = X * X * X := by rw [Nat.pow_succ, Nat.pow_succ, Nat.pow_succ, Nat.pow_zero, Nat.one_mul]
  rw [e3, Nat.pow_mod, h7, ← powF_eq 256 _ _ _ (show thP < 2 ^ 256 by decide)] at hf
  exact seven_not_cube hf
theorem fldP : Fld pP invP where
  inv := by
    intro a ha
    have h := inv_ok (w := 0) rfl (val_ne ha)
    have e : a * invP a = zP (a.val * powN 0 a.val (pP - 2)) := by rw [zP_mul, zP_self]; rfl
    rw [e, ← zP_one]
    refine zP_eq.2 ?_
    rw [show (1 : Nat) % pP = 1 from Nat.mod_eq_of_lt prime_pos.2]
    exact h
  one := by
    intro h
    have := congrArg Fin.val h
    have e1 : (1 : Kp).val = 1 := by decide
    have e0 : (0 : Kp).val = 0 := by decide
    rw [e1, e0] at this; omega
  two := by
    intro h
    have := congrArg Fin.val h
    have e1 : (2 : Kp).val = 2 := by decide
    have e0 : (0 : Kp).val = 0 := by decide
    rw [e1, e0] at this; omega
  tor := by
    intro x y h hy
    subst hy
    have e : zP (x.val * x.val * x.val + 7) = zP 0 := by
      rw [zP_add, zP_mul, zP_mul, zP_self]
      have : zP 7 = 7 := rfl
      rw [this, ← h, zP_zero]; exact g27 _
    exact no_cube x.val (by have := zP_eq.1 e; rw [Nat.zero_mod] at this; exact this)
def gXn : Nat := 55066263022277343669578718895168534326250603453777594175500187360389116729240
def gYn : Nat := 32670510020758816978083085130507043184471273380659243275938904335757337482424
def Gp : Pt Kp := .aff (zP gXn) (zP gYn)
theorem G_on : On Gp := by
  show zP gYn * zP gYn = zP gXn * zP gXn * zP gXn + 7
  rw [← zP_mul, ← zP_mul, ← zP_mul, show (7 : Kp) = zP 7 from rfl, ← zP_add]
  refine zP_eq.2 ?_
  decide +kernel
def sbn (a b : Nat) : Nat := a + (pP - b % pP)
def fXn (X1 Y1 Z1 X2 Y2 Z2 : Nat) : Nat := sbn ((X1 * Y2 + X2 * Y1) * sbn (Y1 * Y2) (21 * (Z1 * Z2))) (21 * (Y1 * Z2 + Y2 * Z1) * (X1 * Z2 + X2 * Z1)) % pP
def fYn (X1 Y1 Z1 X2 Y2 Z2 : Nat) : Nat := ((Y1 * Y2 + 21 * (Z1 * Z2)) * sbn (Y1 * Y2) (21 * (Z1 * Z2)) + 63 * (X1 * X2) * (X1 * Z2 + X2 * Z1)) % pP
def fZn (X1 Y1 Z1 X2 Y2 Z2 : Nat) : Nat := ((Y1 * Z2 + Y2 * Z1) * (Y1 * Y2 + 21 * (Z1 * Z2)) + 3 * (X1 * X2) * (X1 * Y2 + X2 * Y1)) % pP
theorem zP_sbn (a b : Nat) : zP (sbn a b) = zP a - zP b := zP_sub a b
theorem fXn_eq (X1 Y1 Z1 X2 Y2 Z2 : Nat) : zP (fXn X1 Y1 Z1 X2 Y2 Z2) = fX (zP X1) (zP Y1) (zP Z1) (zP X2) (zP Y2) (zP Z2) := by
  unfold fXn fX; simp only [zP_mod, zP_sbn, zP_mul, zP_add]; rfl
theorem fYn_eq (X1 Y1 Z1 X2 Y2 Z2 : Nat) : zP (fYn X1 Y1 Z1 X2 Y2 Z2) = fY (zP X1) (zP Y1) (zP Z1) (zP X2) (zP Y2) (zP Z2) := by
  unfold fYn fY; simp only [zP_mod, zP_sbn, zP_mul, zP_add]; rfl
theorem fZn_eq (X1 Y1 Z1 X2 Y2 Z2 : Nat) : zP (fZn X1 Y1 Z1 X2 Y2 Z2) = fZ (zP X1) (zP Y1) (zP Z1) (zP X2) (zP Y2) (zP Z2) := by
  unfold fZn fZ; simp only [zP_mod, zP_mul, zP_add]; rfl
abbrev N3 := Nat × Nat × Nat
def add3 (u v : N3) : N3 :=
  frc (fXn u.1 u.2.1 u.2.2 v.1 v.2.1 v.2.2) fun a => frc (fYn u.1 u.2.1 u.2.2 v.1 v.2.1 v.2.2) fun b => frc (fZn u.1 u.2.1 u.2.2 v.1 v.2.1 v.2.2) fun c => (a, b, c)
def pick3 (b : Bool) (u v : N3) : N3 := bif b then u else v
def mul3 (g : N3) : Nat → Nat → N3
  | 0, _ => (0, 1, 0)
  | f + 1, n => (fun d : N3 => bif Nat.beq (n % 2) 1 then add3 d g else d) (add3 (mul3 g f (n / 2)) (mul3 g f (n / 2)))
def Rp3 (p : Pt Kp) (u : N3) : Prop := Rep p (zP u.1) (zP u.2.1) (zP u.2.2)
theorem rp_add {p q : Pt Kp} (hp : On p) (hq : On q) {u v : N3} (h : Rp3 p u) (h' : Rp3 q v) : Rp3 (addP invP p q) (add3 u v) := by
  have := rep_add fldP hp hq h h'
  unfold Rp3 add3
  simp only [frc_eq, fXn_eq, fYn_eq, fZn_eq]
  exact this
theorem rp_mul {p : Pt Kp} (hp : On p) {g : N3} (hg : Rp3 p g) : ∀ (f n : Nat), n < 2 ^ f → Rp3 (mulP invP n p) (mul3 g f n)
  | 0, n, h => by
    have : n = 0 := by rw [Nat.pow_zero] at h; omega
    subst this
    exact rep_self fldP (.inf : Pt Kp)
  | f + 1, n, h => by
    have h2 : n / 2 < 2 ^ f := by rw [Nat.pow_succ] at h; omega
    have ih := rp_mul hp hg f (n / 2) h2
    have hd := rp_add (mul_on fldP hp _) (mul_on fldP hp _) ih ih
    rw [← mulP_two fldP hp] at hd
    unfold mul3
    rcases Nat.mod_two_eq_zero_or_one n with h0 | h1
    · rw [h0]
      have : 2 * (n / 2) = n := by omega
      rw [this] at hd
      exact hd
    · rw [h1]
      have e : n = 2 * (n / 2) + 1 := by omega
      have hs := rp_add (mul_on fldP hp _) hp hd hg
      have : addP invP (mulP invP (2 * (n / 2)) p) p = mulP invP n p := by
        rw [show mulP invP n p = mulP invP (2 * (n / 2) + 1) p from by rw [← e], mulP_add fldP hp, mulP_one]
      rw [this] at hs
      exact hs
def G3 : N3 := (gXn, gYn, 1)
theorem G3_rep : Rp3 Gp G3 := by
  have h := rep_self fldP Gp
  have e : Rp3 Gp G3 = Rep Gp (zP gXn) (zP gYn) (zP 1) := rfl
  rw [e, zP_one]
  exact h
def isZ (n : Nat) : Bool :=
  match n with
  | 0 => true
  | _ + 1 => false
theorem isZ_eq {n : Nat} (h : isZ n = true) : n = 0 := by
  cases n with
  | zero => rfl
  | succ m => simp [isZ] at h
theorem order3 : (mul3 G3 256 pN).2.2 = 0 := isZ_eq (by kernel_rfl)
theorem G_order : mulP invP pN Gp = .inf := by
  have h := rp_mul G_on G3_rep 256 pN (by decide)
  refine (rep_inf h).2 ?_
  show zP (mul3 G3 256 pN).2.2 = 0
  rw [order3]; rfl
end Go.W
/-
  Sums of points x / z z, y / z z z.
-/
namespace Go.W
section
variable {P0 : Nat} [NeZero P0]
theorem j1 (x b : (Fin P0)) : (x + b) * (x + b) - x * x - b * b = 2 * (x * b) := by grind
theorem j2 (k a b z : (Fin P0)) : (k * (2 * b) * (z * z * (z * z))) * (k * (2 * b) * (z * z * (z * z))) - (4 * (a * (z * z) * (b * (z * z * z) * (b * (z * z * z)))) + 4 * (a * (z * z) * (b * (z * z * z) * (b * (z * z * z))))) =
    (k * k - a - a) * ((b * (z * z * z) * z + b * (z * z * z) * z) * (b * (z * z * z) * z + b * (z * z * z) * z)) := by grind
theorem j3 (a z : (Fin P0)) : a * (z * z) * (a * (z * z)) + a * (z * z) * (a * (z * z)) + a * (z * z) * (a * (z * z)) = 3 * (a * a) * (z * z * (z * z)) := by grind
theorem j4 (k a b z : (Fin P0)) : (k * (2 * b) * (z * z * (z * z))) * (4 * (a * (z * z) * (b * (z * z * z) * (b * (z * z * z)))) - (k * k - a - a) * ((b * (z * z * z) * z + b * (z * z * z) * z) * (b * (z * z * z) * z + b * (z * z * z) * z)))
    - 8 * (b * (z * z * z) * (b * (z * z * z)) * (b * (z * z * z) * (b * (z * z * z)))) =
    (k * (a - (k * k - a - a)) - b) * ((b * (z * z * z) * z + b * (z * z * z) * z) * (b * (z * z * z) * z + b * (z * z * z) * z) * (b * (z * z * z) * z + b * (z * z * z) * z)) := by grind
theorem j5 (c : (Fin P0)) : c + c + (c + c) + (c + c + (c + c)) = 8 * c := by grind
theorem j6 (c : (Fin P0)) : 2 * c + 2 * c = 4 * c := by grind
theorem j7 (b z : (Fin P0)) : b * (z * z * z) * z + b * (z * z * z) * z = 2 * (b * (z * (z * (z * z)))) := by grind
theorem j8 (a1 a2 p q : (Fin P0)) : a2 * (q * q) * (p * p) - a1 * (p * p) * (q * q) = (a2 - a1) * ((p * q) * (p * q)) := by grind
theorem j9 (b1 b2 p q : (Fin P0)) : b2 * (q * q * q) * (p * p * p) - b1 * (p * p * p) * (q * q * q) = (b2 - b1) * ((p * q) * ((p * q) * (p * q))) := by grind
theorem j10 (k d a1 a2 Z : (Fin P0)) (h : d = a2 - a1) : (k * d * (Z * (Z * Z))) * (k * d * (Z * (Z * Z))) - d * (Z * Z) * (d * (Z * Z)) * (d * (Z * Z)) - (a1 * (Z * Z) * (d * (Z * Z) * (d * (Z * Z))) + a1 * (Z * Z) * (d * (Z * Z) * (d * (Z * Z)))) =
    (k * k - a1 - a2) * ((d * (Z * Z) * Z) * (d * (Z * Z) * Z)) := by subst h; grind
theorem j11 (k d a1 x b1 Z : (Fin P0)) : (k * d * (Z * (Z * Z))) * (a1 * (Z * Z) * (d * (Z * Z) * (d * (Z * Z))) - x * ((d * (Z * Z) * Z) * (d * (Z * Z) * Z))) - b1 * (Z * (Z * Z)) * (d * (Z * Z) * (d * (Z * Z)) * (d * (Z * Z))) =
    (k * (a1 - x) - b1) * ((d * (Z * Z) * Z) * (d * (Z * Z) * Z) * (d * (Z * Z) * Z)) := by grind
theorem j12 (a p q : (Fin P0)) : a * (p * p) * (q * q) = a * ((p * q) * (p * q)) := by grind
theorem j13 (a p q : (Fin P0)) : a * (p * p * p) * (q * q * q) = a * ((p * q) * ((p * q) * (p * q))) := by grind
theorem col_id (k x1 x2 y1 : (Fin P0)) : k * (x2 - x1) * (k * k - x1 - x2 - x1) = (x2 - x1) * ((0 - (k * (x1 - (k * k - x1 - x2)) - y1)) - y1) := by grind
theorem j15 (a b : (Fin P0)) (h : a = b) : a - b = 0 := by grind
end
def Jr {P0 : Nat} [NeZero P0] (p : Pt (Fin P0)) (x y z : (Fin P0)) : Prop := (z = 0 ∧ p = .inf) ∨ (z ≠ 0 ∧ ∃ a b, p = .aff a b ∧ x = a * (z * z) ∧ y = b * (z * z * z))
section
variable {P0 : Nat} [NeZero P0] {inv : Fin P0 → Fin P0}
theorem jr_down (F : Fld P0 inv) {p : Pt (Fin P0)} {x y z : (Fin P0)} (h : Jr p x y z) (hz : z ≠ 0) : p = .aff (x * (inv z * inv z)) (y * (inv z * inv z * inv z)) := by
  rcases h with ⟨e, _⟩ | ⟨_, a, b, rfl, rfl, rfl⟩
  · exact absurd e hz
  · have h1 := F.inv z hz
    have e1 : a * (z * z) * (inv z * inv z) = a * ((z * inv z) * (z * inv z)) := by grind
    have e2 : b * (z * z * z) * (inv z * inv z * inv z) = b * ((z * inv z) * ((z * inv z) * (z * inv z))) := by grind
    rw [e1, e2, h1, g10, g10, g10, g10]
theorem jr_inf {p : Pt (Fin P0)} {x y z : (Fin P0)} (h : Jr p x y z) : z = 0 ↔ p = .inf := by
  rcases h with ⟨h1, h2⟩ | ⟨h1, a, b, rfl, _, _⟩
  · exact ⟨fun _ => h2, fun _ => h1⟩
  · exact ⟨fun e => absurd e h1, fun e => by cases e⟩
end
section
variable {P0 : Nat} [NeZero P0] {inv : Fin P0 → Fin P0}
def twX (x y : (Fin P0)) : (Fin P0) := (x * x + x * x + x * x) * (x * x + x * x + x * x) - (((x + y * y) * (x + y * y) - x * x - y * y * (y * y) + ((x + y * y) * (x + y * y) - x * x - y * y * (y * y))) + ((x + y * y) * (x + y * y) - x * x - y * y * (y * y) + ((x + y * y) * (x + y * y) - x * x - y * y * (y * y))))
def twY (x y : (Fin P0)) : (Fin P0) := (x * x + x * x + x * x) * (((x + y * y) * (x + y * y) - x * x - y * y * (y * y) + ((x + y * y) * (x + y * y) - x * x - y * y * (y * y))) - twX x y) -
  (y * y * (y * y) + y * y * (y * y) + (y * y * (y * y) + y * y * (y * y)) + (y * y * (y * y) + y * y * (y * y) + (y * y * (y * y) + y * y * (y * y))))
def twZ (y z : (Fin P0)) : (Fin P0) := y * z + y * z
theorem jr_twice (F : Fld P0 inv) {p : Pt (Fin P0)} (hp : On p) {x y z : (Fin P0)} (h : Jr p x y z) (hz : z ≠ 0) : Jr (addP inv p p) (twX x y) (twY x y) (twZ y z) ∧ y ≠ 0 := by
  rcases h with ⟨h1, _⟩ | ⟨_, a, b, rfl, rfl, rfl⟩
  · exact absurd h1 hz
  · have hb := F.tor _ _ hp
    have hy : b * (z * z * z) ≠ 0 := F.mul_ne hb (F.mul_ne (F.mul_ne hz hz) hz)
    refine ⟨.inr ⟨?_, ?_⟩, hy⟩
    · unfold twZ; rw [j7]
      exact F.mul_ne F.two (F.mul_ne hb (F.mul_ne hz (F.mul_ne hz (F.mul_ne hz hz))))
    · have hk := tan_k F (x := a) (F.mul_ne F.two hb)
      have hs : addP inv (.aff a b) (.aff a b) = line (3 * (a * a) * inv (2 * b)) a b a := by
        rw [addP_aff, if_pos rfl, if_neg ?_]
        intro e
        have : 2 * b = 0 := by rw [← e]; grind
        exact F.mul_ne F.two hb this
      rw [hs]
      generalize 3 * (a * a) * inv (2 * b) = k at hk
      refine ⟨_, _, rfl, ?_, ?_⟩
      · unfold twX twZ
        rw [j1, j6, j3, ← hk]; exact j2 k a b z
      · unfold twY twX twZ
        rw [j1, j6, j3, j5, ← hk, j2]; exact j4 k a b z
def plU (x1 z2 : (Fin P0)) : (Fin P0) := x1 * (z2 * z2)
def plS (y1 z2 : (Fin P0)) : (Fin P0) := y1 * (z2 * z2 * z2)
def plX (u h r : (Fin P0)) : (Fin P0) := r * r - h * h * h - (u * (h * h) + u * (h * h))
def plY (u s h r : (Fin P0)) : (Fin P0) := r * (u * (h * h) - plX u h r) - s * (h * h * h)
def plZ (h z1 z2 : (Fin P0)) : (Fin P0) := h * (z1 * z2)
theorem jr_plus (F : Fld P0 inv) {p q : Pt (Fin P0)} (hp : On p) (hq : On q) {x1 y1 z1 x2 y2 z2 : (Fin P0)} (h1 : Jr p x1 y1 z1) (h2 : Jr q x2 y2 z2) (n1 : z1 ≠ 0) (n2 : z2 ≠ 0) :
    (plU x2 z1 - plU x1 z2 ≠ 0 → Jr (addP inv p q) (plX (plU x1 z2) (plU x2 z1 - plU x1 z2) (plS y2 z1 - plS y1 z2)) (plY (plU x1 z2) (plS y1 z2) (plU x2 z1 - plU x1 z2) (plS y2 z1 - plS y1 z2)) (plZ (plU x2 z1 - plU x1 z2) z1 z2)) ∧
    (plU x2 z1 - plU x1 z2 = 0 → plS y2 z1 - plS y1 z2 ≠ 0 → addP inv p q = .inf) ∧
    (plU x2 z1 - plU x1 z2 = 0 → plS y2 z1 - plS y1 z2 = 0 → p = q) := by
  rcases h1 with ⟨e, _⟩ | ⟨_, a1, b1, rfl, rfl, rfl⟩
  · exact absurd e n1
  rcases h2 with ⟨e, _⟩ | ⟨_, a2, b2, rfl, rfl, rfl⟩
  · exact absurd e n2
  have nZ : z1 * z2 ≠ 0 := F.mul_ne n1 n2
  have eh : plU (a2 * (z2 * z2)) z1 - plU (a1 * (z1 * z1)) z2 = (a2 - a1) * ((z1 * z2) * (z1 * z2)) := j8 a1 a2 z1 z2
  have er : plS (b2 * (z2 * z2 * z2)) z1 - plS (b1 * (z1 * z1 * z1)) z2 = (b2 - b1) * ((z1 * z2) * ((z1 * z2) * (z1 * z2))) := j9 b1 b2 z1 z2
  have eu : plU (a1 * (z1 * z1)) z2 = a1 * ((z1 * z2) * (z1 * z2)) := j12 a1 z1 z2
  have es : plS (b1 * (z1 * z1 * z1)) z2 = b1 * ((z1 * z2) * ((z1 * z2) * (z1 * z2))) := j13 b1 z1 z2
  rw [eh, er]
  have nZ2 := F.mul_ne nZ nZ
  refine ⟨fun hne => ?_, fun h0 hr => ?_, fun h0 hr => ?_⟩
  · have hd : a2 - a1 ≠ 0 := fun e => hne (by rw [e]; grind)
    have hk := chord_k F (y1 := b1) (y2 := b2) hd
    rw [addP_aff, if_neg (fun e => hd (j15 _ _ e.symm))]
    generalize (b2 - b1) * inv (a2 - a1) = k at hk
    refine .inr ⟨F.mul_ne hne nZ, _, _, rfl, ?_, ?_⟩
    · rw [eu, ← hk]; exact j10 k (a2 - a1) a1 a2 (z1 * z2) rfl
    · unfold plY
      rw [eu, es, ← hk]
      have := j10 k (a2 - a1) a1 a2 (z1 * z2) rfl
      unfold plX
      rw [this]
      exact j11 k (a2 - a1) a1 (k * k - a1 - a2) b1 (z1 * z2)
  · have hd : a2 - a1 = 0 := (F.dom h0).resolve_right nZ2
    have ha : a1 = a2 := (g6 hd).symm
    subst ha
    rw [addP_aff, if_pos rfl]
    rcases sq_eq F hp hq with h | h
    · rw [if_pos h]
    · subst h
      exact absurd (by rw [j15 b1 b1 rfl]; grind) hr
  · have hd : a2 - a1 = 0 := (F.dom h0).resolve_right nZ2
    have hd2 : b2 - b1 = 0 := (F.dom hr).resolve_right (F.mul_ne nZ nZ2)
    rw [g6 hd, g6 hd2]
end
end Go.W
/-
  Points of package curve as values, and the document's own sums of them.
-/
namespace Go.W
abbrev RP := Bool × Nat × Nat
def ptV (r : RP) : Value := .agg #[.bool r.1, u64 (dig r.2.1 0), u64 (dig r.2.1 1), u64 (dig r.2.1 2), u64 (dig r.2.1 3), u64 (dig r.2.2 0), u64 (dig r.2.2 1), u64 (dig r.2.2 2), u64 (dig r.2.2 3)]
def isBl : Value → Bool
  | .bool _ => true
  | _ => false
def isPtL : List Value → Bool
  | b :: r => isBl b && Nat.beq r.length 8 && r.all isU64
  | [] => false
def isPt (v : Value) : Bool := aggK v isPtL false
def hdB : List Value → Bool
  | .bool b :: _ => b
  | _ => false
def unPt (v : Value) : RP := (hdB v.cells.toList, limbs ((v.cells.toList.drop 1).take 4), limbs ((v.cells.toList.drop 5).take 4))
def okR (r : RP) : Prop := r.2.1 < 2 ^ 256 ∧ r.2.2 < 2 ^ 256
theorem limbs4 (X : Nat) : limbs [u64 (dig X 0), u64 (dig X 1), u64 (dig X 2), u64 (dig X 3)] = X % 2 ^ 256 := unnum_num X
theorem unPt_ptV {r : RP} (h : okR r) : unPt (ptV r) = r := by
  obtain ⟨i, X, Y⟩ := r
  show (i, limbs [u64 (dig X 0), u64 (dig X 1), u64 (dig X 2), u64 (dig X 3)], limbs [u64 (dig Y 0), u64 (dig Y 1), u64 (dig Y 2), u64 (dig Y 3)]) = _
  rw [limbs4, limbs4, Nat.mod_eq_of_lt h.1, Nat.mod_eq_of_lt h.2]
theorem isPt_ptV (r : RP) : isPt (ptV r) = true := by
  show (true && Nat.beq 8 8 && [u64 _, u64 _, u64 _, u64 _, u64 _, u64 _, u64 _, u64 _].all isU64) = true
  rw [List.all_cons, List.all_cons, List.all_cons, List.all_cons, List.all_cons, List.all_cons, List.all_cons, List.all_cons, isU64_u64 (dig_lt _ _), isU64_u64 (dig_lt _ _), isU64_u64 (dig_lt _ _), isU64_u64 (dig_lt _ _), isU64_u64 (dig_lt _ _), isU64_u64 (dig_lt _ _), isU64_u64 (dig_lt _ _), isU64_u64 (dig_lt _ _)]
  rfl
theorem isPt_some {v : Value} (h : isPt v = true) : ∃ r, okR r ∧ v = ptV r := by
  unfold isPt aggK at h
  split at h
  · rename_i cs
    obtain ⟨l, hc⟩ : ∃ l, cs = List.toArray l := ⟨cs.toList, by simp⟩
    subst hc
    rw [List.toList_toArray] at h
    obtain ⟨b, r, rfl⟩ : ∃ b r, l = b :: r := by
      cases l with
      | nil => simp [isPtL] at h
      | cons b r => exact ⟨b, r, rfl⟩
    simp only [isPtL, Bool.and_eq_true] at h
    obtain ⟨⟨hb, hl⟩, hall⟩ := h
    have hl : r.length = 8 := nbeq.1 hl
    obtain ⟨i, rfl⟩ : ∃ i, b = .bool i := by cases b <;> first | exact ⟨_, rfl⟩ | simp [isBl] at hb
    match r, hl, hall with
    | [x0, x1, x2, x3, y0, y1, y2, y3], _, hall =>
      simp only [Bool.and_eq_true, List.all_cons, List.all_nil, Bool.and_true] at hall
      obtain ⟨h0, h1, h2, h3, k0, k1, k2, k3⟩ := hall
      obtain ⟨a0, l0, rfl⟩ := isU64_some h0
      obtain ⟨a1, l1, rfl⟩ := isU64_some h1
      obtain ⟨a2, l2, rfl⟩ := isU64_some h2
      obtain ⟨a3, l3, rfl⟩ := isU64_some h3
      obtain ⟨b0, m0, rfl⟩ := isU64_some k0
      obtain ⟨b1, m1, rfl⟩ := isU64_some k1
      obtain ⟨b2, m2, rfl⟩ := isU64_some k2
      obtain ⟨b3, m3, rfl⟩ := isU64_some k3
      refine ⟨(i, hor a0 a1 a2 a3, hor b0 b1 b2 b3), ⟨hor_lt l0 l1 l2 l3, hor_lt m0 m1 m2 m3⟩, ?_⟩
      have e1 := num_hor l0 l1 l2 l3 0
      have e2 := num_hor m0 m1 m2 m3 0
      rw [Nat.mul_zero, Nat.add_zero] at e1 e2
      simp only [num, numd, Value.agg.injEq, Array.mk.injEq, List.cons.injEq, and_true] at e1 e2
      unfold ptV
      simp only [e1.1, e1.2.1, e1.2.2.1, e1.2.2.2, e2.1, e2.2.1, e2.2.2.1, e2.2.2.2]
  · simp at h
def jacV (t : N3) : Value := .agg #[u64 (dig t.1 0), u64 (dig t.1 1), u64 (dig t.1 2), u64 (dig t.1 3), u64 (dig t.2.1 0), u64 (dig t.2.1 1), u64 (dig t.2.1 2), u64 (dig t.2.1 3), u64 (dig t.2.2 0), u64 (dig t.2.2 1), u64 (dig t.2.2 2), u64 (dig t.2.2 3)]
def isJac (v : Value) : Bool := isNums 12 v
def unJ (v : Value) : N3 := (limbs (v.cells.toList.take 4), limbs ((v.cells.toList.drop 4).take 4), limbs ((v.cells.toList.drop 8).take 4))
def okJ (t : N3) : Prop := t.1 < 2 ^ 256 ∧ t.2.1 < 2 ^ 256 ∧ t.2.2 < 2 ^ 256
theorem unJ_jacV {t : N3} (h : okJ t) : unJ (jacV t) = t := by
  obtain ⟨X, Y, Z⟩ := t
  show (limbs [u64 (dig X 0), u64 (dig X 1), u64 (dig X 2), u64 (dig X 3)], limbs [u64 (dig Y 0), u64 (dig Y 1), u64 (dig Y 2), u64 (dig Y 3)], limbs [u64 (dig Z 0), u64 (dig Z 1), u64 (dig Z 2), u64 (dig Z 3)]) = _
  rw [limbs4, limbs4, limbs4, Nat.mod_eq_of_lt h.1, Nat.mod_eq_of_lt h.2.1, Nat.mod_eq_of_lt h.2.2]
theorem isJac_jacV (t : N3) : isJac (jacV t) = true := by
  refine isNums_of [u64 _, u64 _, u64 _, u64 _, u64 _, u64 _, u64 _, u64 _, u64 _, u64 _, u64 _, u64 _] rfl ?_
  simp only [List.all_cons, List.all_nil, isU64_u64 (dig_lt _ _), Bool.and_self]
theorem isJac_some {v : Value} (h : isJac v = true) : ∃ t, okJ t ∧ v = jacV t := by
  obtain ⟨l, rfl, hl, ha⟩ := isNums_some h
  match l, hl, ha with
  | [x0, x1, x2, x3, y0, y1, y2, y3, z0, z1, z2, z3], _, ha =>
    simp only [List.all_cons, List.all_nil, Bool.and_true, Bool.and_eq_true] at ha
    obtain ⟨h0, h1, h2, h3, k0, k1, k2, k3, g0, g1, g2, g3⟩ := ha
    obtain ⟨a0, l0, rfl⟩ := isU64_some h0
    obtain ⟨a1, l1, rfl⟩ := isU64_some h1
    obtain ⟨a2, l2, rfl⟩ := isU64_some h2
    obtain ⟨a3, l3, rfl⟩ := isU64_some h3
    obtain ⟨b0, m0, rfl⟩ := isU64_some k0
    obtain ⟨b1, m1, rfl⟩ := isU64_some k1
    obtain ⟨b2, m2, rfl⟩ := isU64_some k2
    obtain ⟨b3, m3, rfl⟩ := isU64_some k3
    obtain ⟨c0, n0, rfl⟩ := isU64_some g0
    obtain ⟨c1, n1, rfl⟩ := isU64_some g1
    obtain ⟨c2, n2, rfl⟩ := isU64_some g2
    obtain ⟨c3, n3, rfl⟩ := isU64_some g3
    refine ⟨(hor a0 a1 a2 a3, hor b0 b1 b2 b3, hor c0 c1 c2 c3), ⟨hor_lt l0 l1 l2 l3, hor_lt m0 m1 m2 m3, hor_lt n0 n1 n2 n3⟩, ?_⟩
    have e1 := num_hor l0 l1 l2 l3 0
    have e2 := num_hor m0 m1 m2 m3 0
    have e3 := num_hor n0 n1 n2 n3 0
    rw [Nat.mul_zero, Nat.add_zero] at e1 e2 e3
    simp only [num, numd, Value.agg.injEq, Array.mk.injEq, List.cons.injEq, and_true] at e1 e2 e3
    unfold jacV
    simp only [e1.1, e1.2.1, e1.2.2.1, e1.2.2.2, e2.1, e2.2.1, e2.2.2.1, e2.2.2.2, e3.1, e3.2.1, e3.2.2.1, e3.2.2.2]
def mp (a b : Nat) : Nat := fmulN 0 a b
def ap (a b : Nat) : Nat := faddN 0 a b
def sp (a b : Nat) : Nat := fsubN 0 a b
theorem mp_eq (a b : Nat) : mp a b = a * b % pP := fmulN_ok ok0 a b
theorem ap_eq (a b : Nat) : ap a b = (a + b) % pP := faddN_ok ok0 a b
theorem sp_eq (a b : Nat) : sp a b = (a + (pP - b % pP)) % pP := fsubN_ok ok0 a b
theorem z_mp (a b : Nat) : zP (mp a b) = zP a * zP b := by rw [mp_eq, zP_mod, zP_mul]
theorem z_ap (a b : Nat) : zP (ap a b) = zP a + zP b := by rw [ap_eq, zP_mod, zP_add]
theorem z_sp (a b : Nat) : zP (sp a b) = zP a - zP b := by rw [sp_eq, zP_mod, zP_sub]
theorem mp_lt (a b : Nat) : mp a b < pP := by rw [mp_eq]; exact Nat.mod_lt _ prime_pos.1
theorem ap_lt (a b : Nat) : ap a b < pP := by rw [ap_eq]; exact Nat.mod_lt _ prime_pos.1
theorem sp_lt (a b : Nat) : sp a b < pP := by rw [sp_eq]; exact Nat.mod_lt _ prime_pos.1
def ckR (r : RP) : Bool :=
  if r.1 = true then decide (r.2.1 = 0 ∧ r.2.2 = 0) else decide (r.2.1 < pP ∧ r.2.2 < pP ∧ mp r.2.2 r.2.2 = ap (mp (mp r.2.1 r.2.1) r.2.1) 7)
def toPt (r : RP) : Pt Kp := if r.1 = true then .inf else .aff (zP r.2.1) (zP r.2.2)
def ofPt : Pt Kp → RP
  | .inf => (true, 0, 0)
  | .aff x y => (false, x.val, y.val)
theorem zP_inj {X Y : Nat} (hX : X < pP) (hY : Y < pP) (h : zP X = zP Y) : X = Y := by
  have := zP_eq.1 h
  rwa [Nat.mod_eq_of_lt hX, Nat.mod_eq_of_lt hY] at this
theorem zP_val_lt {X : Nat} (h : X < pP) : (zP X).val = X := Nat.mod_eq_of_lt h
theorem ck_of {r : RP} (h : ckR r = true) : On (toPt r) ∧ ofPt (toPt r) = r := by
  obtain ⟨i, X, Y⟩ := r
  unfold ckR at h
  cases i with
  | true =>
    rw [if_pos rfl] at h
    have h := of_decide_eq_true h
    simp only at h
    obtain ⟨rfl, rfl⟩ := h
    exact ⟨trivial, rfl⟩
  | false =>
    rw [if_neg Bool.false_ne_true] at h
    have h := of_decide_eq_true h
    simp only at h
    obtain ⟨hX, hY, he⟩ := h
    constructor
    · show zP Y * zP Y = zP X * zP X * zP X + 7
      have := congrArg zP he
      rw [z_mp, z_ap, z_mp, z_mp] at this
      exact this
    · show (false, (zP X).val, (zP Y).val) = (false, X, Y)
      rw [zP_val_lt hX, zP_val_lt hY]
theorem toPt_ofPt (p : Pt Kp) : toPt (ofPt p) = p := by
  cases p with
  | inf => rfl
  | aff x y =>
    show Pt.aff (zP x.val) (zP y.val) = _
    rw [zP_self, zP_self]
theorem ck_ofPt {p : Pt Kp} (h : On p) : ckR (ofPt p) = true := by
  cases p with
  | inf => rfl
  | aff x y =>
    show decide (x.val < pP ∧ y.val < pP ∧ mp y.val y.val = ap (mp (mp x.val x.val) x.val) 7) = true
    refine decide_eq_true ⟨x.isLt, y.isLt, zP_inj (mp_lt _ _) (ap_lt _ _) ?_⟩
    rw [z_mp, z_ap, z_mp, z_mp, zP_self, zP_self]
    exact h
theorem okR_ofPt (p : Pt Kp) : okR (ofPt p) := by
  have hp : pP < 2 ^ 256 := by decide
  cases p with
  | inf => exact ⟨by decide, by decide⟩
  | aff x y => exact ⟨Nat.lt_trans x.isLt hp, Nat.lt_trans y.isLt hp⟩
theorem ofPt_inj {p q : Pt Kp} (h : ofPt p = ofPt q) : p = q := by
  rw [← toPt_ofPt p, h, toPt_ofPt]
def upJ (r : RP) : N3 := if r.1 = true then (1, 1, 0) else (r.2.1, r.2.2, 1)
def twXn (x y : Nat) : Nat :=
  sp (mp (ap (ap (mp x x) (mp x x)) (mp x x)) (ap (ap (mp x x) (mp x x)) (mp x x)))
    (ap (ap (sp (sp (mp (ap x (mp y y)) (ap x (mp y y))) (mp x x)) (mp (mp y y) (mp y y))) (sp (sp (mp (ap x (mp y y)) (ap x (mp y y))) (mp x x)) (mp (mp y y) (mp y y))))
        (ap (sp (sp (mp (ap x (mp y y)) (ap x (mp y y))) (mp x x)) (mp (mp y y) (mp y y))) (sp (sp (mp (ap x (mp y y)) (ap x (mp y y))) (mp x x)) (mp (mp y y) (mp y y)))))
def twYn (x y : Nat) : Nat :=
  sp (mp (ap (ap (mp x x) (mp x x)) (mp x x)) (sp (ap (sp (sp (mp (ap x (mp y y)) (ap x (mp y y))) (mp x x)) (mp (mp y y) (mp y y))) (sp (sp (mp (ap x (mp y y)) (ap x (mp y y))) (mp x x)) (mp (mp y y) (mp y y)))) (twXn x y)))
    (ap (ap (ap (mp (mp y y) (mp y y)) (mp (mp y y) (mp y y))) (ap (mp (mp y y) (mp y y)) (mp (mp y y) (mp y y)))) (ap (ap (mp (mp y y) (mp y y)) (mp (mp y y) (mp y y))) (ap (mp (mp y y) (mp y y)) (mp (mp y y) (mp y y)))))
def twZn (y z : Nat) : Nat := ap (mp y z) (mp y z)
def tw3 (t : N3) : N3 := if t.2.2 = 0 ∨ t.2.1 = 0 then (1, 1, 0) else (twXn t.1 t.2.1, twYn t.1 t.2.1, twZn t.2.1 t.2.2)
theorem twXn_z (x y : Nat) : zP (twXn x y) = twX (zP x) (zP y) := by unfold twXn twX; simp only [z_mp, z_ap, z_sp]
theorem twYn_z (x y : Nat) : zP (twYn x y) = twY (zP x) (zP y) := by unfold twYn twY; simp only [z_mp, z_ap, z_sp, twXn_z]
theorem twZn_z (y z : Nat) : zP (twZn y z) = twZ (zP y) (zP z) := by unfold twZn twZ; simp only [z_mp, z_ap]
def plUn (x1 z2 : Nat) : Nat := mp x1 (mp z2 z2)
def plSn (y1 z2 : Nat) : Nat := mp y1 (mp (mp z2 z2) z2)
def plXn (u h r : Nat) : Nat := sp (sp (mp r r) (mp (mp h h) h)) (ap (mp u (mp h h)) (mp u (mp h h)))
def plYn (u s h r : Nat) : Nat := sp (mp r (sp (mp u (mp h h)) (plXn u h r))) (mp s (mp (mp h h) h))
def plZn (h z1 z2 : Nat) : Nat := mp h (mp z1 z2)
def plH (p q : N3) : Nat := sp (plUn q.1 p.2.2) (plUn p.1 q.2.2)
def plR (p q : N3) : Nat := sp (plSn q.2.1 p.2.2) (plSn p.2.1 q.2.2)
def pl3 (p q : N3) : N3 :=
  if p.2.2 = 0 then q else if q.2.2 = 0 then p else if plH p q = 0 then (if plR p q = 0 then tw3 p else (1, 1, 0))
  else (plXn (plUn p.1 q.2.2) (plH p q) (plR p q), plYn (plUn p.1 q.2.2) (plSn p.2.1 q.2.2) (plH p q) (plR p q), plZn (plH p q) p.2.2 q.2.2)
theorem plUn_z (x z : Nat) : zP (plUn x z) = plU (zP x) (zP z) := by unfold plUn plU; simp only [z_mp]
theorem plSn_z (x z : Nat) : zP (plSn x z) = plS (zP x) (zP z) := by unfold plSn plS; simp only [z_mp]
theorem plXn_z (u h r : Nat) : zP (plXn u h r) = plX (zP u) (zP h) (zP r) := by unfold plXn plX; simp only [z_mp, z_ap, z_sp]
theorem plYn_z (u s h r : Nat) : zP (plYn u s h r) = plY (zP u) (zP s) (zP h) (zP r) := by unfold plYn plY; simp only [z_mp, z_sp, plXn_z]
theorem plZn_z (h z1 z2 : Nat) : zP (plZn h z1 z2) = plZ (zP h) (zP z1) (zP z2) := by unfold plZn plZ; simp only [z_mp]
theorem plH_z (p q : N3) : zP (plH p q) = plU (zP q.1) (zP p.2.2) - plU (zP p.1) (zP q.2.2) := by unfold plH; rw [z_sp, plUn_z, plUn_z]
theorem plR_z (p q : N3) : zP (plR p q) = plS (zP q.2.1) (zP p.2.2) - plS (zP p.2.1) (zP q.2.2) := by unfold plR; rw [z_sp, plSn_z, plSn_z]
def dnR3 (t : N3) : RP := if t.2.2 = 0 then (true, 0, 0) else
  (false, mp t.1 (mp (powN 0 t.2.2 (pP - 2)) (powN 0 t.2.2 (pP - 2))), mp t.2.1 (mp (mp (powN 0 t.2.2 (pP - 2)) (powN 0 t.2.2 (pP - 2))) (powN 0 t.2.2 (pP - 2))))
structure J3 (p : Pt Kp) (t : N3) : Prop where
  jr : Jr p (zP t.1) (zP t.2.1) (zP t.2.2)
  x : t.1 < pP
  y : t.2.1 < pP
  z : t.2.2 < pP
theorem zP_ne {X : Nat} (h : X < pP) : X ≠ 0 ↔ zP X ≠ 0 := by
  constructor
  · intro h1 h2; exact h1 (zP_inj h prime_pos.1 (h2.trans zP_zero.symm))
  · rintro h1 rfl; exact h1 zP_zero
theorem J3_inf : J3 .inf (1, 1, 0) := ⟨.inl ⟨rfl, rfl⟩, prime_pos.2, prime_pos.2, prime_pos.1⟩
theorem J3_up {r : RP} (h : ckR r = true) : J3 (toPt r) (upJ r) := by
  obtain ⟨i, X, Y⟩ := r
  cases i with
  | true => exact J3_inf
  | false =>
    unfold ckR at h
    rw [if_neg Bool.false_ne_true] at h
    obtain ⟨hX, hY, _⟩ := of_decide_eq_true h
    refine ⟨.inr ⟨?_, zP X, zP Y, rfl, ?_, ?_⟩, hX, hY, prime_pos.2⟩
    · exact (zP_ne prime_pos.2).1 (by decide)
    · show zP X = zP X * (zP 1 * zP 1)
      rw [zP_one, g10, g10]
    · show zP Y = zP Y * (zP 1 * zP 1 * zP 1)
      rw [zP_one, g10, g10, g10]
theorem J3_tw {p : Pt Kp} (hp : On p) {t : N3} (h : J3 p t) : J3 (addP invP p p) (tw3 t) := by
  unfold tw3
  by_cases hz : t.2.2 = 0
  · rw [if_pos (.inl hz)]
    have : p = .inf := (jr_inf h.jr).1 (by rw [hz]; rfl)
    subst this; exact J3_inf
  · have hz' := (zP_ne h.z).1 hz
    obtain ⟨h1, h2⟩ := jr_twice fldP hp h.jr hz'
    have hy : t.2.1 ≠ 0 := (zP_ne h.y).2 h2
    rw [if_neg (fun e => e.elim hz hy)]
    exact ⟨by simp only [twXn_z, twYn_z, twZn_z]; exact h1, sp_lt _ _, sp_lt _ _, ap_lt _ _⟩
theorem J3_pl {p q : Pt Kp} (hp : On p) (hq : On q) {t u : N3} (h : J3 p t) (h' : J3 q u) : J3 (addP invP p q) (pl3 t u) := by
  unfold pl3
  by_cases hz : t.2.2 = 0
  · rw [if_pos hz]
    have : p = .inf := (jr_inf h.jr).1 (by rw [hz]; rfl)
    subst this; exact h'
  · rw [if_neg hz]
    by_cases hz2 : u.2.2 = 0
    · rw [if_pos hz2]
      have : q = .inf := (jr_inf h'.jr).1 (by rw [hz2]; rfl)
      subst this; rw [add_inf]; exact h
    · rw [if_neg hz2]
      obtain ⟨a1, a2, a3⟩ := jr_plus fldP hp hq h.jr h'.jr ((zP_ne h.z).1 hz) ((zP_ne h'.z).1 hz2)
      rw [← plH_z, ← plR_z] at a1 a2 a3
      have lH : plH t u < pP := sp_lt _ _
      have lR : plR t u < pP := sp_lt _ _
      by_cases hh : plH t u = 0
      · rw [if_pos hh]
        by_cases hr : plR t u = 0
        · rw [if_pos hr]
          have := a3 (by rw [hh]; rfl) (by rw [hr]; rfl)
          subst this
          exact J3_tw hp h
        · rw [if_neg hr, a2 (by rw [hh]; rfl) ((zP_ne lR).1 hr)]
          exact J3_inf
      · rw [if_neg hh]
        have := a1 ((zP_ne lH).1 hh)
        exact ⟨by simp only [plXn_z, plYn_z, plZn_z, plUn_z, plSn_z]; exact this, sp_lt _ _, sp_lt _ _, mp_lt _ _⟩
theorem J3_dn {p : Pt Kp} {t : N3} (h : J3 p t) : dnR3 t = ofPt p := by
  unfold dnR3
  by_cases hz : t.2.2 = 0
  · rw [if_pos hz]
    have : p = .inf := (jr_inf h.jr).1 (by rw [hz]; rfl)
    subst this; rfl
  · rw [if_neg hz, jr_down fldP h.jr ((zP_ne h.z).1 hz)]
    have hi : invP (zP t.2.2) = zP (powN 0 t.2.2 (pP - 2)) := by unfold invP; rw [zP_val_lt h.z]
    show _ = (false, Fin.val _, Fin.val _)
    rw [hi, ← z_mp, ← z_mp, ← z_mp, ← z_mp, zP_val_lt (mp_lt _ _), zP_val_lt (mp_lt _ _)]
def tmK (n : Nat) (u : N3) : Nat → N3
  | 0 => (1, 1, 0)
  | k + 1 => if bitN n (255 - k) = 1 then pl3 (tw3 (tmK n u k)) u else tw3 (tmK n u k)
theorem J3_tm {p : Pt Kp} (hp : On p) {u : N3} (h : J3 p u) {n : Nat} (hn : n < 2 ^ 256) : ∀ k, k ≤ 256 → J3 (mulP invP (n / 2 ^ (256 - k)) p) (tmK n u k)
  | 0, _ => by
    rw [Nat.sub_zero, Nat.div_eq_of_lt hn]; exact J3_inf
  | k + 1, hk => by
    have ih := J3_tm hp h hn k (by omega)
    have hon := mul_on fldP hp (n / 2 ^ (256 - k))
    have h2 := J3_tw hon ih
    rw [← mulP_two fldP hp] at h2
    have e := pwM_bits (E := n) (k := k) (by omega)
    unfold tmK
    rcases Nat.mod_two_eq_zero_or_one (n / 2 ^ (255 - k)) with h0 | h1
    · have hb : bitN n (255 - k) = 0 := h0
      rw [hb, Nat.add_zero] at e
      rw [hb, if_neg (by decide), e]; exact h2
    · have hb : bitN n (255 - k) = 1 := h1
      rw [hb] at e
      rw [hb, if_pos rfl, e, mulP_add fldP hp 1, mulP_one]
      exact J3_pl (mul_on fldP hp _) hp h2 h
end Go.W
/-
  The document's own answers, package curve: contracts, and the ways of their texts.
-/
namespace Go.W
def mv (a b : Value) : Value := num (mp (unnum a) (unnum b))
def av (a b : Value) : Value := num (ap (unnum a) (unnum b))
def sv (a b : Value) : Value := num (sp (unnum a) (unnum b))
def MvF : List Value → Option (Bool × Value)
  | [x, y] => some (isNum x && isNum y, mv x y)
  | _ => none
def AvF : List Value → Option (Bool × Value)
  | [x, y] => some (isNum x && isNum y, av x y)
  | _ => none
def SvF : List Value → Option (Bool × Value)
  | [x, y] => some (isNum x && isNum y, sv x y)
  | _ => none
def lt6 (X : Nat) : Prop := X < 2 ^ 256
theorem mp_l (a b : Nat) : lt6 (mp a b) := Nat.lt_trans (mp_lt a b) (by decide)
theorem ap_l (a b : Nat) : lt6 (ap a b) := Nat.lt_trans (ap_lt a b) (by decide)
theorem sp_l (a b : Nat) : lt6 (sp a b) := Nat.lt_trans (sp_lt a b) (by decide)
theorem pow_l (a : Nat) : lt6 (powN 0 a (pP - 2)) := powN_lt (by decide)
section
variable {α : Type}
def m2 (a b : Value) (k : Value → Option α) : Option α := r2 a b (k (mv a b))
def a2 (a b : Value) (k : Value → Option α) : Option α := r2 a b (k (av a b))
def s2 (a b : Value) (k : Value → Option α) : Option α := r2 a b (k (sv a b))
theorem m2_num {X Y : Nat} (hX : lt6 X) (hY : lt6 Y) (k : Value → Option α) : m2 (num X) (num Y) k = k (num (mp X Y)) := by unfold m2 mv; rw [r2_num, unnum_lt hX, unnum_lt hY]
theorem a2_num {X Y : Nat} (hX : lt6 X) (hY : lt6 Y) (k : Value → Option α) : a2 (num X) (num Y) k = k (num (ap X Y)) := by unfold a2 av; rw [r2_num, unnum_lt hX, unnum_lt hY]
theorem s2_num {X Y : Nat} (hX : lt6 X) (hY : lt6 Y) (k : Value → Option α) : s2 (num X) (num Y) k = k (num (sp X Y)) := by unfold s2 sv; rw [r2_num, unnum_lt hX, unnum_lt hY]
end
theorem eq0_num {X : Nat} (h : lt6 X) : eqV (num X) (num 0) = decide (X = 0) := by rw [eqV_num, Nat.zero_mod, Nat.mod_eq_of_lt h]
def jac3 (a b c : Value) : Value := .agg (a.cells.toList ++ (b.cells.toList ++ c.cells.toList)).toArray
theorem jac3_num (X Y Z : Nat) : jac3 (num X) (num Y) (num Z) = jacV (X, Y, Z) := rfl
def pt3 (i : Bool) (x y : Value) : Value := .agg (.bool i :: (x.cells.toList ++ y.cells.toList)).toArray
theorem pt3_num (i : Bool) (X Y : Nat) : pt3 i (num X) (num Y) = ptV (i, X, Y) := rfl
def CkF : List Value → Option (Bool × Value)
  | [p] => some (isPt p, .bool (ckR (unPt p)))
  | _ => none
def ckT (i : Bool) (x y : Value) : Option Value :=
  bif i then (bif eqV x (num 0) then some (.bool (eqV y (num 0))) else fls) else
    r2 x (num (primeN 0)) <| bif decide (cI x (num (primeN 0)) < 0) then (r2 y (num (primeN 0)) <| bif decide (cI y (num (primeN 0)) < 0) then
      (m2 y y fun a => m2 x x fun b => m2 b x fun c => a2 c (num 7) fun d => some (.bool (eqV a d))) else fls) else fls
theorem cI_lt {X Y : Nat} (hX : X < 2 ^ 256) (hY : Y < 2 ^ 256) : decide (cI (num X) (num Y) < 0) = decide (X < Y) := by
  rw [cI_num hX hY]; unfold cmpI
  by_cases h : X < Y
  · rw [if_pos h, decide_eq_true h]; rfl
  · rw [if_neg h, decide_eq_false h]; split <;> rfl
theorem ckT_eq {i : Bool} {X Y : Nat} (hX : lt6 X) (hY : lt6 Y) : ckT i (num X) (num Y) = some (.bool (ckR (i, X, Y))) := by
  have hp : pP < 2 ^ 256 := by decide
  have h7 : lt6 7 := by unfold lt6; decide
  unfold ckT ckR
  cases i with
  | true =>
    rw [eq0_num hX, eq0_num hY, if_pos rfl, cond_true]
    by_cases h1 : X = 0
    · rw [decide_eq_true h1, cond_true]
      congr 2
      rw [Bool.eq_iff_iff, decide_eq_true_eq, decide_eq_true_eq]
      exact ⟨fun h => ⟨h1, h⟩, fun h => h.2⟩
    · rw [decide_eq_false h1, show decide ((true, X, Y).2.1 = 0 ∧ (true, X, Y).2.2 = 0) = false from decide_eq_false (fun h : X = 0 ∧ Y = 0 => h1 h.1)]; rfl
  | false =>
    rw [if_neg Bool.false_ne_true, cond_false, prime0, r2_num, r2_num, cI_lt hX hp, cI_lt hY hp]
    simp only [m2_num, a2_num, mp_l, hX, hY, h7]
    by_cases h1 : X < pP
    · rw [decide_eq_true h1, cond_true]
      by_cases h2 : Y < pP
      · rw [decide_eq_true h2, cond_true, eqV_num, Nat.mod_eq_of_lt (mp_l _ _), Nat.mod_eq_of_lt (ap_l _ _)]
        congr 2
        rw [Bool.eq_iff_iff, decide_eq_true_eq, decide_eq_true_eq]
        exact ⟨fun h => ⟨h1, h2, h⟩, fun h => h.2.2⟩
      · rw [decide_eq_false h2, show decide (X < pP ∧ Y < pP ∧ mp Y Y = ap (mp (mp X X) X) 7) = false from decide_eq_false (fun h => h2 h.2.1)]; rfl
    · rw [decide_eq_false h1, show decide (X < pP ∧ Y < pP ∧ mp Y Y = ap (mp (mp X X) X) 7) = false from decide_eq_false (fun h => h1 h.1)]; rfl
def InfF : List Value → Option (Bool × Value)
  | [] => some (true, ptV (true, 0, 0))
  | _ => none
def GF : List Value → Option (Bool × Value)
  | [] => some (true, ptV (false, gXn, gYn))
  | _ => none
def ngR (r : RP) : RP := if r.1 = true then r else (false, r.2.1, sp 0 r.2.2)
def NegRF : List Value → Option (Bool × Value)
  | [p] => some (isPt p, ptV (ngR (unPt p)))
  | _ => none
def ngT (i : Bool) (x y : Value) : Option Value := bif i then some (pt3 i x y) else s2 (num 0) y fun z => some (pt3 i x z)
theorem ngT_eq {i : Bool} {X Y : Nat} (hY : lt6 Y) : ngT i (num X) (num Y) = some (ptV (ngR (i, X, Y))) := by
  unfold ngT ngR
  cases i with
  | true => rfl
  | false => rw [cond_false, s2_num (show lt6 0 by unfold lt6; decide) hY, if_neg Bool.false_ne_true]; rfl
def UpF : List Value → Option (Bool × Value)
  | [p] => some (isPt p, jacV (upJ (unPt p)))
  | _ => none
def upT (i : Bool) (x y : Value) : Option Value := bif i then some (jac3 (num 1) (num 1) (num 0)) else some (jac3 x y (num 1))
theorem upT_eq (i : Bool) (X Y : Nat) : upT i (num X) (num Y) = some (jacV (upJ (i, X, Y))) := by
  unfold upT upJ
  cases i <;> rfl
def DnF : List Value → Option (Bool × Value)
  | [j] => some (isJac j, ptV (dnR3 (unJ j)))
  | _ => none
def dnT (x y z : Value) : Option Value :=
  bif eqV z (num 0) then some (ptV (true, 0, 0)) else req (isNum z) <| (fun i => m2 i i fun ii => m2 x ii fun a => m2 ii i fun iii => m2 y iii fun b => some (pt3 false a b)) (num (powN 0 (unnum z) (pP - 2)))
theorem dnT_eq {X Y Z : Nat} (hX : lt6 X) (hY : lt6 Y) (hZ : lt6 Z) : dnT (num X) (num Y) (num Z) = some (ptV (dnR3 (X, Y, Z))) := by
  unfold dnT dnR3
  rw [eq0_num hZ, isNum_num, req_true rfl, unnum_lt hZ]
  simp only [m2_num, mp_l, pow_l, hX, hY, pt3_num]
  by_cases h : Z = 0
  · rw [decide_eq_true h, if_pos h]; rfl
  · rw [decide_eq_false h, if_neg h]; rfl
def TwF : List Value → Option (Bool × Value)
  | [j] => some (isJac j, jacV (tw3 (unJ j)))
  | _ => none
def twT (x y z : Value) : Option Value :=
  bif eqV z (num 0) then some (jacV (1, 1, 0)) else bif eqV y (num 0) then some (jacV (1, 1, 0)) else
  m2 x x fun a => m2 y y fun b => m2 b b fun c => a2 x b fun t => a2 x b fun u => m2 t u fun d => s2 d a fun d => s2 d c fun d => a2 d d fun d =>
  a2 a a fun e => a2 e a fun e => m2 e e fun f => a2 d d fun g => s2 f g fun X => a2 c c fun c => a2 c c fun c => a2 c c fun c =>
  s2 d X fun h => m2 e h fun k => s2 k c fun Y => m2 y z fun w => a2 w w fun Z => some (jac3 X Y Z)
theorem twT_eq {X Y Z : Nat} (hX : lt6 X) (hY : lt6 Y) (hZ : lt6 Z) : twT (num X) (num Y) (num Z) = some (jacV (tw3 (X, Y, Z))) := by
  unfold twT tw3
  rw [eq0_num hZ, eq0_num hY]
  simp only [m2_num, a2_num, s2_num, mp_l, ap_l, sp_l, hX, hY, hZ, jac3_num]
  by_cases h : Z = 0
  · rw [decide_eq_true h, if_pos (.inl h)]; rfl
  · by_cases h2 : Y = 0
    · rw [decide_eq_false h, decide_eq_true h2, if_pos (.inr h2)]; rfl
    · rw [decide_eq_false h, decide_eq_false h2, if_neg (fun e => e.elim h h2)]; rfl
def PlF : List Value → Option (Bool × Value)
  | [j, k] => some (isJac j && isJac k, jacV (pl3 (unJ j) (unJ k)))
  | _ => none
def plT (x1 y1 z1 x2 y2 z2 : Value) : Option Value :=
  bif eqV z1 (num 0) then some (jac3 x2 y2 z2) else bif eqV z2 (num 0) then some (jac3 x1 y1 z1) else
  m2 z1 z1 fun pp => m2 z2 z2 fun qq => m2 x1 qq fun u => m2 x2 pp fun v => m2 qq z2 fun a => m2 y1 a fun s => m2 pp z1 fun b => m2 y2 b fun t => s2 v u fun h => s2 t s fun r =>
  bif eqV h (num 0) then (bif eqV r (num 0) then req (isJac (jac3 x1 y1 z1)) (some (jacV (tw3 (unJ (jac3 x1 y1 z1))))) else some (jacV (1, 1, 0))) else
  m2 h h fun hh => m2 hh h fun hhh => m2 u hh fun w => m2 r r fun rr => s2 rr hhh fun c => a2 w w fun d => s2 c d fun X => s2 w X fun e => m2 r e fun f => m2 s hhh fun g => s2 f g fun Y =>
  m2 z1 z2 fun k => m2 h k fun Z => some (jac3 X Y Z)
theorem plT_eq {X Y Z X2 Y2 Z2 : Nat} (hX : lt6 X) (hY : lt6 Y) (hZ : lt6 Z) (hX2 : lt6 X2) (hY2 : lt6 Y2) (hZ2 : lt6 Z2) :
    plT (num X) (num Y) (num Z) (num X2) (num Y2) (num Z2) = some (jacV (pl3 (X, Y, Z) (X2, Y2, Z2))) := by
  unfold plT pl3
  rw [eq0_num hZ, eq0_num hZ2]
  simp only [m2_num, a2_num, s2_num, eq0_num, mp_l, ap_l, sp_l, hX, hY, hZ, hX2, hY2, hZ2, jac3_num, isJac_jacV, req_true, unJ_jacV (t := (X, Y, Z)) ⟨hX, hY, hZ⟩]
  show _ = some (jacV (if Z = 0 then (X2, Y2, Z2) else if Z2 = 0 then (X, Y, Z) else if plH (X, Y, Z) (X2, Y2, Z2) = 0 then (if plR (X, Y, Z) (X2, Y2, Z2) = 0 then tw3 (X, Y, Z) else (1, 1, 0)) else _))
  by_cases h : Z = 0
  · rw [decide_eq_true h, if_pos h]; rfl
  · rw [decide_eq_false h, if_neg h, cond_false]
    by_cases h2 : Z2 = 0
    · rw [decide_eq_true h2, if_pos h2]; rfl
    · rw [decide_eq_false h2, if_neg h2, cond_false]
      have eH : sp (mp X2 (mp Z Z)) (mp X (mp Z2 Z2)) = plH (X, Y, Z) (X2, Y2, Z2) := rfl
      have eR : sp (mp Y2 (mp (mp Z Z) Z)) (mp Y (mp (mp Z2 Z2) Z2)) = plR (X, Y, Z) (X2, Y2, Z2) := rfl
      rw [eH, eR]
      by_cases h3 : plH (X, Y, Z) (X2, Y2, Z2) = 0
      · rw [decide_eq_true h3, if_pos h3, cond_true]
        by_cases h4 : plR (X, Y, Z) (X2, Y2, Z2) = 0
        · rw [decide_eq_true h4, if_pos h4]; rfl
        · rw [decide_eq_false h4, if_neg h4]; rfl
      · rw [decide_eq_false h3, if_neg h3]; rfl
end Go.W
/-
  The document's own multiples of points; the statements' helpers.
-/
namespace Go.W
theorem okJ_one : okJ (1, 1, 0) := ⟨by decide, by decide, by decide⟩
theorem okJ_tw (t : N3) : okJ (tw3 t) := by
  unfold tw3; split
  · exact okJ_one
  · exact ⟨sp_l _ _, sp_l _ _, ap_l _ _⟩
theorem okJ_pl {t u : N3} (ht : okJ t) (hu : okJ u) : okJ (pl3 t u) := by
  unfold pl3; split
  · exact hu
  · split
    · exact ht
    · split
      · split
        · exact okJ_tw t
        · exact okJ_one
      · exact ⟨sp_l _ _, sp_l _ _, mp_l _ _⟩
theorem okJ_up {r : RP} (h : okR r) : okJ (upJ r) := by
  unfold upJ; split
  · exact okJ_one
  · exact ⟨h.1, h.2, show 1 < 2 ^ 256 by decide⟩
theorem okJ_tm (n : Nat) {u : N3} (hu : okJ u) : ∀ k, okJ (tmK n u k)
  | 0 => okJ_one
  | k + 1 => by
    unfold tmK; split
    · exact okJ_pl (okJ_tw _) hu
    · exact okJ_tw _
theorem okR_dn (t : N3) : okR (dnR3 t) := by
  unfold dnR3; split
  · exact ⟨by decide, by decide⟩
  · exact ⟨mp_l _ _, mp_l _ _⟩
theorem okR_ng {r : RP} (h : okR r) : okR (ngR r) := by
  unfold ngR; split
  · exact h
  · exact ⟨h.1, sp_l _ _⟩
noncomputable def hide {α : Type} (a : α) : α := Classical.choose (⟨a, rfl⟩ : ∃ x : α, x = a)
theorem hide_eq {α : Type} (a : α) : hide a = a := Classical.choose_spec (⟨a, rfl⟩ : ∃ x : α, x = a)
noncomputable def tmJ (n : Nat) (r : RP) : N3 := hide (tmK n (upJ r) 256)
theorem tmJ_eq (n : Nat) (r : RP) : tmJ n r = tmK n (upJ r) 256 := hide_eq _
noncomputable def TmF : List Value → Option (Bool × Value)
  | [n, p] => some (isNum n && isPt p, jacV (tmJ (unnum n) (unPt p)))
  | _ => none
def ptC (r : RP) : List Value := [.bool r.1, u64 (dig r.2.1 0), u64 (dig r.2.1 1), u64 (dig r.2.1 2), u64 (dig r.2.1 3), u64 (dig r.2.2 0), u64 (dig r.2.2 1), u64 (dig r.2.2 2), u64 (dig r.2.2 3)]
def jacC (t : N3) : List Value := [u64 (dig t.1 0), u64 (dig t.1 1), u64 (dig t.1 2), u64 (dig t.1 3), u64 (dig t.2.1 0), u64 (dig t.2.1 1), u64 (dig t.2.1 2), u64 (dig t.2.1 3), u64 (dig t.2.2 0), u64 (dig t.2.2 1), u64 (dig t.2.2 2), u64 (dig t.2.2 3)]
def tmR {α : Type} (n : Nat) (r : RP) (t : N3) (i : Int) (K : N3 → Option α) : Option α :=
  req (isJac (jacV t)) <| req (isNum (num n)) <| bif bitI (unnum (num n)) i == 1 then
    (req (isPt (ptV r)) <| req (isJac (jacV (tw3 (unJ (jacV t)))) && isJac (jacV (upJ (unPt (ptV r))))) <| K (pl3 (unJ (jacV (tw3 (unJ (jacV t))))) (unJ (jacV (upJ (unPt (ptV r)))))))
    else K (tw3 (unJ (jacV t)))
theorem tmR_eq {α : Type} {n : Nat} (hn : lt6 n) {r : RP} (hr : okR r) {k : Nat} (hk : k < 256) (K : N3 → Option α) : tmR n r (tmK n (upJ r) k) (255 - (k : Int)) K = K (tmK n (upJ r) (k + 1)) := by
  have h1 := okJ_tm n (okJ_up hr) k
  unfold tmR
  rw [isJac_jacV, isJac_jacV, isJac_jacV, isPt_ptV, isNum_num, unnum_lt hn, unPt_ptV hr, unJ_jacV h1, unJ_jacV (okJ_tw _), unJ_jacV (okJ_up hr)]
  rw [show (255 - (k : Int)) = ((255 - k : Nat) : Int) from by omega, bitI_nat (by omega)]
  show (bif ((bitN n (255 - k) : Nat) : Int) == 1 then K (pl3 (tw3 (tmK n (upJ r) k)) (upJ r)) else K (tw3 (tmK n (upJ r) k))) = K (if bitN n (255 - k) = 1 then pl3 (tw3 (tmK n (upJ r) k)) (upJ r) else tw3 (tmK n (upJ r) k))
  rcases Nat.mod_two_eq_zero_or_one (n / 2 ^ (255 - k)) with h0 | h0
  · have hb : bitN n (255 - k) = 0 := h0
    rw [hb, if_neg (by decide)]; rfl
  · have hb : bitN n (255 - k) = 1 := h0
    rw [hb, if_pos rfl]; rfl
noncomputable def sumR (p q : RP) : RP := hide (dnR3 (pl3 (upJ p) (upJ q)))
noncomputable def timR (n : Nat) (p : RP) : RP := hide (dnR3 (tmJ n p))
noncomputable def twoR (n : Nat) (p : RP) (m : Nat) (q : RP) : RP := hide (dnR3 (pl3 (tmJ n p) (tmJ m q)))
noncomputable def SumRF : List Value → Option (Bool × Value)
  | [p, q] => some (isPt p && isPt q, ptV (sumR (unPt p) (unPt q)))
  | _ => none
noncomputable def TimRF : List Value → Option (Bool × Value)
  | [n, p] => some (isNum n && isPt p, ptV (timR (unnum n) (unPt p)))
  | _ => none
noncomputable def BasRF : List Value → Option (Bool × Value)
  | [n] => some (isNum n, ptV (timR (unnum n) (false, gXn, gYn)))
  | _ => none
noncomputable def TwoRF : List Value → Option (Bool × Value)
  | [n, p, m, q] => some (isNum n && isPt p && isNum m && isPt q, ptV (twoR (unnum n) (unPt p) (unnum m) (unPt q)))
  | _ => none
theorem sumR_eq (p q : RP) : sumR p q = dnR3 (pl3 (upJ p) (upJ q)) := hide_eq _
theorem timR_eq (n : Nat) (p : RP) : timR n p = dnR3 (tmK n (upJ p) 256) := by unfold timR; rw [hide_eq, tmJ_eq]
theorem twoR_eq (n : Nat) (p : RP) (m : Nat) (q : RP) : twoR n p m q = dnR3 (pl3 (tmK n (upJ p) 256) (tmK m (upJ q) 256)) := by unfold twoR; rw [hide_eq, tmJ_eq, tmJ_eq]
theorem sumR_ok {p q : RP} (hp : ckR p = true) (hq : ckR q = true) : sumR p q = ofPt (addP invP (toPt p) (toPt q)) := by
  rw [sumR_eq]; exact J3_dn (J3_pl (ck_of hp).1 (ck_of hq).1 (J3_up hp) (J3_up hq))
theorem J3_times {n : Nat} (hn : lt6 n) {p : RP} (hp : ckR p = true) : J3 (mulP invP n (toPt p)) (tmK n (upJ p) 256) := by
  have := J3_tm (ck_of hp).1 (J3_up hp) hn 256 (Nat.le_refl _)
  rwa [Nat.sub_self, Nat.pow_zero, Nat.div_one] at this
theorem timR_ok {n : Nat} (hn : lt6 n) {p : RP} (hp : ckR p = true) : timR n p = ofPt (mulP invP n (toPt p)) := by
  rw [timR_eq]; exact J3_dn (J3_times hn hp)
theorem twoR_ok {n m : Nat} (hn : lt6 n) (hm : lt6 m) {p q : RP} (hp : ckR p = true) (hq : ckR q = true) : twoR n p m q = ofPt (addP invP (mulP invP n (toPt p)) (mulP invP m (toPt q))) := by
  rw [twoR_eq]; exact J3_dn (J3_pl (mul_on fldP (ck_of hp).1 n) (mul_on fldP (ck_of hq).1 m) (J3_times hn hp) (J3_times hm hq))
theorem ngR_ok {p : RP} (hp : ckR p = true) : ngR p = ofPt (negP (toPt p)) := by
  obtain ⟨i, X, Y⟩ := p
  unfold ckR at hp
  cases i with
  | true =>
    rw [if_pos rfl] at hp
    obtain ⟨rfl, rfl⟩ := (show X = 0 ∧ Y = 0 from of_decide_eq_true hp)
    rfl
  | false =>
    rw [if_neg Bool.false_ne_true] at hp
    obtain ⟨hX, hY, _⟩ := (show X < pP ∧ Y < pP ∧ _ from of_decide_eq_true hp)
    show (false, X, sp 0 Y) = (false, (zP X).val, (0 - zP Y : Kp).val)
    have : (0 - zP Y : Kp) = zP (sp 0 Y) := by rw [z_sp, zP_zero]
    rw [this, zP_val_lt hX, zP_val_lt (sp_lt _ _)]
theorem ck_okR {r : RP} (h : ckR r = true) : okR r := by rw [← (ck_of h).2]; exact okR_ofPt _
def gR : RP := (false, gXn, gYn)
theorem gR_ck : ckR gR = true := by
  have := ck_ofPt G_on
  have e : ofPt Gp = gR := by
    show (false, (zP gXn).val, (zP gYn).val) = _
    rw [zP_val_lt (by decide), zP_val_lt (by decide)]; rfl
  rwa [e] at this
theorem gR_pt : toPt gR = Gp := rfl
theorem gR_of : ofPt Gp = gR := by rw [← gR_pt]; exact (ck_of gR_ck).2
end Go.W
/-
  Package curve: what its functions answer; the statements' helpers.
-/
namespace Go.W
def rU (p : Value) (k : N3 → Option Value) : Option Value := req (isPt p) (k (unJ (jacV (upJ (unPt p)))))
def rD (t : N3) : Option Value := req (isJac (jacV t)) (some (ptV (dnR3 (unJ (jacV t)))))
def sumT (p q : Value) : Option Value := req (isPt p) <| req (isPt q) <| req (isJac (jacV (upJ (unPt p))) && isJac (jacV (upJ (unPt q)))) <| rD (pl3 (unJ (jacV (upJ (unPt p)))) (unJ (jacV (upJ (unPt q)))))
theorem rD_eq {t : N3} (h : okJ t) : rD t = some (ptV (dnR3 t)) := by unfold rD; rw [isJac_jacV, req_true rfl, unJ_jacV h]
theorem sumT_eq {p q : RP} (hp : okR p) (hq : okR q) : sumT (ptV p) (ptV q) = some (ptV (sumR p q)) := by
  unfold sumT
  rw [isPt_ptV, isPt_ptV, isJac_jacV, isJac_jacV, unPt_ptV hp, unPt_ptV hq, unJ_jacV (okJ_up hp), unJ_jacV (okJ_up hq), rD_eq (okJ_pl (okJ_up hp) (okJ_up hq)), sumR_eq]; rfl
noncomputable def timT (n p : Value) : Option Value := req (isNum n && isPt p) <| rD (tmJ (unnum n) (unPt p))
theorem timT_eq {n : Nat} (hn : lt6 n) {p : RP} (hp : okR p) : timT (num n) (ptV p) = some (ptV (timR n p)) := by
  unfold timT
  rw [isNum_num, isPt_ptV, unnum_lt hn, unPt_ptV hp, rD_eq (by rw [tmJ_eq]; exact okJ_tm n (okJ_up hp) 256), timR_eq, tmJ_eq]; rfl
noncomputable def twoT (n p m q : Value) : Option Value := req (isNum n && isPt p) <| req (isNum m && isPt q) <| req (isJac (jacV (tmJ (unnum n) (unPt p))) && isJac (jacV (tmJ (unnum m) (unPt q)))) <|
  rD (pl3 (unJ (jacV (tmJ (unnum n) (unPt p)))) (unJ (jacV (tmJ (unnum m) (unPt q)))))
theorem twoT_eq {n m : Nat} (hn : lt6 n) (hm : lt6 m) {p q : RP} (hp : okR p) (hq : okR q) : twoT (num n) (ptV p) (num m) (ptV q) = some (ptV (twoR n p m q)) := by
  have h1 : okJ (tmJ n p) := by rw [tmJ_eq]; exact okJ_tm n (okJ_up hp) 256
  have h2 : okJ (tmJ m q) := by rw [tmJ_eq]; exact okJ_tm m (okJ_up hq) 256
  unfold twoT
  rw [isNum_num, isNum_num, isPt_ptV, isPt_ptV, isJac_jacV, isJac_jacV, unnum_lt hn, unnum_lt hm, unPt_ptV hp, unPt_ptV hq, unJ_jacV h1, unJ_jacV h2, rD_eq (okJ_pl h1 h2), twoR_eq, tmJ_eq, tmJ_eq]; rfl
def KpF : List Value → Option (Bool × Value)
  | [p, q] => some (isPt p && isPt q, .bool (decide (unPt p = unPt q)))
  | _ => none
def kpT (i : Bool) (x y : Value) (i2 : Bool) (x2 y2 : Value) : Option Value := bif i == i2 then (bif eqV x x2 then some (.bool (eqV y y2)) else fls) else fls
theorem kpT_eq {i i2 : Bool} {X Y X2 Y2 : Nat} (h : okR (i, X, Y)) (h2 : okR (i2, X2, Y2)) : kpT i (num X) (num Y) i2 (num X2) (num Y2) = some (.bool (decide ((i, X, Y) = (i2, X2, Y2)))) := by
  unfold kpT
  rw [eqV_num, eqV_num, Nat.mod_eq_of_lt h.1, Nat.mod_eq_of_lt h.2, Nat.mod_eq_of_lt h2.1, Nat.mod_eq_of_lt h2.2]
  by_cases h3 : i = i2
  · rw [beq_iff_eq.2 h3, cond_true]
    by_cases h4 : X = X2
    · rw [decide_eq_true h4, cond_true]
      congr 2
      rw [Bool.eq_iff_iff, decide_eq_true_eq, decide_eq_true_eq]
      constructor
      · intro h5; rw [h3, h4, show Y = Y2 from h5]
      · intro h5; exact (Prod.mk.inj (Prod.mk.inj h5).2).2
    · rw [decide_eq_false h4, decide_eq_false (fun e => h4 (Prod.mk.inj (Prod.mk.inj e).2).1)]; rfl
  · rw [beq_eq_false_iff_ne.2 h3, decide_eq_false (fun e => h3 (Prod.mk.inj e).1)]; rfl
def zR : RP := (false, 0, 0)
theorem okR_z : okR zR := ⟨by decide, by decide⟩
def likB (p : RP) (e : Int) (ok : Bool) (want : RP) : Bool := if ok = true then decide (e = 0 ∧ p = want) else decide (e = 3 ∧ p = zR)
def LikF : List Value → Option (Bool × Value)
  | [p, .int .i64 e, .bool ok, want] => some (isPt p && isPt want, .bool (likB (unPt p) e ok (unPt want)))
  | _ => none
def likT (p : Value) (e : Int) (ok : Bool) (want : Value) : Option Value :=
  bif !ok then (bif e == 3 then (req (isPt p && isPt (ptV zR)) (some (.bool (decide (unPt p = unPt (ptV zR)))))) else fls) else
    bif e == 0 then (req (isPt p && isPt want) (some (.bool (decide (unPt p = unPt want))))) else fls
theorem likT_eq {p want : RP} (hp : okR p) (hw : okR want) (e : Int) (ok : Bool) : likT (ptV p) e ok (ptV want) = some (.bool (likB p e ok want)) := by
  unfold likT likB
  rw [isPt_ptV, isPt_ptV, isPt_ptV, unPt_ptV hp, unPt_ptV hw, unPt_ptV okR_z]
  cases ok with
  | false =>
    rw [if_neg Bool.false_ne_true, Bool.not_false, cond_true]
    by_cases h : e = 3
    · rw [beq_iff_eq.2 h, cond_true, req_true (b := true && true) rfl]
      congr 2
      rw [Bool.eq_iff_iff, decide_eq_true_eq, decide_eq_true_eq]
      exact ⟨fun h2 => ⟨h, h2⟩, fun h2 => h2.2⟩
    · rw [beq_eq_false_iff_ne.2 h, show decide (e = 3 ∧ p = zR) = false from decide_eq_false (fun h2 => h h2.1)]; rfl
  | true =>
    rw [if_pos rfl, Bool.not_true, cond_false]
    by_cases h : e = 0
    · rw [beq_iff_eq.2 h, cond_true, req_true (b := true && true) rfl]
      congr 2
      rw [Bool.eq_iff_iff, decide_eq_true_eq, decide_eq_true_eq]
      exact ⟨fun h2 => ⟨h, h2⟩, fun h2 => h2.2⟩
    · rw [beq_eq_false_iff_ne.2 h, show decide (e = 0 ∧ p = want) = false from decide_eq_false (fun h2 => h h2.1)]; rfl
noncomputable def negS (p : RP) : RP := hide (ofPt (negP (toPt p)))
noncomputable def addS (p q : RP) : RP := hide (ofPt (addP invP (toPt p) (toPt q)))
noncomputable def timS (n : Nat) (p : RP) : RP := hide (ofPt (mulP invP n (toPt p)))
noncomputable def basS (n : Nat) : RP := hide (ofPt (mulP invP n Gp))
noncomputable def twoS (n : Nat) (p : RP) (m : Nat) (q : RP) : RP := hide (ofPt (addP invP (mulP invP n (toPt p)) (mulP invP m (toPt q))))
def errP (b : Bool) : Int := if b = true then 0 else 3
def ansP (b : Bool) (r : RP) : Value := .tuple #[ptV (if b = true then r else zR), i64 (errP b)]
def CChkF : List Value → Option (Bool × Value)
  | [p] => some (isPt p, i64 (errP (ckR (unPt p))))
  | _ => none
noncomputable def CNegF : List Value → Option (Bool × Value)
  | [p] => some (isPt p, ansP (ckR (unPt p)) (negS (unPt p)))
  | _ => none
noncomputable def CAddF : List Value → Option (Bool × Value)
  | [p, q] => some (isPt p && isPt q, ansP (ckR (unPt p) && ckR (unPt q)) (addS (unPt p) (unPt q)))
  | _ => none
noncomputable def CTimF : List Value → Option (Bool × Value)
  | [n, p] => some (isNum n && isPt p, ansP (ckR (unPt p)) (timS (unnum n) (unPt p)))
  | _ => none
noncomputable def CBasF : List Value → Option (Bool × Value)
  | [n] => some (isNum n, ptV (basS (unnum n)))
  | _ => none
noncomputable def CTwoF : List Value → Option (Bool × Value)
  | [n, p, m, q] => some (isNum n && isPt p && isNum m && isPt q, ansP (ckR (unPt p) && ckR (unPt q)) (twoS (unnum n) (unPt p) (unnum m) (unPt q)))
  | _ => none
theorem okR_neg (p : RP) : okR (negS p) := by unfold negS; rw [hide_eq]; exact okR_ofPt _
theorem okR_add (p q : RP) : okR (addS p q) := by unfold addS; rw [hide_eq]; exact okR_ofPt _
theorem okR_tim (n : Nat) (p : RP) : okR (timS n p) := by unfold timS; rw [hide_eq]; exact okR_ofPt _
theorem okR_bas (n : Nat) : okR (basS n) := by unfold basS; rw [hide_eq]; exact okR_ofPt _
theorem okR_two (n : Nat) (p : RP) (m : Nat) (q : RP) : okR (twoS n p m q) := by unfold twoS; rw [hide_eq]; exact okR_ofPt _
theorem okR_ans {b : Bool} {r : RP} (h : okR r) : okR (if b = true then r else zR) := by split; exact h; exact okR_z
theorem ck_neg {p : RP} (h : ckR p = true) : ckR (negS p) = true := by unfold negS; rw [hide_eq]; exact ck_ofPt (neg_on (ck_of h).1)
theorem ck_add {p q : RP} (h : ckR p = true) (h2 : ckR q = true) : ckR (addS p q) = true := by unfold addS; rw [hide_eq]; exact ck_ofPt (add_on fldP (ck_of h).1 (ck_of h2).1)
theorem ck_tim (n : Nat) {p : RP} (h : ckR p = true) : ckR (timS n p) = true := by unfold timS; rw [hide_eq]; exact ck_ofPt (mul_on fldP (ck_of h).1 n)
theorem ck_bas (n : Nat) : ckR (basS n) = true := by unfold basS; rw [hide_eq]; exact ck_ofPt (mul_on fldP G_on n)
theorem ck_two (n m : Nat) {p q : RP} (h : ckR p = true) (h2 : ckR q = true) : ckR (twoS n p m q) = true := by unfold twoS; rw [hide_eq]; exact ck_ofPt (add_on fldP (mul_on fldP (ck_of h).1 n) (mul_on fldP (ck_of h2).1 m))
theorem pt_neg (p : RP) : toPt (negS p) = negP (toPt p) := by unfold negS; rw [hide_eq, toPt_ofPt]
theorem pt_add (p q : RP) : toPt (addS p q) = addP invP (toPt p) (toPt q) := by unfold addS; rw [hide_eq, toPt_ofPt]
theorem pt_tim (n : Nat) (p : RP) : toPt (timS n p) = mulP invP n (toPt p) := by unfold timS; rw [hide_eq, toPt_ofPt]
theorem pt_bas (n : Nat) : toPt (basS n) = mulP invP n Gp := by unfold basS; rw [hide_eq, toPt_ofPt]
theorem pt_two (n : Nat) (p : RP) (m : Nat) (q : RP) : toPt (twoS n p m q) = addP invP (mulP invP n (toPt p)) (mulP invP m (toPt q)) := by unfold twoS; rw [hide_eq, toPt_ofPt]
theorem rp_ext {p q : RP} (hp : ckR p = true) (hq : ckR q = true) (h : toPt p = toPt q) : p = q := by rw [← (ck_of hp).2, ← (ck_of hq).2, h]
end Go.W
/-
  The statements of package curve that ask for no bytes, as trees over points.
-/
namespace Go.W
def qCk (p : Value) (k : Bool → Option Value) : Option Value := req (isPt p) (k (ckR (unPt p)))
def qChk (p : Value) (k : Int → Option Value) : Option Value := req (isPt p) (k (errP (ckR (unPt p))))
noncomputable def qNeg (p : Value) (k : Value → Int → Option Value) : Option Value := req (isPt p) (k (ptV (if ckR (unPt p) = true then negS (unPt p) else zR)) (errP (ckR (unPt p))))
noncomputable def qAdd (p q : Value) (k : Value → Int → Option Value) : Option Value := req (isPt p && isPt q) (k (ptV (if (ckR (unPt p) && ckR (unPt q)) = true then addS (unPt p) (unPt q) else zR)) (errP (ckR (unPt p) && ckR (unPt q))))
noncomputable def qTim (n p : Value) (k : Value → Int → Option Value) : Option Value := req (isNum n && isPt p) (k (ptV (if ckR (unPt p) = true then timS (unnum n) (unPt p) else zR)) (errP (ckR (unPt p))))
noncomputable def qBas (n : Value) (k : Value → Option Value) : Option Value := req (isNum n) (k (ptV (basS (unnum n))))
noncomputable def qTwo (n p m q : Value) (k : Value → Int → Option Value) : Option Value :=
  req (isNum n && isPt p && isNum m && isPt q) (k (ptV (if (ckR (unPt p) && ckR (unPt q)) = true then twoS (unnum n) (unPt p) (unnum m) (unPt q) else zR)) (errP (ckR (unPt p) && ckR (unPt q))))
def qKp (p q : Value) (k : Bool → Option Value) : Option Value := req (isPt p && isPt q) (k (decide (unPt p = unPt q)))
def qLik (p : Value) (e : Int) (ok : Bool) (w : Value) (k : Bool → Option Value) : Option Value := req (isPt p && isPt w) (k (likB (unPt p) e ok (unPt w)))
def qNegR (p : Value) (k : Value → Option Value) : Option Value := req (isPt p) (k (ptV (ngR (unPt p))))
noncomputable def qTimR (n p : Value) (k : Value → Option Value) : Option Value := req (isNum n && isPt p) (k (ptV (timR (unnum n) (unPt p))))
noncomputable def qSumR (p q : Value) (k : Value → Option Value) : Option Value := req (isPt p && isPt q) (k (ptV (sumR (unPt p) (unPt q))))
noncomputable def qTwoR (n p m q : Value) (k : Value → Option Value) : Option Value := req (isNum n && isPt p && isNum m && isPt q) (k (ptV (twoR (unnum n) (unPt p) (unnum m) (unPt q))))
noncomputable def qBasR (n : Value) (k : Value → Option Value) : Option Value := req (isNum n) (k (ptV (timR (unnum n) (false, gXn, gYn))))
def ptB (p : Value) : Bool := hdB p.cells.toList
theorem qCk_pt {p : RP} (h : okR p) (k : Bool → Option Value) : qCk (ptV p) k = k (ckR p) := by unfold qCk; rw [isPt_ptV, req_true rfl, unPt_ptV h]
theorem qChk_pt {p : RP} (h : okR p) (k : Int → Option Value) : qChk (ptV p) k = k (errP (ckR p)) := by unfold qChk; rw [isPt_ptV, req_true rfl, unPt_ptV h]
theorem qNeg_pt {p : RP} (h : okR p) (k : Value → Int → Option Value) : qNeg (ptV p) k = k (ptV (if ckR p = true then negS p else zR)) (errP (ckR p)) := by unfold qNeg; rw [isPt_ptV, req_true rfl, unPt_ptV h]
theorem qAdd_pt {p q : RP} (h : okR p) (h2 : okR q) (k : Value → Int → Option Value) : qAdd (ptV p) (ptV q) k = k (ptV (if (ckR p && ckR q) = true then addS p q else zR)) (errP (ckR p && ckR q)) := by
  unfold qAdd; rw [isPt_ptV, isPt_ptV, req_true (b := true && true) rfl, unPt_ptV h, unPt_ptV h2]
theorem qTim_pt {n : Nat} {p : RP} (hn : lt6 n) (h : okR p) (k : Value → Int → Option Value) : qTim (num n) (ptV p) k = k (ptV (if ckR p = true then timS n p else zR)) (errP (ckR p)) := by
  unfold qTim; rw [isNum_num, isPt_ptV, req_true (b := true && true) rfl, unPt_ptV h, unnum_lt hn]
theorem qBas_pt {n : Nat} (hn : lt6 n) (k : Value → Option Value) : qBas (num n) k = k (ptV (basS n)) := by unfold qBas; rw [isNum_num, req_true rfl, unnum_lt hn]
theorem qTwo_pt {n m : Nat} {p q : RP} (hn : lt6 n) (hm : lt6 m) (h : okR p) (h2 : okR q) (k : Value → Int → Option Value) : qTwo (num n) (ptV p) (num m) (ptV q) k = k (ptV (if (ckR p && ckR q) = true then twoS n p m q else zR)) (errP (ckR p && ckR q)) := by
  unfold qTwo; rw [isNum_num, isNum_num, isPt_ptV, isPt_ptV, req_true (b := true && true && true && true) rfl, unPt_ptV h, unPt_ptV h2, unnum_lt hn, unnum_lt hm]
theorem qKp_pt {p q : RP} (h : okR p) (h2 : okR q) (k : Bool → Option Value) : qKp (ptV p) (ptV q) k = k (decide (p = q)) := by unfold qKp; rw [isPt_ptV, isPt_ptV, req_true (b := true && true) rfl, unPt_ptV h, unPt_ptV h2]
theorem qLik_pt {p w : RP} (h : okR p) (h2 : okR w) (e : Int) (ok : Bool) (k : Bool → Option Value) : qLik (ptV p) e ok (ptV w) k = k (likB p e ok w) := by
  unfold qLik; rw [isPt_ptV, isPt_ptV, req_true (b := true && true) rfl, unPt_ptV h, unPt_ptV h2]
theorem qNegR_pt {p : RP} (h : okR p) (k : Value → Option Value) : qNegR (ptV p) k = k (ptV (ngR p)) := by unfold qNegR; rw [isPt_ptV, req_true rfl, unPt_ptV h]
theorem qTimR_pt {n : Nat} {p : RP} (hn : lt6 n) (h : okR p) (k : Value → Option Value) : qTimR (num n) (ptV p) k = k (ptV (timR n p)) := by
  unfold qTimR; rw [isNum_num, isPt_ptV, req_true (b := true && true) rfl, unPt_ptV h, unnum_lt hn]
theorem qSumR_pt {p q : RP} (h : okR p) (h2 : okR q) (k : Value → Option Value) : qSumR (ptV p) (ptV q) k = k (ptV (sumR p q)) := by unfold qSumR; rw [isPt_ptV, isPt_ptV, req_true (b := true && true) rfl, unPt_ptV h, unPt_ptV h2]
theorem qTwoR_pt {n m : Nat} {p q : RP} (hn : lt6 n) (hm : lt6 m) (h : okR p) (h2 : okR q) (k : Value → Option Value) : qTwoR (num n) (ptV p) (num m) (ptV q) k = k (ptV (twoR n p m q)) := by
  unfold qTwoR; rw [isNum_num, isNum_num, isPt_ptV, isPt_ptV, req_true (b := true && true && true && true) rfl, unPt_ptV h, unPt_ptV h2, unnum_lt hn, unnum_lt hm]
theorem qBasR_pt {n : Nat} (hn : lt6 n) (k : Value → Option Value) : qBasR (num n) k = k (ptV (timR n gR)) := by unfold qBasR; rw [isNum_num, req_true rfl, unnum_lt hn]; rfl
theorem qNeg_ck {p : RP} (h : ckR p = true) (k : Value → Int → Option Value) : qNeg (ptV p) k = k (ptV (negS p)) 0 := by rw [qNeg_pt (ck_okR h), if_pos h, h]; rfl
theorem qAdd_ck {p q : RP} (h : ckR p = true) (h2 : ckR q = true) (k : Value → Int → Option Value) : qAdd (ptV p) (ptV q) k = k (ptV (addS p q)) 0 := by rw [qAdd_pt (ck_okR h) (ck_okR h2), h, h2]; rfl
theorem qTim_ck {n : Nat} {p : RP} (hn : lt6 n) (h : ckR p = true) (k : Value → Int → Option Value) : qTim (num n) (ptV p) k = k (ptV (timS n p)) 0 := by rw [qTim_pt hn (ck_okR h), if_pos h, h]; rfl
theorem qTwo_ck {n m : Nat} {p q : RP} (hn : lt6 n) (hm : lt6 m) (h : ckR p = true) (h2 : ckR q = true) (k : Value → Int → Option Value) : qTwo (num n) (ptV p) (num m) (ptV q) k = k (ptV (twoS n p m q)) 0 := by
  rw [qTwo_pt hn hm (ck_okR h) (ck_okR h2), h, h2]; rfl
theorem qChk_ck {p : RP} (h : ckR p = true) (k : Int → Option Value) : qChk (ptV p) k = k 0 := by rw [qChk_pt (ck_okR h), h]; rfl
theorem qKp_eq {p q : RP} (h : ckR p = true) (h2 : ckR q = true) (e : toPt p = toPt q) (k : Bool → Option Value) : qKp (ptV p) (ptV q) k = k true := by
  rw [qKp_pt (ck_okR h) (ck_okR h2), decide_eq_true (rp_ext h h2 e)]
theorem ptB_pt (r : RP) : ptB (ptV r) = r.1 := rfl
theorem inf_iff {r : RP} : toPt r = .inf ↔ r.1 = true := by
  unfold toPt; split
  · rename_i h; exact ⟨fun _ => h, fun _ => rfl⟩
  · rename_i h; exact ⟨fun e => (by cases e), fun e => absurd e h⟩
theorem ptB_inf {r : RP} (h : toPt r = .inf) : ptB (ptV r) = true := inf_iff.1 h
theorem errP_true : errP true = 0 := rfl
theorem errP_false : errP false = 3 := rfl
theorem negS_ok {p : RP} (h : ckR p = true) : negS p = ngR p := by unfold negS; rw [hide_eq, ngR_ok h]
theorem addS_ok {p q : RP} (h : ckR p = true) (h2 : ckR q = true) : addS p q = sumR p q := by unfold addS; rw [hide_eq, sumR_ok h h2]
theorem timS_ok {n : Nat} (hn : lt6 n) {p : RP} (h : ckR p = true) : timS n p = timR n p := by unfold timS; rw [hide_eq, timR_ok hn h]
theorem basS_ok {n : Nat} (hn : lt6 n) : basS n = timR n gR := by unfold basS; rw [hide_eq, timR_ok hn gR_ck, gR_pt]
theorem twoS_ok {n m : Nat} (hn : lt6 n) (hm : lt6 m) {p q : RP} (h : ckR p = true) (h2 : ckR q = true) : twoS n p m q = twoR n p m q := by unfold twoS; rw [hide_eq, twoR_ok hn hm h h2]
theorem likB_no (w : RP) : likB zR 3 false w = true := by unfold likB; rw [if_neg Bool.false_ne_true]; exact decide_eq_true ⟨rfl, rfl⟩
theorem likB_yes (p : RP) : likB p 0 true p = true := by unfold likB; rw [if_pos rfl]; exact decide_eq_true ⟨rfl, rfl⟩
theorem okR_tR (n : Nat) (p : RP) : okR (timR n p) := by rw [timR_eq]; exact okR_dn _
theorem okR_sR (p q : RP) : okR (sumR p q) := by rw [sumR_eq]; exact okR_dn _
theorem okR_wR (n : Nat) (p : RP) (m : Nat) (q : RP) : okR (twoR n p m q) := by rw [twoR_eq]; exact okR_dn _
theorem lt6_0 : lt6 0 := by unfold lt6; decide
theorem lt6_1 : lt6 1 := by unfold lt6; decide
theorem lt6_2 : lt6 2 := by unfold lt6; decide
theorem lt6_3 : lt6 3 := by unfold lt6; decide
theorem mul_modN (n : Nat) : mulP invP (n % pN) Gp = mulP invP n Gp := mulP_mod fldP G_on G_order n
theorem mul_modN2 (n k : Nat) : mulP invP (n % pN) (mulP invP k Gp) = mulP invP n (mulP invP k Gp) := by
  refine mulP_mod fldP (mul_on fldP G_on k) ?_ n
  rw [← mulP_mul fldP G_on, Nat.mul_comm, mulP_mul fldP G_on, G_order, mulP_inf]
theorem add1_eq {n m : Nat} (hn : lt6 n) (hm : lt6 m) : fA 1 (num n) (num m) = num ((n + m) % pN) := by unfold fA; rw [unnum_lt hn, unnum_lt hm, faddN_ok (w := 1) rfl]; rfl
theorem mul1_eq {n m : Nat} (hn : lt6 n) (hm : lt6 m) : fM 1 (num n) (num m) = num (n * m % pN) := by unfold fM; rw [unnum_lt hn, unnum_lt hm, fmulN_ok (w := 1) rfl]; rfl
theorem fS0_eq {A B : Nat} (hA : lt6 A) (hB : lt6 B) : fS 0 (num A) (num B) = num (sp A B) := by unfold fS; rw [unnum_lt hA, unnum_lt hB]; rfl
theorem fM0_eq {A B : Nat} (hA : lt6 A) (hB : lt6 B) : fM 0 (num A) (num B) = num (mp A B) := by unfold fM; rw [unnum_lt hA, unnum_lt hB]; rfl
end Go.W
/-
  Package curve as it landed: sums over the powers of a third number.
-/
namespace Go.W
def TrnF : List Value → Option (Bool × Value)
  | [a] => some (isNum a, sv (num 0) a)
  | _ => none
def LowPF : List Value → Option (Bool × Value)
  | [a] => some (isNum a, .bool (decide (unnum a < pP)))
  | _ => none
def sqN (X : Nat) : Nat := ap (mp (mp X X) X) 7
def SqAF : List Value → Option (Bool × Value)
  | [a] => some (isNum a, num (sqN (unnum a)))
  | _ => none
def sqT (x : Value) : Option Value := m2 x x fun b => m2 b x fun c => a2 c (num 7) fun d => some d
theorem lt6_7 : lt6 7 := by unfold lt6; decide
theorem sqT_eq {X : Nat} (hX : lt6 X) : sqT (num X) = some (num (sqN X)) := by
  unfold sqT; simp only [m2_num, a2_num, mp_l, hX, lt6_7]; rfl
def lowPT (x : Value) : Option Value := r2 x (num (primeN 0)) <| some (.bool (decide (cI x (num (primeN 0)) < 0)))
theorem lowPT_eq {X : Nat} (hX : lt6 X) : lowPT (num X) = some (.bool (decide (X < pP))) := by
  have hp : pP < 2 ^ 256 := by decide
  unfold lowPT; rw [prime0, r2_num, cI_lt hX hp]
theorem eqV_pt {r s : RP} (h : okR r) (h2 : okR s) : eqV (ptV r) (ptV s) = decide (r = s) := by
  obtain ⟨i, X, Y⟩ := r
  obtain ⟨j, A, B⟩ := s
  have e : eqV (ptV (i, X, Y)) (ptV (j, A, B)) = ((i == j) && (eqV (num X) (num A) && eqV (num Y) (num B))) := by
    show ((i == j) && eqL [u64 (dig X 0), u64 (dig X 1), u64 (dig X 2), u64 (dig X 3), u64 (dig Y 0), u64 (dig Y 1), u64 (dig Y 2), u64 (dig Y 3)] [u64 (dig A 0), u64 (dig A 1), u64 (dig A 2), u64 (dig A 3), u64 (dig B 0), u64 (dig B 1), u64 (dig B 2), u64 (dig B 3)]) =
      ((i == j) && (eqL [u64 (dig X 0), u64 (dig X 1), u64 (dig X 2), u64 (dig X 3)] [u64 (dig A 0), u64 (dig A 1), u64 (dig A 2), u64 (dig A 3)] && eqL [u64 (dig Y 0), u64 (dig Y 1), u64 (dig Y 2), u64 (dig Y 3)] [u64 (dig B 0), u64 (dig B 1), u64 (dig B 2), u64 (dig B 3)]))
    simp only [eqL_u64, eqL, Bool.and_true, Bool.and_assoc]
  rw [e, eqV_num, eqV_num, Nat.mod_eq_of_lt h.1, Nat.mod_eq_of_lt h.2, Nat.mod_eq_of_lt h2.1, Nat.mod_eq_of_lt h2.2, Bool.eq_iff_iff]
  simp only [Bool.and_eq_true, beq_iff_eq, decide_eq_true_eq, Prod.mk.injEq]
def isPT (i : Bool) (x y : Value) : Option Value :=
  bif i then some (.bool (eqV (pt3 i x y) (ptV (true, 0, 0)))) else
    req (isNum x) <| bif decide (unnum x < pP) then (req (isNum y) <| bif decide (unnum y < pP) then (m2 y y fun a => req (isNum x) <| some (.bool (eqV a (num (sqN (unnum x)))))) else fls) else fls
theorem isPT_eq {i : Bool} {X Y : Nat} (hX : lt6 X) (hY : lt6 Y) : isPT i (num X) (num Y) = some (.bool (ckR (i, X, Y))) := by
  unfold isPT ckR
  cases i with
  | true =>
    rw [if_pos rfl, cond_true, pt3_num, eqV_pt (r := (true, X, Y)) (s := (true, 0, 0)) ⟨hX, hY⟩ ⟨lt6_0, lt6_0⟩]
    congr 2
    rw [Bool.eq_iff_iff, decide_eq_true_eq, decide_eq_true_eq]
    constructor
    · intro e; exact ⟨(Prod.mk.inj (Prod.mk.inj e).2).1, (Prod.mk.inj (Prod.mk.inj e).2).2⟩
    · rintro ⟨h1, h2⟩; rw [show X = 0 from h1, show Y = 0 from h2]
  | false =>
    rw [if_neg Bool.false_ne_true, cond_false, isNum_num, isNum_num, req_true rfl, req_true rfl, unnum_lt hX, unnum_lt hY, m2_num hY hY, req_true rfl]
    by_cases h1 : X < pP
    · rw [decide_eq_true h1, cond_true]
      by_cases h2 : Y < pP
      · rw [decide_eq_true h2, cond_true, eqV_num, Nat.mod_eq_of_lt (mp_l _ _), Nat.mod_eq_of_lt (show sqN X < 2 ^ 256 from ap_l _ _)]
        congr 2
        rw [Bool.eq_iff_iff, decide_eq_true_eq, decide_eq_true_eq]
        exact ⟨fun h => ⟨h1, h2, h⟩, fun h => h.2.2⟩
      · rw [decide_eq_false h2, show decide (X < pP ∧ Y < pP ∧ mp Y Y = ap (mp (mp X X) X) 7) = false from decide_eq_false (fun h => h2 h.2.1)]; rfl
    · rw [decide_eq_false h1, show decide (X < pP ∧ Y < pP ∧ mp Y Y = ap (mp (mp X X) X) 7) = false from decide_eq_false (fun h => h1 h.1)]; rfl
def lfJ (r : RP) : N3 := if r.1 = true then (0, 0, 0) else (r.2.1, r.2.2, 1)
theorem J3_inf0 : J3 .inf (0, 0, 0) := ⟨.inl ⟨rfl, rfl⟩, prime_pos.1, prime_pos.1, prime_pos.1⟩
theorem J3_lf {r : RP} (h : ckR r = true) : J3 (toPt r) (lfJ r) := by
  obtain ⟨i, X, Y⟩ := r
  cases i with
  | true => exact J3_inf0
  | false => exact J3_up h
def LiftF : List Value → Option (Bool × Value)
  | [p] => some (isPt p, jacV (lfJ (unPt p)))
  | _ => none
def lfT (i : Bool) (x y : Value) : Option Value := bif i then some (jac3 (num 0) (num 0) (num 0)) else some (jac3 x y (num 1))
theorem lfT_eq (i : Bool) (X Y : Nat) : lfT i (num X) (num Y) = some (jacV (lfJ (i, X, Y))) := by
  unfold lfT lfJ; cases i <;> rfl
def IsIF : List Value → Option (Bool × Value)
  | [j] => some (isJac j, .bool (decide ((unJ j).2.2 = 0)))
  | _ => none
def isIT (z : Value) : Option Value := some (.bool (eqV z (num 0)))
theorem isIT_eq {Z : Nat} (hZ : lt6 Z) : isIT (num Z) = some (.bool (decide (Z = 0))) := by unfold isIT; rw [eq0_num hZ]
def ptR (t : N3) : RP := if t.2.2 = 0 then (true, 0, 0) else
  (false, mp t.1 (mp (powN 0 t.2.2 (pP - 2)) (powN 0 t.2.2 (pP - 2))), mp t.2.1 (mp (powN 0 t.2.2 (pP - 2)) (mp (powN 0 t.2.2 (pP - 2)) (powN 0 t.2.2 (pP - 2)))))
theorem mp_comm (a b : Nat) : mp a b = mp b a := by rw [mp_eq, mp_eq, Nat.mul_comm]
theorem J3_pt {p : Pt Kp} {t : N3} (h : J3 p t) : ptR t = ofPt p := by
  rw [← J3_dn h]; unfold ptR dnR3
  rw [mp_comm (powN 0 t.2.2 (pP - 2)) (mp _ _)]
def PtF : List Value → Option (Bool × Value)
  | [j] => some (isJac j, ptV (ptR (unJ j)))
  | _ => none
def ptT (x y z : Value) : Option Value :=
  req (isJac (jac3 x y z)) <| bif decide ((unJ (jac3 x y z)).2.2 = 0) then some (ptV (true, 0, 0)) else req (isNum z) <| (fun i => m2 i i fun ii => m2 x ii fun a => m2 i ii fun iii => m2 y iii fun b => some (pt3 false a b)) (num (powN 0 (unnum z) (pP - 2)))
theorem ptT_eq {X Y Z : Nat} (hX : lt6 X) (hY : lt6 Y) (hZ : lt6 Z) : ptT (num X) (num Y) (num Z) = some (ptV (ptR (X, Y, Z))) := by
  unfold ptT ptR
  rw [jac3_num, isJac_jacV, req_true rfl, unJ_jacV (t := (X, Y, Z)) ⟨hX, hY, hZ⟩, isNum_num, req_true rfl, unnum_lt hZ]
  simp only [m2_num, mp_l, pow_l, hX, hY, pt3_num]
  by_cases h : Z = 0
  · rw [decide_eq_true h, if_pos h]; rfl
  · rw [decide_eq_false h, if_neg h]; rfl
def dbS (x y : Nat) : Nat := mp x (mp (ap y y) (ap y y))
def dbM (x : Nat) : Nat := ap (mp x x) (ap (mp x x) (mp x x))
def dbX (x y : Nat) : Nat := sp (mp (dbM x) (dbM x)) (ap (dbS x y) (dbS x y))
def dbY (x y : Nat) : Nat := sp (mp (dbM x) (sp (dbS x y) (dbX x y))) (mp (mp (mp (ap y y) (ap y y)) (ap y y)) y)
def dbZ (y z : Nat) : Nat := mp (ap y y) z
def db3 (t : N3) : N3 := (dbX t.1 t.2.1, dbY t.1 t.2.1, dbZ t.2.1 t.2.2)
section
variable {P0 : Nat} [NeZero P0]
theorem d1 (x y : Fin P0) : (x * x + (x * x + x * x)) * (x * x + (x * x + x * x)) - (x * ((y + y) * (y + y)) + x * ((y + y) * (y + y))) = twX x y := by unfold twX; grind
theorem d2 (x y : Fin P0) : (x * x + (x * x + x * x)) * (x * ((y + y) * (y + y)) - twX x y) - (y + y) * (y + y) * (y + y) * y = twY x y := by unfold twY; generalize twX x y = w; grind
theorem d3 (y z : Fin P0) : (y + y) * z = twZ y z := by unfold twZ; grind
end
theorem dbX_z (x y : Nat) : zP (dbX x y) = twX (zP x) (zP y) := by unfold dbX dbM dbS; simp only [z_mp, z_ap, z_sp]; exact d1 _ _
theorem dbY_z (x y : Nat) : zP (dbY x y) = twY (zP x) (zP y) := by unfold dbY; simp only [z_mp, z_ap, z_sp, dbX_z]; unfold dbM dbS; simp only [z_mp, z_ap]; exact d2 _ _
theorem dbZ_z (y z : Nat) : zP (dbZ y z) = twZ (zP y) (zP z) := by unfold dbZ; simp only [z_mp, z_ap]; exact d3 _ _
theorem J3_db {p : Pt Kp} (hp : On p) {t : N3} (h : J3 p t) : J3 (addP invP p p) (db3 t) := by
  by_cases hz : t.2.2 = 0
  · have : p = .inf := (jr_inf h.jr).1 (by rw [hz]; rfl)
    subst this
    refine ⟨.inl ⟨?_, rfl⟩, sp_lt _ _, sp_lt _ _, mp_lt _ _⟩
    show zP (dbZ t.2.1 t.2.2) = 0
    rw [hz]; unfold dbZ; rw [mp_eq, Nat.mul_zero]; rfl
  · obtain ⟨h1, _⟩ := jr_twice fldP hp h.jr ((zP_ne h.z).1 hz)
    exact ⟨by unfold db3; simp only [dbX_z, dbY_z, dbZ_z]; exact h1, sp_lt _ _, sp_lt _ _, mp_lt _ _⟩
def DblF : List Value → Option (Bool × Value)
  | [j] => some (isJac j, jacV (db3 (unJ j)))
  | _ => none
def dbT (x y z : Value) : Option Value :=
  a2 y y fun tw => m2 tw tw fun sq => m2 x sq fun s => m2 x x fun xx => a2 xx xx fun u => a2 xx u fun m => m2 m m fun mm => a2 s s fun ss => s2 mm ss fun X => s2 s X fun v => m2 m v fun w => m2 sq tw fun a => m2 a y fun b => s2 w b fun Y =>
  m2 tw z fun Z => some (jac3 X Y Z)
theorem dbT_eq {X Y Z : Nat} (hX : lt6 X) (hY : lt6 Y) (hZ : lt6 Z) : dbT (num X) (num Y) (num Z) = some (jacV (db3 (X, Y, Z))) := by
  unfold dbT
  simp only [m2_num, a2_num, s2_num, mp_l, ap_l, sp_l, hX, hY, hZ, jac3_num]; rfl
def sx3 (t : N3) (rise : Nat) : N3 := if rise = 0 then db3 t else (0, 0, 0)
def SamF : List Value → Option (Bool × Value)
  | [j, a] => some (isJac j && isNum a, jacV (sx3 (unJ j) (unnum a)))
  | _ => none
def samT (j a : Value) : Option Value := bif eqV a (num 0) then req (isJac j) (some (jacV (db3 (unJ j)))) else some (jac3 (num 0) (num 0) (num 0))
theorem samT_eq {t : N3} (ht : okJ t) {A : Nat} (hA : lt6 A) : samT (jacV t) (num A) = some (jacV (sx3 t A)) := by
  unfold samT sx3
  rw [eq0_num hA, isJac_jacV, req_true rfl, unJ_jacV ht]
  by_cases h : A = 0
  · rw [decide_eq_true h, if_pos h]; rfl
  · rw [decide_eq_false h, if_neg h]; rfl
def psRun (t : N3) (r : RP) : Nat := sp (mp r.2.1 (mp t.2.2 t.2.2)) t.1
def psRise (t : N3) (r : RP) : Nat := sp (mp r.2.2 (mp t.2.2 (mp t.2.2 t.2.2))) t.2.1
def psX (x run rise : Nat) : Nat := sp (sp (mp rise rise) (mp run (mp run run))) (ap (mp x (mp run run)) (mp x (mp run run)))
def psY (x y run rise : Nat) : Nat := sp (mp rise (sp (mp x (mp run run)) (psX x run rise))) (mp y (mp run (mp run run)))
def ps3 (t : N3) (r : RP) : N3 := if r.1 = true then t else if t.2.2 = 0 then lfJ r else if psRun t r = 0 then sx3 t (psRise t r) else
  (psX t.1 (psRun t r) (psRise t r), psY t.1 t.2.1 (psRun t r) (psRise t r), mp t.2.2 (psRun t r))
section
variable {P0 : Nat} [NeZero P0]
theorem p1 (x2 z x : Fin P0) : x2 * (z * z) - x = plU x2 z - plU x 1 := by unfold plU; grind
theorem p2 (y2 z y : Fin P0) : y2 * (z * (z * z)) - y = plS y2 z - plS y 1 := by unfold plS; grind
theorem p3 (x h r : Fin P0) : r * r - h * (h * h) - (x * (h * h) + x * (h * h)) = plX (plU x 1) h r := by unfold plX plU; grind
theorem p4 (x y h r w : Fin P0) : r * (x * (h * h) - w) - y * (h * (h * h)) = r * (plU x 1 * (h * h) - w) - plS y 1 * (h * h * h) := by unfold plU plS; grind
theorem p5 (z h : Fin P0) : z * h = plZ h z 1 := by unfold plZ; grind
end
theorem J3_ps {p : Pt Kp} (hp : On p) {t : N3} (h : J3 p t) {r : RP} (hr : ckR r = true) : J3 (addP invP p (toPt r)) (ps3 t r) := by
  have hq := (ck_of hr).1
  have h' := J3_up hr
  unfold ps3
  obtain ⟨i, X, Y⟩ := r
  cases i with
  | true =>
    rw [if_pos rfl]
    show J3 (addP invP p .inf) t
    rw [add_inf]; exact h
  | false =>
    rw [if_neg Bool.false_ne_true]
    by_cases hz : t.2.2 = 0
    · rw [if_pos hz]
      have : p = .inf := (jr_inf h.jr).1 (by rw [hz]; rfl)
      subst this; exact J3_lf hr
    · rw [if_neg hz]
      obtain ⟨a1, a2, a3⟩ := jr_plus fldP hp hq h.jr h'.jr ((zP_ne h.z).1 hz) ((zP_ne prime_pos.2).1 (by decide))
      have eU : zP (psRun t (false, X, Y)) = plU (zP (upJ (false, X, Y)).1) (zP t.2.2) - plU (zP t.1) (zP (upJ (false, X, Y)).2.2) := by
        unfold psRun; rw [z_sp, z_mp, z_mp]; exact p1 _ _ _
      have eR : zP (psRise t (false, X, Y)) = plS (zP (upJ (false, X, Y)).2.1) (zP t.2.2) - plS (zP t.2.1) (zP (upJ (false, X, Y)).2.2) := by
        unfold psRise; rw [z_sp, z_mp, z_mp, z_mp]; exact p2 _ _ _
      rw [← eU, ← eR] at a1 a2 a3
      have lU : psRun t (false, X, Y) < pP := sp_lt _ _
      have lR : psRise t (false, X, Y) < pP := sp_lt _ _
      by_cases hh : psRun t (false, X, Y) = 0
      · rw [if_pos hh]; unfold sx3
        by_cases hr0 : psRise t (false, X, Y) = 0
        · rw [if_pos hr0]
          have := a3 (by rw [hh]; rfl) (by rw [hr0]; rfl)
          rw [← this]
          exact J3_db hp h
        · rw [if_neg hr0, a2 (by rw [hh]; rfl) ((zP_ne lR).1 hr0)]
          exact J3_inf0
      · rw [if_neg hh]
        have := a1 ((zP_ne lU).1 hh)
        refine ⟨?_, sp_lt _ _, sp_lt _ _, mp_lt _ _⟩
        have e1 : zP (psX t.1 (psRun t (false, X, Y)) (psRise t (false, X, Y))) = plX (plU (zP t.1) (zP (upJ (false, X, Y)).2.2)) (zP (psRun t (false, X, Y))) (zP (psRise t (false, X, Y))) := by
          unfold psX; simp only [z_sp, z_mp, z_ap]; exact p3 _ _ _
        have e2 : zP (psY t.1 t.2.1 (psRun t (false, X, Y)) (psRise t (false, X, Y))) = plY (plU (zP t.1) (zP (upJ (false, X, Y)).2.2)) (plS (zP t.2.1) (zP (upJ (false, X, Y)).2.2)) (zP (psRun t (false, X, Y))) (zP (psRise t (false, X, Y))) := by
          unfold psY plY; rw [← e1]; simp only [z_sp, z_mp]; exact p4 _ _ _ _ _
        have e3 : zP (mp t.2.2 (psRun t (false, X, Y))) = plZ (zP (psRun t (false, X, Y))) (zP t.2.2) (zP (upJ (false, X, Y)).2.2) := by rw [z_mp]; exact p5 _ _
        show Jr _ (zP (psX _ _ _)) (zP (psY _ _ _ _)) (zP (mp _ _))
        rw [e1, e2, e3]; exact this
def PlsF : List Value → Option (Bool × Value)
  | [j, p] => some (isJac j && isPt p, jacV (ps3 (unJ j) (unPt p)))
  | _ => none
def psT (j x y z : Value) (i : Bool) (px py : Value) : Option Value :=
  bif i then some j else req (isJac j) <| bif decide ((unJ j).2.2 = 0) then req (isPt (pt3 i px py)) (some (jacV (lfJ (unPt (pt3 i px py))))) else
  m2 z z fun zz => m2 px zz fun a => s2 a x fun run => m2 z zz fun b => m2 py b fun c => s2 c y fun rise => bif eqV run (num 0) then req (isJac j && isNum rise) (some (jacV (sx3 (unJ j) (unnum rise)))) else
  m2 run run fun run2 => m2 run run2 fun run3 => m2 x run2 fun s => m2 rise rise fun d => s2 d run3 fun e => a2 s s fun f => s2 e f fun X => s2 s X fun g => m2 rise g fun h => m2 y run3 fun k => s2 h k fun Y => m2 z run fun Z => some (jac3 X Y Z)
theorem psT_eq {X Y Z : Nat} (hX : lt6 X) (hY : lt6 Y) (hZ : lt6 Z) {i : Bool} {A B : Nat} (hA : lt6 A) (hB : lt6 B) : psT (jacV (X, Y, Z)) (num X) (num Y) (num Z) i (num A) (num B) = some (jacV (ps3 (X, Y, Z) (i, A, B))) := by
  unfold psT ps3
  rw [pt3_num, isJac_jacV, req_true rfl, unJ_jacV (t := (X, Y, Z)) ⟨hX, hY, hZ⟩, isPt_ptV, req_true rfl, unPt_ptV (r := (i, A, B)) ⟨hA, hB⟩]
  cases i with
  | true => rfl
  | false =>
    rw [if_neg Bool.false_ne_true, cond_false]
    by_cases h : Z = 0
    · rw [if_pos h, decide_eq_true (show (X, Y, Z).2.2 = 0 from h)]; rfl
    · rw [if_neg h, decide_eq_false (show ¬ (X, Y, Z).2.2 = 0 from h), cond_false]
      simp only [m2_num, a2_num, s2_num, mp_l, ap_l, sp_l, hX, hY, hZ, hA, hB, jac3_num, isNum_num, unnum_lt (sp_l _ _), eq0_num (sp_l _ _)]
      rw [req_true (b := true && true) rfl]
      show (bif decide (psRun (X, Y, Z) (false, A, B) = 0) then some (jacV (sx3 (X, Y, Z) (psRise (X, Y, Z) (false, A, B)))) else some (jacV (psX X (psRun (X, Y, Z) (false, A, B)) (psRise (X, Y, Z) (false, A, B)), psY X Y (psRun (X, Y, Z) (false, A, B)) (psRise (X, Y, Z) (false, A, B)), mp Z (psRun (X, Y, Z) (false, A, B))))) = _
      by_cases h2 : psRun (X, Y, Z) (false, A, B) = 0
      · rw [decide_eq_true h2, if_pos h2]; rfl
      · rw [decide_eq_false h2, if_neg h2]; rfl
theorem okJ_0 : okJ (0, 0, 0) := ⟨by decide, by decide, by decide⟩
theorem okJ_db (t : N3) : okJ (db3 t) := ⟨sp_l _ _, sp_l _ _, mp_l _ _⟩
theorem okJ_lf {r : RP} (h : okR r) : okJ (lfJ r) := by
  unfold lfJ; split
  · exact okJ_0
  · exact ⟨h.1, h.2, show 1 < 2 ^ 256 by decide⟩
theorem okJ_sx (t : N3) (a : Nat) : okJ (sx3 t a) := by
  unfold sx3; split
  · exact okJ_db t
  · exact okJ_0
theorem okJ_ps {t : N3} (ht : okJ t) {r : RP} (hr : okR r) : okJ (ps3 t r) := by
  unfold ps3; split
  · exact ht
  · split
    · exact okJ_lf hr
    · split
      · exact okJ_sx _ _
      · exact ⟨sp_l _ _, sp_l _ _, mp_l _ _⟩
theorem okR_pt (t : N3) : okR (ptR t) := by
  unfold ptR; split
  · exact ⟨by decide, by decide⟩
  · exact ⟨mp_l _ _, mp_l _ _⟩
def stB (n : Nat) (p : RP) (i : Nat) (t : N3) : N3 := if bitN n i = 1 then ps3 t p else t
def smK (n : Nat) (p : RP) (m : Nat) (q : RP) (L : Nat) : Nat → N3
  | 0 => (0, 0, 0)
  | k + 1 => stB m q (L - 1 - k) (stB n p (L - 1 - k) (db3 (smK n p m q L k)))
theorem okJ_stB (n : Nat) {p : RP} (hp : okR p) (i : Nat) {t : N3} (ht : okJ t) : okJ (stB n p i t) := by
  unfold stB; split
  · exact okJ_ps ht hp
  · exact ht
theorem okJ_sm (n : Nat) {p : RP} (hp : okR p) (m : Nat) {q : RP} (hq : okR q) (L : Nat) : ∀ k, okJ (smK n p m q L k)
  | 0 => okJ_0
  | _ + 1 => okJ_stB m hq _ (okJ_stB n hp _ (okJ_db _))
theorem div_bits (n i : Nat) : n / 2 ^ i = 2 * (n / 2 ^ (i + 1)) + bitN n i := by
  have h1 : n / 2 ^ (i + 1) = n / 2 ^ i / 2 := by rw [Nat.pow_succ, Nat.div_div_eq_div_mul]
  have h2 : bitN n i = n / 2 ^ i % 2 := rfl
  rw [h1, h2]; omega
theorem J3_stB {a : Pt Kp} (ha : On a) {t : N3} (h : J3 a t) {p : RP} (hp : ckR p = true) (n i : Nat) : J3 (addP invP a (mulP invP (bitN n i) (toPt p))) (stB n p i t) := by
  unfold stB
  rcases Nat.mod_two_eq_zero_or_one (n / 2 ^ i) with h0 | h0
  · have hb : bitN n i = 0 := h0
    rw [hb, if_neg (by decide)]
    show J3 (addP invP a .inf) t
    rw [add_inf]; exact h
  · have hb : bitN n i = 1 := h0
    rw [hb, if_pos rfl, mulP_one]; exact J3_ps ha h hp
theorem J3_sm {p q : RP} (hp : ckR p = true) (hq : ckR q = true) {n m L : Nat} (hn : n < 2 ^ L) (hm : m < 2 ^ L) : ∀ k, k ≤ L → J3 (addP invP (mulP invP (n / 2 ^ (L - k)) (toPt p)) (mulP invP (m / 2 ^ (L - k)) (toPt q))) (smK n p m q L k)
  | 0, _ => by
    rw [Nat.sub_zero, Nat.div_eq_of_lt hn, Nat.div_eq_of_lt hm]; exact J3_inf0
  | k + 1, hk => by
    have ih := J3_sm hp hq hn hm k (by omega)
    have op := (ck_of hp).1
    have oq := (ck_of hq).1
    have oA := mul_on fldP op (n / 2 ^ (L - k))
    have oB := mul_on fldP oq (m / 2 ^ (L - k))
    have hd := J3_db (add_on fldP oA oB) ih
    rw [add_four fldP oA oB oA oB, ← mulP_two fldP op, ← mulP_two fldP oq] at hd
    have e1 := div_bits n (L - 1 - k)
    have e2 := div_bits m (L - 1 - k)
    rw [show L - 1 - k + 1 = L - k from by omega] at e1 e2
    rw [show L - (k + 1) = L - 1 - k from by omega, e1, e2, mulP_add fldP op, mulP_add fldP oq]
    have o1 := mul_on fldP op (2 * (n / 2 ^ (L - k)))
    have o2 := mul_on fldP oq (2 * (m / 2 ^ (L - k)))
    have b1 := mul_on fldP op (bitN n (L - 1 - k))
    have b2 := mul_on fldP oq (bitN m (L - 1 - k))
    have := J3_stB (add_on fldP (add_on fldP o1 o2) b1) (J3_stB (add_on fldP o1 o2) hd hp n (L - 1 - k)) hq m (L - 1 - k)
    rw [add_assoc fldP (add_on fldP o1 o2) b1 b2, add_four fldP o1 o2 b1 b2] at this
    exact this
theorem J3_smL {p q : RP} (hp : ckR p = true) (hq : ckR q = true) {n m L : Nat} (hn : n < 2 ^ L) (hm : m < 2 ^ L) : ptR (smK n p m q L L) = twoS n p m q := by
  have := J3_pt (J3_sm hp hq hn hm L (Nat.le_refl _))
  rw [Nat.sub_self, Nat.pow_zero, Nat.div_one, Nat.div_one] at this
  rw [this]; unfold twoS; rw [hide_eq]
noncomputable def SuOF : List Value → Option (Bool × Value)
  | [n, p, m, q] => some (isNum n && isPt p && isNum m && isPt q && ckR (unPt p) && ckR (unPt q), ptV (twoS (unnum n) (unPt p) (unnum m) (unPt q)))
  | _ => none
def chkT (p : Value) : Option Value := req (isPt p) <| bif ckR (unPt p) then some (i64 0) else some (i64 3)
theorem chkT_eq {p : RP} (hp : okR p) : chkT (ptV p) = some (i64 (errP (ckR p))) := by
  unfold chkT; rw [isPt_ptV, req_true rfl, unPt_ptV hp]; cases ckR p <;> rfl
def negT (i : Bool) (x y : Value) : Option Value := req (isPt (pt3 i x y)) <| bif !(ckR (unPt (pt3 i x y))) then some (.tuple #[ptV zR, i64 3]) else req (isNum y) <| some (.tuple #[pt3 i x (sv (num 0) y), i64 0])
theorem negT_eq {i : Bool} {X Y : Nat} (hX : lt6 X) (hY : lt6 Y) : negT i (num X) (num Y) = some (ansP (ckR (i, X, Y)) (negS (i, X, Y))) := by
  unfold negT
  rw [pt3_num, isPt_ptV, req_true rfl, unPt_ptV (r := (i, X, Y)) ⟨hX, hY⟩, isNum_num, req_true rfl]
  cases hc : ckR (i, X, Y) with
  | false => rfl
  | true =>
    rw [negS_ok hc]
    unfold sv
    rw [unnum_lt hY, unnum_lt lt6_0, pt3_num]
    cases i with
    | false => rfl
    | true =>
      unfold ckR at hc
      rw [if_pos rfl] at hc
      obtain ⟨rfl, rfl⟩ := (show X = 0 ∧ Y = 0 from of_decide_eq_true hc)
      have : sp 0 0 = 0 := by rw [sp_eq]; decide
      rw [this]; rfl
end Go.W
/-
  Package curve as it landed: two multiples at once, the exported calls.
-/
namespace Go.W
def suB {α : Type} (n : Nat) (p : RP) (i : Int) (t : N3) (K : N3 → Option α) : Option α :=
  req (isNum (num n)) <| bif bitI (unnum (num n)) i == 1 then (req (isJac (jacV t) && isPt (ptV p)) (K (ps3 (unJ (jacV t)) (unPt (ptV p))))) else K t
def suR {α : Type} (n : Nat) (p : RP) (m : Nat) (q : RP) (t : N3) (i : Int) (K : N3 → Option α) : Option α :=
  req (isJac (jacV t)) <| suB n p i (db3 (unJ (jacV t))) fun d => suB m q i d K
theorem suB_eq {α : Type} {n : Nat} (hn : lt6 n) {p : RP} (hp : okR p) {i : Nat} (hi : i ≤ 255) {t : N3} (ht : okJ t) (K : N3 → Option α) : suB n p (i : Int) t K = K (stB n p i t) := by
  unfold suB stB
  rw [isNum_num, req_true rfl, unnum_lt hn, bitI_nat hi, isJac_jacV, isPt_ptV, req_true (b := true && true) rfl, unJ_jacV ht, unPt_ptV hp]
  rcases Nat.mod_two_eq_zero_or_one (n / 2 ^ i) with h0 | h0
  · have hb : bitN n i = 0 := h0
    rw [hb, if_neg (by decide)]; rfl
  · have hb : bitN n i = 1 := h0
    rw [hb, if_pos rfl]; rfl
theorem suR_eq {α : Type} {n m : Nat} (hn : lt6 n) (hm : lt6 m) {p q : RP} (hp : okR p) (hq : okR q) {L k : Nat} (hL : L ≤ 256) (hk : k < L) (K : N3 → Option α) :
    suR n p m q (smK n p m q L k) ((L : Int) - 1 - (k : Int)) K = K (smK n p m q L (k + 1)) := by
  have h1 := okJ_sm n hp m hq L k
  unfold suR
  rw [isJac_jacV, req_true rfl, unJ_jacV h1, show ((L : Int) - 1 - (k : Int)) = ((L - 1 - k : Nat) : Int) from by omega, suB_eq hn hp (by omega) (okJ_db _), suB_eq hm hq (by omega) (okJ_stB n hp _ (okJ_db _))]
  rfl
theorem lt_bitLen {n : Nat} {L : Nat} (h : bitLen n ≤ L) : n < 2 ^ L := Nat.lt_of_lt_of_le (bitLen_spec n).1 (Nat.pow_le_pow_right (by omega) h)
def errT : Value := .tuple #[ptV zR, i64 3]
def okT3 (r : RP) : Value := .tuple #[ptV r, i64 0]
theorem ansP_false (r : RP) : ansP false r = errT := rfl
theorem ansP_true (r : RP) : ansP true r = okT3 r := rfl
def cAddT (p q : Value) : Option Value :=
  req (isPt p) <| bif !(ckR (unPt p)) then some errT else req (isPt q) <| bif !(ckR (unPt q)) then some errT else req (isPt p) <|
    (fun t => req (isJac (jacV t) && isPt q) <| (fun u => req (isJac (jacV u)) (some (okT3 (ptR (unJ (jacV u)))))) (ps3 (unJ (jacV t)) (unPt q))) (lfJ (unPt p))
theorem cAddT_eq {p q : RP} (hp : okR p) (hq : okR q) : cAddT (ptV p) (ptV q) = some (ansP (ckR p && ckR q) (addS p q)) := by
  unfold cAddT
  rw [isPt_ptV, isPt_ptV, req_true rfl, req_true rfl, req_true rfl, unPt_ptV hp, unPt_ptV hq]
  cases h1 : ckR p with
  | false => rfl
  | true =>
    cases h2 : ckR q with
    | false => rfl
    | true =>
      simp only [isJac_jacV, unJ_jacV (okJ_lf hp), unJ_jacV (okJ_ps (okJ_lf hp) hq), Bool.not_true, cond_false, Bool.and_self, ansP_true]
      rw [req_true rfl, req_true rfl, J3_pt (J3_ps (ck_of h1).1 (J3_lf h1) h2)]
      unfold addS; rw [hide_eq]
noncomputable def rSu (n p m q : Value) (k : RP → Option Value) : Option Value :=
  req (isNum n && isPt p && isNum m && isPt q && ckR (unPt p) && ckR (unPt q)) (k (twoS (unnum n) (unPt p) (unnum m) (unPt q)))
theorem rSu_eq {n m : Nat} (hn : lt6 n) (hm : lt6 m) {p q : RP} (hp : ckR p = true) (hq : ckR q = true) (k : RP → Option Value) : rSu (num n) (ptV p) (num m) (ptV q) k = k (twoS n p m q) := by
  unfold rSu
  rw [isNum_num, isNum_num, isPt_ptV, isPt_ptV, unPt_ptV (ck_okR hp), unPt_ptV (ck_okR hq), unnum_lt hn, unnum_lt hm, hp, hq]; rfl
def infR : RP := (true, 0, 0)
theorem ck_inf : ckR infR = true := rfl
theorem twoS_inf (n : Nat) (p : RP) : twoS n p 0 infR = timS n p := by
  unfold twoS timS; rw [hide_eq, hide_eq]
  show ofPt (addP invP (mulP invP n (toPt p)) .inf) = _
  rw [add_inf]
noncomputable def cTimT (n p : Value) : Option Value := req (isPt p) <| bif !(ckR (unPt p)) then some errT else rSu n p (num 0) (ptV infR) fun r => some (okT3 r)
theorem cTimT_eq {n : Nat} (hn : lt6 n) {p : RP} (hp : okR p) : cTimT (num n) (ptV p) = some (ansP (ckR p) (timS n p)) := by
  unfold cTimT
  rw [isPt_ptV, req_true rfl, unPt_ptV hp]
  cases h1 : ckR p with
  | false => rfl
  | true => rw [Bool.not_true, cond_false, rSu_eq hn lt6_0 h1 ck_inf, twoS_inf]; rfl
noncomputable def cBasT (n : Value) : Option Value := rSu n (ptV gR) (num 0) (ptV infR) fun r => some (ptV r)
theorem cBasT_eq {n : Nat} (hn : lt6 n) : cBasT (num n) = some (ptV (basS n)) := by
  unfold cBasT
  rw [rSu_eq hn lt6_0 gR_ck ck_inf, twoS_inf]
  unfold timS basS; rw [hide_eq, hide_eq, gR_pt]
noncomputable def cTwoT (n p m q : Value) : Option Value :=
  req (isPt p) <| bif !(ckR (unPt p)) then some errT else req (isPt q) <| bif !(ckR (unPt q)) then some errT else rSu n p m q fun r => some (okT3 r)
theorem cTwoT_eq {n m : Nat} (hn : lt6 n) (hm : lt6 m) {p q : RP} (hp : okR p) (hq : okR q) : cTwoT (num n) (ptV p) (num m) (ptV q) = some (ansP (ckR p && ckR q) (twoS n p m q)) := by
  unfold cTwoT
  rw [isPt_ptV, isPt_ptV, req_true rfl, req_true rfl, unPt_ptV hp, unPt_ptV hq]
  cases h1 : ckR p with
  | false => rfl
  | true =>
    cases h2 : ckR q with
    | false => rfl
    | true => rw [Bool.not_true, cond_false, cond_false, rSu_eq hn hm h1 h2]; rfl
end Go.W
/-
  The engine, part 16: arguments that are points, opened.
-/
namespace Go.W
section
variable {P : Program} {H : Type} {enc : TypeId × Value → H} {W : World} {base b0 : Nat} {sp : Nat → Bool} {held : Bool} {r : Reach} {t tb tn e : TypeId} {v : Value} {d : DataW H} {p : List MemPlace}
theorem trod_row {n fuel : Nat} {k : IntKind} {cs : List Value} {x : DataW H × List MemPlace} (ht : P.underlying t = some (.array n e)) (he : P.underlying e = some (.int k)) (hce : P.cellsOf e = 1) (hct : P.cellsOf t = n)
    (hf : DataW.trod enc P W b0 sp held fuel t cs = some x) : cs.length = n ∧ ∀ i, i < n → ∃ z, cs[i]? = some (.int k z) ∧ (Lit.int k z).wf = true := by
  obtain ⟨xs, m, rfl, _, hl, hxl, hget⟩ := DataW.trod_array ht hf
  rw [hce] at hget
  refine ⟨by rw [hl, hct], fun i hi => ?_⟩
  have h1 := hget i hi
  rw [Nat.mul_one] at h1
  obtain ⟨q, hq⟩ : ∃ q, xs[i]? = some q := ⟨xs[i]'(by omega), List.getElem?_eq_getElem _⟩
  rw [hq] at h1
  obtain ⟨z, h2, _, h3⟩ := DataW.trod_int he h1
  refine ⟨z, ?_, h3⟩
  have : (List.take 1 (List.drop i cs))[0]? = some (.int k z) := by rw [h2]; rfl
  simpa using this
theorem row_num {cs : List Value} (hl : cs.length = 4) (h : ∀ i, i < 4 → ∃ z, cs[i]? = some (.int .u64 z) ∧ (Lit.int .u64 z).wf = true) : ∃ X, X < 2 ^ 256 ∧ cs = [u64 (dig X 0), u64 (dig X 1), u64 (dig X 2), u64 (dig X 3)] := by
  match cs, hl with
  | [c0, c1, c2, c3], _ =>
    obtain ⟨z0, e0, w0⟩ := h 0 (by omega)
    obtain ⟨z1, e1, w1⟩ := h 1 (by omega)
    obtain ⟨z2, e2, w2⟩ := h 2 (by omega)
    obtain ⟨z3, e3, w3⟩ := h 3 (by omega)
    simp only [List.getElem?_cons_zero, List.getElem?_cons_succ, Option.some.injEq] at e0 e1 e2 e3
    subst e0 e1 e2 e3
    obtain ⟨a, ha, rfl⟩ := wf_u64 w0
    obtain ⟨b, hb, rfl⟩ := wf_u64 w1
    obtain ⟨c, hc, rfl⟩ := wf_u64 w2
    obtain ⟨d, hd, rfl⟩ := wf_u64 w3
    refine ⟨hor a b c d, hor_lt ha hb hc hd, ?_⟩
    have e1 := num_hor ha hb hc hd 0
    rw [Nat.mul_zero, Nat.add_zero] at e1
    simp only [num, numd, Value.agg.injEq, Array.mk.injEq, List.cons.injEq, and_true] at e1
    rw [e1.1, e1.2.1, e1.2.2.1, e1.2.2.2]; rfl
theorem open_pt {fs : Array Field} (ht : P.underlying t = some (.struct fs)) (hfs : fs.toList.map (fun f => (f.offset, f.type)) = [(0, tb), (1, tn), (5, tn)]) (hb : P.underlying tb = some .bool) (hn : P.underlying tn = some (.array 4 e))
    (he : P.underlying e = some (.int .u64)) (hce : P.cellsOf e = 1) (hcn : P.cellsOf tn = 4) (hcb : P.cellsOf tb = 1) (hct : P.cellsOf t = 9) (hv : Value.okWide P W r base t v) (h : DataW.Trod enc P W b0 sp held t v d p) :
    ∃ q : RP, okR q ∧ v = ptV q := by
  have hv' : ∃ cs, v = .agg cs ∧ cs.size = P.cellsOf t ∧ Row.okWide P W r base t cs := by
    unfold Value.okWide at hv; rw [ht] at hv; exact hv
  obtain ⟨cs, rfl, hsz, _⟩ := hv'
  obtain ⟨fuel, hf⟩ := h
  obtain ⟨xs, m, rfl, _, hl, hxl, hget⟩ := DataW.trod_struct ht hf
  have hf3 : ∃ f0 f1 f2, fs = #[f0, f1, f2] ∧ f0.offset = 0 ∧ f0.type = tb ∧ f1.offset = 1 ∧ f1.type = tn ∧ f2.offset = 5 ∧ f2.type = tn := by
    obtain ⟨l, rfl⟩ : ∃ l, fs = List.toArray l := ⟨fs.toList, by simp⟩
    rw [List.toList_toArray] at hfs
    have hl3 : l.length = 3 := by simpa using congrArg List.length hfs
    match l, hl3, hfs with
    | [f0, f1, f2], _, hfs =>
      simp only [List.map_cons, List.map_nil, List.cons.injEq, Prod.mk.injEq, and_true] at hfs
      exact ⟨f0, f1, f2, rfl, hfs.1.1, hfs.1.2, hfs.2.1.1, hfs.2.1.2, hfs.2.2.1, hfs.2.2.2⟩
  obtain ⟨f0, f1, f2, rfl, o0, t0, o1, t1, o2, t2⟩ := hf3
  have hx : xs.length = 3 := hxl
  have get : ∀ i, i < 3 → ∃ q, xs[i]? = some q := fun i hi => ⟨xs[i]'(by omega), List.getElem?_eq_getElem _⟩
  obtain ⟨q0, g0⟩ := get 0 (by omega)
  obtain ⟨q1, g1⟩ := get 1 (by omega)
  obtain ⟨q2, g2⟩ := get 2 (by omega)
  have k0 := hget 0 f0 rfl
  have k1 := hget 1 f1 rfl
  have k2 := hget 2 f2 rfl
  rw [g0, o0, t0, hcb] at k0
  rw [g1, o1, t1, hcn] at k1
  rw [g2, o2, t2, hcn] at k2
  obtain ⟨b, hb0, _⟩ := DataW.trod_bool hb k0
  obtain ⟨l1, r1⟩ := trod_row hn he hce hcn k1
  obtain ⟨l2, r2⟩ := trod_row hn he hce hcn k2
  obtain ⟨X, hX, e1⟩ := row_num l1 r1
  obtain ⟨Y, hY, e2⟩ := row_num l2 r2
  refine ⟨(b, X, Y), ⟨hX, hY⟩, ?_⟩
  have hlen : (Value.agg cs).cells.toList.length = 9 := by rw [hl, hct]
  have hc : cs.toList = [.bool b, u64 (dig X 0), u64 (dig X 1), u64 (dig X 2), u64 (dig X 3), u64 (dig Y 0), u64 (dig Y 1), u64 (dig Y 2), u64 (dig Y 3)] := by
    have hlen : cs.toList.length = 9 := hlen
    replace hb0 : List.take 1 (List.drop 0 cs.toList) = _ := hb0
    replace e1 : List.take 4 (List.drop 1 cs.toList) = _ := e1
    replace e2 : List.take 4 (List.drop 5 cs.toList) = _ := e2
    match hcs : cs.toList, hlen with
    | [c0, c1, c2, c3, c4, c5, c6, c7, c8], _ =>
      rw [hcs] at hb0 e1 e2
      simp only [List.drop_succ_cons, List.drop_zero, List.take_succ_cons, List.take_zero, List.cons.injEq, and_true] at hb0 e1 e2
      rw [hb0, e1.1, e1.2.1, e1.2.2.1, e1.2.2.2, e2.1, e2.2.1, e2.2.2.1, e2.2.2.2]
  show Value.agg cs = Value.agg _
  congr 1
  exact Array.toList_inj.1 hc
end
end Go.W
/-
  Rows of bytes: what is told of them, and held against one another.
-/
namespace Go.W
def kB : List CK := [.i .u8]
def bI (f : Nat → List Value) (j : Nat) : Int := toI ((f j).headD (.bool false))
theorem nrm_kB (f : Nat → List Value) (j : Nat) : nrmK kB (f j) = [.int .u8 (bI f j)] := rfl
def aSl (k n : Nat) : Value := .slice (some ⟨1500000 + k, 0, none⟩) n n
noncomputable def eqR (n : Nat) (f : Nat → List Value) (m : Nat) (g : Nat → List Value) : Bool := @decide (n = m ∧ ∀ j, j < n → bI f j = bI g j) (Classical.propDecidable _)
theorem eqR_iff {n m : Nat} {f g : Nat → List Value} : eqR n f m g = true ↔ n = m ∧ ∀ j, j < n → bI f j = bI g j := by
  unfold eqR
  exact ⟨fun h => @of_decide_eq_true _ (Classical.propDecidable _) h, fun h => @decide_eq_true _ (Classical.propDecidable _) h⟩
noncomputable def KbF : List Value → (Nat → Option Blk) → Nat → List (Bool × Value × List (Nat × Blk))
  | [a, b], mm, _ => [((srcB mm kB a).1 && (srcB mm kB b).1 && Nat.ble (srcB mm kB a).2.1 9223372036854775807, .bool (eqR (srcB mm kB a).2.1 (srcB mm kB a).2.2 (srcB mm kB b).2.1 (srcB mm kB b).2.2), [])]
  | _, _, _ => []
theorem pick_one {b : Bool} {v u : Value} {l m : List (Nat × Blk)} (h : pickM [(b, v, l)] = some (u, m)) : b = true ∧ u = v ∧ m = l := by
  simp only [pickM] at h
  obtain ⟨h1, h2⟩ := cond_some.1 h
  cases h2; exact ⟨h1, rfl, rfl⟩
def kbR {α : Type} (n : Nat) (f : Nat → List Value) (m : Nat) (g : Nat → List Value) (i : Int) (next ret out : Option α) : Option α :=
  bif decide (i < (n : Int)) then (req (inR i n) <| req (Nat.blt i.toNat n && true) <| req (inR i m) <| req (Nat.blt i.toNat m && true) <| bif bI f (0 + i.toNat) != bI g (0 + i.toNat) then ret else next) else out
theorem kbR_eq {α : Type} {n : Nat} {f g : Nat → List Value} {k : Nat} (hk : k < n) (next ret out : Option α) : kbR n f n g (k : Int) next ret out = if bI f k = bI g k then next else ret := by
  unfold kbR
  have h1 : inR (k : Int) n = true := by unfold inR; simp only [Bool.and_eq_true, decide_eq_true_eq]; omega
  have h2 : Nat.blt ((k : Int)).toNat n = true := by rw [Nat.blt_eq]; omega
  rw [decide_eq_true (by omega), cond_true, h1, h2, Bool.and_true, req_true rfl, req_true rfl, req_true rfl, req_true rfl, Nat.zero_add, Int.toNat_natCast]
  by_cases h : bI f k = bI g k
  · rw [if_pos h, h, bne_self_eq_false]; rfl
  · rw [if_neg h, bne_iff_ne.2 h]; rfl
theorem kbR_out {α : Type} {n : Nat} {f g : Nat → List Value} (next ret out : Option α) : kbR n f n g (n : Int) next ret out = out := by
  unfold kbR
  rw [decide_eq_false (by omega)]; rfl
theorem first_diff {n : Nat} {f g : Nat → List Value} (h : ¬ ∀ j, j < n → bI f j = bI g j) : ∃ k, k < n ∧ bI f k ≠ bI g k ∧ ∀ j, j < k → bI f j = bI g j := by
  induction n with
  | zero => exact absurd (fun j hj => by omega) h
  | succ n ih =>
    by_cases h1 : ∀ j, j < n → bI f j = bI g j
    · refine ⟨n, by omega, fun e => h (fun j hj => ?_), h1⟩
      rcases Nat.lt_or_ge j n with h2 | h2
      · exact h1 j h2
      · have : j = n := by omega
        rw [this]; exact e
    · obtain ⟨k, h2, h3, h4⟩ := ih h1
      exact ⟨k, by omega, h3, h4⟩
def twF (f : Nat → List Value) : Nat → List Value := fun j => nrmK kB (f (0 + j))
theorem bI_tw (f : Nat → List Value) (j : Nat) : bI (twF f) j = bI f j := by show bI f (0 + j) = bI f j; rw [Nat.zero_add]
def TwnF (e : Nat) : List Value → (Nat → Option Blk) → Nat → List (Bool × Value × List (Nat × Blk))
  | [a], mm, id => [((srcB mm kB a).1 && szOk (srcB mm kB a).2.1 1, .slice (some ⟨nid id 0, 0, none⟩) (srcB mm kB a).2.1 (srcB mm kB a).2.1, [(nid id 0, ⟨.row kB (srcB mm kB a).2.1 (twF (srcB mm kB a).2.2), e, true⟩)])]
  | _, _, _ => []
end Go.W
/-
  The bytes of points.
-/
namespace Go.W
def nSl (id n : Nat) : Value := .slice (some ⟨nid id 0, 0, none⟩) n n
def pbF (h : Value) (bs : List Value) : Nat → List Value := appF 1 (lstF [h] 0 1) (lstF bs 0 1)
def rw1 (e id n : Nat) (f : Nat → List Value) : List (Nat × Blk) := [(nid id 0, ⟨.row kB n f, e, true⟩)]
def cBytT (e id : Nat) (i : Bool) (x y : Value) : Option (Value × List (Nat × Blk)) :=
  req (isPt (pt3 i x y)) <| bif !(ckR (unPt (pt3 i x y))) then some (.tuple #[.slice none 0 0, i64 3], []) else
  bif i then some (.tuple #[nSl id 1, i64 0], rw1 e id 1 (lstF [.int .u8 0] 0 1)) else
  req (isNum x) <| req (isNum y) <| some (.tuple #[nSl id 33, i64 0], rw1 e id 33 (pbF (.int .u8 (IntKind.u8.wrap (IntKind.i64.wrap (2 + bitI (unnum y) 0)))) (bytesL 32 (unnum x))))
def rBytT (e id : Nat) (i : Bool) (x : Value) (d : Nat) : Option (Value × List (Nat × Blk)) :=
  bif i then some (nSl id 1, rw1 e id 1 (lstF [.int .u8 0] 0 1)) else
  req (isNum x) <| some (nSl id 33, rw1 e id 33 (pbF (.int .u8 (IntKind.u8.wrap (2 + IntKind.u8.wrap (iAnd .u64 ((d : Nat) : Int) 1)))) (bytesL 32 (unnum x))))
def hdY (Y : Nat) : Value := .int .u8 ((2 + Y % 2 : Nat) : Int)
def CBytF (e : Nat) : List Value → (Nat → Option Blk) → Nat → List (Bool × Value × List (Nat × Blk))
  | [p], _, id => [(isPt p && !(ckR (unPt p)), .tuple #[.slice none 0 0, i64 3], []), (isPt p && (unPt p).1, .tuple #[nSl id 1, i64 0], rw1 e id 1 (lstF [.int .u8 0] 0 1)), (isPt p, .tuple #[nSl id 33, i64 0], rw1 e id 33 (pbF (hdY (unPt p).2.2) (bytesL 32 (unPt p).2.1)))]
  | _, _, _ => []
def RBytF (e : Nat) : List Value → (Nat → Option Blk) → Nat → List (Bool × Value × List (Nat × Blk))
  | [p], _, id => [(isPt p && (unPt p).1, nSl id 1, rw1 e id 1 (lstF [.int .u8 0] 0 1)), (isPt p, nSl id 33, rw1 e id 33 (pbF (hdY (unPt p).2.2) (bytesL 32 (unPt p).2.1)))]
  | _, _, _ => []
theorem CBytF_eq (e : Nat) (p : Value) (mm : Nat → Option Blk) (id : Nat) : CBytF e [p] mm id = [(isPt p && !(ckR (unPt p)), .tuple #[.slice none 0 0, i64 3], []), (isPt p && (unPt p).1, .tuple #[nSl id 1, i64 0], rw1 e id 1 (lstF [.int .u8 0] 0 1)), (isPt p, .tuple #[nSl id 33, i64 0], rw1 e id 33 (pbF (hdY (unPt p).2.2) (bytesL 32 (unPt p).2.1)))] := rfl
theorem RBytF_eq (e : Nat) (p : Value) (mm : Nat → Option Blk) (id : Nat) : RBytF e [p] mm id = [(isPt p && (unPt p).1, nSl id 1, rw1 e id 1 (lstF [.int .u8 0] 0 1)), (isPt p, nSl id 33, rw1 e id 33 (pbF (hdY (unPt p).2.2) (bytesL 32 (unPt p).2.1)))] := rfl
theorem CBytF_one {e : Nat} {p v : Value} {mm : Nat → Option Blk} {id : Nat} {l : List (Nat × Blk)} (h : pickM (CBytF e [p] mm id) = some (v, l)) : l = [] ∨ ∃ blk, l = [(nid id 0, blk)] := by
  rw [CBytF_eq] at h
  simp only [pickM] at h
  cases h1 : (isPt p && !(ckR (unPt p))) with
  | true => rw [h1, cond_true] at h; exact .inl (congrArg Prod.snd (Option.some.inj h)).symm
  | false =>
    rw [h1, cond_false] at h
    cases h2 : (isPt p && (unPt p).1) with
    | true => rw [h2, cond_true] at h; exact .inr ⟨_, (congrArg Prod.snd (Option.some.inj h)).symm⟩
    | false =>
      rw [h2, cond_false] at h
      cases h3 : isPt p with
      | true => rw [h3, cond_true] at h; exact .inr ⟨_, (congrArg Prod.snd (Option.some.inj h)).symm⟩
      | false => rw [h3, cond_false] at h; cases h
theorem RBytF_one {e : Nat} {p v : Value} {mm : Nat → Option Blk} {id : Nat} {l : List (Nat × Blk)} (h : pickM (RBytF e [p] mm id) = some (v, l)) : l = [] ∨ ∃ blk, l = [(nid id 0, blk)] := by
  rw [RBytF_eq] at h
  simp only [pickM] at h
  cases h2 : (isPt p && (unPt p).1) with
  | true => rw [h2, cond_true] at h; exact .inr ⟨_, (congrArg Prod.snd (Option.some.inj h)).symm⟩
  | false =>
    rw [h2, cond_false] at h
    cases h3 : isPt p with
    | true => rw [h3, cond_true] at h; exact .inr ⟨_, (congrArg Prod.snd (Option.some.inj h)).symm⟩
    | false => rw [h3, cond_false] at h; cases h
theorem hd_c {Y : Nat} (h : lt6 Y) : Value.int .u8 (IntKind.u8.wrap (IntKind.i64.wrap (2 + bitI (unnum (num Y)) 0))) = hdY Y := by
  have := bitI_nat (A := Y) (n := 0) (by omega)
  rw [show ((0 : Nat) : Int) = 0 from rfl] at this
  rw [unnum_lt h, this]
  unfold bitN hdY
  rw [Nat.pow_zero, Nat.div_one]
  rcases Nat.mod_two_eq_zero_or_one Y with h0 | h0 <;> rw [h0] <;> rfl
theorem hd_r (Y : Nat) : Value.int .u8 (IntKind.u8.wrap (2 + IntKind.u8.wrap (iAnd .u64 ((dig Y 0 : Nat) : Int) 1))) = hdY Y := by
  have e : iAnd .u64 ((dig Y 0 : Nat) : Int) 1 = ((Y % 2 : Nat) : Int) := by
    have := iAnd_u (a := dig Y 0) (b := 1) (dig_lt _ _) (by omega)
    rw [show ((1 : Nat) : Int) = 1 from rfl] at this
    rw [this, Nat.and_one_is_mod]
    unfold dig
    congr 1
    omega
  rw [e]
  unfold hdY
  rcases Nat.mod_two_eq_zero_or_one Y with h0 | h0 <;> rw [h0] <;> rfl
theorem cBytT_eq {e id : Nat} {i : Bool} {X Y : Nat} (hX : lt6 X) (hY : lt6 Y) : cBytT e id i (num X) (num Y) = pickM (CBytF e [ptV (i, X, Y)] (fun _ => none) id) := by
  unfold cBytT
  rw [CBytF_eq, pt3_num, isPt_ptV, req_true rfl, unPt_ptV (r := (i, X, Y)) ⟨hX, hY⟩, isNum_num, isNum_num, req_true rfl, req_true rfl, hd_c hY, unnum_lt hX]
  cases hc : ckR (i, X, Y) with
  | false => rfl
  | true =>
    cases i with
    | true => rfl
    | false => rfl
theorem rBytT_eq {e id : Nat} {i : Bool} {X Y : Nat} (hX : lt6 X) (hY : lt6 Y) : rBytT e id i (num X) (dig Y 0) = pickM (RBytF e [ptV (i, X, Y)] (fun _ => none) id) := by
  unfold rBytT
  rw [RBytF_eq, isPt_ptV, unPt_ptV (r := (i, X, Y)) ⟨hX, hY⟩, isNum_num, req_true rfl, hd_r, unnum_lt hX]
  cases i with
  | true => rfl
  | false => rfl
def b32V (f : Nat → List Value) : Value := .agg (rowL kB f 1 32).toArray
def rdX (X : Nat) (b : Int) : RP × Int :=
  if X < pP then (if rootIs (sqN X) = true then ((false, X, if b = 3 then sp 0 (rootNum (sqN X)) else rootNum (sqN X)), 0) else (zR, 3)) else (zR, 2)
noncomputable def rdS (n : Nat) (f : Nat → List Value) : RP × Int :=
  hide (if n = 1 ∧ bI f 0 = 0 then (infR, 0) else if n = 33 ∧ (bI f 0 = 2 ∨ bI f 0 = 3) then rdX (unbytes (b32V f)) (bI f 0) else (zR, 7))
def rdOk (n : Nat) (f : Nat → List Value) : Bool := !(Nat.beq n 33) || isB32 (b32V f)
noncomputable def rdV (n : Nat) (f : Nat → List Value) : Value := .tuple #[ptV (rdS n f).1, i64 (rdS n f).2]
noncomputable def RdF : List Value → (Nat → Option Blk) → Nat → List (Bool × Value × List (Nat × Blk))
  | [v], mm, _ => [((srcB mm kB v).1 && rdOk (srcB mm kB v).2.1 (srcB mm kB v).2.2, rdV (srcB mm kB v).2.1 (srcB mm kB v).2.2, [])]
  | _, _, _ => []
abbrev VL := Value × List (Nat × Blk)
def eT (e : Int) : Option VL := some (.tuple #[ptV zR, i64 e], [])
def rdK (v : Value) (b0 : Int) : Option VL :=
  req (isB32 v) <| (fun X => bif readE 0 X != 0 then eT (readE 0 X) else req (isNum (num (readN 0 X))) <| (fun A => req (isNum (num A)) <| (fun B => bif !(rootIs B) then eT 3 else
    bif b0 == 3 then req (isNum (num (rootNum B))) (some (.tuple #[pt3 false (num (readN 0 X)) (sv (num 0) (num (rootNum B))), i64 0], [])) else some (.tuple #[pt3 false (num (readN 0 X)) (num (rootNum B)), i64 0], [])) (unnum (num A))) (sqN (unnum (num (readN 0 X))))) (unbytes v)
def rrK (v : Value) (b0 : Int) : Option VL :=
  req (isB32 v) <| (fun x => r2 x (num (primeN 0)) <| bif decide (cI x (num (primeN 0)) ≥ 0) then eT 2 else m2 x x fun a => m2 a x fun b => a2 b (num 7) fun c => req (isNum c) <| (fun B => bif !(rootIs B) then eT 3 else
    bif b0 == 3 then (s2 (num 0) (num (rootNum B)) fun y => some (.tuple #[pt3 false x y, i64 0], [])) else some (.tuple #[pt3 false x (num (rootNum B)), i64 0], [])) (unnum c)) (num (unbytes v))
def rd33 (b0 : Int) (k : Option VL) : Option VL := bif b0 != 2 then (bif b0 != 3 then eT 7 else k) else k
def rd1 (b0 : Int) : Option VL := bif b0 == 0 then some (.tuple #[ptV infR, i64 0], []) else eT 7
theorem rootNum_lt (A : Nat) : lt6 (rootNum A) := by
  unfold rootNum
  split
  · split
    · exact sp_l 0 _
    · exact powN_lt qP_lt
  · exact lt6_0
theorem rdK_eq {v : Value} (hv : isB32 v = true) {b0 : Int} : rdK v b0 = some (.tuple #[ptV (rdX (unbytes v) b0).1, i64 (rdX (unbytes v) b0).2], []) := by
  obtain ⟨X, hX, rfl, h2⟩ := isB32_some hv
  unfold rdK rdX
  rw [hv, req_true rfl, h2]
  have ok : okW 0 = true := rfl
  have hp : primeN 0 = pP := prime0
  by_cases hlt : X < pP
  · have e1 : readE 0 X = 0 := by unfold readE; rw [if_pos ok, hp, if_pos hlt]
    have e2 : readN 0 X = X := by unfold readN; rw [if_pos ok, hp, if_pos hlt]
    simp only [e1, e2, isNum_num, unnum_lt hX, unnum_lt (show lt6 (sqN X) from ap_l _ _), if_pos hlt]
    rw [req_true rfl, req_true rfl, req_true rfl]
    show (bif !(rootIs (sqN X)) then eT 3 else _) = _
    cases hr : rootIs (sqN X) with
    | false => rfl
    | true =>
      rw [if_pos rfl, Bool.not_true, cond_false]
      unfold sv
      rw [unnum_lt lt6_0, unnum_lt (rootNum_lt _), pt3_num, pt3_num]
      by_cases h3 : b0 = 3
      · rw [if_pos h3, beq_iff_eq.2 h3]; rfl
      · rw [if_neg h3, beq_eq_false_iff_ne.2 h3]; rfl
  · have e1 : readE 0 X = 2 := by unfold readE; rw [if_pos ok, hp, if_neg hlt]
    simp only [e1, if_neg hlt]
    rfl
theorem rrK_eq {v : Value} (hv : isB32 v = true) {b0 : Int} : rrK v b0 = some (.tuple #[ptV (rdX (unbytes v) b0).1, i64 (rdX (unbytes v) b0).2], []) := by
  obtain ⟨X, hX, rfl, h2⟩ := isB32_some hv
  have hpp : pP < 2 ^ 256 := by decide
  unfold rrK rdX
  rw [hv, req_true rfl, h2, prime0]
  have hX6 : lt6 X := hX
  simp only [r2_num, m2_num hX6 hX6, m2_num (mp_l _ _) hX6, a2_num (mp_l _ _) lt6_7, isNum_num, unnum_lt (ap_l _ _), cI_num hX hpp, s2_num lt6_0 (rootNum_lt _)]
  by_cases hlt : X < pP
  · rw [decide_eq_false (by unfold cmpI; rw [if_pos hlt]; decide), if_pos hlt, cond_false, req_true rfl]
    show (bif !(rootIs (sqN X)) then eT 3 else _) = _
    cases hr : rootIs (sqN X) with
    | false => rfl
    | true =>
      rw [if_pos rfl, Bool.not_true, cond_false, pt3_num, pt3_num]
      by_cases h3 : b0 = 3
      · rw [if_pos h3, beq_iff_eq.2 h3]; rfl
      · rw [if_neg h3, beq_eq_false_iff_ne.2 h3]; rfl
  · rw [decide_eq_true (by unfold cmpI; rw [if_neg hlt]; split <;> decide), if_neg hlt]; rfl
theorem rd_all {f : Nat → List Value} (E : Nat → Option VL) {n : Nat} {K : Option VL} (hs : rdOk n f = true) (h1 : E 1 = rd1 (bI f 0)) (h33 : E 33 = rd33 (bI f 0) K)
    (hK : isB32 (b32V f) = true → K = some (.tuple #[ptV (rdX (unbytes (b32V f)) (bI f 0)).1, i64 (rdX (unbytes (b32V f)) (bI f 0)).2], [])) (hless : ∀ n, n < 33 → n ≠ 1 → E n = eT 7) (hmore : ∀ k, E (k + 34) = eT 7) : E n = some (rdV n f, []) := by
  unfold rdV rdS
  rw [hide_eq]
  by_cases e1 : n = 1
  · subst e1
    rw [h1]
    unfold rd1
    by_cases h0 : bI f 0 = 0
    · rw [if_pos ⟨rfl, h0⟩, beq_iff_eq.2 h0]; rfl
    · rw [if_neg (fun h => h0 h.2), if_neg (fun h => absurd h.1 (by decide)), beq_eq_false_iff_ne.2 h0]; rfl
  · rw [if_neg (fun h => e1 h.1)]
    by_cases e2 : n = 33
    · subst e2
      have hb : isB32 (b32V f) = true := by
        unfold rdOk at hs
        rw [Nat.beq_refl, Bool.not_true, Bool.false_or] at hs; exact hs
      rw [h33, hK hb]
      unfold rd33
      by_cases h2 : bI f 0 = 2
      · rw [if_pos ⟨rfl, .inl h2⟩, h2]; rfl
      · by_cases h3 : bI f 0 = 3
        · rw [if_pos ⟨rfl, .inr h3⟩, h3]; rfl
        · rw [if_neg (fun h => h.2.elim h2 h3), bne_iff_ne.2 h2, bne_iff_ne.2 h3]; rfl
    · rw [if_neg (fun h => e2 h.1)]
      rcases Nat.lt_or_ge n 33 with h | h
      · exact hless n h e1
      · obtain ⟨k, rfl⟩ : ∃ k, n = k + 34 := ⟨n - 34, by omega⟩
        exact hmore k
end Go.W
/-
  A point by its X.
-/
namespace Go.W
theorem dig_par (Y : Nat) : ((dig Y 0 : Nat) : Int).tmod 2 = ((Y % 2 : Nat) : Int) := by
  have e : dig Y 0 % 2 = Y % 2 := by unfold dig; omega
  rw [← e]; rfl
theorem root_pt {X : Nat} (h : X < pP) (hr : rootIs (sqN X) = true) : ckR (false, X, rootNum (sqN X)) = true ∧ rootNum (sqN X) % 2 = 0 ∧ sp 0 (rootNum (sqN X)) % 2 = 1 := by
  obtain ⟨h1, h2, h3⟩ := root_sq hr
  have hodd := pP_facts.2.2.2
  refine ⟨?_, h2, ?_⟩
  · unfold ckR
    rw [if_neg Bool.false_ne_true]
    refine decide_eq_true ⟨h, h3, ?_⟩
    show mp _ _ = sqN X
    rw [mp_eq, h1]
    exact Nat.mod_eq_of_lt (ap_lt _ _)
  · have h0 : rootNum (sqN X) ≠ 0 := by
      intro e
      rw [e, Nat.zero_mul, Nat.zero_mod] at h1
      apply no_cube X
      have e2 : sqN X = (X * X * X + 7) % pP := by
        unfold sqN
        rw [ap_eq, mp_eq, mp_eq, Nat.add_mod, Nat.mod_mod, Nat.mul_mod (X * X % pP) X, Nat.mod_mod, ← Nat.mul_mod, ← Nat.add_mod]
      rw [← e2, ← Nat.mod_eq_of_lt (show sqN X < pP from ap_lt _ _)]; exact h1.symm
    rw [sp_eq, Nat.mod_eq_of_lt h3, Nat.zero_add, Nat.mod_eq_of_lt (show pP - rootNum (sqN X) < pP from Nat.sub_lt prime_pos.1 (Nat.pos_of_ne_zero h0))]
    clear h1
    generalize rootNum (sqN X) = Y at *
    generalize pP = p at *
    omega
end Go.W
/-
  The engine, part 17: a statement's function, called from outside with rows.
-/
namespace Go.W
open Go.RowKit (Below)
section
variable {P : Program} {w : World}
def SrcW (w : World) (ks : List CK) (n : Nat) (g : Nat → List Value) (v' : Value) : Prop := ∃ (p : Pl) (e : TypeId), n ≤ p.c ∧ (match p.a with
      | some b => v' = .slice (some ⟨b, p.d, none⟩) n p.c ∧ ∃ cs fz, w.heap[b]? = some (.cells cs e fz) ∧ LP (fun _ _ => False) (rowL ks g 0 n) (cs.toList.drop p.d)
      | none => n = 0 ∧ p.c = 0 ∧ p.d = 0 ∧ Emp v')
def ArgW (w : World) : List Arg → List Value → Prop
  | [], [] => True
  | .pl u :: A, v :: vs => v = u ∧ pl2 u = true ∧ ArgW w A vs
  | .sl ks n g :: A, v :: vs => SrcW w ks n g v ∧ ArgW w A vs
  | _, _ => False
theorem top_mem : ∀ (A : List Arg) (args' : List Value) (k : Nat), ArgW w A args' →
    ∃ (es : Nat → TypeId) (pl : Nat → Option Pl), (∀ i, i < k → pl i = none) ∧
      (∀ i blk, look (cMem es A k) i = some blk → ∃ j p, i = argId j ∧ pl j = some p ∧ PlOk w i blk p) ∧
      (∀ j p, pl j = some p → (look (cMem es A k) (argId j)).isSome = true ∧ ∀ b, p.a = some b → ∃ cs e fz, w.heap[b]? = some (.cells cs e fz)) ∧
      LR (V2 fun i p => ∃ j, i = argId j ∧ pl j = some p) (cArgs A k) args'
  | [], [], k, _ => ⟨fun _ => 0, fun _ => none, fun _ _ => rfl, fun i blk hi => by simp [cMem, look] at hi, fun j p hp => by simp at hp, trivial⟩
  | .pl u :: A, v' :: args', k, hA => by
    obtain ⟨rfl, hp, hA⟩ := hA
    obtain ⟨es, pl, h1, h2, h3, h4⟩ := top_mem A args' (k + 1) hA
    exact ⟨es, pl, fun i hi => h1 i (by omega), h2, h3, (V2_plain hp).2 rfl, h4⟩
  | .sl ks n g :: A, v' :: args', k, hA => by
    obtain ⟨⟨p, e, hc, hm⟩, hA⟩ := hA
    obtain ⟨es, pl, h1, h2, h3, h4⟩ := top_mem A args' (k + 1) hA
    have hcm : cMem (fun j => if j = k then e else es j) A (k + 1) = cMem es A (k + 1) := cMem_congr A (k + 1) (fun j hj => by rw [if_neg (by omega)])
    have hlk : ∀ i, look (cMem (fun j => if j = k then e else es j) (.sl ks n g :: A) k) i = upd (look (cMem es A (k + 1))) (argId k) ⟨.row ks n g, e, false⟩ i := by
      intro i
      rw [cMem, hcm, look_cons, if_pos rfl]
    refine ⟨fun j => if j = k then e else es j, plAt k p pl, ?_, ?_, ?_, ?_, ?_⟩
    · intro i hi
      rw [plAt_ne _ _ (by omega)]; exact h1 i (by omega)
    · intro i blk hi
      rw [hlk] at hi
      by_cases e1 : argId k = i
      · subst e1
        rw [upd_same] at hi
        cases hi
        refine ⟨k, p, rfl, plAt_same _ _ _, rfl, ⟨ks, n, g, rfl⟩, ?_, rfl⟩
        cases hpa : p.a with
        | none =>
          rw [hpa] at hm
          show rowL ks g 0 n = []
          rw [hm.1]; rfl
        | some b =>
          rw [hpa] at hm
          obtain ⟨_, cs, fz, k1, k2⟩ := hm
          refine ⟨cs, fz, k1, ?_⟩
          show LP _ (rowL ks g 0 n) _
          have := (LR_plain (r := V0 fun _ _ => False) (pl := pl0) (fun _ _ hv => V0_plain hv) (rowL_pl ks g n 0)).1 k2
          exact LP_plain (rowL_pl _ _ _ _) this
      · rw [upd_ne _ _ e1] at hi
        obtain ⟨j, p', rfl, k2, k3⟩ := h2 i blk hi
        have hjk : j ≠ k := fun e2 => e1 (by rw [e2])
        exact ⟨j, p', rfl, by rw [plAt_ne _ _ hjk]; exact k2, k3⟩
    · intro j p' hp'
      rw [hlk]
      by_cases e1 : j = k
      · subst e1
        rw [upd_same]
        rw [plAt_same] at hp'
        cases hp'
        refine ⟨rfl, fun b hb => ?_⟩
        rw [hb] at hm
        obtain ⟨_, cs, fz, k1, _⟩ := hm
        exact ⟨cs, e, fz, k1⟩
      · rw [plAt_ne _ _ e1] at hp'
        rw [upd_ne _ _ (by unfold argId; omega)]
        exact h3 j p' hp'
    · refine slice_V2 (q := p) (argId_loose k) ⟨k, rfl, plAt_same _ _ _⟩ hc ?_
      cases hpa : p.a with
      | none => rw [hpa] at hm; exact ⟨hm.1, hm.2.1, hm.2.2.2⟩
      | some b => rw [hpa] at hm; exact hm.1
    · refine LR_mono (fun u u' hu => V2_mono ?_ hu) h4
      rintro i q ⟨j, rfl, hj⟩
      have hjk : j ≠ k := fun e2 => by
        have := h1 k (by omega)
        rw [e2, this] at hj; simp at hj
      exact ⟨j, rfl, by rw [plAt_ne _ _ hjk]; exact hj⟩
  | [], _ :: _, _, hA => hA.elim
  | .pl _ :: _, [], _, hA => hA.elim
  | .sl _ _ _ :: _, [], _, hA => hA.elim
def fnA (C : Cfg) (fuel : Nat) (fn : Func) (c : Code) (args : List Value) (mem : List (Nat × Blk)) (next : Nat) : Option Value := evK C fuel [] c ⟨argSlots 0 args, mem, next⟩ (fun e s => endK C.T fn e s some none) none
theorem law_sound [Laid P] {c : Code} {g : FuncId} {fn : Func} (hf : P.funcs[g]? = some fn) (hb : fn.body = some c) {A : List Arg} {args' : List Value} (hT : ArgW w A args') (hg : GOk (lay P) w) (hlen : A.length ≤ fn.ntmps) {v : Value} (hv : pl2 v = true) (hnt : ∀ vs, v ≠ .tuple vs) {fuel next : Nat}
    (hev0 : ∀ es, ∃ C, CfgOk P C c ∧ C.n = fn.ntmps ∧ fnA C fuel fn c (cArgs A 0) (cMem es A 0) next = some v) (hbt : fn.ntmps ≤ 900000000 := by decide +kernel) : Calls P g args'.toArray w fun e w' => e = .returned v ∧ Below w.heap.size w w' := by
  obtain ⟨es, pl, h1, h2, h3, h4⟩ := top_mem A args' 0 hT
  have hmC := callee_rel hg h2 h3 (Nat.le_trans hlen hbt)
  obtain ⟨C, hC, hn, hev⟩ := hev0 es
  unfold fnA at hev
  rw [evK_eq, oK_some] at hev
  obtain ⟨⟨e, s'⟩, he1, he2⟩ := hev
  refine Calls.mono (fn_mem hC hf hb hn hmC h4 (by rw [cArgs_len]; exact hlen) he1 he2) ?_
  rintro ex w' ⟨R', v', rfl, hvv, hvt, hm'⟩
  have := (V2_plain hv).1 (hvv hnt)
  subst this
  exact ⟨rfl, hm'.below.below fun _ h => h⟩
end
theorem take_rowL {f : Nat → List Value} : ∀ (n lo : Nat) (l : List Value), (∀ i, i < n → l[i]? = some (.int .u8 (bI f (lo + i)))) → l.take n = rowL kB f lo n
  | 0, _, _, _ => rfl
  | n + 1, lo, l, h => by
    cases l with
    | nil => have := h 0 (by omega); simp at this
    | cons x l =>
      have h0 := h 0 (by omega)
      simp only [List.getElem?_cons_zero, Option.some.injEq, Nat.add_zero] at h0
      have ih := take_rowL n (lo + 1) l (fun i hi => by
        have := h (i + 1) (by omega)
        rw [List.getElem?_cons_succ] at this
        rw [this, Nat.add_assoc, Nat.add_comm 1 i])
      rw [List.take_succ_cons, rowL, nrm_kB, ih, h0]; rfl
theorem wf_u8 {x : Int} (h : (Lit.int .u8 x).wf = true) : ∃ n : Nat, n < 256 ∧ x = n := by
  simp only [Lit.wf, decide_eq_true_eq, Bool.and_eq_true] at h
  have h1 : (IntKind.u8.min : Int) = 0 := rfl
  have h2 : (IntKind.u8.max : Int) = 255 := rfl
  rw [h1, h2] at h
  exact ⟨x.toNat, by omega, by omega⟩
section
variable {P : Program} {H : Type} {enc : TypeId × Value → H} {W : World} {base b0 : Nat} {sp : Nat → Bool} {held : Bool} {r : Reach} {t e : TypeId} {v : Value} {d : DataW H} {p : List MemPlace}
open Go.ChangeShapes Go.WideShapes
theorem open_bytes (ht : P.underlying t = some (.slice e)) (he : P.underlying e = some (.int .u8)) (hce : P.cellsOf e = 1) (hv : Value.okWide P W r base t v) (h : DataW.Trod enc P W b0 sp held t v d p) :
    ∃ n f, SrcW W kB n f v ∧ ∀ i, ∃ x : Nat, x < 256 ∧ f i = [.int .u8 (x : Int)] := by
  obtain ⟨a0, len, cap, rfl⟩ := okWide_slice ht hv
  obtain ⟨fuel, hf⟩ := h
  have hv' : Cell.ok P W r base t (.slice a0 len cap) := by
    unfold Value.okWide at hv; rw [ht] at hv
    simp only [Cell.okWide, ht] at hv
    exact hv
  rcases open_ints ht he hce hf with ⟨h1, _⟩ | ⟨a, len', cap', zs, h1, _, hl, _, hz, _, hcell, hwf⟩
  · have h1 : Value.slice a0 len cap = .slice none 0 0 := by simpa [Value.cells] using h1
    cases h1
    exact ⟨0, fun _ => [.int .u8 ((0 : Nat) : Int)], ⟨⟨none, 0, 0⟩, 0, Nat.le_refl _, rfl, rfl, rfl, none, rfl⟩, fun _ => ⟨0, by omega, rfl⟩⟩
  · have h1 : Value.slice a0 len cap = .slice (some a) len' cap' := by simpa [Value.cells] using h1
    cases h1
    unfold Cell.ok at hv'
    rw [ht] at hv'
    obtain ⟨_, _, _, hs, row, cells, hsh, _⟩ := hv'
    have hlz : len ≤ zs.length := by rw [hz]; split <;> omega
    obtain ⟨cs, fz, hb⟩ : ∃ cs fz, W.heap[a.block]? = some (.cells cs row fz) := by
      unfold World.shape? at hsh
      split at hsh
      · rename_i c e1 fz hb
        simp only [Option.some.injEq, Prod.mk.injEq] at hsh
        obtain ⟨rfl, _⟩ := hsh
        exact ⟨c, fz, hb⟩
      · cases hsh
    refine ⟨len, fun i => [.int .u8 (zs.getD i 0)], ⟨⟨some a.block, a.off, cap⟩, row, hl, ?_, cs, fz, hb, ?_⟩, ?_⟩
    · obtain ⟨bl, off, spot⟩ := a
      simp only at hs; subst hs; rfl
    · refine LP_plain (rowL_pl _ _ _ _) ?_
      rw [rowL_len, show len * kB.length = len from Nat.mul_one _]
      refine take_rowL len 0 _ (fun i hi => ?_)
      have := hcell i (by omega)
      unfold World.cell? at this
      rw [block_add, hb] at this
      simp only at this
      split at this
      · cases this
      · rw [List.getElem?_drop, Array.getElem?_toList, Nat.zero_add]
        have eo : (a.add i).off = a.off + i := by unfold Addr.add; split <;> simp_all
        rw [eo] at this; exact this
    · intro i
      by_cases hi : i < zs.length
      · have hm : zs.getD i 0 ∈ zs := by
          simp only [List.getD, List.getElem?_eq_getElem hi, Option.getD_some]; exact List.getElem_mem hi
        obtain ⟨x, hx, e1⟩ := wf_u8 (hwf _ hm)
        exact ⟨x, hx, by simp only [e1]⟩
      · refine ⟨0, by omega, ?_⟩
        have : zs.getD i 0 = 0 := by simp [List.getD, List.getElem?_eq_none (show zs.length ≤ i by omega)]
        simp only [this]; rfl
end
end Go.W
/-
  Words of 32 bits, turned.
-/
namespace Go.W
def w32 (X : Nat) : Value := .int .u32 (X : Int)
def isW : Value → Bool
  | .int .u32 x => decide (0 ≤ x) && Nat.ble x.toNat 4294967295
  | _ => false
def wN (v : Value) : Nat := (toI v).toNat
theorem isW_some {v : Value} (h : isW v = true) : ∃ X, X < 4294967296 ∧ v = w32 X := by
  unfold isW at h
  split at h
  · rename_i x
    simp only [Bool.and_eq_true, decide_eq_true_eq, Nat.ble_eq] at h
    exact ⟨x.toNat, by omega, by unfold w32; rw [Int.toNat_of_nonneg h.1]⟩
  · simp at h
theorem isW_w32 {X : Nat} (h : X < 4294967296) : isW (w32 X) = true := by
  simp only [isW, w32, Bool.and_eq_true, decide_eq_true_eq, Nat.ble_eq]; omega
theorem wN_w32 (X : Nat) : wN (w32 X) = X := rfl
theorem wrap_u32 (n : Int) : IntKind.u32.wrap n = n % 4294967296 := by simp [IntKind.wrap, IntKind.bits, IntKind.signed]
theorem iOr_u32 {a b : Nat} (ha : a < 4294967296) (hb : b < 4294967296) : iOr .u32 a b = (a ||| b : Nat) := by
  unfold iOr
  rw [wrap_u32]
  have e1 : (BitVec.ofInt IntKind.u32.bits (a : Int) ||| BitVec.ofInt IntKind.u32.bits (b : Int)).toNat = a ||| b := by
    show (BitVec.ofInt 32 (a : Int) ||| BitVec.ofInt 32 (b : Int)).toNat = a ||| b
    rw [BitVec.toNat_or, BitVec.ofInt_natCast, BitVec.ofInt_natCast, BitVec.toNat_ofNat, BitVec.toNat_ofNat, Nat.mod_eq_of_lt (by simpa using ha), Nat.mod_eq_of_lt (by simpa using hb)]
  rw [e1]
  have : a ||| b < 2 ^ 32 := Nat.or_lt_two_pow (by simpa using ha) (by simpa using hb)
  omega
def rotN (X n : Nat) : Nat := (X * 2 ^ (32 - n) % 4294967296) ||| (X / 2 ^ n)
theorem rotN_lt {X n : Nat} (h : X < 4294967296) : rotN X n < 4294967296 := by
  have h1 : X * 2 ^ (32 - n) % 4294967296 < 2 ^ 32 := Nat.mod_lt _ (by decide)
  have h2 : X / 2 ^ n < 2 ^ 32 := Nat.lt_of_le_of_lt (Nat.div_le_self _ _) h
  exact Nat.or_lt_two_pow h1 h2
def rolE (x : Int) (m n : Nat) : Int := iOr .u32 (IntKind.u32.wrap (x * 2 ^ m)) (x.fdiv (2 ^ n))
theorem rolE_eq {X n : Nat} (h : X < 4294967296) : rolE (X : Int) (32 - n) n = (rotN X n : Nat) := by
  unfold rolE
  have e : ∀ k, ((2 : Int) ^ k) = ((2 ^ k : Nat) : Int) := fun k => by simp
  rw [wrap_u32, e, e, Int.fdiv_eq_ediv_of_nonneg _ (Int.natCast_nonneg _), ← Int.natCast_ediv, ← Int.natCast_mul]
  rw [show (((X * 2 ^ (32 - n) : Nat) : Int) % 4294967296) = ((X * 2 ^ (32 - n) % 4294967296 : Nat) : Int) from by omega]
  exact iOr_u32 (Nat.mod_lt _ (by decide)) (Nat.lt_of_le_of_lt (Nat.div_le_self _ _) h)
def RotF : List Value → Option (Bool × Value)
  | [x, .int .i64 n] => some (isW x && (decide (0 < n) && decide (n < 32)), w32 (rotN (wN x) n.toNat))
  | _ => none
def RolF : List Value → Option (Bool × Value)
  | [x, .int .i64 k] => some (isW x && (decide (-32 < k) && decide (k < 0)), w32 (rotN (wN x) (-k).toNat))
  | _ => none
def lenB (N i : Int) : Int := IntKind.u8.wrap (N.fdiv (2 ^ min (IntKind.u64.wrap (8 * IntKind.u64.wrap i)).toNat IntKind.u64.bits))
def pd0 (n : Nat) (f : Nat → List Value) : Nat → List Value := appF n (fun j => nrmK kB (f (0 + j))) (lstF [.int .u8 128] 0 1)
def pdG (m : Nat) (g : Nat → List Value) : Nat → Nat → List Value
  | 0 => g
  | k + 1 => appF (m + k) (pdG m g k) (lstF [.int .u8 0] 0 1)
def pdH (N : Int) (m : Nat) (g : Nat → List Value) : Nat → Nat → List Value
  | 0 => g
  | k + 1 => appF (m + k) (pdH N m g k) (lstF [.int .u8 (lenB N (7 - (k : Int)))] 0 1)
def padZ (n : Nat) : Nat := (119 - n % 64) % 64
def padL (n : Nat) : Nat := n + 1 + padZ n
def padG (n : Nat) (f : Nat → List Value) : Nat → List Value := pdG (n + 1) (pd0 n f) (padZ n)
def padF (n : Nat) (f : Nat → List Value) : Nat → List Value := pdH ((n * 8 : Nat) : Int) (padL n) (padG n f) 8
def PdF (e : Nat) : List Value → (Nat → Option Blk) → Nat → List (Bool × Value × List (Nat × Blk))
  | [a], mm, id => [((srcB mm kB a).1 && Nat.ble (srcB mm kB a).2.1 1000000, .slice (some ⟨nid id 0, 0, none⟩) (padL (srcB mm kB a).2.1 + 8) (padL (srcB mm kB a).2.1 + 8), [(nid id 0, ⟨.row kB (padL (srcB mm kB a).2.1 + 8) (padF (srcB mm kB a).2.1 (srcB mm kB a).2.2), e, true⟩)])]
  | _, _, _ => []
theorem twoL {P : Program} [Laid P] {n : Nat} {c : Code} {p p2 : List Nat} {F F2 : St → List (Bool × Exit × St)} (h : LoopOk P n (loopAt p c) F) (h2 : LoopOk P n (loopAt p2 c) F2) : ∀ q F', lookP [(p, F), (p2, F2)] q = some F' → LoopOk P n (loopAt q c) F' := by
  intro q F' hq
  rw [lookP] at hq
  cases he : nlEq p q with
  | false => rw [he] at hq; exact oneL h2 q F' hq
  | true => rw [he] at hq; simp at hq; subst hq; rw [← nlEq_iff he]; exact h
theorem szOk_small {n : Nat} (h : n ≤ 2000000) : szOk n 1 = true := by unfold szOk; rw [Nat.ble_eq]; omega
theorem pad_more {n k : Nat} (hn : n ≤ 1000000) (hk : k < padZ n) : ((IntKind.i64.wrap (((n + 1 + k : Nat) : Int) + 8)).tmod 64 != 0) = true := by
  unfold padZ at hk
  rw [wrap_i64 (by omega), Int.tmod_eq_emod_of_nonneg (by omega), bne_iff_ne]
  omega
theorem pad_done {n : Nat} (hn : n ≤ 1000000) : ((IntKind.i64.wrap (((n + 1 + padZ n : Nat) : Int) + 8)).tmod 64 != 0) = false := by
  unfold padZ
  rw [wrap_i64 (by omega), Int.tmod_eq_emod_of_nonneg (by omega), bne_eq_false_iff_eq]
  omega
end Go.W
