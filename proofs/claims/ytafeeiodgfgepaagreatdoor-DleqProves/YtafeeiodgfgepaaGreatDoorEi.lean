/-
  Several texts in one.
-/
import Derived.Test.YtafeeiodgfgepaaGreatDoorEc
import Derived.Test.YtafeeiodgfgepaaGreatDoorEe
/-
  Numbers modulo n that nothing computes.
-/
namespace Go.W
noncomputable def nAdd (A B : Nat) : Nat := Classical.choose (⟨faddN 1 A B, rfl⟩ : ∃ x : Nat, x = faddN 1 A B)
theorem nAdd_def (A B : Nat) : nAdd A B = faddN 1 A B := Classical.choose_spec (⟨faddN 1 A B, rfl⟩ : ∃ x : Nat, x = faddN 1 A B)
noncomputable def nSub (A B : Nat) : Nat := Classical.choose (⟨fsubN 1 A B, rfl⟩ : ∃ x : Nat, x = fsubN 1 A B)
theorem nSub_def (A B : Nat) : nSub A B = fsubN 1 A B := Classical.choose_spec (⟨fsubN 1 A B, rfl⟩ : ∃ x : Nat, x = fsubN 1 A B)
noncomputable def nMul (A B : Nat) : Nat := Classical.choose (⟨fmulN 1 A B, rfl⟩ : ∃ x : Nat, x = fmulN 1 A B)
theorem nMul_def (A B : Nat) : nMul A B = fmulN 1 A B := Classical.choose_spec (⟨fmulN 1 A B, rfl⟩ : ∃ x : Nat, x = fmulN 1 A B)
noncomputable def nInv (A : Nat) : Nat := Classical.choose (⟨powN 1 A (primeN 1 - 2), rfl⟩ : ∃ x : Nat, x = powN 1 A (primeN 1 - 2))
theorem nInv_def (A : Nat) : nInv A = powN 1 A (primeN 1 - 2) := Classical.choose_spec (⟨powN 1 A (primeN 1 - 2), rfl⟩ : ∃ x : Nat, x = powN 1 A (primeN 1 - 2))
noncomputable def nRed (A : Nat) : Nat := Classical.choose (⟨redN 1 A, rfl⟩ : ∃ x : Nat, x = redN 1 A)
theorem nRed_def (A : Nat) : nRed A = redN 1 A := Classical.choose_spec (⟨redN 1 A, rfl⟩ : ∃ x : Nat, x = redN 1 A)
noncomputable def PAddF : List Value → Option (Bool × Value)
  | [a, b] => some (isNum a && isNum b, num (nAdd (unnum a) (unnum b)))
  | _ => none
noncomputable def PSubF : List Value → Option (Bool × Value)
  | [a, b] => some (isNum a && isNum b, num (nSub (unnum a) (unnum b)))
  | _ => none
noncomputable def PMulF : List Value → Option (Bool × Value)
  | [a, b] => some (isNum a && isNum b, num (nMul (unnum a) (unnum b)))
  | _ => none
noncomputable def PInvF : List Value → Option (Bool × Value)
  | [a] => some (isNum a, num (nInv (unnum a)))
  | _ => none
theorem n1_pos : 0 < pN := by decide
theorem n1_lt : pN < 2 ^ 256 := by decide
theorem nAdd_eq (A B : Nat) : nAdd A B = (A + B) % pN := by rw [nAdd_def, faddN_ok (w := 1) rfl]; rfl
theorem nMul_eq (A B : Nat) : nMul A B = A * B % pN := by rw [nMul_def, fmulN_ok (w := 1) rfl]; rfl
theorem nSub_eq (A B : Nat) : nSub A B = (A + (pN - B % pN)) % pN := by rw [nSub_def, fsubN_ok (w := 1) rfl]; rfl
theorem nRed_eq (A : Nat) : nRed A = A % pN := by rw [nRed_def, redN_ok (w := 1) rfl]; rfl
theorem nAdd_p (A B : Nat) : nAdd A B < pN := by rw [nAdd_eq]; exact Nat.mod_lt _ n1_pos
theorem nMul_p (A B : Nat) : nMul A B < pN := by rw [nMul_eq]; exact Nat.mod_lt _ n1_pos
theorem nSub_p (A B : Nat) : nSub A B < pN := by rw [nSub_eq]; exact Nat.mod_lt _ n1_pos
theorem nRed_p (A : Nat) : nRed A < pN := by rw [nRed_eq]; exact Nat.mod_lt _ n1_pos
theorem nInv_p (A : Nat) : nInv A < pN := by
  rw [nInv_def, powN_ok (w := 1) rfl (by decide)]; exact Nat.mod_lt _ n1_pos
theorem p_lt {A : Nat} (h : A < pN) : A < 2 ^ 256 := Nat.lt_trans h n1_lt
theorem uN {A : Nat} (h : A < pN) : unnum (num A) = A := unnum_lt (p_lt h)
theorem nAdd_l (A B : Nat) : nAdd A B < 2 ^ 256 := p_lt (nAdd_p _ _)
theorem nMul_l (A B : Nat) : nMul A B < 2 ^ 256 := p_lt (nMul_p _ _)
theorem nSub_l (A B : Nat) : nSub A B < 2 ^ 256 := p_lt (nSub_p _ _)
theorem nInv_l (A : Nat) : nInv A < 2 ^ 256 := p_lt (nInv_p _)
end Go.W
/-
  A contract out of another one.
-/
namespace Go.W
theorem MSum_sub {P : Program} [Laid P] {g : FuncId} {F F' : List Value → (Nat → Option Blk) → Nat → List (Bool × Value × List (Nat × Blk))} (h : MSum P g F) (hs : ∀ vs mm id v l, pickM (F' vs mm id) = some (v, l) → pickM (F vs mm id) = some (v, l)) : MSum P g F' := by
  intro w0 R fm w hm vs args' hl mm hsub id hlt v l hpick hnew
  exact h w0 R fm w hm vs args' hl mm hsub id hlt v l (hs _ _ _ _ _ hpick) hnew
end Go.W
