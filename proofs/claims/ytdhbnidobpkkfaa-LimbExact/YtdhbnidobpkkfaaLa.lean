/-
  Contracts of package limb, first part: sums, differences, comparisons.
-/
import Derived.Test.YtdhbnidobpkkfaaTab
import Derived.Test.YtdhbnidobpkkfaaM2
import Derived.Laws.Externs
namespace Go.Proofs.Ytdhbnidobpkkfaa
open Go.W
open Go.RowKit (Below)

noncomputable def eAdd64 : Array Value → Sem Value := (Extern.find Try.f26).getD fun _ => pure undef
noncomputable def eSub64 : Array Value → Sem Value := (Extern.find Try.f27).getD fun _ => pure undef

theorem Add64_find : Extern.find Try.f26 = some eAdd64 := by kernel_rfl
theorem Sub64_find : Extern.find Try.f27 = some eSub64 := by kernel_rfl
theorem Add64_next : Extern.findNext Try.f26 = none := by kernel_rfl
theorem Sub64_next : Extern.findNext Try.f27 = none := by kernel_rfl

theorem run_eAdd64 {P : Program} (k1 k2 k3 : IntKind) (x y : Int) : ∀ (c : Int), c.toNat ≤ 1 → ∀ w, (eAdd64 #[.int k1 x, .int k2 y, .int k3 c]).run P w = .ok (.tuple #[u64 (s64 x.toNat y.toNat c.toNat), u64 (c64 x.toNat y.toNat c.toNat)]) w
  | .ofNat 0, _, _ => rfl
  | .ofNat 1, _, _ => rfl
  | .ofNat (n + 2), h, _ => absurd h (by show ¬ (n + 2 ≤ 1); omega)
  | .negSucc n, _, _ => rfl

theorem run_eSub64 {P : Program} (k1 k2 k3 : IntKind) (x y : Int) : ∀ (c : Int), c.toNat ≤ 1 → ∀ w, (eSub64 #[.int k1 x, .int k2 y, .int k3 c]).run P w = .ok (.tuple #[u64 (d64 x.toNat y.toNat c.toNat), u64 (b64 x.toNat y.toNat c.toNat)]) w
  | .ofNat 0, _, _ => rfl
  | .ofNat 1, _, _ => rfl
  | .ofNat (n + 2), h, _ => absurd h (by show ¬ (n + 2 ≤ 1); omega)
  | .negSucc n, _, _ => rfl

theorem Add64_sum : Sum Try.prog 26 Add64F := by
  intro args v h hp w
  unfold Add64F at h
  split at h
  · rename_i k1 x k2 y k3 c
    simp only [Option.some.injEq, Prod.mk.injEq, Nat.ble_eq] at h
    obtain ⟨hc, rfl⟩ := h
    unfold Invokes
    rw [run_callFunc_extern Try.func26 (by kernel_rfl) (by kernel_rfl) Add64_next Add64_find]
    rw [run_eAdd64 k1 k2 k3 x y c hc]
    exact ⟨rfl, Below.refl _ _⟩
  · simp at h

theorem Sub64_sum : Sum Try.prog 27 Sub64F := by
  intro args v h hp w
  unfold Sub64F at h
  split at h
  · rename_i k1 x k2 y k3 c
    simp only [Option.some.injEq, Prod.mk.injEq, Nat.ble_eq] at h
    obtain ⟨hc, rfl⟩ := h
    unfold Invokes
    rw [run_callFunc_extern Try.func27 (by kernel_rfl) (by kernel_rfl) Sub64_next Sub64_find]
    rw [run_eSub64 k1 k2 k3 x y c hc]
    exact ⟨rfl, Below.refl _ _⟩
  · simp at h

def AddC : Cfg := ⟨tab, [(26, Add64F)], 26, []⟩
theorem AddOk : CfgOk Try.prog AddC (bodyOf Try.f9) := ⟨mixed, tabOk, sums_cons Add64_sum sums_nil, noL⟩
theorem Add_ev (x0 x1 x2 x3 y0 y1 y2 y3 : Nat) : fnS AddC 60 Try.f9 (bodyOf Try.f9) [numd x0 x1 x2 x3, numd y0 y1 y2 y3] = AddT x0 x1 x2 x3 y0 y1 y2 y3 := by kernel_rfl
theorem Add_sum : Sum Try.prog 9 AddF := by
  refine sum_of AddOk Try.func9 (by kernel_rfl) (by kernel_rfl) rfl (fuel := 60) fun args v h _ => ?_
  obtain ⟨X, Y, hX, hY, rfl, rfl⟩ := arg2 (f := fun x y => addV (unnum x) (unnum y)) h
  refine ⟨by show 2 ≤ Try.f9.ntmps; decide +kernel, ?_, rfl⟩
  obtain ⟨x0, x1, x2, x3, h0, h1, h2, h3, e1, e2⟩ := digits hX
  obtain ⟨y0, y1, y2, y3, k0, k1, k2, k3, e3, e4⟩ := digits hY
  rw [unnum_lt hX, unnum_lt hY, e2, e4, Add_ev, AddT_eq h0 h1 h2 h3 k0 k1 k2 k3, e1, e3]

def SubC : Cfg := ⟨tab, [(27, Sub64F)], 26, []⟩
theorem SubOk : CfgOk Try.prog SubC (bodyOf Try.f11) := ⟨mixed, tabOk, sums_cons Sub64_sum sums_nil, noL⟩
theorem Sub_ev (x0 x1 x2 x3 y0 y1 y2 y3 : Nat) : fnS SubC 60 Try.f11 (bodyOf Try.f11) [numd x0 x1 x2 x3, numd y0 y1 y2 y3] = SubT x0 x1 x2 x3 y0 y1 y2 y3 := by kernel_rfl
theorem Sub_sum : Sum Try.prog 11 SubF := by
  refine sum_of SubOk Try.func11 (by kernel_rfl) (by kernel_rfl) rfl (fuel := 60) fun args v h _ => ?_
  obtain ⟨X, Y, hX, hY, rfl, rfl⟩ := arg2 (f := fun x y => subV (unnum x) (unnum y)) h
  refine ⟨by show 2 ≤ Try.f11.ntmps; decide +kernel, ?_, rfl⟩
  obtain ⟨x0, x1, x2, x3, h0, h1, h2, h3, e1, e2⟩ := digits hX
  obtain ⟨y0, y1, y2, y3, k0, k1, k2, k3, e3, e4⟩ := digits hY
  rw [unnum_lt hX, unnum_lt hY, e2, e4, Sub_ev, SubT_eq h0 h1 h2 h3 k0 k1 k2 k3, e1, e3]

def CmpC : Cfg := ⟨tab, [], 24, []⟩
theorem CmpOk : CfgOk Try.prog CmpC (bodyOf Try.f15) := ⟨mixed, tabOk, sums_nil, noL⟩
theorem Cmp_ev (x0 x1 x2 x3 y0 y1 y2 y3 : Nat) : fnS CmpC 60 Try.f15 (bodyOf Try.f15) [numd x0 x1 x2 x3, numd y0 y1 y2 y3] = CmpT x0 x1 x2 x3 y0 y1 y2 y3 := by kernel_rfl
theorem Cmp_sum : Sum Try.prog 15 CmpF := by
  refine sum_of CmpOk Try.func15 (by kernel_rfl) (by kernel_rfl) rfl (fuel := 60) fun args v h _ => ?_
  obtain ⟨X, Y, hX, hY, rfl, rfl⟩ := arg2 (f := fun x y => i64 (cmpI (unnum x) (unnum y))) h
  refine ⟨by show 2 ≤ Try.f15.ntmps; decide +kernel, ?_, rfl⟩
  obtain ⟨x0, x1, x2, x3, h0, h1, h2, h3, e1, e2⟩ := digits hX
  obtain ⟨y0, y1, y2, y3, k0, k1, k2, k3, e3, e4⟩ := digits hY
  rw [unnum_lt hX, unnum_lt hY, e2, e4, Cmp_ev, CmpT_eq h0 h1 h2 k0 k1 k2, e1, e3]

end Go.Proofs.Ytdhbnidobpkkfaa
