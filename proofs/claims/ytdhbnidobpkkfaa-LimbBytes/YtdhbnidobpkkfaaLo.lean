/-
  Contracts of package limb, fifth part: bytes to a number.
-/
import Derived.Test.YtdhbnidobpkkfaaLd
import Derived.Test.YtdhbnidobpkkfaaM11
namespace Go.Proofs.Ytdhbnidobpkkfaa
open Go.W
open Go.RowKit (Below)

def OfC : Cfg := ⟨tab, [], 28, []⟩
theorem OfOk : CfgOk Try.prog OfC (bodyOf Try.f24) := ⟨mixed, tabOk, sums_nil, noL⟩
theorem Of_ev (a0 a1 a2 a3 a4 a5 a6 a7 b0 b1 b2 b3 b4 b5 b6 b7 c0 c1 c2 c3 c4 c5 c6 c7 d0 d1 d2 d3 d4 d5 d6 d7 : Nat) : fnS OfC 100 Try.f24 (bodyOf Try.f24) [by32 a0 a1 a2 a3 a4 a5 a6 a7 b0 b1 b2 b3 b4 b5 b6 b7 c0 c1 c2 c3 c4 c5 c6 c7 d0 d1 d2 d3 d4 d5 d6 d7] = OfT a0 a1 a2 a3 a4 a5 a6 a7 b0 b1 b2 b3 b4 b5 b6 b7 c0 c1 c2 c3 c4 c5 c6 c7 d0 d1 d2 d3 d4 d5 d6 d7 := by kernel_rfl
theorem Of_sum : Sum Try.prog 24 OfF := by
  refine sum_of OfOk Try.func24 (by kernel_rfl) (by kernel_rfl) rfl (fuel := 100) fun args v h _ => ?_
  unfold OfF at h
  split at h
  · simp only [Option.some.injEq, Prod.mk.injEq] at h
    obtain ⟨h1, rfl⟩ := h
    obtain ⟨X, hX, rfl, h2⟩ := isB32_some h1
    refine ⟨by show 1 ≤ Try.f24.ntmps; decide +kernel, ?_, rfl⟩
    rw [h2]
    obtain ⟨a, b, c, d, k0, k1, k2, k3, e1, e2⟩ := digits hX
    rw [e2, e1, bytesV_by32 k0 k1 k2]
    refine (Of_ev (d / 2 ^ 56 % 256) (d / 2 ^ 48 % 256) (d / 2 ^ 40 % 256) (d / 2 ^ 32 % 256) (d / 2 ^ 24 % 256) (d / 2 ^ 16 % 256) (d / 2 ^ 8 % 256) (d % 256) (c / 2 ^ 56 % 256) (c / 2 ^ 48 % 256) (c / 2 ^ 40 % 256) (c / 2 ^ 32 % 256) (c / 2 ^ 24 % 256) (c / 2 ^ 16 % 256) (c / 2 ^ 8 % 256) (c % 256) (b / 2 ^ 56 % 256) (b / 2 ^ 48 % 256) (b / 2 ^ 40 % 256) (b / 2 ^ 32 % 256) (b / 2 ^ 24 % 256) (b / 2 ^ 16 % 256) (b / 2 ^ 8 % 256) (b % 256) (a / 2 ^ 56 % 256) (a / 2 ^ 48 % 256) (a / 2 ^ 40 % 256) (a / 2 ^ 32 % 256) (a / 2 ^ 24 % 256) (a / 2 ^ 16 % 256) (a / 2 ^ 8 % 256) (a % 256)).trans ?_
    unfold OfT
    rw [of8_dig k0, of8_dig k1, of8_dig k2, of8_dig k3]
    rfl
  · simp at h

end Go.Proofs.Ytdhbnidobpkkfaa
