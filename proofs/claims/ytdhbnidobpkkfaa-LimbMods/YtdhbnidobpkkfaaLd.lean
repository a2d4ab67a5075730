/-
  Contracts of package limb, fourth part: lengths, bytes.
-/
import Derived.Test.YtdhbnidobpkkfaaLc
import Derived.Test.YtdhbnidobpkkfaaM7
namespace Go.Proofs.Ytdhbnidobpkkfaa
open Go.W
open Go.RowKit (Below)

def Len64C : Cfg := ⟨tab, [], 25, []⟩
theorem Len64Ok : CfgOk Try.prog Len64C (bodyOf Try.f30) := ⟨mixed, tabOk, sums_nil, noL⟩
theorem Len64_ev (x : Nat) : fnS Len64C 60 Try.f30 (bodyOf Try.f30) [u64 x] = Len64T x := by kernel_rfl
theorem Len64_sum : Sum Try.prog 30 Len64F := by
  refine sum_of Len64Ok Try.func30 (by kernel_rfl) (by kernel_rfl) rfl (fuel := 60) fun args v h _ => ?_
  unfold Len64F at h
  split at h
  · simp only [Option.some.injEq, Prod.mk.injEq] at h
    obtain ⟨h1, rfl⟩ := h
    obtain ⟨x, hx, rfl⟩ := isU64_some h1
    exact ⟨by show 1 ≤ Try.f30.ntmps; decide +kernel, (Len64_ev x).trans (Len64T_eq hx), rfl⟩
  · simp at h

def LenC : Cfg := ⟨tab, [(30, Len64F)], 19, []⟩
theorem LenOk : CfgOk Try.prog LenC (bodyOf Try.f19) := ⟨mixed, tabOk, sums_cons Len64_sum sums_nil, noL⟩
theorem Len_ev (a b c d : Nat) : fnS LenC 60 Try.f19 (bodyOf Try.f19) [numd a b c d] = LenT a b c d := by kernel_rfl
theorem Len_sum : Sum Try.prog 19 LenF := by
  refine sum_of LenOk Try.func19 (by kernel_rfl) (by kernel_rfl) rfl (fuel := 60) fun args v h _ => ?_
  obtain ⟨X, hX, rfl, rfl⟩ := arg1 (f := fun x => i64 (bitLen (unnum x) : Int)) h
  refine ⟨by show 1 ≤ Try.f19.ntmps; decide +kernel, ?_, rfl⟩
  obtain ⟨a, b, c, d, h0, h1, h2, h3, e1, e2⟩ := digits hX
  rw [unnum_lt hX, e2, Len_ev, LenT_eq h0 h1 h2 h3, e1]

def BytesC : Cfg := ⟨tab, [], 24, []⟩
theorem BytesOk : CfgOk Try.prog BytesC (bodyOf Try.f25) := ⟨mixed, tabOk, sums_nil, noL⟩
theorem Bytes_ev (a b c d : Nat) : fnS BytesC 100 Try.f25 (bodyOf Try.f25) [numd a b c d] = BytesT a b c d := by kernel_rfl
theorem Bytes_sum : Sum Try.prog 25 BytesF := by
  refine sum_of BytesOk Try.func25 (by kernel_rfl) (by kernel_rfl) rfl (fuel := 100) fun args v h _ => ?_
  obtain ⟨X, hX, rfl, rfl⟩ := arg1 (f := fun x => bytesV (unnum x)) h
  refine ⟨by show 1 ≤ Try.f25.ntmps; decide +kernel, ?_, by kernel_rfl⟩
  obtain ⟨a, b, c, d, h0, h1, h2, h3, e1, e2⟩ := digits hX
  rw [unnum_lt hX, e2, Bytes_ev, BytesT_eq h0 h1 h2, e1]

end Go.Proofs.Ytdhbnidobpkkfaa
