/-
  Several texts in one.
-/
import Derived.Test.YtdhbnidobpkkfacSa
import Derived.Test.YtdhbnidobpkkfacEb
import Derived.Test.YtdhbnidobpkkfacEc
/-
  The document's own answers, package limb: what the engine says of their texts.
-/
namespace Go.Proofs.Ytdhbnidobpkkfac
open Go.W
open Go.RowKit (Below)

end Go.Proofs.Ytdhbnidobpkkfac

/-
  The document's own answers, package limb: lengths.
-/
namespace Go.Proofs.Ytdhbnidobpkkfac
open Go.W
open Go.RowKit (Below)

end Go.Proofs.Ytdhbnidobpkkfac

/-
  The document's own answers, package limb: products, and what is left.
-/
namespace Go.Proofs.Ytdhbnidobpkkfac
open Go.W
open Go.RowKit (Below)

end Go.Proofs.Ytdhbnidobpkkfac

/-
  The document's own answers, package field: what the engine says of their texts.
-/
namespace Go.Proofs.Ytdhbnidobpkkfac
open Go.W
open Go.RowKit (Below)

end Go.Proofs.Ytdhbnidobpkkfac

/-
  The document's own answers, package field: roots; which.
-/
namespace Go.Proofs.Ytdhbnidobpkkfac
open Go.W
open Go.RowKit (Below)

def oneC : Cfg := ⟨tab, [], 12, []⟩
theorem oneOk : CfgOk Try.prog oneC (bodyOf Try.f9) := ⟨mixed, tabOk, sums_nil, noL⟩
theorem one_ev (w : Int) : fnS oneC 60 Try.f9 (bodyOf Try.f9) [i64 w] = oneT w := by kernel_rfl
theorem one_sum : Sum Try.prog 9 OneF := by
  refine sum_of oneOk Try.func9 (by kernel_rfl) (by kernel_rfl) rfl (fuel := 60) fun args v h _ => ?_
  unfold OneF at h
  split at h
  · simp only [Option.some.injEq, Prod.mk.injEq, true_and] at h
    subst h
    exact ⟨by show 1 ≤ Try.f9.ntmps; decide +kernel, (one_ev _).trans (oneT_eq _), rfl⟩
  · simp at h

end Go.Proofs.Ytdhbnidobpkkfac
