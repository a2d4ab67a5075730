/-
  Several texts in one.
-/
import Derived.Test.YtafeeiodgfgepaaDoorSa
import Derived.Test.YtafeeiodgfgepaaDoorEb
import Derived.Test.YtafeeiodgfgepaaDoorEc
/-
  The document's own answers, package limb: what the engine says of their texts.
-/
namespace Go.Proofs.YtafeeiodgfgepaaDoor
set_option maxRecDepth 100000
open Go.W
open Go.RowKit (Below)
def AddRC : Cfg := ⟨tab, [(24, Add64F)], 28, []⟩
theorem AddROk : CfgOk Tryd.prog AddRC (bodyOf Tryd.f10) := ⟨mixed, tabOk, sums_cons Add64_sum sums_nil, noL⟩
theorem AddR_ev (x0 x1 x2 x3 y0 y1 y2 y3 : Nat) : fnS AddRC 60 Tryd.f10 (bodyOf Tryd.f10) [numd x0 x1 x2 x3, numd y0 y1 y2 y3] = AddT x0 x1 x2 x3 y0 y1 y2 y3 := by kernel_rfl
theorem AddR_sum : Sum Tryd.prog 10 AddF := by
  refine sum_of AddROk Tryd.func10 (by kernel_rfl) (by kernel_rfl) rfl (fuel := 60) fun args v h _ => ?_
  obtain ⟨X, Y, hX, hY, rfl, rfl⟩ := arg2 (f := fun x y => addV (unnum x) (unnum y)) h
  refine ⟨by show 2 ≤ Tryd.f10.ntmps; decide +kernel, ?_, rfl⟩
  obtain ⟨x0, x1, x2, x3, h0, h1, h2, h3, e1, e2⟩ := digits hX
  obtain ⟨y0, y1, y2, y3, k0, k1, k2, k3, e3, e4⟩ := digits hY
  rw [unnum_lt hX, unnum_lt hY, e2, e4, AddR_ev, AddT_eq h0 h1 h2 h3 k0 k1 k2 k3, e1, e3]
end Go.Proofs.YtafeeiodgfgepaaDoor
/-
  The document's own answers, package limb: lengths.
-/
namespace Go.Proofs.YtafeeiodgfgepaaDoor
set_option maxRecDepth 100000
open Go.W
open Go.RowKit (Below)
end Go.Proofs.YtafeeiodgfgepaaDoor
/-
  The document's own answers, package limb: products, and what is left.
-/
namespace Go.Proofs.YtafeeiodgfgepaaDoor
set_option maxRecDepth 100000
open Go.W
open Go.RowKit (Below)
end Go.Proofs.YtafeeiodgfgepaaDoor
/-
  The document's own answers, package field: what the engine says of their texts.
-/
namespace Go.Proofs.YtafeeiodgfgepaaDoor
set_option maxRecDepth 100000
open Go.W
open Go.RowKit (Below)
end Go.Proofs.YtafeeiodgfgepaaDoor
/-
  The document's own answers, package field: roots; which.
-/
namespace Go.Proofs.YtafeeiodgfgepaaDoor
set_option maxRecDepth 100000
open Go.W
open Go.RowKit (Below)
end Go.Proofs.YtafeeiodgfgepaaDoor
