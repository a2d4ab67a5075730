/-
  Several texts in one.
-/
import Derived.Test.YtdcgjjhngnkbmaaDoorSa
import Derived.Test.YtdcgjjhngnkbmaaDoorEb
import Derived.Test.YtdcgjjhngnkbmaaDoorEc
/-
  The document's own answers, package limb: what the engine says of their texts.
-/
namespace Go.Proofs.YtdcgjjhngnkbmaaDoor
set_option maxRecDepth 100000
open Go.W
open Go.RowKit (Below)

end Go.Proofs.YtdcgjjhngnkbmaaDoor

/-
  The document's own answers, package limb: lengths.
-/
namespace Go.Proofs.YtdcgjjhngnkbmaaDoor
set_option maxRecDepth 100000
open Go.W
open Go.RowKit (Below)

end Go.Proofs.YtdcgjjhngnkbmaaDoor

/-
  The document's own answers, package limb: products, and what is left.
-/
namespace Go.Proofs.YtdcgjjhngnkbmaaDoor
set_option maxRecDepth 100000
open Go.W
open Go.RowKit (Below)

end Go.Proofs.YtdcgjjhngnkbmaaDoor

/-
  The document's own answers, package field: what the engine says of their texts.
-/
namespace Go.Proofs.YtdcgjjhngnkbmaaDoor
set_option maxRecDepth 100000
open Go.W
open Go.RowKit (Below)

end Go.Proofs.YtdcgjjhngnkbmaaDoor

/-
  The document's own answers, package field: roots; which.
-/
namespace Go.Proofs.YtdcgjjhngnkbmaaDoor
set_option maxRecDepth 100000
open Go.W
open Go.RowKit (Below)

end Go.Proofs.YtdcgjjhngnkbmaaDoor
