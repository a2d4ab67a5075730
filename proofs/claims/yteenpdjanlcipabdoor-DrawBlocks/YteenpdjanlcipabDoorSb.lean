/-
  Several texts in one.
-/
import Derived.Test.YteenpdjanlcipabDoorSa
import Derived.Test.YteenpdjanlcipabDoorEb
import Derived.Test.YteenpdjanlcipabDoorEc
/-
  The document's own answers, package limb: what the engine says of their texts.
-/
namespace Go.Proofs.YteenpdjanlcipabDoor
set_option maxRecDepth 100000
open Go.W
open Go.RowKit (Below)

end Go.Proofs.YteenpdjanlcipabDoor

/-
  The document's own answers, package limb: lengths.
-/
namespace Go.Proofs.YteenpdjanlcipabDoor
set_option maxRecDepth 100000
open Go.W
open Go.RowKit (Below)

end Go.Proofs.YteenpdjanlcipabDoor

/-
  The document's own answers, package limb: products, and what is left.
-/
namespace Go.Proofs.YteenpdjanlcipabDoor
set_option maxRecDepth 100000
open Go.W
open Go.RowKit (Below)

end Go.Proofs.YteenpdjanlcipabDoor

/-
  The document's own answers, package field: what the engine says of their texts.
-/
namespace Go.Proofs.YteenpdjanlcipabDoor
set_option maxRecDepth 100000
open Go.W
open Go.RowKit (Below)

end Go.Proofs.YteenpdjanlcipabDoor

/-
  The document's own answers, package field: roots; which.
-/
namespace Go.Proofs.YteenpdjanlcipabDoor
set_option maxRecDepth 100000
open Go.W
open Go.RowKit (Below)

end Go.Proofs.YteenpdjanlcipabDoor
