/-
  Several texts in one.
-/
import Derived.Test.YtbklbmiddacaiabSa
import Derived.Test.YtbklbmiddacaiabEb
import Derived.Test.YtbklbmiddacaiabEc
/-
  The document's own answers, package limb: what the engine says of their texts.
-/
namespace Go.Proofs.Ytbklbmiddacaiab
set_option maxRecDepth 100000
open Go.W
open Go.RowKit (Below)

end Go.Proofs.Ytbklbmiddacaiab

/-
  The document's own answers, package limb: lengths.
-/
namespace Go.Proofs.Ytbklbmiddacaiab
set_option maxRecDepth 100000
open Go.W
open Go.RowKit (Below)

end Go.Proofs.Ytbklbmiddacaiab

/-
  The document's own answers, package limb: products, and what is left.
-/
namespace Go.Proofs.Ytbklbmiddacaiab
set_option maxRecDepth 100000
open Go.W
open Go.RowKit (Below)

end Go.Proofs.Ytbklbmiddacaiab

/-
  The document's own answers, package field: what the engine says of their texts.
-/
namespace Go.Proofs.Ytbklbmiddacaiab
set_option maxRecDepth 100000
open Go.W
open Go.RowKit (Below)

end Go.Proofs.Ytbklbmiddacaiab

/-
  The document's own answers, package field: roots; which.
-/
namespace Go.Proofs.Ytbklbmiddacaiab
set_option maxRecDepth 100000
open Go.W
open Go.RowKit (Below)

end Go.Proofs.Ytbklbmiddacaiab
