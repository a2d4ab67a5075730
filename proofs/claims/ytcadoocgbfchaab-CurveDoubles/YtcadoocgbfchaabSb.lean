/-
  Several texts in one.
-/
import Derived.Test.YtcadoocgbfchaabSa
import Derived.Test.YtcadoocgbfchaabEb
import Derived.Test.YtcadoocgbfchaabEc
/-
  The document's own answers, package limb: what the engine says of their texts.
-/
namespace Go.Proofs.Ytcadoocgbfchaab
set_option maxRecDepth 100000
open Go.W
open Go.RowKit (Below)

end Go.Proofs.Ytcadoocgbfchaab

/-
  The document's own answers, package limb: lengths.
-/
namespace Go.Proofs.Ytcadoocgbfchaab
set_option maxRecDepth 100000
open Go.W
open Go.RowKit (Below)

end Go.Proofs.Ytcadoocgbfchaab

/-
  The document's own answers, package limb: products, and what is left.
-/
namespace Go.Proofs.Ytcadoocgbfchaab
set_option maxRecDepth 100000
open Go.W
open Go.RowKit (Below)

end Go.Proofs.Ytcadoocgbfchaab

/-
  The document's own answers, package field: what the engine says of their texts.
-/
namespace Go.Proofs.Ytcadoocgbfchaab
set_option maxRecDepth 100000
open Go.W
open Go.RowKit (Below)

end Go.Proofs.Ytcadoocgbfchaab

/-
  The document's own answers, package field: roots; which.
-/
namespace Go.Proofs.Ytcadoocgbfchaab
set_option maxRecDepth 100000
open Go.W
open Go.RowKit (Below)

end Go.Proofs.Ytcadoocgbfchaab
