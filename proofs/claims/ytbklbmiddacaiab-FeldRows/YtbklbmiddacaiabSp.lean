/-
  Several texts in one.
-/
import Derived.Test.YtbklbmiddacaiabSc
import Derived.Test.YtbklbmiddacaiabSb
import Derived.Test.YtbklbmiddacaiabEi
/-
  Package poly: one product, sum, difference, inverse.
-/
namespace Go.Proofs.Ytbklbmiddacaiab
set_option maxRecDepth 100000
open Go.W

end Go.Proofs.Ytbklbmiddacaiab

/-
  Package poly: what a polynomial is worth.
-/
namespace Go.Proofs.Ytbklbmiddacaiab
set_option maxRecDepth 100000
open Go.W

end Go.Proofs.Ytbklbmiddacaiab
