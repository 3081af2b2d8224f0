/-
  Contracts of the model's Residual and FastRecon. Condition: for FastRecon a slice is no longer than it holds.
-/
import Derived.Test.YtjgbenhjafgimaaReA
namespace Go.Proofs.Ytjgbenhjafgimaa
open Go.RowKit
set_option linter.unusedVariables false

end Go.Proofs.Ytjgbenhjafgimaa
