/-
  Contracts of Scanned and Placed, in both texts. Condition: the list is no longer than 1048576 (the laws ask no more).
-/
import Derived.Test.YtgccphidnbfcaaaScanB
import Derived.Maps.AppendAt
namespace Go.Proofs.Ytgccphidnbfcaaa
open Go.RowKit
set_option linter.unusedVariables false

/-! ### A row that grows beside another that is read -/
end Go.Proofs.Ytgccphidnbfcaaa
