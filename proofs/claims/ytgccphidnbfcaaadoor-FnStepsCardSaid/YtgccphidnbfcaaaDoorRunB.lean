/-
  Contracts of PairsOf and LevelsFrom, in both texts. Condition: the lists are no longer than 1048576 (the laws ask no more).
-/
import Derived.Test.YtgccphidnbfcaaaDoorRunA
namespace Go.Proofs.YtgccphidnbfcaaaDoor
open Go.RowKit
set_option linter.unusedVariables false

theorem prT_take (l : List Int) (j : Nat) (hj : j < l.length) : prT (l.take (j + 1)) = stP (prT (l.take j)) (l.getD j 0) := by
  rw [take_snoc_i l j hj, prT_snoc]

end Go.Proofs.YtgccphidnbfcaaaDoor
