/-
  Contracts of BitsOf, in both texts, and the law of BitsOf. Condition: the string is no longer than 1048576 bytes (the law asks no more).
  Contracts of NumOf and of the test of bits, in both texts, and the law of NumOf. Condition: no more than 1048576 elements (the law asks no more).
  Contracts of BitsIn, in both texts, and the law of BitsIn. Condition: the numbers are ints.
  Contracts of BytesOf, in both texts, and the law of BytesOf. Condition: no more than 1048576 elements (the law asks no more).
  Contracts of slices.Grow on nil and of slices.Concat over rows of integers; appending a whole row. Condition: the rows have no more than 4000000 elements together.
-/
import Derived.Test.YtgccphidnbfcaaaBase
import Derived.Lib.AppendZeros
namespace Go.Proofs.Ytgccphidnbfcaaa
open Go.RowKit
set_option linter.unusedVariables false

end Go.Proofs.Ytgccphidnbfcaaa

namespace Go.Proofs.Ytgccphidnbfcaaa
open Go.RowKit
set_option linter.unusedVariables false

end Go.Proofs.Ytgccphidnbfcaaa

namespace Go.Proofs.Ytgccphidnbfcaaa
open Go.RowKit
set_option linter.unusedVariables false

end Go.Proofs.Ytgccphidnbfcaaa

namespace Go.Proofs.Ytgccphidnbfcaaa
open Go.RowKit
set_option linter.unusedVariables false

/-- The eight bits of byte `t`, as far as the first `j` bits have them. -/
def part (l : List Int) (j t : Nat) : List Int := ((l.take j).drop (8 * t)).take 8
end Go.Proofs.Ytgccphidnbfcaaa

namespace Go.Proofs.Ytgccphidnbfcaaa
open Go.RowKit
set_option linter.unusedVariables false

/-- Only a nil row has no place. -/
def Placed (A : Option Addr) (c : Nat) : Prop := A = none → c = 0
end Go.Proofs.Ytgccphidnbfcaaa
