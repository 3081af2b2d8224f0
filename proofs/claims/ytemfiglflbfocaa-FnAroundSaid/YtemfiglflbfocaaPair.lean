/-
  Plain helpers: rows of pairs (two integers each) that a call owns; contracts of what the laws do with them (compare, mark, look again, copy). No condition but those that each lemma states.
-/
import Derived.Test.YtemfiglflbfocaaEnt
namespace Go.Proofs.Ytemfiglflbfocaa
open Go.RowKit
set_option linter.unusedVariables false

end Go.Proofs.Ytemfiglflbfocaa
