/-
  The contract of the model's Mean. Condition: a slice is no longer than it holds.
-/
import Derived.Test.YtemfiglflbfocaaNbD
import Derived.BigQuiet
namespace Go.Proofs.Ytemfiglflbfocaa
open Go.RowKit
set_option linter.unusedVariables false

theorem below_drews {B : Nat} {u w : World} (h : Below B u w) (k : Nat) : Below B u (w.drewN k) := ⟨h.os, h.tape, h.output, h.size, h.block⟩
theorem below_any_drew {B : Nat} {u w : World} (h : Below B u w) : Below B u w.drew := h.drew

end Go.Proofs.Ytemfiglflbfocaa
