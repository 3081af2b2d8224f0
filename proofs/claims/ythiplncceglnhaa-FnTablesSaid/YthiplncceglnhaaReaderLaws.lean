/-
  The walks of the exact laws of the bit reader. No condition.
-/
import Derived.Test.YthiplncceglnhaaZeros
namespace Go.Proofs.Ythiplncceglnhaa
open Go.RowKit
set_option linter.unusedVariables false

/-- A block behind an allocation; it lies before the heap's end. -/
theorem heap_keep {w : World} {g : Nat} {o : Obj} (h : w.heap[g]? = some o) (x : Obj) : (w.alloc x).heap[g]? = some o := by
  rw [Below.heap_alloc _ _ _ (heap_lt h)]; exact h

end Go.Proofs.Ythiplncceglnhaa
