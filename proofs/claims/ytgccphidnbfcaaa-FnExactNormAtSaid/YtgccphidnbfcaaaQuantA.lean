/-
  Contracts of StepOf and NormAt in both texts, and of the small functions beside them. Condition: the package's table of steps reads as its text lays it.
-/
import Derived.Test.YtgccphidnbfcaaaRunA
import Derived.IntWalk
namespace Go.Proofs.Ytgccphidnbfcaaa
open Go.RowKit
set_option linter.unusedVariables false

/-! ### The plain part -/
def nm4 (k : Nat) : Nat := [100, 40, 16].getD (k / 4 % 2 + k % 4 % 2) 0
/-- What NormAt answers. -/
def nmV (n i : Int) : Int := if n = 8 then (if 0 ≤ i ∧ i ≤ 63 then 1 else 0) else if n = 4 then (if 0 ≤ i ∧ i ≤ 15 then (nm4 i.toNat : Int) else 0) else 0
theorem nmV_eight {i : Nat} (h : i < 64) : nmV 8 (i : Int) = 1 := by
  unfold nmV
  rw [if_pos rfl, if_pos (by omega)]
theorem nmV_four {i : Nat} (h : i < 16) : nmV 4 (i : Int) = (nm4 i : Int) := by
  unfold nmV
  rw [if_neg (by decide), if_pos rfl, if_pos (by omega), Int.toNat_natCast]
end Go.Proofs.Ytgccphidnbfcaaa
