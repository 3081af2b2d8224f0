/-
  The laws' own walks of chapter 15, by the contracts of the two texts. No condition.
-/
import Derived.Test.YtjgbenhjafgimaaNbB
import Derived.Test.YtjgbenhjafgimaaPrF
import Derived.Test.YtjgbenhjafgimaaPyC
import Derived.Lib.RowBridge
namespace Go.Proofs.Ytjgbenhjafgimaa
open Go.RowKit
set_option linter.unusedVariables false

set_option maxRecDepth 100000 in
set_option maxHeartbeats 400000 in
theorem impl_modeword_any (e : Int) (w : World) :
    Calls Try.prog 16 #[.int .i64 e] w fun r w' => r = .returned (.string (mwS e)) ∧ w = w' := by
  by_cases h : 0 ≤ e ∧ e ≤ 5
  · rcases (show e = 0 ∨ e = 1 ∨ e = 2 ∨ e = 3 ∨ e = 4 ∨ e = 5 by omega) with rfl | rfl | rfl | rfl | rfl | rfl
    all_goals
      clear h
      go_enter Try.func16, Try.ntmps16
      go_wp2
      go_ret
      exact ⟨rfl, rfl⟩
  · have ev : mwS e = ⟨#[]⟩ := by
      unfold mwS
      rw [if_neg (by omega), if_neg (by omega), if_neg (by omega), if_neg (by omega), if_neg (by omega), if_neg (by omega)]
    rw [ev]
    clear ev
    have q0 : (e == (0 : Int)) = false := by simp; omega
    have q1 : (e == (1 : Int)) = false := by simp; omega
    have q2 : (e == (2 : Int)) = false := by simp; omega
    have q3 : (e == (3 : Int)) = false := by simp; omega
    have q4 : (e == (4 : Int)) = false := by simp; omega
    have q5 : (e == (5 : Int)) = false := by simp; omega
    clear h
    go_enter Try.func16, Try.ntmps16
    go_wp2
    go_ret
    exact ⟨rfl, rfl⟩
end Go.Proofs.Ytjgbenhjafgimaa
