/-
  The walk of the law of NormAt. No condition.
-/
import Derived.Test.YtgccphidnbfcaaaQuantN
namespace Go.Proofs.Ytgccphidnbfcaaa
open Go.RowKit
set_option linter.unusedVariables false

set_option maxRecDepth 100000 in
set_option maxHeartbeats 1000000 in
/-- The law's own walk, by contracts of the two texts. -/
theorem fnExactNormAt_walk (n i : Int) (wf_n : (Lit.int .i64 n).wf = true) (wf_i : (Lit.int .i64 i).wf = true) (w : World) :
    Calls Try.prog 3 #[.int .i64 n, .int .i64 i] w fun e w' => e = .returned (.bool true) ∧ Below w.heap.size w w' := by
  have SP := Lib.hid (spec_normat_any n i)
  have IM := Lib.hid (impl_normat_any n i)
  obtain ⟨s, hs⟩ : ∃ s, s = nmV n i := ⟨_, rfl⟩
  rw [← hs] at SP IM
  clear hs
  have hq : (s != s) = false := by simp
  go_enter Try.func3, Try.ntmps3
  go_wp2_with fail
  refine (SP.out _).mono ?_
  rintro e w1 ⟨rfl, hb⟩
  have B1 := Lib.hid hb; clear hb
  go_wp2_with fail
  refine (IM.out _).mono ?_
  rintro e w2 ⟨rfl, hb⟩
  have B2 := Lib.hid (below_up B1.out hb B1.out.size); clear hb
  go_wp2
  go_ret
  exact ⟨rfl, B2.out⟩

end Go.Proofs.Ytgccphidnbfcaaa
