/-
  Contracts of limited, nearest and l11Near. Condition: the numbers lie in the ranges that Quantized hands over.
-/
import Derived.Test.YtgccphidnbfcaaaDoorQuantA
namespace Go.Proofs.YtgccphidnbfcaaaDoor
open Go.RowKit
set_option linter.unusedVariables false

/-! ### Limits and rounding -/
set_option maxRecDepth 100000 in
set_option maxHeartbeats 1000000 in
theorem limited_mil (v : Int) (w : World) :
    Calls Tryd.prog 30 #[.int .i64 v, .int .i64 1000000] w fun e w' => e = .returned (.int .i64 (lim 1000000 v)) ∧ w = w' := by
  obtain ⟨y, hmin⟩ : ∃ y : Int, (if (1000000 : Int) < v then (1000000 : Int) else v) = y := ⟨_, rfl⟩
  have hmax : (if (-1000000 : Int) < y then y else -1000000) = lim 1000000 v := by unfold lim; split <;> split at hmin <;> omega
  obtain ⟨z, hz⟩ : ∃ z, z = lim 1000000 v := ⟨_, rfl⟩
  rw [← hz] at hmax ⊢
  clear hz
  go_enter Tryd.func30, Tryd.ntmps30
  go_wp2
  go_ret
  exact ⟨rfl, rfl⟩
set_option maxRecDepth 100000 in
set_option maxHeartbeats 1000000 in
theorem limited_max (v : Int) (w : World) :
    Calls Tryd.prog 30 #[.int .i64 v, .int .i64 16383] w fun e w' => e = .returned (.int .i64 (lim 16383 v)) ∧ w = w' := by
  obtain ⟨y, hmin⟩ : ∃ y : Int, (if (16383 : Int) < v then (16383 : Int) else v) = y := ⟨_, rfl⟩
  have hmax : (if (-16383 : Int) < y then y else -16383) = lim 16383 v := by unfold lim; split <;> split at hmin <;> omega
  obtain ⟨z, hz⟩ : ∃ z, z = lim 16383 v := ⟨_, rfl⟩
  rw [← hz] at hmax ⊢
  clear hz
  go_enter Tryd.func30, Tryd.ntmps30
  go_wp2
  go_ret
  exact ⟨rfl, rfl⟩
set_option maxRecDepth 100000 in
set_option maxHeartbeats 1000000 in
theorem nearest_any (v s : Int) (h1 : -1000000 ≤ v) (h2 : v ≤ 1000000) (h3 : 0 < s) (h4 : s ≤ 352) (w : World) :
    Calls Tryd.prog 31 #[.int .i64 v, .int .i64 s] w fun e w' => e = .returned (.int .i64 (nearV v s)) ∧ w = w' := by
  have hs0 : (s == 0) = false := by rw [beq_eq_false_iff_ne]; omega
  have hs1 : s ≠ 0 := by omega
  have hr := near_range h3 h1 h2
  by_cases hv : v < 0
  · have b1 : decide (v < 0) = true := by simpa using hv
    have e : nearV v s = (v - s / 2).tdiv s := near_impl_neg h3 hv
    rw [e] at hr ⊢
    have HE := Lib.hid e
    clear e
    go_enter Tryd.func31, Tryd.ntmps31
    go_wp2
    go_ret
    exact ⟨rfl, rfl⟩
  · have b1 : decide (v < 0) = false := by simpa using hv
    have e : nearV v s = (v + s / 2) / s := near_impl_pos h3 (by omega)
    rw [e] at hr ⊢
    clear e
    go_enter Tryd.func31, Tryd.ntmps31
    go_wp2
    go_ret
    exact ⟨rfl, rfl⟩
set_option maxRecDepth 100000 in
set_option maxHeartbeats 1000000 in
theorem l11near_any (v s : Int) (h1 : -1000000 ≤ v) (h2 : v ≤ 1000000) (h3 : 0 < s) (h4 : s ≤ 352) (w : World) :
    Calls Tryd.prog 33 #[.int .i64 v, .int .i64 s] w fun e w' => e = .returned (.int .i64 (nearV v s)) ∧ w = w' := by
  have hs0 : 2 * s ≠ 0 := by omega
  have hr := near_range h3 h1 h2
  by_cases hv : v < 0
  · have b1 : decide (v < 0) = true := by simpa using hv
    have e : nearV v s = -((-v * 2 + s) / (2 * s)) := by unfold nearV; rw [if_pos hv]
    rw [e] at hr ⊢
    obtain ⟨u, hu⟩ : ∃ u, u = (-v * 2 + s) / (2 * s) := ⟨_, rfl⟩
    have e2 : (-v * 2 + s).tdiv (2 * s) = u := by rw [hu]; exact Int.tdiv_eq_ediv_of_nonneg (by omega)
    rw [← hu] at hr ⊢
    have r1 := hr.1; have r2 := hr.2
    clear e hu hr
    go_enter Tryd.func33, Tryd.ntmps33
    go_wp2
    go_ret
    exact ⟨rfl, rfl⟩
  · have b1 : decide (v < 0) = false := by simpa using hv
    have e : nearV v s = (v * 2 + s) / (2 * s) := by unfold nearV; rw [if_neg hv]
    rw [e] at hr ⊢
    obtain ⟨u, hu⟩ : ∃ u, u = (v * 2 + s) / (2 * s) := ⟨_, rfl⟩
    have e2 : (v * 2 + s).tdiv (2 * s) = u := by rw [hu]; exact Int.tdiv_eq_ediv_of_nonneg (by omega)
    rw [← hu] at hr ⊢
    have r1 := hr.1; have r2 := hr.2
    clear e hu hr
    go_enter Tryd.func33, Tryd.ntmps33
    go_wp2
    go_ret
    exact ⟨rfl, rfl⟩
end Go.Proofs.YtgccphidnbfcaaaDoor
