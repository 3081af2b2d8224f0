/-
  Contracts of LevelOf, NumOfLevel and ErWord, in both texts, and the walks of their laws. Condition: the numbers are ints.
-/
import Derived.Test.YthgddekklpojmaaRows
import Derived.Test.YthgddekklpojmaaKit
import Derived.Test.YthgddekklpojmaaReader
namespace Go.Proofs.Ythgddekklpojmaa
open Go.RowKit
set_option linter.unusedVariables false

/-- What LevelOf gives. -/
def levV (n : Int) : Int := if n < 0 then 0 else if n % 2 = 0 then n / 2 + 1 else -(n / 2 + 1)
/-- What NumOfLevel gives. -/
def numV (v : Int) : Int := if 0 < v then wrap64 (wrap64 (2 * v) - 2) else if v < 0 then wrap64 (wrap64 (-2 * v) - 1) else -1

set_option maxRecDepth 100000 in
set_option maxHeartbeats 400000 in
theorem impl_levelof_any (n : Int) (hn : (Lit.int .i64 n).wf = true) (w : World) :
    Calls Try.prog 16 #[.int .i64 n] w fun e w' => e = .returned (.int .i64 (levV n)) ∧ w = w' := by
  have hn : -9223372036854775808 ≤ n ∧ n ≤ 9223372036854775807 := by
    simp [Lit.wf, IntKind.min, IntKind.max, IntKind.signed, IntKind.bits] at hn
    omega
  by_cases h0 : n < 0
  · have q0 : decide (n < 0) = true := by simpa using h0
    have e0 : levV n = 0 := by rw [levV, if_pos h0]
    go_enter Try.func16, Try.ntmps16
    go_wp2
    go_ret
    exact ⟨by rw [e0]; rfl, rfl⟩
  · have q0 : decide (n < 0) = false := by simpa using h0
    have e1 : n % 2 = 0 → levV n = n / 2 + 1 := fun h => by rw [levV, if_neg h0, if_pos h]
    have e2 : ¬ n % 2 = 0 → levV n = -(n / 2 + 1) := fun h => by rw [levV, if_neg h0, if_neg h]
    obtain ⟨m, rfl⟩ := Int.eq_ofNat_of_zero_le (show 0 ≤ n by omega)
    by_cases h1 : (m : Int) % 2 = 0
    · have b1 : ((m : Int) % 2 != 0) = false := by simpa using h1
      have b2 : ((m : Int) % 2 == 0) = true := by simpa using h1
      rw [e1 h1]
      clear e1 e2 h1
      go_enter Try.func16, Try.ntmps16
      go_wp2
      go_ret
      exact ⟨rfl, rfl⟩
    · have b1 : ((m : Int) % 2 != 0) = true := by simpa using h1
      have b2 : ((m : Int) % 2 == 0) = false := by simpa using h1
      rw [e2 h1]
      clear e1 e2 h1
      go_enter Try.func16, Try.ntmps16
      go_wp2
      go_ret
      exact ⟨rfl, rfl⟩

set_option maxRecDepth 100000 in
set_option maxHeartbeats 400000 in
theorem impl_numoflevel_any (v : Int) (hn : (Lit.int .i64 v).wf = true) (w : World) :
    Calls Try.prog 17 #[.int .i64 v] w fun e w' => e = .returned (.int .i64 (numV v)) ∧ w = w' := by
  clear hn
  by_cases h0 : 0 < v
  · have q0 : decide (0 < v) = true := by simpa using h0
    have e0 : numV v = wrap64 (wrap64 (2 * v) - 2) := by rw [numV, if_pos h0]
    have E0 := Lib.hid e0; clear e0
    go_enter Try.func17, Try.ntmps17
    go_wp2
    go_ret
    exact ⟨by rw [E0.out]; rfl, rfl⟩
  · have q0 : decide (0 < v) = false := by simpa using h0
    by_cases h1 : v < 0
    · have q1 : decide (v < 0) = true := by simpa using h1
      have e0 : numV v = wrap64 (wrap64 (-2 * v) - 1) := by rw [numV, if_neg h0, if_pos h1]
      have E0 := Lib.hid e0; clear e0
      go_enter Try.func17, Try.ntmps17
      go_wp2
      go_ret
      exact ⟨by rw [E0.out]; rfl, rfl⟩
    · obtain rfl : v = 0 := by omega
      go_enter Try.func17, Try.ntmps17
      go_wp2
      go_ret
      exact ⟨rfl, rfl⟩

set_option maxRecDepth 100000 in
set_option maxHeartbeats 400000 in
theorem spec_levelof_any (n : Int) (hn : (Lit.int .i64 n).wf = true) (w : World) :
    Calls Try.prog 28 #[.int .i64 n] w fun e w' => e = .returned (.int .i64 (levV n)) ∧ w = w' := by
  have hn : -9223372036854775808 ≤ n ∧ n ≤ 9223372036854775807 := by
    simp [Lit.wf, IntKind.min, IntKind.max, IntKind.signed, IntKind.bits] at hn
    omega
  by_cases h0 : n < 0
  · have q0 : decide (n < 0) = true := by simpa using h0
    have e0 : levV n = 0 := by rw [levV, if_pos h0]
    go_enter Try.func28, Try.ntmps28
    go_wp2
    go_ret
    exact ⟨by rw [e0]; rfl, rfl⟩
  · have q0 : decide (n < 0) = false := by simpa using h0
    have e1 : n % 2 = 0 → levV n = n / 2 + 1 := fun h => by rw [levV, if_neg h0, if_pos h]
    have e2 : ¬ n % 2 = 0 → levV n = -(n / 2 + 1) := fun h => by rw [levV, if_neg h0, if_neg h]
    obtain ⟨m, rfl⟩ := Int.eq_ofNat_of_zero_le (show 0 ≤ n by omega)
    by_cases h1 : (m : Int) % 2 = 0
    · have b1 : ((m : Int) % 2 != 0) = false := by simpa using h1
      have b2 : ((m : Int) % 2 == 0) = true := by simpa using h1
      rw [e1 h1]
      clear e1 e2 h1
      go_enter Try.func28, Try.ntmps28
      go_wp2
      go_ret
      exact ⟨rfl, rfl⟩
    · have b1 : ((m : Int) % 2 != 0) = true := by simpa using h1
      have b2 : ((m : Int) % 2 == 0) = false := by simpa using h1
      rw [e2 h1]
      clear e1 e2 h1
      go_enter Try.func28, Try.ntmps28
      go_wp2
      go_ret
      exact ⟨congrArg (fun x => Ending.returned (Value.int .i64 x)) (by omega), rfl⟩

set_option maxRecDepth 100000 in
set_option maxHeartbeats 400000 in
theorem spec_numoflevel_any (v : Int) (hn : (Lit.int .i64 v).wf = true) (w : World) :
    Calls Try.prog 29 #[.int .i64 v] w fun e w' => e = .returned (.int .i64 (numV v)) ∧ w = w' := by
  clear hn
  by_cases h0 : 0 < v
  · have q0 : decide (0 < v) = true := by simpa using h0
    have e0 : numV v = wrap64 (wrap64 (2 * v) - 2) := by rw [numV, if_pos h0]
    have E0 := Lib.hid e0; clear e0
    go_enter Try.func29, Try.ntmps29
    go_wp2
    go_ret
    exact ⟨by rw [E0.out]; rfl, rfl⟩
  · have q0 : decide (0 < v) = false := by simpa using h0
    by_cases h1 : v < 0
    · have q1 : decide (v < 0) = true := by simpa using h1
      have e0 : numV v = wrap64 (wrap64 (-2 * v) - 1) := by rw [numV, if_neg h0, if_pos h1]
      have E0 := Lib.hid e0; clear e0
      go_enter Try.func29, Try.ntmps29
      go_wp2
      go_ret
      exact ⟨by rw [E0.out]; rfl, rfl⟩
    · obtain rfl : v = 0 := by omega
      go_enter Try.func29, Try.ntmps29
      go_wp2
      go_ret
      exact ⟨rfl, rfl⟩

set_option maxRecDepth 100000 in
set_option maxHeartbeats 400000 in
/-- The law's own walk. -/
theorem fnExactLevelOf_walk (n : Int) (hn : (Lit.int .i64 n).wf = true) (w : World) :
    Calls Try.prog 7 #[.int .i64 n] w fun e w' => e = .returned (.bool true) ∧ Below w.heap.size w w' := by
  have SP := Lib.hid (spec_levelof_any n hn)
  have IM := Lib.hid (impl_levelof_any n hn)
  obtain ⟨x, hx⟩ : ∃ x, x = levV n := ⟨_, rfl⟩
  rw [← hx] at SP IM
  have q1 : (x != x) = false := by simp
  clear hx hn
  go_enter Try.func7, Try.ntmps7
  go_wp2_with fail
  refine (SP.out _).mono ?_
  rintro e w' ⟨rfl, rfl⟩
  go_wp2_with fail
  refine (IM.out _).mono ?_
  rintro e w' ⟨rfl, rfl⟩
  go_wp2
  go_ret
  exact ⟨rfl, Below.refl _ _⟩

set_option maxRecDepth 100000 in
set_option maxHeartbeats 400000 in
/-- The law's own walk. -/
theorem fnExactNumOfLevel_walk (n : Int) (hn : (Lit.int .i64 n).wf = true) (w : World) :
    Calls Try.prog 8 #[.int .i64 n] w fun e w' => e = .returned (.bool true) ∧ Below w.heap.size w w' := by
  have SP := Lib.hid (spec_numoflevel_any n hn)
  have IM := Lib.hid (impl_numoflevel_any n hn)
  obtain ⟨x, hx⟩ : ∃ x, x = numV n := ⟨_, rfl⟩
  rw [← hx] at SP IM
  have q1 : (x != x) = false := by simp
  clear hx hn
  go_enter Try.func8, Try.ntmps8
  go_wp2_with fail
  refine (SP.out _).mono ?_
  rintro e w' ⟨rfl, rfl⟩
  go_wp2_with fail
  refine (IM.out _).mono ?_
  rintro e w' ⟨rfl, rfl⟩
  go_wp2
  go_ret
  exact ⟨rfl, Below.refl _ _⟩

/-- What ErWord gives. -/
def erV (e : Int) : ByteArray := if e = 0 then ⟨#[110, 111, 110, 101]⟩ else if e = 1 then ⟨#[115, 104, 111, 114, 116]⟩ else if e = 2 then ⟨#[104, 101, 97, 100, 101, 114]⟩ else if e = 3 then ⟨#[108, 105, 109, 105, 116]⟩ else if e = 4 then ⟨#[99, 111, 100, 101]⟩ else if e = 5 then ⟨#[99, 111, 101, 102]⟩ else if e = 6 then ⟨#[116, 97, 105, 108]⟩ else ⟨#[]⟩

set_option maxRecDepth 100000 in
set_option maxHeartbeats 400000 in
theorem impl_erword_any (e : Int) (w : World) :
    Calls Try.prog 19 #[.int .i64 e] w fun r w' => r = .returned (.string (erV e)) ∧ w = w' := by
  by_cases h : 0 ≤ e ∧ e ≤ 6
  · rcases (show e = 0 ∨ e = 1 ∨ e = 2 ∨ e = 3 ∨ e = 4 ∨ e = 5 ∨ e = 6 by omega) with rfl | rfl | rfl | rfl | rfl | rfl | rfl
    all_goals
      clear h
      go_enter Try.func19, Try.ntmps19
      go_wp2
      go_ret
      exact ⟨rfl, rfl⟩
  · have ev : erV e = ⟨#[]⟩ := by
      unfold erV
      rw [if_neg (by omega), if_neg (by omega), if_neg (by omega), if_neg (by omega), if_neg (by omega), if_neg (by omega), if_neg (by omega)]
    rw [ev]
    clear ev
    have q0 : (e == (0 : Int)) = false := by simp; omega
    have q1 : (e == (1 : Int)) = false := by simp; omega
    have q2 : (e == (2 : Int)) = false := by simp; omega
    have q3 : (e == (3 : Int)) = false := by simp; omega
    have q4 : (e == (4 : Int)) = false := by simp; omega
    have q5 : (e == (5 : Int)) = false := by simp; omega
    have q6 : (e == (6 : Int)) = false := by simp; omega
    clear h
    go_enter Try.func19, Try.ntmps19
    go_wp2
    go_ret
    exact ⟨rfl, rfl⟩

set_option maxRecDepth 100000 in
set_option maxHeartbeats 400000 in
theorem spec_erword_any (e : Int) (w : World) :
    Calls Try.prog 18 #[.int .i64 e] w fun r w' => r = .returned (.string (erV e)) ∧ Below w.heap.size w w' := by
  have LI := Lib.hid (l1In_any e 0 6)
  by_cases h : 0 ≤ e ∧ e ≤ 6
  · have hin : (decide (0 ≤ e) && decide (e ≤ 6)) = true := by simp; omega
    rw [hin] at LI
    clear hin
    rcases (show e = 0 ∨ e = 1 ∨ e = 2 ∨ e = 3 ∨ e = 4 ∨ e = 5 ∨ e = 6 by omega) with rfl | rfl | rfl | rfl | rfl | rfl | rfl
    all_goals
      clear h
      go_enter Try.func18, Try.ntmps18
      go_wp2_with fail
      refine (LI.out _).mono ?_
      rintro e w' ⟨rfl, rfl⟩
      go_wp2
      go_ret
      exact ⟨rfl, below_new _ _⟩
  · have hin : (decide (0 ≤ e) && decide (e ≤ 6)) = false := by simp; omega
    rw [hin] at LI
    have ev : erV e = ⟨#[]⟩ := by
      unfold erV
      rw [if_neg (by omega), if_neg (by omega), if_neg (by omega), if_neg (by omega), if_neg (by omega), if_neg (by omega), if_neg (by omega)]
    rw [ev]
    clear ev h hin
    go_enter Try.func18, Try.ntmps18
    go_wp2_with fail
    refine (LI.out _).mono ?_
    rintro e w' ⟨rfl, rfl⟩
    go_wp2
    go_ret
    exact ⟨rfl, Below.refl _ _⟩

set_option maxRecDepth 100000 in
set_option maxHeartbeats 400000 in
/-- The law's own walk. -/
theorem fnExactErWord_walk (n : Int) (hn : (Lit.int .i64 n).wf = true) (w : World) :
    Calls Try.prog 4 #[.int .i64 n] w fun e w' => e = .returned (.bool true) ∧ Below w.heap.size w w' := by
  have SP := Lib.hid (spec_erword_any n)
  have IM := Lib.hid (impl_erword_any n)
  obtain ⟨x, hx⟩ : ∃ x, x = erV n := ⟨_, rfl⟩
  rw [← hx] at SP IM
  have q1 : (x.toList != x.toList) = false := by simp
  clear hx hn
  go_enter Try.func4, Try.ntmps4
  go_wp2_with fail
  refine (SP.out _).mono ?_
  rintro e w1 ⟨rfl, hb⟩
  have B := Lib.hid hb; clear hb
  go_wp2_with fail
  refine (IM.out _).mono ?_
  rintro e w2 ⟨rfl, rfl⟩
  go_wp2
  go_ret
  exact ⟨rfl, B.out⟩
end Go.Proofs.Ythgddekklpojmaa
