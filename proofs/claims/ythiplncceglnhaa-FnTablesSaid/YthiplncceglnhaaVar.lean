/-
  Contracts of Var, in both texts: both give the same bytes for every number. Condition: the number is an int.
-/
import Derived.Test.YthiplncceglnhaaRows
import Derived.Test.YthiplncceglnhaaKit
namespace Go.Proofs.Ythiplncceglnhaa
open Go.RowKit
set_option linter.unusedVariables false

/-- The varint of `n`, with at most `f + 1` bytes. -/
def lebL : Nat → Nat → List UInt8
  | 0, n => [UInt8.ofNat n]
  | f + 1, n => if n < 128 then [UInt8.ofNat n] else UInt8.ofNat (128 + n % 128) :: lebL f (n / 128)
/-- What Var gives for a number in range. -/
def varL (n : Nat) : List UInt8 := lebL 6 n
def varS (n : Int) : ByteArray := if 0 ≤ n ∧ n ≤ 562949953421311 then bs (varL n.toNat) else bs []

theorem lebL_small (f n : Nat) (h : n < 128) : lebL f n = [UInt8.ofNat n] := by
  cases f with
  | zero => rfl
  | succ f => rw [lebL, if_pos h]

set_option maxHeartbeats 400000 in
theorem l1in_t (a b c : Int) (h1 : b ≤ a) (h2 : a ≤ c) (w : World) :
    Calls Try.prog 43 #[.int .i64 a, .int .i64 b, .int .i64 c] w fun e w' => e = .returned (.bool true) ∧ w = w' := by
  have h3 : decide (a ≤ c) = true := by simpa using h2
  go_enter Try.func43, Try.ntmps43
  go_wp2
  go_ret
  exact ⟨rfl, rfl⟩
set_option maxHeartbeats 400000 in
theorem l1in_f (a b c : Int) (h : a < b ∨ c < a) (w : World) :
    Calls Try.prog 43 #[.int .i64 a, .int .i64 b, .int .i64 c] w fun e w' => e = .returned (.bool false) ∧ w = w' := by
  by_cases h1 : a < b
  · go_enter Try.func43, Try.ntmps43
    go_wp2
    go_ret
    exact ⟨rfl, rfl⟩
  · have h2 : decide (a ≤ c) = false := by simp; omega
    go_enter Try.func43, Try.ntmps43
    go_wp2
    go_ret
    exact ⟨rfl, rfl⟩

theorem Try.vinfoU8 : (Try.prog.info? 5).map (fun i => (i.zero, i.size, i.bytes)) = some (some (.int .u8 0), 1, 1) := by kernel_rfl

end Go.Proofs.Ythiplncceglnhaa
