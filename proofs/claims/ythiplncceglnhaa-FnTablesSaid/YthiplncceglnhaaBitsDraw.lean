/-
  Contracts of chapter 2's draws as wholes: a text, a number with a width: each returns, and its answer depends on the input's bytes alone. Condition: the input is no longer than 1048576 bytes.
-/
import Derived.Test.YthiplncceglnhaaDraw2
import Derived.Test.YthiplncceglnhaaCode
namespace Go.Proofs.Ythiplncceglnhaa
open Go.RowKit
set_option linter.unusedVariables false

theorem pow_mono_i (k m : Nat) (h : k ≤ m) : (2 : Int) ^ k ≤ 2 ^ m := by have := Nat.pow_le_pow_right (n := 2) (by decide) h; exact_mod_cast this
theorem pow_pos_i (k : Nat) : (0 : Int) < 2 ^ k := by have := Nat.pow_pos (n := k) (show 0 < 2 by decide); exact_mod_cast this

end Go.Proofs.Ythiplncceglnhaa
