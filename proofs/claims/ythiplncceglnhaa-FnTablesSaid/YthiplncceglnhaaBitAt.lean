/-
  Contracts of BitAt, in both texts, and the law of BitAt. Condition: the string is no longer than 1048576 bytes (the law asks no more).
-/
import Derived.Test.YthiplncceglnhaaRows
import Derived.Test.YthiplncceglnhaaKit
namespace Go.Proofs.Ythiplncceglnhaa
open Go.RowKit
set_option linter.unusedVariables false

/-- Bit `i`, the highest of each byte first. -/
def bitN (s : ByteArray) (i : Nat) : Nat := byteAt s (i / 8) / 2 ^ (7 - i % 8) % 2
theorem bitN_lt (s : ByteArray) (i : Nat) : bitN s i < 2 := Nat.mod_lt _ (by decide)
/-- What BitAt gives. -/
def bitV (s : ByteArray) (i : Int) : Int := if 0 ≤ i ∧ i < 8 * (s.size : Int) then (bitN s i.toNat : Int) else -1

theorem div_cast (b k : Nat) (hb : b < 256) : ∃ d : Nat, (b : Int) / 2 ^ k = (d : Int) ∧ d = b / 2 ^ k ∧ d < 256 :=
  ⟨b / 2 ^ k, by norm_cast, rfl, Nat.lt_of_le_of_lt (Nat.div_le_self _ _) hb⟩
theorem bit_and (b k : Nat) (hb : b < 256) : bits .and .i64 ((b : Int) / 2 ^ k) 1 = ((b / 2 ^ k % 2 : Nat) : Int) := by
  obtain ⟨d, h1, h2, h3⟩ := div_cast b k hb
  rw [h1, ← h2, and_i64 1 _ 1 (by decide) (by decide) (by omega) (by omega)]
  omega
theorem bit_wrap (b k : Nat) (hb : b < 256) : wrap64 ((b : Int) / 2 ^ k) = (b : Int) / 2 ^ k := by
  obtain ⟨d, h1, h2, h3⟩ := div_cast b k hb
  rw [h1]
  unfold wrap64
  omega

set_option maxRecDepth 100000 in
set_option maxHeartbeats 400000 in
theorem impl_bitat_in (s : ByteArray) (i : Nat) (hs : s.size ≤ 1048576) (hi : i < 8 * s.size) (w : World) :
    Calls Try.prog 81 #[.string s, .int .i64 i] w fun e w' => e = .returned (.int .i64 (bitN s i)) ∧ w = w' := by
  have hneg : decide ((i : Int) < 0) = false := by simp
  have hi63 : i ≤ 8388608 := by omega
  have hge : decide ((s.size : Int) ≤ (i : Int) / 8) = false := by simp; omega
  have hix := index_at' Try.underlying9 s ((i : Int) / 8) (i / 8) (by omega) (by omega)
  have e1 := bit_wrap (byteAt s (i / 8)) (7 - i % 8) (by have := byteAt_lt s (i / 8); omega)
  have e2 := bit_and (byteAt s (i / 8)) (7 - i % 8) (by have := byteAt_lt s (i / 8); omega)
  go_enter Try.func81, Try.ntmps81
  go_wp2
  go_ret
  exact ⟨rfl, rfl⟩

set_option maxRecDepth 100000 in
set_option maxHeartbeats 400000 in
theorem spec_bitat_in (s : ByteArray) (i : Nat) (hs : s.size ≤ 1048576) (hi : i < 8 * s.size) (w : World) :
    Calls Try.prog 44 #[.string s, .int .i64 i] w fun e w' => e = .returned (.int .i64 (bitN s i)) ∧ w = w' := by
  have hneg : decide ((i : Int) < 0) = false := by simp
  have hi63 : i ≤ 8388608 := by omega
  have hge : decide (8 * (s.size : Int) ≤ (i : Int)) = false := by simp; omega
  have hix := index_at' Try.underlying9 s ((i : Int) / 8) (i / 8) (by omega) (by omega)
  have e2 := bit_and (byteAt s (i / 8)) (7 - i % 8) (by have := byteAt_lt s (i / 8); omega)
  have e1 : wrap64 (byteAt s (i / 8) : Int) = (byteAt s (i / 8) : Int) := by have := byteAt_lt s (i / 8); unfold wrap64; omega
  go_enter Try.func44, Try.ntmps44
  go_wp2
  go_ret
  exact ⟨rfl, rfl⟩

set_option maxRecDepth 100000 in
set_option maxHeartbeats 400000 in
theorem impl_bitat_out (s : ByteArray) (i : Int) (hs : s.size ≤ 1048576) (hw : (Lit.int .i64 i).wf = true) (hi : i < 0 ∨ 8 * (s.size : Int) ≤ i) (w : World) :
    Calls Try.prog 81 #[.string s, .int .i64 i] w fun e w' => e = .returned (.int .i64 (-1)) ∧ w = w' := by
  by_cases h0 : i < 0
  · have hneg : decide (i < 0) = true := by simpa using h0
    go_enter Try.func81, Try.ntmps81
    go_wp2
    go_ret
    exact ⟨rfl, rfl⟩
  · obtain ⟨i, rfl⟩ := Int.eq_ofNat_of_zero_le (show 0 ≤ i by omega)
    have hneg : decide ((i : Int) < 0) = false := by simp
    have hi63 : i ≤ 9223372036854775807 := by
      simp [Lit.wf, IntKind.min, IntKind.max, IntKind.signed, IntKind.bits] at hw
      omega
    have hge : decide ((s.size : Int) ≤ (i : Int) / 8) = true := by simp; omega
    clear hw
    go_enter Try.func81, Try.ntmps81
    go_wp2
    go_ret
    exact ⟨rfl, rfl⟩

set_option maxRecDepth 100000 in
set_option maxHeartbeats 400000 in
theorem spec_bitat_out (s : ByteArray) (i : Int) (hs : s.size ≤ 1048576) (hi : i < 0 ∨ 8 * (s.size : Int) ≤ i) (w : World) :
    Calls Try.prog 44 #[.string s, .int .i64 i] w fun e w' => e = .returned (.int .i64 (-1)) ∧ w = w' := by
  by_cases h0 : i < 0
  · have hneg : decide (i < 0) = true := by simpa using h0
    go_enter Try.func44, Try.ntmps44
    go_wp2
    go_ret
    exact ⟨rfl, rfl⟩
  · have hneg : decide (i < 0) = false := by simpa using h0
    have hge : decide (8 * (s.size : Int) ≤ i) = true := by simp; omega
    go_enter Try.func44, Try.ntmps44
    go_wp2
    go_ret
    exact ⟨rfl, rfl⟩

theorem impl_bitat_any (s : ByteArray) (i : Int) (hs : s.size ≤ 1048576) (hw : (Lit.int .i64 i).wf = true) (w : World) :
    Calls Try.prog 81 #[.string s, .int .i64 i] w fun e w' => e = .returned (.int .i64 (bitV s i)) ∧ w = w' := by
  by_cases h : 0 ≤ i ∧ i < 8 * (s.size : Int)
  · rw [bitV, if_pos h]
    obtain ⟨i, rfl⟩ := Int.eq_ofNat_of_zero_le h.1
    exact impl_bitat_in s i hs (by omega) w
  · rw [bitV, if_neg h]
    exact impl_bitat_out s i hs hw (by omega) w
theorem spec_bitat_any (s : ByteArray) (i : Int) (hs : s.size ≤ 1048576) (w : World) :
    Calls Try.prog 44 #[.string s, .int .i64 i] w fun e w' => e = .returned (.int .i64 (bitV s i)) ∧ w = w' := by
  by_cases h : 0 ≤ i ∧ i < 8 * (s.size : Int)
  · rw [bitV, if_pos h]
    obtain ⟨i, rfl⟩ := Int.eq_ofNat_of_zero_le h.1
    exact spec_bitat_in s i hs (by omega) w
  · rw [bitV, if_neg h]
    exact spec_bitat_out s i hs (by omega) w

end Go.Proofs.Ythiplncceglnhaa
