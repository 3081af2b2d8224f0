/-
  Contracts of ReadFixed, in both texts: both give the same number and answer for every string and every width. Condition: the string is no longer than an int counts.
-/
import Derived.Test.YtbpghjnkjakhnaaDoorRows
import Derived.Test.YtbpghjnkjakhnaaDoorKit
namespace Go.Proofs.YtbpghjnkjakhnaaDoor
open Go.RowKit
set_option linter.unusedVariables false

/-- The number that these bytes encode, the highest first. -/
def beN (l : List UInt8) : Nat := l.foldl (fun n b => n * 256 + b.toNat) 0
theorem beN_snoc (l : List UInt8) (b : UInt8) : beN (l ++ [b]) = beN l * 256 + b.toNat := by simp [beN]
theorem beN_lt : ∀ (l : List UInt8) (n : Nat), l.foldl (fun n b => n * 256 + b.toNat) n < (n + 1) * 256 ^ l.length
  | [], n => by simp
  | b :: l, n => by
    have h := beN_lt l (n * 256 + b.toNat)
    have hb := b.toNat_lt
    refine Nat.lt_of_lt_of_le h ?_
    rw [List.length_cons, Nat.pow_succ, Nat.mul_comm (256 ^ l.length) 256, ← Nat.mul_assoc]
    exact Nat.mul_le_mul_right _ (by omega)
theorem beN_lt_pow (l : List UInt8) (k : Nat) (h : l.length ≤ k) : beN l < 256 ^ k := by
  have := beN_lt l 0
  rw [Nat.zero_add, Nat.one_mul] at this
  exact Nat.lt_of_lt_of_le this (Nat.pow_le_pow_right (by decide) h)
/-- What ReadFixed gives. -/
def rdfN (s : ByteArray) (k : Int) : Int := if 1 ≤ k ∧ k ≤ 7 ∧ k ≤ s.size then (beN (s.data.toList.take k.toNat) : Int) else 0
def rdfB (s : ByteArray) (k : Int) : Bool := decide (1 ≤ k ∧ k ≤ 7 ∧ k ≤ s.size)

set_option maxHeartbeats 400000 in
theorem impl_rdfix_ok (s : ByteArray) (k : Nat) (h1 : 1 ≤ k) (h7 : k ≤ 7) (hs : k ≤ s.size) (hm : s.size ≤ 9223372036854775807) (w : World) :
    Calls Tryd.prog 12 #[.string s, .int .i64 k] w fun e w' => e = .returned (.tuple #[.int .i64 (beN (s.data.toList.take k)), .bool true]) ∧ w = w' := by
  have hd : decide (s.size < k) = false := by simp; omega
  go_enter Tryd.func12, Tryd.ntmps12
  go_wp2
  go_loop [6, 18] (fun n i => ∃ j m : Nat, j ≤ k ∧ m = beN (s.data.toList.take j) ∧ i = .int .i64 j ∧ n = .int .i64 m)
    (fun _ i => k - (intOf i).toNat)
  case atStart => exact ⟨0, 0, Nat.zero_le _, rfl, rfl, rfl⟩
  case round =>
    obtain ⟨j, m, hj, hme, rfl, rfl⟩ := hrel
    by_cases hlt : j < k
    · have hb : m < 281474976710656 := by
        rw [hme]
        exact beN_lt_pow _ 6 (by rw [List.length_take]; omega)
      have HT := Lib.hid (take_snoc s j (by omega))
      have HM := Lib.hid hme; clear hme
      have hix := index_at Tryd.underlying9 s j (by omega)
      have hb8 := byteAt_lt s j
      have hor := or_i64 8 ((m : Int) * 256) (byteAt s j : Int) (by omega) (by omega) (by omega) (by omega) (by omega) (by omega)
      go_wp2
      go_round
      case rel =>
        refine ⟨j + 1, m * 256 + byteAt s j, by omega, ?_, by go_num, by go_num⟩
        rw [HT.out, beN_snoc, HM.out]
        simp
        omega
      case measure => simp [intOf]; omega
    · obtain rfl : j = k := by omega
      have HM := Lib.hid hme; clear hme
      go_wp2
      go_ret2
      exact ⟨by rw [HM.out]; rfl, rfl⟩

set_option maxHeartbeats 400000 in
theorem impl_rdfix_bad (s : ByteArray) (k : Int) (h : ¬ (1 ≤ k ∧ k ≤ 7 ∧ k ≤ s.size)) (hm : s.size ≤ 9223372036854775807) (w : World) :
    Calls Tryd.prog 12 #[.string s, .int .i64 k] w fun e w' => e = .returned (.tuple #[.int .i64 0, .bool false]) ∧ w = w' := by
  by_cases h1 : 1 ≤ k
  · by_cases h2 : k ≤ 7
    · have h3 : (s.size : Int) < k := by omega
      go_enter Tryd.func12, Tryd.ntmps12
      go_wp2
      go_ret2
      exact ⟨rfl, rfl⟩
    · go_enter Tryd.func12, Tryd.ntmps12
      go_wp2
      go_ret2
      exact ⟨rfl, rfl⟩
  · go_enter Tryd.func12, Tryd.ntmps12
    go_wp2
    go_ret2
    exact ⟨rfl, rfl⟩

theorem impl_rdfix_any (s : ByteArray) (k : Int) (hm : s.size ≤ 9223372036854775807) (w : World) :
    Calls Tryd.prog 12 #[.string s, .int .i64 k] w fun e w' => e = .returned (.tuple #[.int .i64 (rdfN s k), .bool (rdfB s k)]) ∧ w = w' := by
  by_cases h : 1 ≤ k ∧ k ≤ 7 ∧ k ≤ s.size
  · rw [rdfN, rdfB, if_pos h, decide_eq_true h]
    obtain ⟨h1, h2, h3⟩ := h
    obtain ⟨k, rfl⟩ := Int.eq_ofNat_of_zero_le (show 0 ≤ k by omega)
    exact impl_rdfix_ok s k (by omega) (by omega) (by omega) hm w
  · rw [rdfN, rdfB, if_neg h, decide_eq_false h]
    exact impl_rdfix_bad s k h hm w


end Go.Proofs.YtbpghjnkjakhnaaDoor
