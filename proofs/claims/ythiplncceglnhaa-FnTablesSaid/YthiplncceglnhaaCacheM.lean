/-
  Plain facts on the bits of a string as numbers, and what a cache holds. No condition but those that each lemma states.
-/
import Derived.Test.YthiplncceglnhaaReadBits
namespace Go.Proofs.Ythiplncceglnhaa
open Go.RowKit
set_option linter.unusedVariables false

theorem rdN_add (s : ByteArray) (a k : Nat) : ∀ m, rdN s a (k + m) = rdN s a k * 2 ^ m + rdN s (a + k) m
  | 0 => by simp [rdN]
  | m + 1 => by
    rw [show k + (m + 1) = (k + m) + 1 by omega, rdN, rdN_add s a k m, rdN, Nat.pow_succ, show a + k + m = a + (k + m) by omega, Nat.mul_add, ← Nat.mul_assoc, Nat.mul_comm 2 (rdN s a k), Nat.mul_assoc, Nat.mul_comm 2 (2 ^ m)]
    omega
/-- The last bits of a number of bits. -/
theorem rdN_mod (s : ByteArray) (a k m : Nat) : rdN s a (k + m) % 2 ^ m = rdN s (a + k) m := by
  rw [rdN_add, Nat.mul_add_mod_self_right, Nat.mod_eq_of_lt (rdN_lt s _ m)]
/-- The first bits of a number of bits. -/
theorem rdN_div (s : ByteArray) (a k m : Nat) : rdN s a (k + m) / 2 ^ m = rdN s a k := by
  rw [rdN_add, Nat.add_comm, Nat.add_mul_div_right _ _ (Nat.two_pow_pos m), Nat.div_eq_of_lt (rdN_lt s _ m), Nat.zero_add]
theorem bitN_div (s : ByteArray) (j r : Nat) (h : r < 8) : bitN s (8 * j + r) = byteAt s j / 2 ^ (7 - r) % 2 := by
  have e1 : (8 * j + r) / 8 = j := by omega
  have e2 : (8 * j + r) % 8 = r := by omega
  rw [bitN, e1, e2]
/-- The first bits of a byte. -/
theorem rdN_byte_to (s : ByteArray) (j : Nat) : ∀ k, k ≤ 8 → rdN s (8 * j) k = byteAt s j / 2 ^ (8 - k)
  | 0, _ => by
    have h := byteAt_lt s j
    rw [rdN, Nat.div_eq_of_lt (by simp; omega)]
  | k + 1, hk => by
    rw [rdN, rdN_byte_to s j k (by omega), bitN_div s j k (by omega), show 8 - k = (7 - k) + 1 by omega, show 8 - (k + 1) = 7 - k by omega, Nat.pow_succ, ← Nat.div_div_eq_div_mul]
    omega
/-- The bits of a byte are the byte. -/
theorem rdN_byte (s : ByteArray) (j : Nat) : rdN s (8 * j) 8 = byteAt s j := by
  rw [rdN_byte_to s j 8 (by decide)]
  simp
/-- One byte more. -/
theorem rdN_more (s : ByteArray) (a n j : Nat) (h : a + n = 8 * j) : rdN s a (n + 8) = rdN s a n * 256 + byteAt s j := by
  rw [rdN_add, h, rdN_byte]
theorem rdN_cut (s : ByteArray) (a n m : Nat) (h : n ≤ m) : rdN s a m / 2 ^ (m - n) = rdN s a n := by
  have := rdN_div s a n (m - n)
  rwa [show n + (m - n) = m by omega] at this
theorem rdN_low (s : ByteArray) (a n m : Nat) (h : n ≤ m) : rdN s a m % 2 ^ (m - n) = rdN s (a + n) (m - n) := by
  have := rdN_mod s a n (m - n)
  rwa [show n + (m - n) = m by omega] at this
theorem rdN_lt' (s : ByteArray) (a n m : Nat) (h : n ≤ m) : rdN s a n < 2 ^ m := Nat.lt_of_lt_of_le (rdN_lt s a n) (Nat.pow_le_pow_right (by decide) h)

/-- A cache as a value. -/
def cv (s : ByteArray) (p wd h : Int) : Value := .agg #[.string s, .int .i64 p, .int .i64 wd, .int .i64 h]
/-- Is a cache valid? -/
def ckOk (s : ByteArray) (p wd h : Int) : Bool := decide (0 ≤ p) && (decide (p ≤ (s.size : Int)) && (decide (0 ≤ h) && (decide (h ≤ 56) && (decide (h ≤ 8 * p) && decide (wd = (rdN s (8 * p - h).toNat h.toNat : Int))))))
/-- The valid cache at bit `a` that has read `P` bytes. -/
def cw (s : ByteArray) (a P : Nat) : Value := cv s (P : Int) (rdN s a (8 * P - a) : Int) ((8 * P - a : Nat) : Int)
/-- `P` bytes are read, the bits from `a` on are held. -/
def At (s : ByteArray) (a P : Nat) : Prop := P ≤ s.size ∧ a ≤ 8 * P ∧ 8 * P - a ≤ 56
theorem ckOk_at (s : ByteArray) (p wd h : Int) (hk : ckOk s p wd h = true) : ∃ a P : Nat, At s a P ∧ p = P ∧ h = ((8 * P - a : Nat) : Int) ∧ wd = (rdN s a (8 * P - a) : Int) := by
  simp only [ckOk, Bool.and_eq_true, decide_eq_true_iff] at hk
  obtain ⟨h1, h2, h3, h4, h5, h6⟩ := hk
  have e : 8 * p.toNat - (8 * p - h).toNat = h.toNat := by omega
  refine ⟨(8 * p - h).toNat, p.toNat, ⟨by omega, by omega, by omega⟩, by omega, by omega, ?_⟩
  rw [e]; exact h6
theorem ckOk_of (s : ByteArray) (a P : Nat) (h : At s a P) : ckOk s (P : Int) (rdN s a (8 * P - a) : Int) ((8 * P - a : Nat) : Int) = true := by
  obtain ⟨h1, h2, h3⟩ := h
  have e1 : (8 * (P : Int) - ((8 * P - a : Nat) : Int)).toNat = a := by omega
  simp only [ckOk, Bool.and_eq_true, decide_eq_true_iff]
  refine ⟨by omega, by omega, by omega, by omega, by omega, ?_⟩
  rw [e1, Int.toNat_natCast]
/-- How many bytes are read behind Refill. -/
def rfP (s : ByteArray) (a P : Nat) : Nat := if 8 * P - a ≤ 48 then min s.size ((a + 48) / 8 + 1) else P
theorem rfP_at (s : ByteArray) (a P : Nat) (h : At s a P) : P ≤ rfP s a P ∧ At s a (rfP s a P) := by
  obtain ⟨h1, h2, h3⟩ := h
  unfold rfP At
  split <;> omega
/-- Behind Peek and Skip. -/
def pkP (s : ByteArray) (a P n : Nat) : Nat := if 8 * P - a < n then rfP s a P else P
theorem pkP_at (s : ByteArray) (a P n : Nat) (h : At s a P) : P ≤ pkP s a P n ∧ At s a (pkP s a P n) := by
  unfold pkP
  split
  · exact rfP_at s a P h
  · exact ⟨Nat.le_refl _, h⟩
/-- Behind Peek of at most sixteen bits they are held, or all is held that there is. -/
theorem pkP_has (s : ByteArray) (a P n : Nat) (h : At s a P) (hn : n ≤ 16) : n ≤ 8 * pkP s a P n - a ↔ a + n ≤ 8 * s.size := by
  obtain ⟨h1, h2, h3⟩ := h
  unfold pkP rfP
  split <;> (try split) <;> omega
/-- The number that Peek answers where `Q` bytes are read behind Refill. -/
def pkV (s : ByteArray) (a Q n : Nat) : Int := if 8 * Q - a < n then ((rdN s a (8 * Q - a) * 2 ^ (n - (8 * Q - a)) : Nat) : Int) else (rdN s a n : Int)
theorem pkV_out (s : ByteArray) (a Q n : Nat) : (8 * Q - a < n → pkV s a Q n = ((rdN s a (8 * Q - a) * 2 ^ (n - (8 * Q - a)) : Nat) : Int)) ∧ (¬ 8 * Q - a < n → pkV s a Q n = ((rdN s a (8 * Q - a) / 2 ^ (8 * Q - a - n) : Nat) : Int)) := by
  refine ⟨fun h => by rw [pkV, if_pos h], fun h => ?_⟩
  rw [pkV, if_neg h, rdN_cut s a n (8 * Q - a) (by omega)]
/-- The cells of a cache in a block. -/
def C4 (w : World) (g : Nat) (T : TypeId) (s : ByteArray) (p wd h : Int) : Prop := w.heap[g]? = some (.cells #[.string s, .int .i64 p, .int .i64 wd, .int .i64 h] T (0, 0))
end Go.Proofs.Ythiplncceglnhaa
