/-
  What the law on bits needs of numbers: a string comes back from its bits, a number from its bits. No condition but those that each lemma states.
-/
import Derived.Test.YtfiffahmgofapaaBitsOf
import Derived.Test.YtfiffahmgofapaaBitsIn
import Derived.Test.YtfiffahmgofapaaBytesOf
namespace Go.Proofs.Ytfiffahmgofapaa
open Go.RowKit
set_option linter.unusedVariables false

theorem binV_inL (n k : Nat) (hn : n < 2 ^ k) : ∀ j, j ≤ k → binV (inL n k j) = ((n / 2 ^ (k - j) : Nat) : Int)
  | 0, _ => by rw [Nat.sub_zero, Nat.div_eq_of_lt hn]; simp [inL, binV]
  | j + 1, hj => by
    rw [inL_snoc, binV_snoc, binV_inL n k hn j (by omega)]
    have e : n / 2 ^ (k - j) = n / 2 ^ (k - 1 - j) / 2 := by
      rw [Nat.div_div_eq_div_mul, ← Nat.pow_succ, show (k - 1 - j).succ = k - j by omega]
    rw [e, show k - (j + 1) = k - 1 - j by omega]
    omega
theorem inL_bits (n k j : Nat) : isBits (inL n k j) = true := by
  refine isBits_all _ fun t ht => ?_
  rw [inL_len] at ht
  rw [inL_at n k j t ht]
  have : n / 2 ^ (k - 1 - t) % 2 = 0 ∨ n / 2 ^ (k - 1 - t) % 2 = 1 := by omega
  rcases this with h | h <;> rw [h] <;> rfl
theorem inL_back (n k : Nat) (hk : k ≤ 48) (hn : n < 2 ^ k) : binOk (inL n k k) = true ∧ binR (inL n k k) = (n : Int) := by
  have h : binOk (inL n k k) = true := by unfold binOk; rw [inL_len, inL_bits, decide_eq_true hk]; rfl
  refine ⟨h, ?_⟩
  unfold binR
  rw [h, if_pos rfl, binV_inL n k hn k (Nat.le_refl _), Nat.sub_self, Nat.pow_zero, Nat.div_one]
theorem inR_back (n k : Int) : (inR n k).length = 0 ∨ (binOk (inR n k) = true ∧ binR (inR n k) = n ∧ ((inR n k).length : Int) = k) := by
  cases h : inOk n k with
  | true =>
    obtain ⟨a, b, rfl, rfl, hb, ha⟩ := inOk_nat n k h
    have e : inR a b = inL a b b := by rw [inR, h]; rfl
    rw [e]
    exact .inr ⟨(inL_back a b hb ha).1, (inL_back a b hb ha).2, by rw [inL_len]⟩
  | false =>
    have e : inR n k = [] := by rw [inR, h]; rfl
    rw [e]
    exact .inl rfl

theorem bitsL_bits (s : ByteArray) (k : Nat) : isBits (bitsL s k) = true := by
  refine isBits_all _ fun t ht => ?_
  rw [bitsL_len] at ht
  rw [bitsL_at s k t ht]
  have := bitN_lt s t
  have : bitN s t = 0 ∨ bitN s t = 1 := by omega
  rcases this with h | h <;> rw [h] <;> rfl
theorem seg_bits (s : ByteArray) (t : Nat) (ht : t < s.size) : seg (bitsL s (8 * s.size)) t = inL (byteAt s t) 8 8 := by
  have hl : (seg (bitsL s (8 * s.size)) t).length = 8 := seg_len _ _ (by rw [bitsL_len]; omega)
  apply List.ext_getElem (by rw [hl, inL_len])
  intro i h1 h2
  have hi : i < 8 := by omega
  have e1 := seg_at (bitsL s (8 * s.size)) t i (by rw [bitsL_len]; omega) hi
  rw [bitsL_at s _ _ (by omega), List.getD_eq_getElem?_getD, List.getElem?_eq_getElem h1] at e1
  have e2 := inL_at (byteAt s t) 8 8 i hi
  rw [List.getD_eq_getElem?_getD, List.getElem?_eq_getElem h2] at e2
  have e3 : bitN s (8 * t + i) = byteAt s t / 2 ^ (7 - i) % 2 := by
    unfold bitN
    rw [show (8 * t + i) / 8 = t by omega, show (8 * t + i) % 8 = i by omega]
  rw [e3] at e1
  have e4 : (seg (bitsL s (8 * s.size)) t)[i] = ((byteAt s t / 2 ^ (7 - i) % 2 : Nat) : Int) := e1
  have e5 : (inL (byteAt s t) 8 8)[i] = ((byteAt s t / 2 ^ (8 - 1 - i) % 2 : Nat) : Int) := e2
  exact e4.trans e5.symm
theorem bits_back (s : ByteArray) : bytesOk (bitsL s (8 * s.size)) = true ∧ bytesR (bitsL s (8 * s.size)) = s := by
  have h : bytesOk (bitsL s (8 * s.size)) = true := by unfold bytesOk; rw [bitsL_len, bitsL_bits, decide_eq_true (by omega)]; rfl
  refine ⟨h, ?_⟩
  unfold bytesR
  rw [h, if_pos rfl, bitsL_len, show 8 * s.size / 8 = s.size by omega]
  have e : bytesL (bitsL s (8 * s.size)) s.size = s.data.toList := by
    apply List.ext_getElem (by rw [bytesL_len]; simp)
    intro t h1 h2
    rw [bytesL_len] at h1
    have hb : byteAt s t < 2 ^ 8 := by have := byteAt_lt s t; omega
    have e1 : byteOf (bitsL s (8 * s.size)) t = UInt8.ofNat (byteAt s t) := by
      unfold byteOf
      rw [seg_bits s t h1, binV_inL _ 8 hb 8 (Nat.le_refl _), Nat.sub_self, Nat.pow_zero, Nat.div_one, Int.toNat_natCast]
    have e2 : (bytesL (bitsL s (8 * s.size)) s.size)[t]'(by rw [bytesL_len]; exact h1) = byteOf (bitsL s (8 * s.size)) t := by simp [bytesL]
    rw [e2, e1, byteAt_eq s t h1]
    simp
    rfl
  rw [e]
  exact bs_eta s
end Go.Proofs.Ytfiffahmgofapaa
