/-
  What the law on writing bits needs of numbers: the bits of the bytes are the bits that were written, and the end is seen where it is. No condition but those that each lemma states.
-/
import Derived.Test.YthgddekklpojmaaStopped
import Derived.Test.YthgddekklpojmaaStopOk
namespace Go.Proofs.Ythgddekklpojmaa
open Go.RowKit
set_option linter.unusedVariables false

theorem getD_bit (l : List Int) (h : isBits l = true) (t : Nat) (ht : t < l.length) : l.getD t 0 = 0 ∨ l.getD t 0 = 1 := isBit_cases (isBits_at l h t ht)
/-- A bit of the number of bits. -/
theorem bin_bit (l : List Int) (h : isBits l = true) : ∀ j, j ≤ l.length → ∀ i, i < j → (((binV (l.take j)).toNat / 2 ^ (j - 1 - i) % 2 : Nat) : Int) = l.getD i 0
  | 0, _, i, hi => absurd hi (by omega)
  | j + 1, hj, i, hi => by
    obtain ⟨b0, _⟩ := binV_range l j (by omega) fun t ht => isBits_at l h t (by omega)
    obtain ⟨B, hB⟩ := Int.eq_ofNat_of_zero_le b0
    have hx := getD_bit l h j (by omega)
    rw [take_snoc_i l j (by omega), binV_snoc, hB]
    by_cases e : i = j
    · subst e
      rw [show i + 1 - 1 - i = 0 by omega, Nat.pow_zero, Nat.div_one]
      omega
    · have ih := bin_bit l h j (by omega) i (by omega)
      rw [hB, Int.toNat_natCast] at ih
      rw [show j + 1 - 1 - i = (j - 1 - i) + 1 by omega, Nat.pow_succ', ← Nat.div_div_eq_div_mul]
      have e2 : (2 * (B : Int) + l.getD j 0).toNat / 2 = B := by omega
      rw [e2]
      exact ih
/-- A bit of the bytes. -/
theorem bitN_bytes (l : List Int) (k : Nat) (hl : l.length = 8 * k) (h : isBits l = true) (t : Nat) (ht : t < 8 * k) : (bitN (bs (bytesL l k)) t : Int) = l.getD t 0 := by
  have hk : t / 8 < k := by omega
  have hseg : (seg l (t / 8)).length = 8 := seg_len l (t / 8) (by omega)
  have hsb : isBits (seg l (t / 8)) = true := by rw [← part_all]; exact isBits_part l h _ _
  obtain ⟨r0, r1⟩ := binV_bits (seg l (t / 8)) hsb
  rw [hseg] at r1
  have hbyte : byteAt (bs (bytesL l k)) (t / 8) = (binV (seg l (t / 8))).toNat := by
    unfold byteAt
    rw [show (bs (bytesL l k)).data.toList = bytesL l k by simp [bs], List.getD_eq_getElem?_getD, List.getElem?_eq_getElem (by rw [bytesL_len]; exact hk)]
    have e : (bytesL l k)[t / 8]'(by rw [bytesL_len]; exact hk) = byteOf l (t / 8) := by simp [bytesL]
    rw [Option.getD_some, e]
    unfold byteOf
    simp
    omega
  have hb := bin_bit (seg l (t / 8)) hsb 8 (by omega) (t % 8) (by omega)
  rw [List.take_of_length_le (by omega), seg_at l (t / 8) (t % 8) (by omega) (by omega), show 8 * (t / 8) + t % 8 = t by omega] at hb
  unfold bitN
  rw [hbyte]
  exact hb

theorem isBits_append (a b : List Int) : isBits (a ++ b) = (isBits a && isBits b) := by unfold isBits; rw [List.all_append]
theorem isBits_zeros (n : Nat) : isBits (List.replicate n 0) = true := by
  unfold isBits
  rw [List.all_eq_true]
  intro x hx
  rw [List.eq_of_mem_replicate hx]
  rfl
theorem stopL_bits (l : List Int) : isBits (stopL l) = isBits l := by
  unfold stopL stopT
  rw [isBits_append]
  have e : isBits (1 :: List.replicate (stopN l.length - l.length - 1) 0) = true := by
    have := isBits_zeros (stopN l.length - l.length - 1)
    unfold isBits at this ⊢
    rw [List.all_cons, this]
    rfl
  rw [e, Bool.and_true]
theorem stopS_no (l : List Int) (h : isBits l = false) : stopS l = bs [] := by
  unfold stopS bytesR bytesOk
  rw [stopL_bits, h, Bool.and_false]
  rfl
theorem stopS_yes (l : List Int) (h : isBits l = true) : stopS l = bs (bytesL (stopL l) (stopN l.length / 8)) := by
  unfold stopS bytesR bytesOk
  have := (stopN_gt l.length).2.2
  rw [stopL_bits, h, stopL_len, decide_eq_true this]
  rfl
theorem stopS_len (l : List Int) (h : isBits l = true) : 8 * (stopS l).size = stopN l.length := by
  rw [stopS_yes l h, bs_size, bytesL_len]
  have := (stopN_gt l.length).2.2
  omega
theorem stopS_bit (l : List Int) (h : isBits l = true) (t : Nat) (ht : t < stopN l.length) : (bitN (stopS l) t : Int) = (stopL l).getD t 0 := by
  have h8 := (stopN_gt l.length).2.2
  rw [stopS_yes l h]
  exact bitN_bytes (stopL l) (stopN l.length / 8) (by rw [stopL_len]; omega) (by rw [stopL_bits, h]) t (by omega)
theorem stopL_old (l : List Int) (t : Nat) (ht : t < l.length) : (stopL l).getD t 0 = l.getD t 0 := by
  unfold stopL stopT
  rw [List.getD_eq_getElem?_getD, List.getElem?_append_left ht, ← List.getD_eq_getElem?_getD]
theorem stopL_one (l : List Int) : (stopL l).getD l.length 0 = 1 := by
  unfold stopL stopT
  rw [List.getD_eq_getElem?_getD, List.getElem?_append_right (Nat.le_refl _), Nat.sub_self]
  rfl
theorem stopL_zero (l : List Int) (t : Nat) (ht : l.length < t) : (stopL l).getD t 0 = 0 := by
  unfold stopL stopT
  rw [List.getD_eq_getElem?_getD, List.getElem?_append_right (by omega), show t - l.length = (t - l.length - 1) + 1 by omega, List.getElem?_cons_succ, List.getElem?_replicate]
  split <;> rfl

theorem stopS_left (l : List Int) (h : isBits l = true) (a : Nat) (ha : a ≤ stopN l.length) : rdOk (stopS l) (a : Int) = true ∧ leftV (stopS l) (a : Int) = (stopN l.length : Int) - (a : Int) := by
  have h8 := stopS_len l h
  have h1 : rdOk (stopS l) (a : Int) = true := by rw [rdOk_true]; omega
  refine ⟨h1, ?_⟩
  rw [leftV, if_pos h1]
  omega
theorem stopS_bitV (l : List Int) (h : isBits l = true) (a : Nat) (ha : a < stopN l.length) : bitV (stopS l) (a : Int) = (stopL l).getD a 0 := by
  have h8 := stopS_len l h
  rw [bitV, if_pos ⟨by omega, by omega⟩, Int.toNat_natCast, stopS_bit l h a ha]
/-- The end is seen behind the bits. -/
theorem stopS_end (l : List Int) (h : isBits l = true) : soV (stopS l) (l.length : Int) = 0 := by
  obtain ⟨n1, n2, n3⟩ := stopN_gt l.length
  have h8 := stopS_len l h
  have hL := (stopS_left l h l.length (by omega)).2
  have hB := stopS_bitV l h l.length (by omega)
  rw [stopL_one] at hB
  have hok : rdOk (stopS l) ((l.length : Int) + 1) = true := by rw [rdOk_true]; omega
  have hZ : zaV (stopS l) ((l.length : Int) + 1) = leftV (stopS l) (l.length : Int) - 1 := by
    rw [zaV, if_pos hok, hL, show ((l.length : Int) + 1).toNat = l.length + 1 by omega, h8]
    obtain ⟨z1, _, z3⟩ := zrun_spec (stopS l) (stopN l.length - (l.length + 1)) (l.length + 1)
    by_cases hlt : zrun (stopS l) (l.length + 1) (stopN l.length - (l.length + 1)) < stopN l.length - (l.length + 1)
    · have h1 := z3 hlt
      have h2 := stopS_bit l h (l.length + 1 + zrun (stopS l) (l.length + 1) (stopN l.length - (l.length + 1))) (by omega)
      rw [h1, stopL_zero l _ (by omega)] at h2
      exact absurd h2 (by decide)
    · omega
  rw [soV, if_neg (by omega), if_pos ⟨by omega, hB, hZ⟩]
/-- It is not seen at a bit that is 0. -/
theorem stopS_before (l : List Int) (h : isBits l = true) (K : Nat) (hK : K < l.length) (hne : l.getD K 0 ≠ 1) : soV (stopS l) (K : Int) ≠ 0 := by
  obtain ⟨n1, n2, n3⟩ := stopN_gt l.length
  have hB := stopS_bitV l h K (by omega)
  rw [stopL_old l K hK] at hB
  unfold soV
  split
  · decide
  · rw [if_neg (fun hh => hne (hB ▸ hh.2.1))]
    decide
/-- What was appended is read. -/
theorem rdN_put (s : ByteArray) (a n k : Nat) (hn : n < 2 ^ k) (h : ∀ j, j < k → (bitN s (a + j) : Int) = ((n / 2 ^ (k - 1 - j) % 2 : Nat) : Int)) : ∀ j, j ≤ k → rdN s a j = n / 2 ^ (k - j)
  | 0, _ => by rw [Nat.sub_zero, Nat.div_eq_of_lt hn]; rfl
  | j + 1, hj => by
    have hb := h j (by omega)
    have e : n / 2 ^ (k - j) = n / 2 ^ (k - 1 - j) / 2 := by
      rw [Nat.div_div_eq_div_mul, ← Nat.pow_succ, show (k - 1 - j).succ = k - j by omega]
    rw [rdN, rdN_put s a n k hn h j (by omega), e, show k - (j + 1) = k - 1 - j by omega]
    omega
theorem stopS_put (l : List Int) (n k : Nat) (hn : n < 2 ^ k) (h : isBits (l ++ inL n k k) = true) : rdN (stopS (l ++ inL n k k)) l.length k = n := by
  obtain ⟨n1, n2, n3⟩ := stopN_gt (l ++ inL n k k).length
  have hlen : (l ++ inL n k k).length = l.length + k := by rw [List.length_append, inL_len]
  have h1 := rdN_put (stopS (l ++ inL n k k)) l.length n k hn (fun j hj => by
    rw [stopS_bit _ h (l.length + j) (by omega), stopL_old _ _ (by omega), List.getD_eq_getElem?_getD, List.getElem?_append_right (by omega), Nat.add_sub_cancel_left, ← List.getD_eq_getElem?_getD, inL_at n k k j hj]) k (Nat.le_refl _)
  rw [h1, Nat.sub_self, Nat.pow_zero, Nat.div_one]
end Go.Proofs.Ythgddekklpojmaa
