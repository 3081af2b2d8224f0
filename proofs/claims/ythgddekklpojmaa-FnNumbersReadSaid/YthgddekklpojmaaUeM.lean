/-
  What the law on reading numbers turns on: a number's code, stopped, is read as the number; levels and their numbers. No condition but those that each lemma states.
-/
import Derived.Test.YthgddekklpojmaaUeBits
import Derived.Test.YthgddekklpojmaaReadUe
import Derived.Test.YthgddekklpojmaaPutsM
import Derived.Test.YthgddekklpojmaaLevel
namespace Go.Proofs.Ythgddekklpojmaa
open Go.RowKit
set_option linter.unusedVariables false

theorem level_back (n : Int) (h0 : 0 ≤ n) (h1 : n ≤ 65534) : levV n ≠ 0 ∧ numV (levV n) = n ∧ -9223372036854775808 ≤ levV n ∧ levV n ≤ 9223372036854775807 := by
  unfold levV
  rw [if_neg (by omega)]
  by_cases h : n % 2 = 0
  · rw [if_pos h, numV, if_pos (by omega)]
    unfold wrap64
    omega
  · rw [if_neg h, numV, if_neg (by omega), if_pos (by omega)]
    unfold wrap64
    omega
theorem isBits_inL (n w k : Nat) : isBits (inL n w k) = true := isBits_all _ fun t ht => by
  rw [inL_len] at ht
  rw [inL_at _ _ _ _ ht]
  unfold isBit
  have := Nat.mod_lt (n / 2 ^ (w - 1 - t)) (show 0 < 2 by decide)
  simp
  omega
theorem zrun_is (s : ByteArray) (k z : Nat) (hz : z < k) (h0 : ∀ j, j < z → bitN s j = 0) (h1 : bitN s z = 1) : zrun s 0 k = z := by
  obtain ⟨a, b, c⟩ := zrun_spec s k 0
  by_cases hlt : z < zrun s 0 k
  · have := b z hlt
    rw [Nat.zero_add, h1] at this
    exact absurd this (by decide)
  · by_cases hgt : zrun s 0 k < z
    · have h2 := c (by omega)
      rw [Nat.zero_add, h0 _ hgt] at h2
      exact absurd h2 (by decide)
    · omega
/-- The code of a number, read. -/
theorem ue_read (n : Nat) (hn : n ≤ 65534) : (stopS (ueL n)).size ≤ 1048576 ∧ ruPlace (stopS (ueL n)) 0 = ((ueL n).length : Int) ∧ ruNum (stopS (ueL n)) 0 = (n : Int) ∧ ruEr (stopS (ueL n)) 0 = 0 := by
  obtain ⟨_, hz, p0, p1⟩ := ueZ_spec n hn
  have hb : isBits (ueL n) = true := isBits_inL _ _ _
  have h8 := stopS_len (ueL n) hb
  obtain ⟨g1, g2, g3⟩ := stopN_gt (ueL n).length
  have hl := ueL_len n
  have hr : rdN (stopS (ueL n)) 0 (2 * ueZ n + 1) = n + 1 := by
    have := stopS_put [] (n + 1) (2 * ueZ n + 1) (Nat.lt_of_lt_of_le p1 (Nat.pow_le_pow_right (by decide) (by omega))) (by rw [List.nil_append]; exact hb)
    exact this
  have hbit : ∀ t, t < 2 * ueZ n + 1 → (bitN (stopS (ueL n)) t : Int) = (((n + 1) / 2 ^ (2 * ueZ n - t) % 2 : Nat) : Int) := fun t ht => by
    rw [stopS_bit _ hb t (by omega), stopL_old _ _ (by omega)]
    unfold ueL
    rw [inL_at _ _ _ _ ht, show 2 * ueZ n + 1 - 1 - t = 2 * ueZ n - t by omega]
  obtain ⟨s, hs⟩ : ∃ s, s = stopS (ueL n) := ⟨_, rfl⟩
  rw [← hs] at hbit hr h8 ⊢
  rw [hl] at h8 g1 g2 g3 ⊢
  have hsz : s.size ≤ 1048576 := by omega
  have hok : rdOk s 0 = true := by rw [rdOk_true]; omega
  have hza : zaV s 0 = (ueZ n : Int) := by
    rw [zaV, if_pos hok, Int.toNat_zero, Nat.sub_zero]
    congr 1
    refine zrun_is s _ _ (by omega) (fun j hj => ?_) ?_
    · have h := hbit j (by omega)
      rw [Nat.div_eq_of_lt (Nat.lt_of_lt_of_le p1 (Nat.pow_le_pow_right (by decide) (by omega)))] at h
      omega
    · have h := hbit (ueZ n) (by omega)
      rw [show 2 * ueZ n - ueZ n = ueZ n by omega] at h
      have h1 : (n + 1) / 2 ^ ueZ n = 1 := by
        rw [Nat.pow_succ] at p1
        exact Nat.div_eq_of_lt_le (by omega) (by omega)
      rw [h1] at h
      omega
  have hrb : rbOk s 0 (2 * (ueZ n : Int) + 1) = true := by
    unfold rbOk
    rw [leftV, if_pos hok, hok]
    simp
    omega
  have hrn : rbNum s 0 (2 * (ueZ n : Int) + 1) = (n : Int) + 1 := by
    rw [rbNum, if_pos hrb, Int.toNat_zero, show (2 * (ueZ n : Int) + 1).toNat = 2 * ueZ n + 1 by omega, hr]
    omega
  refine ⟨hsz, ?_, ?_, ?_⟩
  · rw [ruPlace, hza, if_neg (by omega), if_pos hrb, rbPlace, if_pos hrb]
    omega
  · rw [ruNum, hza, if_neg (by omega), if_pos hrb, hrn]
    omega
  · rw [ruEr, hza, if_neg (by omega), if_pos hrb]
end Go.Proofs.Ythgddekklpojmaa
