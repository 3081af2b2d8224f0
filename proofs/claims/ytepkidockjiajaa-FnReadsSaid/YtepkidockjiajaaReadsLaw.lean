/-
  The walk of the law on reading in parts, its cases joined. No condition.
-/
import Derived.Test.YtepkidockjiajaaReads
namespace Go.Proofs.Ytepkidockjiajaa
open Go.RowKit
set_option linter.unusedVariables false

theorem rdN_split (s : ByteArray) (a k : Nat) : ∀ m, rdN s a (k + m) = rdN s a k * 2 ^ m + rdN s (a + k) m
  | 0 => by simp [rdN]
  | m + 1 => by
    rw [show k + (m + 1) = (k + m) + 1 by omega, rdN, rdN_split s a k m, rdN, Nat.pow_succ, show a + k + m = a + (k + m) by omega, Nat.mul_add, ← Nat.mul_assoc, Nat.mul_comm 2 (rdN s a k), Nat.mul_assoc, Nat.mul_comm 2 (2 ^ m)]
    omega
theorem rdN_zero (s : ByteArray) (a : Nat) : ∀ n, rdN s a n = 0 → ∀ j, j < n → bitN s (a + j) = 0
  | 0, _, j, hj => absurd hj (Nat.not_lt_zero _)
  | n + 1, h, j, hj => by
    rw [rdN] at h
    by_cases e : j = n
    · subst e; omega
    · exact rdN_zero s a n (by omega) j (by omega)
theorem zrun_ge (s : ByteArray) (a L n : Nat) (hn : n ≤ L) (h : rdN s a n = 0) : n ≤ zrun s a L := by
  obtain ⟨h1, h2, h3⟩ := zrun_spec s L a
  by_cases hlt : zrun s a L < n
  · have e1 := h3 (by omega)
    have e2 := rdN_zero s a n h _ hlt
    omega
  · omega

set_option maxHeartbeats 400000 in
theorem reads_big (a : Option Addr) (cap len : Nat) (h : 1048576 < len) (hm : len ≤ 9223372036854775807) (w : World) :
    Calls Try.prog 3 #[.slice a len cap] w fun e w' => e = .returned (.bool true) ∧ Below w.heap.size w w' := by
  have hq : decide (1048576 < (len : Int)) = true := by simp; omega
  have BG := Lib.hid (big_any a len cap hm)
  rw [hq] at BG
  go_enter Try.func3, Try.ntmps3
  go_wp2_with fail
  refine (BG.out _).mono ?_
  rintro e w' ⟨rfl, rfl⟩
  go_wp2
  go_ret
  exact ⟨rfl, Below.refl _ _⟩

/-- The law's own walk. -/
theorem fnReads_walk (a : Option Addr) (len cap : Nat) (zs : List Int) (w : World) (h : IsRow .u8 w a len cap zs) :
    Calls Try.prog 3 #[.slice a len cap] w fun e w' => e = .returned (.bool true) ∧ Below w.heap.size w w' := by
  have hlm := h.len_le
  unfold maxLen at hlm
  by_cases hbig : 1048576 < len
  · exact reads_big a cap len hbig (by omega) w
  · obtain ⟨ys, rfl, hW⟩ := code_of h (by omega)
    have hbigF : decide (1048576 < (ys.length : Int)) = false := by simp; omega
    obtain ⟨s, x, n, hs, x0, x9, n0, n9, CD⟩ := drawReadBits_det a cap ys
    have RB := impl_readbits_any s x n (by omega)
    have SB := spec_readbits_any s x n (by omega)
    cases hok : rbOk s x n with
    | false =>
      rw [hok] at RB SB
      exact reads_no a cap ys w hW ys.length rfl s x n (rbPlace s x n) (rbNum s x n) hbigF (Lib.hid (big_any a ys.length cap (by omega))) (Lib.hid CD) (Lib.hid RB) (Lib.hid SB)
        (by rw [rbPlace, hok]; rfl)
    | true =>
      obtain ⟨b, m, rfl, rfl, hm, hbm⟩ := rbOk_nat s x n hok
      obtain ⟨k, hk, CU⟩ := cutAt_det a cap ys (by omega) 0 (by decide) m (by omega)
      have eP : rbPlace s (b : Int) m = (b : Int) + m := by rw [rbPlace, hok, if_pos rfl]
      have eV : rbNum s (b : Int) m = (rdN s b m : Int) := by rw [rbNum, hok, if_pos rfl]; rfl
      rw [hok, eP, eV] at RB SB
      have RK := impl_readbits_in s b k (by omega) (by omega) (by omega)
      have RN := impl_readbits_in s (b + k) (m - k) (by omega) (by omega) (by omega)
      have eA : ((b + k + (m - k) : Nat) : Int) = (b : Int) + m := by omega
      have eM : ((m - k : Nat) : Int) = (m : Int) - k := by omega
      rw [eA, eM] at RN
      have hsplit := rdN_split s b k (m - k)
      rw [show k + (m - k) = m by omega] at hsplit
      have ZA := impl_zeros_in s b (by omega) (by omega)
      have LR := impl_left_any s (b : Int) (by omega)
      have LX := impl_left_any s ((b : Int) + m) (by omega)
      rw [leftV, if_pos ((rdOk_true s b).2 ⟨by omega, by omega⟩)] at LR
      rw [leftV, if_pos ((rdOk_true s ((b : Int) + m)).2 ⟨by omega, by omega⟩)] at LX
      have p1 := rdN_lt s b m
      have p2 : (2 : Nat) ^ m ≤ 2 ^ 32 := Nat.pow_le_pow_right (by decide) hm
      have p3 : rdN s b m < 4294967296 := by omega
      have q9 : rdN s (b + k) (m - k) < 4294967296 := by omega
      have tn : ((m : Int) - k).toNat = m - k := by omega
      have hz1 := (zrun_spec s (8 * s.size - b) b).1
      have hS : (rdN s b k : Int) * 2 ^ ((m : Int) - k).toNat = ((rdN s b k * 2 ^ (m - k) : Nat) : Int) := by rw [tn]; push_cast; rfl
      cases hv : ((rdN s b m : Int) != 0) with
      | true =>
        exact reads_yes1 a cap ys w hW ys.length rfl s b m ((b : Int) + m) (rdN s b m) hbigF (Lib.hid (big_any a ys.length cap (by omega))) (Lib.hid CD) (Lib.hid RB) (Lib.hid SB)
          ((b + k : Nat) : Int) (rdN s b k) (rdN s (b + k) (m - k)) (zrun s b (8 * s.size - b)) _ _ ((rdN s b k * 2 ^ (m - k) : Nat) : Int) k (Lib.hid CU) (Lib.hid RK) (Lib.hid RN) (Lib.hid ZA) (Lib.hid LR) (Lib.hid LX)
          (by omega) (by omega) (by omega) (Lib.hid hS) (by omega) (by omega) (by omega) (by omega) (Lib.hid (by omega)) (by omega) (by omega) (by omega) (by omega) (Lib.hid (by omega)) (by simp; omega) hv
      | false =>
        have hz0 : rdN s b m = 0 := by rw [bne_eq_false_iff_eq] at hv; omega
        have hz2 := zrun_ge s b (8 * s.size - b) m (by omega) hz0
        exact reads_yes0 a cap ys w hW ys.length rfl s b m ((b : Int) + m) (rdN s b m) hbigF (Lib.hid (big_any a ys.length cap (by omega))) (Lib.hid CD) (Lib.hid RB) (Lib.hid SB)
          ((b + k : Nat) : Int) (rdN s b k) (rdN s (b + k) (m - k)) (zrun s b (8 * s.size - b)) _ _ ((rdN s b k * 2 ^ (m - k) : Nat) : Int) k (Lib.hid CU) (Lib.hid RK) (Lib.hid RN) (Lib.hid ZA) (Lib.hid LR) (Lib.hid LX)
          (by omega) (by omega) (by omega) (Lib.hid hS) (by omega) (by omega) (by omega) (by omega) (Lib.hid (by omega)) (by omega) (by omega) (by omega) (by omega) (Lib.hid (by omega)) (by simp; omega) hv (by simp; omega)
end Go.Proofs.Ytepkidockjiajaa
