/-
  Contracts of Fixed, in both texts: both give the same bytes for every number and every width. Condition: the number is an int.
-/
import Derived.Test.YtbpghjnkjakhnaaDoorRows
import Derived.Test.YtbpghjnkjakhnaaDoorKit
namespace Go.Proofs.YtbpghjnkjakhnaaDoor
open Go.RowKit
set_option linter.unusedVariables false

/-- The low `k` bytes of `n`, the highest first. -/
def beL : Nat → Nat → List UInt8
  | 0, _ => []
  | k + 1, n => UInt8.ofNat (n / 256 ^ k % 256) :: beL k n
theorem beL_len (k n : Nat) : (beL k n).length = k := by
  induction k with
  | zero => rfl
  | succ k ih => simp [beL, ih]
theorem beL_at (k n j : Nat) (h : j < k) : (beL k n)[j]? = some (UInt8.ofNat (n / 256 ^ (k - 1 - j) % 256)) := by
  induction k generalizing j with
  | zero => omega
  | succ k ih =>
    cases j with
    | zero => simp [beL]
    | succ j =>
      rw [beL, List.getElem?_cons_succ, ih j (by omega)]
      congr 5
      omega

/-- What Fixed gives for a width in range and a number that is not negative. -/
def fixL (n k : Nat) : List UInt8 := if n / 256 ^ k = 0 then beL k n else []
/-- What Fixed gives. -/
def fixS (n k : Int) : ByteArray := if 1 ≤ k ∧ k ≤ 7 ∧ 0 ≤ n then bs (fixL n.toNat k.toNat) else bs []

set_option maxHeartbeats 400000 in
theorem impl_fixed_bad (n k : Int) (h : ¬ (1 ≤ k ∧ k ≤ 7 ∧ 0 ≤ n)) (w : World) :
    Calls Tryd.prog 11 #[.int .i64 n, .int .i64 k] w fun e w' => e = .returned (.string (bs [])) ∧ w = w' := by
  by_cases h1 : 1 ≤ k
  · by_cases h2 : k ≤ 7
    · have h3 : n < 0 := by omega
      go_enter Tryd.func11, Tryd.ntmps11
      go_wp2
      go_ret
      exact ⟨rfl, rfl⟩
    · go_enter Tryd.func11, Tryd.ntmps11
      go_wp2
      go_ret
      exact ⟨rfl, rfl⟩
  · go_enter Tryd.func11, Tryd.ntmps11
    go_wp2
    go_ret
    exact ⟨rfl, rfl⟩

theorem Tryd.infoU8 : (Tryd.prog.info? 5).map (fun i => (i.zero, i.size, i.bytes)) = some (some (.int .u8 0), 1, 1) := by kernel_rfl

theorem two_pow (k : Nat) : (2 : Int) ^ (8 * k) = ((256 ^ k : Nat) : Int) := by
  rw [Int.pow_mul]; simp

set_option maxHeartbeats 400000 in
theorem impl_fixed_big (n k : Nat) (h1 : 1 ≤ k) (h7 : k ≤ 7) (hn : n ≤ 9223372036854775807) (hf : n / 256 ^ k ≠ 0) (w : World) :
    Calls Tryd.prog 11 #[.int .i64 n, .int .i64 k] w fun e w' => e = .returned (.string (bs [])) ∧ w = w' := by
  have hb : (((n : Int) / 2 ^ (8 * k)) != 0) = true := by
    rw [two_pow, ← Int.natCast_ediv, bne_iff_ne]; omega
  clear hf
  go_enter Tryd.func11, Tryd.ntmps11
  go_wp2
  go_ret
  exact ⟨rfl, rfl⟩

set_option maxHeartbeats 400000 in
theorem impl_fixed_fits (n k : Nat) (h1 : 1 ≤ k) (h7 : k ≤ 7) (hn : n ≤ 9223372036854775807) (hf : n / 256 ^ k = 0) (w : World) :
    Calls Tryd.prog 11 #[.int .i64 n, .int .i64 k] w fun e w' => e = .returned (.string (bs (beL k n))) ∧ Below w.heap.size w w' := by
  obtain ⟨i0, hi, hz0, hz1, hz2⟩ := info_parts Tryd.infoU8
  have hmk := make_bytes Tryd.underlying22 hi hz0 hz1 hz2 k (by omega)
  have hb : (((n : Int) / 2 ^ (8 * k)) != 0) = false := by
    rw [two_pow, ← Int.natCast_ediv, bne_eq_false_iff_eq]; omega
  clear hf
  go_enter Tryd.func11, Tryd.ntmps11
  go_wp2
  clear hb hmk
  go_loopw [25] (fun i wr => ∃ (j : Nat) (l : List UInt8), j ≤ k ∧ l.length = k ∧ (∀ t, t < j → l[t]? = (beL k n)[t]?) ∧ i = .int .i64 j ∧ wr.ownsRow w.heap.size 5 1 (.slice (some ⟨w.heap.size, 0, none⟩) k k) k (bvs l) ∧ Below w.heap.size w wr)
    (fun i _ => k - (intOf i).toNat)
  case atStart =>
    refine ⟨0, List.replicate k 0, Nat.zero_le _, by simp, fun t ht => absurd ht (by omega), rfl, ?_, (Below.refl _ _).alloc (Nat.le_refl _) _⟩
    have := own_lit (E := 5) w w.heap.size (List.replicate k 0) (Nat.le_refl _) (by simp [maxLen]; omega)
    simpa using this
  case round =>
    obtain ⟨j, l, hj, hl, hpre, rfl, hown, hbel⟩ := hrel
    by_cases hlt : j < k
    · obtain ⟨b0, hc⟩ : ∃ b0 : Int, wr.cell? ⟨w.heap.size, j, none⟩ = some (.int .u8 b0) := ⟨_, (hown.cellAt j (by omega)).trans (bvs_at l j (by omega))⟩
      have hz := hown.frozenAt j
      have HP := Lib.hid hpre; clear hpre
      have HL := Lib.hid hl; clear hl
      go_wp2
      go_roundw
      case rel =>
        have e1 : Value.int .u8 ((n : Int) / 2 ^ (8 * (k - 1 - j)) % 256) = bv (UInt8.ofNat (n / 256 ^ (k - 1 - j) % 256)) := by
          have := bv_ofNat ((n : Int) / 2 ^ (8 * (k - 1 - j)) % 256) (by omega) (by omega)
          rw [← this, two_pow]
          congr 2
        rw [e1]
        have hs := hown.stored j (bv (UInt8.ofNat (n / 256 ^ (k - 1 - j) % 256)))
        rw [bvs_set] at hs
        refine ⟨j + 1, l.set j (UInt8.ofNat (n / 256 ^ (k - 1 - j) % 256)), by omega, by simpa using HL.out, ?_, by go_num, hs.1, hbel.setCell (Nat.le_refl _) _⟩
        intro t ht
        by_cases htj : t = j
        · subst htj
          rw [List.getElem?_set_self (by rw [HL.out]; exact hlt), beL_at k n t hlt]
        · rw [List.getElem?_set_ne (fun e => htj e.symm), HP.out t (by omega)]
      case measure => simp [intOf]; omega
    · obtain rfl : j = k := by omega
      have hcv := conv_own Tryd.underlying22 Tryd.underlying5 Tryd.underlying9 hown
      obtain rfl : l = beL j n := List.ext_getElem? fun t => by
        by_cases ht : t < j
        · exact hpre t ht
        · rw [List.getElem?_eq_none (by omega), List.getElem?_eq_none (by rw [beL_len]; omega)]
      have HL := Lib.hid hl; clear hl
      have HP := Lib.hid hpre; clear hpre
      go_wp2
      go_ret
      exact ⟨rfl, hbel⟩

theorem impl_fixed_any (n k : Int) (hn : n ≤ 9223372036854775807) (w : World) :
    Calls Tryd.prog 11 #[.int .i64 n, .int .i64 k] w fun e w' => e = .returned (.string (fixS n k)) ∧ Below w.heap.size w w' := by
  by_cases h : 1 ≤ k ∧ k ≤ 7 ∧ 0 ≤ n
  · obtain ⟨h1, h2, h3⟩ := h
    rw [fixS, if_pos ⟨h1, h2, h3⟩]
    obtain ⟨n, rfl⟩ := Int.eq_ofNat_of_zero_le h3
    obtain ⟨k, rfl⟩ := Int.eq_ofNat_of_zero_le (show 0 ≤ k by omega)
    by_cases hf : n / 256 ^ k = 0
    · rw [fixL, Int.toNat_natCast, Int.toNat_natCast, if_pos hf]
      exact impl_fixed_fits n k (by omega) (by omega) (by omega) hf w
    · rw [fixL, Int.toNat_natCast, Int.toNat_natCast, if_neg hf]
      exact (impl_fixed_big n k (by omega) (by omega) (by omega) hf w).mono fun e w' ⟨he, hw⟩ => ⟨he, hw ▸ Below.refl _ _⟩
  · rw [fixS, if_neg h]
    exact (impl_fixed_bad n k h w).mono fun e w' ⟨he, hw⟩ => ⟨he, hw ▸ Below.refl _ _⟩

end Go.Proofs.YtbpghjnkjakhnaaDoor
