/-
  Contracts of NormAt in both texts. No condition.
-/
import Derived.Test.YtdocobphecllkaaQuantA
namespace Go.Proofs.Ytdocobphecllkaa
open Go.RowKit
set_option linter.unusedVariables false

theorem okN_bad {n : Int} (h : okN n = false) : n ≠ 4 ∧ n ≠ 8 := by simpa [okN] using h
theorem nmV_bad {n : Int} (i : Int) (h : okN n = false) : nmV n i = 0 := by
  have := okN_bad h
  unfold nmV
  rw [if_neg this.2, if_neg this.1]
theorem nmV_eight_out {i : Int} (h : ¬ (0 ≤ i ∧ i ≤ 63)) : nmV 8 i = 0 := by unfold nmV; rw [if_pos rfl, if_neg h]
theorem nmV_four_out {i : Int} (h : ¬ (0 ≤ i ∧ i ≤ 15)) : nmV 4 i = 0 := by unfold nmV; rw [if_neg (by decide), if_pos rfl, if_neg h]
theorem okN_two {n : Int} (h : okN n = true) : n = 4 ∨ n = 8 := by simpa [okN] using h
/-- The parts of a place of a block of four. -/
theorem four_parts (k : Nat) (hk : k < 16) : ∃ p c a b : Nat, (k : Int).tdiv 4 = (p : Int) ∧ p ≤ 3 ∧ (p : Int).tmod 2 = (a : Int) ∧ (k : Int).tmod 4 = (c : Int) ∧ c ≤ 3 ∧ (c : Int).tmod 2 = (b : Int) ∧ nm4 k = [100, 40, 16].getD (a + b) 0 ∧ a < 2 ∧ b < 2 := by
  refine ⟨k / 4, k % 4, k / 4 % 2, k % 4 % 2, ?_, by omega, ?_, ?_, by omega, ?_, rfl, by omega, by omega⟩
  · rw [Int.tdiv_eq_ediv_of_nonneg (by omega)]; omega
  · rw [Int.tmod_eq_emod_of_nonneg (by omega)]; omega
  · rw [Int.tmod_eq_emod_of_nonneg (by omega)]; omega
  · rw [Int.tmod_eq_emod_of_nonneg (by omega)]; omega

set_option maxRecDepth 100000 in
set_option maxHeartbeats 2000000 in
theorem spec_normat_any (n i : Int) (w : World) :
    Calls Try.prog 8 #[.int .i64 n, .int .i64 i] w fun e w' => e = .returned (.int .i64 (nmV n i)) ∧ Below w.heap.size w w' := by
  cases hok : okN n with
  | false =>
    rw [nmV_bad i hok]
    have SZ := Lib.hid (spec_sizeok_any n); rw [hok] at SZ; clear hok
    go_enter Try.func8, Try.ntmps8
    go_wp2_with fail
    refine (SZ.out _).mono ?_
    rintro e w1 ⟨rfl, hw⟩
    subst hw
    go_wp2
    go_ret
    exact ⟨rfl, Below.refl _ _⟩
  | true =>
    have SZ := Lib.hid (spec_sizeok_any n); rw [hok] at SZ
    rcases okN_two hok with rfl | rfl
    · clear hok
      by_cases h : 0 ≤ i ∧ i ≤ 15
      · have L1 := Lib.hid (l1in_t i 0 15 h.1 h.2)
        obtain ⟨k, rfl⟩ := Int.eq_ofNat_of_zero_le h.1
        have hk : k < 16 := by omega
        rw [nmV_four hk]; clear h
        have B1 := Lib.hid (below_new w (.cells #[.int .i64 100, .int .i64 40, .int .i64 16] 3))
        obtain ⟨p, c, a, b, h1, hp, h2, h3, hc, h4, hn, ha, hb⟩ := four_parts k hk
        rw [hn]; clear hn
        rcases (show a = 0 ∨ a = 1 by omega) with rfl | rfl <;> rcases (show b = 0 ∨ b = 1 by omega) with rfl | rfl <;> clear ha hb
        all_goals
          go_enter Try.func8, Try.ntmps8
          go_wp2_with fail
          refine (SZ.out _).mono ?_
          rintro e w1 ⟨rfl, hw⟩
          subst hw
          go_wp2_with fail
          refine (L1.out _).mono ?_
          rintro e w1 ⟨rfl, hw⟩
          subst hw
          go_wp2
          go_ret
          exact ⟨rfl, B1.out⟩
      · rw [nmV_four_out h]
        have L1 := Lib.hid (l1in_f i 0 15 (by omega))
        clear h
        go_enter Try.func8, Try.ntmps8
        go_wp2_with fail
        refine (SZ.out _).mono ?_
        rintro e w1 ⟨rfl, hw⟩
        subst hw
        go_wp2_with fail
        refine (L1.out _).mono ?_
        rintro e w1 ⟨rfl, hw⟩
        subst hw
        go_wp2
        go_ret
        exact ⟨rfl, Below.refl _ _⟩
    · clear hok
      by_cases h : 0 ≤ i ∧ i ≤ 63
      · have L1 := Lib.hid (l1in_t i 0 63 h.1 h.2)
        obtain ⟨k, rfl⟩ := Int.eq_ofNat_of_zero_le h.1
        have hk : k < 64 := by omega
        rw [nmV_eight hk]; clear h
        go_enter Try.func8, Try.ntmps8
        go_wp2_with fail
        refine (SZ.out _).mono ?_
        rintro e w1 ⟨rfl, hw⟩
        subst hw
        go_wp2_with fail
        refine (L1.out _).mono ?_
        rintro e w1 ⟨rfl, hw⟩
        subst hw
        go_wp2
        go_ret
        exact ⟨rfl, Below.refl _ _⟩
      · rw [nmV_eight_out h]
        have L1 := Lib.hid (l1in_f i 0 63 (by omega))
        clear h
        go_enter Try.func8, Try.ntmps8
        go_wp2_with fail
        refine (SZ.out _).mono ?_
        rintro e w1 ⟨rfl, hw⟩
        subst hw
        go_wp2_with fail
        refine (L1.out _).mono ?_
        rintro e w1 ⟨rfl, hw⟩
        subst hw
        go_wp2
        go_ret
        exact ⟨rfl, Below.refl _ _⟩
end Go.Proofs.Ytdocobphecllkaa
