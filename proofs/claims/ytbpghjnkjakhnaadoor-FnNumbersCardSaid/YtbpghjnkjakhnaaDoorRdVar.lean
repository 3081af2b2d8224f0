/-
  Contracts of ReadVar, in both texts. Condition: the string is no longer than 1048576 bytes (the law asks no more).
-/
import Derived.Test.YtbpghjnkjakhnaaDoorRdVarL
namespace Go.Proofs.YtbpghjnkjakhnaaDoor
open Go.RowKit
set_option linter.unusedVariables false

set_option maxRecDepth 100000 in
set_option maxHeartbeats 400000 in
theorem impl_rdvar_any (s : ByteArray) (hs : s.size ≤ 1048576) (w : World) :
    Calls Tryd.prog 10 #[.string s] w fun e w' => e = .returned (.tuple #[.int .i64 (rvN s.data.toList), .int .i64 (rvK s.data.toList)]) ∧ Below w.heap.size w w' := by
  obtain ⟨l, hl⟩ : ∃ l, l = s.data.toList := ⟨_, rfl⟩
  have hls : l.length = s.size := by rw [hl]; simp
  rw [← hl]
  have HL := Lib.hid hl; clear hl
  have HLS := Lib.hid hls; clear hls
  obtain ⟨M, hM⟩ : ∃ M : Nat, M = min s.size 7 := ⟨_, rfl⟩
  have hM7 : M ≤ 7 := by omega
  have hMs : M ≤ s.size := by omega
  have hMe : M < 7 → s.size ≤ M := by omega
  have hmin : (if (7 : Int) < (s.size : Int) then (7 : Int) else (s.size : Int)) = (M : Int) := by split <;> omega
  have HM := Lib.hid hM; clear hM
  go_enter Tryd.func10, Tryd.ntmps10
  go_wp2
  clear hmin
  go_loopw [4, 9] (fun n i wr => ∃ j m : Nat, j ≤ M ∧ m = lowN (l.take j) ∧ rvK l = rvGo l (7 - j) (j + 1) ∧ i = .int .i64 j ∧ n = .int .i64 m ∧ Below w.heap.size w wr)
    (fun _ i _ => M - (intOf i).toNat)
  case atStart => exact ⟨0, 0, Nat.zero_le _, rfl, rfl, rfl, rfl, Below.refl _ _⟩
  case round =>
    obtain ⟨j, m, hj, hm, hrv, rfl, rfl, hb⟩ := hrel
    have HN := Lib.hid hm; clear hm
    have HR := Lib.hid hrv; clear hrv
    by_cases hlt : j < M
    · have hix := index_at Tryd.underlying9 s j (by omega)
      have hb8 := byteAt_lt s j
      have hand : bits .and .u8 (byteAt s j : Int) 127 = (byteAt s j : Int) % 128 := and_u8 7 _ _ rfl (by omega) (by omega) (by omega)
      obtain ⟨m2, hm2⟩ : ∃ m2, m2 = lowN (l.take (j + 1)) := ⟨_, rfl⟩
      have hor : bits .or .i64 (m : Int) (wrap64 ((byteAt s j : Int) % 128 * 2 ^ (7 * j))) = (m2 : Int) := by
        have h1 : m < 128 ^ j := by
          have := lowN_lt (l.take j)
          rw [List.length_take, HLS.out, Nat.min_eq_left (by omega)] at this
          rw [HN.out]
          exact this
        have h2 : (2 : Int) ^ (7 * j) = ((128 ^ j : Nat) : Int) := by rw [Int.pow_mul]; simp
        have h3 : 128 ^ j ≤ 128 ^ 6 := Nat.pow_le_pow_right (by decide) (by omega)
        have h4 : byteAt s j % 128 * 128 ^ j ≤ 127 * 128 ^ 6 := Nat.mul_le_mul (by omega) h3
        have h5 : lowN (l.take (j + 1)) = m + byteAt s j % 128 * 128 ^ j := by
          rw [HL.out, take_snoc s j (by omega), lowN_snoc, HN.out, HL.out, List.length_take]
          have : min j s.data.toList.length = j := by simp; omega
          rw [this]
          simp
        have h6 : ((byteAt s j : Int) % 128) * 2 ^ (7 * j) = ((byteAt s j % 128 * 128 ^ j : Nat) : Int) := by rw [h2]; simp
        rw [h6, IntWalk.wrap64_in _ ⟨by omega, by omega⟩, or_i64_low (7 * j) _ _ (by omega) (by rw [h2, ← Int.natCast_emod]; simp) (by omega) (by omega) (by rw [h2]; omega) (by omega), hm2, h5]
        simp
      have hm2l : m2 ≤ 562949953421311 := by rw [hm2]; exact lowN_take_lt l (j + 1) (by omega)
      have HM2 := Lib.hid hm2; clear hm2
      by_cases hc : 128 ≤ byteAt s j
      · go_wp2
        go_roundw
        case rel =>
          have hg : (l.getD j 0).toNat = byteAt s j := by rw [HL.out]; rfl
          exact ⟨j + 1, m2, by omega, HM2.out, by rw [HR.out, show 7 - j = (7 - (j + 1)) + 1 by omega, rvGo_miss l _ _ (hit_cont l j (by omega) (by omega))], by go_num, rfl, hb⟩
        case measure => simp [intOf]; omega
      · have hwr : IntKind.i64.wrap ((j : Int) + 1) = (j : Int) + 1 := IntWalk.i64_in _ (by omega)
        have hsl := cut_to Tryd.underlying9 s (j + 1) ((j : Int) + 1) (by omega) (by omega)
        rw [← HL.out] at hsl
        have hgb : (l.getD j 0).toNat < 128 := by
          have : (l.getD j 0).toNat = byteAt s j := by rw [HL.out]; rfl
          omega
        by_cases hh : hit l (j + 1) = true
        · have hq : (!((bs (varL m2)).toList == (bs (l.take (j + 1))).toList)) = false := by
            unfold hit at hh
            rw [Bool.and_eq_true, beq_iff_eq] at hh
            rw [bs_toList, bs_toList, HM2.out, hh.2]
            simp
          have HH := Lib.hid hh; clear hh
          go_wp2_with fail
          go_region_held3 (fun w' => Below w.heap.size w w') (first | (refine Below.drew ?_; assumption) | (refine below_step ?_ (by assumption); assumption)) (first | (go_at_call 9; refine (impl_var_ok m2 hm2l _).mono ?_; rintro e w' ⟨rfl, hb'⟩))
          go_wp2
          go_ret2
          have e1 : rvK l = j + 1 := by rw [HR.out, show 7 - j = (7 - (j + 1)) + 1 by omega, rvGo_hit l _ _ HH.out]
          exact ⟨by rw [rvN, e1, ← HM2.out]; rfl, by assumption⟩
        · have hhf : hit l (j + 1) = false := by simpa using hh
          have hq : (!((bs (varL m2)).toList == (bs (l.take (j + 1))).toList)) = true := by
            unfold hit at hhf
            rw [decide_eq_true (by rw [HLS.out]; omega), Bool.true_and] at hhf
            rw [bs_toList, bs_toList, HM2.out, hhf]
            rfl
          have HH := Lib.hid hhf; clear hhf hh
          go_wp2_with fail
          go_region_held3 (fun w' => Below w.heap.size w w') (first | (refine Below.drew ?_; assumption) | (refine below_step ?_ (by assumption); assumption)) (first | (go_at_call 9; refine (impl_var_ok m2 hm2l _).mono ?_; rintro e w' ⟨rfl, hb'⟩))
          go_wp2
          go_ret2
          have e1 : rvK l = 0 := by
            rw [HR.out, show 7 - j = (7 - (j + 1)) + 1 by omega, rvGo_miss l _ _ HH.out, rvGo_after l j (by omega) _ _ (by omega) (by omega)]
          exact ⟨by rw [rvN, e1]; rfl, by assumption⟩
    · obtain rfl : j = M := by omega
      go_wp2
      go_ret2
      have e1 : rvK l = 0 := by
        rw [HR.out]
        by_cases h7 : j = 7
        · subst h7; rfl
        · exact rvGo_short l _ _ (by rw [HLS.out]; omega)
      exact ⟨by rw [rvN, e1]; rfl, hb⟩

end Go.Proofs.YtbpghjnkjakhnaaDoor
