/-
  Contracts of ReadDec, in both texts. Conditions: the string is no longer than 1048576 bytes (the law asks no more); the library's table and its two errors read as Go lays them.
-/
import Derived.Test.YtbpghjnkjakhnaaDoorDec
import Derived.Test.YtbpghjnkjakhnaaDoorRdDecL
import Derived.Lib.SmallJoins
namespace Go.Proofs.YtbpghjnkjakhnaaDoor
open Go.RowKit
set_option linter.unusedVariables false

set_option maxRecDepth 100000 in
set_option maxHeartbeats 8000000 in
theorem spec_rddec_any (s : ByteArray) (hs : s.size ≤ 1048576) (w : World) :
    Calls Tryd.prog 19 #[.string s] w fun e w' => e = .returned (.tuple #[.int .i64 (rdN s.data.toList), .bool (rdB s.data.toList)]) ∧ Below w.heap.size w w' := by
  obtain ⟨l, hl⟩ : ∃ l, l = s.data.toList := ⟨_, rfl⟩
  have hls : l.length = s.size := by rw [hl]; simp
  rw [← hl]
  have hat : ∀ t, (l.getD t 0).toNat = byteAt s t := fun t => by rw [hl]; rfl
  have hsl : s.toList = l := by rw [hl]; have := bs_toList s.data.toList; rw [bs_eta] at this; exact this
  have HL := Lib.hid hl; clear hl
  have HLS := Lib.hid hls; clear hls
  have HAT := Lib.hid hat; clear hat
  have HSL := Lib.hid hsl; clear hsl
  obtain ⟨M, hM⟩ : ∃ M : Nat, M = min s.size 11 := ⟨_, rfl⟩
  have hM7 : M ≤ 11 := by omega
  have hMs : M ≤ s.size := by omega
  have hMe : M < 11 → s.size ≤ M := by omega
  have HM := Lib.hid hM; clear hM
  go_enter Tryd.func19, Tryd.ntmps19
  go_wp2
  go_loop [4, 5, 6] (fun n k i => ∃ j N K : Nat, j ≤ M ∧ N = scanN (l.take j) ∧ K = scanK (l.take j) ∧ K ≤ j ∧ i = .int .i64 j ∧ n = .int .i64 N ∧ k = .int .i64 K)
    (fun _ _ i => M - (intOf i).toNat)
  case atStart => exact ⟨0, 0, 0, Nat.zero_le _, rfl, rfl, Nat.le_refl _, rfl, rfl, rfl⟩
  case round =>
    obtain ⟨j, N, K, hj, hN, hK, hKj, rfl, rfl, rfl⟩ := hrel
    have hNb : N < 100000000000 := by rw [hN]; exact scanN_bound _ (by rw [List.length_take]; omega)
    by_cases hlt : j < M
    · have hix := index_at Tryd.underlying9 s j (by omega)
      have hb8 := byteAt_lt s j
      have hts : l.take (j + 1) = l.take j ++ [UInt8.ofNat (byteAt s j)] := by rw [HL.out]; exact take_snoc s j (by omega)
      have hof : (UInt8.ofNat (byteAt s j)).toNat = byteAt s j := by simp; omega
      have hNs : scanN (l.take (j + 1)) = if 48 ≤ byteAt s j ∧ byteAt s j ≤ 57 then N * 10 + (byteAt s j - 48) else N := by rw [hts, scanN_snoc, scD, hof, hN]
      have hKs : scanK (l.take (j + 1)) = if 48 ≤ byteAt s j ∧ byteAt s j ≤ 57 then K + 1 else K := by rw [hts, scanK_snoc, scK, hof, hK]
      have HN := Lib.hid hN; clear hN
      have HK := Lib.hid hK; clear hK
      have HNS := Lib.hid hNs; clear hNs
      have HKS := Lib.hid hKs; clear hKs hts hof
      have hjs : (j : Int) < (s.size : Int) := by omega
      have hj11 : decide ((j : Int) < 11) = true := by simp; omega
      by_cases h48 : 48 ≤ byteAt s j
      · by_cases h57 : byteAt s j ≤ 57
        · have h57d : decide ((byteAt s j : Int) ≤ 57) = true := by simp; omega
          have h48i : (48 : Int) ≤ (byteAt s j : Int) := by omega
          go_wp2
          go_round
          case rel =>
            exact ⟨j + 1, N * 10 + (byteAt s j - 48), K + 1, by omega, by rw [HNS.out, if_pos ⟨h48, h57⟩], by rw [HKS.out, if_pos ⟨h48, h57⟩], by omega, by go_num, by go_num, by go_num⟩
          case measure => simp [intOf]; omega
        · have h57d : decide ((byteAt s j : Int) ≤ 57) = false := by simp; omega
          have h48i : (48 : Int) ≤ (byteAt s j : Int) := by omega
          go_wp2
          go_round
          case rel =>
            exact ⟨j + 1, N, K, by omega, by rw [HNS.out, if_neg (by omega)], by rw [HKS.out, if_neg (by omega)], by omega, by go_num, rfl, rfl⟩
          case measure => simp [intOf]; omega
      · have h48i : (byteAt s j : Int) < 48 := by omega
        go_wp2
        go_round
        case rel =>
          exact ⟨j + 1, N, K, by omega, by rw [HNS.out, if_neg (by omega)], by rw [HKS.out, if_neg (by omega)], by omega, by go_num, rfl, rfl⟩
        case measure => simp [intOf]; omega
    · obtain rfl : j = M := by omega
      have ht : l.take 11 = l.take j := by
        by_cases h : j = 11
        · rw [h]
        · rw [List.take_of_length_le (by rw [HLS.out]; omega), List.take_of_length_le (by rw [HLS.out]; omega)]
      have HT := Lib.hid ht; clear ht
      have HN := Lib.hid hN; clear hN
      have HK := Lib.hid hK; clear hK
      have hex : ((j : Int) < (s.size : Int) ∧ decide ((j : Int) < 11) = false) ∨ (s.size : Int) ≤ (j : Int) := by
        by_cases h : j < s.size
        · left
          exact ⟨by omega, by simp; omega⟩
        · right
          omega
      clear hMe hMs hM7 hlt
      by_cases hs0 : s.size = 0
      · have hz : decide (0 < (s.size : Int)) = false := by rw [decide_eq_false_iff_not]; omega
        have hz2 : (s.size : Int) ≤ 0 := by omega
        have hex1 : (s.size : Int) ≤ (j : Int) := by omega
        clear hex
        have C := Lib.hid (spec_dec_any (N : Int) (by omega) (by omega))
        have HV : Hid (scV l = (N : Int)) := Lib.hid (by rw [scV, HT.out, ← HN.out, HLS.out, HAT.out]; exact if_neg (by omega))
        by_cases ha : 9 < K
        · have hB : rdB l = false := rd_no l (by rw [HT.out, ← HK.out]; omega)
          have HB := Lib.hid hB; clear hB
          go_wp2
          go_ret2
          exact ⟨by rw [rdN_false l HB.out, HB.out]; rfl, Below.refl _ _⟩
        · by_cases hb : 10 < s.size
          · exfalso; omega
          · by_cases hc : Lib.itoa (N : Int) = l
            · have hq : ((bs (Lib.itoa (N : Int))).toList == s.toList) = true := by rw [bs_toList, HSL.out, hc]; simp
              have hB : rdB l = true := (scan_test l).1 ⟨by rw [HT.out, ← HK.out]; omega, by rw [HLS.out]; omega, by rw [HV.out]; exact hc⟩
              have HB := Lib.hid hB; clear hB
              have HC := Lib.hid hc; clear hc
              go_wp2_with (go_at_call 18; refine (C.out _).mono ?_; rintro e w' ⟨rfl, hb'⟩)
              go_ret2
              exact ⟨by rw [← scan_val l HB.out, HV.out, HB.out]; rfl, hb'⟩
            · have hq : ((bs (Lib.itoa (N : Int))).toList == s.toList) = false := by rw [bs_toList, HSL.out, beq_eq_false_iff_ne]; exact hc
              have hB : rdB l = false := rd_no l (by rw [HV.out]; exact fun h => hc h.2.2)
              have HB := Lib.hid hB; clear hB
              have HC := Lib.hid hc; clear hc
              go_wp2_with (go_at_call 18; refine (C.out _).mono ?_; rintro e w' ⟨rfl, hb'⟩)
              go_ret2
              exact ⟨by rw [rdN_false l HB.out, HB.out]; rfl, hb'⟩
      · rcases hex with ⟨hex1, hex2⟩ | hex1
        all_goals
          have hs1 : 0 < (s.size : Int) := by omega
          have hi0 := index_at' Tryd.underlying9 s 0 0 rfl (by omega)
          by_cases h45 : byteAt s 0 = 45
          · have hq0 : ((byteAt s 0 : Int) == 45) = true := by rw [beq_iff_eq]; omega
            have H45 := Lib.hid h45; clear h45
            have C := Lib.hid (spec_dec_any (-(N : Int)) (by omega) (by omega))
            have HV : Hid (scV l = (-(N : Int))) := Lib.hid (by rw [scV, HT.out, ← HN.out, HLS.out, HAT.out]; exact if_pos ⟨by omega, H45.out⟩)
            by_cases ha : 9 < K
            · have hB : rdB l = false := rd_no l (by rw [HT.out, ← HK.out]; omega)
              have HB := Lib.hid hB; clear hB
              go_wp2
              go_ret2
              exact ⟨by rw [rdN_false l HB.out, HB.out]; rfl, Below.refl _ _⟩
            · by_cases hb : 10 < s.size
              · have hB : rdB l = false := rd_no l (by rw [HLS.out]; omega)
                have HB := Lib.hid hB; clear hB
                go_wp2
                go_ret2
                exact ⟨by rw [rdN_false l HB.out, HB.out]; rfl, Below.refl _ _⟩
              · by_cases hc : Lib.itoa (-(N : Int)) = l
                · have hq : ((bs (Lib.itoa (-(N : Int)))).toList == s.toList) = true := by rw [bs_toList, HSL.out, hc]; simp
                  have hB : rdB l = true := (scan_test l).1 ⟨by rw [HT.out, ← HK.out]; omega, by rw [HLS.out]; omega, by rw [HV.out]; exact hc⟩
                  have HB := Lib.hid hB; clear hB
                  have HC := Lib.hid hc; clear hc
                  go_wp2_with (go_at_call 18; refine (C.out _).mono ?_; rintro e w' ⟨rfl, hb'⟩)
                  go_ret2
                  exact ⟨by rw [← scan_val l HB.out, HV.out, HB.out]; rfl, hb'⟩
                · have hq : ((bs (Lib.itoa (-(N : Int)))).toList == s.toList) = false := by rw [bs_toList, HSL.out, beq_eq_false_iff_ne]; exact hc
                  have hB : rdB l = false := rd_no l (by rw [HV.out]; exact fun h => hc h.2.2)
                  have HB := Lib.hid hB; clear hB
                  have HC := Lib.hid hc; clear hc
                  go_wp2_with (go_at_call 18; refine (C.out _).mono ?_; rintro e w' ⟨rfl, hb'⟩)
                  go_ret2
                  exact ⟨by rw [rdN_false l HB.out, HB.out]; rfl, hb'⟩
          · have hq0 : ((byteAt s 0 : Int) == 45) = false := by rw [beq_eq_false_iff_ne]; omega
            have H45 := Lib.hid h45; clear h45
            have C := Lib.hid (spec_dec_any (N : Int) (by omega) (by omega))
            have HV : Hid (scV l = (N : Int)) := Lib.hid (by rw [scV, HT.out, ← HN.out, HLS.out, HAT.out]; exact if_neg (fun h => H45.out h.2))
            by_cases ha : 9 < K
            · have hB : rdB l = false := rd_no l (by rw [HT.out, ← HK.out]; omega)
              have HB := Lib.hid hB; clear hB
              go_wp2
              go_ret2
              exact ⟨by rw [rdN_false l HB.out, HB.out]; rfl, Below.refl _ _⟩
            · by_cases hb : 10 < s.size
              · have hB : rdB l = false := rd_no l (by rw [HLS.out]; omega)
                have HB := Lib.hid hB; clear hB
                go_wp2
                go_ret2
                exact ⟨by rw [rdN_false l HB.out, HB.out]; rfl, Below.refl _ _⟩
              · by_cases hc : Lib.itoa (N : Int) = l
                · have hq : ((bs (Lib.itoa (N : Int))).toList == s.toList) = true := by rw [bs_toList, HSL.out, hc]; simp
                  have hB : rdB l = true := (scan_test l).1 ⟨by rw [HT.out, ← HK.out]; omega, by rw [HLS.out]; omega, by rw [HV.out]; exact hc⟩
                  have HB := Lib.hid hB; clear hB
                  have HC := Lib.hid hc; clear hc
                  go_wp2_with (go_at_call 18; refine (C.out _).mono ?_; rintro e w' ⟨rfl, hb'⟩)
                  go_ret2
                  exact ⟨by rw [← scan_val l HB.out, HV.out, HB.out]; rfl, hb'⟩
                · have hq : ((bs (Lib.itoa (N : Int))).toList == s.toList) = false := by rw [bs_toList, HSL.out, beq_eq_false_iff_ne]; exact hc
                  have hB : rdB l = false := rd_no l (by rw [HV.out]; exact fun h => hc h.2.2)
                  have HB := Lib.hid hB; clear hB
                  have HC := Lib.hid hc; clear hc
                  go_wp2_with (go_at_call 18; refine (C.out _).mono ?_; rintro e w' ⟨rfl, hb'⟩)
                  go_ret2
                  exact ⟨by rw [rdN_false l HB.out, HB.out]; rfl, hb'⟩

end Go.Proofs.YtbpghjnkjakhnaaDoor
