/-
  Contracts of the model's UeTable and of TableOk in both texts. No condition but those that each lemma states.
-/
import Derived.Test.YthiplncceglnhaaUeTab
namespace Go.Proofs.Ythiplncceglnhaa
open Go.RowKit
set_option linter.unusedVariables false

/-- The size of a number's code; the bits that it leaves of nine. -/
def ueSz (n : Nat) : Nat := 2 * ueZ n + 1
/-- The table while it is filled: the first places of a number's run; the numbers before. -/
def fillK (t : EntL) (n : Nat) : Nat → EntL
  | 0 => t
  | k + 1 => (fillK t n k).set ((n + 1) * 2 ^ (9 - ueSz n) + k) ((ueSz n : Int), (n : Int))
def tabN : Nat → EntL
  | 0 => List.replicate 512 (0, 0)
  | n + 1 => fillK (tabN n) n (2 ^ (9 - ueSz n))
theorem fillK_len (t : EntL) (n : Nat) : ∀ k, (fillK t n k).length = t.length
  | 0 => rfl
  | k + 1 => by rw [fillK, List.length_set, fillK_len t n k]
theorem tabN_len : ∀ n, (tabN n).length = 512
  | 0 => List.length_replicate
  | n + 1 => by rw [tabN, fillK_len, tabN_len n]
theorem tabN_end : tabN 31 = ueT := by decide +kernel
theorem ueSz_facts : ∀ n, n < 31 → ueSz n ≤ 9 ∧ 1 ≤ ueSz n ∧ (n + 1) * 2 ^ (9 - ueSz n) + 2 ^ (9 - ueSz n) ≤ 512 ∧ ueSz n % 2 = 1 := by decide +kernel
theorem ueSz_31 : ueSz 31 = 11 := by decide +kernel
theorem uesize_at (n : Nat) (hn : n ≤ 31) (w : World) : Calls Try.prog 51 #[.int .i64 n] w fun e w' => e = .returned (.int .i64 (ueSz n)) ∧ w = w' := by
  have h := spec_uesize_any n w
  have e : usV (n : Int) = (ueSz n : Int) := by
    unfold usV ueR
    rw [show ueOk (n : Int) = true by simp [ueOk]; omega, if_pos rfl, Int.toNat_natCast, ueL_len]
    rfl
  rwa [e] at h

set_option maxRecDepth 100000 in
set_option maxHeartbeats 1000000 in
theorem spec_uetable_any (w : World) :
    Calls Try.prog 18 #[] w fun e w' => ∃ A' cap', e = .returned (.slice A' ueT.length cap') ∧ OwnE w' w.heap.size A' cap' ueT ∧ Below w.heap.size w w' := by
  have hmk := make_ents 512 512 (by decide) (by decide)
  have hOI : ∀ w' A' cap', OwnE w' w.heap.size A' cap' ueT ↔ w'.ownsRow w.heap.size 63 2 (.slice A' 512 cap') 512 (ivs (els ueT)) := fun w' A' cap' => by unfold OwnE; rw [ueT_len]
  simp only [hOI, ueT_len]
  clear hOI
  obtain ⟨z, hz⟩ : ∃ z : EntL, z = tabN 0 := ⟨_, rfl⟩
  rw [show List.replicate 512 (0, 0) = z from hz.symm] at hmk
  have hzl : z.length = 512 := by rw [hz, tabN_len]
  have HZ := Lib.hid hz; clear hz
  have HZL := Lib.hid hzl; clear hzl
  go_enter Try.func18, Try.ntmps18
  go_wp2
  clear hmk
  go_loopw [2] (fun i wr => ∃ (j : Nat), j ≤ 31 ∧ i = .int .i64 j ∧ wr.ownsRow w.heap.size 63 2 (.slice (some ⟨w.heap.size, 0, none⟩) 512 512) 512 (ivs (els (tabN j))) ∧ Below w.heap.size w wr)
    (fun i _ => 31 - (intOf i).toNat)
  case atStart =>
    refine ⟨0, Nat.zero_le _, rfl, ?_, (Below.refl _ _).alloc (Nat.le_refl _) _⟩
    have := own_ents w w.heap.size z (Nat.le_refl _) (by rw [HZL.out]; simp [maxLen])
    unfold OwnE at this
    rw [HZL.out] at this
    rw [← HZ.out]
    simpa using this
  case round =>
    obtain ⟨j, hj, rfl, hown, hbel⟩ := hrel
    have HU := Lib.hid (uesize_at j hj)
    by_cases hlt : j < 31
    · obtain ⟨f1, f2, f3, f4⟩ := ueSz_facts j hlt
      obtain ⟨S, hS⟩ : ∃ S, S = ueSz j := ⟨_, rfl⟩
      rw [← hS] at HU f1 f2 f3 f4
      have HS := Lib.hid hS; clear hS
      have : S = 1 ∨ S = 3 ∨ S = 5 ∨ S = 7 ∨ S = 9 := by omega
      have HO := Lib.hid hown; clear hown
      have HBL := Lib.hid hbel; clear hbel
      rcases this with rfl | rfl | rfl | rfl | rfl
      · simp only [show 9 - 1 = 8 from rfl, show (2 : Nat) ^ 8 = 256 from rfl] at f3
        clear f1 f2 f4
        go_wp2_with fail
        refine (HU.out _).mono ?_
        rintro e w' ⟨rfl, rfl⟩
        go_wp2_with fail
        refine (HU.out _).mono ?_
        rintro e w' ⟨rfl, rfl⟩
        go_wp2_with fail
        go_loopw [5] (fun i wr => ∃ (k : Nat), k ≤ 256 ∧ i = .int .i64 k ∧ wr.ownsRow w.heap.size 63 2 (.slice (some ⟨w.heap.size, 0, none⟩) 512 512) 512 (ivs (els (fillK (tabN j) j k))) ∧ Below w.heap.size w wr)
          (fun i _ => 256 - (intOf i).toNat)
        case atStart => exact ⟨0, Nat.zero_le _, rfl, HO.out, HBL.out⟩
        case round =>
          obtain ⟨k, hk, rfl, hown, hbel⟩ := hrel
          by_cases hlk : k < 256
          · have hel := els_len (fillK (tabN j) j k)
            have hfl := fillK_len (tabN j) j k
            have htl := tabN_len j
            obtain ⟨b0, hc⟩ : ∃ b0 : Int, wr.cell? ⟨w.heap.size, ((j + 1) * 256 + k) * 2, none⟩ = some (.int .i64 b0) := ⟨_, (hown.cellAt (((j + 1) * 256 + k) * 2) (by omega)).trans (ivs_at (els (fillK (tabN j) j k)) (((j + 1) * 256 + k) * 2) (by omega))⟩
            obtain ⟨b1, hc1⟩ : ∃ b0 : Int, wr.cell? ⟨w.heap.size, ((j + 1) * 256 + k) * 2 + 1, none⟩ = some (.int .i64 b0) := ⟨_, (hown.cellAt (((j + 1) * 256 + k) * 2 + 1) (by omega)).trans (ivs_at (els (fillK (tabN j) j k)) (((j + 1) * 256 + k) * 2 + 1) (by omega))⟩
            have hz := hown.frozenAt (((j + 1) * 256 + k) * 2)
            have hz1 := hown.frozenAt (((j + 1) * 256 + k) * 2 + 1)
            have s1 := hown.stored (((j + 1) * 256 + k) * 2) (.int .i64 1)
            have s2 := s1.1.stored (((j + 1) * 256 + k) * 2 + 1) (.int .i64 j)
            have s21 := s2.1
            rw [ivs_set, ivs_set, els_set] at s21
            have hstep : fillK (tabN j) j (k + 1) = (fillK (tabN j) j k).set ((j + 1) * 256 + k) (1, (j : Int)) := by
              have hs := HS.out
              rw [fillK, ← hs]
              rfl
            rw [← hstep] at s21
            have HO2 := Lib.hid s21; clear s1 s2 s21 hstep
            have HBL := Lib.hid hbel; clear hbel
            clear hel hfl htl hown
            go_wp2_with fail
            refine (HU.out _).mono ?_
            rintro e w' ⟨rfl, rfl⟩
            go_wp2
            go_roundw
            case rel => exact ⟨k + 1, by omega, by go_num, HO2.out, (HBL.out.setCell (Nat.le_refl _) _).setCell (Nat.le_refl _) _⟩
            case measure => simp [intOf]; omega
          · obtain rfl : k = 256 := by omega
            have HO2 := Lib.hid hown; clear hown
            have HBL := Lib.hid hbel; clear hbel
            go_wp2
            go_roundw
            case rel =>
              refine ⟨j + 1, by omega, by go_num, ?_, HBL.out⟩
              have hs := HS.out
              rw [tabN, ← hs]
              exact HO2.out
            case measure => simp [intOf]; omega
      · simp only [show 9 - 3 = 6 from rfl, show (2 : Nat) ^ 6 = 64 from rfl] at f3
        clear f1 f2 f4
        go_wp2_with fail
        refine (HU.out _).mono ?_
        rintro e w' ⟨rfl, rfl⟩
        go_wp2_with fail
        refine (HU.out _).mono ?_
        rintro e w' ⟨rfl, rfl⟩
        go_wp2_with fail
        go_loopw [5] (fun i wr => ∃ (k : Nat), k ≤ 64 ∧ i = .int .i64 k ∧ wr.ownsRow w.heap.size 63 2 (.slice (some ⟨w.heap.size, 0, none⟩) 512 512) 512 (ivs (els (fillK (tabN j) j k))) ∧ Below w.heap.size w wr)
          (fun i _ => 64 - (intOf i).toNat)
        case atStart => exact ⟨0, Nat.zero_le _, rfl, HO.out, HBL.out⟩
        case round =>
          obtain ⟨k, hk, rfl, hown, hbel⟩ := hrel
          by_cases hlk : k < 64
          · have hel := els_len (fillK (tabN j) j k)
            have hfl := fillK_len (tabN j) j k
            have htl := tabN_len j
            obtain ⟨b0, hc⟩ : ∃ b0 : Int, wr.cell? ⟨w.heap.size, ((j + 1) * 64 + k) * 2, none⟩ = some (.int .i64 b0) := ⟨_, (hown.cellAt (((j + 1) * 64 + k) * 2) (by omega)).trans (ivs_at (els (fillK (tabN j) j k)) (((j + 1) * 64 + k) * 2) (by omega))⟩
            obtain ⟨b1, hc1⟩ : ∃ b0 : Int, wr.cell? ⟨w.heap.size, ((j + 1) * 64 + k) * 2 + 1, none⟩ = some (.int .i64 b0) := ⟨_, (hown.cellAt (((j + 1) * 64 + k) * 2 + 1) (by omega)).trans (ivs_at (els (fillK (tabN j) j k)) (((j + 1) * 64 + k) * 2 + 1) (by omega))⟩
            have hz := hown.frozenAt (((j + 1) * 64 + k) * 2)
            have hz1 := hown.frozenAt (((j + 1) * 64 + k) * 2 + 1)
            have s1 := hown.stored (((j + 1) * 64 + k) * 2) (.int .i64 3)
            have s2 := s1.1.stored (((j + 1) * 64 + k) * 2 + 1) (.int .i64 j)
            have s21 := s2.1
            rw [ivs_set, ivs_set, els_set] at s21
            have hstep : fillK (tabN j) j (k + 1) = (fillK (tabN j) j k).set ((j + 1) * 64 + k) (3, (j : Int)) := by
              have hs := HS.out
              rw [fillK, ← hs]
              rfl
            rw [← hstep] at s21
            have HO2 := Lib.hid s21; clear s1 s2 s21 hstep
            have HBL := Lib.hid hbel; clear hbel
            clear hel hfl htl hown
            go_wp2_with fail
            refine (HU.out _).mono ?_
            rintro e w' ⟨rfl, rfl⟩
            go_wp2
            go_roundw
            case rel => exact ⟨k + 1, by omega, by go_num, HO2.out, (HBL.out.setCell (Nat.le_refl _) _).setCell (Nat.le_refl _) _⟩
            case measure => simp [intOf]; omega
          · obtain rfl : k = 64 := by omega
            have HO2 := Lib.hid hown; clear hown
            have HBL := Lib.hid hbel; clear hbel
            go_wp2
            go_roundw
            case rel =>
              refine ⟨j + 1, by omega, by go_num, ?_, HBL.out⟩
              have hs := HS.out
              rw [tabN, ← hs]
              exact HO2.out
            case measure => simp [intOf]; omega
      · simp only [show 9 - 5 = 4 from rfl, show (2 : Nat) ^ 4 = 16 from rfl] at f3
        clear f1 f2 f4
        go_wp2_with fail
        refine (HU.out _).mono ?_
        rintro e w' ⟨rfl, rfl⟩
        go_wp2_with fail
        refine (HU.out _).mono ?_
        rintro e w' ⟨rfl, rfl⟩
        go_wp2_with fail
        go_loopw [5] (fun i wr => ∃ (k : Nat), k ≤ 16 ∧ i = .int .i64 k ∧ wr.ownsRow w.heap.size 63 2 (.slice (some ⟨w.heap.size, 0, none⟩) 512 512) 512 (ivs (els (fillK (tabN j) j k))) ∧ Below w.heap.size w wr)
          (fun i _ => 16 - (intOf i).toNat)
        case atStart => exact ⟨0, Nat.zero_le _, rfl, HO.out, HBL.out⟩
        case round =>
          obtain ⟨k, hk, rfl, hown, hbel⟩ := hrel
          by_cases hlk : k < 16
          · have hel := els_len (fillK (tabN j) j k)
            have hfl := fillK_len (tabN j) j k
            have htl := tabN_len j
            obtain ⟨b0, hc⟩ : ∃ b0 : Int, wr.cell? ⟨w.heap.size, ((j + 1) * 16 + k) * 2, none⟩ = some (.int .i64 b0) := ⟨_, (hown.cellAt (((j + 1) * 16 + k) * 2) (by omega)).trans (ivs_at (els (fillK (tabN j) j k)) (((j + 1) * 16 + k) * 2) (by omega))⟩
            obtain ⟨b1, hc1⟩ : ∃ b0 : Int, wr.cell? ⟨w.heap.size, ((j + 1) * 16 + k) * 2 + 1, none⟩ = some (.int .i64 b0) := ⟨_, (hown.cellAt (((j + 1) * 16 + k) * 2 + 1) (by omega)).trans (ivs_at (els (fillK (tabN j) j k)) (((j + 1) * 16 + k) * 2 + 1) (by omega))⟩
            have hz := hown.frozenAt (((j + 1) * 16 + k) * 2)
            have hz1 := hown.frozenAt (((j + 1) * 16 + k) * 2 + 1)
            have s1 := hown.stored (((j + 1) * 16 + k) * 2) (.int .i64 5)
            have s2 := s1.1.stored (((j + 1) * 16 + k) * 2 + 1) (.int .i64 j)
            have s21 := s2.1
            rw [ivs_set, ivs_set, els_set] at s21
            have hstep : fillK (tabN j) j (k + 1) = (fillK (tabN j) j k).set ((j + 1) * 16 + k) (5, (j : Int)) := by
              have hs := HS.out
              rw [fillK, ← hs]
              rfl
            rw [← hstep] at s21
            have HO2 := Lib.hid s21; clear s1 s2 s21 hstep
            have HBL := Lib.hid hbel; clear hbel
            clear hel hfl htl hown
            go_wp2_with fail
            refine (HU.out _).mono ?_
            rintro e w' ⟨rfl, rfl⟩
            go_wp2
            go_roundw
            case rel => exact ⟨k + 1, by omega, by go_num, HO2.out, (HBL.out.setCell (Nat.le_refl _) _).setCell (Nat.le_refl _) _⟩
            case measure => simp [intOf]; omega
          · obtain rfl : k = 16 := by omega
            have HO2 := Lib.hid hown; clear hown
            have HBL := Lib.hid hbel; clear hbel
            go_wp2
            go_roundw
            case rel =>
              refine ⟨j + 1, by omega, by go_num, ?_, HBL.out⟩
              have hs := HS.out
              rw [tabN, ← hs]
              exact HO2.out
            case measure => simp [intOf]; omega
      · simp only [show 9 - 7 = 2 from rfl, show (2 : Nat) ^ 2 = 4 from rfl] at f3
        clear f1 f2 f4
        go_wp2_with fail
        refine (HU.out _).mono ?_
        rintro e w' ⟨rfl, rfl⟩
        go_wp2_with fail
        refine (HU.out _).mono ?_
        rintro e w' ⟨rfl, rfl⟩
        go_wp2_with fail
        go_loopw [5] (fun i wr => ∃ (k : Nat), k ≤ 4 ∧ i = .int .i64 k ∧ wr.ownsRow w.heap.size 63 2 (.slice (some ⟨w.heap.size, 0, none⟩) 512 512) 512 (ivs (els (fillK (tabN j) j k))) ∧ Below w.heap.size w wr)
          (fun i _ => 4 - (intOf i).toNat)
        case atStart => exact ⟨0, Nat.zero_le _, rfl, HO.out, HBL.out⟩
        case round =>
          obtain ⟨k, hk, rfl, hown, hbel⟩ := hrel
          by_cases hlk : k < 4
          · have hel := els_len (fillK (tabN j) j k)
            have hfl := fillK_len (tabN j) j k
            have htl := tabN_len j
            obtain ⟨b0, hc⟩ : ∃ b0 : Int, wr.cell? ⟨w.heap.size, ((j + 1) * 4 + k) * 2, none⟩ = some (.int .i64 b0) := ⟨_, (hown.cellAt (((j + 1) * 4 + k) * 2) (by omega)).trans (ivs_at (els (fillK (tabN j) j k)) (((j + 1) * 4 + k) * 2) (by omega))⟩
            obtain ⟨b1, hc1⟩ : ∃ b0 : Int, wr.cell? ⟨w.heap.size, ((j + 1) * 4 + k) * 2 + 1, none⟩ = some (.int .i64 b0) := ⟨_, (hown.cellAt (((j + 1) * 4 + k) * 2 + 1) (by omega)).trans (ivs_at (els (fillK (tabN j) j k)) (((j + 1) * 4 + k) * 2 + 1) (by omega))⟩
            have hz := hown.frozenAt (((j + 1) * 4 + k) * 2)
            have hz1 := hown.frozenAt (((j + 1) * 4 + k) * 2 + 1)
            have s1 := hown.stored (((j + 1) * 4 + k) * 2) (.int .i64 7)
            have s2 := s1.1.stored (((j + 1) * 4 + k) * 2 + 1) (.int .i64 j)
            have s21 := s2.1
            rw [ivs_set, ivs_set, els_set] at s21
            have hstep : fillK (tabN j) j (k + 1) = (fillK (tabN j) j k).set ((j + 1) * 4 + k) (7, (j : Int)) := by
              have hs := HS.out
              rw [fillK, ← hs]
              rfl
            rw [← hstep] at s21
            have HO2 := Lib.hid s21; clear s1 s2 s21 hstep
            have HBL := Lib.hid hbel; clear hbel
            clear hel hfl htl hown
            go_wp2_with fail
            refine (HU.out _).mono ?_
            rintro e w' ⟨rfl, rfl⟩
            go_wp2
            go_roundw
            case rel => exact ⟨k + 1, by omega, by go_num, HO2.out, (HBL.out.setCell (Nat.le_refl _) _).setCell (Nat.le_refl _) _⟩
            case measure => simp [intOf]; omega
          · obtain rfl : k = 4 := by omega
            have HO2 := Lib.hid hown; clear hown
            have HBL := Lib.hid hbel; clear hbel
            go_wp2
            go_roundw
            case rel =>
              refine ⟨j + 1, by omega, by go_num, ?_, HBL.out⟩
              have hs := HS.out
              rw [tabN, ← hs]
              exact HO2.out
            case measure => simp [intOf]; omega
      · simp only [show 9 - 9 = 0 from rfl, show (2 : Nat) ^ 0 = 1 from rfl] at f3
        clear f1 f2 f4
        go_wp2_with fail
        refine (HU.out _).mono ?_
        rintro e w' ⟨rfl, rfl⟩
        go_wp2_with fail
        refine (HU.out _).mono ?_
        rintro e w' ⟨rfl, rfl⟩
        go_wp2_with fail
        go_loopw [5] (fun i wr => ∃ (k : Nat), k ≤ 1 ∧ i = .int .i64 k ∧ wr.ownsRow w.heap.size 63 2 (.slice (some ⟨w.heap.size, 0, none⟩) 512 512) 512 (ivs (els (fillK (tabN j) j k))) ∧ Below w.heap.size w wr)
          (fun i _ => 1 - (intOf i).toNat)
        case atStart => exact ⟨0, Nat.zero_le _, rfl, HO.out, HBL.out⟩
        case round =>
          obtain ⟨k, hk, rfl, hown, hbel⟩ := hrel
          by_cases hlk : k < 1
          · have hel := els_len (fillK (tabN j) j k)
            have hfl := fillK_len (tabN j) j k
            have htl := tabN_len j
            obtain ⟨b0, hc⟩ : ∃ b0 : Int, wr.cell? ⟨w.heap.size, (j + 1 + k) * 2, none⟩ = some (.int .i64 b0) := ⟨_, (hown.cellAt ((j + 1 + k) * 2) (by omega)).trans (ivs_at (els (fillK (tabN j) j k)) ((j + 1 + k) * 2) (by omega))⟩
            obtain ⟨b1, hc1⟩ : ∃ b0 : Int, wr.cell? ⟨w.heap.size, (j + 1 + k) * 2 + 1, none⟩ = some (.int .i64 b0) := ⟨_, (hown.cellAt ((j + 1 + k) * 2 + 1) (by omega)).trans (ivs_at (els (fillK (tabN j) j k)) ((j + 1 + k) * 2 + 1) (by omega))⟩
            have hz := hown.frozenAt ((j + 1 + k) * 2)
            have hz1 := hown.frozenAt ((j + 1 + k) * 2 + 1)
            have s1 := hown.stored ((j + 1 + k) * 2) (.int .i64 9)
            have s2 := s1.1.stored ((j + 1 + k) * 2 + 1) (.int .i64 j)
            have s21 := s2.1
            rw [ivs_set, ivs_set, els_set] at s21
            have hstep : fillK (tabN j) j (k + 1) = (fillK (tabN j) j k).set (j + 1 + k) (9, (j : Int)) := by
              have hs := HS.out
              rw [fillK, ← hs, show 9 - 9 = 0 from rfl, Nat.pow_zero, Nat.mul_one]
              rfl
            rw [← hstep] at s21
            have HO2 := Lib.hid s21; clear s1 s2 s21 hstep
            have HBL := Lib.hid hbel; clear hbel
            clear hel hfl htl hown
            go_wp2_with fail
            refine (HU.out _).mono ?_
            rintro e w' ⟨rfl, rfl⟩
            go_wp2
            go_roundw
            case rel => exact ⟨k + 1, by omega, by go_num, HO2.out, (HBL.out.setCell (Nat.le_refl _) _).setCell (Nat.le_refl _) _⟩
            case measure => simp [intOf]; omega
          · obtain rfl : k = 1 := by omega
            have HO2 := Lib.hid hown; clear hown
            have HBL := Lib.hid hbel; clear hbel
            go_wp2
            go_roundw
            case rel =>
              refine ⟨j + 1, by omega, by go_num, ?_, HBL.out⟩
              have hs := HS.out
              rw [tabN, ← hs]
              exact HO2.out
            case measure => simp [intOf]; omega
    · obtain rfl : j = 31 := by omega
      rw [ueSz_31] at HU
      rw [tabN_end] at hown
      go_wp2_with fail
      refine (HU.out _).mono ?_
      rintro e w' ⟨rfl, rfl⟩
      go_wp2
      go_ret
      exact ⟨_, _, rfl, hown, hbel⟩
end Go.Proofs.Ythiplncceglnhaa
