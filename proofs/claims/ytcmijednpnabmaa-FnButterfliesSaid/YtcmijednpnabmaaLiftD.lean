/-
  Contracts of the program's liftEight, which writes into its row. Conditions: the row is a part of a row that one owns; its numbers are any.
-/
import Derived.Test.YtcmijednpnabmaaLiftC
import Derived.BigRegion
namespace Go.Proofs.Ytcmijednpnabmaa
open Go.RowKit
set_option linter.unusedVariables false

theorem part_below {B g : Nat} {a b : World} (h : a.grownBy b (some g)) (hB : B ≤ g) (hs : B ≤ a.heap.size) : Below B a b := by
  refine ⟨h.os, h.tape, h.output, h.size, fun k hk => h.block k (Nat.lt_of_lt_of_le hk hs) fun e => ?_⟩
  cases e
  omega

set_option maxRecDepth 100000 in
set_option maxHeartbeats 8000000 in
theorem lift_eight_part (base g n cap o c : Nat) (L a : List Int) (hal : a.length = 8) (hL : L.length = n) (ho : o + 8 ≤ n) (hn : n ≤ 1000) (w : World) (hO : PartI w base g n cap L o a) :
    Calls Try.prog 40 #[.slice (some ⟨g, o, none⟩) 8 c] w fun e w' => e = .returned (.tuple #[]) ∧ PartI w' base g n cap L o (liR 8 a) ∧ w.grownBy w' (some g) := by
  have O0 := Lib.hid hO; have HAL := Lib.hid hal; have HL := Lib.hid hL
  clear hO hal hL
  go_enter Try.func40, Try.ntmps40
  go_wp2
  go_loopw [2] (fun w2 wr => ∃ (t : Nat) (W : Int), ((t = 0 ∧ W = 1) ∨ (t = 1 ∧ W = 2) ∨ (t = 2 ∧ W = 4) ∨ (t = 3 ∧ W = 8)) ∧ w2 = .int .i64 W ∧ PartI wr base g n cap L o (stA a t) ∧ w.grownBy wr (some g))
    (fun w2 _ => 8 - (intOf w2).toNat)
  case atStart => exact ⟨0, 1, .inl ⟨rfl, rfl⟩, rfl, O0.out, World.grownBy.refl _ _⟩
  case round =>
    obtain ⟨t, W, htW, rfl, hown, hbel⟩ := hrel
    have hal := HAL.out
    rcases htW with ⟨rfl, rfl⟩ | ⟨rfl, rfl⟩ | ⟨rfl, rfl⟩ | ⟨rfl, rfl⟩
    · -- 0
      have hql : (stA a 0).length = 8 := stA_len hal 0
      have HAL := Lib.hid hal
      obtain ⟨q, hq⟩ : ∃ q, q = stA a 0 := ⟨_, rfl⟩
      rw [← hq] at hown hql
      rw [← stW_start 1 hql] at hown
      have HQ := Lib.hid hq; have HO := Lib.hid hown; have HB := Lib.hid hbel
      clear hq hown hbel hal
      go_wp2
      go_loopw [12] (fun i wr => ∃ j : Nat, j ≤ 8 ∧ i = .int .i64 j ∧ PartI wr base g n cap L o (stW 1 q j) ∧ w.grownBy wr (some g))
        (fun i _ => 8 - (intOf i).toNat)
      case atStart => exact ⟨0, Nat.zero_le _, rfl, HO.out, HB.out⟩
      case round =>
        obtain ⟨j, hj, rfl, hown, hbel⟩ := hrel
        by_cases hlt : j < 8
        · have d1 : decide ((j : Int) < 8) = true := by simp; omega
          have ha := bit_and_1 j hlt
          by_cases hbit : j / 1 % 2 = 0
          · rw [hbit, Nat.zero_mul] at ha
            have ha : bits .and .i64 (j : Int) 1 = 0 := ha
            obtain ⟨hjw, hk1, hk2⟩ := stW_keep_1 q j hlt hbit
            have hst := stW_step_1 q j hlt hbit
            have hlen := stW_len 1 q j
            obtain ⟨p, hp⟩ : ∃ p, p = stW 1 q j := ⟨_, rfl⟩
            rw [← hp] at hown hk1 hk2 hst hlen
            have cl1 := hown.cell HL.out (by omega) j (by omega)
            have cl2 := hown.cell HL.out (by omega) (j + 1) (by omega)
            rw [hk1] at cl1
            rw [hk2] at cl2
            obtain ⟨x, hx⟩ : ∃ x, x = q.getD j 0 := ⟨_, rfl⟩
            obtain ⟨y, hy⟩ : ∃ y, y = q.getD (j + 1) 0 := ⟨_, rfl⟩
            rw [← hx] at cl1
            rw [← hy] at cl2
            rw [← hx, ← hy] at hst
            obtain ⟨u, hu⟩ : ∃ e, wrap64 (x + y) = e := ⟨_, rfl⟩
            obtain ⟨v, hv⟩ : ∃ e, wrap64 (x - y) = e := ⟨_, rfl⟩
            rw [hu, hv] at hst
            have hu2 : IntKind.i64.wrap (x + y) = u := by rw [← hu, IntKind.wrap_i64]; unfold wrap64; omega
            have hv2 : IntKind.i64.wrap (x - y) = v := by rw [← hv, IntKind.wrap_i64]; unfold wrap64; omega
            have hfz := hown.frozen j; have hfz2 := hown.frozen (j + 1)
            have s1 := hown.drew.store HL.out (by omega) j (by omega) u
            have s2 := s1.1.store HL.out (by rw [List.length_set]; omega) (j + 1) (by rw [List.length_set]; omega) v
            rw [hst] at s2
            have S1 := Lib.hid s2.1
            have S3 := Lib.hid (grown_trans (grown_trans (grown_trans hbel (part_drew wr (some g))) s1.2) s2.2)
            have hadd : IntKind.i64.wrap ((j : Int) + 1) = (j : Int) + 1 := IntWalk.i64_in _ (by omega)
            clear hx hy hp s1 s2 hown hbel hk1 hk2 hst hlen
            go_wp2
            go_region
            go_wp2
            go_roundw
            case rel => exact ⟨j + 1, by omega, by go_num, S1.out, S3.out⟩
            case measure => simp [intOf]; omega
          · have hsk := stW_skip_1 q j hlt hbit
            have hb1 : j / 1 % 2 = 1 := by omega
            rw [hb1] at ha
            have ha : bits .and .i64 (j : Int) 1 = 1 := ha
            rw [← hsk] at hown
            have S1 := Lib.hid hown; have S3 := Lib.hid hbel
            clear hown hbel hsk hb1 hbit
            go_wp2
            go_roundw
            case rel => exact ⟨j + 1, by omega, by go_num, S1.out, S3.out⟩
            case measure => simp [intOf]; omega
        · obtain rfl : j = 8 := by omega
          have S1 := Lib.hid hown; have S3 := Lib.hid hbel
          clear hown hbel
          go_wp2
          go_roundw
          case rel =>
            refine ⟨1, 2, by decide, by go_num, ?_, S3.out⟩
            have o := S1.out
            rw [HQ.out] at o
            exact o
          case measure => simp [intOf]
    · -- 1
      have hql : (stA a 1).length = 8 := stA_len hal 1
      have HAL := Lib.hid hal
      obtain ⟨q, hq⟩ : ∃ q, q = stA a 1 := ⟨_, rfl⟩
      rw [← hq] at hown hql
      rw [← stW_start 2 hql] at hown
      have HQ := Lib.hid hq; have HO := Lib.hid hown; have HB := Lib.hid hbel
      clear hq hown hbel hal
      go_wp2
      go_loopw [12] (fun i wr => ∃ j : Nat, j ≤ 8 ∧ i = .int .i64 j ∧ PartI wr base g n cap L o (stW 2 q j) ∧ w.grownBy wr (some g))
        (fun i _ => 8 - (intOf i).toNat)
      case atStart => exact ⟨0, Nat.zero_le _, rfl, HO.out, HB.out⟩
      case round =>
        obtain ⟨j, hj, rfl, hown, hbel⟩ := hrel
        by_cases hlt : j < 8
        · have d1 : decide ((j : Int) < 8) = true := by simp; omega
          have ha := bit_and_2 j hlt
          by_cases hbit : j / 2 % 2 = 0
          · rw [hbit, Nat.zero_mul] at ha
            have ha : bits .and .i64 (j : Int) 2 = 0 := ha
            obtain ⟨hjw, hk1, hk2⟩ := stW_keep_2 q j hlt hbit
            have hst := stW_step_2 q j hlt hbit
            have hlen := stW_len 2 q j
            obtain ⟨p, hp⟩ : ∃ p, p = stW 2 q j := ⟨_, rfl⟩
            rw [← hp] at hown hk1 hk2 hst hlen
            have cl1 := hown.cell HL.out (by omega) j (by omega)
            have cl2 := hown.cell HL.out (by omega) (j + 2) (by omega)
            rw [hk1] at cl1
            rw [hk2] at cl2
            obtain ⟨x, hx⟩ : ∃ x, x = q.getD j 0 := ⟨_, rfl⟩
            obtain ⟨y, hy⟩ : ∃ y, y = q.getD (j + 2) 0 := ⟨_, rfl⟩
            rw [← hx] at cl1
            rw [← hy] at cl2
            rw [← hx, ← hy] at hst
            obtain ⟨u, hu⟩ : ∃ e, wrap64 (x + y) = e := ⟨_, rfl⟩
            obtain ⟨v, hv⟩ : ∃ e, wrap64 (x - y) = e := ⟨_, rfl⟩
            rw [hu, hv] at hst
            have hu2 : IntKind.i64.wrap (x + y) = u := by rw [← hu, IntKind.wrap_i64]; unfold wrap64; omega
            have hv2 : IntKind.i64.wrap (x - y) = v := by rw [← hv, IntKind.wrap_i64]; unfold wrap64; omega
            have hfz := hown.frozen j; have hfz2 := hown.frozen (j + 2)
            have s1 := hown.drew.store HL.out (by omega) j (by omega) u
            have s2 := s1.1.store HL.out (by rw [List.length_set]; omega) (j + 2) (by rw [List.length_set]; omega) v
            rw [hst] at s2
            have S1 := Lib.hid s2.1
            have S3 := Lib.hid (grown_trans (grown_trans (grown_trans hbel (part_drew wr (some g))) s1.2) s2.2)
            have hadd : IntKind.i64.wrap ((j : Int) + 2) = (j : Int) + 2 := IntWalk.i64_in _ (by omega)
            clear hx hy hp s1 s2 hown hbel hk1 hk2 hst hlen
            go_wp2
            go_region
            go_wp2
            go_roundw
            case rel => exact ⟨j + 1, by omega, by go_num, S1.out, S3.out⟩
            case measure => simp [intOf]; omega
          · have hsk := stW_skip_2 q j hlt hbit
            have hb1 : j / 2 % 2 = 1 := by omega
            rw [hb1] at ha
            have ha : bits .and .i64 (j : Int) 2 = 2 := ha
            rw [← hsk] at hown
            have S1 := Lib.hid hown; have S3 := Lib.hid hbel
            clear hown hbel hsk hb1 hbit
            go_wp2
            go_roundw
            case rel => exact ⟨j + 1, by omega, by go_num, S1.out, S3.out⟩
            case measure => simp [intOf]; omega
        · obtain rfl : j = 8 := by omega
          have S1 := Lib.hid hown; have S3 := Lib.hid hbel
          clear hown hbel
          go_wp2
          go_roundw
          case rel =>
            refine ⟨2, 4, by decide, by go_num, ?_, S3.out⟩
            have o := S1.out
            rw [HQ.out] at o
            exact o
          case measure => simp [intOf]
    · -- 2
      have hql : (stA a 2).length = 8 := stA_len hal 2
      have HAL := Lib.hid hal
      obtain ⟨q, hq⟩ : ∃ q, q = stA a 2 := ⟨_, rfl⟩
      rw [← hq] at hown hql
      rw [← stW_start 4 hql] at hown
      have HQ := Lib.hid hq; have HO := Lib.hid hown; have HB := Lib.hid hbel
      clear hq hown hbel hal
      go_wp2
      go_loopw [12] (fun i wr => ∃ j : Nat, j ≤ 8 ∧ i = .int .i64 j ∧ PartI wr base g n cap L o (stW 4 q j) ∧ w.grownBy wr (some g))
        (fun i _ => 8 - (intOf i).toNat)
      case atStart => exact ⟨0, Nat.zero_le _, rfl, HO.out, HB.out⟩
      case round =>
        obtain ⟨j, hj, rfl, hown, hbel⟩ := hrel
        by_cases hlt : j < 8
        · have d1 : decide ((j : Int) < 8) = true := by simp; omega
          have ha := bit_and_4 j hlt
          by_cases hbit : j / 4 % 2 = 0
          · rw [hbit, Nat.zero_mul] at ha
            have ha : bits .and .i64 (j : Int) 4 = 0 := ha
            obtain ⟨hjw, hk1, hk2⟩ := stW_keep_4 q j hlt hbit
            have hst := stW_step_4 q j hlt hbit
            have hlen := stW_len 4 q j
            obtain ⟨p, hp⟩ : ∃ p, p = stW 4 q j := ⟨_, rfl⟩
            rw [← hp] at hown hk1 hk2 hst hlen
            have cl1 := hown.cell HL.out (by omega) j (by omega)
            have cl2 := hown.cell HL.out (by omega) (j + 4) (by omega)
            rw [hk1] at cl1
            rw [hk2] at cl2
            obtain ⟨x, hx⟩ : ∃ x, x = q.getD j 0 := ⟨_, rfl⟩
            obtain ⟨y, hy⟩ : ∃ y, y = q.getD (j + 4) 0 := ⟨_, rfl⟩
            rw [← hx] at cl1
            rw [← hy] at cl2
            rw [← hx, ← hy] at hst
            obtain ⟨u, hu⟩ : ∃ e, wrap64 (x + y) = e := ⟨_, rfl⟩
            obtain ⟨v, hv⟩ : ∃ e, wrap64 (x - y) = e := ⟨_, rfl⟩
            rw [hu, hv] at hst
            have hu2 : IntKind.i64.wrap (x + y) = u := by rw [← hu, IntKind.wrap_i64]; unfold wrap64; omega
            have hv2 : IntKind.i64.wrap (x - y) = v := by rw [← hv, IntKind.wrap_i64]; unfold wrap64; omega
            have hfz := hown.frozen j; have hfz2 := hown.frozen (j + 4)
            have s1 := hown.drew.store HL.out (by omega) j (by omega) u
            have s2 := s1.1.store HL.out (by rw [List.length_set]; omega) (j + 4) (by rw [List.length_set]; omega) v
            rw [hst] at s2
            have S1 := Lib.hid s2.1
            have S3 := Lib.hid (grown_trans (grown_trans (grown_trans hbel (part_drew wr (some g))) s1.2) s2.2)
            have hadd : IntKind.i64.wrap ((j : Int) + 4) = (j : Int) + 4 := IntWalk.i64_in _ (by omega)
            clear hx hy hp s1 s2 hown hbel hk1 hk2 hst hlen
            go_wp2
            go_region
            go_wp2
            go_roundw
            case rel => exact ⟨j + 1, by omega, by go_num, S1.out, S3.out⟩
            case measure => simp [intOf]; omega
          · have hsk := stW_skip_4 q j hlt hbit
            have hb1 : j / 4 % 2 = 1 := by omega
            rw [hb1] at ha
            have ha : bits .and .i64 (j : Int) 4 = 4 := ha
            rw [← hsk] at hown
            have S1 := Lib.hid hown; have S3 := Lib.hid hbel
            clear hown hbel hsk hb1 hbit
            go_wp2
            go_roundw
            case rel => exact ⟨j + 1, by omega, by go_num, S1.out, S3.out⟩
            case measure => simp [intOf]; omega
        · obtain rfl : j = 8 := by omega
          have S1 := Lib.hid hown; have S3 := Lib.hid hbel
          clear hown hbel
          go_wp2
          go_roundw
          case rel =>
            refine ⟨3, 8, by decide, by go_num, ?_, S3.out⟩
            have o := S1.out
            rw [HQ.out] at o
            exact o
          case measure => simp [intOf]
    · -- 3
      have HE := stA_end a hal
      rw [HE] at hown
      have S1 := Lib.hid hown; have S3 := Lib.hid hbel
      clear hown hbel HE hal
      go_wp2
      go_end0
      exact ⟨rfl, S1.out, S3.out⟩
end Go.Proofs.Ytcmijednpnabmaa
