/-
  Contracts of the model's Columns, l13Rows, l13Both, Fast4 and Fast8. Condition: a slice is no longer than it holds.
-/
import Derived.Test.YtcmijednpnabmaaLiftA
import Derived.Test.YtcmijednpnabmaaLiftQ
import Derived.Test.YtcmijednpnabmaaFitsM
namespace Go.Proofs.Ytcmijednpnabmaa
open Go.RowKit
set_option linter.unusedVariables false

set_option maxRecDepth 100000 in
set_option maxHeartbeats 2000000 in
theorem spec_columns_16 (A : Option Addr) (ca : Nat) (l : List Int) (hl : l.length = 16) (w : World) (hA : Ints w w.heap.size A l) :
    Calls Try.prog 20 #[.slice A 16 ca] w fun e w' => ∃ A' c, e = .returned (.slice A' 16 c) ∧ OwnI w' w.heap.size A' c (colL 4 l) ∧ Below w.heap.size w w' := by
  obtain ⟨i0, hi, hz0, hz1, hz2⟩ := info_parts Try.iinfo
  obtain ⟨lb, loff, rfl, hlb, hlc⟩ := hA.at 0 (by omega)
  have HL := Lib.hid hlc; have HLL := Lib.hid hl
  have SI := Lib.hid (spec_side_any (some ⟨lb, loff, none⟩) ca 16)
  rw [show sideN 16 = 4 by rfl] at SI
  have O0 := Lib.hid (own_ints w w.heap.size [] (Nat.le_refl _) (by simp))
  have B0 := Lib.hid ((Below.refl w.heap.size w).alloc (Nat.le_refl _) (.cells (ivs []).toArray 3))
  have HNX := Lib.hid fun y x (hy : y < 4) (hx : x < 4) => colL_next l hy hx
  have HCL := Lib.hid (colL_len 4 l)
  obtain ⟨C, hC⟩ : ∃ C, C = colL 4 l := ⟨_, rfl⟩
  rw [← hC] at HNX HCL ⊢
  clear hC hlc hl hA
  go_enter Try.func20, Try.ntmps20
  go_wp2_with fail
  refine (SI.out _).mono ?_
  rintro e w1 ⟨rfl, hw⟩
  subst hw
  go_wp2
  go_loopw [4, 5, 6] (fun v x5 x6 wr => ∃ y : Nat, y ≤ 4 ∧ x5 = .int .i64 y ∧ wr.ownsRow w.heap.size 3 1 v (y * 4) (ivs (C.take (y * 4))) ∧ Below w.heap.size w wr)
    (fun _ x5 _ _ => 4 - (intOf x5).toNat)
  case atStart => exact ⟨0, Nat.zero_le _, rfl, O0.out, B0.out⟩
  case round =>
    obtain ⟨y, hyN, rfl, hown, hbel⟩ := hrel
    have HO := Lib.hid hown; have HB := Lib.hid hbel
    clear hown hbel
    by_cases hly : y < 4
    · have d1 : decide ((y : Int) < 4) = true := by simp; omega
      go_wp2
      go_loopw [4, 6] (fun v x6 wr => ∃ x : Nat, x ≤ 4 ∧ x6 = .int .i64 x ∧ wr.ownsRow w.heap.size 3 1 v (y * 4 + x) (ivs (C.take (y * 4 + x))) ∧ Below w.heap.size w wr)
        (fun _ x6 _ => 4 - (intOf x6).toNat)
      case atStart => exact ⟨0, Nat.zero_le _, rfl, HO.out, HB.out⟩
      case round =>
        obtain ⟨x, hxN, rfl, hown, hbel⟩ := hrel
        by_cases hlx : x < 4
        · have d2 : decide ((x : Int) < 4) = true := by simp; omega
          have cl := HL.out (x * 4 + y) (by rw [HLL.out]; omega)
          rw [← hbel.cell (p := ⟨lb, loff + (x * 4 + y), none⟩) hlb] at cl
          have hnx := HNX.out y x hly hlx
          obtain ⟨u, hu⟩ : ∃ u, u = l.getD (x * 4 + y) 0 := ⟨_, rfl⟩
          rw [← hu] at cl hnx
          have HX := Lib.hid hnx; have HBB := Lib.hid hbel; have O3 := hown
          clear hu hnx hown hbel
          go_wp2_with (at_builtin; refine append_int wr rfl (.tmp 20) (.tmp 29) 22 rfl w.heap.size 3 i0 Try.underlying22 hi hz0 hz1 hz2 _ _ _ rfl O3 _ rfl rfl (by omega) HBB.out.size ?_; intro v' w' hown' hgr hvb)
          have HO' := Lib.hid hown'; have HG := Lib.hid hgr; have HL' := Lib.hid O3.lt
          clear hown' hgr hvb O3
          go_roundw
          case rel => exact ⟨x + 1, by omega, by go_num, by rw [HX.out]; exact HO'.out, HBB.out.grown HG.out HBB.out.size fun k hk => (HL'.out k hk).1⟩
          case measure => simp [intOf]; omega
        · obtain rfl : x = 4 := by omega
          have O3 := Lib.hid hown; have B3 := Lib.hid hbel
          clear hown hbel
          go_wp2
          go_roundw
          case rel => exact ⟨y + 1, by omega, by go_num, by rw [Nat.add_mul]; exact O3.out, B3.out⟩
          case measure => simp [intOf]; omega
    · obtain rfl : y = 4 := by omega
      have e1 : C.take (4 * 4) = C := List.take_of_length_le (by rw [HCL.out]; exact Nat.le_refl _)
      have o := HO.out
      rw [e1] at o
      obtain ⟨A3, c3, hv3, ho3⟩ := own_slice o
      rw [HCL.out] at hv3
      subst hv3
      have O3 := Lib.hid ho3
      clear o ho3 e1
      go_wp2
      go_ret
      exact ⟨_, _, rfl, O3.out, HB.out⟩

set_option maxRecDepth 100000 in
set_option maxHeartbeats 2000000 in
theorem spec_columns_64 (A : Option Addr) (ca : Nat) (l : List Int) (hl : l.length = 64) (w : World) (hA : Ints w w.heap.size A l) :
    Calls Try.prog 20 #[.slice A 64 ca] w fun e w' => ∃ A' c, e = .returned (.slice A' 64 c) ∧ OwnI w' w.heap.size A' c (colL 8 l) ∧ Below w.heap.size w w' := by
  obtain ⟨i0, hi, hz0, hz1, hz2⟩ := info_parts Try.iinfo
  obtain ⟨lb, loff, rfl, hlb, hlc⟩ := hA.at 0 (by omega)
  have HL := Lib.hid hlc; have HLL := Lib.hid hl
  have SI := Lib.hid (spec_side_any (some ⟨lb, loff, none⟩) ca 64)
  rw [show sideN 64 = 8 by rfl] at SI
  have O0 := Lib.hid (own_ints w w.heap.size [] (Nat.le_refl _) (by simp))
  have B0 := Lib.hid ((Below.refl w.heap.size w).alloc (Nat.le_refl _) (.cells (ivs []).toArray 3))
  have HNX := Lib.hid fun y x (hy : y < 8) (hx : x < 8) => colL_next l hy hx
  have HCL := Lib.hid (colL_len 8 l)
  obtain ⟨C, hC⟩ : ∃ C, C = colL 8 l := ⟨_, rfl⟩
  rw [← hC] at HNX HCL ⊢
  clear hC hlc hl hA
  go_enter Try.func20, Try.ntmps20
  go_wp2_with fail
  refine (SI.out _).mono ?_
  rintro e w1 ⟨rfl, hw⟩
  subst hw
  go_wp2
  go_loopw [4, 5, 6] (fun v x5 x6 wr => ∃ y : Nat, y ≤ 8 ∧ x5 = .int .i64 y ∧ wr.ownsRow w.heap.size 3 1 v (y * 8) (ivs (C.take (y * 8))) ∧ Below w.heap.size w wr)
    (fun _ x5 _ _ => 8 - (intOf x5).toNat)
  case atStart => exact ⟨0, Nat.zero_le _, rfl, O0.out, B0.out⟩
  case round =>
    obtain ⟨y, hyN, rfl, hown, hbel⟩ := hrel
    have HO := Lib.hid hown; have HB := Lib.hid hbel
    clear hown hbel
    by_cases hly : y < 8
    · have d1 : decide ((y : Int) < 8) = true := by simp; omega
      go_wp2
      go_loopw [4, 6] (fun v x6 wr => ∃ x : Nat, x ≤ 8 ∧ x6 = .int .i64 x ∧ wr.ownsRow w.heap.size 3 1 v (y * 8 + x) (ivs (C.take (y * 8 + x))) ∧ Below w.heap.size w wr)
        (fun _ x6 _ => 8 - (intOf x6).toNat)
      case atStart => exact ⟨0, Nat.zero_le _, rfl, HO.out, HB.out⟩
      case round =>
        obtain ⟨x, hxN, rfl, hown, hbel⟩ := hrel
        by_cases hlx : x < 8
        · have d2 : decide ((x : Int) < 8) = true := by simp; omega
          have cl := HL.out (x * 8 + y) (by rw [HLL.out]; omega)
          rw [← hbel.cell (p := ⟨lb, loff + (x * 8 + y), none⟩) hlb] at cl
          have hnx := HNX.out y x hly hlx
          obtain ⟨u, hu⟩ : ∃ u, u = l.getD (x * 8 + y) 0 := ⟨_, rfl⟩
          rw [← hu] at cl hnx
          have HX := Lib.hid hnx; have HBB := Lib.hid hbel; have O3 := hown
          clear hu hnx hown hbel
          go_wp2_with (at_builtin; refine append_int wr rfl (.tmp 20) (.tmp 29) 22 rfl w.heap.size 3 i0 Try.underlying22 hi hz0 hz1 hz2 _ _ _ rfl O3 _ rfl rfl (by omega) HBB.out.size ?_; intro v' w' hown' hgr hvb)
          have HO' := Lib.hid hown'; have HG := Lib.hid hgr; have HL' := Lib.hid O3.lt
          clear hown' hgr hvb O3
          go_roundw
          case rel => exact ⟨x + 1, by omega, by go_num, by rw [HX.out]; exact HO'.out, HBB.out.grown HG.out HBB.out.size fun k hk => (HL'.out k hk).1⟩
          case measure => simp [intOf]; omega
        · obtain rfl : x = 8 := by omega
          have O3 := Lib.hid hown; have B3 := Lib.hid hbel
          clear hown hbel
          go_wp2
          go_roundw
          case rel => exact ⟨y + 1, by omega, by go_num, by rw [Nat.add_mul]; exact O3.out, B3.out⟩
          case measure => simp [intOf]; omega
    · obtain rfl : y = 8 := by omega
      have e1 : C.take (8 * 8) = C := List.take_of_length_le (by rw [HCL.out]; exact Nat.le_refl _)
      have o := HO.out
      rw [e1] at o
      obtain ⟨A3, c3, hv3, ho3⟩ := own_slice o
      rw [HCL.out] at hv3
      subst hv3
      have O3 := Lib.hid ho3
      clear o ho3 e1
      go_wp2
      go_ret
      exact ⟨_, _, rfl, O3.out, HB.out⟩

set_option maxRecDepth 100000 in
set_option maxHeartbeats 1000000 in
theorem spec_columns_any (A : Option Addr) (ca : Nat) (l : List Int) (w : World) (hA : Ints w w.heap.size A l) :
    Calls Try.prog 20 #[.slice A l.length ca] w fun e w' => ∃ A' c, e = .returned (.slice A' (clR l).length c) ∧ OwnI w' w.heap.size A' c (clR l) ∧ Below w.heap.size w w' := by
  by_cases h1 : l.length = 16
  · rw [clR_four h1, colL_len, h1]; exact spec_columns_16 A ca l h1 w hA
  · by_cases h2 : l.length = 64
    · rw [clR_eight h2, colL_len, h2]; exact spec_columns_64 A ca l h2 w hA
    · rw [clR_no h1 h2]
      have SI := Lib.hid (spec_side_any A ca l.length)
      rw [show sideN l.length = 0 by unfold sideN; rw [if_neg h1, if_neg h2]] at SI
      have OL := Lib.hid (own_list13 w w [] (Below.refl _ _) (by simp))
      have hnm := hA.1
      obtain ⟨n, hn⟩ : ∃ n, n = l.length := ⟨_, rfl⟩
      rw [← hn] at SI hnm ⊢
      clear hn h1 h2 hA
      go_enter Try.func20, Try.ntmps20
      go_wp2_with fail
      refine (SI.out _).mono ?_
      rintro e w1 ⟨rfl, hw⟩
      subst hw
      go_wp2
      go_loopw [4, 5, 6] (fun v x5 x6 wr => v = .slice (some ⟨w.heap.size, 0, none⟩) 0 0 ∧ x5 = .int .i64 0 ∧ OwnI wr w.heap.size (some ⟨w.heap.size, 0, none⟩) 0 [] ∧ Below w.heap.size w wr)
        (fun _ _ _ _ => 0)
      case atStart => exact ⟨rfl, rfl, OL.out.1, OL.out.2⟩
      case round =>
        obtain ⟨rfl, rfl, ho, hb⟩ := hrel
        have O1 := Lib.hid ho; have B1 := Lib.hid hb; clear ho hb
        go_wp2
        go_ret
        exact ⟨_, _, rfl, O1.out, B1.out⟩

set_option maxRecDepth 100000 in
set_option maxHeartbeats 2000000 in
theorem l13rows_4 (A : Option Addr) (ca : Nat) (l : List Int) (hl : l.length = 16) (hc : 16 ≤ ca) (hel : ∀ i, i < 16 → -20000000000 ≤ l.getD i 0 ∧ l.getD i 0 ≤ 20000000000) (w : World) (hA : Ints w w.heap.size A l) :
    Calls Try.prog 56 #[.slice A 16 ca, .int .i64 4] w fun e w' => ∃ A' c, e = .returned (.slice A' 16 c) ∧ OwnI w' w.heap.size A' c (rowsL 4 l) ∧ Below w.heap.size w w' := by
  obtain ⟨i0, hi, hz0, hz1, hz2⟩ := info_parts Try.iinfo
  obtain ⟨lb, loff, rfl, hlb, hlc⟩ := hA.at 0 (by omega)
  have HL := Lib.hid hlc; have HLL := Lib.hid hl
  have LF := Lib.hid spec_lift4_four
  have O0 := Lib.hid (own_ints w w.heap.size [] (Nat.le_refl _) (by simp))
  have B0 := Lib.hid ((Below.refl w.heap.size w).alloc (Nat.le_refl _) (.cells (ivs []).toArray 3))
  have HNX := Lib.hid fun y (hy : y < 4) => rows_next (n := 4) (by decide) hl hel hy
  have HCL := Lib.hid (rowsL_len 4 l)
  obtain ⟨C, hC⟩ : ∃ C, C = rowsL 4 l := ⟨_, rfl⟩
  rw [← hC] at HNX HCL ⊢
  clear hC hlc hl hA hel
  go_enter Try.func56, Try.ntmps56
  go_wp2
  go_loopw [5, 6] (fun v x6 wr => ∃ y : Nat, y ≤ 4 ∧ x6 = .int .i64 y ∧ wr.ownsRow w.heap.size 3 1 v (y * 4) (ivs (C.take (y * 4))) ∧ Below w.heap.size w wr)
    (fun _ x6 _ => 4 - (intOf x6).toNat)
  case atStart => exact ⟨0, Nat.zero_le _, rfl, O0.out, B0.out⟩
  case round =>
    obtain ⟨y, hyN, rfl, hown, hbel⟩ := hrel
    by_cases hly : y < 4
    · have d1 : decide ((y : Int) < 4) = true := by simp; omega
      have hrow := ints_row (w := wr) (g := wr.heap.size) (n := 4) (b := lb) (off := loff) (l := l) (y := y) (by decide) HLL.out hly (Nat.lt_of_lt_of_le hlb hbel.size) (fun j hj => by rw [hbel.cell (p := ⟨lb, loff + j, none⟩) hlb]; exact HL.out j hj)
      have hrl := rowV_len (n := 4) HLL.out hly
      have hnx := HNX.out y hly
      obtain ⟨r, hr⟩ : ∃ r, r = rowV 4 l y := ⟨_, rfl⟩
      rw [← hr] at hrow hrl hnx
      have LX := Lib.hid (LF.out (some ⟨lb, loff + y * 4, none⟩) (ca - y * 4) r hrl wr hrow)
      have hfl := liR_full hrl
      obtain ⟨z, hz⟩ : ∃ z, z = liR 4 r := ⟨_, rfl⟩
      rw [← hz] at LX hnx hfl
      have HX := Lib.hid hnx; have HO := Lib.hid hown; have HB := Lib.hid hbel
      clear hr hz hrow hrl hnx hown hbel
      go_wp2_with fail
      refine LX.out.mono ?_
      rintro e w1 ⟨A1, c1, rfl, ho1, hb1⟩
      have O2 := own_keep HO.out hb1
      have B2 := below_up HB.out hb1 HB.out.size
      have I2 := ho1.ints (by omega)
      have P2 := ho1.placed
      clear ho1 hb1
      go_wp2_with (at_builtin; refine append_ints rfl (.tmp 15) (.tmp 26) 22 rfl w i0 Try.underlying22 hi hz0 hz1 hz2 _ _ _ rfl O2 _ _ _ z hfl.symm rfl _ I2 P2 (by omega) B2 ?_; intro v' w3 hown3 hb3)
      go_roundw
      case rel => exact ⟨y + 1, by omega, by go_num, by rw [show (y + 1) * 4 = y * 4 + 4 by omega, HX.out]; exact hown3, hb3⟩
      case measure => simp [intOf]; omega
    · obtain rfl : y = 4 := by omega
      have e1 : C.take (4 * 4) = C := List.take_of_length_le (by rw [HCL.out]; exact Nat.le_refl _)
      rw [e1] at hown
      obtain ⟨A3, c3, hv3, ho3⟩ := own_slice hown
      rw [HCL.out] at hv3
      subst hv3
      have O3 := Lib.hid ho3; have B3 := Lib.hid hbel
      clear hown hbel ho3 e1
      go_wp2
      go_ret
      exact ⟨_, _, rfl, O3.out, B3.out⟩

set_option maxRecDepth 100000 in
set_option maxHeartbeats 2000000 in
theorem l13rows_8 (A : Option Addr) (ca : Nat) (l : List Int) (hl : l.length = 64) (hc : 64 ≤ ca) (hel : ∀ i, i < 64 → -20000000000 ≤ l.getD i 0 ∧ l.getD i 0 ≤ 20000000000) (w : World) (hA : Ints w w.heap.size A l) :
    Calls Try.prog 56 #[.slice A 64 ca, .int .i64 8] w fun e w' => ∃ A' c, e = .returned (.slice A' 64 c) ∧ OwnI w' w.heap.size A' c (rowsL 8 l) ∧ Below w.heap.size w w' := by
  obtain ⟨i0, hi, hz0, hz1, hz2⟩ := info_parts Try.iinfo
  obtain ⟨lb, loff, rfl, hlb, hlc⟩ := hA.at 0 (by omega)
  have HL := Lib.hid hlc; have HLL := Lib.hid hl
  have LF := Lib.hid spec_lift8_eight
  have O0 := Lib.hid (own_ints w w.heap.size [] (Nat.le_refl _) (by simp))
  have B0 := Lib.hid ((Below.refl w.heap.size w).alloc (Nat.le_refl _) (.cells (ivs []).toArray 3))
  have HNX := Lib.hid fun y (hy : y < 8) => rows_next (n := 8) (by decide) hl hel hy
  have HCL := Lib.hid (rowsL_len 8 l)
  obtain ⟨C, hC⟩ : ∃ C, C = rowsL 8 l := ⟨_, rfl⟩
  rw [← hC] at HNX HCL ⊢
  clear hC hlc hl hA hel
  go_enter Try.func56, Try.ntmps56
  go_wp2
  go_loopw [5, 6] (fun v x6 wr => ∃ y : Nat, y ≤ 8 ∧ x6 = .int .i64 y ∧ wr.ownsRow w.heap.size 3 1 v (y * 8) (ivs (C.take (y * 8))) ∧ Below w.heap.size w wr)
    (fun _ x6 _ => 8 - (intOf x6).toNat)
  case atStart => exact ⟨0, Nat.zero_le _, rfl, O0.out, B0.out⟩
  case round =>
    obtain ⟨y, hyN, rfl, hown, hbel⟩ := hrel
    by_cases hly : y < 8
    · have d1 : decide ((y : Int) < 8) = true := by simp; omega
      have hrow := ints_row (w := wr) (g := wr.heap.size) (n := 8) (b := lb) (off := loff) (l := l) (y := y) (by decide) HLL.out hly (Nat.lt_of_lt_of_le hlb hbel.size) (fun j hj => by rw [hbel.cell (p := ⟨lb, loff + j, none⟩) hlb]; exact HL.out j hj)
      have hrl := rowV_len (n := 8) HLL.out hly
      have hnx := HNX.out y hly
      obtain ⟨r, hr⟩ : ∃ r, r = rowV 8 l y := ⟨_, rfl⟩
      rw [← hr] at hrow hrl hnx
      have LX := Lib.hid (LF.out (some ⟨lb, loff + y * 8, none⟩) (ca - y * 8) r hrl wr hrow)
      have hfl := liR_full hrl
      obtain ⟨z, hz⟩ : ∃ z, z = liR 8 r := ⟨_, rfl⟩
      rw [← hz] at LX hnx hfl
      have HX := Lib.hid hnx; have HO := Lib.hid hown; have HB := Lib.hid hbel
      clear hr hz hrow hrl hnx hown hbel
      go_wp2_with fail
      refine LX.out.mono ?_
      rintro e w1 ⟨A1, c1, rfl, ho1, hb1⟩
      have O2 := own_keep HO.out hb1
      have B2 := below_up HB.out hb1 HB.out.size
      have I2 := ho1.ints (by omega)
      have P2 := ho1.placed
      clear ho1 hb1
      go_wp2_with (at_builtin; refine append_ints rfl (.tmp 28) (.tmp 39) 22 rfl w i0 Try.underlying22 hi hz0 hz1 hz2 _ _ _ rfl O2 _ _ _ z hfl.symm rfl _ I2 P2 (by omega) B2 ?_; intro v' w3 hown3 hb3)
      go_roundw
      case rel => exact ⟨y + 1, by omega, by go_num, by rw [show (y + 1) * 8 = y * 8 + 8 by omega, HX.out]; exact hown3, hb3⟩
      case measure => simp [intOf]; omega
    · obtain rfl : y = 8 := by omega
      have e1 : C.take (8 * 8) = C := List.take_of_length_le (by rw [HCL.out]; exact Nat.le_refl _)
      rw [e1] at hown
      obtain ⟨A3, c3, hv3, ho3⟩ := own_slice hown
      rw [HCL.out] at hv3
      subst hv3
      have O3 := Lib.hid ho3; have B3 := Lib.hid hbel
      clear hown hbel ho3 e1
      go_wp2
      go_ret
      exact ⟨_, _, rfl, O3.out, B3.out⟩

set_option maxRecDepth 100000 in
set_option maxHeartbeats 1000000 in
theorem l13both_4 (A : Option Addr) (ca : Nat) (l : List Int) (hc : l.length ≤ ca) (w : World) (hA : Ints w w.heap.size A l) :
    Calls Try.prog 44 #[.slice A l.length ca, .int .i64 4] w fun e w' => ∃ A' c, e = .returned (.slice A' (xfR 4 true l).length c) ∧ OwnI w' w.heap.size A' c (xfR 4 true l) ∧ Below w.heap.size w w' := by
  have FI := Lib.hid (l12fits_4 A ca l w hA)
  cases hf : fitL 4 l with
  | false =>
    rw [hf] at FI
    rw [xfR_unfit true hf]
    have OL := Lib.hid (own_list13 w w [] (Below.refl _ _) (by simp))
    obtain ⟨n, hn⟩ : ∃ n, n = l.length := ⟨_, rfl⟩
    rw [← hn] at FI ⊢
    clear hA hf hn hc
    go_enter Try.func44, Try.ntmps44
    go_wp2_with fail
    refine FI.out.mono ?_
    rintro e w1 ⟨rfl, hw⟩
    subst hw
    go_wp2
    go_ret
    exact ⟨_, _, rfl, OL.out.1, OL.out.2⟩
  | true =>
    rw [hf] at FI
    have hl : l.length = 16 := fitL_len hf
    have hel := fitL_at hf
    rw [← fast_fit hf, colL_len]
    have l1 := rowsL_len 4 l; have l2 := colL_len 4 (rowsL 4 l); have l3 := rowsL_len 4 (colL 4 (rowsL 4 l))
    have R1 := Lib.hid (l13rows_4 A ca l hl (by omega) (fun i hi => by have := hel i hi; omega) w hA)
    have C1 := Lib.hid fun A c w h => spec_columns_16 A c (rowsL 4 l) l1 w h
    have R2 := Lib.hid fun A c w hc h => l13rows_4 A c (colL 4 (rowsL 4 l)) l2 hc (fun i hi => by
      have := cols_bound (rows_bound (n := 4) (by decide) (B := 1000000000) (by decide) hel) i hi
      omega) w h
    have C2 := Lib.hid fun A c w h => spec_columns_16 A c (rowsL 4 (colL 4 (rowsL 4 l))) l3 w h
    obtain ⟨p4, h4⟩ : ∃ p, p = colL 4 (rowsL 4 (colL 4 (rowsL 4 l))) := ⟨_, rfl⟩
    obtain ⟨p3, h3⟩ : ∃ p, p = rowsL 4 (colL 4 (rowsL 4 l)) := ⟨_, rfl⟩
    obtain ⟨p2, h2⟩ : ∃ p, p = colL 4 (rowsL 4 l) := ⟨_, rfl⟩
    obtain ⟨p1, h1⟩ : ∃ p, p = rowsL 4 l := ⟨_, rfl⟩
    rw [← h4] at C2 ⊢
    rw [← h3] at C2 R2 l3
    rw [← h2] at C1 R2 l2
    rw [← h1] at C1 R1 l1
    rw [hl] at FI ⊢
    clear hA hf hl hel h1 h2 h3 h4
    go_enter Try.func44, Try.ntmps44
    go_wp2_with fail
    refine FI.out.mono ?_
    rintro e w1 ⟨rfl, hw⟩
    subst hw
    go_wp2_with fail
    refine R1.out.mono ?_
    rintro e w1 ⟨A1, c1, rfl, ho1, hb1⟩
    have O1 := Lib.hid ho1; have B1 := Lib.hid hb1
    clear ho1 hb1
    go_wp2_with fail
    refine (C1.out _ _ _ (O1.out.ints (by omega))).mono ?_
    rintro e w2 ⟨A2, c2, rfl, ho2, hb2⟩
    have O2 := Lib.hid ho2; have B2 := Lib.hid (below_up B1.out hb2 B1.out.size)
    have K2 := ho2.cap_le
    clear ho2 hb2
    go_wp2_with fail
    refine (R2.out _ _ _ (by omega) (O2.out.ints (by omega))).mono ?_
    rintro e w3 ⟨A3, c3, rfl, ho3, hb3⟩
    have O3 := Lib.hid ho3; have B3 := Lib.hid (below_up B2.out hb3 B2.out.size)
    clear ho3 hb3
    go_wp2_with fail
    refine (C2.out _ _ _ (O3.out.ints (by omega))).mono ?_
    rintro e w4 ⟨A4, c4, rfl, ho4, hb4⟩
    have O4 := Lib.hid (own_lower ho4 B3.out.size); have B4 := Lib.hid (below_up B3.out hb4 B3.out.size)
    clear ho4 hb4
    go_wp2
    go_ret
    exact ⟨_, _, rfl, O4.out, B4.out⟩
set_option maxRecDepth 100000 in
set_option maxHeartbeats 1000000 in
theorem spec_fast4_any (A : Option Addr) (ca : Nat) (l : List Int) (w : World) (hA : Ints w w.heap.size A l) (hc : l.length ≤ ca) :
    Calls Try.prog 22 #[.slice A l.length ca] w fun e w' => ∃ A' c, e = .returned (.slice A' (xfR 4 true l).length c) ∧ OwnI w' w.heap.size A' c (xfR 4 true l) ∧ Below w.heap.size w w' := by
  have SO := Lib.hid (l13both_4 A ca l hc w hA)
  obtain ⟨z, hz⟩ : ∃ z, z = xfR 4 true l := ⟨_, rfl⟩
  rw [← hz] at SO ⊢
  obtain ⟨n, hn⟩ : ∃ n, n = l.length := ⟨_, rfl⟩
  rw [← hn] at SO ⊢
  clear hA hz hn hc
  go_enter Try.func22, Try.ntmps22
  go_wp2_with fail
  refine SO.out.mono ?_
  rintro e w1 ⟨A1, c1, rfl, ho1, hb1⟩
  have O1 := Lib.hid ho1; have B1 := Lib.hid hb1
  clear ho1 hb1
  go_wp2
  go_ret
  exact ⟨_, _, rfl, O1.out, B1.out⟩

set_option maxRecDepth 100000 in
set_option maxHeartbeats 1000000 in
theorem l13both_8 (A : Option Addr) (ca : Nat) (l : List Int) (hc : l.length ≤ ca) (w : World) (hA : Ints w w.heap.size A l) :
    Calls Try.prog 44 #[.slice A l.length ca, .int .i64 8] w fun e w' => ∃ A' c, e = .returned (.slice A' (xfR 8 true l).length c) ∧ OwnI w' w.heap.size A' c (xfR 8 true l) ∧ Below w.heap.size w w' := by
  have FI := Lib.hid (l12fits_8 A ca l w hA)
  cases hf : fitL 8 l with
  | false =>
    rw [hf] at FI
    rw [xfR_unfit true hf]
    have OL := Lib.hid (own_list13 w w [] (Below.refl _ _) (by simp))
    obtain ⟨n, hn⟩ : ∃ n, n = l.length := ⟨_, rfl⟩
    rw [← hn] at FI ⊢
    clear hA hf hn hc
    go_enter Try.func44, Try.ntmps44
    go_wp2_with fail
    refine FI.out.mono ?_
    rintro e w1 ⟨rfl, hw⟩
    subst hw
    go_wp2
    go_ret
    exact ⟨_, _, rfl, OL.out.1, OL.out.2⟩
  | true =>
    rw [hf] at FI
    have hl : l.length = 64 := fitL_len hf
    have hel := fitL_at hf
    rw [← fast_fit hf, colL_len]
    have l1 := rowsL_len 8 l; have l2 := colL_len 8 (rowsL 8 l); have l3 := rowsL_len 8 (colL 8 (rowsL 8 l))
    have R1 := Lib.hid (l13rows_8 A ca l hl (by omega) (fun i hi => by have := hel i hi; omega) w hA)
    have C1 := Lib.hid fun A c w h => spec_columns_64 A c (rowsL 8 l) l1 w h
    have R2 := Lib.hid fun A c w hc h => l13rows_8 A c (colL 8 (rowsL 8 l)) l2 hc (fun i hi => by
      have := cols_bound (rows_bound (n := 8) (by decide) (B := 1000000000) (by decide) hel) i hi
      omega) w h
    have C2 := Lib.hid fun A c w h => spec_columns_64 A c (rowsL 8 (colL 8 (rowsL 8 l))) l3 w h
    obtain ⟨p4, h4⟩ : ∃ p, p = colL 8 (rowsL 8 (colL 8 (rowsL 8 l))) := ⟨_, rfl⟩
    obtain ⟨p3, h3⟩ : ∃ p, p = rowsL 8 (colL 8 (rowsL 8 l)) := ⟨_, rfl⟩
    obtain ⟨p2, h2⟩ : ∃ p, p = colL 8 (rowsL 8 l) := ⟨_, rfl⟩
    obtain ⟨p1, h1⟩ : ∃ p, p = rowsL 8 l := ⟨_, rfl⟩
    rw [← h4] at C2 ⊢
    rw [← h3] at C2 R2 l3
    rw [← h2] at C1 R2 l2
    rw [← h1] at C1 R1 l1
    rw [hl] at FI ⊢
    clear hA hf hl hel h1 h2 h3 h4
    go_enter Try.func44, Try.ntmps44
    go_wp2_with fail
    refine FI.out.mono ?_
    rintro e w1 ⟨rfl, hw⟩
    subst hw
    go_wp2_with fail
    refine R1.out.mono ?_
    rintro e w1 ⟨A1, c1, rfl, ho1, hb1⟩
    have O1 := Lib.hid ho1; have B1 := Lib.hid hb1
    clear ho1 hb1
    go_wp2_with fail
    refine (C1.out _ _ _ (O1.out.ints (by omega))).mono ?_
    rintro e w2 ⟨A2, c2, rfl, ho2, hb2⟩
    have O2 := Lib.hid ho2; have B2 := Lib.hid (below_up B1.out hb2 B1.out.size)
    have K2 := ho2.cap_le
    clear ho2 hb2
    go_wp2_with fail
    refine (R2.out _ _ _ (by omega) (O2.out.ints (by omega))).mono ?_
    rintro e w3 ⟨A3, c3, rfl, ho3, hb3⟩
    have O3 := Lib.hid ho3; have B3 := Lib.hid (below_up B2.out hb3 B2.out.size)
    clear ho3 hb3
    go_wp2_with fail
    refine (C2.out _ _ _ (O3.out.ints (by omega))).mono ?_
    rintro e w4 ⟨A4, c4, rfl, ho4, hb4⟩
    have O4 := Lib.hid (own_lower ho4 B3.out.size); have B4 := Lib.hid (below_up B3.out hb4 B3.out.size)
    clear ho4 hb4
    go_wp2
    go_ret
    exact ⟨_, _, rfl, O4.out, B4.out⟩
set_option maxRecDepth 100000 in
set_option maxHeartbeats 1000000 in
theorem spec_fast8_any (A : Option Addr) (ca : Nat) (l : List Int) (w : World) (hA : Ints w w.heap.size A l) (hc : l.length ≤ ca) :
    Calls Try.prog 24 #[.slice A l.length ca] w fun e w' => ∃ A' c, e = .returned (.slice A' (xfR 8 true l).length c) ∧ OwnI w' w.heap.size A' c (xfR 8 true l) ∧ Below w.heap.size w w' := by
  have SO := Lib.hid (l13both_8 A ca l hc w hA)
  obtain ⟨z, hz⟩ : ∃ z, z = xfR 8 true l := ⟨_, rfl⟩
  rw [← hz] at SO ⊢
  obtain ⟨n, hn⟩ : ∃ n, n = l.length := ⟨_, rfl⟩
  rw [← hn] at SO ⊢
  clear hA hz hn hc
  go_enter Try.func24, Try.ntmps24
  go_wp2_with fail
  refine SO.out.mono ?_
  rintro e w1 ⟨A1, c1, rfl, ho1, hb1⟩
  have O1 := Lib.hid ho1; have B1 := Lib.hid hb1
  clear ho1 hb1
  go_wp2
  go_ret
  exact ⟨_, _, rfl, O1.out, B1.out⟩
end Go.Proofs.Ytcmijednpnabmaa
