/-
  Contracts of the program's transposed and product, at squares of 4 and of 8. Conditions: the lists are squares; no product of two numbers is greater than 32000000000 (the transforms ask no more).
-/
import Derived.Test.YtcmijednpnabmaaFormP
namespace Go.Proofs.Ytcmijednpnabmaa
open Go.RowKit
set_option linter.unusedVariables false

theorem zer_row (n : Nat) (hn : n ≤ 1000000) (w : World) : (w.alloc (.cells (ivs (List.replicate n 0)).toArray 3)).ownsRow w.heap.size 3 1 (.slice (some ⟨w.heap.size, 0, none⟩) n n) n (ivs (List.replicate n 0)) := by
  have := own_ints w w.heap.size (List.replicate n 0) (Nat.le_refl _) (by simp [maxLen]; omega)
  unfold OwnI at this
  simpa using this
theorem own_back {w : World} {base : Nat} {A : Option Addr} {c n : Nat} {l : List Int} (h : w.ownsRow base 3 1 (.slice A n c) n (ivs l)) (hl : l.length = n) : OwnI w base A c l := by
  subst hl
  exact h

set_option maxRecDepth 100000 in
set_option maxHeartbeats 2000000 in
theorem impl_transposed_4 (A : Option Addr) (ca : Nat) (m : List Int) (hm : m.length = 16) (w : World) (hA : Ints w w.heap.size A m) :
    Calls Try.prog 43 #[.slice A 16 ca, .int .i64 4] w fun e w' => ∃ A' c, e = .returned (.slice A' 16 c) ∧ OwnI w' w.heap.size A' c (trL 4 m) ∧ Below w.heap.size w w' := by
  have HA := Lib.hid hA; have HM := Lib.hid hm
  have hmk := make_ints 16 (16 : Int) rfl (by omega)
  have O0 := Lib.hid (zer_row 16 (by decide) w)
  have B0 := Lib.hid (below_new w (.cells (ivs (List.replicate 16 0)).toArray 3))
  clear hA hm
  go_enter Try.func43, Try.ntmps43
  go_wp2
  clear hmk
  go_loopw [6, 7, 13] (fun x6 x7 i wr => ∃ (j : Nat) (p : List Int), j ≤ 16 ∧ i = .int .i64 j ∧ TrAt 4 m p j ∧ wr.ownsRow w.heap.size 3 1 (.slice (some ⟨w.heap.size, 0, none⟩) 16 16) 16 (ivs p) ∧ Below w.heap.size w wr)
    (fun _ _ i _ => 16 - (intOf i).toNat)
  case atStart => exact ⟨0, List.replicate 16 0, Nat.zero_le _, rfl, ⟨List.length_replicate, fun t ht => absurd ht (by omega)⟩, O0.out, B0.out⟩
  case round =>
    obtain ⟨j, p, hj, rfl, hp, hown, hbel⟩ := hrel
    have HP := Lib.hid hp
    clear hp
    by_cases hlt : j < 16
    · have d1 : decide ((j : Int) < 16) = true := by simp; omega
      obtain ⟨b, off, rfl, hb, hc⟩ := HA.out.at j (by rw [HM.out]; exact hlt)
      have cl := hc j (by rw [HM.out]; exact hlt)
      rw [← hbel.cell (p := ⟨b, off + j, none⟩) hb] at cl
      obtain ⟨x, hx⟩ : ∃ x, x = m.getD j 0 := ⟨_, rfl⟩
      rw [← hx] at cl
      obtain ⟨r, hr⟩ : ∃ r, r = j % 4 := ⟨_, rfl⟩
      obtain ⟨c, hc2⟩ : ∃ c, c = j / 4 := ⟨_, rfl⟩
      have e1 : (j : Int).tmod 4 = (r : Int) := by rw [Int.tmod_eq_emod_of_nonneg (by omega)]; omega
      have e2 : (j : Int).tdiv 4 = (c : Int) := by rw [Int.tdiv_eq_ediv_of_nonneg (by omega)]; omega
      have hr8 : r < 4 := by omega
      have hc8 : c < 4 := by omega
      have hst := trat_step (n := 4) (by decide) HP.out (show j < 4 * 4 by omega)
      rw [← hr, ← hc2, ← hx] at hst
      have HST := Lib.hid hst
      obtain ⟨b0, hcell⟩ : ∃ b0 : Int, wr.cell? ⟨w.heap.size, r * 4 + c, none⟩ = some (.int .i64 b0) := ⟨_, (hown.cellAt (r * 4 + c) (by omega)).trans (ivs_at p (r * 4 + c) (by have := HP.out.1; omega))⟩
      have hfz := hown.frozenAt (r * 4 + c)
      have s1 := hown.drew.stored (r * 4 + c) (.int .i64 x)
      rw [ivs_set] at s1
      have S1 := Lib.hid s1.1
      have S3 := Lib.hid (hbel.drew.setCell (p := ⟨w.heap.size, r * 4 + c, none⟩) (Nat.le_refl _) (.int .i64 x))
      clear hx hc s1 hown hbel hr hc2 hst
      go_wp2
      go_region
      go_wp2
      go_roundw
      case rel => exact ⟨j + 1, p.set (r * 4 + c) x, by omega, by go_num, HST.out, S1.out, S3.out⟩
      case measure => simp [intOf]; omega
    · obtain rfl : j = 16 := by omega
      have O3 := Lib.hid hown; have B3 := Lib.hid hbel; have HEQ := Lib.hid (trat_end (n := 4) HP.out)
      clear hown hbel
      go_wp2
      go_ret
      exact ⟨_, _, rfl, own_back (by rw [← HEQ.out]; exact O3.out) (trL_len 4 m), B3.out⟩

set_option maxRecDepth 100000 in
set_option maxHeartbeats 2000000 in
theorem impl_transposed_8 (A : Option Addr) (ca : Nat) (m : List Int) (hm : m.length = 64) (w : World) (hA : Ints w w.heap.size A m) :
    Calls Try.prog 43 #[.slice A 64 ca, .int .i64 8] w fun e w' => ∃ A' c, e = .returned (.slice A' 64 c) ∧ OwnI w' w.heap.size A' c (trL 8 m) ∧ Below w.heap.size w w' := by
  have HA := Lib.hid hA; have HM := Lib.hid hm
  have hmk := make_ints 64 (64 : Int) rfl (by omega)
  have O0 := Lib.hid (zer_row 64 (by decide) w)
  have B0 := Lib.hid (below_new w (.cells (ivs (List.replicate 64 0)).toArray 3))
  clear hA hm
  go_enter Try.func43, Try.ntmps43
  go_wp2
  clear hmk
  go_loopw [6, 7, 13] (fun x6 x7 i wr => ∃ (j : Nat) (p : List Int), j ≤ 64 ∧ i = .int .i64 j ∧ TrAt 8 m p j ∧ wr.ownsRow w.heap.size 3 1 (.slice (some ⟨w.heap.size, 0, none⟩) 64 64) 64 (ivs p) ∧ Below w.heap.size w wr)
    (fun _ _ i _ => 64 - (intOf i).toNat)
  case atStart => exact ⟨0, List.replicate 64 0, Nat.zero_le _, rfl, ⟨List.length_replicate, fun t ht => absurd ht (by omega)⟩, O0.out, B0.out⟩
  case round =>
    obtain ⟨j, p, hj, rfl, hp, hown, hbel⟩ := hrel
    have HP := Lib.hid hp
    clear hp
    by_cases hlt : j < 64
    · have d1 : decide ((j : Int) < 64) = true := by simp; omega
      obtain ⟨b, off, rfl, hb, hc⟩ := HA.out.at j (by rw [HM.out]; exact hlt)
      have cl := hc j (by rw [HM.out]; exact hlt)
      rw [← hbel.cell (p := ⟨b, off + j, none⟩) hb] at cl
      obtain ⟨x, hx⟩ : ∃ x, x = m.getD j 0 := ⟨_, rfl⟩
      rw [← hx] at cl
      obtain ⟨r, hr⟩ : ∃ r, r = j % 8 := ⟨_, rfl⟩
      obtain ⟨c, hc2⟩ : ∃ c, c = j / 8 := ⟨_, rfl⟩
      have e1 : (j : Int).tmod 8 = (r : Int) := by rw [Int.tmod_eq_emod_of_nonneg (by omega)]; omega
      have e2 : (j : Int).tdiv 8 = (c : Int) := by rw [Int.tdiv_eq_ediv_of_nonneg (by omega)]; omega
      have hr8 : r < 8 := by omega
      have hc8 : c < 8 := by omega
      have hst := trat_step (n := 8) (by decide) HP.out (show j < 8 * 8 by omega)
      rw [← hr, ← hc2, ← hx] at hst
      have HST := Lib.hid hst
      obtain ⟨b0, hcell⟩ : ∃ b0 : Int, wr.cell? ⟨w.heap.size, r * 8 + c, none⟩ = some (.int .i64 b0) := ⟨_, (hown.cellAt (r * 8 + c) (by omega)).trans (ivs_at p (r * 8 + c) (by have := HP.out.1; omega))⟩
      have hfz := hown.frozenAt (r * 8 + c)
      have s1 := hown.drew.stored (r * 8 + c) (.int .i64 x)
      rw [ivs_set] at s1
      have S1 := Lib.hid s1.1
      have S3 := Lib.hid (hbel.drew.setCell (p := ⟨w.heap.size, r * 8 + c, none⟩) (Nat.le_refl _) (.int .i64 x))
      clear hx hc s1 hown hbel hr hc2 hst
      go_wp2
      go_region
      go_wp2
      go_roundw
      case rel => exact ⟨j + 1, p.set (r * 8 + c) x, by omega, by go_num, HST.out, S1.out, S3.out⟩
      case measure => simp [intOf]; omega
    · obtain rfl : j = 64 := by omega
      have O3 := Lib.hid hown; have B3 := Lib.hid hbel; have HEQ := Lib.hid (trat_end (n := 8) HP.out)
      clear hown hbel
      go_wp2
      go_ret
      exact ⟨_, _, rfl, own_back (by rw [← HEQ.out]; exact O3.out) (trL_len 8 m), B3.out⟩

set_option maxRecDepth 100000 in
set_option maxHeartbeats 4000000 in
theorem impl_product_4 (A B : Option Addr) (ca cb : Nat) (a b : List Int) (hla : a.length = 16) (hlb : b.length = 16) (hbd : ∀ y x k, y < 4 → x < 4 → k < 4 → -32000000000 ≤ prG 4 a b y x k ∧ prG 4 a b y x k ≤ 32000000000) (w : World) (hA : Ints w w.heap.size A a) (hB : Ints w w.heap.size B b) :
    Calls Try.prog 61 #[.slice A 16 ca, .slice B 16 cb, .int .i64 4] w fun e w' => ∃ A' c, e = .returned (.slice A' 16 c) ∧ OwnI w' w.heap.size A' c (prF 4 a b) ∧ Below w.heap.size w w' := by
  have HA := Lib.hid hA; have HB := Lib.hid hB; have HLA := Lib.hid hla; have HLB := Lib.hid hlb; have HBD := Lib.hid hbd
  have hmk := make_ints 16 (16 : Int) rfl (by omega)
  have O0 := Lib.hid (zer_row 16 (by decide) w)
  have B0 := Lib.hid (below_new w (.cells (ivs (List.replicate 16 0)).toArray 3))
  clear hA hB hla hlb hbd
  go_enter Try.func61, Try.ntmps61
  go_wp2
  clear hmk
  go_loopw [8, 9, 10, 11, 18] (fun x8 x9 x10 x11 i wr => ∃ (j : Nat) (p : List Int), j ≤ 16 ∧ i = .int .i64 j ∧ AccL 16 4 (fun t => prG 4 a b (t / 4) (t % 4)) p j 0 ∧ wr.ownsRow w.heap.size 3 1 (.slice (some ⟨w.heap.size, 0, none⟩) 16 16) 16 (ivs p) ∧ Below w.heap.size w wr)
    (fun _ _ _ _ i _ => 16 - (intOf i).toNat)
  case atStart => exact ⟨0, List.replicate 16 0, Nat.zero_le _, rfl, accl_start _ _ _, O0.out, B0.out⟩
  case round =>
    obtain ⟨j, p, hj, rfl, hp, hown, hbel⟩ := hrel
    have HP := Lib.hid hp
    clear hp
    by_cases hlt : j < 16
    · have d1 : decide ((j : Int) < 16) = true := by simp; omega
      obtain ⟨y, hy⟩ : ∃ y, y = j / 4 := ⟨_, rfl⟩
      obtain ⟨x, hx⟩ : ∃ x, x = j % 4 := ⟨_, rfl⟩
      have e1 : (j : Int).tmod 4 = (x : Int) := by rw [Int.tmod_eq_emod_of_nonneg (by omega)]; omega
      have e2 : (j : Int).tdiv 4 = (y : Int) := by rw [Int.tdiv_eq_ediv_of_nonneg (by omega)]; omega
      have hy8 : y < 4 := by omega
      have hx8 : x < 4 := by omega
      have HY := Lib.hid hy; have HX := Lib.hid hx; have HO := Lib.hid hown.drew; have HBL := Lib.hid hbel.drew
      clear hy hx hown hbel
      go_wp2
      go_region
      go_wp2
      clear e1 e2
      go_loopw [11, 30] (fun x11 i wr => ∃ (k : Nat) (q : List Int), k ≤ 4 ∧ i = .int .i64 k ∧ AccL 16 4 (fun t => prG 4 a b (t / 4) (t % 4)) q j k ∧ wr.ownsRow w.heap.size 3 1 (.slice (some ⟨w.heap.size, 0, none⟩) 16 16) 16 (ivs q) ∧ Below w.heap.size w wr)
        (fun _ i _ => 4 - (intOf i).toNat)
      case atStart => exact ⟨0, p, Nat.zero_le _, rfl, HP.out, HO.out, HBL.out⟩
      case round =>
        obtain ⟨k, q, hk, rfl, hq, hown, hbel⟩ := hrel
        have HQ := Lib.hid hq
        clear hq
        by_cases hlk : k < 4
        · have d2 : decide ((k : Int) < 4) = true := by simp; omega
          obtain ⟨ba, oa, rfl, hba, hca⟩ := HA.out.at (y * 4 + k) (by rw [HLA.out]; omega)
          obtain ⟨bb, ob, rfl, hbb, hcb⟩ := HB.out.at (k * 4 + x) (by rw [HLB.out]; omega)
          have ca1 := hca (y * 4 + k) (by rw [HLA.out]; omega)
          have cb1 := hcb (k * 4 + x) (by rw [HLB.out]; omega)
          rw [← hbel.cell (p := ⟨ba, oa + (y * 4 + k), none⟩) hba] at ca1
          rw [← hbel.cell (p := ⟨bb, ob + (k * 4 + x), none⟩) hbb] at cb1
          have hst := accl_step HQ.out hlt
          have hat := accl_at HQ.out hlt
          have hsm := accl_small (B := 32000000000) (by decide) (fun i hi => HBD.out y x i hy8 hx8 hi) (by decide) hk
          have hpr := HBD.out y x k hy8 hx8 hlk
          simp only [← HY.out, ← HX.out] at hst hat
          obtain ⟨s, hs⟩ : ∃ s, s = sumTo (prG 4 a b y x) k := ⟨_, rfl⟩
          rw [← hs] at hst hat hsm
          have hpe : prG 4 a b y x k = a.getD (y * 4 + k) 0 * b.getD (k * 4 + x) 0 := rfl
          obtain ⟨u, hu⟩ : ∃ u, u = a.getD (y * 4 + k) 0 := ⟨_, rfl⟩
          obtain ⟨v, hv⟩ : ∃ v, v = b.getD (k * 4 + x) 0 := ⟨_, rfl⟩
          rw [← hu] at ca1 hpe
          rw [← hv] at cb1 hpe
          rw [hpe] at hpr hst
          have hp1 : IntKind.i64.wrap (u * v) = u * v := IntWalk.i64_in _ (by omega)
          have hp2 : IntKind.i64.wrap (s + u * v) = s + u * v := IntWalk.i64_in _ (by omega)
          have hcell : wr.cell? ⟨w.heap.size, j, none⟩ = some (.int .i64 s) := (hown.cellAt j (by omega)).trans ((ivs_at q j (by have := HQ.out.1; omega)).trans (by rw [hat]))
          have hfz := hown.frozenAt j
          have s1 := hown.drew.stored j (.int .i64 (s + u * v))
          rw [ivs_set] at s1
          have S1 := Lib.hid s1.1
          have S3 := Lib.hid (hbel.drew.setCell (p := ⟨w.heap.size, j, none⟩) (Nat.le_refl _) (.int .i64 (s + u * v)))
          have HST := Lib.hid hst
          clear hca hcb hs hu hv s1 hown hbel hst hat hsm hpe hpr
          go_wp2
          go_region
          go_wp2
          go_roundw
          case rel => exact ⟨k + 1, q.set j (s + u * v), by omega, by go_num, HST.out, S1.out, S3.out⟩
          case measure => simp [intOf]; omega
        · obtain rfl : k = 4 := by omega
          have O3 := Lib.hid hown; have B3 := Lib.hid hbel
          clear hown hbel
          go_wp2
          go_roundw
          case rel => exact ⟨j + 1, q, by omega, by go_num, accl_next HQ.out, O3.out, B3.out⟩
          case measure => simp [intOf]; omega
    · obtain rfl : j = 16 := by omega
      have O3 := Lib.hid hown; have B3 := Lib.hid hbel; have HEQ := Lib.hid (accl_end (n := 4) HP.out)
      clear hown hbel
      go_wp2
      go_ret
      exact ⟨_, _, rfl, own_back (by unfold prF; rw [← HEQ.out]; exact O3.out) (prF_len 4 a b), B3.out⟩

set_option maxRecDepth 100000 in
set_option maxHeartbeats 4000000 in
theorem impl_product_8 (A B : Option Addr) (ca cb : Nat) (a b : List Int) (hla : a.length = 64) (hlb : b.length = 64) (hbd : ∀ y x k, y < 8 → x < 8 → k < 8 → -32000000000 ≤ prG 8 a b y x k ∧ prG 8 a b y x k ≤ 32000000000) (w : World) (hA : Ints w w.heap.size A a) (hB : Ints w w.heap.size B b) :
    Calls Try.prog 61 #[.slice A 64 ca, .slice B 64 cb, .int .i64 8] w fun e w' => ∃ A' c, e = .returned (.slice A' 64 c) ∧ OwnI w' w.heap.size A' c (prF 8 a b) ∧ Below w.heap.size w w' := by
  have HA := Lib.hid hA; have HB := Lib.hid hB; have HLA := Lib.hid hla; have HLB := Lib.hid hlb; have HBD := Lib.hid hbd
  have hmk := make_ints 64 (64 : Int) rfl (by omega)
  have O0 := Lib.hid (zer_row 64 (by decide) w)
  have B0 := Lib.hid (below_new w (.cells (ivs (List.replicate 64 0)).toArray 3))
  clear hA hB hla hlb hbd
  go_enter Try.func61, Try.ntmps61
  go_wp2
  clear hmk
  go_loopw [8, 9, 10, 11, 18] (fun x8 x9 x10 x11 i wr => ∃ (j : Nat) (p : List Int), j ≤ 64 ∧ i = .int .i64 j ∧ AccL 64 8 (fun t => prG 8 a b (t / 8) (t % 8)) p j 0 ∧ wr.ownsRow w.heap.size 3 1 (.slice (some ⟨w.heap.size, 0, none⟩) 64 64) 64 (ivs p) ∧ Below w.heap.size w wr)
    (fun _ _ _ _ i _ => 64 - (intOf i).toNat)
  case atStart => exact ⟨0, List.replicate 64 0, Nat.zero_le _, rfl, accl_start _ _ _, O0.out, B0.out⟩
  case round =>
    obtain ⟨j, p, hj, rfl, hp, hown, hbel⟩ := hrel
    have HP := Lib.hid hp
    clear hp
    by_cases hlt : j < 64
    · have d1 : decide ((j : Int) < 64) = true := by simp; omega
      obtain ⟨y, hy⟩ : ∃ y, y = j / 8 := ⟨_, rfl⟩
      obtain ⟨x, hx⟩ : ∃ x, x = j % 8 := ⟨_, rfl⟩
      have e1 : (j : Int).tmod 8 = (x : Int) := by rw [Int.tmod_eq_emod_of_nonneg (by omega)]; omega
      have e2 : (j : Int).tdiv 8 = (y : Int) := by rw [Int.tdiv_eq_ediv_of_nonneg (by omega)]; omega
      have hy8 : y < 8 := by omega
      have hx8 : x < 8 := by omega
      have HY := Lib.hid hy; have HX := Lib.hid hx; have HO := Lib.hid hown.drew; have HBL := Lib.hid hbel.drew
      clear hy hx hown hbel
      go_wp2
      go_region
      go_wp2
      clear e1 e2
      go_loopw [11, 30] (fun x11 i wr => ∃ (k : Nat) (q : List Int), k ≤ 8 ∧ i = .int .i64 k ∧ AccL 64 8 (fun t => prG 8 a b (t / 8) (t % 8)) q j k ∧ wr.ownsRow w.heap.size 3 1 (.slice (some ⟨w.heap.size, 0, none⟩) 64 64) 64 (ivs q) ∧ Below w.heap.size w wr)
        (fun _ i _ => 8 - (intOf i).toNat)
      case atStart => exact ⟨0, p, Nat.zero_le _, rfl, HP.out, HO.out, HBL.out⟩
      case round =>
        obtain ⟨k, q, hk, rfl, hq, hown, hbel⟩ := hrel
        have HQ := Lib.hid hq
        clear hq
        by_cases hlk : k < 8
        · have d2 : decide ((k : Int) < 8) = true := by simp; omega
          obtain ⟨ba, oa, rfl, hba, hca⟩ := HA.out.at (y * 8 + k) (by rw [HLA.out]; omega)
          obtain ⟨bb, ob, rfl, hbb, hcb⟩ := HB.out.at (k * 8 + x) (by rw [HLB.out]; omega)
          have ca1 := hca (y * 8 + k) (by rw [HLA.out]; omega)
          have cb1 := hcb (k * 8 + x) (by rw [HLB.out]; omega)
          rw [← hbel.cell (p := ⟨ba, oa + (y * 8 + k), none⟩) hba] at ca1
          rw [← hbel.cell (p := ⟨bb, ob + (k * 8 + x), none⟩) hbb] at cb1
          have hst := accl_step HQ.out hlt
          have hat := accl_at HQ.out hlt
          have hsm := accl_small (B := 32000000000) (by decide) (fun i hi => HBD.out y x i hy8 hx8 hi) (by decide) hk
          have hpr := HBD.out y x k hy8 hx8 hlk
          simp only [← HY.out, ← HX.out] at hst hat
          obtain ⟨s, hs⟩ : ∃ s, s = sumTo (prG 8 a b y x) k := ⟨_, rfl⟩
          rw [← hs] at hst hat hsm
          have hpe : prG 8 a b y x k = a.getD (y * 8 + k) 0 * b.getD (k * 8 + x) 0 := rfl
          obtain ⟨u, hu⟩ : ∃ u, u = a.getD (y * 8 + k) 0 := ⟨_, rfl⟩
          obtain ⟨v, hv⟩ : ∃ v, v = b.getD (k * 8 + x) 0 := ⟨_, rfl⟩
          rw [← hu] at ca1 hpe
          rw [← hv] at cb1 hpe
          rw [hpe] at hpr hst
          have hp1 : IntKind.i64.wrap (u * v) = u * v := IntWalk.i64_in _ (by omega)
          have hp2 : IntKind.i64.wrap (s + u * v) = s + u * v := IntWalk.i64_in _ (by omega)
          have hcell : wr.cell? ⟨w.heap.size, j, none⟩ = some (.int .i64 s) := (hown.cellAt j (by omega)).trans ((ivs_at q j (by have := HQ.out.1; omega)).trans (by rw [hat]))
          have hfz := hown.frozenAt j
          have s1 := hown.drew.stored j (.int .i64 (s + u * v))
          rw [ivs_set] at s1
          have S1 := Lib.hid s1.1
          have S3 := Lib.hid (hbel.drew.setCell (p := ⟨w.heap.size, j, none⟩) (Nat.le_refl _) (.int .i64 (s + u * v)))
          have HST := Lib.hid hst
          clear hca hcb hs hu hv s1 hown hbel hst hat hsm hpe hpr
          go_wp2
          go_region
          go_wp2
          go_roundw
          case rel => exact ⟨k + 1, q.set j (s + u * v), by omega, by go_num, HST.out, S1.out, S3.out⟩
          case measure => simp [intOf]; omega
        · obtain rfl : k = 8 := by omega
          have O3 := Lib.hid hown; have B3 := Lib.hid hbel
          clear hown hbel
          go_wp2
          go_roundw
          case rel => exact ⟨j + 1, q, by omega, by go_num, accl_next HQ.out, O3.out, B3.out⟩
          case measure => simp [intOf]; omega
    · obtain rfl : j = 64 := by omega
      have O3 := Lib.hid hown; have B3 := Lib.hid hbel; have HEQ := Lib.hid (accl_end (n := 8) HP.out)
      clear hown hbel
      go_wp2
      go_ret
      exact ⟨_, _, rfl, own_back (by unfold prF; rw [← HEQ.out]; exact O3.out) (prF_len 8 a b), B3.out⟩
end Go.Proofs.Ytcmijednpnabmaa
