/-
  Contracts of ZerosAhead, in both texts. Condition: the string is no longer than 1048576 bytes (the laws ask no more).
-/
import Derived.Test.YthiplncceglnhaaReadBits
namespace Go.Proofs.Ythiplncceglnhaa
open Go.RowKit
set_option linter.unusedVariables false

/-- How many 0 bits come from bit `a` on, of `k` bits. -/
def zrun (s : ByteArray) (a : Nat) : Nat → Nat
  | 0 => 0
  | k + 1 => if bitN s a = 0 then zrun s (a + 1) k + 1 else 0
theorem zrun_spec (s : ByteArray) : ∀ (k a : Nat), zrun s a k ≤ k ∧ (∀ j, j < zrun s a k → bitN s (a + j) = 0) ∧ (zrun s a k < k → bitN s (a + zrun s a k) = 1)
  | 0, a => ⟨Nat.le_refl _, fun j hj => absurd hj (Nat.not_lt_zero _), fun h => absurd h (Nat.not_lt_zero _)⟩
  | k + 1, a => by
    obtain ⟨i1, i2, i3⟩ := zrun_spec s k (a + 1)
    by_cases h : bitN s a = 0
    · have e : zrun s a (k + 1) = zrun s (a + 1) k + 1 := by rw [zrun, if_pos h]
      rw [e]
      refine ⟨by omega, fun j hj => ?_, fun hj => ?_⟩
      · cases j with
        | zero => exact h
        | succ j => have := i2 j (by omega); rw [show a + (j + 1) = a + 1 + j by omega]; exact this
      · have := i3 (by omega); rw [show a + (zrun s (a + 1) k + 1) = a + 1 + zrun s (a + 1) k by omega]; exact this
    · have e : zrun s a (k + 1) = 0 := by rw [zrun, if_neg h]
      rw [e]
      have := bitN_lt s a
      exact ⟨by omega, fun j hj => absurd hj (Nat.not_lt_zero _), fun _ => by rw [Nat.add_zero]; omega⟩
/-- What ZerosAhead answers. -/
def zaV (s : ByteArray) (a : Int) : Int := if rdOk s a = true then (zrun s a.toNat (8 * s.size - a.toNat) : Int) else 0

set_option maxRecDepth 100000 in
set_option maxHeartbeats 400000 in
theorem impl_zeros_in (s : ByteArray) (a : Nat) (hs : s.size ≤ 1048576) (ha : a ≤ 8 * s.size) (w : World) :
    Calls Try.prog 75 #[.agg #[.string s, .int .i64 a]] w fun e w' => e = .returned (.int .i64 (zrun s a (8 * s.size - a))) ∧ Below w.heap.size w w' := by
  have HL := Lib.hid (impl_left_any s a hs)
  have hok : rdOk s (a : Int) = true := by rw [rdOk_true]; omega
  obtain ⟨L, hL⟩ : ∃ L, L = 8 * s.size - a := ⟨_, rfl⟩
  have hle : leftV s (a : Int) = (L : Int) := by rw [leftV, if_pos hok]; omega
  rw [hle] at HL
  clear hle hok
  obtain ⟨z1, z2, z3⟩ := zrun_spec s L a
  rw [← hL]
  obtain ⟨z, hz⟩ : ∃ z, z = zrun s a L := ⟨_, rfl⟩
  rw [← hz] at z1 z2 z3 ⊢
  have hLs : a + L ≤ 8 * s.size := by omega
  have Z2 := Lib.hid z2; have Z3 := Lib.hid z3
  clear hz hL z2 z3
  go_enter Try.func75, Try.ntmps75
  go_wp2_with fail
  refine (HL.out _).mono ?_
  rintro e w1 ⟨rfl, hb⟩
  obtain ⟨c0, c1⟩ := box2_kept hb
  have B := Lib.hid (below_step (below_new w _) hb); clear hb
  go_wp2
  go_loop [8] (fun i => ∃ k : Nat, k ≤ z ∧ i = .int .i64 k) (fun i => L - (intOf i).toNat)
  case atStart => exact ⟨0, Nat.zero_le _, rfl⟩
  case round =>
    obtain ⟨k, hk, rfl⟩ := hrel
    by_cases hlt : k < L
    · have HB := Lib.hid (impl_bitat_in s (a + k) hs (by omega))
      simp only [Int.natCast_add] at HB
      by_cases hz : k < z
      · have hbit := Z2.out k hz
        rw [hbit] at HB
        clear hbit
        go_wp2_with fail
        refine (HB.out _).mono ?_
        rintro e w' ⟨rfl, rfl⟩
        go_wp2
        go_round
        case rel => exact ⟨k + 1, by omega, by go_num⟩
        case measure => simp [intOf]; omega
      · obtain rfl : k = z := by omega
        have hbit := Z3.out hlt
        rw [hbit] at HB
        clear hbit
        go_wp2_with fail
        refine (HB.out _).mono ?_
        rintro e w' ⟨rfl, rfl⟩
        go_wp2
        go_ret
        exact ⟨rfl, B.out⟩
    · obtain rfl : k = L := by omega
      obtain rfl : k = z := by omega
      go_wp2
      go_ret
      exact ⟨rfl, B.out⟩

set_option maxRecDepth 100000 in
set_option maxHeartbeats 400000 in
theorem impl_zeros_out (s : ByteArray) (a : Int) (hs : s.size ≤ 1048576) (ha : rdOk s a = false) (w : World) :
    Calls Try.prog 75 #[.agg #[.string s, .int .i64 a]] w fun e w' => e = .returned (.int .i64 0) ∧ Below w.heap.size w w' := by
  have HL := Lib.hid (impl_left_any s a hs)
  have hle : leftV s a = 0 := by rw [leftV, ha]; rfl
  rw [hle] at HL
  clear hle ha
  go_enter Try.func75, Try.ntmps75
  go_wp2_with fail
  refine (HL.out _).mono ?_
  rintro e w1 ⟨rfl, hb⟩
  obtain ⟨c0, c1⟩ := box2_kept hb
  have B := Lib.hid (below_step (below_new w _) hb); clear hb
  go_wp2
  go_loop [8] (fun i => i = .int .i64 0) (fun i => 0)
  case atStart => exact rfl
  case round =>
    obtain rfl := hrel
    go_wp2
    go_ret
    exact ⟨rfl, B.out⟩

set_option maxRecDepth 100000 in
set_option maxHeartbeats 400000 in
theorem spec_zeros_in (s : ByteArray) (a : Nat) (hs : s.size ≤ 1048576) (ha : a ≤ 8 * s.size) (w : World) :
    Calls Try.prog 49 #[.agg #[.string s, .int .i64 a]] w fun e w' => e = .returned (.int .i64 (zrun s a (8 * s.size - a))) ∧ Below w.heap.size w w' := by
  have HL := Lib.hid (spec_left_any s a hs)
  have hok : rdOk s (a : Int) = true := by rw [rdOk_true]; omega
  obtain ⟨L, hL⟩ : ∃ L, L = 8 * s.size - a := ⟨_, rfl⟩
  have hle : leftV s (a : Int) = (L : Int) := by rw [leftV, if_pos hok]; omega
  rw [hle] at HL
  clear hle hok
  obtain ⟨z1, z2, z3⟩ := zrun_spec s L a
  rw [← hL]
  obtain ⟨z, hz⟩ : ∃ z, z = zrun s a L := ⟨_, rfl⟩
  rw [← hz] at z1 z2 z3 ⊢
  have hLs : a + L ≤ 8 * s.size := by omega
  have Z2 := Lib.hid z2; have Z3 := Lib.hid z3
  clear hz hL z2 z3
  go_enter Try.func49, Try.ntmps49
  go_wp2
  go_loopw [3] (fun i wr => ∃ k : Nat, k ≤ z ∧ i = .int .i64 k ∧ wr.heap[w.heap.size]? = some (.cells #[.string s, .int .i64 a] 35 (0, 0)) ∧ Below w.heap.size w wr) (fun i _ => z + 1 - (intOf i).toNat)
  case atStart => exact ⟨0, Nat.zero_le _, rfl, heap_alloc_new w _, below_new w _⟩
  case round =>
    obtain ⟨k, hk, rfl, hh, hbel⟩ := hrel
    obtain ⟨c0, c1⟩ := cells2 hh
    have HH := Lib.hid hh; have BE := Lib.hid hbel; clear hh hbel
    by_cases hlt : k < L
    · have HB := Lib.hid (spec_bitat_in s (a + k) hs (by omega))
      simp only [Int.natCast_add] at HB
      by_cases hz : k < z
      · have hbit := Z2.out k hz
        rw [hbit] at HB
        clear hbit
        go_wp2_with fail
        refine (HL.out _).mono ?_
        rintro e w2 ⟨rfl, hb2⟩
        clear c0 c1
        have hh2 := cell_kept HH.out hb2
        obtain ⟨c0, c1⟩ := cells2 hh2
        have H2 := Lib.hid hh2; clear hh2
        have B2 := Lib.hid (below_step BE.out hb2); clear hb2
        go_wp2_with fail
        refine (HB.out _).mono ?_
        rintro e w' ⟨rfl, rfl⟩
        go_wp2
        go_roundw
        case rel => exact ⟨k + 1, by omega, by go_num, H2.out, B2.out⟩
        case measure => simp [intOf]; omega
      · obtain rfl : k = z := by omega
        have hbit := Z3.out hlt
        rw [hbit] at HB
        clear hbit
        go_wp2_with fail
        refine (HL.out _).mono ?_
        rintro e w2 ⟨rfl, hb2⟩
        clear c0 c1
        have hh2 := cell_kept HH.out hb2
        obtain ⟨c0, c1⟩ := cells2 hh2
        have H2 := Lib.hid hh2; clear hh2
        have B2 := Lib.hid (below_step BE.out hb2); clear hb2
        go_wp2_with fail
        refine (HB.out _).mono ?_
        rintro e w' ⟨rfl, rfl⟩
        go_wp2
        go_ret
        exact ⟨rfl, B2.out⟩
    · obtain rfl : k = L := by omega
      obtain rfl : k = z := by omega
      go_wp2_with fail
      refine (HL.out _).mono ?_
      rintro e w2 ⟨rfl, hb2⟩
      clear c0 c1
      have B2 := Lib.hid (below_step BE.out hb2); clear hb2
      go_wp2
      go_ret
      exact ⟨rfl, B2.out⟩

set_option maxRecDepth 100000 in
set_option maxHeartbeats 400000 in
theorem spec_zeros_out (s : ByteArray) (a : Int) (hs : s.size ≤ 1048576) (ha : rdOk s a = false) (w : World) :
    Calls Try.prog 49 #[.agg #[.string s, .int .i64 a]] w fun e w' => e = .returned (.int .i64 0) ∧ Below w.heap.size w w' := by
  have HL := Lib.hid (spec_left_any s a hs)
  have hle : leftV s a = 0 := by rw [leftV, ha]; rfl
  rw [hle] at HL
  clear hle ha
  go_enter Try.func49, Try.ntmps49
  go_wp2
  go_loopw [3] (fun i wr => i = .int .i64 0 ∧ wr.heap[w.heap.size]? = some (.cells #[.string s, .int .i64 a] 35 (0, 0)) ∧ Below w.heap.size w wr) (fun i _ => 0)
  case atStart => exact ⟨rfl, heap_alloc_new w _, below_new w _⟩
  case round =>
    obtain ⟨rfl, hh, hbel⟩ := hrel
    obtain ⟨c0, c1⟩ := cells2 hh
    have BE := Lib.hid hbel; clear hh hbel
    go_wp2_with fail
    refine (HL.out _).mono ?_
    rintro e w2 ⟨rfl, hb2⟩
    clear c0 c1
    have B2 := Lib.hid (below_step BE.out hb2); clear hb2
    go_wp2
    go_ret
    exact ⟨rfl, B2.out⟩

theorem impl_zeros_any (s : ByteArray) (a : Int) (hs : s.size ≤ 1048576) (w : World) :
    Calls Try.prog 75 #[.agg #[.string s, .int .i64 a]] w fun e w' => e = .returned (.int .i64 (zaV s a)) ∧ Below w.heap.size w w' := by
  cases h : rdOk s a with
  | true =>
    rw [zaV, if_pos h]
    obtain ⟨h0, h1⟩ := (rdOk_true s a).1 h
    obtain ⟨a, rfl⟩ := Int.eq_ofNat_of_zero_le h0
    exact impl_zeros_in s a hs (by omega) w
  | false =>
    rw [zaV, if_neg (by rw [h]; decide)]
    exact impl_zeros_out s a hs h w
theorem spec_zeros_any (s : ByteArray) (a : Int) (hs : s.size ≤ 1048576) (w : World) :
    Calls Try.prog 49 #[.agg #[.string s, .int .i64 a]] w fun e w' => e = .returned (.int .i64 (zaV s a)) ∧ Below w.heap.size w w' := by
  cases h : rdOk s a with
  | true =>
    rw [zaV, if_pos h]
    obtain ⟨h0, h1⟩ := (rdOk_true s a).1 h
    obtain ⟨a, rfl⟩ := Int.eq_ofNat_of_zero_le h0
    exact spec_zeros_in s a hs (by omega) w
  | false =>
    rw [zaV, if_neg (by rw [h]; decide)]
    exact spec_zeros_out s a hs h w
end Go.Proofs.Ythiplncceglnhaa
