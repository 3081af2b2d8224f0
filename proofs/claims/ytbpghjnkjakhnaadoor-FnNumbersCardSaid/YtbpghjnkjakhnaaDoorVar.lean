/-
  Contracts of Var, in both texts: both give the same bytes for every number. Condition: the number is an int.
-/
import Derived.Test.YtbpghjnkjakhnaaDoorRows
import Derived.Test.YtbpghjnkjakhnaaDoorKit
namespace Go.Proofs.YtbpghjnkjakhnaaDoor
open Go.RowKit
set_option linter.unusedVariables false

/-- The varint of `n`, with at most `f + 1` bytes. -/
def lebL : Nat → Nat → List UInt8
  | 0, n => [UInt8.ofNat n]
  | f + 1, n => if n < 128 then [UInt8.ofNat n] else UInt8.ofNat (128 + n % 128) :: lebL f (n / 128)
/-- What Var gives for a number in range. -/
def varL (n : Nat) : List UInt8 := lebL 6 n
def varS (n : Int) : ByteArray := if 0 ≤ n ∧ n ≤ 562949953421311 then bs (varL n.toNat) else bs []

theorem lebL_small (f n : Nat) (h : n < 128) : lebL f n = [UInt8.ofNat n] := by
  cases f with
  | zero => rfl
  | succ f => rw [lebL, if_pos h]

set_option maxHeartbeats 400000 in
theorem l1in_t (a b c : Int) (h1 : b ≤ a) (h2 : a ≤ c) (w : World) :
    Calls Tryd.prog 39 #[.int .i64 a, .int .i64 b, .int .i64 c] w fun e w' => e = .returned (.bool true) ∧ w = w' := by
  have h3 : decide (a ≤ c) = true := by simpa using h2
  go_enter Tryd.func39, Tryd.ntmps39
  go_wp2
  go_ret
  exact ⟨rfl, rfl⟩
set_option maxHeartbeats 400000 in
theorem l1in_f (a b c : Int) (h : a < b ∨ c < a) (w : World) :
    Calls Tryd.prog 39 #[.int .i64 a, .int .i64 b, .int .i64 c] w fun e w' => e = .returned (.bool false) ∧ w = w' := by
  by_cases h1 : a < b
  · go_enter Tryd.func39, Tryd.ntmps39
    go_wp2
    go_ret
    exact ⟨rfl, rfl⟩
  · have h2 : decide (a ≤ c) = false := by simp; omega
    go_enter Tryd.func39, Tryd.ntmps39
    go_wp2
    go_ret
    exact ⟨rfl, rfl⟩

theorem Tryd.vinfoU8 : (Tryd.prog.info? 5).map (fun i => (i.zero, i.size, i.bytes)) = some (some (.int .u8 0), 1, 1) := by kernel_rfl

set_option maxRecDepth 100000 in
set_option maxHeartbeats 400000 in
theorem spec_var_ok (n : Nat) (hn : n ≤ 562949953421311) (w : World) :
    Calls Tryd.prog 28 #[.int .i64 n] w fun e w' => e = .returned (.string (bs (varL n))) ∧ Below w.heap.size w w' := by
  obtain ⟨i0, hi, hz0, hz1, hz2⟩ := info_parts Tryd.vinfoU8
  go_enter Tryd.func28, Tryd.ntmps28
  go_wp2_with (go_at_call 39; refine (l1in_t _ _ _ (by omega) (by omega) _).mono ?_; rintro e w' ⟨rfl, rfl⟩)
  go_loopw [0, 3] (fun a v wr => ∃ (j m : Nat) (p : List UInt8), j ≤ 6 ∧ m < 128 ^ (7 - j) ∧ p.length = j ∧ p ++ lebL (6 - j) m = varL n ∧ a = .int .i64 m ∧ wr.ownsRow w.heap.size 5 1 v j (bvs p) ∧ Below w.heap.size w wr)
    (fun a _ _ => (intOf a).toNat)
  case atStart =>
    refine ⟨0, n, [], by omega, by simp; omega, rfl, rfl, rfl, ?_, (Below.refl _ _).alloc (Nat.le_refl _) _⟩
    exact own_lit (E := 5) w w.heap.size [] (Nat.le_refl _) (by simp)
  case round =>
    obtain ⟨j, m, p, hj, hm, hp, hpre, rfl, hown, hbel⟩ := hrel
    have HP := Lib.hid hp; clear hp
    have HQ := Lib.hid hpre; clear hpre
    by_cases hlt : 128 ≤ m
    · have hj5 : j ≤ 5 := by
        by_cases h : j = 6
        · subst h; simp at hm; omega
        · omega
      have HM := Lib.hid hm
      have hm63 : m ≤ 562949953421311 := Nat.le_of_lt_succ (Nat.lt_of_lt_of_le hm (Nat.pow_le_pow_right (n := 128) (by omega) (show 7 - j ≤ 7 by omega)))
      clear hm
      go_wp2_with (at_builtin; refine append_one wr rfl (.tmp 10) (.tmp 15) 22 rfl w 5 i0 (.int .u8 0) 1 Tryd.underlying22 hi hz0 hz1 hz2 rfl _ _ _ rfl hown _ rfl rfl rfl (by omega) (by unfold maxLen; omega) hbel ?_; intro v' w' hown' hb')
      go_roundw
      case rel =>
        refine ⟨j + 1, m / 128, p ++ [UInt8.ofNat (128 + m % 128)], by omega, ?_, ?_, ?_, by go_num, ?_, hb'⟩
        · have h := HM.out
          rw [show 7 - j = (7 - (j + 1)) + 1 by omega, Nat.pow_succ] at h
          omega
        · simp [HP.out]
        · rw [← HQ.out, show 6 - j = (6 - (j + 1)) + 1 by omega, lebL, if_neg (by omega), List.append_assoc]
          rfl
        · exact own_snoc hown' (128 + m % 128) (by omega) (by omega)
      case measure => simp [intOf]; omega
    · have hsm : lebL (6 - j) m = [UInt8.ofNat m] := lebL_small _ _ (by omega)
      have HS := Lib.hid hsm; clear hsm
      have hm8 : (m : Int) < 128 := by omega
      clear hm
      go_wp2_with (at_builtin; refine append_one wr rfl (.tmp 19) (.tmp 22) 22 rfl w 5 i0 (.int .u8 0) 1 Tryd.underlying22 hi hz0 hz1 hz2 rfl _ _ _ rfl hown _ rfl rfl rfl (by omega) (by unfold maxLen; omega) hbel ?_; intro v' w' hown' hb'; have hcv := conv_own Tryd.underlying22 Tryd.underlying5 Tryd.underlying9 (own_snoc hown' m rfl (by omega)))
      go_ret
      exact ⟨by rw [← HQ.out, HS.out]; rfl, hb'⟩
set_option maxRecDepth 100000 in
set_option maxHeartbeats 400000 in
theorem impl_var_ok (n : Nat) (hn : n ≤ 562949953421311) (w : World) :
    Calls Tryd.prog 9 #[.int .i64 n] w fun e w' => e = .returned (.string (bs (varL n))) ∧ Below w.heap.size w w' := by
  obtain ⟨i0, hi, hz0, hz1, hz2⟩ := info_parts Tryd.vinfoU8
  go_enter Tryd.func9, Tryd.ntmps9
  have hnI : decide (562949953421311 < (n : Int)) = false := by simp; omega
  have hmk : ∀ w, (Instr.makeSlice 22 (.int .i64 0) (.int .i64 7)).run Tryd.prog w = .ok (.slice (some ⟨w.heap.size, 0, none⟩) 0 7) (w.alloc (.cells (bvs (List.replicate 7 0)).toArray 5)) := fun _ => by kernel_rfl
  go_wp2
  go_loopw [0, 3] (fun a v wr => ∃ (j m : Nat) (p : List UInt8), j ≤ 6 ∧ m < 128 ^ (7 - j) ∧ p.length = j ∧ p ++ lebL (6 - j) m = varL n ∧ a = .int .i64 m ∧ wr.ownsRow w.heap.size 5 1 v j (bvs p) ∧ Below w.heap.size w wr)
    (fun a _ _ => (intOf a).toNat)
  case atStart =>
    refine ⟨0, n, [], by omega, by simp; omega, rfl, rfl, rfl, ?_, (Below.refl _ _).alloc (Nat.le_refl _) _⟩
    exact World.ownsRow_made w _ 7 (Nat.le_refl _) (by simp [maxLen]) (by simp [bvs])
  case round =>
    obtain ⟨j, m, p, hj, hm, hp, hpre, rfl, hown, hbel⟩ := hrel
    have HP := Lib.hid hp; clear hp
    have HQ := Lib.hid hpre; clear hpre
    by_cases hlt : 128 ≤ m
    · have hj5 : j ≤ 5 := by
        by_cases h : j = 6
        · subst h; simp at hm; omega
        · omega
      have HM := Lib.hid hm
      have hm63 : m ≤ 562949953421311 := Nat.le_of_lt_succ (Nat.lt_of_lt_of_le hm (Nat.pow_le_pow_right (n := 128) (by omega) (show 7 - j ≤ 7 by omega)))
      clear hm
      have ha : bits .and .i64 (m : Int) 127 = (m : Int) % 128 := and_i64 7 _ _ rfl (by omega) (by omega) (by omega)
      have ho : bits .or .i64 ((m : Int) % 128) 128 = (m : Int) % 128 + 128 := or_i64_low 7 _ _ (by omega) (by omega) (by omega) (by omega) (by omega) (by omega)
      go_wp2_with (at_builtin; refine append_one wr rfl (.tmp 13) (.tmp 18) 22 rfl w 5 i0 (.int .u8 0) 1 Tryd.underlying22 hi hz0 hz1 hz2 rfl _ _ _ rfl hown _ rfl rfl rfl (by omega) (by unfold maxLen; omega) hbel ?_; intro v' w' hown' hb')
      go_roundw
      case rel =>
        refine ⟨j + 1, m / 128, p ++ [UInt8.ofNat (128 + m % 128)], by omega, ?_, ?_, ?_, by go_num, ?_, hb'⟩
        · have h := HM.out
          rw [show 7 - j = (7 - (j + 1)) + 1 by omega, Nat.pow_succ] at h
          omega
        · simp [HP.out]
        · rw [← HQ.out, show 6 - j = (6 - (j + 1)) + 1 by omega, lebL, if_neg (by omega), List.append_assoc]
          rfl
        · exact own_snoc hown' (128 + m % 128) (by omega) (by omega)
      case measure => simp [intOf]; omega
    · have hsm : lebL (6 - j) m = [UInt8.ofNat m] := lebL_small _ _ (by omega)
      have HS := Lib.hid hsm; clear hsm
      have hm8 : (m : Int) < 128 := by omega
      clear hm
      go_wp2_with (at_builtin; refine append_one wr rfl (.tmp 22) (.tmp 25) 22 rfl w 5 i0 (.int .u8 0) 1 Tryd.underlying22 hi hz0 hz1 hz2 rfl _ _ _ rfl hown _ rfl rfl rfl (by omega) (by unfold maxLen; omega) hbel ?_; intro v' w' hown' hb'; have hcv := conv_own Tryd.underlying22 Tryd.underlying5 Tryd.underlying9 (own_snoc hown' m rfl (by omega)))
      go_ret
      exact ⟨by rw [← HQ.out, HS.out]; rfl, hb'⟩

set_option maxHeartbeats 400000 in
theorem spec_var_bad (n : Int) (h : ¬ (0 ≤ n ∧ n ≤ 562949953421311)) (w : World) :
    Calls Tryd.prog 28 #[.int .i64 n] w fun e w' => e = .returned (.string (bs [])) ∧ w = w' := by
  go_enter Tryd.func28, Tryd.ntmps28
  go_wp2_with (go_at_call 39; refine (l1in_f _ _ _ (by omega) _).mono ?_; rintro e w' ⟨rfl, rfl⟩)
  go_ret
  exact ⟨rfl, rfl⟩
set_option maxHeartbeats 400000 in
theorem impl_var_bad (n : Int) (h : ¬ (0 ≤ n ∧ n ≤ 562949953421311)) (w : World) :
    Calls Tryd.prog 9 #[.int .i64 n] w fun e w' => e = .returned (.string (bs [])) ∧ w = w' := by
  by_cases h1 : n < 0
  · go_enter Tryd.func9, Tryd.ntmps9
    go_wp2
    go_ret
    exact ⟨rfl, rfl⟩
  · have h2 : 562949953421311 < n := by omega
    go_enter Tryd.func9, Tryd.ntmps9
    go_wp2
    go_ret
    exact ⟨rfl, rfl⟩

theorem spec_var_any (n : Int) (w : World) :
    Calls Tryd.prog 28 #[.int .i64 n] w fun e w' => e = .returned (.string (varS n)) ∧ Below w.heap.size w w' := by
  by_cases h : 0 ≤ n ∧ n ≤ 562949953421311
  · rw [varS, if_pos h]
    obtain ⟨n, rfl⟩ := Int.eq_ofNat_of_zero_le h.1
    exact spec_var_ok n (by omega) w
  · rw [varS, if_neg h]
    exact (spec_var_bad n h w).mono fun e w' ⟨he, hw⟩ => ⟨he, hw ▸ Below.refl _ _⟩

theorem impl_var_any (n : Int) (w : World) :
    Calls Tryd.prog 9 #[.int .i64 n] w fun e w' => e = .returned (.string (varS n)) ∧ Below w.heap.size w w' := by
  by_cases h : 0 ≤ n ∧ n ≤ 562949953421311
  · rw [varS, if_pos h]
    obtain ⟨n, rfl⟩ := Int.eq_ofNat_of_zero_le h.1
    exact impl_var_ok n (by omega) w
  · rw [varS, if_neg h]
    exact (impl_var_bad n h w).mono fun e w' ⟨he, hw⟩ => ⟨he, hw ▸ Below.refl _ _⟩

end Go.Proofs.YtbpghjnkjakhnaaDoor
