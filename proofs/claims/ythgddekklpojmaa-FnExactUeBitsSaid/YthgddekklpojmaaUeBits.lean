/-
  Contracts of UeBits and UeSize, in both texts, and the laws of UeBits and UeSize. Condition: the numbers are ints.
-/
import Derived.Test.YthgddekklpojmaaBitsIn
import Derived.Test.YthgddekklpojmaaBytesOf
import Derived.Test.YthgddekklpojmaaConcat
import Derived.Test.YthgddekklpojmaaReader
import Derived.Test.YthgddekklpojmaaShelf
import Derived.Lib.ItoaNum
import Derived.Deep.RegionHeld3
namespace Go.Proofs.Ythgddekklpojmaa
open Go.RowKit
set_option linter.unusedVariables false

/-- How many zeros stand ahead of a number's code. -/
def ueZ (n : Nat) : Nat := Lib.bitLen (n + 1) - 1
theorem ueZ_spec (n : Nat) (hn : n ≤ 65534) : Lib.bitLen (n + 1) = ueZ n + 1 ∧ ueZ n ≤ 15 ∧ 2 ^ ueZ n ≤ n + 1 ∧ n + 1 < 2 ^ (ueZ n + 1) := by
  obtain ⟨a, b, c⟩ := Lib.bitLenAux_bounds 64 (n + 1) (by omega) (by omega)
  have hL := Lib.bitLen_le (n + 1) 16 (by decide) (by omega)
  unfold Lib.bitLen at hL
  unfold ueZ Lib.bitLen
  generalize Lib.bitLenAux 64 (n + 1) = L at a b c hL ⊢
  refine ⟨by omega, by omega, b, ?_⟩
  rw [show L - 1 + 1 = L by omega]
  exact c
/-- A place at which the code's guard still holds. -/
theorem ueZ_guard (n j : Nat) (hn : n ≤ 65534) : 2 ^ (j + 1) ≤ n + 1 ↔ j < ueZ n := by
  obtain ⟨_, _, h1, h2⟩ := ueZ_spec n hn
  constructor
  · intro h
    refine Nat.lt_of_not_le fun hle => ?_
    have := Nat.pow_le_pow_right (n := 2) (by decide) (show ueZ n + 1 ≤ j + 1 by omega)
    omega
  · intro h
    have := Nat.pow_le_pow_right (n := 2) (by decide) (show j + 1 ≤ ueZ n by omega)
    omega
/-- The number has a code. -/
def ueOk (n : Int) : Bool := decide (0 ≤ n) && decide (n ≤ 65534)
/-- The code of a number that has one. -/
def ueL (n : Nat) : List Int := inL (n + 1) (2 * ueZ n + 1) (2 * ueZ n + 1)
/-- What UeBits gives. -/
def ueR (n : Int) : List Int := if ueOk n then ueL n.toNat else []
theorem ueL_len (n : Nat) : (ueL n).length = 2 * ueZ n + 1 := inL_len _ _ _
theorem ueR_len (n : Int) : (ueR n).length ≤ 31 := by
  unfold ueR
  split
  · rename_i h
    simp only [ueOk, Bool.and_eq_true, decide_eq_true_eq] at h
    have := (ueZ_spec n.toNat (by omega)).2.1
    rw [ueL_len]
    omega
  · simp
/-- The zeros, then the number beyond them. -/
theorem ueL_parts (n : Nat) (hn : n ≤ 65534) : List.replicate (ueZ n) 0 ++ inL (n + 1) (ueZ n + 1) (ueZ n + 1) = ueL n := by
  obtain ⟨_, _, h1, h2⟩ := ueZ_spec n hn
  unfold ueL
  generalize ueZ n = z at h1 h2 ⊢
  refine List.ext_getElem (by simp [inL_len]; omega) fun t g1 g2 => ?_
  have e2 : (inL (n + 1) (2 * z + 1) (2 * z + 1))[t] = (inL (n + 1) (2 * z + 1) (2 * z + 1)).getD t 0 := by
    rw [List.getD_eq_getElem?_getD, List.getElem?_eq_getElem g2]; rfl
  rw [inL_len] at g2
  rw [e2, inL_at _ _ _ _ g2]
  by_cases ht : t < z
  · rw [List.getElem_append_left (by simpa using ht), List.getElem_replicate]
    have : (n + 1) / 2 ^ (2 * z + 1 - 1 - t) = 0 := Nat.div_eq_of_lt (Nat.lt_of_lt_of_le h2 (Nat.pow_le_pow_right (by decide) (by omega)))
    rw [this]
    rfl
  · rw [List.getElem_append_right (by simp; omega)]
    have e3 : ∀ k (hk : k < (inL (n + 1) (z + 1) (z + 1)).length), (inL (n + 1) (z + 1) (z + 1))[k] = (inL (n + 1) (z + 1) (z + 1)).getD k 0 := fun k hk => by
      rw [List.getD_eq_getElem?_getD, List.getElem?_eq_getElem hk]; rfl
    rw [e3, List.length_replicate, inL_at _ _ _ _ (by omega), show 2 * z + 1 - 1 - t = z + 1 - 1 - (t - z) by omega]

set_option maxRecDepth 100000 in
set_option maxHeartbeats 1000000 in
theorem spec_zeros6 (n : Nat) (hn : n ≤ 65534) (w : World) :
    Calls Try.prog 39 #[.int .i64 n] w fun e w' => e = .returned (.int .i64 (ueZ n)) ∧ w = w' := by
  have hz := (ueZ_spec n hn).2.1
  have HG := Lib.hid (ueZ_guard n)
  obtain ⟨z, hzd⟩ : ∃ z, z = ueZ n := ⟨_, rfl⟩
  rw [← hzd] at HG hz ⊢
  clear hzd
  go_enter Try.func39, Try.ntmps39
  go_wp2
  go_loop [3] (fun i => ∃ j : Nat, j ≤ z ∧ i = .int .i64 j) (fun i => z - (intOf i).toNat)
  case atStart => exact ⟨0, Nat.zero_le _, rfl⟩
  case round =>
    obtain ⟨j, hj, rfl⟩ := hrel
    have hzq := in_zero (n + 1) (j + 1)
    rw [show ((n + 1 : Nat) : Int) = (n : Int) + 1 by omega] at hzq
    by_cases hlt : j < z
    · rw [decide_eq_true ((HG.out j hn).2 hlt)] at hzq
      go_wp2
      go_round
      case rel => exact ⟨j + 1, by omega, by go_num⟩
      case measure => simp [intOf]; omega
    · obtain rfl : j = z := by omega
      rw [decide_eq_false (fun h => hlt ((HG.out j hn).1 h))] at hzq
      go_wp2
      go_ret
      exact ⟨rfl, rfl⟩

/-- A row of zeros that was made is owned. -/
theorem own_zeros (w : World) (base z : Nat) (hb : base ≤ w.heap.size) (hz : z ≤ 1000) : (w.alloc (.cells (ivs (List.replicate z 0)).toArray 3)).ownsRow base 3 1 (.slice (some ⟨w.heap.size, 0, none⟩) z z) z (ivs (List.replicate z 0)) := by
  have := own_ints w base (List.replicate z 0) hb (by simp [maxLen]; omega)
  unfold OwnI at this
  rwa [List.length_replicate] at this

/-- The row of zeros made first, then the call's row. -/
theorem ord1 {w w2 : World} {z : Nat} {A : Option Addr} {cap : Nat} {l : List Int} (hz : z ≤ 1000) (hl : l.length ≤ 281474976710656) (ho : OwnI w2 (w.alloc (.cells (ivs (List.replicate z 0)).toArray 3)).drew.heap.size A cap l)
    (hb : Below (w.alloc (.cells (ivs (List.replicate z 0)).toArray 3)).drew.heap.size (w.alloc (.cells (ivs (List.replicate z 0)).toArray 3)).drew w2) :
    Below w.heap.size w w2 ∧ w2.ownsRow w.heap.size 3 1 (.slice (some ⟨w.heap.size, 0, none⟩) z z) z (ivs (List.replicate z 0)) ∧ Ints w2 w2.heap.size A l :=
  ⟨below_step (below_new w _).drew hb, own_keep (own_zeros w w.heap.size z (Nat.le_refl _) hz).drew hb, ho.ints hl⟩
/-- The call's row first, then the row of zeros made. -/
theorem ord2 {w w2 : World} {z : Nat} {A : Option Addr} {cap : Nat} {l : List Int} (hz : z ≤ 1000) (hl : l.length ≤ 281474976710656) (ho : OwnI w2 w.drew.heap.size A cap l) (hb : Below w.drew.heap.size w.drew w2) :
    Below w.heap.size w w2 ∧ Below w.heap.size w (w2.alloc (.cells (ivs (List.replicate z 0)).toArray 3)) ∧ (w2.alloc (.cells (ivs (List.replicate z 0)).toArray 3)).ownsRow w.heap.size 3 1 (.slice (some ⟨w2.heap.size, 0, none⟩) z z) z (ivs (List.replicate z 0)) ∧
      Ints (w2.alloc (.cells (ivs (List.replicate z 0)).toArray 3)) w2.heap.size A l := by
  have b1 : Below w.heap.size w w2 := below_step (Below.drew (Below.refl _ _)) hb
  exact ⟨b1, b1.alloc b1.size _, own_zeros w2 w.heap.size z b1.size hz, (ho.ints hl).kept fun k hk => Below.heap_alloc _ _ _ hk⟩

/-- The library's contract, of a number. -/
theorem len_any (x : Nat) (h : x ≤ 65535) (w : World) : Calls Try.prog 34 #[.int .u64 (x : Int)] w fun e w' => e = .returned (.int .i64 (Lib.bitLen x)) ∧ w' = w := by
  have := Try.bits_Len (x : Int) w (by omega) (by omega)
  rwa [Int.toNat_natCast] at this

set_option maxRecDepth 100000 in
set_option maxHeartbeats 1000000 in
theorem impl_uebits_ok (n : Nat) (hn : n ≤ 65534) (w : World) :
    Calls Try.prog 12 #[.int .i64 n] w fun e w' => ∃ A cap, e = .returned (.slice A (ueL n).length cap) ∧ OwnI w' w.heap.size A cap (ueL n) ∧ Below w.heap.size w w' := by
  obtain ⟨h1, h2, _, h3⟩ := ueZ_spec n hn
  have HL := Lib.hid (len_any (n + 1) (by omega))
  have HB := Lib.hid (impl_bitsin_ok (n + 1) (2 * ueZ n + 1) (by omega) (Nat.lt_of_lt_of_le h3 (Nat.pow_le_pow_right (by decide) (by omega))))
  rw [h1] at HL
  have ec : ((2 * ueZ n + 1 : Nat) : Int) = 2 * ((ueZ n + 1 : Nat) : Int) - 1 := by omega
  rw [ec] at HB
  rw [show inL (n + 1) (2 * ueZ n + 1) (2 * ueZ n + 1) = ueL n from rfl] at HB
  rw [show ((n + 1 : Nat) : Int) = (n : Int) + 1 by omega] at HB HL
  obtain ⟨L, hL⟩ : ∃ L, L = ueZ n + 1 := ⟨_, rfl⟩
  obtain ⟨l, hl⟩ : ∃ l, l = ueL n := ⟨_, rfl⟩
  rw [← hL] at HB HL
  rw [← hl] at HB ⊢
  have hL16 : L ≤ 16 := by omega
  clear ec h1 h2 h3 hL hl
  go_enter Try.func12, Try.ntmps12
  go_wp2_with fail
  refine (HL.out _).mono ?_
  rintro e w' ⟨rfl, rfl⟩
  go_wp2_with fail
  refine (HB.out _).mono ?_
  rintro e w' ⟨A, cap, rfl, ho, hb⟩
  go_wp2
  go_ret
  exact ⟨_, _, rfl, ho, hb⟩

set_option maxRecDepth 100000 in
set_option maxHeartbeats 1000000 in
theorem impl_uebits_bad (n : Int) (h : ueOk n = false) (w : World) :
    Calls Try.prog 12 #[.int .i64 n] w fun e w' => ∃ A cap, e = .returned (.slice A ([] : List Int).length cap) ∧ OwnI w' w.heap.size A cap [] ∧ Below w.heap.size w w' := by
  have HO := Lib.hid (own_none w w.heap.size)
  simp only [ueOk, Bool.and_eq_false_iff, decide_eq_false_iff_not] at h
  by_cases h1 : n < 0
  · have q1 : decide (n < 0) = true := by simpa using h1
    go_enter Try.func12, Try.ntmps12
    go_wp2
    go_ret
    exact ⟨_, _, rfl, HO.out, Below.refl _ _⟩
  · have q1 : decide (n < 0) = false := by simpa using h1
    have q2 : decide (65534 < n) = true := by simp; omega
    clear h h1
    go_enter Try.func12, Try.ntmps12
    go_wp2
    go_ret
    exact ⟨_, _, rfl, HO.out, Below.refl _ _⟩

set_option maxRecDepth 100000 in
set_option maxHeartbeats 1000000 in
theorem spec_uebits_bad (n : Int) (h : ueOk n = false) (w : World) :
    Calls Try.prog 20 #[.int .i64 n] w fun e w' => ∃ A cap, e = .returned (.slice A ([] : List Int).length cap) ∧ OwnI w' w.heap.size A cap [] ∧ Below w.heap.size w w' := by
  have HO := Lib.hid (own_ints w w.heap.size [] (Nat.le_refl _) (by simp))
  have HB := Lib.hid ((Below.refl w.heap.size w).alloc (Nat.le_refl _) (.cells (ivs []).toArray 3))
  have LI := Lib.hid (l1In_any n 0 65534)
  rw [show (decide (0 ≤ n) && decide (n ≤ 65534)) = false from h] at LI
  clear h
  go_enter Try.func20, Try.ntmps20
  go_wp2_with fail
  refine (LI.out _).mono ?_
  rintro e w' ⟨rfl, rfl⟩
  go_wp2
  go_ret
  exact ⟨_, _, rfl, HO.out, HB.out⟩

set_option maxRecDepth 100000 in
set_option maxHeartbeats 1000000 in
theorem spec_uebits_ok (n : Nat) (hn : n ≤ 65534) (w : World) :
    Calls Try.prog 20 #[.int .i64 n] w fun e w' => ∃ A cap, e = .returned (.slice A (ueL n).length cap) ∧ OwnI w' w.heap.size A cap (ueL n) ∧ Below w.heap.size w w' := by
  obtain ⟨i0, hi, hz0, hz1, hz2⟩ := info_parts Try.iinfo
  obtain ⟨h1, h2, _, h3⟩ := ueZ_spec n hn
  have LI := Lib.hid (l1In_any n 0 65534)
  rw [show (decide (0 ≤ (n : Int)) && decide ((n : Int) ≤ 65534)) = true by simp; omega] at LI
  have HZ := Lib.hid (spec_zeros6 n hn)
  have HB := Lib.hid (spec_bitsin_ok (n + 1) (ueZ n + 1) (by omega) h3)
  have HP := Lib.hid (ueL_parts n hn)
  rw [show ((n + 1 : Nat) : Int) = (n : Int) + 1 by omega, show ((ueZ n + 1 : Nat) : Int) = (ueZ n : Int) + 1 by omega] at HB
  obtain ⟨z, hz⟩ : ∃ z, z = ueZ n := ⟨_, rfl⟩
  obtain ⟨l, hl⟩ : ∃ l, l = inL (n + 1) (ueZ n + 1) (ueZ n + 1) := ⟨_, rfl⟩
  have hll : l.length = ueZ n + 1 := by rw [hl, inL_len]
  rw [← hl] at HB HP
  rw [← hz] at HB HP HZ hll h2
  clear h1 h3 hl hz
  have hl16 : l.length ≤ 16 := by omega
  have HLL := Lib.hid hll; clear hll
  have MK := Lib.hid (make_ints z (z : Int) rfl (by omega))
  have IO := Lib.hid (@own_ints)
  go_enter Try.func20, Try.ntmps20
  go_wp2_with fail
  refine (LI.out _).mono ?_
  rintro e w' ⟨rfl, rfl⟩
  go_wp2_with fail
  refine (HZ.out _).mono ?_
  rintro e w' ⟨rfl, rfl⟩
  have mk := MK.out
  have s1 : IntKind.i64.wrap ((n : Int) + 1) = (n : Int) + 1 := IntWalk.i64_in _ (by omega)
  have s2 : IntKind.i64.wrap ((z : Int) + 1) = (z : Int) + 1 := IntWalk.i64_in _ (by omega)
  go_wp2_with fail
  have ZZ := Lib.hid (own_zeros)
  have hz1000 : z ≤ 1000 := by omega
  have hlm : l.length ≤ 281474976710656 := by omega
  have hsum : z + l.length ≤ 4000000 := by omega
  go_region_held3 (fun w' => Below w.heap.size w w') (first | exact Below.drew (Below.refl _ _) | exact (below_new _ _).drew | assumption) (first
    | (go_at_call 40; refine (HB.out _).mono ?_; rintro e w2 ⟨A2, c2, rfl, ho2, hb2⟩; have P2 := Lib.hid ho2.placed; obtain ⟨b2, o2, r2⟩ := ord1 hz1000 hlm ho2 hb2; have O2 := Lib.hid o2; have R2 := Lib.hid r2; clear ho2 hb2 o2 r2)
    | (go_at_call 40; refine (HB.out _).mono ?_; rintro e w2 ⟨A2, c2, rfl, ho2, hb2⟩; have P2 := Lib.hid ho2.placed; obtain ⟨b1, b2, o2, r2⟩ := ord2 hz1000 hlm ho2 hb2; have O2 := Lib.hid o2; have R2 := Lib.hid r2; clear ho2 hb2 o2 r2)
    | (refine step_append_ints rfl (.tmp 11) (.tmp 16) 25 rfl w i0 Try.underlying25 hi hz0 hz1 hz2 _ _ _ rfl O2.out _ _ _ _ rfl rfl _ R2.out P2.out hsum ?_ ?_; assumption; intro v3 w3 hown3 hb3)
    | fail)
  all_goals
    go_wp2
    rw [HP.out] at hown3
    have hlen : (ueL n).length = z + l.length := by rw [← HP.out]; simp
    have hne : (ueL n).length ≠ 0 := by rw [ueL_len]; omega
    rw [← hlen] at hown3
    rcases hown3.2 with ⟨rfl, h0⟩ | ⟨g, cap, cur, rfl, _⟩
    · exact absurd h0 hne
    · go_ret
      exact ⟨_, _, rfl, hown3, by assumption⟩

theorem impl_uebits_any (n : Int) (w : World) :
    Calls Try.prog 12 #[.int .i64 n] w fun e w' => ∃ A cap, e = .returned (.slice A (ueR n).length cap) ∧ OwnI w' w.heap.size A cap (ueR n) ∧ Below w.heap.size w w' := by
  cases h : ueOk n with
  | true =>
    have h2 := h
    simp only [ueOk, Bool.and_eq_true, decide_eq_true_eq] at h2
    obtain ⟨a, rfl⟩ := Int.eq_ofNat_of_zero_le h2.1
    have e : ueR a = ueL a := by rw [ueR, h]; rfl
    rw [e]
    exact impl_uebits_ok a (by omega) w
  | false =>
    have e : ueR n = [] := by rw [ueR, h]; rfl
    rw [e]
    exact impl_uebits_bad n h w
theorem spec_uebits_any (n : Int) (w : World) :
    Calls Try.prog 20 #[.int .i64 n] w fun e w' => ∃ A cap, e = .returned (.slice A (ueR n).length cap) ∧ OwnI w' w.heap.size A cap (ueR n) ∧ Below w.heap.size w w' := by
  cases h : ueOk n with
  | true =>
    have h2 := h
    simp only [ueOk, Bool.and_eq_true, decide_eq_true_eq] at h2
    obtain ⟨a, rfl⟩ := Int.eq_ofNat_of_zero_le h2.1
    have e : ueR a = ueL a := by rw [ueR, h]; rfl
    rw [e]
    exact spec_uebits_ok a (by omega) w
  | false =>
    have e : ueR n = [] := by rw [ueR, h]; rfl
    rw [e]
    exact spec_uebits_bad n h w

set_option maxRecDepth 100000 in
set_option maxHeartbeats 1000000 in
/-- The law's own walk, by contracts of the two texts that answer with a row. -/
theorem fnExactUeBits_walk (n : Int) (hn : (Lit.int .i64 n).wf = true) (w : World) :
    Calls Try.prog 5 #[.int .i64 n] w fun e w' => e = .returned (.bool true) ∧ Below w.heap.size w w' := by
  have SP := Lib.hid (spec_uebits_any n)
  have IM := Lib.hid (impl_uebits_any n)
  obtain ⟨l, hl⟩ : ∃ l, l = ueR n := ⟨_, rfl⟩
  have hlen : l.length ≤ 31 := by rw [hl]; exact ueR_len n
  rw [← hl] at SP IM
  clear hl hn
  have EQ := Lib.hid @eqints_any
  have MK := Lib.hid @markints_any
  have HE := Lib.hid @heldints_any
  have hm0 : decide ((1 : Int) + (l.length : Int) < 0) = false := by simp; omega
  have hq : ((1 : Int) + (l.length : Int) != 1 + (l.length : Int)) = false := by simp
  go_enter Try.func5, Try.ntmps5
  go_wp2_with fail
  refine (SP.out _).mono ?_
  rintro e w1 ⟨A0, c0, rfl, ho0, hb1⟩
  have R0 := Lib.hid (ho0.ints (by omega)); clear ho0
  have B1 := Lib.hid hb1; clear hb1
  go_wp2_with fail
  refine (IM.out _).mono ?_
  rintro e w2 ⟨A1, c1, rfl, ho1, hb2⟩
  have O1 := Lib.hid ho1; clear ho1
  have B2 := Lib.hid hb2; clear hb2
  go_wp2_with fail
  refine (EQ.out _ _ _ _ _ _ _ (O1.out.ints (by omega)) ((R0.out.below B2.out (Nat.le_refl _)).mono B2.out.size)).mono ?_
  rintro e w3 ⟨rfl, hb3⟩
  have B3 := Lib.hid hb3; clear hb3
  have O3 := Lib.hid (O1.out.kept B3.out (Nat.le_refl _))
  go_wp2_with fail
  refine (MK.out _ _ _ _ _ (by omega) (by omega) (by omega) _ O3.out).mono ?_
  rintro e w4 ⟨rfl, ho4, hg4⟩
  have B4 := Lib.hid (O3.out.marked hg4 (B := w1.heap.size) (Nat.le_refl _) (Nat.le_trans B2.out.size B3.out.size)); clear hg4
  have M4 := Lib.hid (ho4.ints (by rw [markL_len]; omega)); clear ho4
  go_wp2_with fail
  refine (HE.out _ _ _ _ (by omega) (by omega) _ M4.out).mono ?_
  rintro e w5 ⟨rfl, hb5⟩
  have B5 := Lib.hid hb5; clear hb5
  go_wp2_with fail
  refine (IM.out _).mono ?_
  rintro e w6 ⟨A2, c2, rfl, ho6, hb6⟩
  have R6 := Lib.hid (ho6.ints (by omega)); clear ho6
  have B6 := Lib.hid hb6; clear hb6
  have C4 := Lib.hid ((B2.out.trans (B3.out.mono B2.out.size)).trans B4.out)
  have C6 := Lib.hid (below_up B5.out B6.out B5.out.size)
  have E6 := Lib.hid (((R0.out.below C4.out (Nat.le_refl _)).below C6.out C4.out.size).mono (Nat.le_trans C4.out.size C6.out.size))
  go_wp2_with fail
  refine (EQ.out _ _ _ _ _ _ _ R6.out E6.out).mono ?_
  rintro e w7 ⟨rfl, hb7⟩
  have B7 := Lib.hid hb7; clear hb7
  have C7 := Lib.hid (below_up C6.out B7.out C6.out.size)
  have M7 := Lib.hid ((M4.out.below C7.out (Nat.le_refl _)).mono C7.out.size)
  go_wp2_with fail
  refine (HE.out _ _ _ _ (by omega) (by omega) _ M7.out).mono ?_
  rintro e w8 ⟨rfl, hb8⟩
  go_wp2
  go_ret
  refine ⟨rfl, ?_⟩
  have D4 := below_up B1.out C4.out B1.out.size
  have D7 := below_up D4 C7.out D4.size
  exact below_up D7 hb8 D7.size

/-- What UeSize gives. -/
def usV (n : Int) : Int := ((ueR n).length : Int)

set_option maxRecDepth 100000 in
set_option maxHeartbeats 400000 in
theorem impl_uesize_any (n : Int) (w : World) :
    Calls Try.prog 13 #[.int .i64 n] w fun e w' => e = .returned (.int .i64 (usV n)) ∧ Below w.heap.size w w' := by
  have IM := Lib.hid (impl_uebits_any n)
  have hv : usV n = ((ueR n).length : Int) := rfl
  rw [hv]
  clear hv
  obtain ⟨l, hl⟩ : ∃ l, l = ueR n := ⟨_, rfl⟩
  rw [← hl] at IM ⊢
  clear hl
  go_enter Try.func13, Try.ntmps13
  go_wp2_with fail
  refine (IM.out _).mono ?_
  rintro e w1 ⟨A, cap, rfl, ho, hb⟩
  go_wp2
  go_ret
  exact ⟨rfl, hb⟩

set_option maxRecDepth 100000 in
set_option maxHeartbeats 400000 in
theorem spec_uesize_any (n : Int) (w : World) :
    Calls Try.prog 30 #[.int .i64 n] w fun e w' => e = .returned (.int .i64 (usV n)) ∧ w = w' := by
  have LI := Lib.hid (l1In_any n 0 65534)
  cases h : ueOk n with
  | true =>
    rw [show (decide (0 ≤ n) && decide (n ≤ 65534)) = true from h] at LI
    have h2 := h
    simp only [ueOk, Bool.and_eq_true, decide_eq_true_eq] at h2
    obtain ⟨a, rfl⟩ := Int.eq_ofNat_of_zero_le h2.1
    have ha : a ≤ 65534 := by omega
    have HZ := Lib.hid (spec_zeros6 a ha)
    have hz := (ueZ_spec a ha).2.1
    have hv : usV a = 2 * (ueZ a : Int) + 1 := by
      unfold usV ueR
      rw [h, if_pos rfl, Int.toNat_natCast, ueL_len]
      omega
    rw [hv]
    obtain ⟨z, hzd⟩ : ∃ z, z = ueZ a := ⟨_, rfl⟩
    rw [← hzd] at HZ hz ⊢
    clear h h2 hv hzd ha
    go_enter Try.func30, Try.ntmps30
    go_wp2_with fail
    refine (LI.out _).mono ?_
    rintro e w' ⟨rfl, rfl⟩
    go_wp2_with fail
    refine (HZ.out _).mono ?_
    rintro e w' ⟨rfl, rfl⟩
    go_wp2
    go_ret
    exact ⟨rfl, rfl⟩
  | false =>
    rw [show (decide (0 ≤ n) && decide (n ≤ 65534)) = false from h] at LI
    have hv : usV n = 0 := by
      unfold usV ueR
      rw [h]
      rfl
    rw [hv]
    clear h hv
    go_enter Try.func30, Try.ntmps30
    go_wp2_with fail
    refine (LI.out _).mono ?_
    rintro e w' ⟨rfl, rfl⟩
    go_wp2
    go_ret
    exact ⟨rfl, rfl⟩

set_option maxRecDepth 100000 in
set_option maxHeartbeats 400000 in
/-- The law's own walk. -/
theorem fnExactUeSize_walk (n : Int) (hn : (Lit.int .i64 n).wf = true) (w : World) :
    Calls Try.prog 9 #[.int .i64 n] w fun e w' => e = .returned (.bool true) ∧ Below w.heap.size w w' := by
  have SP := Lib.hid (spec_uesize_any n)
  have IM := Lib.hid (impl_uesize_any n)
  obtain ⟨x, hx⟩ : ∃ x, x = usV n := ⟨_, rfl⟩
  rw [← hx] at SP IM
  have q1 : (x != x) = false := by simp
  clear hx hn
  go_enter Try.func9, Try.ntmps9
  go_wp2_with fail
  refine (SP.out _).mono ?_
  rintro e w' ⟨rfl, rfl⟩
  go_wp2_with fail
  refine (IM.out _).mono ?_
  rintro e w' ⟨rfl, hb⟩
  have B := Lib.hid hb; clear hb
  go_wp2
  go_ret
  exact ⟨rfl, B.out⟩
end Go.Proofs.Ythgddekklpojmaa
