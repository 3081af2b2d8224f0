/-
  Contracts of UeBits and UeSize, in both texts, and the laws of UeBits and UeSize. Condition: the numbers are ints.
-/
import Derived.Test.YtgacldhpohnpaaaBits1
import Derived.Test.YtgacldhpohnpaaaRead
import Derived.Test.YtgacldhpohnpaaaShelf
import Derived.Lib.ItoaNum
import Derived.Deep.RegionHeld3
namespace Go.Proofs.Ytgacldhpohnpaaa
open Go.RowKit
set_option linter.unusedVariables false

/-- How many zeros stand ahead of a number's code. -/
def ueZ (n : Nat) : Nat := Lib.bitLen (n + 1) - 1
theorem ueZ_spec (n : Nat) (hn : n ≤ 65534) : Lib.bitLen (n + 1) = ueZ n + 1 ∧ ueZ n ≤ 15 ∧ 2 ^ ueZ n ≤ n + 1 ∧ n + 1 < 2 ^ (ueZ n + 1) := by
  obtain ⟨a, b, c⟩ := Lib.bitLenAux_bounds 64 (n + 1) (by omega) (by omega)
  have hL := Lib.bitLen_le (n + 1) 16 (by decide) (by omega)
  unfold Lib.bitLen at hL
  unfold ueZ Lib.bitLen
  generalize Lib.bitLenAux 64 (n + 1) = L at a b c hL ⊢
  refine ⟨by omega, by omega, b, ?_⟩
  rw [show L - 1 + 1 = L by omega]
  exact c
/-- A place at which the code's guard still holds. -/
theorem ueZ_guard (n j : Nat) (hn : n ≤ 65534) : 2 ^ (j + 1) ≤ n + 1 ↔ j < ueZ n := by
  obtain ⟨_, _, h1, h2⟩ := ueZ_spec n hn
  constructor
  · intro h
    refine Nat.lt_of_not_le fun hle => ?_
    have := Nat.pow_le_pow_right (n := 2) (by decide) (show ueZ n + 1 ≤ j + 1 by omega)
    omega
  · intro h
    have := Nat.pow_le_pow_right (n := 2) (by decide) (show j + 1 ≤ ueZ n by omega)
    omega
/-- The number has a code. -/
def ueOk (n : Int) : Bool := decide (0 ≤ n) && decide (n ≤ 65534)
/-- The code of a number that has one. -/
def ueL (n : Nat) : List Int := inL (n + 1) (2 * ueZ n + 1) (2 * ueZ n + 1)
/-- What UeBits gives. -/
def ueR (n : Int) : List Int := if ueOk n then ueL n.toNat else []
theorem ueL_len (n : Nat) : (ueL n).length = 2 * ueZ n + 1 := inL_len _ _ _
theorem ueR_len (n : Int) : (ueR n).length ≤ 31 := by
  unfold ueR
  split
  · rename_i h
    simp only [ueOk, Bool.and_eq_true, decide_eq_true_eq] at h
    have := (ueZ_spec n.toNat (by omega)).2.1
    rw [ueL_len]
    omega
  · simp
/-- The zeros, then the number beyond them. -/
theorem ueL_parts (n : Nat) (hn : n ≤ 65534) : List.replicate (ueZ n) 0 ++ inL (n + 1) (ueZ n + 1) (ueZ n + 1) = ueL n := by
  obtain ⟨_, _, h1, h2⟩ := ueZ_spec n hn
  unfold ueL
  generalize ueZ n = z at h1 h2 ⊢
  refine List.ext_getElem (by simp [inL_len]; omega) fun t g1 g2 => ?_
  have e2 : (inL (n + 1) (2 * z + 1) (2 * z + 1))[t] = (inL (n + 1) (2 * z + 1) (2 * z + 1)).getD t 0 := by
    rw [List.getD_eq_getElem?_getD, List.getElem?_eq_getElem g2]; rfl
  rw [inL_len] at g2
  rw [e2, inL_at _ _ _ _ g2]
  by_cases ht : t < z
  · rw [List.getElem_append_left (by simpa using ht), List.getElem_replicate]
    have : (n + 1) / 2 ^ (2 * z + 1 - 1 - t) = 0 := Nat.div_eq_of_lt (Nat.lt_of_lt_of_le h2 (Nat.pow_le_pow_right (by decide) (by omega)))
    rw [this]
    rfl
  · rw [List.getElem_append_right (by simp; omega)]
    have e3 : ∀ k (hk : k < (inL (n + 1) (z + 1) (z + 1)).length), (inL (n + 1) (z + 1) (z + 1))[k] = (inL (n + 1) (z + 1) (z + 1)).getD k 0 := fun k hk => by
      rw [List.getD_eq_getElem?_getD, List.getElem?_eq_getElem hk]; rfl
    rw [e3, List.length_replicate, inL_at _ _ _ _ (by omega), show 2 * z + 1 - 1 - t = z + 1 - 1 - (t - z) by omega]

set_option maxRecDepth 100000 in
set_option maxHeartbeats 1000000 in
theorem spec_zeros6 (n : Nat) (hn : n ≤ 65534) (w : World) :
    Calls Try.prog 114 #[.int .i64 n] w fun e w' => e = .returned (.int .i64 (ueZ n)) ∧ w = w' := by
  have hz := (ueZ_spec n hn).2.1
  have HG := Lib.hid (ueZ_guard n)
  obtain ⟨z, hzd⟩ : ∃ z, z = ueZ n := ⟨_, rfl⟩
  rw [← hzd] at HG hz ⊢
  clear hzd
  go_enter Try.func114, Try.ntmps114
  go_wp2
  go_loop [3] (fun i => ∃ j : Nat, j ≤ z ∧ i = .int .i64 j) (fun i => z - (intOf i).toNat)
  case atStart => exact ⟨0, Nat.zero_le _, rfl⟩
  case round =>
    obtain ⟨j, hj, rfl⟩ := hrel
    have hzq := in_zero (n + 1) (j + 1)
    rw [show ((n + 1 : Nat) : Int) = (n : Int) + 1 by omega] at hzq
    by_cases hlt : j < z
    · rw [decide_eq_true ((HG.out j hn).2 hlt)] at hzq
      go_wp2
      go_round
      case rel => exact ⟨j + 1, by omega, by go_num⟩
      case measure => simp [intOf]; omega
    · obtain rfl : j = z := by omega
      rw [decide_eq_false (fun h => hlt ((HG.out j hn).1 h))] at hzq
      go_wp2
      go_ret
      exact ⟨rfl, rfl⟩

/-- A row of zeros that was made is owned. -/
theorem own_zeros (w : World) (base z : Nat) (hb : base ≤ w.heap.size) (hz : z ≤ 1000) : (w.alloc (.cells (ivs (List.replicate z 0)).toArray 3)).ownsRow base 3 1 (.slice (some ⟨w.heap.size, 0, none⟩) z z) z (ivs (List.replicate z 0)) := by
  have := own_ints w base (List.replicate z 0) hb (by simp [maxLen]; omega)
  unfold OwnI at this
  rwa [List.length_replicate] at this

/-- The row of zeros made first, then the call's row. -/
theorem ord1 {w w2 : World} {z : Nat} {A : Option Addr} {cap : Nat} {l : List Int} (hz : z ≤ 1000) (hl : l.length ≤ 281474976710656) (ho : OwnI w2 (w.alloc (.cells (ivs (List.replicate z 0)).toArray 3)).drew.heap.size A cap l)
    (hb : Below (w.alloc (.cells (ivs (List.replicate z 0)).toArray 3)).drew.heap.size (w.alloc (.cells (ivs (List.replicate z 0)).toArray 3)).drew w2) :
    Below w.heap.size w w2 ∧ w2.ownsRow w.heap.size 3 1 (.slice (some ⟨w.heap.size, 0, none⟩) z z) z (ivs (List.replicate z 0)) ∧ Ints w2 w2.heap.size A l :=
  ⟨below_step (below_new w _).drew hb, own_keep (own_zeros w w.heap.size z (Nat.le_refl _) hz).drew hb, ho.ints hl⟩
/-- The call's row first, then the row of zeros made. -/
theorem ord2 {w w2 : World} {z : Nat} {A : Option Addr} {cap : Nat} {l : List Int} (hz : z ≤ 1000) (hl : l.length ≤ 281474976710656) (ho : OwnI w2 w.drew.heap.size A cap l) (hb : Below w.drew.heap.size w.drew w2) :
    Below w.heap.size w w2 ∧ Below w.heap.size w (w2.alloc (.cells (ivs (List.replicate z 0)).toArray 3)) ∧ (w2.alloc (.cells (ivs (List.replicate z 0)).toArray 3)).ownsRow w.heap.size 3 1 (.slice (some ⟨w2.heap.size, 0, none⟩) z z) z (ivs (List.replicate z 0)) ∧
      Ints (w2.alloc (.cells (ivs (List.replicate z 0)).toArray 3)) w2.heap.size A l := by
  have b1 : Below w.heap.size w w2 := below_step (Below.drew (Below.refl _ _)) hb
  exact ⟨b1, b1.alloc b1.size _, own_zeros w2 w.heap.size z b1.size hz, (ho.ints hl).kept fun k hk => Below.heap_alloc _ _ _ hk⟩

/-- The library's contract, of a number. -/
theorem len_any (x : Nat) (h : x ≤ 65535) (w : World) : Calls Try.prog 104 #[.int .u64 (x : Int)] w fun e w' => e = .returned (.int .i64 (Lib.bitLen x)) ∧ w' = w := by
  have := Try.bits_Len (x : Int) w (by omega) (by omega)
  rwa [Int.toNat_natCast] at this

set_option maxRecDepth 100000 in
set_option maxHeartbeats 1000000 in
theorem spec_uebits_bad (n : Int) (h : ueOk n = false) (w : World) :
    Calls Try.prog 93 #[.int .i64 n] w fun e w' => ∃ A cap, e = .returned (.slice A ([] : List Int).length cap) ∧ OwnI w' w.heap.size A cap [] ∧ Below w.heap.size w w' := by
  have HO := Lib.hid (own_ints w w.heap.size [] (Nat.le_refl _) (by simp))
  have HB := Lib.hid ((Below.refl w.heap.size w).alloc (Nat.le_refl _) (.cells (ivs []).toArray 3))
  have LI := Lib.hid (l1In_any n 0 65534)
  rw [show (decide (0 ≤ n) && decide (n ≤ 65534)) = false from h] at LI
  clear h
  go_enter Try.func93, Try.ntmps93
  go_wp2_with fail
  refine (LI.out _).mono ?_
  rintro e w' ⟨rfl, rfl⟩
  go_wp2
  go_ret
  exact ⟨_, _, rfl, HO.out, HB.out⟩

set_option maxRecDepth 100000 in
set_option maxHeartbeats 1000000 in
theorem spec_uebits_ok (n : Nat) (hn : n ≤ 65534) (w : World) :
    Calls Try.prog 93 #[.int .i64 n] w fun e w' => ∃ A cap, e = .returned (.slice A (ueL n).length cap) ∧ OwnI w' w.heap.size A cap (ueL n) ∧ Below w.heap.size w w' := by
  obtain ⟨i0, hi, hz0, hz1, hz2⟩ := info_parts Try.iinfo
  obtain ⟨h1, h2, _, h3⟩ := ueZ_spec n hn
  have LI := Lib.hid (l1In_any n 0 65534)
  rw [show (decide (0 ≤ (n : Int)) && decide ((n : Int) ≤ 65534)) = true by simp; omega] at LI
  have HZ := Lib.hid (spec_zeros6 n hn)
  have HB := Lib.hid (spec_bitsin_ok (n + 1) (ueZ n + 1) (by omega) h3)
  have HP := Lib.hid (ueL_parts n hn)
  rw [show ((n + 1 : Nat) : Int) = (n : Int) + 1 by omega, show ((ueZ n + 1 : Nat) : Int) = (ueZ n : Int) + 1 by omega] at HB
  obtain ⟨z, hz⟩ : ∃ z, z = ueZ n := ⟨_, rfl⟩
  obtain ⟨l, hl⟩ : ∃ l, l = inL (n + 1) (ueZ n + 1) (ueZ n + 1) := ⟨_, rfl⟩
  have hll : l.length = ueZ n + 1 := by rw [hl, inL_len]
  rw [← hl] at HB HP
  rw [← hz] at HB HP HZ hll h2
  clear h1 h3 hl hz
  have hl16 : l.length ≤ 16 := by omega
  have HLL := Lib.hid hll; clear hll
  have MK := Lib.hid (make_ints z (z : Int) rfl (by omega))
  have IO := Lib.hid (@own_ints)
  go_enter Try.func93, Try.ntmps93
  go_wp2_with fail
  refine (LI.out _).mono ?_
  rintro e w' ⟨rfl, rfl⟩
  go_wp2_with fail
  refine (HZ.out _).mono ?_
  rintro e w' ⟨rfl, rfl⟩
  have mk := MK.out
  have s1 : IntKind.i64.wrap ((n : Int) + 1) = (n : Int) + 1 := IntWalk.i64_in _ (by omega)
  have s2 : IntKind.i64.wrap ((z : Int) + 1) = (z : Int) + 1 := IntWalk.i64_in _ (by omega)
  go_wp2_with fail
  have ZZ := Lib.hid (own_zeros)
  have hz1000 : z ≤ 1000 := by omega
  have hlm : l.length ≤ 281474976710656 := by omega
  have hsum : z + l.length ≤ 4000000 := by omega
  go_region_held3 (fun w' => Below w.heap.size w w') (first | exact Below.drew (Below.refl _ _) | exact (below_new _ _).drew | assumption) (first
    | (go_at_call 90; refine (HB.out _).mono ?_; rintro e w2 ⟨A2, c2, rfl, ho2, hb2⟩; have P2 := Lib.hid ho2.placed; obtain ⟨b2, o2, r2⟩ := ord1 hz1000 hlm ho2 hb2; have O2 := Lib.hid o2; have R2 := Lib.hid r2; clear ho2 hb2 o2 r2)
    | (go_at_call 90; refine (HB.out _).mono ?_; rintro e w2 ⟨A2, c2, rfl, ho2, hb2⟩; have P2 := Lib.hid ho2.placed; obtain ⟨b1, b2, o2, r2⟩ := ord2 hz1000 hlm ho2 hb2; have O2 := Lib.hid o2; have R2 := Lib.hid r2; clear ho2 hb2 o2 r2)
    | (refine step_append_ints rfl (.tmp 11) (.tmp 16) 39 rfl w i0 Try.underlying39 hi hz0 hz1 hz2 _ _ _ rfl O2.out _ _ _ _ rfl rfl _ R2.out P2.out hsum ?_ ?_; assumption; intro v3 w3 hown3 hb3)
    | fail)
  all_goals
    go_wp2
    rw [HP.out] at hown3
    have hlen : (ueL n).length = z + l.length := by rw [← HP.out]; simp
    have hne : (ueL n).length ≠ 0 := by rw [ueL_len]; omega
    rw [← hlen] at hown3
    rcases hown3.2 with ⟨rfl, h0⟩ | ⟨g, cap, cur, rfl, _⟩
    · exact absurd h0 hne
    · go_ret
      exact ⟨_, _, rfl, hown3, by assumption⟩

theorem spec_uebits_any (n : Int) (w : World) :
    Calls Try.prog 93 #[.int .i64 n] w fun e w' => ∃ A cap, e = .returned (.slice A (ueR n).length cap) ∧ OwnI w' w.heap.size A cap (ueR n) ∧ Below w.heap.size w w' := by
  cases h : ueOk n with
  | true =>
    have h2 := h
    simp only [ueOk, Bool.and_eq_true, decide_eq_true_eq] at h2
    obtain ⟨a, rfl⟩ := Int.eq_ofNat_of_zero_le h2.1
    have e : ueR a = ueL a := by rw [ueR, h]; rfl
    rw [e]
    exact spec_uebits_ok a (by omega) w
  | false =>
    have e : ueR n = [] := by rw [ueR, h]; rfl
    rw [e]
    exact spec_uebits_bad n h w

/-- What UeSize gives. -/
def usV (n : Int) : Int := ((ueR n).length : Int)

set_option maxRecDepth 100000 in
set_option maxHeartbeats 400000 in
theorem spec_uesize_any (n : Int) (w : World) :
    Calls Try.prog 105 #[.int .i64 n] w fun e w' => e = .returned (.int .i64 (usV n)) ∧ w = w' := by
  have LI := Lib.hid (l1In_any n 0 65534)
  cases h : ueOk n with
  | true =>
    rw [show (decide (0 ≤ n) && decide (n ≤ 65534)) = true from h] at LI
    have h2 := h
    simp only [ueOk, Bool.and_eq_true, decide_eq_true_eq] at h2
    obtain ⟨a, rfl⟩ := Int.eq_ofNat_of_zero_le h2.1
    have ha : a ≤ 65534 := by omega
    have HZ := Lib.hid (spec_zeros6 a ha)
    have hz := (ueZ_spec a ha).2.1
    have hv : usV a = 2 * (ueZ a : Int) + 1 := by
      unfold usV ueR
      rw [h, if_pos rfl, Int.toNat_natCast, ueL_len]
      omega
    rw [hv]
    obtain ⟨z, hzd⟩ : ∃ z, z = ueZ a := ⟨_, rfl⟩
    rw [← hzd] at HZ hz ⊢
    clear h h2 hv hzd ha
    go_enter Try.func105, Try.ntmps105
    go_wp2_with fail
    refine (LI.out _).mono ?_
    rintro e w' ⟨rfl, rfl⟩
    go_wp2_with fail
    refine (HZ.out _).mono ?_
    rintro e w' ⟨rfl, rfl⟩
    go_wp2
    go_ret
    exact ⟨rfl, rfl⟩
  | false =>
    rw [show (decide (0 ≤ n) && decide (n ≤ 65534)) = false from h] at LI
    have hv : usV n = 0 := by
      unfold usV ueR
      rw [h]
      rfl
    rw [hv]
    clear h hv
    go_enter Try.func105, Try.ntmps105
    go_wp2_with fail
    refine (LI.out _).mono ?_
    rintro e w' ⟨rfl, rfl⟩
    go_wp2
    go_ret
    exact ⟨rfl, rfl⟩

end Go.Proofs.Ytgacldhpohnpaaa
