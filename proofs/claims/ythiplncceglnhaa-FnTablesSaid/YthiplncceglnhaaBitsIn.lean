/-
  Contracts of BitsIn, in both texts, and the law of BitsIn. Condition: the numbers are ints.
-/
import Derived.Test.YthiplncceglnhaaVar
import Derived.Test.YthiplncceglnhaaInts
namespace Go.Proofs.Ythiplncceglnhaa
open Go.RowKit
set_option linter.unusedVariables false

/-- The first `k` of the `w` bits of `n`. -/
def inL (n w k : Nat) : List Int := (List.range k).map fun (i : Nat) => ((n / 2 ^ (w - 1 - i) % 2 : Nat) : Int)
theorem inL_len (n w k : Nat) : (inL n w k).length = k := by simp [inL]
theorem inL_at (n w k j : Nat) (h : j < k) : (inL n w k).getD j 0 = ((n / 2 ^ (w - 1 - j) % 2 : Nat) : Int) := by
  rw [List.getD_eq_getElem?_getD]
  simp [inL, h]
theorem inL_snoc (n w k : Nat) : inL n w (k + 1) = inL n w k ++ [((n / 2 ^ (w - 1 - k) % 2 : Nat) : Int)] := by
  unfold inL
  rw [List.range_succ, List.map_append]
  rfl
/-- The number and the width are such that there are bits. -/
def inOk (n w : Int) : Bool := decide (0 ≤ w) && decide (w ≤ 48) && decide (0 ≤ n) && decide (n < 2 ^ w.toNat)
/-- What BitsIn gives. -/
def inR (n w : Int) : List Int := if inOk n w then inL n.toNat w.toNat w.toNat else []

theorem in_div (n k : Nat) (hn : n ≤ 9223372036854775807) : ∃ d : Nat, (n : Int) / 2 ^ k = (d : Int) ∧ d = n / 2 ^ k ∧ d ≤ 9223372036854775807 :=
  ⟨n / 2 ^ k, by norm_cast, rfl, Nat.le_trans (Nat.div_le_self _ _) hn⟩
theorem in_and (n k : Nat) (hn : n ≤ 9223372036854775807) : bits .and .i64 ((n : Int) / 2 ^ k) 1 = ((n / 2 ^ k % 2 : Nat) : Int) := by
  obtain ⟨d, h1, h2, h3⟩ := in_div n k hn
  rw [h1, ← h2, and_i64 1 _ 1 (by decide) (by decide) (by omega) (by omega)]
  omega
theorem in_zero (n k : Nat) : (((n : Int) / 2 ^ k) != 0) = decide (2 ^ k ≤ n) := by
  have h : (n : Int) / 2 ^ k = ((n / 2 ^ k : Nat) : Int) := by norm_cast
  rw [h]
  by_cases hle : 2 ^ k ≤ n
  · rw [decide_eq_true hle, bne_iff_ne]
    have := Nat.div_pos hle (Nat.pow_pos (by decide))
    omega
  · rw [decide_eq_false hle, bne_eq_false_iff_eq, Nat.div_eq_of_lt (by omega)]
    rfl

/-- No bits: nil, or an empty row. -/
theorem own_none (w : World) (base : Nat) : OwnI w base none 0 [] := World.ownsRow_nil w base 3 1

set_option maxRecDepth 100000 in
set_option maxHeartbeats 1000000 in
theorem spec_bitsin_bad (n k : Int) (h : inOk n k = false) (hn : (Lit.int .i64 n).wf = true) (w : World) :
    Calls Try.prog 72 #[.int .i64 n, .int .i64 k] w fun e w' => ∃ A cap, e = .returned (.slice A ([] : List Int).length cap) ∧ OwnI w' w.heap.size A cap [] ∧ Below w.heap.size w w' := by
  have HO := Lib.hid (own_ints w w.heap.size [] (Nat.le_refl _) (by simp))
  have HB := Lib.hid ((Below.refl w.heap.size w).alloc (Nat.le_refl _) (.cells (ivs []).toArray 3))
  have LT := Lib.hid (l1in_t)
  have LF := Lib.hid (l1in_f)
  by_cases h1 : 0 ≤ k ∧ k ≤ 48
  · obtain ⟨h1, h2⟩ := h1
    by_cases h3 : n < 0
    · have q3 : decide (n < 0) = true := by simpa using h3
      go_enter Try.func72, Try.ntmps72
      go_wp2_with fail
      refine (LT.out _ _ _ h1 h2 _).mono ?_
      rintro e w' ⟨rfl, rfl⟩
      go_wp2
      go_ret
      exact ⟨_, _, rfl, HO.out, HB.out⟩
    · obtain ⟨n, rfl⟩ := Int.eq_ofNat_of_zero_le (show 0 ≤ n by omega)
      obtain ⟨k, rfl⟩ := Int.eq_ofNat_of_zero_le (show 0 ≤ k by omega)
      have q3 : decide ((n : Int) < 0) = false := by simp
      have hge : 2 ^ k ≤ n := by
        refine Nat.le_of_not_lt fun hlt => ?_
        have h5 : ((n : Int) < 2 ^ (k : Int).toNat) := by
          rw [Int.toNat_natCast]
          exact_mod_cast hlt
        rw [inOk, decide_eq_true (by omega), decide_eq_true (by omega), decide_eq_true (by omega), decide_eq_true h5] at h
        exact absurd h (by decide)
      have hz0 := in_zero n k
      rw [decide_eq_true hge] at hz0
      have hk : k ≤ 48 := by omega
      clear hn h h3 hge
      go_enter Try.func72, Try.ntmps72
      go_wp2_with fail
      refine (LT.out _ _ _ h1 h2 _).mono ?_
      rintro e w' ⟨rfl, rfl⟩
      go_wp2
      go_ret
      exact ⟨_, _, rfl, HO.out, HB.out⟩
  · go_enter Try.func72, Try.ntmps72
    go_wp2_with fail
    refine (LF.out _ _ _ (by omega) _).mono ?_
    rintro e w' ⟨rfl, rfl⟩
    go_wp2
    go_ret
    exact ⟨_, _, rfl, HO.out, HB.out⟩

set_option maxRecDepth 100000 in
set_option maxHeartbeats 1000000 in
theorem spec_bitsin_ok (n k : Nat) (hk : k ≤ 48) (hn : n < 2 ^ k) (w : World) :
    Calls Try.prog 72 #[.int .i64 n, .int .i64 k] w fun e w' => ∃ A cap, e = .returned (.slice A (inL n k k).length cap) ∧ OwnI w' w.heap.size A cap (inL n k k) ∧ Below w.heap.size w w' := by
  obtain ⟨i0, hi, hz0, hz1, hz2⟩ := info_parts Try.iinfo
  have hn63 : n ≤ 9223372036854775807 := by
    have := Nat.pow_le_pow_right (n := 2) (by decide) (show k ≤ 62 by omega)
    omega
  have hOI : ∀ w' A cap, OwnI w' w.heap.size A cap (inL n k k) ↔ w'.ownsRow w.heap.size 3 1 (.slice A k cap) k (ivs (inL n k k)) := fun w' A cap => by unfold OwnI; rw [inL_len]
  simp only [hOI, inL_len]
  clear hOI
  have hq := in_zero n k
  rw [decide_eq_false (by omega)] at hq
  have h0 : decide ((n : Int) < 0) = false := by simp
  have HN := Lib.hid hn; clear hn
  have HA := Lib.hid (in_and n)
  have LT := Lib.hid (l1in_t)
  go_enter Try.func72, Try.ntmps72
  go_wp2_with fail
  refine (LT.out _ _ _ (by omega) (by omega) _).mono ?_
  rintro e w' ⟨rfl, rfl⟩
  go_wp2
  clear hq h0
  go_loopw [5, 6] (fun v i wr => ∃ (j : Nat) (x : Int), j ≤ k ∧ x = (k : Int) - 1 - (j : Int) ∧ i = .int .i64 x ∧ wr.ownsRow w.heap.size 3 1 v j (ivs (inL n k j)) ∧ Below w.heap.size w wr)
    (fun _ i _ => (intOf i + 1).toNat)
  case atStart => exact ⟨0, (k : Int) - 1, Nat.zero_le _, by omega, rfl, own_ints w w.heap.size [] (Nat.le_refl _) (by simp), (Below.refl _ _).alloc (Nat.le_refl _) _⟩
  case round =>
    obtain ⟨j, x, hj, hx, rfl, hown, hbel⟩ := hrel
    by_cases hlt : j < k
    · obtain ⟨m, rfl⟩ := Int.eq_ofNat_of_zero_le (show 0 ≤ x by omega)
      have hm : m = k - 1 - j := by omega
      have hmk : m ≤ 47 := by omega
      have HX := Lib.hid hx; clear hx
      have HM := Lib.hid hm; clear hm
      have ha := HA.out m hn63
      go_wp2_with (at_builtin; refine append_one wr rfl (.tmp 28) (.tmp 33) 82 rfl w 3 i0 (.int .i64 0) 8 Try.underlying82 hi hz0 hz1 hz2 rfl _ _ _ rfl hown _ rfl rfl rfl (by omega) (by unfold maxLen; omega) hbel ?_; intro v' w' hown' hb')
      go_roundw
      case rel =>
        refine ⟨j + 1, (m : Int) - 1, by omega, by have := HX.out; omega, by go_num, ?_, hb'⟩
        rw [inL_snoc, ivs_append, ← HM.out]
        exact hown'
      case measure => simp [intOf]
    · obtain rfl : j = k := by omega
      have hxn : x = -1 := by omega
      subst hxn
      clear hx
      go_wp2
      go_ret
      rcases hown.2 with ⟨rfl, h0⟩ | ⟨g, cap, cur, rfl, _⟩
      · subst h0
        exact ⟨_, _, rfl, hown, hbel⟩
      · exact ⟨_, _, rfl, hown, hbel⟩

theorem inOk_nat (n k : Int) (h : inOk n k = true) : ∃ a b : Nat, n = (a : Int) ∧ k = (b : Int) ∧ b ≤ 48 ∧ a < 2 ^ b := by
  simp only [inOk, Bool.and_eq_true, decide_eq_true_eq] at h
  obtain ⟨⟨⟨h1, h2⟩, h3⟩, h4⟩ := h
  obtain ⟨a, rfl⟩ := Int.eq_ofNat_of_zero_le h3
  obtain ⟨b, rfl⟩ := Int.eq_ofNat_of_zero_le h1
  rw [Int.toNat_natCast] at h4
  exact ⟨a, b, rfl, rfl, by omega, by exact_mod_cast h4⟩
theorem spec_bitsin_any (n k : Int) (hn : (Lit.int .i64 n).wf = true) (w : World) :
    Calls Try.prog 72 #[.int .i64 n, .int .i64 k] w fun e w' => ∃ A cap, e = .returned (.slice A (inR n k).length cap) ∧ OwnI w' w.heap.size A cap (inR n k) ∧ Below w.heap.size w w' := by
  cases h : inOk n k with
  | true =>
    obtain ⟨a, b, rfl, rfl, hb, ha⟩ := inOk_nat n k h
    have e : inR a b = inL a b b := by rw [inR, h]; rfl
    rw [e]
    exact spec_bitsin_ok a b hb ha w
  | false =>
    have e : inR n k = [] := by rw [inR, h]; rfl
    rw [e]
    exact spec_bitsin_bad n k h hn w
theorem inR_len (n k : Int) : (inR n k).length ≤ 48 := by
  cases h : inOk n k with
  | true =>
    obtain ⟨a, b, rfl, rfl, hb, ha⟩ := inOk_nat n k h
    have e : inR a b = inL a b b := by rw [inR, h]; rfl
    rw [e, inL_len]
    exact hb
  | false =>
    have e : inR n k = [] := by rw [inR, h]; rfl
    rw [e]
    simp

end Go.Proofs.Ythiplncceglnhaa
