/-
  Contracts of BitsOf, in both texts, and the law of BitsOf. Condition: the string is no longer than 1048576 bytes (the law asks no more).
  Contracts of NumOf and of the test of bits, in both texts, and the law of NumOf. Condition: no more than 1048576 elements (the law asks no more).
  Contracts of BitsIn, in both texts, and the law of BitsIn. Condition: the numbers are ints.
  Contracts of BytesOf, in both texts, and the law of BytesOf. Condition: no more than 1048576 elements (the law asks no more).
  Contracts of slices.Grow on nil and of slices.Concat over rows of integers; appending a whole row. Condition: the rows have no more than 4000000 elements together.
-/
import Derived.Test.YtgacldhpohnpaaaBase
import Derived.Lib.AppendZeros
namespace Go.Proofs.Ytgacldhpohnpaaa
open Go.RowKit
set_option linter.unusedVariables false

/-- The first `k` bits. -/
def bitsL (s : ByteArray) (k : Nat) : List Int := (List.range k).map fun (i : Nat) => (bitN s i : Int)
theorem bitsL_len (s : ByteArray) (k : Nat) : (bitsL s k).length = k := by simp [bitsL]
theorem bitsL_at (s : ByteArray) (k j : Nat) (h : j < k) : (bitsL s k).getD j 0 = (bitN s j : Int) := by
  rw [List.getD_eq_getElem?_getD]
  simp [bitsL, h]
theorem bitsL_snoc (s : ByteArray) (k : Nat) : bitsL s (k + 1) = bitsL s k ++ [(bitN s k : Int)] := by
  unfold bitsL
  rw [List.range_succ, List.map_append]
  rfl

end Go.Proofs.Ytgacldhpohnpaaa

namespace Go.Proofs.Ytgacldhpohnpaaa
open Go.RowKit
set_option linter.unusedVariables false

def isBit (x : Int) : Bool := decide (x = 0) || decide (x = 1)
def isBits (l : List Int) : Bool := l.all isBit
/-- Bits as a number. -/
def binV (l : List Int) : Int := l.foldl (fun n b => 2 * n + b) 0
def binOk (l : List Int) : Bool := decide (l.length ≤ 48) && isBits l
/-- What NumOf gives. -/
def binR (l : List Int) : Int := if binOk l then binV l else 0
theorem isBit_cases {x : Int} (h : isBit x = true) : x = 0 ∨ x = 1 := by simpa [isBit] using h
theorem isBit_no {x : Int} (h : isBit x = false) : x ≠ 0 ∧ x ≠ 1 := by simpa [isBit] using h
theorem isBits_all (l : List Int) (h : ∀ t, t < l.length → isBit (l.getD t 0) = true) : isBits l = true := by
  unfold isBits
  rw [List.all_eq_true]
  intro x hx
  obtain ⟨t, ht, rfl⟩ := List.getElem_of_mem hx
  have := h t ht
  rw [List.getD_eq_getElem?_getD, List.getElem?_eq_getElem ht] at this
  exact this
theorem isBits_bad (l : List Int) (t : Nat) (ht : t < l.length) (h : isBit (l.getD t 0) = false) : isBits l = false := by
  unfold isBits
  rw [List.all_eq_false]
  refine ⟨l[t], List.getElem_mem ht, ?_⟩
  rw [List.getD_eq_getElem?_getD, List.getElem?_eq_getElem ht] at h
  simpa using h
theorem isBits_at (l : List Int) (h : isBits l = true) (t : Nat) (ht : t < l.length) : isBit (l.getD t 0) = true := by
  unfold isBits at h
  rw [List.all_eq_true] at h
  rw [List.getD_eq_getElem?_getD, List.getElem?_eq_getElem ht]
  exact h _ (List.getElem_mem ht)
theorem binV_snoc (l : List Int) (x : Int) : binV (l ++ [x]) = 2 * binV l + x := by simp [binV]
theorem take_snoc_i (l : List Int) (j : Nat) (h : j < l.length) : l.take (j + 1) = l.take j ++ [l.getD j 0] := by
  rw [List.take_succ_eq_append_getElem h, List.getD_eq_getElem?_getD, List.getElem?_eq_getElem h]
  rfl
theorem binV_range (l : List Int) : ∀ (j : Nat), j ≤ l.length → (∀ t, t < j → isBit (l.getD t 0) = true) → 0 ≤ binV (l.take j) ∧ binV (l.take j) < 2 ^ j
  | 0, _, _ => by simp [binV]
  | j + 1, hj, h => by
    obtain ⟨h0, h1⟩ := binV_range l j (by omega) fun t ht => h t (by omega)
    rw [take_snoc_i l j (by omega), binV_snoc, Int.pow_succ]
    rcases isBit_cases (h j (by omega)) with e | e <;> rw [e] <;> omega

set_option maxRecDepth 100000 in
set_option maxHeartbeats 1000000 in
theorem arebits_any (A : Option Addr) (ca : Nat) (l : List Int) (w : World) (hA : Ints w w.heap.size A l) :
    Calls Try.prog 112 #[.slice A l.length ca] w fun e w' => e = .returned (.bool (isBits l)) ∧ Below w.heap.size w w' := by
  obtain ⟨n, hn⟩ : ∃ n, n = l.length := ⟨_, rfl⟩
  have hnm := hA.1
  rw [← hn] at hnm ⊢
  have HN := Lib.hid hn; clear hn
  have HA := Lib.hid hA; clear hA
  go_enter Try.func112, Try.ntmps112
  go_wp2
  go_loopw [7] (fun i wr => ∃ j : Nat, j ≤ n ∧ (∀ t, t < j → isBit (l.getD t 0) = true) ∧ i = .int .i64 j ∧ Below w.heap.size w wr)
    (fun i _ => n - (intOf i).toNat)
  case atStart => exact ⟨0, Nat.zero_le _, fun t ht => absurd ht (by omega), rfl, Below.refl _ _⟩
  case round =>
    obtain ⟨j, hj, hpre, rfl, hbel⟩ := hrel
    have HE := Lib.hid hpre; clear hpre
    by_cases hlt : j < n
    · obtain ⟨ba, oa, rfl, ha1, ha2⟩ := HA.out.at j (by rw [← HN.out]; exact hlt)
      have c1 := ha2 j (by rw [← HN.out]; exact hlt)
      rw [← hbel.cell (p := ⟨ba, oa + j, none⟩) ha1] at c1
      clear ha2
      obtain ⟨x, hx⟩ : ∃ x, x = l.getD j 0 := ⟨_, rfl⟩
      rw [← hx] at c1
      have HX := Lib.hid hx; clear hx
      cases hb : isBit x with
      | true =>
        have HBB := Lib.hid hb
        rcases isBit_cases hb with rfl | rfl
        all_goals
          clear hb
          go_wp2
          go_roundw
          case rel =>
            refine ⟨j + 1, by omega, fun t ht => ?_, by go_num, hbel⟩
            by_cases htj : t = j
            · subst htj; rw [← HX.out]; exact HBB.out
            · exact HE.out t (by omega)
          case measure => simp [intOf]; omega
      | false =>
        obtain ⟨h0, h1⟩ := isBit_no hb
        have q0 : (x != 0) = true := by rw [bne_iff_ne]; exact h0
        have q1 : (x != 1) = true := by rw [bne_iff_ne]; exact h1
        have HBB := Lib.hid hb; clear hb h0 h1
        go_wp2
        go_ret
        refine ⟨?_, hbel⟩
        rw [isBits_bad l j (by rw [← HN.out]; exact hlt) (by rw [← HX.out]; exact HBB.out)]
        rfl
    · obtain rfl : j = n := by omega
      go_wp2
      go_ret
      refine ⟨?_, hbel⟩
      rw [isBits_all l (by rw [← HN.out]; exact HE.out)]
      rfl

set_option maxRecDepth 100000 in
set_option maxHeartbeats 1000000 in
theorem spec_numof_any (A : Option Addr) (ca : Nat) (l : List Int) (w : World) (hA : Ints w w.heap.size A l) :
    Calls Try.prog 124 #[.slice A l.length ca] w fun e w' => e = .returned (.tuple #[.int .i64 (binR l), .bool (binOk l)]) ∧ Below w.heap.size w w' := by
  obtain ⟨n, hn⟩ : ∃ n, n = l.length := ⟨_, rfl⟩
  have hnm := hA.1
  rw [← hn] at hnm ⊢
  have HN := Lib.hid hn; clear hn
  have HA := Lib.hid hA; clear hA
  have LT := Lib.hid (l1in_t)
  have LF := Lib.hid (l1in_f)
  go_enter Try.func124, Try.ntmps124
  go_wp2
  go_loopw [4, 5] (fun v i wr => ∃ (j : Nat) (x : Int), j ≤ n ∧ j ≤ 48 ∧ (∀ t, t < j → isBit (l.getD t 0) = true) ∧ x = binV (l.take j) ∧ 0 ≤ x ∧ x < 2 ^ j ∧ v = .int .i64 x ∧ i = .int .i64 j ∧ Below w.heap.size w wr)
    (fun _ i _ => n - (intOf i).toNat)
  case atStart => exact ⟨0, 0, Nat.zero_le _, by omega, fun t ht => absurd ht (by omega), by simp [binV], by omega, by decide, rfl, rfl, Below.refl _ _⟩
  case round =>
    obtain ⟨j, x, hj, hj48, hpre, hx, hx0, hx1, rfl, rfl, hbel⟩ := hrel
    have HE := Lib.hid hpre; clear hpre
    have HX := Lib.hid hx; clear hx
    have HX1 := Lib.hid hx1
    have hx48 : x ≤ 281474976710656 := by
      have h2 : (2 : Int) ^ j ≤ 2 ^ 48 := by have := Nat.pow_le_pow_right (n := 2) (by decide) (show j ≤ 48 by omega); exact_mod_cast this
      omega
    clear hx1
    by_cases hlt : j < n
    · obtain ⟨ba, oa, rfl, ha1, ha2⟩ := HA.out.at j (by rw [← HN.out]; exact hlt)
      have c1 := ha2 j (by rw [← HN.out]; exact hlt)
      rw [← hbel.cell (p := ⟨ba, oa + j, none⟩) ha1] at c1
      clear ha2
      obtain ⟨y, hy⟩ : ∃ y, y = l.getD j 0 := ⟨_, rfl⟩
      rw [← hy] at c1
      have HY := Lib.hid hy; clear hy
      by_cases hyb : 0 ≤ y ∧ y ≤ 1
      · obtain ⟨hy0, hy1⟩ := hyb
        have hbit : isBit y = true := by rcases (show y = 0 ∨ y = 1 by omega) with rfl | rfl <;> rfl
        have HBT := Lib.hid hbit; clear hbit
        by_cases h48 : j = 48
        · subst h48
          go_wp2_with fail
          refine (LT.out _ _ _ hy0 hy1 _).mono ?_
          rintro e w' ⟨rfl, rfl⟩
          go_wp2
          go_ret2
          refine ⟨?_, hbel⟩
          have e1 : binOk l = false := by unfold binOk; rw [← HN.out, decide_eq_false (by omega), Bool.false_and]
          have e2 : binR l = 0 := by unfold binR; rw [e1]; rfl
          rw [e1, e2]
          rfl
        · have q48 : decide (48 ≤ (j : Int)) = false := by simp; omega
          have hx47 : x < 140737488355328 := by
            have h2 : (2 : Int) ^ j ≤ 2 ^ 47 := by have := Nat.pow_le_pow_right (n := 2) (by decide) (show j ≤ 47 by omega); exact_mod_cast this
            have := HX1.out
            omega
          go_wp2_with fail
          refine (LT.out _ _ _ hy0 hy1 _).mono ?_
          rintro e w' ⟨rfl, rfl⟩
          go_wp2
          go_roundw
          case rel =>
            refine ⟨j + 1, x * 2 + y, by omega, by omega, fun t ht => ?_, ?_, by omega, ?_, by go_num, by go_num, hbel⟩
            · by_cases htj : t = j
              · subst htj; rw [← HY.out]; exact HBT.out
              · exact HE.out t (by omega)
            · rw [take_snoc_i l j (by rw [← HN.out]; exact hlt), binV_snoc, ← HX.out, ← HY.out]
              omega
            · have := HX1.out
              rw [Int.pow_succ]
              omega
          case measure => simp [intOf]; omega
      · have hbit : isBit y = false := by simp [isBit]; omega
        have HBT := Lib.hid hbit; clear hbit
        go_wp2_with fail
        refine (LF.out _ _ _ (by omega) _).mono ?_
        rintro e w' ⟨rfl, rfl⟩
        go_wp2
        go_ret2
        refine ⟨?_, hbel⟩
        have e1 : binOk l = false := by unfold binOk; rw [isBits_bad l j (by rw [← HN.out]; exact hlt) (by rw [← HY.out]; exact HBT.out), Bool.and_false]
        have e2 : binR l = 0 := by unfold binR; rw [e1]; rfl
        rw [e1, e2]
        rfl
    · obtain rfl : j = n := by omega
      go_wp2
      go_ret2
      refine ⟨?_, hbel⟩
      have e1 : binOk l = true := by unfold binOk; rw [isBits_all l (by rw [← HN.out]; exact HE.out), ← HN.out, decide_eq_true (by omega)]; rfl
      have e2 : binR l = binV l := by unfold binR; rw [e1]; rfl
      rw [e1, e2, HX.out, List.take_of_length_le (by rw [HN.out]; exact Nat.le_refl _)]
      rfl

theorem toints_big {len : Int} (h : ¬ 1048576 < len) : decide (1048576 < len) = false := by simpa using h

end Go.Proofs.Ytgacldhpohnpaaa

namespace Go.Proofs.Ytgacldhpohnpaaa
open Go.RowKit
set_option linter.unusedVariables false

/-- The first `k` of the `w` bits of `n`. -/
def inL (n w k : Nat) : List Int := (List.range k).map fun (i : Nat) => ((n / 2 ^ (w - 1 - i) % 2 : Nat) : Int)
theorem inL_len (n w k : Nat) : (inL n w k).length = k := by simp [inL]
theorem inL_at (n w k j : Nat) (h : j < k) : (inL n w k).getD j 0 = ((n / 2 ^ (w - 1 - j) % 2 : Nat) : Int) := by
  rw [List.getD_eq_getElem?_getD]
  simp [inL, h]
theorem inL_snoc (n w k : Nat) : inL n w (k + 1) = inL n w k ++ [((n / 2 ^ (w - 1 - k) % 2 : Nat) : Int)] := by
  unfold inL
  rw [List.range_succ, List.map_append]
  rfl
/-- The number and the width are such that there are bits. -/
def inOk (n w : Int) : Bool := decide (0 ≤ w) && decide (w ≤ 48) && decide (0 ≤ n) && decide (n < 2 ^ w.toNat)
/-- What BitsIn gives. -/
def inR (n w : Int) : List Int := if inOk n w then inL n.toNat w.toNat w.toNat else []

theorem in_div (n k : Nat) (hn : n ≤ 9223372036854775807) : ∃ d : Nat, (n : Int) / 2 ^ k = (d : Int) ∧ d = n / 2 ^ k ∧ d ≤ 9223372036854775807 :=
  ⟨n / 2 ^ k, by norm_cast, rfl, Nat.le_trans (Nat.div_le_self _ _) hn⟩
theorem in_and (n k : Nat) (hn : n ≤ 9223372036854775807) : bits .and .i64 ((n : Int) / 2 ^ k) 1 = ((n / 2 ^ k % 2 : Nat) : Int) := by
  obtain ⟨d, h1, h2, h3⟩ := in_div n k hn
  rw [h1, ← h2, and_i64 1 _ 1 (by decide) (by decide) (by omega) (by omega)]
  omega
theorem in_zero (n k : Nat) : (((n : Int) / 2 ^ k) != 0) = decide (2 ^ k ≤ n) := by
  have h : (n : Int) / 2 ^ k = ((n / 2 ^ k : Nat) : Int) := by norm_cast
  rw [h]
  by_cases hle : 2 ^ k ≤ n
  · rw [decide_eq_true hle, bne_iff_ne]
    have := Nat.div_pos hle (Nat.pow_pos (by decide))
    omega
  · rw [decide_eq_false hle, bne_eq_false_iff_eq, Nat.div_eq_of_lt (by omega)]
    rfl

set_option maxRecDepth 100000 in
set_option maxHeartbeats 1000000 in
theorem impl_bitsin_ok (n k : Nat) (hk : k ≤ 48) (hn : n < 2 ^ k) (w : World) :
    Calls Try.prog 84 #[.int .i64 n, .int .i64 k] w fun e w' => ∃ A cap, e = .returned (.slice A (inL n k k).length cap) ∧ OwnI w' w.heap.size A cap (inL n k k) ∧ Below w.heap.size w w' := by
  have hn63 : n ≤ 9223372036854775807 := by
    have := Nat.pow_le_pow_right (n := 2) (by decide) (show k ≤ 62 by omega)
    omega
  have hOI : ∀ w' A cap, OwnI w' w.heap.size A cap (inL n k k) ↔ w'.ownsRow w.heap.size 3 1 (.slice A k cap) k (ivs (inL n k k)) := fun w' A cap => by unfold OwnI; rw [inL_len]
  simp only [hOI, inL_len]
  clear hOI
  have hmk := make_ints k (k : Int) rfl (by omega)
  have hz0 := in_zero n k
  rw [decide_eq_false (by omega)] at hz0
  have h0 : decide ((n : Int) < 0) = false := by simp
  have h1 : decide ((k : Int) < 0) = false := by simp
  have h2 : decide ((48 : Int) < (k : Int)) = false := by simp; omega
  have HN := Lib.hid hn; clear hn
  have HA := Lib.hid (in_and n)
  go_enter Try.func84, Try.ntmps84
  go_wp2
  clear hmk hz0 h0 h1 h2
  go_loopw [27] (fun i wr => ∃ (j : Nat) (p : List Int), j ≤ k ∧ p.length = k ∧ (∀ t, t < j → p.getD t 0 = ((n / 2 ^ (k - 1 - t) % 2 : Nat) : Int)) ∧ i = .int .i64 j ∧ wr.ownsRow w.heap.size 3 1 (.slice (some ⟨w.heap.size, 0, none⟩) k k) k (ivs p) ∧ Below w.heap.size w wr)
    (fun i _ => k - (intOf i).toNat)
  case atStart =>
    refine ⟨0, List.replicate k 0, Nat.zero_le _, by simp, fun t ht => absurd ht (by omega), rfl, ?_, (Below.refl _ _).alloc (Nat.le_refl _) _⟩
    have := own_ints w w.heap.size (List.replicate k 0) (Nat.le_refl _) (by simp [maxLen]; omega)
    unfold OwnI at this
    simpa using this
  case round =>
    obtain ⟨j, p, hj, hp, hpre, rfl, hown, hbel⟩ := hrel
    have HE := Lib.hid hpre; clear hpre
    have HP := Lib.hid hp; clear hp
    by_cases hlt : j < k
    · obtain ⟨b0, hc⟩ : ∃ b0 : Int, wr.cell? ⟨w.heap.size, j, none⟩ = some (.int .i64 b0) := ⟨_, (hown.cellAt j (by omega)).trans (ivs_at p j (by rw [HP.out]; omega))⟩
      have hz := hown.frozenAt j
      have ha := HA.out (k - 1 - j) hn63
      go_wp2
      go_roundw
      case rel =>
        have s1 := hown.stored j (.int .i64 ((n / 2 ^ (k - 1 - j) % 2 : Nat) : Int))
        rw [ivs_set] at s1
        refine ⟨j + 1, p.set j ((n / 2 ^ (k - 1 - j) % 2 : Nat) : Int), by omega, by simpa using HP.out, ?_, by go_num, s1.1, hbel.setCell (Nat.le_refl _) _⟩
        intro t ht
        by_cases htj : t = j
        · subst htj
          rw [List.getD_eq_getElem?_getD, List.getElem?_set_self (by rw [HP.out]; omega)]
          rfl
        · rw [List.getD_eq_getElem?_getD, List.getElem?_set_ne (fun e => htj e.symm), ← List.getD_eq_getElem?_getD]
          exact HE.out t (by omega)
      case measure => simp [intOf]; omega
    · obtain rfl : j = k := by omega
      go_wp2
      go_ret
      have e : p = inL n j j := List.ext_getElem (by rw [HP.out, inL_len]) fun t h1 h2 => by
        have := HE.out t (by have := HP.out; omega)
        rw [List.getD_eq_getElem?_getD, List.getElem?_eq_getElem h1] at this
        have h3 := inL_at n j j t (by rw [inL_len] at h2; exact h2)
        rw [List.getD_eq_getElem?_getD, List.getElem?_eq_getElem h2] at h3
        exact this.trans h3.symm
      rw [e] at hown
      exact ⟨_, _, rfl, hown, hbel⟩

/-- No bits: nil, or an empty row. -/
theorem own_none (w : World) (base : Nat) : OwnI w base none 0 [] := World.ownsRow_nil w base 3 1

set_option maxRecDepth 100000 in
set_option maxHeartbeats 1000000 in
theorem impl_bitsin_bad (n k : Int) (h : inOk n k = false) (hn : (Lit.int .i64 n).wf = true) (w : World) :
    Calls Try.prog 84 #[.int .i64 n, .int .i64 k] w fun e w' => ∃ A cap, e = .returned (.slice A ([] : List Int).length cap) ∧ OwnI w' w.heap.size A cap [] ∧ Below w.heap.size w w' := by
  have HO := Lib.hid (own_none w w.heap.size)
  by_cases h1 : k < 0
  · have q1 : decide (k < 0) = true := by simpa using h1
    go_enter Try.func84, Try.ntmps84
    go_wp2
    go_ret
    exact ⟨_, _, rfl, HO.out, Below.refl _ _⟩
  · have q1 : decide (k < 0) = false := by simpa using h1
    by_cases h2 : 48 < k
    · have q2 : decide (48 < k) = true := by simpa using h2
      go_enter Try.func84, Try.ntmps84
      go_wp2
      go_ret
      exact ⟨_, _, rfl, HO.out, Below.refl _ _⟩
    · have q2 : decide (48 < k) = false := by simpa using h2
      by_cases h3 : n < 0
      · have q3 : decide (n < 0) = true := by simpa using h3
        go_enter Try.func84, Try.ntmps84
        go_wp2
        go_ret
        exact ⟨_, _, rfl, HO.out, Below.refl _ _⟩
      · obtain ⟨n, rfl⟩ := Int.eq_ofNat_of_zero_le (show 0 ≤ n by omega)
        obtain ⟨k, rfl⟩ := Int.eq_ofNat_of_zero_le (show 0 ≤ k by omega)
        have q3 : decide ((n : Int) < 0) = false := by simp
        have hge : 2 ^ k ≤ n := by
          refine Nat.le_of_not_lt fun hlt => ?_
          have h5 : ((n : Int) < 2 ^ (k : Int).toNat) := by
            rw [Int.toNat_natCast]
            exact_mod_cast hlt
          rw [inOk, decide_eq_true (by omega), decide_eq_true (by omega), decide_eq_true (by omega), decide_eq_true h5] at h
          exact absurd h (by decide)
        have hz0 := in_zero n k
        rw [decide_eq_true hge] at hz0
        have hk : k ≤ 48 := by omega
        clear hn h h1 h2 h3 hge
        go_enter Try.func84, Try.ntmps84
        go_wp2
        go_ret
        exact ⟨_, _, rfl, HO.out, Below.refl _ _⟩

set_option maxRecDepth 100000 in
set_option maxHeartbeats 1000000 in
theorem spec_bitsin_bad (n k : Int) (h : inOk n k = false) (hn : (Lit.int .i64 n).wf = true) (w : World) :
    Calls Try.prog 90 #[.int .i64 n, .int .i64 k] w fun e w' => ∃ A cap, e = .returned (.slice A ([] : List Int).length cap) ∧ OwnI w' w.heap.size A cap [] ∧ Below w.heap.size w w' := by
  have HO := Lib.hid (own_ints w w.heap.size [] (Nat.le_refl _) (by simp))
  have HB := Lib.hid ((Below.refl w.heap.size w).alloc (Nat.le_refl _) (.cells (ivs []).toArray 3))
  have LT := Lib.hid (l1in_t)
  have LF := Lib.hid (l1in_f)
  by_cases h1 : 0 ≤ k ∧ k ≤ 48
  · obtain ⟨h1, h2⟩ := h1
    by_cases h3 : n < 0
    · have q3 : decide (n < 0) = true := by simpa using h3
      go_enter Try.func90, Try.ntmps90
      go_wp2_with fail
      refine (LT.out _ _ _ h1 h2 _).mono ?_
      rintro e w' ⟨rfl, rfl⟩
      go_wp2
      go_ret
      exact ⟨_, _, rfl, HO.out, HB.out⟩
    · obtain ⟨n, rfl⟩ := Int.eq_ofNat_of_zero_le (show 0 ≤ n by omega)
      obtain ⟨k, rfl⟩ := Int.eq_ofNat_of_zero_le (show 0 ≤ k by omega)
      have q3 : decide ((n : Int) < 0) = false := by simp
      have hge : 2 ^ k ≤ n := by
        refine Nat.le_of_not_lt fun hlt => ?_
        have h5 : ((n : Int) < 2 ^ (k : Int).toNat) := by
          rw [Int.toNat_natCast]
          exact_mod_cast hlt
        rw [inOk, decide_eq_true (by omega), decide_eq_true (by omega), decide_eq_true (by omega), decide_eq_true h5] at h
        exact absurd h (by decide)
      have hz0 := in_zero n k
      rw [decide_eq_true hge] at hz0
      have hk : k ≤ 48 := by omega
      clear hn h h3 hge
      go_enter Try.func90, Try.ntmps90
      go_wp2_with fail
      refine (LT.out _ _ _ h1 h2 _).mono ?_
      rintro e w' ⟨rfl, rfl⟩
      go_wp2
      go_ret
      exact ⟨_, _, rfl, HO.out, HB.out⟩
  · go_enter Try.func90, Try.ntmps90
    go_wp2_with fail
    refine (LF.out _ _ _ (by omega) _).mono ?_
    rintro e w' ⟨rfl, rfl⟩
    go_wp2
    go_ret
    exact ⟨_, _, rfl, HO.out, HB.out⟩

set_option maxRecDepth 100000 in
set_option maxHeartbeats 1000000 in
theorem spec_bitsin_ok (n k : Nat) (hk : k ≤ 48) (hn : n < 2 ^ k) (w : World) :
    Calls Try.prog 90 #[.int .i64 n, .int .i64 k] w fun e w' => ∃ A cap, e = .returned (.slice A (inL n k k).length cap) ∧ OwnI w' w.heap.size A cap (inL n k k) ∧ Below w.heap.size w w' := by
  obtain ⟨i0, hi, hz0, hz1, hz2⟩ := info_parts Try.iinfo
  have hn63 : n ≤ 9223372036854775807 := by
    have := Nat.pow_le_pow_right (n := 2) (by decide) (show k ≤ 62 by omega)
    omega
  have hOI : ∀ w' A cap, OwnI w' w.heap.size A cap (inL n k k) ↔ w'.ownsRow w.heap.size 3 1 (.slice A k cap) k (ivs (inL n k k)) := fun w' A cap => by unfold OwnI; rw [inL_len]
  simp only [hOI, inL_len]
  clear hOI
  have hq := in_zero n k
  rw [decide_eq_false (by omega)] at hq
  have h0 : decide ((n : Int) < 0) = false := by simp
  have HN := Lib.hid hn; clear hn
  have HA := Lib.hid (in_and n)
  have LT := Lib.hid (l1in_t)
  go_enter Try.func90, Try.ntmps90
  go_wp2_with fail
  refine (LT.out _ _ _ (by omega) (by omega) _).mono ?_
  rintro e w' ⟨rfl, rfl⟩
  go_wp2
  clear hq h0
  go_loopw [5, 6] (fun v i wr => ∃ (j : Nat) (x : Int), j ≤ k ∧ x = (k : Int) - 1 - (j : Int) ∧ i = .int .i64 x ∧ wr.ownsRow w.heap.size 3 1 v j (ivs (inL n k j)) ∧ Below w.heap.size w wr)
    (fun _ i _ => (intOf i + 1).toNat)
  case atStart => exact ⟨0, (k : Int) - 1, Nat.zero_le _, by omega, rfl, own_ints w w.heap.size [] (Nat.le_refl _) (by simp), (Below.refl _ _).alloc (Nat.le_refl _) _⟩
  case round =>
    obtain ⟨j, x, hj, hx, rfl, hown, hbel⟩ := hrel
    by_cases hlt : j < k
    · obtain ⟨m, rfl⟩ := Int.eq_ofNat_of_zero_le (show 0 ≤ x by omega)
      have hm : m = k - 1 - j := by omega
      have hmk : m ≤ 47 := by omega
      have HX := Lib.hid hx; clear hx
      have HM := Lib.hid hm; clear hm
      have ha := HA.out m hn63
      go_wp2_with (at_builtin; refine append_one wr rfl (.tmp 28) (.tmp 33) 39 rfl w 3 i0 (.int .i64 0) 8 Try.underlying39 hi hz0 hz1 hz2 rfl _ _ _ rfl hown _ rfl rfl rfl (by omega) (by unfold maxLen; omega) hbel ?_; intro v' w' hown' hb')
      go_roundw
      case rel =>
        refine ⟨j + 1, (m : Int) - 1, by omega, by have := HX.out; omega, by go_num, ?_, hb'⟩
        rw [inL_snoc, ivs_append, ← HM.out]
        exact hown'
      case measure => simp [intOf]
    · obtain rfl : j = k := by omega
      have hxn : x = -1 := by omega
      subst hxn
      clear hx
      go_wp2
      go_ret
      rcases hown.2 with ⟨rfl, h0⟩ | ⟨g, cap, cur, rfl, _⟩
      · subst h0
        exact ⟨_, _, rfl, hown, hbel⟩
      · exact ⟨_, _, rfl, hown, hbel⟩

theorem inOk_nat (n k : Int) (h : inOk n k = true) : ∃ a b : Nat, n = (a : Int) ∧ k = (b : Int) ∧ b ≤ 48 ∧ a < 2 ^ b := by
  simp only [inOk, Bool.and_eq_true, decide_eq_true_eq] at h
  obtain ⟨⟨⟨h1, h2⟩, h3⟩, h4⟩ := h
  obtain ⟨a, rfl⟩ := Int.eq_ofNat_of_zero_le h3
  obtain ⟨b, rfl⟩ := Int.eq_ofNat_of_zero_le h1
  rw [Int.toNat_natCast] at h4
  exact ⟨a, b, rfl, rfl, by omega, by exact_mod_cast h4⟩
theorem impl_bitsin_any (n k : Int) (hn : (Lit.int .i64 n).wf = true) (w : World) :
    Calls Try.prog 84 #[.int .i64 n, .int .i64 k] w fun e w' => ∃ A cap, e = .returned (.slice A (inR n k).length cap) ∧ OwnI w' w.heap.size A cap (inR n k) ∧ Below w.heap.size w w' := by
  cases h : inOk n k with
  | true =>
    obtain ⟨a, b, rfl, rfl, hb, ha⟩ := inOk_nat n k h
    have e : inR a b = inL a b b := by rw [inR, h]; rfl
    rw [e]
    exact impl_bitsin_ok a b hb ha w
  | false =>
    have e : inR n k = [] := by rw [inR, h]; rfl
    rw [e]
    exact impl_bitsin_bad n k h hn w
theorem spec_bitsin_any (n k : Int) (hn : (Lit.int .i64 n).wf = true) (w : World) :
    Calls Try.prog 90 #[.int .i64 n, .int .i64 k] w fun e w' => ∃ A cap, e = .returned (.slice A (inR n k).length cap) ∧ OwnI w' w.heap.size A cap (inR n k) ∧ Below w.heap.size w w' := by
  cases h : inOk n k with
  | true =>
    obtain ⟨a, b, rfl, rfl, hb, ha⟩ := inOk_nat n k h
    have e : inR a b = inL a b b := by rw [inR, h]; rfl
    rw [e]
    exact spec_bitsin_ok a b hb ha w
  | false =>
    have e : inR n k = [] := by rw [inR, h]; rfl
    rw [e]
    exact spec_bitsin_bad n k h hn w
theorem inR_len (n k : Int) : (inR n k).length ≤ 48 := by
  cases h : inOk n k with
  | true =>
    obtain ⟨a, b, rfl, rfl, hb, ha⟩ := inOk_nat n k h
    have e : inR a b = inL a b b := by rw [inR, h]; rfl
    rw [e, inL_len]
    exact hb
  | false =>
    have e : inR n k = [] := by rw [inR, h]; rfl
    rw [e]
    simp

end Go.Proofs.Ytgacldhpohnpaaa

namespace Go.Proofs.Ytgacldhpohnpaaa
open Go.RowKit
set_option linter.unusedVariables false

/-- The eight bits of byte `t`, as far as the first `j` bits have them. -/
def part (l : List Int) (j t : Nat) : List Int := ((l.take j).drop (8 * t)).take 8
def seg (l : List Int) (t : Nat) : List Int := (l.drop (8 * t)).take 8
def byteOf (l : List Int) (t : Nat) : UInt8 := UInt8.ofNat (binV (seg l t)).toNat
def bytesL (l : List Int) (k : Nat) : List UInt8 := (List.range k).map (byteOf l)
def bytesOk (l : List Int) : Bool := decide (l.length % 8 = 0) && isBits l
/-- What BytesOf gives. -/
def bytesR (l : List Int) : ByteArray := if bytesOk l then bs (bytesL l (l.length / 8)) else bs []
theorem bytesL_len (l : List Int) (k : Nat) : (bytesL l k).length = k := by simp [bytesL]
theorem bytesL_snoc (l : List Int) (k : Nat) : bytesL l (k + 1) = bytesL l k ++ [byteOf l k] := by
  unfold bytesL
  rw [List.range_succ, List.map_append]
  rfl
theorem part_all (l : List Int) (t : Nat) : part l l.length t = seg l t := by unfold part seg; rw [List.take_length]
theorem part_next (l : List Int) (j : Nat) (h : j < l.length) : part l (j + 1) (j / 8) = part l j (j / 8) ++ [l.getD j 0] := by
  unfold part
  rw [take_snoc_i l j h, List.drop_append_of_le_length (by rw [List.length_take]; omega), List.take_of_length_le (l := List.drop (8 * (j / 8)) (List.take j l) ++ [l.getD j 0]) (by simp; omega), List.take_of_length_le (l := List.drop (8 * (j / 8)) (List.take j l)) (by simp; omega)]
theorem part_at (l : List Int) (j t i : Nat) : (part l j t)[i]? = if i < 8 ∧ 8 * t + i < j then l[8 * t + i]? else none := by
  unfold part
  simp only [List.getElem?_take, List.getElem?_drop]
  by_cases h1 : i < 8
  · by_cases h2 : 8 * t + i < j
    · simp [h1, h2]
    · simp [h1, h2]
  · simp [h1]
theorem part_other (l : List Int) (j t : Nat) (h : t ≠ j / 8) : part l (j + 1) t = part l j t := by
  apply List.ext_getElem?
  intro i
  rw [part_at, part_at]
  by_cases h1 : i < 8 ∧ 8 * t + i < j
  · rw [if_pos h1, if_pos ⟨h1.1, by omega⟩]
  · rw [if_neg h1, if_neg (by omega)]
theorem part_len (l : List Int) (j t : Nat) : (part l j t).length ≤ 8 ∧ (part l j t).length ≤ j - 8 * t := by
  unfold part
  simp only [List.length_take, List.length_drop]
  omega
theorem isBits_part (l : List Int) (h : isBits l = true) (j t : Nat) : isBits (part l j t) = true := by
  unfold isBits at h ⊢
  rw [List.all_eq_true] at h ⊢
  intro x hx
  exact h x (List.mem_of_mem_take (List.mem_of_mem_drop (List.mem_of_mem_take hx)))
theorem binV_bits (l : List Int) (h : isBits l = true) : 0 ≤ binV l ∧ binV l < 2 ^ l.length := by
  have := binV_range l l.length (Nat.le_refl _) fun t ht => isBits_at l h t ht
  rwa [List.take_length] at this
theorem binV_part (l : List Int) (h : isBits l = true) (j t k : Nat) (hk : (part l j t).length ≤ k) : 0 ≤ binV (part l j t) ∧ binV (part l j t) < 2 ^ k := by
  have h1 := binV_bits _ (isBits_part l h j t)
  have h2 : (2 : Int) ^ (part l j t).length ≤ 2 ^ k := by have := Nat.pow_le_pow_right (n := 2) (by decide) hk; exact_mod_cast this
  omega
def partB (l : List Int) (j t : Nat) : UInt8 := UInt8.ofNat (binV (part l j t)).toNat
def partL (l : List Int) (j k : Nat) : List UInt8 := (List.range k).map (partB l j)
theorem partL_len (l : List Int) (j k : Nat) : (partL l j k).length = k := by simp [partL]
theorem partL_all (l : List Int) (k : Nat) : partL l l.length k = bytesL l k := by
  unfold partL bytesL partB byteOf
  simp only [part_all]
theorem partL_none (l : List Int) (k : Nat) : partL l 0 k = List.replicate k 0 := by
  apply List.ext_getElem?
  intro i
  by_cases h : i < k
  · have e : part l 0 i = [] := by unfold part; simp
    simp [partL, h, partB, e, binV]
  · simp [partL, h]
theorem partL_next (l : List Int) (j k : Nat) : (partL l j k).set (j / 8) (partB l (j + 1) (j / 8)) = partL l (j + 1) k := by
  apply List.ext_getElem?
  intro i
  by_cases h : i < k
  · by_cases e : j / 8 = i
    · subst e
      rw [List.getElem?_set_self (by rw [partL_len]; exact h)]
      simp [partL, h]
    · rw [List.getElem?_set_ne e]
      simp [partL, h, partB, part_other l j i (fun e' => e e'.symm)]
  · rw [List.getElem?_eq_none (by rw [List.length_set, partL_len]; omega), List.getElem?_eq_none (by rw [partL_len]; omega)]
theorem or_u8 (i : Nat) (x y : Int) (hx0 : 0 ≤ x) (hx : x % 2 ^ i = 0) (hx1 : x < 2 ^ 8) (hy0 : 0 ≤ y) (hy : y < 2 ^ i) (hi : i ≤ 8) : bits .or .u8 x y = x + y :=
  bits_join .u8 8 (by decide) wraps_u8 i x y hx0 hx hx1 hy0 hy (Int.lt_of_lt_of_le hy (by have := Nat.pow_le_pow_right (n := 2) (by decide) hi; exact_mod_cast this))
theorem seg_at (l : List Int) (t : Nat) (i : Nat) (h : 8 * t + 8 ≤ l.length) (hi : i < 8) : (seg l t).getD i 0 = l.getD (8 * t + i) 0 := by
  unfold seg
  simp only [List.getD_eq_getElem?_getD, List.getElem?_take, List.getElem?_drop, if_pos hi]
theorem seg_len (l : List Int) (t : Nat) (h : 8 * t + 8 ≤ l.length) : (seg l t).length = 8 := by unfold seg; rw [List.length_take, List.length_drop]; omega

/-- A row of one's own while a call runs that leaves what was there. -/
theorem own_keep {w w' : World} {base : Nat} {e : TypeId} {size : Nat} {v : Value} {n : Nat} {xs : List Value} (h : w.ownsRow base e size v n xs) (hb : Below w.heap.size w w') : w'.ownsRow base e size v n xs := by
  refine World.ownsRow.kept (row := none) h ⟨hb.os, hb.tape, hb.output, hb.size, fun k hk _ => hb.block k hk⟩ ?_
  cases hv : v.ownBlock <;> simp
theorem Try.uinfoU8 : (Try.prog.info? 5).map (fun i => (i.zero, i.size, i.bytes)) = some (some (.int .u8 0), 1, 1) := by kernel_rfl

set_option maxRecDepth 100000 in
set_option maxHeartbeats 1000000 in
theorem impl_bytesof_any (A : Option Addr) (ca : Nat) (l : List Int) (hl : l.length ≤ 1048600) (w : World) (hA : Ints w w.heap.size A l) :
    Calls Try.prog 86 #[.slice A l.length ca] w fun e w' => e = .returned (.tuple #[.string (bytesR l), .bool (bytesOk l)]) ∧ Below w.heap.size w w' := by
  obtain ⟨n, hn⟩ : ∃ n, n = l.length := ⟨_, rfl⟩
  have AB := Lib.hid (arebits_any A ca l)
  rw [← hn] at hl AB ⊢
  have HN := Lib.hid hn; clear hn
  have HA := Lib.hid hA; clear hA
  by_cases h8 : n % 8 = 0
  · have q8 : (((n : Int) % 8) != 0) = false := by rw [bne_eq_false_iff_eq]; omega
    obtain ⟨b, hb⟩ : ∃ b, b = isBits l := ⟨_, rfl⟩
    rw [← hb] at AB
    cases b with
    | false =>
      have e1 : bytesOk l = false := by unfold bytesOk; rw [← hb, Bool.and_false]
      have e2 : bytesR l = bs [] := by unfold bytesR; rw [e1]; rfl
      rw [e1, e2]
      clear e1 e2 hb
      go_enter Try.func86, Try.ntmps86
      go_wp2_with fail
      refine (AB.out _ HA.out).mono ?_
      rintro e w1 ⟨rfl, hb1⟩
      go_wp2
      go_ret2
      exact ⟨rfl, hb1⟩
    | true =>
      have e1 : bytesOk l = true := by unfold bytesOk; rw [← hb, ← HN.out, decide_eq_true (by omega)]; rfl
      have e2 : bytesR l = bs (bytesL l (n / 8)) := by unfold bytesR; rw [e1, HN.out]; rfl
      rw [e1, e2]
      have HBB := Lib.hid hb.symm
      clear e1 e2 hb
      obtain ⟨k, hk⟩ : ∃ k, k = n / 8 := ⟨_, rfl⟩
      have hkn : n = 8 * k := by omega
      rw [← hk]
      obtain ⟨i0, hi, hz0, hz1, hz2⟩ := info_parts Try.uinfoU8
      have hmk := make_bytes' Try.underlying22 hi hz0 hz1 hz2 k ((n : Int) / 8) (by omega) (by omega)
      have hk1 : n ≤ 8 * k := by omega
      have hk2 : 8 * k ≤ n := by omega
      clear hk hkn
      go_enter Try.func86, Try.ntmps86
      go_wp2_with fail
      refine (AB.out _ HA.out).mono ?_
      rintro e w1 ⟨rfl, hb1⟩
      go_wp2
      clear hmk q8
      go_loopw [22] (fun i wr => ∃ (j : Nat), j ≤ n ∧ i = .int .i64 j ∧ wr.ownsRow w1.heap.size 5 1 (.slice (some ⟨w1.heap.size, 0, none⟩) k k) k (bvs (partL l j k)) ∧ Below w1.heap.size w1 wr)
        (fun i _ => n - (intOf i).toNat)
      case atStart =>
        refine ⟨0, Nat.zero_le _, rfl, ?_, (Below.refl _ _).alloc (Nat.le_refl _) _⟩
        have := own_lit (E := 5) w1 w1.heap.size (List.replicate k 0) (Nat.le_refl _) (by simp [maxLen]; omega)
        rw [partL_none]
        simpa using this
      case round =>
        obtain ⟨j, hj, rfl, hown, hbel⟩ := hrel
        by_cases hlt : j < n
        · obtain ⟨ba, oa, rfl, ha1, ha2⟩ := HA.out.at j (by rw [← HN.out]; exact hlt)
          have c1 := ha2 j (by rw [← HN.out]; exact hlt)
          rw [← hb1.cell (p := ⟨ba, oa + j, none⟩) ha1, ← hbel.cell (p := ⟨ba, oa + j, none⟩) (Nat.lt_of_lt_of_le ha1 hb1.size)] at c1
          clear ha2
          obtain ⟨y, hy⟩ : ∃ y, y = l.getD j 0 := ⟨_, rfl⟩
          rw [← hy] at c1
          have hyb : y = 0 ∨ y = 1 := isBit_cases (by rw [hy]; exact isBits_at l HBB.out j (by rw [← HN.out]; exact hlt))
          have HY := Lib.hid hy; clear hy
          obtain ⟨x, hx⟩ : ∃ x, x = binV (part l j (j / 8)) := ⟨_, rfl⟩
          have hxr := binV_part l HBB.out j (j / 8) 7 (by have := part_len l j (j / 8); omega)
          rw [← hx] at hxr
          have hx0 : 0 ≤ x := hxr.1
          have hx1 : x < 128 := hxr.2
          clear hxr
          have hjk : j / 8 < k := by omega
          have hc : wr.cell? ⟨w1.heap.size, j / 8, none⟩ = some (.int .u8 x) := by
            rw [hown.cellAt (j / 8) (by omega), bvs_at _ _ (by rw [partL_len]; exact hjk)]
            have e3 : (partL l j k)[j / 8]'(by rw [partL_len]; exact hjk) = UInt8.ofNat x.toNat := by simp [partL, partB, hx]
            rw [e3, bv_ofNat x hx0 (by omega)]
          have hz := hown.frozenAt (j / 8)
          have HX := Lib.hid hx; clear hx
          have hor : bits .or .u8 (x * 2) y = x * 2 + y := or_u8 1 _ _ (by omega) (by omega) (by omega) (by omega) (by omega) (by omega)
          go_wp2
          go_roundw
          case rel =>
            have e2 : partB l (j + 1) (j / 8) = UInt8.ofNat (x * 2 + y).toNat := by
              unfold partB
              rw [part_next l j (by rw [← HN.out]; exact hlt), binV_snoc, ← HX.out, ← HY.out, Int.mul_comm]
            have e3 := bv_ofNat (x * 2 + y) (by omega) (by omega)
            have s1 := hown.stored (j / 8) (bv (partB l (j + 1) (j / 8)))
            rw [bvs_set, partL_next, e2, e3] at s1
            exact ⟨j + 1, by omega, by go_num, s1.1, hbel.setCell (Nat.le_refl _) _⟩
          case measure => simp [intOf]; omega
        · obtain rfl : j = n := by omega
          have hcv := conv_own Try.underlying22 Try.underlying5 Try.underlying9 hown
          go_wp2
          go_ret2
          refine ⟨?_, below_up hb1 hbel hb1.size⟩
          have e := partL_all l k
          rw [← HN.out] at e
          rw [e]
          rfl
  · have q8 : (((n : Int) % 8) != 0) = true := by rw [bne_iff_ne]; omega
    have e1 : bytesOk l = false := by unfold bytesOk; rw [← HN.out, decide_eq_false (by omega), Bool.false_and]
    have e2 : bytesR l = bs [] := by unfold bytesR; rw [e1]; rfl
    rw [e1, e2]
    clear e1 e2
    go_enter Try.func86, Try.ntmps86
    go_wp2
    go_ret2
    exact ⟨rfl, Below.refl _ _⟩

set_option maxRecDepth 100000 in
set_option maxHeartbeats 1000000 in
theorem spec_bytesof_any (A : Option Addr) (ca : Nat) (l : List Int) (hl : l.length ≤ 1048600) (hca : l.length ≤ ca) (w : World) (hA : Ints w w.heap.size A l) :
    Calls Try.prog 115 #[.slice A l.length ca] w fun e w' => e = .returned (.tuple #[.string (bytesR l), .bool (bytesOk l)]) ∧ Below w.heap.size w w' := by
  obtain ⟨i0, hi, hz0, hz1, hz2⟩ := info_parts Try.uinfoU8
  obtain ⟨n, hn⟩ : ∃ n, n = l.length := ⟨_, rfl⟩
  have NO := Lib.hid @spec_numof_any
  rw [← hn] at hl hca ⊢
  have HN := Lib.hid hn; clear hn
  have HA := Lib.hid hA; clear hA
  by_cases h8 : n % 8 = 0
  · have q8 : (((n : Int) % 8) != 0) = false := by rw [bne_eq_false_iff_eq]; omega
    obtain ⟨k, hk⟩ : ∃ k, k = n / 8 := ⟨_, rfl⟩
    have hk1 : n ≤ 8 * k := by omega
    have hk2 : 8 * k ≤ n := by omega
    clear hk
    go_enter Try.func115, Try.ntmps115
    go_wp2
    clear q8
    go_loopw [4, 5] (fun v i wr => ∃ (j : Nat) (x : Int), j ≤ k ∧ x = 8 * (j : Int) ∧ (∀ t, t < j → isBits (seg l t) = true) ∧ i = .int .i64 x ∧ wr.ownsRow w.heap.size 5 1 v j (bvs (bytesL l j)) ∧ Below w.heap.size w wr)
      (fun _ i _ => n - (intOf i).toNat)
    case atStart => exact ⟨0, 0, Nat.zero_le _, rfl, fun t ht => absurd ht (by omega), rfl, own_lit (E := 5) w w.heap.size [] (Nat.le_refl _) (by simp), (Below.refl _ _).alloc (Nat.le_refl _) _⟩
    case round =>
      obtain ⟨j, x, hj, hx, hpre, rfl, hown, hbel⟩ := hrel
      have HE := Lib.hid hpre; clear hpre
      by_cases hlt : j < k
      · obtain ⟨m, rfl⟩ := Int.eq_ofNat_of_zero_le (show 0 ≤ x by omega)
        have hm1 : m ≤ 8 * j := by omega
        have hm2 : 8 * j ≤ m := by omega
        clear hx
        obtain ⟨ba, oa, rfl, ha1, ha2⟩ := HA.out.at m (by rw [← HN.out]; omega)
        have hjs : 8 * j + 8 ≤ l.length := by rw [← HN.out]; omega
        have NS := spec_numof_any (some ⟨ba, oa + m, none⟩) (ca - m) (seg l j)
        rw [seg_len l j hjs] at NS
        have hbo : binOk (seg l j) = isBits (seg l j) := by unfold binOk; rw [seg_len l j hjs]; rfl
        have IS : Ints wr wr.heap.size (some ⟨ba, oa + m, none⟩) (seg l j) := by
          refine ⟨by rw [seg_len l j hjs]; omega, .inr ⟨ba, oa + m, rfl, Nat.lt_of_lt_of_le ha1 hbel.size, fun i hi => ?_⟩⟩
          rw [seg_len l j hjs] at hi
          rw [seg_at l j i hjs hi, hbel.cell (p := ⟨ba, oa + m + i, none⟩) ha1]
          have := ha2 (m + i) (by omega)
          rw [show oa + m + i = oa + (m + i) by omega, this, show m + i = 8 * j + i by omega]
        have hrange := binV_bits (seg l j)
        rw [seg_len l j hjs] at hrange
        obtain ⟨b, hb⟩ : ∃ b, b = isBits (seg l j) := ⟨_, rfl⟩
        rw [hbo, ← hb] at NS
        have NS := Lib.hid NS
        have IS := Lib.hid IS
        clear ha2
        cases b with
        | false =>
          go_wp2_with fail
          refine (NS.out _ IS.out).mono ?_
          rintro e w' ⟨rfl, hb'⟩
          have HB := Lib.hid hb; clear hb
          go_wp2
          go_ret2
          refine ⟨?_, below_up hbel hb' hbel.size⟩
          have e1 : bytesOk l = false := by
            unfold bytesOk
            have : isBits l = false := by
              cases h : isBits l with
              | false => rfl
              | true =>
                exfalso
                have h2 : isBits (seg l j) = true := by
                  unfold isBits at h ⊢
                  rw [List.all_eq_true] at h ⊢
                  intro x hx
                  exact h x (List.mem_of_mem_drop (List.mem_of_mem_take hx))
                rw [← HB.out] at h2
                exact absurd h2 (by decide)
            rw [this, Bool.and_false]
          have e2 : bytesR l = bs [] := by unfold bytesR; rw [e1]; rfl
          rw [e1, e2]
          rfl
        | true =>
          have hr := hrange hb.symm
          have hbr : binR (seg l j) = binV (seg l j) := by unfold binR; rw [hbo, ← hb]; rfl
          obtain ⟨x, hx⟩ : ∃ x, x = binV (seg l j) := ⟨_, rfl⟩
          have NS2 := NS.out
          rw [hbr, ← hx] at NS2
          rw [← hx] at hr
          have NS2 := Lib.hid NS2
          have hr0 : 0 ≤ x := hr.1
          have hr1 : x < 256 := hr.2
          have HB := Lib.hid hb; clear hb
          have HX := Lib.hid hx; clear hx hr hrange hbr
          go_wp2_with fail
          refine (NS2.out _ IS.out).mono ?_
          rintro e w' ⟨rfl, hb'⟩
          have hown2 := own_keep hown hb'
          have hbel2 := below_up hbel hb' hbel.size
          clear hbel hown
          go_wp2_with (at_builtin; refine append_one w' rfl (.tmp 30) (.tmp 33) 22 rfl w 5 i0 (.int .u8 0) 1 Try.underlying22 hi hz0 hz1 hz2 rfl _ _ _ rfl hown2 _ rfl rfl rfl (by omega) (by unfold maxLen; omega) hbel2 ?_; intro v' w'' hown' hb'')
          go_roundw
          case rel =>
            refine ⟨j + 1, (m : Int) + 8, by omega, by omega, fun t ht => ?_, by go_num, ?_, hb''⟩
            · by_cases htj : t = j
              · subst htj; exact HB.out.symm
              · exact HE.out t (by omega)
            · have h := own_snoc hown' x.toNat (by omega) (by omega)
              rw [bytesL_snoc]
              have e2 : byteOf l j = UInt8.ofNat x.toNat := by unfold byteOf; rw [← HX.out]
              rw [e2]
              exact h
          case measure => simp [intOf]; omega
      · obtain rfl : j = k := by omega
        have hcv := conv_own Try.underlying22 Try.underlying5 Try.underlying9 hown
        have hxe : (n : Int) ≤ x := by omega
        clear hx
        go_wp2
        go_ret2
        refine ⟨?_, hbel⟩
        have e1 : bytesOk l = true := by
          unfold bytesOk
          rw [← HN.out, decide_eq_true (by omega), Bool.true_and]
          refine isBits_all l fun t ht => ?_
          have htj : t / 8 < j := by have := HN.out; omega
          have h := isBits_at _ (HE.out (t / 8) htj) (t % 8) (by rw [seg_len l (t / 8) (by have := HN.out; omega)]; omega)
          rw [seg_at l (t / 8) (t % 8) (by have := HN.out; omega) (by omega)] at h
          rwa [show 8 * (t / 8) + t % 8 = t by omega] at h
        have e2 : bytesR l = bs (bytesL l j) := by unfold bytesR; rw [e1, ← HN.out, show n / 8 = j by omega]; rfl
        rw [e1, e2]
        rfl
  · have q8 : (((n : Int) % 8) != 0) = true := by rw [bne_iff_ne]; omega
    have e1 : bytesOk l = false := by unfold bytesOk; rw [← HN.out, decide_eq_false (by omega), Bool.false_and]
    have e2 : bytesR l = bs [] := by unfold bytesR; rw [e1]; rfl
    rw [e1, e2]
    clear e1 e2
    go_enter Try.func115, Try.ntmps115
    go_wp2
    go_ret2
    exact ⟨rfl, (Below.refl _ _).alloc (Nat.le_refl _) _⟩
end Go.Proofs.Ytgacldhpohnpaaa

namespace Go.Proofs.Ytgacldhpohnpaaa
open Go.RowKit
set_option linter.unusedVariables false

/-- Only a nil row has no place. -/
def Placed (A : Option Addr) (c : Nat) : Prop := A = none → c = 0
theorem OwnI.placed {w : World} {base : Nat} {A : Option Addr} {cap : Nat} {l : List Int} (h : OwnI w base A cap l) : Placed A cap := by
  intro hA
  rcases h.2 with ⟨h1, h2⟩ | ⟨g, cap', cur, h1, _⟩
  · simp only [Value.slice.injEq] at h1
    exact h1.2.2
  · simp only [Value.slice.injEq] at h1
    rw [hA] at h1
    exact absurd h1.1 (by simp)

/-- `append(v, A...)`, the row `v` the call's own, as one operation. -/
theorem wp_append_ints {P : Program} {w : World} {o : Oper} {a : Act} {K : Act → World → Prop} {Q : Exit → Act → World → Prop} (s x : Operand) (t : TypeId)
    (ho : o.op = .call { callee := .builtin .append, args := #[s, x], argTypes := #[t, t] })
    (wS : World) (i : TypeInfo) (ht : P.underlying t = some (.slice 3)) (hi : P.info? 3 = some i) (hz : i.zero = some (.int .i64 0))
    (hsize : i.size = 1) (hby : i.bytes = 8)
    (v : Value) (n : Nat) (l : List Int) (hs : a.eval s = v) (hown : w.ownsRow wS.heap.size 3 1 v n (ivs l))
    (A : Option Addr) (m c : Nat) (la : List Int) (hm : m = la.length) (hx : a.eval x = .slice A m c) (g : Nat) (hA : Ints w g A la) (hP : Placed A c)
    (hlen : n + m ≤ 4000000) (hb : Below wS.heap.size wS w)
    (h : ∀ v' w', w'.ownsRow wS.heap.size 3 1 v' (n + m) (ivs (l ++ la)) → Below wS.heap.size wS w' → K (a.put o.dst v') w') :
    o.wp P a w K Q := by
  subst hm
  cases A with
  | none =>
    obtain rfl : c = 0 := hP rfl
    have hl : la = [] := by
      rcases hA.2 with h | ⟨b, off, h, _⟩
      · exact h
      · exact absurd h (by simp)
    subst hl
    have hrun := run_append_owned_none (P := P) w wS.heap.size t o.type 3 i 1 ht hi v n (ivs l) hown
    unfold Oper.wp
    simp [execOp, ho, resolve, invoke, builtin, hs, hx, hrun, Result.andThen]
    exact h v w (by simpa using hown) hb
  | some ad =>
    have hcells : ∀ j u, (ivs la)[j]? = some u → w.cell? (ad.add j) = some u := by
      intro j u hj
      have hj2 : j < la.length := by
        have := (List.getElem?_eq_some_iff.1 hj).1
        rwa [ivs_len] at this
      obtain ⟨b, off, hb1, hb2, hb3⟩ := hA.at j hj2
      simp only [Option.some.injEq] at hb1
      subst hb1
      rw [Addr.add_lit, hb3 j hj2, ← hj, ivs_at la j hj2]
    refine wp_append_own w s x t ho wS.heap.size 3 i (.int .i64 0) 1 8 ht hi hz hsize hby rfl (by decide) v n (ivs l) hs hown ad la.length c (ivs la) hx (by rw [ivs_len, Nat.mul_one]) hcells ?_ (by unfold maxLen; omega) (by omega) hb.size ?_
    · intro u hu
      simp only [ivs, List.mem_map] at hu
      obtain ⟨y, _, rfl⟩ := hu
      rfl
    · intro v' w' hown' hg _
      refine h v' w' (by rw [ivs_append]; exact hown') (hb.grown hg hb.size fun k hk => ?_)
      exact (hown.lt k hk).1
/-- .. in a plain list of operations. -/
theorem append_ints {P : Program} {w : World} {ops : Array Oper} {rest : List Oper} {o : Oper} {a : Act} {Q : Exit → Act → World → Prop} (hgd : o.guard = none) (s x : Operand) (t : TypeId)
    (ho : o.op = .call { callee := .builtin .append, args := #[s, x], argTypes := #[t, t] })
    (wS : World) (i : TypeInfo) (ht : P.underlying t = some (.slice 3)) (hi : P.info? 3 = some i) (hz : i.zero = some (.int .i64 0))
    (hsize : i.size = 1) (hby : i.bytes = 8)
    (v : Value) (n : Nat) (l : List Int) (hs : a.eval s = v) (hown : w.ownsRow wS.heap.size 3 1 v n (ivs l))
    (A : Option Addr) (m c : Nat) (la : List Int) (hm : m = la.length) (hx : a.eval x = .slice A m c) (g : Nat) (hA : Ints w g A la) (hP : Placed A c)
    (hlen : n + m ≤ 4000000) (hb : Below wS.heap.size wS w)
    (h : ∀ v' w', w'.ownsRow wS.heap.size 3 1 v' (n + m) (ivs (l ++ la)) → Below wS.heap.size wS w' → wpList P ops Q rest (a.put o.dst v') w') :
    wpList P ops Q (o :: rest) a w :=
  wpList_plain hgd fun _ hK => wp_append_ints s x t ho wS i ht hi hz hsize hby v n l hs hown A m c la hm hx g hA hP hlen hb fun v' w' h2 h3 => hK _ _ (h v' w' h2 h3)
/-- .. in a region that draws its order. -/
theorem step_append_ints {P : Program} {w : World} {ops : Array Oper} {o : Oper} {a : Act} {K : Act → World → Prop} {Q : Exit → Act → World → Prop} {E : Prop} (hgd : o.guard = none) (s x : Operand) (t : TypeId)
    (ho : o.op = .call { callee := .builtin .append, args := #[s, x], argTypes := #[t, t] })
    (wS : World) (i : TypeInfo) (ht : P.underlying t = some (.slice 3)) (hi : P.info? 3 = some i) (hz : i.zero = some (.int .i64 0))
    (hsize : i.size = 1) (hby : i.bytes = 8)
    (v : Value) (n : Nat) (l : List Int) (hs : a.eval s = v) (hown : w.ownsRow wS.heap.size 3 1 v n (ivs l))
    (A : Option Addr) (m c : Nat) (la : List Int) (hm : m = la.length) (hx : a.eval x = .slice A m c) (g : Nat) (hA : Ints w g A la) (hP : Placed A c)
    (hlen : n + m ≤ 4000000) (hb : Below wS.heap.size wS w)
    (h : ∀ v' w', w'.ownsRow wS.heap.size 3 1 v' (n + m) (ivs (l ++ la)) → Below wS.heap.size wS w' → K (a.put o.dst v') w') :
    if Region.wanted o (yielded ops a.tmps) = true then Oper.wp P o a w K Q else E := by
  have hw' : Region.wanted o (yielded ops a.tmps) = true := by simp [Region.wanted, hgd]
  rw [if_pos hw']
  exact wp_append_ints s x t ho wS i ht hi hz hsize hby v n l hs hown A m c la hm hx g hA hP hlen hb h

/-- The rows one behind the other. -/
def catN (F : Nat → List Int) : Nat → List Int
  | 0 => []
  | k + 1 => catN F k ++ F k
theorem catN_len (F : Nat → List Int) (k : Nat) : (catN F (k + 1)).length = (catN F k).length + (F k).length := by rw [catN, List.length_append]
theorem catN_mono (F : Nat → List Int) (j k : Nat) (h : j ≤ k) : (catN F j).length ≤ (catN F k).length := by
  induction k with
  | zero => obtain rfl : j = 0 := by omega
            exact Nat.le_refl _
  | succ k ih =>
    by_cases hj : j = k + 1
    · subst hj; exact Nat.le_refl _
    · rw [catN_len]; have := ih (by omega); omega

end Go.Proofs.Ytgacldhpohnpaaa
