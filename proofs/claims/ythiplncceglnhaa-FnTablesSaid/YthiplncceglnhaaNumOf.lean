/-
  Contracts of NumOf and of the test of bits, in both texts, and the law of NumOf. Condition: no more than 1048576 elements (the law asks no more).
-/
import Derived.Test.YthiplncceglnhaaVar
import Derived.Test.YthiplncceglnhaaInts
namespace Go.Proofs.Ythiplncceglnhaa
open Go.RowKit
set_option linter.unusedVariables false

def isBit (x : Int) : Bool := decide (x = 0) || decide (x = 1)
def isBits (l : List Int) : Bool := l.all isBit
/-- Bits as a number. -/
def binV (l : List Int) : Int := l.foldl (fun n b => 2 * n + b) 0
def binOk (l : List Int) : Bool := decide (l.length ≤ 48) && isBits l
/-- What NumOf gives. -/
def binR (l : List Int) : Int := if binOk l then binV l else 0
theorem isBit_cases {x : Int} (h : isBit x = true) : x = 0 ∨ x = 1 := by simpa [isBit] using h
theorem isBit_no {x : Int} (h : isBit x = false) : x ≠ 0 ∧ x ≠ 1 := by simpa [isBit] using h
theorem isBits_all (l : List Int) (h : ∀ t, t < l.length → isBit (l.getD t 0) = true) : isBits l = true := by
  unfold isBits
  rw [List.all_eq_true]
  intro x hx
  obtain ⟨t, ht, rfl⟩ := List.getElem_of_mem hx
  have := h t ht
  rw [List.getD_eq_getElem?_getD, List.getElem?_eq_getElem ht] at this
  exact this
theorem isBits_bad (l : List Int) (t : Nat) (ht : t < l.length) (h : isBit (l.getD t 0) = false) : isBits l = false := by
  unfold isBits
  rw [List.all_eq_false]
  refine ⟨l[t], List.getElem_mem ht, ?_⟩
  rw [List.getD_eq_getElem?_getD, List.getElem?_eq_getElem ht] at h
  simpa using h
theorem isBits_at (l : List Int) (h : isBits l = true) (t : Nat) (ht : t < l.length) : isBit (l.getD t 0) = true := by
  unfold isBits at h
  rw [List.all_eq_true] at h
  rw [List.getD_eq_getElem?_getD, List.getElem?_eq_getElem ht]
  exact h _ (List.getElem_mem ht)
theorem binV_snoc (l : List Int) (x : Int) : binV (l ++ [x]) = 2 * binV l + x := by simp [binV]
theorem take_snoc_i (l : List Int) (j : Nat) (h : j < l.length) : l.take (j + 1) = l.take j ++ [l.getD j 0] := by
  rw [List.take_succ_eq_append_getElem h, List.getD_eq_getElem?_getD, List.getElem?_eq_getElem h]
  rfl
theorem binV_range (l : List Int) : ∀ (j : Nat), j ≤ l.length → (∀ t, t < j → isBit (l.getD t 0) = true) → 0 ≤ binV (l.take j) ∧ binV (l.take j) < 2 ^ j
  | 0, _, _ => by simp [binV]
  | j + 1, hj, h => by
    obtain ⟨h0, h1⟩ := binV_range l j (by omega) fun t ht => h t (by omega)
    rw [take_snoc_i l j (by omega), binV_snoc, Int.pow_succ]
    rcases isBit_cases (h j (by omega)) with e | e <;> rw [e] <;> omega

set_option maxRecDepth 100000 in
set_option maxHeartbeats 1000000 in
theorem spec_numof_any (A : Option Addr) (ca : Nat) (l : List Int) (w : World) (hA : Ints w w.heap.size A l) :
    Calls Try.prog 79 #[.slice A l.length ca] w fun e w' => e = .returned (.tuple #[.int .i64 (binR l), .bool (binOk l)]) ∧ Below w.heap.size w w' := by
  obtain ⟨n, hn⟩ : ∃ n, n = l.length := ⟨_, rfl⟩
  have hnm := hA.1
  rw [← hn] at hnm ⊢
  have HN := Lib.hid hn; clear hn
  have HA := Lib.hid hA; clear hA
  have LT := Lib.hid (l1in_t)
  have LF := Lib.hid (l1in_f)
  go_enter Try.func79, Try.ntmps79
  go_wp2
  go_loopw [4, 5] (fun v i wr => ∃ (j : Nat) (x : Int), j ≤ n ∧ j ≤ 48 ∧ (∀ t, t < j → isBit (l.getD t 0) = true) ∧ x = binV (l.take j) ∧ 0 ≤ x ∧ x < 2 ^ j ∧ v = .int .i64 x ∧ i = .int .i64 j ∧ Below w.heap.size w wr)
    (fun _ i _ => n - (intOf i).toNat)
  case atStart => exact ⟨0, 0, Nat.zero_le _, by omega, fun t ht => absurd ht (by omega), by simp [binV], by omega, by decide, rfl, rfl, Below.refl _ _⟩
  case round =>
    obtain ⟨j, x, hj, hj48, hpre, hx, hx0, hx1, rfl, rfl, hbel⟩ := hrel
    have HE := Lib.hid hpre; clear hpre
    have HX := Lib.hid hx; clear hx
    have HX1 := Lib.hid hx1
    have hx48 : x ≤ 281474976710656 := by
      have h2 : (2 : Int) ^ j ≤ 2 ^ 48 := by have := Nat.pow_le_pow_right (n := 2) (by decide) (show j ≤ 48 by omega); exact_mod_cast this
      omega
    clear hx1
    by_cases hlt : j < n
    · obtain ⟨ba, oa, rfl, ha1, ha2⟩ := HA.out.at j (by rw [← HN.out]; exact hlt)
      have c1 := ha2 j (by rw [← HN.out]; exact hlt)
      rw [← hbel.cell (p := ⟨ba, oa + j, none⟩) ha1] at c1
      clear ha2
      obtain ⟨y, hy⟩ : ∃ y, y = l.getD j 0 := ⟨_, rfl⟩
      rw [← hy] at c1
      have HY := Lib.hid hy; clear hy
      by_cases hyb : 0 ≤ y ∧ y ≤ 1
      · obtain ⟨hy0, hy1⟩ := hyb
        have hbit : isBit y = true := by rcases (show y = 0 ∨ y = 1 by omega) with rfl | rfl <;> rfl
        have HBT := Lib.hid hbit; clear hbit
        by_cases h48 : j = 48
        · subst h48
          go_wp2_with fail
          refine (LT.out _ _ _ hy0 hy1 _).mono ?_
          rintro e w' ⟨rfl, rfl⟩
          go_wp2
          go_ret2
          refine ⟨?_, hbel⟩
          have e1 : binOk l = false := by unfold binOk; rw [← HN.out, decide_eq_false (by omega), Bool.false_and]
          have e2 : binR l = 0 := by unfold binR; rw [e1]; rfl
          rw [e1, e2]
          rfl
        · have q48 : decide (48 ≤ (j : Int)) = false := by simp; omega
          have hx47 : x < 140737488355328 := by
            have h2 : (2 : Int) ^ j ≤ 2 ^ 47 := by have := Nat.pow_le_pow_right (n := 2) (by decide) (show j ≤ 47 by omega); exact_mod_cast this
            have := HX1.out
            omega
          go_wp2_with fail
          refine (LT.out _ _ _ hy0 hy1 _).mono ?_
          rintro e w' ⟨rfl, rfl⟩
          go_wp2
          go_roundw
          case rel =>
            refine ⟨j + 1, x * 2 + y, by omega, by omega, fun t ht => ?_, ?_, by omega, ?_, by go_num, by go_num, hbel⟩
            · by_cases htj : t = j
              · subst htj; rw [← HY.out]; exact HBT.out
              · exact HE.out t (by omega)
            · rw [take_snoc_i l j (by rw [← HN.out]; exact hlt), binV_snoc, ← HX.out, ← HY.out]
              omega
            · have := HX1.out
              rw [Int.pow_succ]
              omega
          case measure => simp [intOf]; omega
      · have hbit : isBit y = false := by simp [isBit]; omega
        have HBT := Lib.hid hbit; clear hbit
        go_wp2_with fail
        refine (LF.out _ _ _ (by omega) _).mono ?_
        rintro e w' ⟨rfl, rfl⟩
        go_wp2
        go_ret2
        refine ⟨?_, hbel⟩
        have e1 : binOk l = false := by unfold binOk; rw [isBits_bad l j (by rw [← HN.out]; exact hlt) (by rw [← HY.out]; exact HBT.out), Bool.and_false]
        have e2 : binR l = 0 := by unfold binR; rw [e1]; rfl
        rw [e1, e2]
        rfl
    · obtain rfl : j = n := by omega
      go_wp2
      go_ret2
      refine ⟨?_, hbel⟩
      have e1 : binOk l = true := by unfold binOk; rw [isBits_all l (by rw [← HN.out]; exact HE.out), ← HN.out, decide_eq_true (by omega)]; rfl
      have e2 : binR l = binV l := by unfold binR; rw [e1]; rfl
      rw [e1, e2, HX.out, List.take_of_length_le (by rw [HN.out]; exact Nat.le_refl _)]
      rfl

theorem toints_big {len : Int} (h : ¬ 1048576 < len) : decide (1048576 < len) = false := by simpa using h

end Go.Proofs.Ythiplncceglnhaa
