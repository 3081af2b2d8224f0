/-
  Contracts of LevelsFrom, in both texts. Condition: the lists are no longer than 1048576 (the laws ask no more).
-/
import Derived.Test.YtgccphidnbfcaaaDoorRunB
namespace Go.Proofs.YtgccphidnbfcaaaDoor
open Go.RowKit
set_option linter.unusedVariables false

theorem fitV_cases {x y left : Int} (h : fitV (x, y) left = false) : x < 0 ∨ (0 ≤ x ∧ left ≤ x) ∨ (0 ≤ x ∧ x < left ∧ y = 0) ∨ (0 ≤ x ∧ x < left ∧ y ≠ 0 ∧ inV y = false) := by
  unfold fitV at h
  by_cases h1 : 0 ≤ x
  · by_cases h2 : x < left
    · by_cases h3 : y = 0
      · exact .inr (.inr (.inl ⟨h1, h2, h3⟩))
      · simp [h1, h2, h3] at h
        exact .inr (.inr (.inr ⟨h1, h2, h3, h⟩))
    · exact .inr (.inl ⟨h1, by omega⟩)
  · exact .inl (by omega)
theorem fitV_parts {x y left : Int} (h : fitV (x, y) left = true) : 0 ≤ x ∧ x < left ∧ y ≠ 0 ∧ inV y = true := by
  simp [fitV] at h
  exact ⟨h.1.1.1, h.1.1.2, h.1.2, h.2⟩
theorem lfT_step {n : Nat} {p : EntL} {j : Nat} {o : List Int} {a : Nat} {x y : Int} (h : lfT n p j = some (o, a)) (he : (x, y) = entAt p j) : lfT n p (j + 1) = if fitV (x, y) ((n : Int) - (a : Int)) then some (o.set (a + x.toNat) y, a + x.toNat + 1) else none := by
  rw [lfT, h, ← he]
  rfl
theorem lfO_some {n : Nat} {p : EntL} {o : List Int} {a : Nat} (hn : n = 16 ∨ n = 64) (h : lfT n p p.length = some (o, a)) : lfR p (n : Int) = o ∧ lfE p (n : Int) = 0 := by
  have e : lfO p (n : Int) = some (o, a) := by
    unfold lfO
    rw [if_pos (by omega), Int.toNat_natCast, h]
  unfold lfR lfE
  rw [e]
  exact ⟨rfl, rfl⟩
theorem lfO_none {n : Nat} {p : EntL} {j : Nat} (hj : j ≤ p.length) (h : lfT n p j = none) : lfR p (n : Int) = [] ∧ lfE p (n : Int) = 5 := by
  have e : lfO p (n : Int) = none := by
    unfold lfO
    split
    · rw [Int.toNat_natCast, show p.length = j + (p.length - j) by omega]
      exact lfT_none h _
    · rfl
  unfold lfR lfE
  rw [e]
  exact ⟨rfl, rfl⟩
theorem lfO_bad {n : Int} {p : EntL} (h : ¬ (n = 16 ∨ n = 64)) : lfR p n = [] ∧ lfE p n = 5 := by
  have e : lfO p n = none := by
    unfold lfO
    rw [if_neg h]
  unfold lfR lfE
  rw [e]
  exact ⟨rfl, rfl⟩

set_option maxRecDepth 100000 in
set_option maxHeartbeats 1000000 in
theorem impl_side_bad (n : Int) (h : ¬ (n = 16 ∨ n = 64)) (w : World) :
    Calls Tryd.prog 29 #[.int .i64 n] w fun e w' => e = .returned (.int .i64 0) ∧ w = w' := by
  have b1 : (n == 16) = false := by rw [beq_eq_false_iff_ne]; omega
  have b2 : (n == 64) = false := by rw [beq_eq_false_iff_ne]; omega
  clear h
  go_enter Tryd.func29, Tryd.ntmps29
  go_wp2
  go_ret
  exact ⟨rfl, rfl⟩

end Go.Proofs.YtgccphidnbfcaaaDoor
