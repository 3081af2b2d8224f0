/-
  Contracts of StopOk, in both texts, and the walk of its exact law. Condition: the string is no longer than 1048576 bytes (the law asks no more).
-/
import Derived.Test.YthiplncceglnhaaReaderLaws
namespace Go.Proofs.Ythiplncceglnhaa
open Go.RowKit
set_option linter.unusedVariables false

/-- What StopOk answers. -/
def soV (s : ByteArray) (a : Int) : Int :=
  if leftV s a = 0 then 1 else if leftV s a ≤ 8 ∧ bitV s a = 1 ∧ zaV s (a + 1) = leftV s a - 1 then 0 else 6

theorem leftV_range (s : ByteArray) (a : Int) (hs : s.size ≤ 1048576) : 0 ≤ leftV s a ∧ leftV s a ≤ 8388608 := by
  unfold leftV
  cases h : rdOk s a with
  | true => have := (rdOk_true s a).1 h; simp; omega
  | false => simp
theorem leftV_pos (s : ByteArray) (a : Int) (h : leftV s a ≠ 0) : 0 ≤ a ∧ a < 8 * (s.size : Int) ∧ leftV s a = 8 * (s.size : Int) - a ∧ leftV s (a + 1) = leftV s a - 1 ∧ rdOk s a = true := by
  unfold leftV at h
  cases hk : rdOk s a with
  | false => rw [hk] at h; simp at h
  | true =>
    rw [hk] at h
    have h1 := (rdOk_true s a).1 hk
    have h2 : a < 8 * (s.size : Int) := by simp at h; omega
    have h3 : rdOk s (a + 1) = true := (rdOk_true s (a + 1)).2 (by omega)
    refine ⟨h1.1, h2, by rw [leftV, if_pos hk], ?_, rfl⟩
    rw [leftV, if_pos h3, leftV, if_pos hk]
    omega

theorem frozen2 {w : World} {g : Nat} {u v : Value} {T : TypeId} (h : w.heap[g]? = some (.cells #[u, v] T (0, 0))) : w.frozen? ⟨g, 0, none⟩ = false ∧ w.frozen? ⟨g, 1, none⟩ = false :=
  ⟨frozen_of_row w g 0 _ _ h, frozen_of_row w g 1 _ _ h⟩
theorem held2_drew {w w1 : World} {g : Nat} {u v : Value} (h : w1.cell? ⟨g, 0, none⟩ = some u ∧ w1.cell? ⟨g, 1, none⟩ = some v ∧ Below w.heap.size w w1) : w1.drew.cell? ⟨g, 0, none⟩ = some u ∧ w1.drew.cell? ⟨g, 1, none⟩ = some v ∧ Below w.heap.size w w1.drew :=
  ⟨h.1, h.2.1, h.2.2.drew⟩
theorem held2_below {w w1 : World} {g : Nat} {u v : Value} (h : w1.cell? ⟨g, 0, none⟩ = some u ∧ w1.cell? ⟨g, 1, none⟩ = some v ∧ Below w.heap.size w w1) : Below w.heap.size w w1 := h.2.2
theorem held2 {w w1 w2 : World} {g : Nat} {u v : Value} (h : w1.cell? ⟨g, 0, none⟩ = some u ∧ w1.cell? ⟨g, 1, none⟩ = some v ∧ Below w.heap.size w w1) (hb : Below w1.heap.size w1 w2) :
    w2.cell? ⟨g, 0, none⟩ = some u ∧ w2.cell? ⟨g, 1, none⟩ = some v ∧ Below w.heap.size w w2 := by
  have h0 := World.block_lt_of_cell? w1 _ h.1
  exact ⟨(hb.cell (p := ⟨g, 0, none⟩) h0).trans h.1, (hb.cell (p := ⟨g, 1, none⟩) h0).trans h.2.1, below_step h.2.2 hb⟩

end Go.Proofs.Ythiplncceglnhaa
