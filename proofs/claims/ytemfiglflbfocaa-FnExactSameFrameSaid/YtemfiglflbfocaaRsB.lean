/-
  The laws' helpers over Block: its copy, whether two are alike, its marks. Condition: its row is no longer than 1048576 (the laws ask no more).
-/
import Derived.Test.YtemfiglflbfocaaNbA
namespace Go.Proofs.Ytemfiglflbfocaa
open Go.RowKit
set_option linter.unusedVariables false

theorem rs2_cells {w : World} {g : Nat} {T : TypeId} {u0 u1 : Value} {fr : Nat × Nat} (h : w.heap[g]? = some (.cells #[u0, u1] T fr)) : w.cell? ⟨g, 0, none⟩ = some u0 ∧ w.cell? ⟨g, 1, none⟩ = some u1 :=
  ⟨cell_of_row _ _ 0 _ _ _ h, cell_of_row _ _ 1 _ _ _ h⟩
theorem rs2_frozen {w : World} {g : Nat} {u0 u1 : Value} {T : TypeId} (h : w.heap[g]? = some (.cells #[u0, u1] T (0, 0))) : w.frozen? ⟨g, 0, none⟩ = false ∧ w.frozen? ⟨g, 1, none⟩ = false :=
  ⟨frozen_of_row w g 0 _ _ h, frozen_of_row w g 1 _ _ h⟩
theorem rs2_put {w : World} {g : Nat} {T : TypeId} {u0 u1 : Value} (h : w.heap[g]? = some (.cells #[u0, u1] T (0, 0))) (v0 v1 : Value) : ((w.setCell ⟨g, 0, none⟩ v0).setCell ⟨g, 1, none⟩ v1).heap[g]? = some (.cells #[v0, v1] T (0, 0)) := by
  rw [heap_setCell_same _ g 1 _ _ _ (heap_setCell_same w g 0 _ _ _ h)]
  rfl
theorem rs2_grown (w : World) (g : Nat) (v0 v1 : Value) : w.grownBy ((w.setCell ⟨g, 0, none⟩ v0).setCell ⟨g, 1, none⟩ v1) (some g) := (World.grownBy.trans (grown_cell _ g 0 v0) (grown_cell _ g 1 v1))
theorem rs2_hold {w wr w' : World} {base : Nat} {a0 a1 b0 b1 : Addr} {u0 u1 v0 v1 : Value} {A : Option Addr} {c : Nat} {l : List Int} (h : wr.cell? a0 = some u0 ∧ wr.cell? a1 = some u1 ∧ wr.cell? b0 = some v0 ∧ wr.cell? b1 = some v1 ∧ OwnI wr base A c l ∧ Below w.heap.size w wr) (hb : Below wr.heap.size wr w') : w'.cell? a0 = some u0 ∧ w'.cell? a1 = some u1 ∧ w'.cell? b0 = some v0 ∧ w'.cell? b1 = some v1 ∧ OwnI w' base A c l ∧ Below w.heap.size w w' := by
  obtain ⟨h0, h1, h2, h3, ho, hw⟩ := h
  have k : ∀ {p : Addr} {v : Value}, wr.cell? p = some v → w'.cell? p = some v := fun hc => by
    rw [hb.cell (World.block_lt_of_cell? wr _ hc)]; exact hc
  exact ⟨k h0, k h1, k h2, k h3, ho.kept hb (Nat.le_refl _), below_up hw hb hw.size⟩
theorem rs2_hold_drew {w wr : World} {base : Nat} {a0 a1 b0 b1 : Addr} {u0 u1 v0 v1 : Value} {A : Option Addr} {c : Nat} {l : List Int} (h : wr.cell? a0 = some u0 ∧ wr.cell? a1 = some u1 ∧ wr.cell? b0 = some v0 ∧ wr.cell? b1 = some v1 ∧ OwnI wr base A c l ∧ Below w.heap.size w wr) : wr.drew.cell? a0 = some u0 ∧ wr.drew.cell? a1 = some u1 ∧ wr.drew.cell? b0 = some v0 ∧ wr.drew.cell? b1 = some v1 ∧ OwnI wr.drew base A c l ∧ Below w.heap.size w wr.drew := by
  obtain ⟨h0, h1, h2, h3, ho, hw⟩ := h
  exact ⟨h0, h1, h2, h3, World.ownsRow.drew ho, hw.drew⟩
theorem rs2_held_own {w wr : World} {base : Nat} {a0 a1 b0 b1 : Addr} {u0 u1 v0 v1 : Value} {A : Option Addr} {c : Nat} {l : List Int} (h : wr.cell? a0 = some u0 ∧ wr.cell? a1 = some u1 ∧ wr.cell? b0 = some v0 ∧ wr.cell? b1 = some v1 ∧ OwnI wr base A c l ∧ Below w.heap.size w wr) : OwnI wr base A c l := h.2.2.2.2.1
theorem rs2_held_below {w wr : World} {base : Nat} {a0 a1 b0 b1 : Addr} {u0 u1 v0 v1 : Value} {A : Option Addr} {c : Nat} {l : List Int} (h : wr.cell? a0 = some u0 ∧ wr.cell? a1 = some u1 ∧ wr.cell? b0 = some v0 ∧ wr.cell? b1 = some v1 ∧ OwnI wr base A c l ∧ Below w.heap.size w wr) : Below w.heap.size w wr := h.2.2.2.2.2
end Go.Proofs.Ytemfiglflbfocaa
