/-
  Structs of five to seven cells in memory: what is read of them, what holds over a call, a store. No condition.
-/
import Derived.Test.YtemfiglflbfocaaNbA
namespace Go.Proofs.Ytemfiglflbfocaa
open Go.RowKit
set_option linter.unusedVariables false

theorem heldx5 {w w' W : World} {p0 p1 p2 p3 p4 : Addr} {v0 v1 v2 v3 v4 : Value} {B : Nat} (h : w.cell? p0 = some v0 ∧ w.cell? p1 = some v1 ∧ w.cell? p2 = some v2 ∧ w.cell? p3 = some v3 ∧ w.cell? p4 = some v4 ∧ Below B W w ∧ B ≤ w.heap.size)
    (hb : Below w.heap.size w w') : w'.cell? p0 = some v0 ∧ w'.cell? p1 = some v1 ∧ w'.cell? p2 = some v2 ∧ w'.cell? p3 = some v3 ∧ w'.cell? p4 = some v4 ∧ Below B W w' ∧ B ≤ w'.heap.size := by
  obtain ⟨h0, h1, h2, h3, h4, hx, hy⟩ := h
  have k : ∀ {p : Addr} {v : Value}, w.cell? p = some v → w'.cell? p = some v := fun hc => by
    rw [hb.cell (World.block_lt_of_cell? w _ hc)]; exact hc
  exact ⟨k h0, k h1, k h2, k h3, k h4, hx.trans (hb.mono hy), Nat.le_trans hy hb.size⟩
theorem heldx5_drew {w W : World} {p0 p1 p2 p3 p4 : Addr} {v0 v1 v2 v3 v4 : Value} {B : Nat} (h : w.cell? p0 = some v0 ∧ w.cell? p1 = some v1 ∧ w.cell? p2 = some v2 ∧ w.cell? p3 = some v3 ∧ w.cell? p4 = some v4 ∧ Below B W w ∧ B ≤ w.heap.size) :
    w.drew.cell? p0 = some v0 ∧ w.drew.cell? p1 = some v1 ∧ w.drew.cell? p2 = some v2 ∧ w.drew.cell? p3 = some v3 ∧ w.drew.cell? p4 = some v4 ∧ Below B W w.drew ∧ B ≤ w.drew.heap.size := by
  obtain ⟨h0, h1, h2, h3, h4, hx, hy⟩ := h
  exact ⟨h0, h1, h2, h3, h4, hx.drew, hy⟩
theorem heldx5_below {w W : World} {p0 p1 p2 p3 p4 : Addr} {v0 v1 v2 v3 v4 : Value} {B : Nat} (h : w.cell? p0 = some v0 ∧ w.cell? p1 = some v1 ∧ w.cell? p2 = some v2 ∧ w.cell? p3 = some v3 ∧ w.cell? p4 = some v4 ∧ Below B W w ∧ B ≤ w.heap.size) : Below B W w := by
  obtain ⟨h0, h1, h2, h3, h4, hx, hy⟩ := h
  exact hx
theorem heldx5_size {w W : World} {p0 p1 p2 p3 p4 : Addr} {v0 v1 v2 v3 v4 : Value} {B : Nat} (h : w.cell? p0 = some v0 ∧ w.cell? p1 = some v1 ∧ w.cell? p2 = some v2 ∧ w.cell? p3 = some v3 ∧ w.cell? p4 = some v4 ∧ Below B W w ∧ B ≤ w.heap.size) : B ≤ w.heap.size := by
  obtain ⟨h0, h1, h2, h3, h4, hx, hy⟩ := h
  exact hy
theorem cells6 {w : World} {g : Nat} {T : TypeId} {u0 u1 u2 u3 u4 u5 : Value} {fr : Nat × Nat} (h : w.heap[g]? = some (.cells #[u0, u1, u2, u3, u4, u5] T fr)) : w.cell? ⟨g, 0, none⟩ = some u0 ∧ w.cell? ⟨g, 1, none⟩ = some u1 ∧ w.cell? ⟨g, 2, none⟩ = some u2 ∧ w.cell? ⟨g, 3, none⟩ = some u3 ∧ w.cell? ⟨g, 4, none⟩ = some u4 ∧ w.cell? ⟨g, 5, none⟩ = some u5 :=
  ⟨cell_of_row _ _ 0 _ _ _ h, cell_of_row _ _ 1 _ _ _ h, cell_of_row _ _ 2 _ _ _ h, cell_of_row _ _ 3 _ _ _ h, cell_of_row _ _ 4 _ _ _ h, cell_of_row _ _ 5 _ _ _ h⟩
theorem frozen6 {w : World} {g : Nat} {T : TypeId} {u0 u1 u2 u3 u4 u5 : Value} (h : w.heap[g]? = some (.cells #[u0, u1, u2, u3, u4, u5] T (0, 0))) : w.frozen? ⟨g, 0, none⟩ = false ∧ w.frozen? ⟨g, 1, none⟩ = false ∧ w.frozen? ⟨g, 2, none⟩ = false ∧ w.frozen? ⟨g, 3, none⟩ = false ∧ w.frozen? ⟨g, 4, none⟩ = false ∧ w.frozen? ⟨g, 5, none⟩ = false :=
  ⟨frozen_of_row w g 0 _ _ h, frozen_of_row w g 1 _ _ h, frozen_of_row w g 2 _ _ h, frozen_of_row w g 3 _ _ h, frozen_of_row w g 4 _ _ h, frozen_of_row w g 5 _ _ h⟩
theorem own_drew {w : World} {base : Nat} {A : Option Addr} {c : Nat} {l : List Int} (h : OwnI w base A c l) : OwnI w.drew base A c l := World.ownsRow.drew h
theorem cells7 {w : World} {g : Nat} {T : TypeId} {u0 u1 u2 u3 u4 u5 u6 : Value} {fr : Nat × Nat} (h : w.heap[g]? = some (.cells #[u0, u1, u2, u3, u4, u5, u6] T fr)) : w.cell? ⟨g, 0, none⟩ = some u0 ∧ w.cell? ⟨g, 1, none⟩ = some u1 ∧ w.cell? ⟨g, 2, none⟩ = some u2 ∧ w.cell? ⟨g, 3, none⟩ = some u3 ∧ w.cell? ⟨g, 4, none⟩ = some u4 ∧ w.cell? ⟨g, 5, none⟩ = some u5 ∧ w.cell? ⟨g, 6, none⟩ = some u6 :=
  ⟨cell_of_row _ _ 0 _ _ _ h, cell_of_row _ _ 1 _ _ _ h, cell_of_row _ _ 2 _ _ _ h, cell_of_row _ _ 3 _ _ _ h, cell_of_row _ _ 4 _ _ _ h, cell_of_row _ _ 5 _ _ _ h, cell_of_row _ _ 6 _ _ _ h⟩
theorem frozen7 {w : World} {g : Nat} {T : TypeId} {u0 u1 u2 u3 u4 u5 u6 : Value} (h : w.heap[g]? = some (.cells #[u0, u1, u2, u3, u4, u5, u6] T (0, 0))) : w.frozen? ⟨g, 0, none⟩ = false ∧ w.frozen? ⟨g, 1, none⟩ = false ∧ w.frozen? ⟨g, 2, none⟩ = false ∧ w.frozen? ⟨g, 3, none⟩ = false ∧ w.frozen? ⟨g, 4, none⟩ = false ∧ w.frozen? ⟨g, 5, none⟩ = false ∧ w.frozen? ⟨g, 6, none⟩ = false :=
  ⟨frozen_of_row w g 0 _ _ h, frozen_of_row w g 1 _ _ h, frozen_of_row w g 2 _ _ h, frozen_of_row w g 3 _ _ h, frozen_of_row w g 4 _ _ h, frozen_of_row w g 5 _ _ h, frozen_of_row w g 6 _ _ h⟩
theorem put7_block {w : World} {g : Nat} {T : TypeId} {u0 u1 u2 u3 u4 u5 u6 : Value} (h : w.heap[g]? = some (.cells #[u0, u1, u2, u3, u4, u5, u6] T (0, 0))) (x0 x1 x2 x3 x4 x5 x6 : Value) :
    (((((((w.setCell ⟨g, 0, none⟩ x0).setCell ⟨g, 1, none⟩ x1).setCell ⟨g, 2, none⟩ x2).setCell ⟨g, 3, none⟩ x3).setCell ⟨g, 4, none⟩ x4).setCell ⟨g, 5, none⟩ x5).setCell ⟨g, 6, none⟩ x6).heap[g]? = some (.cells #[x0, x1, x2, x3, x4, x5, x6] T (0, 0)) := by
  rw [heap_setCell_same _ g 6 _ _ _ (heap_setCell_same _ g 5 _ _ _ (heap_setCell_same _ g 4 _ _ _ (heap_setCell_same _ g 3 _ _ _ (heap_setCell_same _ g 2 _ _ _ (heap_setCell_same _ g 1 _ _ _ (heap_setCell_same w g 0 _ _ _ h))))))]
  rfl
theorem put7_other {w : World} {g k : Nat} (h : k ≠ g) {x0 x1 x2 x3 x4 x5 x6 : Value} : (((((((w.setCell ⟨g, 0, none⟩ x0).setCell ⟨g, 1, none⟩ x1).setCell ⟨g, 2, none⟩ x2).setCell ⟨g, 3, none⟩ x3).setCell ⟨g, 4, none⟩ x4).setCell ⟨g, 5, none⟩ x5).setCell ⟨g, 6, none⟩ x6).heap[k]? = w.heap[k]? := by
  rw [heap_setCell_other _ _ _ _ h, heap_setCell_other _ _ _ _ h, heap_setCell_other _ _ _ _ h, heap_setCell_other _ _ _ _ h, heap_setCell_other _ _ _ _ h, heap_setCell_other _ _ _ _ h, heap_setCell_other _ _ _ _ h]
theorem put7_below {w W : World} {B : Nat} (h : Below B W w) (g : Nat) (hg : B ≤ g) (x0 x1 x2 x3 x4 x5 x6 : Value) : Below B W (((((((w.setCell ⟨g, 0, none⟩ x0).setCell ⟨g, 1, none⟩ x1).setCell ⟨g, 2, none⟩ x2).setCell ⟨g, 3, none⟩ x3).setCell ⟨g, 4, none⟩ x4).setCell ⟨g, 5, none⟩ x5).setCell ⟨g, 6, none⟩ x6) :=
  Below.setCell (Below.setCell (Below.setCell (Below.setCell (Below.setCell (Below.setCell (Below.setCell h (p := ⟨g, 0, none⟩) hg x0) (p := ⟨g, 1, none⟩) hg x1) (p := ⟨g, 2, none⟩) hg x2) (p := ⟨g, 3, none⟩) hg x3) (p := ⟨g, 4, none⟩) hg x4) (p := ⟨g, 5, none⟩) hg x5) (p := ⟨g, 6, none⟩) hg x6
theorem grown_refl7 (w : World) (r : Option Nat) : w.grownBy w r := ⟨rfl, rfl, rfl, Nat.le_refl _, fun _ _ _ => rfl⟩
theorem grown_set7 {w w' : World} {g : Nat} (h : w.grownBy w' (some g)) (i : Nat) (u : Value) : w.grownBy (w'.setCell ⟨g, i, none⟩ u) (some g) :=
  ⟨h.os, h.tape, h.output, by simpa using h.size, fun k hk hne => by rw [heap_setCell_other _ _ _ _ (by simpa using hne)]; exact h.block k hk hne⟩
theorem put7_grown (w : World) (g : Nat) (x0 x1 x2 x3 x4 x5 x6 : Value) : w.grownBy (((((((w.setCell ⟨g, 0, none⟩ x0).setCell ⟨g, 1, none⟩ x1).setCell ⟨g, 2, none⟩ x2).setCell ⟨g, 3, none⟩ x3).setCell ⟨g, 4, none⟩ x4).setCell ⟨g, 5, none⟩ x5).setCell ⟨g, 6, none⟩ x6) (some g) :=
  grown_set7 (grown_set7 (grown_set7 (grown_set7 (grown_set7 (grown_set7 (grown_set7 (grown_refl7 w _) 0 x0) 1 x1) 2 x2) 3 x3) 4 x4) 5 x5) 6 x6
theorem heldx5_put7 {w W : World} {g x B : Nat} {v0 v1 v2 v3 v4 : Value} {x0 x1 x2 x3 x4 x5 x6 : Value} (h : w.cell? ⟨g, 0, none⟩ = some v0 ∧ w.cell? ⟨g, 1, none⟩ = some v1 ∧ w.cell? ⟨g, 2, none⟩ = some v2 ∧ w.cell? ⟨g, 3, none⟩ = some v3 ∧ w.cell? ⟨g, 4, none⟩ = some v4 ∧ Below B W w ∧ B ≤ w.heap.size) (hg : g ≠ x) (hx : B ≤ x) :
    (((((((w.setCell ⟨x, 0, none⟩ x0).setCell ⟨x, 1, none⟩ x1).setCell ⟨x, 2, none⟩ x2).setCell ⟨x, 3, none⟩ x3).setCell ⟨x, 4, none⟩ x4).setCell ⟨x, 5, none⟩ x5).setCell ⟨x, 6, none⟩ x6).cell? ⟨g, 0, none⟩ = some v0 ∧ (((((((w.setCell ⟨x, 0, none⟩ x0).setCell ⟨x, 1, none⟩ x1).setCell ⟨x, 2, none⟩ x2).setCell ⟨x, 3, none⟩ x3).setCell ⟨x, 4, none⟩ x4).setCell ⟨x, 5, none⟩ x5).setCell ⟨x, 6, none⟩ x6).cell? ⟨g, 1, none⟩ = some v1 ∧ (((((((w.setCell ⟨x, 0, none⟩ x0).setCell ⟨x, 1, none⟩ x1).setCell ⟨x, 2, none⟩ x2).setCell ⟨x, 3, none⟩ x3).setCell ⟨x, 4, none⟩ x4).setCell ⟨x, 5, none⟩ x5).setCell ⟨x, 6, none⟩ x6).cell? ⟨g, 2, none⟩ = some v2 ∧ (((((((w.setCell ⟨x, 0, none⟩ x0).setCell ⟨x, 1, none⟩ x1).setCell ⟨x, 2, none⟩ x2).setCell ⟨x, 3, none⟩ x3).setCell ⟨x, 4, none⟩ x4).setCell ⟨x, 5, none⟩ x5).setCell ⟨x, 6, none⟩ x6).cell? ⟨g, 3, none⟩ = some v3 ∧ (((((((w.setCell ⟨x, 0, none⟩ x0).setCell ⟨x, 1, none⟩ x1).setCell ⟨x, 2, none⟩ x2).setCell ⟨x, 3, none⟩ x3).setCell ⟨x, 4, none⟩ x4).setCell ⟨x, 5, none⟩ x5).setCell ⟨x, 6, none⟩ x6).cell? ⟨g, 4, none⟩ = some v4 ∧ Below B W (((((((w.setCell ⟨x, 0, none⟩ x0).setCell ⟨x, 1, none⟩ x1).setCell ⟨x, 2, none⟩ x2).setCell ⟨x, 3, none⟩ x3).setCell ⟨x, 4, none⟩ x4).setCell ⟨x, 5, none⟩ x5).setCell ⟨x, 6, none⟩ x6) ∧ B ≤ (((((((w.setCell ⟨x, 0, none⟩ x0).setCell ⟨x, 1, none⟩ x1).setCell ⟨x, 2, none⟩ x2).setCell ⟨x, 3, none⟩ x3).setCell ⟨x, 4, none⟩ x4).setCell ⟨x, 5, none⟩ x5).setCell ⟨x, 6, none⟩ x6).heap.size := by
  obtain ⟨h0, h1, h2, h3, h4, h5, h6⟩ := h
  have hc : ∀ j, (((((((w.setCell ⟨x, 0, none⟩ x0).setCell ⟨x, 1, none⟩ x1).setCell ⟨x, 2, none⟩ x2).setCell ⟨x, 3, none⟩ x3).setCell ⟨x, 4, none⟩ x4).setCell ⟨x, 5, none⟩ x5).setCell ⟨x, 6, none⟩ x6).cell? ⟨g, j, none⟩ = w.cell? ⟨g, j, none⟩ := fun j => World.cell?_of_block (a := ⟨g, j, none⟩) (put7_other hg)
  refine ⟨(hc 0).trans h0, (hc 1).trans h1, (hc 2).trans h2, (hc 3).trans h3, (hc 4).trans h4, put7_below h5 x hx _ _ _ _ _ _ _, ?_⟩
  simpa using h6
theorem heldx7 {w w' W : World} {p0 p1 p2 p3 p4 p5 p6 : Addr} {v0 v1 v2 v3 v4 v5 v6 : Value} {B : Nat} (h : w.cell? p0 = some v0 ∧ w.cell? p1 = some v1 ∧ w.cell? p2 = some v2 ∧ w.cell? p3 = some v3 ∧ w.cell? p4 = some v4 ∧ w.cell? p5 = some v5 ∧ w.cell? p6 = some v6 ∧ Below B W w ∧ B ≤ w.heap.size)
    (hb : Below w.heap.size w w') : w'.cell? p0 = some v0 ∧ w'.cell? p1 = some v1 ∧ w'.cell? p2 = some v2 ∧ w'.cell? p3 = some v3 ∧ w'.cell? p4 = some v4 ∧ w'.cell? p5 = some v5 ∧ w'.cell? p6 = some v6 ∧ Below B W w' ∧ B ≤ w'.heap.size := by
  obtain ⟨h0, h1, h2, h3, h4, h5, h6, hx, hy⟩ := h
  have k : ∀ {p : Addr} {v : Value}, w.cell? p = some v → w'.cell? p = some v := fun hc => by
    rw [hb.cell (World.block_lt_of_cell? w _ hc)]; exact hc
  exact ⟨k h0, k h1, k h2, k h3, k h4, k h5, k h6, hx.trans (hb.mono hy), Nat.le_trans hy hb.size⟩
theorem heldx7_drew {w W : World} {p0 p1 p2 p3 p4 p5 p6 : Addr} {v0 v1 v2 v3 v4 v5 v6 : Value} {B : Nat} (h : w.cell? p0 = some v0 ∧ w.cell? p1 = some v1 ∧ w.cell? p2 = some v2 ∧ w.cell? p3 = some v3 ∧ w.cell? p4 = some v4 ∧ w.cell? p5 = some v5 ∧ w.cell? p6 = some v6 ∧ Below B W w ∧ B ≤ w.heap.size) :
    w.drew.cell? p0 = some v0 ∧ w.drew.cell? p1 = some v1 ∧ w.drew.cell? p2 = some v2 ∧ w.drew.cell? p3 = some v3 ∧ w.drew.cell? p4 = some v4 ∧ w.drew.cell? p5 = some v5 ∧ w.drew.cell? p6 = some v6 ∧ Below B W w.drew ∧ B ≤ w.drew.heap.size := by
  obtain ⟨h0, h1, h2, h3, h4, h5, h6, hx, hy⟩ := h
  exact ⟨h0, h1, h2, h3, h4, h5, h6, hx.drew, hy⟩
theorem heldx7_below {w W : World} {p0 p1 p2 p3 p4 p5 p6 : Addr} {v0 v1 v2 v3 v4 v5 v6 : Value} {B : Nat} (h : w.cell? p0 = some v0 ∧ w.cell? p1 = some v1 ∧ w.cell? p2 = some v2 ∧ w.cell? p3 = some v3 ∧ w.cell? p4 = some v4 ∧ w.cell? p5 = some v5 ∧ w.cell? p6 = some v6 ∧ Below B W w ∧ B ≤ w.heap.size) : Below B W w := by
  obtain ⟨h0, h1, h2, h3, h4, h5, h6, hx, hy⟩ := h
  exact hx
theorem heldx7_size {w W : World} {p0 p1 p2 p3 p4 p5 p6 : Addr} {v0 v1 v2 v3 v4 v5 v6 : Value} {B : Nat} (h : w.cell? p0 = some v0 ∧ w.cell? p1 = some v1 ∧ w.cell? p2 = some v2 ∧ w.cell? p3 = some v3 ∧ w.cell? p4 = some v4 ∧ w.cell? p5 = some v5 ∧ w.cell? p6 = some v6 ∧ Below B W w ∧ B ≤ w.heap.size) : B ≤ w.heap.size := by
  obtain ⟨h0, h1, h2, h3, h4, h5, h6, hx, hy⟩ := h
  exact hy
theorem heldx7_set {w W : World} {g x j B : Nat} {v0 v1 v2 v3 v4 v5 v6 u : Value} (h : w.cell? ⟨g, 0, none⟩ = some v0 ∧ w.cell? ⟨g, 1, none⟩ = some v1 ∧ w.cell? ⟨g, 2, none⟩ = some v2 ∧ w.cell? ⟨g, 3, none⟩ = some v3 ∧ w.cell? ⟨g, 4, none⟩ = some v4 ∧ w.cell? ⟨g, 5, none⟩ = some v5 ∧ w.cell? ⟨g, 6, none⟩ = some v6 ∧ Below B W w ∧ B ≤ w.heap.size) (hg : g ≠ x) (hx : B ≤ x) :
    (w.setCell ⟨x, j, none⟩ u).cell? ⟨g, 0, none⟩ = some v0 ∧ (w.setCell ⟨x, j, none⟩ u).cell? ⟨g, 1, none⟩ = some v1 ∧ (w.setCell ⟨x, j, none⟩ u).cell? ⟨g, 2, none⟩ = some v2 ∧ (w.setCell ⟨x, j, none⟩ u).cell? ⟨g, 3, none⟩ = some v3 ∧ (w.setCell ⟨x, j, none⟩ u).cell? ⟨g, 4, none⟩ = some v4 ∧ (w.setCell ⟨x, j, none⟩ u).cell? ⟨g, 5, none⟩ = some v5 ∧ (w.setCell ⟨x, j, none⟩ u).cell? ⟨g, 6, none⟩ = some v6 ∧ Below B W (w.setCell ⟨x, j, none⟩ u) ∧ B ≤ (w.setCell ⟨x, j, none⟩ u).heap.size := by
  obtain ⟨h0, h1, h2, h3, h4, h5, h6, h7, h8⟩ := h
  have hc : ∀ i, (w.setCell ⟨x, j, none⟩ u).cell? ⟨g, i, none⟩ = w.cell? ⟨g, i, none⟩ := fun i => World.cell?_of_block (a := ⟨g, i, none⟩) (heap_setCell_other _ _ _ _ hg)
  exact ⟨(hc 0).trans h0, (hc 1).trans h1, (hc 2).trans h2, (hc 3).trans h3, (hc 4).trans h4, (hc 5).trans h5, (hc 6).trans h6, Below.setCell h7 (p := ⟨x, j, none⟩) hx u, by simpa using h8⟩
end Go.Proofs.Ytemfiglflbfocaa
