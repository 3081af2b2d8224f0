/-
  Contracts of the program's predictorOf and ruleOf. Condition: the neighbourhood is valid.
-/
import Derived.Test.YteafnokhefdmpaaPyA
import Derived.Test.YteafnokhefdmpaaNbY
import Derived.Test.YteafnokhefdmpaaPrF
import Derived.Deep.Cut
import Derived.Laws.EntriesVeiled
import Derived.Deep.RegionHeld3
namespace Go.Proofs.Yteafnokhefdmpaa
open Go.RowKit
set_option linter.unusedVariables false

theorem heldx5 {w w' W : World} {p0 p1 p2 p3 p4 : Addr} {v0 v1 v2 v3 v4 : Value} {B : Nat} (h : w.cell? p0 = some v0 ∧ w.cell? p1 = some v1 ∧ w.cell? p2 = some v2 ∧ w.cell? p3 = some v3 ∧ w.cell? p4 = some v4 ∧ Below B W w ∧ B ≤ w.heap.size)
    (hb : Below w.heap.size w w') : w'.cell? p0 = some v0 ∧ w'.cell? p1 = some v1 ∧ w'.cell? p2 = some v2 ∧ w'.cell? p3 = some v3 ∧ w'.cell? p4 = some v4 ∧ Below B W w' ∧ B ≤ w'.heap.size := by
  obtain ⟨h0, h1, h2, h3, h4, hx, hy⟩ := h
  have k : ∀ {p : Addr} {v : Value}, w.cell? p = some v → w'.cell? p = some v := fun hc => by
    rw [hb.cell (World.block_lt_of_cell? w _ hc)]; exact hc
  exact ⟨k h0, k h1, k h2, k h3, k h4, hx.trans (hb.mono hy), Nat.le_trans hy hb.size⟩
theorem heldx5_drew {w W : World} {p0 p1 p2 p3 p4 : Addr} {v0 v1 v2 v3 v4 : Value} {B : Nat} (h : w.cell? p0 = some v0 ∧ w.cell? p1 = some v1 ∧ w.cell? p2 = some v2 ∧ w.cell? p3 = some v3 ∧ w.cell? p4 = some v4 ∧ Below B W w ∧ B ≤ w.heap.size) :
    w.drew.cell? p0 = some v0 ∧ w.drew.cell? p1 = some v1 ∧ w.drew.cell? p2 = some v2 ∧ w.drew.cell? p3 = some v3 ∧ w.drew.cell? p4 = some v4 ∧ Below B W w.drew ∧ B ≤ w.drew.heap.size := by
  obtain ⟨h0, h1, h2, h3, h4, hx, hy⟩ := h
  exact ⟨h0, h1, h2, h3, h4, hx.drew, hy⟩
theorem heldx5_below {w W : World} {p0 p1 p2 p3 p4 : Addr} {v0 v1 v2 v3 v4 : Value} {B : Nat} (h : w.cell? p0 = some v0 ∧ w.cell? p1 = some v1 ∧ w.cell? p2 = some v2 ∧ w.cell? p3 = some v3 ∧ w.cell? p4 = some v4 ∧ Below B W w ∧ B ≤ w.heap.size) : Below B W w := by
  obtain ⟨h0, h1, h2, h3, h4, hx, hy⟩ := h
  exact hx
theorem heldx5_size {w W : World} {p0 p1 p2 p3 p4 : Addr} {v0 v1 v2 v3 v4 : Value} {B : Nat} (h : w.cell? p0 = some v0 ∧ w.cell? p1 = some v1 ∧ w.cell? p2 = some v2 ∧ w.cell? p3 = some v3 ∧ w.cell? p4 = some v4 ∧ Below B W w ∧ B ≤ w.heap.size) : B ≤ w.heap.size := by
  obtain ⟨h0, h1, h2, h3, h4, hx, hy⟩ := h
  exact hy
theorem cells6 {w : World} {g : Nat} {T : TypeId} {u0 u1 u2 u3 u4 u5 : Value} {fr : Nat × Nat} (h : w.heap[g]? = some (.cells #[u0, u1, u2, u3, u4, u5] T fr)) : w.cell? ⟨g, 0, none⟩ = some u0 ∧ w.cell? ⟨g, 1, none⟩ = some u1 ∧ w.cell? ⟨g, 2, none⟩ = some u2 ∧ w.cell? ⟨g, 3, none⟩ = some u3 ∧ w.cell? ⟨g, 4, none⟩ = some u4 ∧ w.cell? ⟨g, 5, none⟩ = some u5 :=
  ⟨cell_of_row _ _ 0 _ _ _ h, cell_of_row _ _ 1 _ _ _ h, cell_of_row _ _ 2 _ _ _ h, cell_of_row _ _ 3 _ _ _ h, cell_of_row _ _ 4 _ _ _ h, cell_of_row _ _ 5 _ _ _ h⟩
theorem frozen6 {w : World} {g : Nat} {T : TypeId} {u0 u1 u2 u3 u4 u5 : Value} (h : w.heap[g]? = some (.cells #[u0, u1, u2, u3, u4, u5] T (0, 0))) : w.frozen? ⟨g, 0, none⟩ = false ∧ w.frozen? ⟨g, 1, none⟩ = false ∧ w.frozen? ⟨g, 2, none⟩ = false ∧ w.frozen? ⟨g, 3, none⟩ = false ∧ w.frozen? ⟨g, 4, none⟩ = false ∧ w.frozen? ⟨g, 5, none⟩ = false :=
  ⟨frozen_of_row w g 0 _ _ h, frozen_of_row w g 1 _ _ h, frozen_of_row w g 2 _ _ h, frozen_of_row w g 3 _ _ h, frozen_of_row w g 4 _ _ h, frozen_of_row w g 5 _ _ h⟩
theorem own_drew {w : World} {base : Nat} {A : Option Addr} {c : Nat} {l : List Int} (h : OwnI w base A c l) : OwnI w.drew base A c l := World.ownsRow.drew h
theorem cells7 {w : World} {g : Nat} {T : TypeId} {u0 u1 u2 u3 u4 u5 u6 : Value} {fr : Nat × Nat} (h : w.heap[g]? = some (.cells #[u0, u1, u2, u3, u4, u5, u6] T fr)) : w.cell? ⟨g, 0, none⟩ = some u0 ∧ w.cell? ⟨g, 1, none⟩ = some u1 ∧ w.cell? ⟨g, 2, none⟩ = some u2 ∧ w.cell? ⟨g, 3, none⟩ = some u3 ∧ w.cell? ⟨g, 4, none⟩ = some u4 ∧ w.cell? ⟨g, 5, none⟩ = some u5 ∧ w.cell? ⟨g, 6, none⟩ = some u6 :=
  ⟨cell_of_row _ _ 0 _ _ _ h, cell_of_row _ _ 1 _ _ _ h, cell_of_row _ _ 2 _ _ _ h, cell_of_row _ _ 3 _ _ _ h, cell_of_row _ _ 4 _ _ _ h, cell_of_row _ _ 5 _ _ _ h, cell_of_row _ _ 6 _ _ _ h⟩
theorem frozen7 {w : World} {g : Nat} {T : TypeId} {u0 u1 u2 u3 u4 u5 u6 : Value} (h : w.heap[g]? = some (.cells #[u0, u1, u2, u3, u4, u5, u6] T (0, 0))) : w.frozen? ⟨g, 0, none⟩ = false ∧ w.frozen? ⟨g, 1, none⟩ = false ∧ w.frozen? ⟨g, 2, none⟩ = false ∧ w.frozen? ⟨g, 3, none⟩ = false ∧ w.frozen? ⟨g, 4, none⟩ = false ∧ w.frozen? ⟨g, 5, none⟩ = false ∧ w.frozen? ⟨g, 6, none⟩ = false :=
  ⟨frozen_of_row w g 0 _ _ h, frozen_of_row w g 1 _ _ h, frozen_of_row w g 2 _ _ h, frozen_of_row w g 3 _ _ h, frozen_of_row w g 4 _ _ h, frozen_of_row w g 5 _ _ h, frozen_of_row w g 6 _ _ h⟩
theorem put7_block {w : World} {g : Nat} {T : TypeId} {u0 u1 u2 u3 u4 u5 u6 : Value} (h : w.heap[g]? = some (.cells #[u0, u1, u2, u3, u4, u5, u6] T (0, 0))) (x0 x1 x2 x3 x4 x5 x6 : Value) :
    (((((((w.setCell ⟨g, 0, none⟩ x0).setCell ⟨g, 1, none⟩ x1).setCell ⟨g, 2, none⟩ x2).setCell ⟨g, 3, none⟩ x3).setCell ⟨g, 4, none⟩ x4).setCell ⟨g, 5, none⟩ x5).setCell ⟨g, 6, none⟩ x6).heap[g]? = some (.cells #[x0, x1, x2, x3, x4, x5, x6] T (0, 0)) := by
  rw [heap_setCell_same _ g 6 _ _ _ (heap_setCell_same _ g 5 _ _ _ (heap_setCell_same _ g 4 _ _ _ (heap_setCell_same _ g 3 _ _ _ (heap_setCell_same _ g 2 _ _ _ (heap_setCell_same _ g 1 _ _ _ (heap_setCell_same w g 0 _ _ _ h))))))]
  rfl
theorem put7_other {w : World} {g k : Nat} (h : k ≠ g) {x0 x1 x2 x3 x4 x5 x6 : Value} : (((((((w.setCell ⟨g, 0, none⟩ x0).setCell ⟨g, 1, none⟩ x1).setCell ⟨g, 2, none⟩ x2).setCell ⟨g, 3, none⟩ x3).setCell ⟨g, 4, none⟩ x4).setCell ⟨g, 5, none⟩ x5).setCell ⟨g, 6, none⟩ x6).heap[k]? = w.heap[k]? := by
  rw [heap_setCell_other _ _ _ _ h, heap_setCell_other _ _ _ _ h, heap_setCell_other _ _ _ _ h, heap_setCell_other _ _ _ _ h, heap_setCell_other _ _ _ _ h, heap_setCell_other _ _ _ _ h, heap_setCell_other _ _ _ _ h]
theorem put7_below {w W : World} {B : Nat} (h : Below B W w) (g : Nat) (hg : B ≤ g) (x0 x1 x2 x3 x4 x5 x6 : Value) : Below B W (((((((w.setCell ⟨g, 0, none⟩ x0).setCell ⟨g, 1, none⟩ x1).setCell ⟨g, 2, none⟩ x2).setCell ⟨g, 3, none⟩ x3).setCell ⟨g, 4, none⟩ x4).setCell ⟨g, 5, none⟩ x5).setCell ⟨g, 6, none⟩ x6) :=
  Below.setCell (Below.setCell (Below.setCell (Below.setCell (Below.setCell (Below.setCell (Below.setCell h (p := ⟨g, 0, none⟩) hg x0) (p := ⟨g, 1, none⟩) hg x1) (p := ⟨g, 2, none⟩) hg x2) (p := ⟨g, 3, none⟩) hg x3) (p := ⟨g, 4, none⟩) hg x4) (p := ⟨g, 5, none⟩) hg x5) (p := ⟨g, 6, none⟩) hg x6
theorem grown_refl7 (w : World) (r : Option Nat) : w.grownBy w r := ⟨rfl, rfl, rfl, Nat.le_refl _, fun _ _ _ => rfl⟩
theorem grown_set7 {w w' : World} {g : Nat} (h : w.grownBy w' (some g)) (i : Nat) (u : Value) : w.grownBy (w'.setCell ⟨g, i, none⟩ u) (some g) :=
  ⟨h.os, h.tape, h.output, by simpa using h.size, fun k hk hne => by rw [heap_setCell_other _ _ _ _ (by simpa using hne)]; exact h.block k hk hne⟩
theorem put7_grown (w : World) (g : Nat) (x0 x1 x2 x3 x4 x5 x6 : Value) : w.grownBy (((((((w.setCell ⟨g, 0, none⟩ x0).setCell ⟨g, 1, none⟩ x1).setCell ⟨g, 2, none⟩ x2).setCell ⟨g, 3, none⟩ x3).setCell ⟨g, 4, none⟩ x4).setCell ⟨g, 5, none⟩ x5).setCell ⟨g, 6, none⟩ x6) (some g) :=
  grown_set7 (grown_set7 (grown_set7 (grown_set7 (grown_set7 (grown_set7 (grown_set7 (grown_refl7 w _) 0 x0) 1 x1) 2 x2) 3 x3) 4 x4) 5 x5) 6 x6
theorem heldx5_put7 {w W : World} {g x B : Nat} {v0 v1 v2 v3 v4 : Value} {x0 x1 x2 x3 x4 x5 x6 : Value} (h : w.cell? ⟨g, 0, none⟩ = some v0 ∧ w.cell? ⟨g, 1, none⟩ = some v1 ∧ w.cell? ⟨g, 2, none⟩ = some v2 ∧ w.cell? ⟨g, 3, none⟩ = some v3 ∧ w.cell? ⟨g, 4, none⟩ = some v4 ∧ Below B W w ∧ B ≤ w.heap.size) (hg : g ≠ x) (hx : B ≤ x) :
    (((((((w.setCell ⟨x, 0, none⟩ x0).setCell ⟨x, 1, none⟩ x1).setCell ⟨x, 2, none⟩ x2).setCell ⟨x, 3, none⟩ x3).setCell ⟨x, 4, none⟩ x4).setCell ⟨x, 5, none⟩ x5).setCell ⟨x, 6, none⟩ x6).cell? ⟨g, 0, none⟩ = some v0 ∧ (((((((w.setCell ⟨x, 0, none⟩ x0).setCell ⟨x, 1, none⟩ x1).setCell ⟨x, 2, none⟩ x2).setCell ⟨x, 3, none⟩ x3).setCell ⟨x, 4, none⟩ x4).setCell ⟨x, 5, none⟩ x5).setCell ⟨x, 6, none⟩ x6).cell? ⟨g, 1, none⟩ = some v1 ∧ (((((((w.setCell ⟨x, 0, none⟩ x0).setCell ⟨x, 1, none⟩ x1).setCell ⟨x, 2, none⟩ x2).setCell ⟨x, 3, none⟩ x3).setCell ⟨x, 4, none⟩ x4).setCell ⟨x, 5, none⟩ x5).setCell ⟨x, 6, none⟩ x6).cell? ⟨g, 2, none⟩ = some v2 ∧ (((((((w.setCell ⟨x, 0, none⟩ x0).setCell ⟨x, 1, none⟩ x1).setCell ⟨x, 2, none⟩ x2).setCell ⟨x, 3, none⟩ x3).setCell ⟨x, 4, none⟩ x4).setCell ⟨x, 5, none⟩ x5).setCell ⟨x, 6, none⟩ x6).cell? ⟨g, 3, none⟩ = some v3 ∧ (((((((w.setCell ⟨x, 0, none⟩ x0).setCell ⟨x, 1, none⟩ x1).setCell ⟨x, 2, none⟩ x2).setCell ⟨x, 3, none⟩ x3).setCell ⟨x, 4, none⟩ x4).setCell ⟨x, 5, none⟩ x5).setCell ⟨x, 6, none⟩ x6).cell? ⟨g, 4, none⟩ = some v4 ∧ Below B W (((((((w.setCell ⟨x, 0, none⟩ x0).setCell ⟨x, 1, none⟩ x1).setCell ⟨x, 2, none⟩ x2).setCell ⟨x, 3, none⟩ x3).setCell ⟨x, 4, none⟩ x4).setCell ⟨x, 5, none⟩ x5).setCell ⟨x, 6, none⟩ x6) ∧ B ≤ (((((((w.setCell ⟨x, 0, none⟩ x0).setCell ⟨x, 1, none⟩ x1).setCell ⟨x, 2, none⟩ x2).setCell ⟨x, 3, none⟩ x3).setCell ⟨x, 4, none⟩ x4).setCell ⟨x, 5, none⟩ x5).setCell ⟨x, 6, none⟩ x6).heap.size := by
  obtain ⟨h0, h1, h2, h3, h4, h5, h6⟩ := h
  have hc : ∀ j, (((((((w.setCell ⟨x, 0, none⟩ x0).setCell ⟨x, 1, none⟩ x1).setCell ⟨x, 2, none⟩ x2).setCell ⟨x, 3, none⟩ x3).setCell ⟨x, 4, none⟩ x4).setCell ⟨x, 5, none⟩ x5).setCell ⟨x, 6, none⟩ x6).cell? ⟨g, j, none⟩ = w.cell? ⟨g, j, none⟩ := fun j => World.cell?_of_block (a := ⟨g, j, none⟩) (put7_other hg)
  refine ⟨(hc 0).trans h0, (hc 1).trans h1, (hc 2).trans h2, (hc 3).trans h3, (hc 4).trans h4, put7_below h5 x hx _ _ _ _ _ _ _, ?_⟩
  simpa using h6

set_option maxRecDepth 100000 in
set_option maxHeartbeats 4000000 in
theorem impl_predictorof_any (A : Option Addr) (cA : Nat) (B : Option Addr) (cB : Nat) (t l r : List Int) (k mv : Int) (b1 b2 : Bool) (n : Int) (w : World) (hT : Ints w w.heap.size A t) (hL : Ints w w.heap.size B l)
    (BD : Hid (∀ w, Ints w w.heap.size A t → Ints w w.heap.size B l → Calls Try.prog 43 #[.agg #[.slice A t.length cA, .slice B l.length cB, .int .i64 k, .bool b1, .bool b2], .int .i64 n] w fun e w' => ∃ A' c, e = .returned (.slice A' r.length c) ∧ OwnI w' w.heap.size A' c r ∧ Below w.heap.size w w'))
    (MN : Hid (∀ w, Ints w w.heap.size A t → Ints w w.heap.size B l → Calls Try.prog 44 #[.agg #[.slice A t.length cA, .slice B l.length cB, .int .i64 k, .bool b1, .bool b2], .int .i64 n] w fun e w' => e = .returned (.int .i64 mv) ∧ Below w.heap.size w w')) :
    Calls Try.prog 30 #[.agg #[.slice A t.length cA, .slice B l.length cB, .int .i64 k, .bool b1, .bool b2], .int .i64 n] w fun e w' => ∃ R cR, e = .returned (.agg #[.slice A t.length cA, .slice B l.length cB, .int .i64 k, .bool b1, .bool b2, .slice R r.length cR, .int .i64 mv]) ∧ OwnI w' w.heap.size R cR r ∧ Below w.heap.size w w' := by
  have h2 := heap_two w (.cells #[.slice A t.length cA, .slice B l.length cB, .int .i64 k, .bool b1, .bool b2] 27) (.cells #[.slice none 0 0, .slice none 0 0, .int .i64 0, .bool false, .bool false, .slice none 0 0, .int .i64 0] 50)
  have HR := Lib.hid h2.2
  have bt := below_two w (.cells #[.slice A t.length cA, .slice B l.length cB, .int .i64 k, .bool b1, .bool b2] 27) (.cells #[.slice none 0 0, .slice none 0 0, .int .i64 0, .bool false, .bool false, .slice none 0 0, .int .i64 0] 50)
  have hsz : ((w.alloc (.cells #[.slice A t.length cA, .slice B l.length cB, .int .i64 k, .bool b1, .bool b2] 27)).alloc (.cells #[.slice none 0 0, .slice none 0 0, .int .i64 0, .bool false, .bool false, .slice none 0 0, .int .i64 0] 50)).heap.size = w.heap.size + 1 + 1 := by simp
  have hS : ((w.alloc (.cells #[.slice A t.length cA, .slice B l.length cB, .int .i64 k, .bool b1, .bool b2] 27)).alloc (.cells #[.slice none 0 0, .slice none 0 0, .int .i64 0, .bool false, .bool false, .slice none 0 0, .int .i64 0] 50)).cell? ⟨w.heap.size, 0, none⟩ = some (.slice A t.length cA) ∧ ((w.alloc (.cells #[.slice A t.length cA, .slice B l.length cB, .int .i64 k, .bool b1, .bool b2] 27)).alloc (.cells #[.slice none 0 0, .slice none 0 0, .int .i64 0, .bool false, .bool false, .slice none 0 0, .int .i64 0] 50)).cell? ⟨w.heap.size, 1, none⟩ = some (.slice B l.length cB) ∧ ((w.alloc (.cells #[.slice A t.length cA, .slice B l.length cB, .int .i64 k, .bool b1, .bool b2] 27)).alloc (.cells #[.slice none 0 0, .slice none 0 0, .int .i64 0, .bool false, .bool false, .slice none 0 0, .int .i64 0] 50)).cell? ⟨w.heap.size, 2, none⟩ = some (.int .i64 k) ∧ ((w.alloc (.cells #[.slice A t.length cA, .slice B l.length cB, .int .i64 k, .bool b1, .bool b2] 27)).alloc (.cells #[.slice none 0 0, .slice none 0 0, .int .i64 0, .bool false, .bool false, .slice none 0 0, .int .i64 0] 50)).cell? ⟨w.heap.size, 3, none⟩ = some (.bool b1) ∧ ((w.alloc (.cells #[.slice A t.length cA, .slice B l.length cB, .int .i64 k, .bool b1, .bool b2] 27)).alloc (.cells #[.slice none 0 0, .slice none 0 0, .int .i64 0, .bool false, .bool false, .slice none 0 0, .int .i64 0] 50)).cell? ⟨w.heap.size, 4, none⟩ = some (.bool b2) ∧ Below (w.heap.size + 1) ((w.alloc (.cells #[.slice A t.length cA, .slice B l.length cB, .int .i64 k, .bool b1, .bool b2] 27)).alloc (.cells #[.slice none 0 0, .slice none 0 0, .int .i64 0, .bool false, .bool false, .slice none 0 0, .int .i64 0] 50)) ((w.alloc (.cells #[.slice A t.length cA, .slice B l.length cB, .int .i64 k, .bool b1, .bool b2] 27)).alloc (.cells #[.slice none 0 0, .slice none 0 0, .int .i64 0, .bool false, .bool false, .slice none 0 0, .int .i64 0] 50)) ∧ w.heap.size + 1 ≤ ((w.alloc (.cells #[.slice A t.length cA, .slice B l.length cB, .int .i64 k, .bool b1, .bool b2] 27)).alloc (.cells #[.slice none 0 0, .slice none 0 0, .int .i64 0, .bool false, .bool false, .slice none 0 0, .int .i64 0] 50)).heap.size := by
    obtain ⟨c0, c1, c2, c3, c4⟩ := cells5 h2.1
    exact ⟨c0, c1, c2, c3, c4, Below.refl _ _, by omega⟩
  have UP : Hid (∀ wr, Below (w.heap.size + 1) ((w.alloc (.cells #[.slice A t.length cA, .slice B l.length cB, .int .i64 k, .bool b1, .bool b2] 27)).alloc (.cells #[.slice none 0 0, .slice none 0 0, .int .i64 0, .bool false, .bool false, .slice none 0 0, .int .i64 0] 50)) wr → Below w.heap.size w wr) := Lib.hid fun wr h => bt.trans (h.mono (Nat.le_succ _))
  have I1 : Hid (∀ wr, Below (w.heap.size + 1) ((w.alloc (.cells #[.slice A t.length cA, .slice B l.length cB, .int .i64 k, .bool b1, .bool b2] 27)).alloc (.cells #[.slice none 0 0, .slice none 0 0, .int .i64 0, .bool false, .bool false, .slice none 0 0, .int .i64 0] 50)) wr → Ints wr wr.heap.size A t) := Lib.hid fun wr h => (hT.below (UP.out wr h) (Nat.le_refl _)).mono (UP.out wr h).size
  have I2 : Hid (∀ wr, Below (w.heap.size + 1) ((w.alloc (.cells #[.slice A t.length cA, .slice B l.length cB, .int .i64 k, .bool b1, .bool b2] 27)).alloc (.cells #[.slice none 0 0, .slice none 0 0, .int .i64 0, .bool false, .bool false, .slice none 0 0, .int .i64 0] 50)) wr → Ints wr wr.heap.size B l) := Lib.hid fun wr h => (hL.below (UP.out wr h) (Nat.le_refl _)).mono (UP.out wr h).size
  clear h2 bt hsz hT hL
  go_enter Try.func30, Try.ntmps30
  go_upto_region 1 with fail
  go_region_held3 (fun w' => w'.cell? ⟨w.heap.size, 0, none⟩ = some (.slice A t.length cA) ∧ w'.cell? ⟨w.heap.size, 1, none⟩ = some (.slice B l.length cB) ∧ w'.cell? ⟨w.heap.size, 2, none⟩ = some (.int .i64 k) ∧ w'.cell? ⟨w.heap.size, 3, none⟩ = some (.bool b1) ∧ w'.cell? ⟨w.heap.size, 4, none⟩ = some (.bool b2) ∧ Below (w.heap.size + 1) ((w.alloc (.cells #[.slice A t.length cA, .slice B l.length cB, .int .i64 k, .bool b1, .bool b2] 27)).alloc (.cells #[.slice none 0 0, .slice none 0 0, .int .i64 0, .bool false, .bool false, .slice none 0 0, .int .i64 0] 50)) w' ∧ w.heap.size + 1 ≤ w'.heap.size)
    (first | with_reducible assumption | (with_reducible refine heldx5_drew ?_; with_reducible assumption) | (with_reducible refine heldx5 ?_ (by with_reducible assumption); with_reducible assumption) | (exact heldx5_put7 (by with_reducible assumption) (Nat.ne_of_lt (Nat.lt_succ_self _)) (Nat.le_refl _)) | fail)
    (first
      | (go_at_call 43; have k0 := K2.out; (with_reducible refine (BD.out _ (I1.out _ (heldx5_below (by with_reducible assumption))) (I2.out _ (heldx5_below (by with_reducible assumption)))).mono ?_); rintro e w1 ⟨R, cR, rfl, hoR, hb'⟩; have K1 : Hid (w1.heap[w.heap.size + 1]? = some (.cells #[.slice none 0 0, .slice none 0 0, .int .i64 0, .bool false, .bool false, .slice none 0 0, .int .i64 0] 50 (0, 0))) := Lib.hid ((hb'.block (w.heap.size + 1) (heap_lt k0)).trans k0); have O1 : Hid (OwnI w1 (w.heap.size + 1 + 1) R cR r) := Lib.hid (own_lower hoR (Nat.succ_le_of_lt (heap_lt k0))); obtain ⟨f0, f1, f2, f3, f4, f5, f6⟩ := frozen7 K1.out; obtain ⟨d0, d1, d2, d3, d4, d5, d6⟩ := cells7 K1.out; clear hoR k0)
      | (go_at_call 43; have k0 := HR.out; (with_reducible refine (BD.out _ (I1.out _ (heldx5_below (by with_reducible assumption))) (I2.out _ (heldx5_below (by with_reducible assumption)))).mono ?_); rintro e w1 ⟨R, cR, rfl, hoR, hb'⟩; have K1 : Hid (w1.heap[w.heap.size + 1]? = some (.cells #[.slice none 0 0, .slice none 0 0, .int .i64 0, .bool false, .bool false, .slice none 0 0, .int .i64 0] 50 (0, 0))) := Lib.hid ((hb'.block (w.heap.size + 1) (heap_lt k0)).trans k0); have O1 : Hid (OwnI w1 (w.heap.size + 1 + 1) R cR r) := Lib.hid (own_lower hoR (Nat.succ_le_of_lt (heap_lt k0))); obtain ⟨f0, f1, f2, f3, f4, f5, f6⟩ := frozen7 K1.out; obtain ⟨d0, d1, d2, d3, d4, d5, d6⟩ := cells7 K1.out; clear hoR k0)
      | (go_at_call 44; have k0 := K1.out; (with_reducible refine (MN.out _ (I1.out _ (heldx5_below (by with_reducible assumption))) (I2.out _ (heldx5_below (by with_reducible assumption)))).mono ?_); rintro e w2 ⟨rfl, hb''⟩; have K2 : Hid (w2.heap[w.heap.size + 1]? = some (.cells #[.slice none 0 0, .slice none 0 0, .int .i64 0, .bool false, .bool false, .slice none 0 0, .int .i64 0] 50 (0, 0))) := Lib.hid ((hb''.block (w.heap.size + 1) (heap_lt k0)).trans k0); have O2 : Hid (OwnI w2 (w.heap.size + 1 + 1) R cR r) := Lib.hid (OwnI.kept O1.out hb'' (Nat.le_refl _)); obtain ⟨f0, f1, f2, f3, f4, f5, f6⟩ := frozen7 K2.out; obtain ⟨d0, d1, d2, d3, d4, d5, d6⟩ := cells7 K2.out; clear k0)
      | (go_at_call 44; have k0 := HR.out; (with_reducible refine (MN.out _ (I1.out _ (heldx5_below (by with_reducible assumption))) (I2.out _ (heldx5_below (by with_reducible assumption)))).mono ?_); rintro e w2 ⟨rfl, hb''⟩; have K2 : Hid (w2.heap[w.heap.size + 1]? = some (.cells #[.slice none 0 0, .slice none 0 0, .int .i64 0, .bool false, .bool false, .slice none 0 0, .int .i64 0] 50 (0, 0))) := Lib.hid ((hb''.block (w.heap.size + 1) (heap_lt k0)).trans k0); obtain ⟨f0, f1, f2, f3, f4, f5, f6⟩ := frozen7 K2.out; obtain ⟨d0, d1, d2, d3, d4, d5, d6⟩ := cells7 K2.out; clear k0)
      | fail)
  all_goals go_wp2
  all_goals first
    | (have P := put7_block K2.out (.slice A t.length cA) (.slice B l.length cB) (.int .i64 k) (.bool b1) (.bool b2) (.slice R r.length cR) (.int .i64 mv); obtain ⟨e0, e1, e2, e3, e4, e5, e6⟩ := cells7 P; have OX := own_lower (OwnI.other O2.out (put7_grown w2 (w.heap.size + 1) (.slice A t.length cA) (.slice B l.length cB) (.int .i64 k) (.bool b1) (.bool b2) (.slice R r.length cR) (.int .i64 mv)) (fun k hk => by simp only [Option.some.injEq] at hk; omega)) (Nat.le_of_lt (Nat.lt_succ_of_lt (Nat.lt_succ_self w.heap.size))); exact bodyPost_ret (v := .agg #[.slice A t.length cA, .slice B l.length cB, .int .i64 k, .bool b1, .bool b2, .slice R r.length cR, .int .i64 mv]) (by simp [results, Try.results30, go_sem, e0, e1, e2, e3, e4, e5, e6]) rfl ⟨R, cR, rfl, OX, UP.out _ (heldx5_below (by with_reducible assumption))⟩)
    | (have P := put7_block K1.out (.slice A t.length cA) (.slice B l.length cB) (.int .i64 k) (.bool b1) (.bool b2) (.slice R r.length cR) (.int .i64 mv); obtain ⟨e0, e1, e2, e3, e4, e5, e6⟩ := cells7 P; have OX := own_lower (OwnI.other O1.out (put7_grown w1 (w.heap.size + 1) (.slice A t.length cA) (.slice B l.length cB) (.int .i64 k) (.bool b1) (.bool b2) (.slice R r.length cR) (.int .i64 mv)) (fun k hk => by simp only [Option.some.injEq] at hk; omega)) (Nat.le_of_lt (Nat.lt_succ_of_lt (Nat.lt_succ_self w.heap.size))); exact bodyPost_ret (v := .agg #[.slice A t.length cA, .slice B l.length cB, .int .i64 k, .bool b1, .bool b2, .slice R r.length cR, .int .i64 mv]) (by simp [results, Try.results30, go_sem, e0, e1, e2, e3, e4, e5, e6]) rfl ⟨R, cR, rfl, OX, UP.out _ (heldx5_below (by with_reducible assumption))⟩)

set_option maxRecDepth 100000 in
set_option maxHeartbeats 1000000 in
theorem ruleof_0 (w : World) : Calls Try.prog 27 #[.int .i64 0] w fun e w' => e = .returned (.tuple #[.func (.func 34) #[] #[], .bool true]) ∧ Below w.heap.size w w' := by
  have hh := heap_alloc_new w (.cells #[.nilFunc, .nilFunc, .nilFunc, .nilFunc, .nilFunc, .nilFunc] 56)
  obtain ⟨f0, f1, f2, f3, f4, f5⟩ := frozen6 hh
  obtain ⟨c0, c1, c2, c3, c4, c5⟩ := cells6 hh
  clear hh
  go_enter Try.func27, Try.ntmps27
  go_wp2
  go_ret2
  exact ⟨rfl, below_new w _⟩

set_option maxRecDepth 100000 in
set_option maxHeartbeats 1000000 in
theorem ruleof_1 (w : World) : Calls Try.prog 27 #[.int .i64 1] w fun e w' => e = .returned (.tuple #[.func (.func 35) #[] #[], .bool true]) ∧ Below w.heap.size w w' := by
  have hh := heap_alloc_new w (.cells #[.nilFunc, .nilFunc, .nilFunc, .nilFunc, .nilFunc, .nilFunc] 56)
  obtain ⟨f0, f1, f2, f3, f4, f5⟩ := frozen6 hh
  obtain ⟨c0, c1, c2, c3, c4, c5⟩ := cells6 hh
  clear hh
  go_enter Try.func27, Try.ntmps27
  go_wp2
  go_ret2
  exact ⟨rfl, below_new w _⟩

set_option maxRecDepth 100000 in
set_option maxHeartbeats 1000000 in
theorem ruleof_2 (w : World) : Calls Try.prog 27 #[.int .i64 2] w fun e w' => e = .returned (.tuple #[.func (.func 36) #[] #[], .bool true]) ∧ Below w.heap.size w w' := by
  have hh := heap_alloc_new w (.cells #[.nilFunc, .nilFunc, .nilFunc, .nilFunc, .nilFunc, .nilFunc] 56)
  obtain ⟨f0, f1, f2, f3, f4, f5⟩ := frozen6 hh
  obtain ⟨c0, c1, c2, c3, c4, c5⟩ := cells6 hh
  clear hh
  go_enter Try.func27, Try.ntmps27
  go_wp2
  go_ret2
  exact ⟨rfl, below_new w _⟩

set_option maxRecDepth 100000 in
set_option maxHeartbeats 1000000 in
theorem ruleof_3 (w : World) : Calls Try.prog 27 #[.int .i64 3] w fun e w' => e = .returned (.tuple #[.func (.func 37) #[] #[], .bool true]) ∧ Below w.heap.size w w' := by
  have hh := heap_alloc_new w (.cells #[.nilFunc, .nilFunc, .nilFunc, .nilFunc, .nilFunc, .nilFunc] 56)
  obtain ⟨f0, f1, f2, f3, f4, f5⟩ := frozen6 hh
  obtain ⟨c0, c1, c2, c3, c4, c5⟩ := cells6 hh
  clear hh
  go_enter Try.func27, Try.ntmps27
  go_wp2
  go_ret2
  exact ⟨rfl, below_new w _⟩

set_option maxRecDepth 100000 in
set_option maxHeartbeats 1000000 in
theorem ruleof_4 (w : World) : Calls Try.prog 27 #[.int .i64 4] w fun e w' => e = .returned (.tuple #[.func (.func 38) #[] #[], .bool true]) ∧ Below w.heap.size w w' := by
  have hh := heap_alloc_new w (.cells #[.nilFunc, .nilFunc, .nilFunc, .nilFunc, .nilFunc, .nilFunc] 56)
  obtain ⟨f0, f1, f2, f3, f4, f5⟩ := frozen6 hh
  obtain ⟨c0, c1, c2, c3, c4, c5⟩ := cells6 hh
  clear hh
  go_enter Try.func27, Try.ntmps27
  go_wp2
  go_ret2
  exact ⟨rfl, below_new w _⟩

set_option maxRecDepth 100000 in
set_option maxHeartbeats 1000000 in
theorem ruleof_5 (w : World) : Calls Try.prog 27 #[.int .i64 5] w fun e w' => e = .returned (.tuple #[.func (.func 39) #[] #[], .bool true]) ∧ Below w.heap.size w w' := by
  have hh := heap_alloc_new w (.cells #[.nilFunc, .nilFunc, .nilFunc, .nilFunc, .nilFunc, .nilFunc] 56)
  obtain ⟨f0, f1, f2, f3, f4, f5⟩ := frozen6 hh
  obtain ⟨c0, c1, c2, c3, c4, c5⟩ := cells6 hh
  clear hh
  go_enter Try.func27, Try.ntmps27
  go_wp2
  go_ret2
  exact ⟨rfl, below_new w _⟩

set_option maxRecDepth 100000 in
set_option maxHeartbeats 1000000 in
theorem ruleof_off (m : Int) (hm : mdOk m = false) (w : World) : Calls Try.prog 27 #[.int .i64 m] w fun e w' => e = .returned (.tuple #[.nilFunc, .bool false]) ∧ Below w.heap.size w w' := by
  have hh := heap_alloc_new w (.cells #[.nilFunc, .nilFunc, .nilFunc, .nilFunc, .nilFunc, .nilFunc] 56)
  obtain ⟨f0, f1, f2, f3, f4, f5⟩ := frozen6 hh
  obtain ⟨c0, c1, c2, c3, c4, c5⟩ := cells6 hh
  clear hh
  by_cases h0 : m < 0
  · have d1 : decide (m < 0) = true := by simpa using h0
    clear hm h0
    go_enter Try.func27, Try.ntmps27
    go_wp2
    go_ret2
    exact ⟨rfl, below_new w _⟩
  · have d1 : decide (m < 0) = false := by simpa using h0
    have h6 : 6 ≤ m := by
      simp only [mdOk, Bool.and_eq_false_iff, decide_eq_false_iff_not] at hm
      omega
    have d2 : decide ((6 : Int) ≤ m) = true := by simpa using h6
    clear hm h0
    go_enter Try.func27, Try.ntmps27
    go_wp2
    go_ret2
    exact ⟨rfl, below_new w _⟩
end Go.Proofs.Yteafnokhefdmpaa
