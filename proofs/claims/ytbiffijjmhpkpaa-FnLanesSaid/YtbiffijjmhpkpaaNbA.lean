/-
  Neighbourhoods (chapter 14): a struct of two rows, a number and two truth values: its cells, rows of one's own, the laws' helpers. Condition: each row is no longer than 1048576 (the laws ask no more).
-/
import Derived.Test.YtbiffijjmhpkpaaPut
import Derived.Test.YtbiffijjmhpkpaaScanA
import Derived.Maps.AppendAt
namespace Go.Proofs.Ytbiffijjmhpkpaa
open Go.RowKit
set_option linter.unusedVariables false

theorem cells5 {w : World} {g : Nat} {T : TypeId} {u v x y z : Value} {fr : Nat × Nat} (h : w.heap[g]? = some (.cells #[u, v, x, y, z] T fr)) : w.cell? ⟨g, 0, none⟩ = some u ∧ w.cell? ⟨g, 1, none⟩ = some v ∧ w.cell? ⟨g, 2, none⟩ = some x ∧ w.cell? ⟨g, 3, none⟩ = some y ∧ w.cell? ⟨g, 4, none⟩ = some z :=
  ⟨cell_of_row _ _ 0 _ _ _ h, cell_of_row _ _ 1 _ _ _ h, cell_of_row _ _ 2 _ _ _ h, cell_of_row _ _ 3 _ _ _ h, cell_of_row _ _ 4 _ _ _ h⟩
theorem frozen5 {w : World} {g : Nat} {u v x y z : Value} {T : TypeId} (h : w.heap[g]? = some (.cells #[u, v, x, y, z] T (0, 0))) :
    w.frozen? ⟨g, 0, none⟩ = false ∧ w.frozen? ⟨g, 1, none⟩ = false ∧ w.frozen? ⟨g, 2, none⟩ = false ∧ w.frozen? ⟨g, 3, none⟩ = false ∧ w.frozen? ⟨g, 4, none⟩ = false :=
  ⟨frozen_of_row w g 0 _ _ h, frozen_of_row w g 1 _ _ h, frozen_of_row w g 2 _ _ h, frozen_of_row w g 3 _ _ h, frozen_of_row w g 4 _ _ h⟩
theorem heap_three (w : World) (a b c : Obj) : (((w.alloc a).alloc b).alloc c).heap[w.heap.size]? = some a ∧ (((w.alloc a).alloc b).alloc c).heap[w.heap.size + 1]? = some b ∧ (((w.alloc a).alloc b).alloc c).heap[w.heap.size + 1 + 1]? = some c := by
  have e1 : (w.alloc a).heap.size = w.heap.size + 1 := by simp
  have e2 : ((w.alloc a).alloc b).heap.size = w.heap.size + 1 + 1 := by simp
  refine ⟨?_, ?_, ?_⟩
  · rw [Below.heap_alloc _ _ _ (by omega), Below.heap_alloc _ _ _ (by omega)]; exact heap_alloc_new w a
  · rw [Below.heap_alloc _ _ _ (by omega)]
    have := heap_alloc_new (w.alloc a) b
    rwa [e1] at this
  · have := heap_alloc_new ((w.alloc a).alloc b) c
    rwa [e2] at this
theorem below_three (w : World) (a b c : Obj) : Below w.heap.size w (((w.alloc a).alloc b).alloc c) := ((below_new w _).alloc (by simp) _).alloc (by simp; omega) _
theorem grown_cell (w : World) (g j : Nat) (u : Value) : w.grownBy (w.setCell ⟨g, j, none⟩ u) (some g) := ⟨rfl, rfl, rfl, by simp, fun k _ hk => heap_setCell_other w ⟨g, j, none⟩ k u (fun e => hk (by simp [e]))⟩
theorem grown_four (w : World) (g : Nat) (b c d e : Value) : w.grownBy ((((w.setCell ⟨g, 1, none⟩ b).setCell ⟨g, 2, none⟩ c).setCell ⟨g, 3, none⟩ d).setCell ⟨g, 4, none⟩ e) (some g) :=
  (((grown_cell _ g 1 b).trans (grown_cell _ g 2 c)).trans (grown_cell _ g 3 d)).trans (grown_cell _ g 4 e)
theorem grown_five (w : World) (g : Nat) (a b c d e : Value) : w.grownBy (((((w.setCell ⟨g, 0, none⟩ a).setCell ⟨g, 1, none⟩ b).setCell ⟨g, 2, none⟩ c).setCell ⟨g, 3, none⟩ d).setCell ⟨g, 4, none⟩ e) (some g) :=
  (grown_cell _ g 0 a).trans (grown_four _ g b c d e)
theorem put_five {w : World} {g : Nat} {T : TypeId} {u v x y z : Value} (h : w.heap[g]? = some (.cells #[u, v, x, y, z] T (0, 0))) (a b c d e : Value) :
    (((((w.setCell ⟨g, 0, none⟩ a).setCell ⟨g, 1, none⟩ b).setCell ⟨g, 2, none⟩ c).setCell ⟨g, 3, none⟩ d).setCell ⟨g, 4, none⟩ e).heap[g]? = some (.cells #[a, b, c, d, e] T (0, 0)) := by
  rw [heap_setCell_same _ g 4 _ _ _ (heap_setCell_same _ g 3 _ _ _ (heap_setCell_same _ g 2 _ _ _ (heap_setCell_same _ g 1 _ _ _ (heap_setCell_same w g 0 _ _ _ h))))]
  rfl
theorem size_three (w : World) (a b c : Obj) : (((w.alloc a).alloc b).alloc c).heap.size = w.heap.size + 1 + 1 + 1 := by simp
theorem size_set (w : World) (p : Addr) (u : Value) : (w.setCell p u).heap.size = w.heap.size := by simp
theorem below_grown {w w' : World} (h : Below w.heap.size w w') (row : Option Nat) : w.grownBy w' row := ⟨h.os, h.tape, h.output, h.size, fun k hk _ => h.block k hk⟩
/-- Two rows of one's own, the second one newer. -/
def NbOwn (w : World) (base : Nat) (A : Option Addr) (cA : Nat) (B : Option Addr) (cB : Nat) (t l : List Int) : Prop :=
  ∃ m, base ≤ m ∧ OwnI w base A cA t ∧ (∀ k, (Value.slice A t.length cA).ownBlock = some k → k < m) ∧ OwnI w m B cB l
theorem NbOwn.kept {w w' : World} {base B0 : Nat} {A B : Option Addr} {cA cB : Nat} {t l : List Int} (h : NbOwn w base A cA B cB t l) (hb : Below B0 w w') (hB : w.heap.size ≤ B0) : NbOwn w' base A cA B cB t l := by
  obtain ⟨m, h1, h2, h3, h4⟩ := h
  exact ⟨m, h1, h2.kept hb hB, h3, h4.kept hb hB⟩
theorem NbOwn.top {w : World} {base : Nat} {A B : Option Addr} {cA cB : Nat} {t l : List Int} (h : NbOwn w base A cA B cB t l) (hm : t.length ≤ 1048576) : Ints w w.heap.size A t := by
  obtain ⟨m, h1, h2, h3, h4⟩ := h
  exact h2.ints (by omega)
theorem NbOwn.left {w : World} {base : Nat} {A B : Option Addr} {cA cB : Nat} {t l : List Int} (h : NbOwn w base A cA B cB t l) (hm : l.length ≤ 1048576) : Ints w w.heap.size B l := by
  obtain ⟨m, h1, h2, h3, h4⟩ := h
  exact h4.ints (by omega)
theorem NbOwn.caps {w : World} {base : Nat} {A B : Option Addr} {cA cB : Nat} {t l : List Int} (h : NbOwn w base A cA B cB t l) : t.length ≤ cA ∧ l.length ≤ cB := by
  obtain ⟨m, h1, h2, h3, h4⟩ := h
  exact ⟨h2.cap_le, h4.cap_le⟩

theorem heap_two (w : World) (a b : Obj) : ((w.alloc a).alloc b).heap[w.heap.size]? = some a ∧ ((w.alloc a).alloc b).heap[w.heap.size + 1]? = some b := by
  have e1 : (w.alloc a).heap.size = w.heap.size + 1 := by simp
  refine ⟨?_, ?_⟩
  · rw [Below.heap_alloc _ _ _ (by omega)]; exact heap_alloc_new w a
  · have := heap_alloc_new (w.alloc a) b
    rwa [e1] at this
theorem below_two (w : World) (a b : Obj) : Below w.heap.size w ((w.alloc a).alloc b) := (below_new w _).alloc (by simp) _
end Go.Proofs.Ytbiffijjmhpkpaa
