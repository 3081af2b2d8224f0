/-
  The laws' helpers over Stream: its size, its copy, whether two are alike, its marks. Condition: sizes are no larger than 1048576 (the laws ask no more).
-/
import Derived.Test.YtemfiglflbfocaaTrD
import Derived.Test.YtemfiglflbfocaaRsH
import Derived.Test.YtemfiglflbfocaaK7
namespace Go.Proofs.Ytemfiglflbfocaa
open Go.RowKit
set_option linter.unusedVariables false

def fpSt (A B : Option Addr) (ms : List MbC) : List Nat := obk A ++ fpMs B ms
theorem put6of7 {w : World} {g : Nat} {T : TypeId} {u0 u1 u2 u3 u4 u5 u6 : Value} (h : w.heap[g]? = some (.cells #[u0, u1, u2, u3, u4, u5, u6] T (0, 0))) (v0 v1 v2 v3 v4 v5 : Value) :
    ((((((w.setCell ⟨g, 0, none⟩ v0).setCell ⟨g, 1, none⟩ v1).setCell ⟨g, 2, none⟩ v2).setCell ⟨g, 3, none⟩ v3).setCell ⟨g, 4, none⟩ v4).setCell ⟨g, 5, none⟩ v5).heap[g]? = some (.cells #[v0, v1, v2, v3, v4, v5, u6] T (0, 0)) := by
  rw [heap_setCell_same _ g 5 _ _ _ (heap_setCell_same _ g 4 _ _ _ (heap_setCell_same _ g 3 _ _ _ (heap_setCell_same _ g 2 _ _ _ (heap_setCell_same _ g 1 _ _ _ (heap_setCell_same w g 0 _ _ _ h)))))]
  rfl
theorem wrote6 (w : World) (g : Nat) (v0 v1 v2 v3 v4 v5 : Value) : Wrote w ((((((w.setCell ⟨g, 0, none⟩ v0).setCell ⟨g, 1, none⟩ v1).setCell ⟨g, 2, none⟩ v2).setCell ⟨g, 3, none⟩ v3).setCell ⟨g, 4, none⟩ v4).setCell ⟨g, 5, none⟩ v5) [g] :=
  ((((((Wrote.refl w [g]).set (by simp) 0 v0).set (by simp) 1 v1).set (by simp) 2 v2).set (by simp) 3 v3).set (by simp) 4 v4).set (by simp) 5 v5
theorem wrote7 (w : World) (g : Nat) (v0 v1 v2 v3 v4 v5 v6 : Value) : Wrote w (((((((w.setCell ⟨g, 0, none⟩ v0).setCell ⟨g, 1, none⟩ v1).setCell ⟨g, 2, none⟩ v2).setCell ⟨g, 3, none⟩ v3).setCell ⟨g, 4, none⟩ v4).setCell ⟨g, 5, none⟩ v5).setCell ⟨g, 6, none⟩ v6) [g] := (wrote6 w g v0 v1 v2 v3 v4 v5).set (by simp) 6 v6
end Go.Proofs.Ytemfiglflbfocaa
