/-
  Draws of one use: the cursor is somewhere, and only it and new memory were written. Contracts of the small draws in that form. No condition but those that each lemma states.
-/
import Derived.Test.YtemfiglflbfocaaDrawA
import Derived.Test.YtemfiglflbfocaaDrawB
namespace Go.Proofs.Ytemfiglflbfocaa
open Go.RowKit
set_option linter.unusedVariables false

/-- The second of two new blocks. -/
theorem heap_alloc_second (w : World) (o p : Obj) : ((w.alloc o).alloc p).heap[w.heap.size + 1]? = some p := by
  have h := heap_alloc_new (w.alloc o) p
  have e : (w.alloc o).heap.size = w.heap.size + 1 := by simp
  rw [e] at h
  exact h
/-- The cursor lies at `g`, somewhere in the input; since `w0` only it and new memory were written. -/
def Dw (g : Nat) (A : Option Addr) (cap : Nat) (zs : List Int) (w0 w : World) : Prop := ∃ i h, Cursor w g A cap zs i h ∧ w0.grownBy w (some g)
section
variable {g : Nat} {A : Option Addr} {cap : Nat} {zs : List Int} {w0 w w' : World}
theorem Dw.start {i : Nat} {h : Int} (hC : Cursor w g A cap zs i h) : Dw g A cap zs w w := ⟨i, h, hC, grown_refl _ _⟩
theorem Dw.lt (h : Dw g A cap zs w0 w) : g < w.heap.size := by obtain ⟨i, h, hC, _⟩ := h; exact hC.lt
theorem Dw.size (h : Dw g A cap zs w0 w) : w0.heap.size ≤ w.heap.size := by obtain ⟨i, h, _, hg⟩ := h; exact hg.size
theorem Dw.few (h : Dw g A cap zs w0 w) : zs.length ≤ 1048576 := by obtain ⟨i, h, hC, _⟩ := h; exact hC.few
theorem Dw.grown0 (h : Dw g A cap zs w0 w) : w0.grownBy w (some g) := by obtain ⟨i, h, _, hg⟩ := h; exact hg
theorem Dw.drew (h : Dw g A cap zs w0 w) : Dw g A cap zs w0 w.drew := by obtain ⟨i, h, hC, hg⟩ := h; exact ⟨i, h, hC.drew, grown_drew hg⟩
theorem Dw.alloc (h : Dw g A cap zs w0 w) (o : Obj) : Dw g A cap zs w0 (w.alloc o) := by obtain ⟨i, h, hC, hg⟩ := h; exact ⟨i, h, hC.alloc o, grown_alloc hg o⟩
theorem Dw.set (h : Dw g A cap zs w0 w) {b : Nat} (hb : w0.heap.size ≤ b) (hgb : g < b) (j : Nat) (u : Value) : Dw g A cap zs w0 (w.setCell ⟨b, j, none⟩ u) := by
  obtain ⟨i, h, hC, hg⟩ := h
  exact ⟨i, h, cursor_new hC hgb j u, grown_new hg hb j u⟩
/-- A row of one's own, or new memory, was written. -/
theorem Dw.grown (h : Dw g A cap zs w0 w) {row : Option Nat} (hg : w.grownBy w' row) (hr : ∀ k, row = some k → w0.heap.size ≤ k ∧ g < k) : Dw g A cap zs w0 w' := by
  obtain ⟨i, h, hC, hg0⟩ := h
  exact ⟨i, h, hC.grown hg fun k hk => (hr k hk).2, grown_own hg0 hg fun k hk => (hr k hk).1⟩
theorem Dw.below (h : Dw g A cap zs w0 w) (hb : Below w.heap.size w w') : Dw g A cap zs w0 w' :=
  h.grown (row := none) ⟨hb.os, hb.tape, hb.output, hb.size, fun k hk _ => hb.block k hk⟩ fun k hk => by cases hk
theorem Dw.trans {w1 : World} (h : Dw g A cap zs w0 w1) (k : Dw g A cap zs w1 w) : Dw g A cap zs w0 w := by
  obtain ⟨i, x, hC, hg⟩ := k
  exact ⟨i, x, hC, h.grown0.trans hg⟩
theorem Dw.again (h : Dw g A cap zs w0 w) : Dw g A cap zs w w := by obtain ⟨i, h, hC, _⟩ := h; exact Dw.start hC
theorem Dw.call {i : Nat} {x : Int} (h : Dw g A cap zs w0 w) (hC : Cursor w' g A cap zs i x) (hg : w.grownBy w' (some g)) : Dw g A cap zs w0 w' := ⟨i, x, hC, h.grown0.trans hg⟩
theorem Dw.belowOf (h : Dw g A cap zs w0 w) {B : Nat} (hg : B ≤ g) (hB : B ≤ w0.heap.size) : Below B w0 w := grown_below h.grown0 hg hB
end
/-- A row of one's own, behind what writes to the cursor and to new memory. -/
theorem own_dw {w w' : World} {base g : Nat} {e : TypeId} {size : Nat} {v : Value} {n : Nat} {xs : List Value} (h : w.ownsRow base e size v n xs) (hg : w.grownBy w' (some g)) (hb : g < base) : w'.ownsRow base e size v n xs :=
  World.ownsRow.kept h hg (own_far h hb)

theorem once_ex (m : Int) (g : Nat) (A : Option Addr) (cap : Nat) (zs : List Int) (w0 w : World) (h : Dw g A cap zs w0 w) :
    Calls Try.prog 47 #[.pointer (some ⟨g, 0, none⟩), .int .i64 m] w fun e w' => ∃ b : Bool, e = .returned (.bool b) ∧ Dw g A cap zs w0 w' ∧ w.grownBy w' (some g) := by
  obtain ⟨i, x, hC, hg⟩ := h
  obtain ⟨b, i1, h1, l1, C1⟩ := once_det A cap zs i x hC.le m
  refine (C1 w g hC).mono ?_
  rintro e w' ⟨rfl, hC1, hg1⟩
  exact ⟨b, rfl, ⟨_, _, hC1, hg.trans hg1⟩, hg1⟩
theorem below_ex (m : Int) (g : Nat) (A : Option Addr) (cap : Nat) (zs : List Int) (w0 w : World) (h : Dw g A cap zs w0 w) :
    Calls Try.prog 68 #[.pointer (some ⟨g, 0, none⟩), .int .i64 m] w fun e w' => ∃ x : Nat, e = .returned (.int .i64 (x : Int)) ∧ (0 < m → (x : Int) < m) ∧ (m ≤ 0 → x = 0) ∧ Dw g A cap zs w0 w' ∧ w.grownBy w' (some g) := by
  obtain ⟨i, x, hC, hg⟩ := h
  obtain ⟨y, i1, h1, y0, y1, y2, l1, C1⟩ := below_det A cap zs i x hC.le m
  obtain ⟨k, rfl⟩ := Int.eq_ofNat_of_zero_le y0
  refine (C1 w g hC).mono ?_
  rintro e w' ⟨rfl, hC1, hg1⟩
  exact ⟨k, rfl, y1, fun h => by have := y2 h; omega, ⟨_, _, hC1, hg.trans hg1⟩, hg1⟩
theorem byte_ex (g : Nat) (A : Option Addr) (cap : Nat) (zs : List Int) (w0 w : World) (h : Dw g A cap zs w0 w) :
    Calls Try.prog 74 #[.pointer (some ⟨g, 0, none⟩)] w fun e w' => ∃ x : Nat, e = .returned (.int .i64 (x : Int)) ∧ x ≤ 255 ∧ Dw g A cap zs w0 w' ∧ w.grownBy w' (some g) := by
  obtain ⟨i, x, hC, hg⟩ := h
  obtain ⟨y, i1, h1, y0, y1, l1, C1⟩ := byte_det A cap zs i x hC.le
  obtain ⟨k, rfl⟩ := Int.eq_ofNat_of_zero_le y0
  refine (C1 w g hC).mono ?_
  rintro e w' ⟨rfl, hC1, hg1⟩
  exact ⟨k, rfl, by omega, ⟨_, _, hC1, hg.trans hg1⟩, hg1⟩
theorem pick_ex (vs : List Int) (hvs : 0 < vs.length) (hv9 : vs.length ≤ 1000) (g : Nat) (A : Option Addr) (cap : Nat) (zs : List Int) (w0 w : World) (gl : Nat) (h : Dw g A cap zs w0 w)
    (hgl : w.heap[gl]? = some (.cells (vs.map (Value.int .i64)).toArray 3 (0, 0))) (hne : gl ≠ g) :
    Calls Try.prog 67 #[.pointer (some ⟨g, 0, none⟩), .slice (some ⟨gl, 0, none⟩) vs.length vs.length] w fun e w' => ∃ x : Int, e = .returned (.int .i64 x) ∧ x ∈ vs ∧ Dw g A cap zs w0 w' ∧ w.grownBy w' (some g) := by
  obtain ⟨i, x, hC, hg⟩ := h
  obtain ⟨k, i1, h1, hk, l1, C1⟩ := pickint_det A cap zs i x hC.le vs hvs hv9
  refine (C1 w g gl hC hgl hne).mono ?_
  rintro e w' ⟨rfl, hC1, hg1⟩
  refine ⟨_, rfl, ?_, ⟨_, _, hC1, hg.trans hg1⟩, hg1⟩
  rw [List.getD_eq_getElem?_getD, List.getElem?_eq_getElem hk]
  exact List.getElem_mem hk
theorem new_ex (A : Option Addr) (cap : Nat) (zs : List Int) (w : World) (hW : Code w A zs) :
    Calls Try.prog 44 #[.slice A zs.length cap] w fun e w' => e = .returned (.pointer (some ⟨w.heap.size, 0, none⟩)) ∧ Dw w.heap.size A cap zs w' w' ∧ Below w.heap.size w w' :=
  (new_any A cap zs hW.few hW.bytes w hW.lies).mono fun e w' ⟨h1, h2, h3⟩ => ⟨h1, Dw.start h2, h3⟩
end Go.Proofs.Ytemfiglflbfocaa
