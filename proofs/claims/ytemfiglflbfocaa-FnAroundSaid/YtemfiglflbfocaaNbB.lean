/-
  What is held over the drawn region of a law over a neighbourhood: the cells of the argument's box and of the copy's, the copy's rows. No condition.
-/
import Derived.Test.YtemfiglflbfocaaNbA
import Derived.Deep.RegionHeld3
namespace Go.Proofs.Ytemfiglflbfocaa
open Go.RowKit
set_option linter.unusedVariables false

theorem NbOwn.drew {w : World} {base : Nat} {A B : Option Addr} {cA cB : Nat} {t l : List Int} (h : NbOwn w base A cA B cB t l) : NbOwn w.drew base A cA B cB t l := by
  obtain ⟨m, h1, h2, h3, h4⟩ := h
  exact ⟨m, h1, World.ownsRow.drew h2, h3, World.ownsRow.drew h4⟩
theorem nb_hold {w wr w' : World} {base : Nat} {p0 p1 p2 p3 p4 q0 q1 q2 q3 q4 : Addr} {u0 u1 u2 u3 u4 v0 v1 v2 v3 v4 : Value} {A B : Option Addr} {cA cB : Nat} {t l : List Int}
    (h : wr.cell? p0 = some u0 ∧ wr.cell? p1 = some u1 ∧ wr.cell? p2 = some u2 ∧ wr.cell? p3 = some u3 ∧ wr.cell? p4 = some u4 ∧ wr.cell? q0 = some v0 ∧ wr.cell? q1 = some v1 ∧ wr.cell? q2 = some v2 ∧ wr.cell? q3 = some v3 ∧ wr.cell? q4 = some v4 ∧ NbOwn wr base A cA B cB t l ∧ Below w.heap.size w wr)
    (hb : Below wr.heap.size wr w') :
    w'.cell? p0 = some u0 ∧ w'.cell? p1 = some u1 ∧ w'.cell? p2 = some u2 ∧ w'.cell? p3 = some u3 ∧ w'.cell? p4 = some u4 ∧ w'.cell? q0 = some v0 ∧ w'.cell? q1 = some v1 ∧ w'.cell? q2 = some v2 ∧ w'.cell? q3 = some v3 ∧ w'.cell? q4 = some v4 ∧ NbOwn w' base A cA B cB t l ∧ Below w.heap.size w w' := by
  obtain ⟨h0, h1, h2, h3, h4, k0, k1, k2, k3, k4, ho, hw⟩ := h
  have k : ∀ {p : Addr} {v : Value}, wr.cell? p = some v → w'.cell? p = some v := fun hc => by
    rw [hb.cell (World.block_lt_of_cell? wr _ hc)]; exact hc
  exact ⟨k h0, k h1, k h2, k h3, k h4, k k0, k k1, k k2, k k3, k k4, ho.kept hb (Nat.le_refl _), below_up hw hb hw.size⟩
theorem nb_hold_drew {w wr : World} {base : Nat} {p0 p1 p2 p3 p4 q0 q1 q2 q3 q4 : Addr} {u0 u1 u2 u3 u4 v0 v1 v2 v3 v4 : Value} {A B : Option Addr} {cA cB : Nat} {t l : List Int}
    (h : wr.cell? p0 = some u0 ∧ wr.cell? p1 = some u1 ∧ wr.cell? p2 = some u2 ∧ wr.cell? p3 = some u3 ∧ wr.cell? p4 = some u4 ∧ wr.cell? q0 = some v0 ∧ wr.cell? q1 = some v1 ∧ wr.cell? q2 = some v2 ∧ wr.cell? q3 = some v3 ∧ wr.cell? q4 = some v4 ∧ NbOwn wr base A cA B cB t l ∧ Below w.heap.size w wr) :
    wr.drew.cell? p0 = some u0 ∧ wr.drew.cell? p1 = some u1 ∧ wr.drew.cell? p2 = some u2 ∧ wr.drew.cell? p3 = some u3 ∧ wr.drew.cell? p4 = some u4 ∧ wr.drew.cell? q0 = some v0 ∧ wr.drew.cell? q1 = some v1 ∧ wr.drew.cell? q2 = some v2 ∧ wr.drew.cell? q3 = some v3 ∧ wr.drew.cell? q4 = some v4 ∧ NbOwn wr.drew base A cA B cB t l ∧ Below w.heap.size w wr.drew := by
  obtain ⟨h0, h1, h2, h3, h4, k0, k1, k2, k3, k4, ho, hw⟩ := h
  exact ⟨h0, h1, h2, h3, h4, k0, k1, k2, k3, k4, ho.drew, hw.drew⟩
theorem nb_held_below {w wr : World} {base : Nat} {p0 p1 p2 p3 p4 q0 q1 q2 q3 q4 : Addr} {u0 u1 u2 u3 u4 v0 v1 v2 v3 v4 : Value} {A B : Option Addr} {cA cB : Nat} {t l : List Int}
    (h : wr.cell? p0 = some u0 ∧ wr.cell? p1 = some u1 ∧ wr.cell? p2 = some u2 ∧ wr.cell? p3 = some u3 ∧ wr.cell? p4 = some u4 ∧ wr.cell? q0 = some v0 ∧ wr.cell? q1 = some v1 ∧ wr.cell? q2 = some v2 ∧ wr.cell? q3 = some v3 ∧ wr.cell? q4 = some v4 ∧ NbOwn wr base A cA B cB t l ∧ Below w.heap.size w wr) : Below w.heap.size w wr := h.2.2.2.2.2.2.2.2.2.2.2
theorem NbOwn.blocks {w : World} {base : Nat} {A B : Option Addr} {cA cB : Nat} {t l : List Int} (h : NbOwn w base A cA B cB t l) : (∀ j, (Value.slice A t.length cA).ownBlock = some j → base ≤ j ∧ j < w.heap.size) ∧ (∀ j, (Value.slice B l.length cB).ownBlock = some j → base ≤ j ∧ j < w.heap.size) := by
  obtain ⟨m, h1, h2, h3, h4⟩ := h
  exact ⟨fun j hj => h2.block j hj, fun j hj => by have := h4.block j hj; omega⟩
/-- What lies elsewhere when two rows are marked one after the other. -/
theorem own_two_marked {w wm w' : World} {base : Nat} {A : Option Addr} {c : Nat} {x : List Int} {r s : Option Nat} (h : OwnI w base A c x) (h1 : w.grownBy wm r) (h2 : wm.grownBy w' s) (hr : ∀ k, r = some k → k < base) (hs : ∀ k, s = some k → k < base) : OwnI w' base A c x := (h.other h1 hr).other h2 hs
theorem ints_two_marked {w wm w' : World} {g : Nat} {A : Option Addr} {x : List Int} {r s : Option Nat} (h : Ints w g A x) (hl : g ≤ w.heap.size) (h1 : w.grownBy wm r) (h2 : wm.grownBy w' s) (hr : ∀ k, r = some k → g ≤ k) (hs : ∀ k, s = some k → g ≤ k) : Ints w' g A x := (h.grown h1 hl hr).grown h2 (Nat.le_trans hl h1.size) hs
theorem below_two_marked {w0 w wm w' : World} {r s : Option Nat} {B : Nat} (h : Below B w0 w) (hB : B ≤ w.heap.size) (h1 : w.grownBy wm r) (h2 : wm.grownBy w' s) (hr : ∀ k, r = some k → B ≤ k) (hs : ∀ k, s = some k → B ≤ k) : Below B w0 w' := (h.grown h1 hB hr).grown h2 (Nat.le_trans hB h1.size) hs
theorem heap_two_marked {w wm w' : World} {g : Nat} {o : Obj} {r s : Option Nat} (h : w.heap[g]? = some o) (h1 : w.grownBy wm r) (h2 : wm.grownBy w' s) (hr : ∀ k, r = some k → g < k) (hs : ∀ k, s = some k → g < k) : w'.heap[g]? = some o := by
  have e1 := (h1.block g (heap_lt h) (fun e => by have := hr g e.symm; omega)).trans h
  exact (h2.block g (heap_lt e1) (fun e => by have := hs g e.symm; omega)).trans e1
end Go.Proofs.Ytemfiglflbfocaa
