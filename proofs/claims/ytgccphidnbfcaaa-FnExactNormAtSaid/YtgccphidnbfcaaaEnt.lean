/-
  Plain helpers: rows of entries (two integers each), those that came in and those that a call owns; contracts of what the laws do with them (compare, mark, look again, copy). No condition but those that each lemma states.
  Contracts of what the laws do with rows of entries. No condition but those that each lemma states.
-/
import Derived.Test.YtgccphidnbfcaaaRows
import Derived.Test.YtgccphidnbfcaaaBase
import Derived.Test.YtgccphidnbfcaaaCacheA
import Derived.Deep.RegionHeld3
import Derived.Maps.AppendAt
import Derived.Deep.SlicePairs
namespace Go.Proofs.Ytgccphidnbfcaaa
open Go.RowKit
set_option linter.unusedVariables false

/-- A list of entries, and its integers one behind the other. -/
abbrev EntL : Type := List (Int × Int)
/-- The entry at a place. -/
def entAt (l : EntL) (j : Nat) : Int × Int := l.getD j (0, 0)
/-- `A`'s entries read as `l`, and lie in blocks below `g`. -/
def Ents (w : World) (g : Nat) (A : Option Addr) (l : EntL) : Prop :=
  l.length ≤ 281474976710656 ∧ (l = [] ∨ ∃ b off, A = some ⟨b, off, none⟩ ∧ b < g ∧ ∀ j, j < l.length → w.cell? ⟨b, off + j * 2, none⟩ = some (.int .i64 (entAt l j).1) ∧ w.cell? ⟨b, off + j * 2 + 1, none⟩ = some (.int .i64 (entAt l j).2))
theorem Ents.kept {w w' : World} {g : Nat} {A : Option Addr} {l : EntL} (h : Ents w g A l) (hb : ∀ k, k < g → w'.heap[k]? = w.heap[k]?) : Ents w' g A l := by
  obtain ⟨hm, h0 | ⟨b, off, hA, hbg, hc⟩⟩ := h
  · exact ⟨hm, .inl h0⟩
  · refine ⟨hm, .inr ⟨b, off, hA, hbg, fun i hi => ?_⟩⟩
    rw [World.cell?_of_block (w := w) (w' := w') (a := ⟨b, off + i * 2, none⟩) (hb b hbg), World.cell?_of_block (w := w) (w' := w') (a := ⟨b, off + i * 2 + 1, none⟩) (hb b hbg)]
    exact hc i hi
theorem Ents.below {w w' : World} {g B : Nat} {A : Option Addr} {l : EntL} (h : Ents w g A l) (hb : Below B w w') (hg : g ≤ B) : Ents w' g A l := h.kept fun k hk => hb.block k (Nat.lt_of_lt_of_le hk hg)
theorem Ents.mono {w : World} {g g' : Nat} {A : Option Addr} {l : EntL} (h : Ents w g A l) (hg : g ≤ g') : Ents w g' A l := by
  obtain ⟨hm, h0 | ⟨b, off, hA, hbg, hc⟩⟩ := h
  · exact ⟨hm, .inl h0⟩
  · exact ⟨hm, .inr ⟨b, off, hA, Nat.lt_of_lt_of_le hbg hg, hc⟩⟩
theorem Ents.at {w : World} {g : Nat} {A : Option Addr} {l : EntL} (h : Ents w g A l) (j : Nat) (hj : j < l.length) : ∃ b off, A = some ⟨b, off, none⟩ ∧ b < g ∧ ∀ j, j < l.length → w.cell? ⟨b, off + j * 2, none⟩ = some (.int .i64 (entAt l j).1) ∧ w.cell? ⟨b, off + j * 2 + 1, none⟩ = some (.int .i64 (entAt l j).2) := by
  obtain ⟨_, rfl | h⟩ := h
  · exact absurd hj (by simp)
  · exact h

end Go.Proofs.Ytgccphidnbfcaaa

namespace Go.Proofs.Ytgccphidnbfcaaa
open Go.RowKit
set_option linter.unusedVariables false

end Go.Proofs.Ytgccphidnbfcaaa
