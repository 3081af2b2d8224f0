/-
  The walks of the laws of UeTable and TableOk. No condition.
-/
import Derived.Test.YtgacldhpohnpaaaTab
import Derived.Deep.SlicePairs
namespace Go.Proofs.Ytgacldhpohnpaaa
open Go.RowKit
set_option linter.unusedVariables false

/-- A slice of entries that came in: the cells of its entries. -/
def IsEnts (w : World) (a : Option Addr) (len cap : Nat) (l : EntL) : Prop :=
  len ≤ cap ∧ cap ≤ maxLen ∧ l.length = len ∧ (l = [] ∨ ∃ b off, a = some ⟨b, off, none⟩ ∧ b < w.heap.size ∧ ∀ j, j < l.length → w.cell? ⟨b, off + j * 2, none⟩ = some (.int .i64 (entAt l j).1) ∧ w.cell? ⟨b, off + j * 2 + 1, none⟩ = some (.int .i64 (entAt l j).2))
section
open Go.ChangeShapes Go.WideShapes Go.Deep
/-- A slice of two integers each, out of the frame's reading. -/
theorem isents_of {H : Type} {enc : TypeId × Value → H} {P : Program} {w : World} {base : Nat} {spare : Nat → Bool} {held : Bool} {t e : TypeId} {f0 f1 : Field} {fuel : Nat} {x : DataW H × List MemPlace} {a : Option Addr} {len cap : Nat}
    (ht : P.underlying t = some (.slice e)) (he : P.underlying e = some (.struct #[f0, f1])) (ce : P.cellsOf e = 2) (o0 : f0.offset = 0) (o1 : f1.offset = 1) (c0 : P.cellsOf f0.type = 1) (c1 : P.cellsOf f1.type = 1)
    (u0 : P.underlying f0.type = some (.int .i64)) (u1 : P.underlying f1.type = some (.int .i64)) (h : DataW.trod enc P w base spare held fuel t (Value.slice a len cap).cells.toList = some x) : ∃ l, IsEnts w a len cap l := by
  rcases open_slice_pairs ht he ce o0 o1 c0 c1 h with ⟨hcs, _⟩ | ⟨b, l', c', m, n, V0, V1, D0, D1, P0, P1, hcs, _, hl, hm, hmm, _, hx⟩
  · simp [Value.cells] at hcs
    obtain ⟨rfl, rfl, rfl⟩ := hcs
    exact ⟨[], Nat.le_refl _, Nat.zero_le _, rfl, .inl rfl⟩
  · simp [Value.cells] at hcs
    obtain ⟨rfl, rfl, rfl⟩ := hcs
    have hlm : len ≤ m := by rw [hmm]; split <;> omega
    refine ⟨(List.range len).map fun i => (intOf (V0 i), intOf (V1 i)), hl, hm, by simp, ?_⟩
    by_cases h0 : len = 0
    · left; subst h0; rfl
    · right
      obtain ⟨blk, off, spot⟩ := b
      have hc := (hx 0 (by omega)).1
      have hspot : spot = none := by simpa [Addr.add] using World.cell?_spot hc
      subst hspot
      refine ⟨blk, off, rfl, World.block_lt_of_cell? w _ hc, fun j hj => ?_⟩
      simp only [List.length_map, List.length_range] at hj
      have hat : entAt ((List.range len).map fun i => (intOf (V0 i), intOf (V1 i))) j = (intOf (V0 j), intOf (V1 j)) := by
        unfold entAt
        rw [List.getD_eq_getElem?_getD]
        simp [hj]
      rw [hat]
      obtain ⟨k0, k1, k2, k3⟩ := hx j (by omega)
      obtain ⟨y0, e0, _⟩ := DataW.trod_int u0 k2
      obtain ⟨y1, e1, _⟩ := DataW.trod_int u1 k3
      simp only [List.cons.injEq, and_true] at e0 e1
      rw [e0] at k0 ⊢
      rw [e1] at k1 ⊢
      refine ⟨?_, ?_⟩
      · by_cases hj0 : j = 0
        · subst hj0; simpa [Addr.add, intOf] using k0
        · have hj2 : ¬ j * 2 = 0 := by omega
          simpa [Addr.add, hj2, intOf] using k0
      · simpa [Addr.add, intOf, Nat.add_assoc] using k1
end
theorem IsEnts.ents {w : World} {a : Option Addr} {len cap : Nat} {l : EntL} (h : IsEnts w a len cap l) (hm : len ≤ 281474976710656) : Ents w w.heap.size a l := ⟨by have := h.2.2.1; omega, h.2.2.2⟩

end Go.Proofs.Ytgacldhpohnpaaa
