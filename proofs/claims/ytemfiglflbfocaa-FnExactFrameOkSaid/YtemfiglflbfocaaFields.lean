/-
  An argument that is a struct of one-cell fields, opened to its fields. No condition.
-/
import Derived.Test.YtemfiglflbfocaaBase
import Derived.Lib.SmallJoins
import Derived.Carry
import Derived.ChangeSlices
namespace Go.Proofs.Ytemfiglflbfocaa
open Go.Joins Go.ChangeShapes Go.WideShapes Go.ChangeAt Go.RowKit Go.Deep
set_option linter.unusedVariables false

variable {H : Type} {enc : TypeId × Value → H} {P : Program} {w : World} {base : Nat} {spare : Nat → Bool} {held : Bool}
/-- A struct by value: its cells as a list, and what is read at each of its fields. -/
theorem struct_cells {r : Reach} {b0 : Nat} {t : TypeId} {fs : Array Field} {v : Value} {d : DataW H} {p : List MemPlace} (hs : P.underlying t = some (.struct fs)) (hone : oneCellFields P fs = true) (hC : P.cellsOf t = fs.size)
    (hv : Value.okWide P w r b0 t v) (h : DataW.Trod enc P w base spare held t v d p) :
    ∃ (l : List Value) (n : Nat), v = .agg l.toArray ∧ l.length = fs.size ∧ ∀ (j : Nat) (f : Field), fs[j]? = some f → ∃ y, DataW.trod enc P w base spare held n f.type [l.getD j (.bool false)] = some y := by
  obtain ⟨cs, rfl, hsz⟩ := okWide_struct hs hv
  obtain ⟨fuel, hf⟩ := h
  obtain ⟨xs, n, _, _, _, hlen, hg⟩ := DataW.trod_struct hs hf
  refine ⟨cs.toList, n, by simp, by simpa using hsz.trans hC, fun j f hj => ?_⟩
  obtain ⟨o, k⟩ := hone_of hone j f hj
  have hjs : j < fs.size := (Array.getElem?_eq_some_iff.1 hj).1
  have hjx : j < xs.length := by omega
  have e := hg j f hj
  rw [o, k, List.getElem?_eq_getElem hjx] at e
  have e2 : ((Value.agg cs).cells.toList.drop j).take 1 = [cs.toList.getD j (.bool false)] := take1_drop cs.toList j (.bool false) (by simp; omega)
  exact ⟨xs[j], by rw [← e2]; exact e⟩
theorem list_five {l : List Value} (h : l.length = 5) : l = [l.getD 0 (.bool false), l.getD 1 (.bool false), l.getD 2 (.bool false), l.getD 3 (.bool false), l.getD 4 (.bool false)] := by
  match l, h with
  | [a, b, c, d, e], _ => rfl
theorem list_six {l : List Value} (h : l.length = 6) : l = [l.getD 0 (.bool false), l.getD 1 (.bool false), l.getD 2 (.bool false), l.getD 3 (.bool false), l.getD 4 (.bool false), l.getD 5 (.bool false)] := by
  match l, h with
  | [a, b, c, d, e, f], _ => rfl
theorem list_four {l : List Value} (h : l.length = 4) : l = [l.getD 0 (.bool false), l.getD 1 (.bool false), l.getD 2 (.bool false), l.getD 3 (.bool false)] := by
  match l, h with
  | [a, b, c, d], _ => rfl
theorem list_three {l : List Value} (h : l.length = 3) : l = [l.getD 0 (.bool false), l.getD 1 (.bool false), l.getD 2 (.bool false)] := by
  match l, h with
  | [a, b, c], _ => rfl
theorem list_two {l : List Value} (h : l.length = 2) : l = [l.getD 0 (.bool false), l.getD 1 (.bool false)] := by
  match l, h with
  | [a, b], _ => rfl
/-- A field of integers. -/
theorem field_row {t e : TypeId} {k : IntKind} {fuel : Nat} {c : Value} {y : DataW H × List MemPlace} (ht : P.underlying t = some (.slice e)) (he : P.underlying e = some (.int k)) (hc : P.cellsOf e = 1)
    (h : DataW.trod enc P w base (fun _ => true) held fuel t [c] = some y) : ∃ a len cap zs, c = .slice a len cap ∧ IsRow k w a len cap zs := by
  rcases open_ints ht he hc h with ⟨hcs, _⟩ | ⟨x, l, c', zs, hcs, _, hl, hm, hz, hx', hcell, hwz⟩
  · obtain rfl : c = .slice none 0 0 := by simpa using hcs
    exact ⟨none, 0, 0, [], rfl, .inl ⟨rfl, rfl, rfl, rfl⟩⟩
  · obtain rfl : c = .slice (some x) l c' := by simpa using hcs
    exact ⟨some x, l, c', zs, rfl, .inr ⟨_, rfl, hl, hm, by simpa using hz, hcell, hwz⟩⟩
/-- A field that is an integer, and one that is a truth value. -/
theorem field_int {t : TypeId} {k : IntKind} {fuel : Nat} {c : Value} {y : DataW H × List MemPlace} (ht : P.underlying t = some (.int k)) (h : DataW.trod enc P w base spare held fuel t [c] = some y) : ∃ x, c = .int k x ∧ (Lit.int k x).wf = true := by
  obtain ⟨a, e, rfl, hw⟩ := DataW.trod_int ht h
  exact ⟨a, by simpa using e, hw⟩
theorem field_bool {t : TypeId} {fuel : Nat} {c : Value} {y : DataW H × List MemPlace} (ht : P.underlying t = some .bool) (h : DataW.trod enc P w base spare held fuel t [c] = some y) : ∃ x, c = .bool x := by
  obtain ⟨a, e, rfl⟩ := DataW.trod_bool ht h
  exact ⟨a, by simpa using e⟩
end Go.Proofs.Ytemfiglflbfocaa
