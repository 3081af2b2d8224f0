/-
  Contracts of the program's diagonal and of ScanOrder, in the program's text. Condition: the number is an int.
-/
import Derived.Test.YtemfiglflbfocaaScanA
namespace Go.Proofs.Ytemfiglflbfocaa
open Go.RowKit
set_option linter.unusedVariables false

/-- Cells of a row that the call owns, written one after the other. -/
theorem own_stored {base g n cap : Nat} : ∀ (vs : List Value) (o : Nat) (w : World) (xs : List Value), o + vs.length ≤ xs.length → w.ownsRow base 3 1 (.slice (some ⟨g, 0, none⟩) n cap) n xs →
    (w.setCells g o vs).ownsRow base 3 1 (.slice (some ⟨g, 0, none⟩) n cap) n (xs.take o ++ vs ++ xs.drop (o + vs.length)) ∧ w.grownBy (w.setCells g o vs) (some g)
  | [], o, w, xs, hl, h => by
    refine ⟨?_, ⟨rfl, rfl, rfl, Nat.le_refl _, fun _ _ _ => rfl⟩⟩
    have e : xs.take o ++ [] ++ xs.drop (o + ([] : List Value).length) = xs := by simp
    rw [e]
    exact h
  | v :: r, o, w, xs, hl, h => by
    have hlen : o < xs.length := by rw [List.length_cons] at hl; omega
    have s1 := h.stored o v
    have h2 := own_stored r (o + 1) (w.setCell ⟨g, o, none⟩ v) (xs.set o v) (by rw [List.length_set]; rw [List.length_cons] at hl; omega) s1.1
    have e : (xs.set o v).take (o + 1) ++ r ++ (xs.set o v).drop (o + 1 + r.length) = xs.take o ++ v :: r ++ xs.drop (o + (v :: r).length) := by
      have e1 : (xs.set o v).take (o + 1) = xs.take o ++ [v] := by
        rw [List.take_succ_eq_append_getElem (by simpa using hlen), List.getElem_set_self, List.take_set_of_le (Nat.le_refl _)]
      have e2 : (xs.set o v).drop (o + 1 + r.length) = xs.drop (o + (v :: r).length) := by
        rw [List.drop_set_of_lt (by omega), List.length_cons]
        congr 1
        omega
      rw [e1, e2]
      simp
    rw [e] at h2
    refine ⟨h2.1, ⟨h2.2.os.trans s1.2.os, h2.2.tape.trans s1.2.tape, h2.2.output.trans s1.2.output, Nat.le_trans s1.2.size h2.2.size, fun k hk hne => ?_⟩⟩
    exact (h2.2.block k (Nat.lt_of_lt_of_le hk s1.2.size) hne).trans (s1.2.block k hk hne)

theorem imRow_next (n d a X : Nat) (h : a ≤ X) : imRow n d a (X + 1 - a) = imRow n d a (X - a) ++ [imStep n d X] := by
  obtain ⟨k, rfl⟩ : ∃ k, X = a + k := ⟨X - a, by omega⟩
  rw [show a + k + 1 - a = k + 1 by omega, show a + k - a = k by omega, imRow]

end Go.Proofs.Ytemfiglflbfocaa
