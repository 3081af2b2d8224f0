/-
  The contract of the model's FastRecon. Condition: a slice is no longer than it holds.
-/
import Derived.Test.YtjgbenhjafgimaaReB
namespace Go.Proofs.Ytjgbenhjafgimaa
open Go.RowKit
set_option linter.unusedVariables false

/-- Four numbers of a list. -/
def fourV (l : List Int) (j : Nat) : List Int := (l.drop j).take 4
theorem fourV_len {l : List Int} {j : Nat} (h : j + 4 ≤ l.length) : (fourV l j).length = 4 := by
  rw [fourV, List.length_take, List.length_drop]
  omega
theorem fourV_at {l : List Int} {j i : Nat} (hi : i < 4) : (fourV l j).getD i 0 = l.getD (j + i) 0 := by
  simp only [fourV, List.getD_eq_getElem?_getD, List.getElem?_take, if_pos hi, List.getElem?_drop]
theorem fourV_pix {l : List Int} {j : Nat} (h : l.all pixE = true) : (fourV l j).all pixE = true := by
  rw [List.all_eq_true] at h ⊢
  intro x hx
  exact h x (List.mem_of_mem_drop (List.mem_of_mem_take hx))
theorem ints_four {w : World} {g b off : Nat} {l : List Int} {j : Nat} (hj : j + 4 ≤ l.length) (hb : b < g) (hc : ∀ i, i < l.length → w.cell? ⟨b, off + i, none⟩ = some (.int .i64 (l.getD i 0))) : Ints w g (some ⟨b, off + j, none⟩) (fourV l j) := by
  refine ⟨by rw [fourV_len hj]; decide, .inr ⟨b, off + j, rfl, hb, fun i hi => ?_⟩⟩
  rw [fourV_len hj] at hi
  rw [Nat.add_assoc, hc (j + i) (by omega), fourV_at hi]
theorem re_next {p r : List Int} (hp : p.all pixE = true) {j : Nat} (hj : j + 4 ≤ p.length) : (reF p r).take (j + 4) = (reF p r).take j ++ caF (fourV p j) (fourV r j) := by
  rw [List.take_add]
  refine congrArg _ (List.ext_getElem ?_ fun q h1 h2 => ?_)
  · rw [List.length_take, List.length_drop, reF_len, caF_len]
    omega
  · have hq : q < 4 := by rw [caF_len] at h2; exact h2
    have e1 : (((reF p r).drop j).take 4).getD q 0 = (reF p r).getD (j + q) 0 := by
      simp only [List.getD_eq_getElem?_getD, List.getElem?_take, if_pos hq, List.getElem?_drop]
    have e2 := caF_at (fourV p j) (fourV r j) hq
    rw [List.getD_eq_getElem?_getD, List.getElem?_eq_getElem h1] at e1
    rw [List.getD_eq_getElem?_getD, List.getElem?_eq_getElem h2] at e2
    refine e1.trans (Eq.trans ?_ e2.symm)
    rw [reF_at p r (by omega)]
    unfold reAt caAt
    rw [fourV_at hq, fourV_at hq, re_four (pix_at hp _ (by omega))]
theorem below_call {w wr w' : World} (h : Below w.heap.size w wr) (hb : Below wr.heap.size wr w') : Below w.heap.size w w' := below_up h hb h.size
theorem below_made {w wr : World} (h : Below w.heap.size w wr) (o : Obj) : Below w.heap.size w (wr.alloc o) := h.alloc h.size o
theorem ints_drew {w : World} {g : Nat} {A : Option Addr} {l : List Int} (h : Ints w g A l) : Ints w.drew g A l := h
end Go.Proofs.Ytjgbenhjafgimaa
