/-
  Chapter 14, the plain part: valid neighbourhoods, their border, their mean. No condition.
-/
import Derived.Test.YtemfiglflbfocaaNbA
import Derived.Test.YtemfiglflbfocaaRunA
namespace Go.Proofs.Ytemfiglflbfocaa
open Go.RowKit
set_option linter.unusedVariables false

def pixE (x : Int) : Bool := decide (0 ≤ x) && decide (x ≤ 255)
theorem pixE_true {x : Int} (h : pixE x = true) : 0 ≤ x ∧ x ≤ 255 := by simpa [pixE] using h
/-- What NbOk answers. -/
def nbOk (t l : List Int) (k n : Int) : Bool := okN n && decide ((t.length : Int) = 2 * n) && decide ((l.length : Int) = n) && t.all pixE && l.all pixE && pixE k
theorem nbOk_parts {t l : List Int} {k n : Int} (h : nbOk t l k n = true) : okN n = true ∧ (t.length : Int) = 2 * n ∧ (l.length : Int) = n ∧ t.all pixE = true ∧ l.all pixE = true ∧ pixE k = true := by
  simp only [nbOk, Bool.and_eq_true, decide_eq_true_eq] at h
  exact ⟨h.1.1.1.1.1, h.1.1.1.1.2, h.1.1.1.2, h.1.1.2, h.1.2, h.2⟩
/-- The side of a valid neighbourhood. -/
theorem nbOk_side {t l : List Int} {k n : Int} (h : nbOk t l k n = true) : ∃ m : Nat, n = (m : Int) ∧ (m = 4 ∨ m = 8) ∧ t.length = 2 * m ∧ l.length = m ∧ (∀ i, i < 2 * m → 0 ≤ t.getD i 0 ∧ t.getD i 0 ≤ 255) ∧ (∀ i, i < m → 0 ≤ l.getD i 0 ∧ l.getD i 0 ≤ 255) ∧ 0 ≤ k ∧ k ≤ 255 := by
  obtain ⟨h1, h2, h3, h4, h5, h6⟩ := nbOk_parts h
  have key : ∀ {x : List Int} {j : Nat}, x.all pixE = true → j < x.length → 0 ≤ x.getD j 0 ∧ x.getD j 0 ≤ 255 := fun {x j} hx hj => by
    rw [List.all_eq_true] at hx
    have := hx (x[j]) (List.getElem_mem hj)
    rw [List.getD_eq_getElem?_getD, List.getElem?_eq_getElem hj]
    exact pixE_true this
  rcases okN_cases h1 with rfl | rfl
  · exact ⟨4, rfl, .inl rfl, by omega, by omega, fun i hi => key h4 (by omega), fun i hi => key h5 (by omega), pixE_true h6⟩
  · exact ⟨8, rfl, .inr rfl, by omega, by omega, fun i hi => key h4 (by omega), fun i hi => key h5 (by omega), pixE_true h6⟩
/-- What Border answers. -/
def bordF (t l : List Int) (k : Int) : List Int := l.reverse ++ k :: t.take l.length
def bordL (t l : List Int) (k n : Int) : List Int := if nbOk t l k n = true then bordF t l k else []
theorem bordF_len {t l : List Int} {k : Int} {m : Nat} (ht : t.length = 2 * m) (hl : l.length = m) : (bordF t l k).length = 2 * m + 1 := by
  simp only [bordF, List.length_append, List.length_reverse, List.length_cons, List.length_take]
  omega
theorem bordL_len (t l : List Int) (k n : Int) : (bordL t l k n).length ≤ 64 := by
  unfold bordL
  split
  · rename_i h
    obtain ⟨m, _, hm, ht, hl, _⟩ := nbOk_side h
    rw [bordF_len ht hl]; omega
  · simp
/-- The left of the border lies from below: its first numbers. -/
theorem rev_next (l : List Int) {j : Nat} (h : j < l.length) : l.reverse.take (j + 1) = l.reverse.take j ++ [l.getD (l.length - 1 - j) 0] := by
  rw [List.take_add_one, List.getElem?_eq_getElem (by simpa using h), List.getElem_reverse, List.getD_eq_getElem?_getD, List.getElem?_eq_getElem (by omega)]
  rfl
/-- The sum of the first numbers. -/
def sumI (l : List Int) : Nat → Int
  | 0 => 0
  | k + 1 => sumI l k + l.getD k 0
theorem sumI_pix {l : List Int} : ∀ (n : Nat), (∀ i, i < n → 0 ≤ l.getD i 0 ∧ l.getD i 0 ≤ 255) → 0 ≤ sumI l n ∧ sumI l n ≤ 255 * (n : Int)
  | 0, _ => by simp [sumI]
  | n + 1, h => by
    have ih := sumI_pix n fun i hi => h i (by omega)
    have h1 := h n (by omega)
    rw [sumI]
    push_cast
    omega
theorem sumI_congr {a b : List Int} : ∀ (n : Nat), (∀ i, i < n → a.getD i 0 = b.getD i 0) → sumI a n = sumI b n
  | 0, _ => rfl
  | n + 1, h => by rw [sumI, sumI, sumI_congr n fun i hi => h i (by omega), h n (by omega)]
/-- What Mean answers. -/
def meanV (t l : List Int) (k : Int) (b1 b2 : Bool) (n : Int) : Int :=
  if nbOk t l k n = true then
    if b1 = true ∧ b2 = true then (sumI t l.length + sumI l l.length + n) / (2 * n)
    else if b1 = true then (sumI t l.length + n / 2) / n
    else if b2 = true then (sumI l l.length + n / 2) / n
    else 128
  else 0
end Go.Proofs.Ytemfiglflbfocaa
