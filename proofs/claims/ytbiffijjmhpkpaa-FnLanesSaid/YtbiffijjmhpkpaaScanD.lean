/-
  Contracts of chapter 9's draws: the size of a block, and the numbers of a block. Condition: the input is no longer than 1048576 bytes.
-/
import Derived.Test.YtbiffijjmhpkpaaScanC
import Derived.Test.YtbiffijjmhpkpaaDrawB
namespace Go.Proofs.Ytbiffijjmhpkpaa
open Go.RowKit
set_option linter.unusedVariables false

/-- What the draw of a square leaves. -/
def SqOut (w : World) (g : Nat) (M : Nat) (A : Option Addr) (cap : Nat) (zs : List Int) (e : Ending) (w' : World) : Prop :=
  ∃ (l : List Int) (A' : Option Addr) (c : Nat) (i' : Nat) (h' : Int), e = .returned (.slice A' l.length c) ∧ (l.length = 16 ∨ l.length = 64 ∨ l.length = 0 ∨ l.length = 15 ∨ l.length = 63) ∧ (∀ t, t < l.length → -(M : Int) ≤ l.getD t 0 ∧ l.getD t 0 ≤ (M : Int)) ∧ OwnI w' w.heap.size A' c l ∧ i' ≤ zs.length ∧ Cursor w' g A cap zs i' h' ∧ w.grownBy w' (some g)

def lenOf : Value → Nat
  | .slice _ n _ => n
  | _ => 0
theorem own_form2 {w : World} {base : Nat} {e : TypeId} {size : Nat} {v : Value} {n : Nat} {xs : List Value} (h : w.ownsRow base e size v n xs) : ∃ A c, v = .slice A n c := by
  rcases h.2 with ⟨h1, h2⟩ | ⟨g, cap, cur, h1, _⟩
  · exact ⟨none, 0, by rw [h1, h2]⟩
  · exact ⟨_, _, h1⟩
theorem snoc_range {p : List Int} {j M : Nat} {x : Int} (hp : p.length = j) (h : ∀ t, t < j → -(M : Int) ≤ p.getD t 0 ∧ p.getD t 0 ≤ (M : Int)) (h1 : -(M : Int) ≤ x) (h2 : x ≤ (M : Int)) : ∀ t, t < j + 1 → -(M : Int) ≤ (p ++ [x]).getD t 0 ∧ (p ++ [x]).getD t 0 ≤ (M : Int) := by
  intro t ht
  rw [List.getD_eq_getElem?_getD]
  by_cases htj : t < j
  · rw [List.getElem?_append_left (by omega), ← List.getD_eq_getElem?_getD]
    exact h t htj
  · obtain rfl : t = j := by omega
    subst hp
    simp
    omega

end Go.Proofs.Ytbiffijjmhpkpaa
