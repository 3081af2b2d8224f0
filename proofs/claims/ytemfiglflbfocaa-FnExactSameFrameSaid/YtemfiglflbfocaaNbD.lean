/-
  Contracts of the model's Border and Mean. Condition: a slice is no longer than it holds.
-/
import Derived.Test.YtemfiglflbfocaaNbC
namespace Go.Proofs.Ytemfiglflbfocaa
open Go.RowKit
set_option linter.unusedVariables false

theorem ints_take {w : World} {g b off : Nat} {l : List Int} {n : Nat} (hn : n ≤ l.length) (hs : n ≤ 1000) (hb : b < g) (hc : ∀ j, j < l.length → w.cell? ⟨b, off + j, none⟩ = some (.int .i64 (l.getD j 0))) : Ints w g (some ⟨b, off, none⟩) (l.take n) := by
  refine ⟨by rw [List.length_take]; omega, .inr ⟨b, off, rfl, hb, fun j hj => ?_⟩⟩
  rw [List.length_take] at hj
  rw [hc j (by omega), List.getD_eq_getElem?_getD, List.getD_eq_getElem?_getD, List.getElem?_take, if_pos (by omega)]
theorem nbOk_false_bord {t l : List Int} {k n : Int} (h : nbOk t l k n = false) : bordL t l k n = [] := by unfold bordL; rw [if_neg (by rw [h]; simp)]
theorem nbOk_true_bord {t l : List Int} {k n : Int} (h : nbOk t l k n = true) : bordL t l k n = bordF t l k := by unfold bordL; rw [if_pos h]
theorem own_shape {w : World} {base : Nat} {e : TypeId} {size : Nat} {v : Value} {n : Nat} {xs : List Value} (h : w.ownsRow base e size v n xs) : ∃ A c, v = .slice A n c := by
  rcases h.2 with ⟨h1, h2⟩ | ⟨g, cap, cur, h1, _⟩
  · exact ⟨none, 0, by rw [h1, h2]⟩
  · exact ⟨_, _, h1⟩
theorem own_at' (w : World) (base k : Nat) (l : List Int) (hb : base ≤ w.heap.size) (hm : l.length ≤ maxLen) (hk : w.heap.size = k) : OwnI (w.alloc (.cells (ivs l).toArray 3)) base (some ⟨k, 0, none⟩) l.length l := by
  subst hk
  exact own_ints w base l hb hm

end Go.Proofs.Ytemfiglflbfocaa
