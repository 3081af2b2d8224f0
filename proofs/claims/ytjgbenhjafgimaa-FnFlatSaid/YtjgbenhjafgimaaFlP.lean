/-
  Chapter 17, plain: a neighbourhood of one value is predicted by that value. No condition but those that each lemma states.
-/
import Derived.Test.YtjgbenhjafgimaaPrF
namespace Go.Proofs.Ytjgbenhjafgimaa
open Go.RowKit
set_option linter.unusedVariables false

theorem sumI_flat {l : List Int} {v : Int} : ∀ (n : Nat), (∀ i, i < n → l.getD i 0 = v) → sumI l n = (n : Int) * v
  | 0, _ => by simp [sumI]
  | n + 1, h => by
    have ih := sumI_flat n fun i hi => h i (by omega)
    rw [sumI, ih, h n (by omega), Int.natCast_succ, Int.add_mul, Int.one_mul]
theorem softV_flat {v : Int} (h0 : 0 ≤ v) : softV v v v = v := by unfold softV; omega
theorem flat_nb {t l : List Int} {v : Int} {m : Nat} (hm : m = 4 ∨ m = 8) (ht : t.length = 2 * m) (hl : l.length = m) (hpt : ∀ i, i < 2 * m → t.getD i 0 = v) (hpl : ∀ i, i < m → l.getD i 0 = v) (h0 : 0 ≤ v) (h1 : v ≤ 255) : nbOk t l v (m : Int) = true := by
  have all : ∀ {x : List Int} {n : Nat}, x.length = n → (∀ i, i < n → x.getD i 0 = v) → x.all pixE = true := fun {x n} hn h => by
    rw [List.all_eq_true]
    intro y hy
    obtain ⟨j, hj, rfl⟩ := List.getElem_of_mem hy
    have := h j (by omega)
    rw [List.getD_eq_getElem?_getD, List.getElem?_eq_getElem hj] at this
    have e : x[j] = v := this
    rw [e]
    simp [pixE, h0, h1]
  have ok : okN (m : Int) = true := by rcases hm with rfl | rfl <;> rfl
  unfold nbOk
  rw [ok, all ht hpt, all hl hpl, decide_eq_true (by omega), decide_eq_true (by omega)]
  simp [pixE, h0, h1]
theorem flat_pred {t l : List Int} {v : Int} {m : Nat} (hm : m = 4 ∨ m = 8) (ht : t.length = 2 * m) (hl : l.length = m) (hpt : ∀ i, i < 2 * m → t.getD i 0 = v) (hpl : ∀ i, i < m → l.getD i 0 = v) (h0 : 0 ≤ v) (h1 : v ≤ 255) (mode : Int) (hmo : 0 ≤ mode ∧ mode ≤ 5) (x y : Nat) (hx : x < m) (hy : y < m) :
    predF t l v true true m mode x y = v := by
  have hb : ∀ i, i < 2 * m + 1 → (bordF t l v).getD i 0 = v := fun i hi => by
    rw [bordF_at ht hl i hi]
    split
    · exact hpl _ (by omega)
    · split
      · rfl
      · exact hpt _ (by omega)
  have hmean : meanV t l v true true (m : Int) = v := by
    unfold meanV
    rw [if_pos (flat_nb hm ht hl hpt hpl h0 h1), if_pos ⟨rfl, rfl⟩, hl, sumI_flat m fun i hi => hpt i (by omega), sumI_flat m hpl]
    rcases hm with rfl | rfl <;> omega
  unfold predF
  rcases (show mode = 0 ∨ mode = 1 ∨ mode = 2 ∨ mode = 3 ∨ mode = 4 ∨ mode = 5 by omega) with rfl | rfl | rfl | rfl | rfl | rfl
  · rw [if_pos rfl]; exact hmean
  · rw [if_neg (by decide), if_pos rfl]; exact hpt _ (by omega)
  · rw [if_neg (by decide), if_neg (by decide), if_pos rfl]; exact hpl _ hy
  · rw [if_neg (by decide), if_neg (by decide), if_neg (by decide), if_pos rfl, hpl _ hy, hpt _ (by omega)]; unfold clipV; omega
  · rw [if_neg (by decide), if_neg (by decide), if_neg (by decide), if_neg (by decide), if_pos rfl, hpt _ (by omega), hpt _ (by omega), hpt _ (by omega)]; exact softV_flat h0
  · rw [if_neg (by decide), if_neg (by decide), if_neg (by decide), if_neg (by decide), if_neg (by decide), if_pos rfl, hb _ (by omega), hb _ (by omega), hb _ (by omega)]; exact softV_flat h0
theorem flat_prd {t l : List Int} {v : Int} {m : Nat} (hm : m = 4 ∨ m = 8) (ht : t.length = 2 * m) (hl : l.length = m) (hpt : ∀ i, i < 2 * m → t.getD i 0 = v) (hpl : ∀ i, i < m → l.getD i 0 = v) (h0 : 0 ≤ v) (h1 : v ≤ 255) (mode : Int) (hmo : 0 ≤ mode ∧ mode ≤ 5) :
    ∀ i, i < m * m → (prdF t l v true true m mode).getD i 0 = v := fun i hi => by
  have hm0 : 0 < m := by omega
  rw [List.getD_eq_getElem?_getD, prdF, List.getElem?_map, List.getElem?_range hi]
  exact flat_pred hm ht hl hpt hpl h0 h1 mode hmo _ _ (Nat.mod_lt _ hm0) (Nat.div_lt_of_lt_mul hi)
end Go.Proofs.Ytjgbenhjafgimaa
