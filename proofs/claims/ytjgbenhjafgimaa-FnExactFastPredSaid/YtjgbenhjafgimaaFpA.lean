/-
  The contract of the model's l17Row. Condition: a slice is no longer than it holds.
-/
import Derived.Test.YtjgbenhjafgimaaSlA
import Derived.Test.YtjgbenhjafgimaaSoA
import Derived.Test.YtjgbenhjafgimaaPrE
import Derived.Test.YtjgbenhjafgimaaApp
namespace Go.Proofs.Ytjgbenhjafgimaa
open Go.RowKit
set_option linter.unusedVariables false

/-- A row of the prediction. -/
def rowPF (t l : List Int) (k : Int) (b1 b2 : Bool) (m : Nat) (mode : Int) (y : Nat) : List Int := (List.range m).map fun x => predF t l k b1 b2 m mode x y
theorem rowPF_len (t l : List Int) (k : Int) (b1 b2 : Bool) (m : Nat) (mode : Int) (y : Nat) : (rowPF t l k b1 b2 m mode y).length = m := by simp [rowPF]
theorem rowPF_at (t l : List Int) (k : Int) (b1 b2 : Bool) (m : Nat) (mode : Int) (y : Nat) {x : Nat} (hx : x < m) : (rowPF t l k b1 b2 m mode y).getD x 0 = predF t l k b1 b2 m mode x y := by
  rw [List.getD_eq_getElem?_getD, rowPF, List.getElem?_map, List.getElem?_range hx]
  rfl
theorem clip_id {x : Int} (h : 0 ≤ x ∧ x ≤ 255) : clipV x = x := by unfold clipV; omega
theorem row_slope (t l : List Int) (k : Int) (b1 b2 : Bool) (m y : Nat) : slF t l k m y = rowPF t l k b1 b2 m 3 y := ints_same (slF_len _ _ _ _ _) (rowPF_len _ _ _ _ _ _ _ _) fun i hi => by
  rw [slF_at _ _ _ _ _ hi, rowPF_at _ _ _ _ _ _ _ _ hi]
  unfold predF
  rw [if_neg (by decide), if_neg (by decide), if_neg (by decide), if_pos rfl]
theorem row_down {t : List Int} (l : List Int) (k : Int) (b1 b2 : Bool) {m : Nat} (y : Nat) (ht : m ≤ t.length) : t.take m = rowPF t l k b1 b2 m 1 y := ints_same (by rw [List.length_take]; omega) (rowPF_len _ _ _ _ _ _ _ _) fun i hi => by
  rw [rowPF_at _ _ _ _ _ _ _ _ hi]
  unfold predF
  rw [if_neg (by decide), if_pos rfl, List.getD_eq_getElem?_getD, List.getD_eq_getElem?_getD, List.getElem?_take, if_pos hi]
theorem row_flat0 (t l : List Int) (k : Int) (b1 b2 : Bool) (m y : Nat) : List.replicate m (meanV t l k b1 b2 (m : Int)) = rowPF t l k b1 b2 m 0 y := ints_same List.length_replicate (rowPF_len _ _ _ _ _ _ _ _) fun i hi => by
  rw [rowPF_at _ _ _ _ _ _ _ _ hi, List.getD_eq_getElem?_getD, List.getElem?_replicate, if_pos hi]
  unfold predF
  rw [if_pos rfl]
  rfl
theorem row_flat2 (t l : List Int) (k : Int) (b1 b2 : Bool) (m y : Nat) : List.replicate m (l.getD y 0) = rowPF t l k b1 b2 m 2 y := ints_same List.length_replicate (rowPF_len _ _ _ _ _ _ _ _) fun i hi => by
  rw [rowPF_at _ _ _ _ _ _ _ _ hi, List.getD_eq_getElem?_getD, List.getElem?_replicate, if_pos hi]
  unfold predF
  rw [if_neg (by decide), if_neg (by decide), if_pos rfl]
  rfl
theorem row_left {t : List Int} (l : List Int) (k : Int) (b1 b2 : Bool) {m y : Nat} (ht : t.length = 2 * m) (hm : 0 < m) (hp : ∀ i, i < 2 * m → 0 ≤ t.getD i 0 ∧ t.getD i 0 ≤ 255) (hy : y < m) :
    ((soL (t ++ [t.getD (2 * m - 1) 0])).drop y).take m = rowPF t l k b1 b2 m 4 y := by
  have hl : (t ++ [t.getD (2 * m - 1) 0]).length = 2 * m + 1 := by rw [List.length_append, ht]; rfl
  have ha : ∀ i, i < 2 * m + 1 → (t ++ [t.getD (2 * m - 1) 0]).getD i 0 = t.getD (min (2 * m - 1) i) 0 := fun i hi => by
    by_cases h : i < 2 * m
    · rw [List.getD_eq_getElem?_getD, List.getElem?_append_left (by omega), ← List.getD_eq_getElem?_getD, show min (2 * m - 1) i = i by omega]
    · rw [List.getD_eq_getElem?_getD, List.getElem?_append_right (by omega), show i - t.length = 0 by omega, show min (2 * m - 1) i = 2 * m - 1 by omega]
      rfl
  refine ints_same (by rw [List.length_take, List.length_drop, soL_len, hl]; omega) (rowPF_len _ _ _ _ _ _ _ _) fun i hi => ?_
  rw [drop_take_at hi, soL_at _ (by rw [hl]; omega), rowPF_at _ _ _ _ _ _ _ _ hi]
  unfold predF soAt
  rw [if_neg (by decide), if_neg (by decide), if_neg (by decide), if_neg (by decide), if_pos rfl]
  rw [ha (y + i) (by omega), ha (y + i + 1) (by omega), ha (y + i + 2) (by omega), clip_id (hp _ (by omega)), clip_id (hp _ (by omega)), clip_id (hp _ (by omega)), show min (2 * m - 1) (y + i) = i + y by omega, Nat.add_comm y i]
theorem row_right {t l : List Int} {k : Int} (b1 b2 : Bool) {m y : Nat} (ht : t.length = 2 * m) (hl : l.length = m) (hb : ∀ i, i < 2 * m + 1 → 0 ≤ (bordF t l k).getD i 0 ∧ (bordF t l k).getD i 0 ≤ 255) (hy : y < m) :
    ((soL (bordF t l k)).drop (m - 1 - y)).take m = rowPF t l k b1 b2 m 5 y := by
  have hbl := bordF_len (k := k) ht hl
  refine ints_same (by rw [List.length_take, List.length_drop, soL_len, hbl]; omega) (rowPF_len _ _ _ _ _ _ _ _) fun i hi => ?_
  rw [drop_take_at hi, soL_at _ (by rw [hbl]; omega), rowPF_at _ _ _ _ _ _ _ _ hi]
  unfold predF soAt
  rw [if_neg (by decide), if_neg (by decide), if_neg (by decide), if_neg (by decide), if_neg (by decide), if_pos rfl]
  rw [clip_id (hb _ (by omega)), clip_id (hb _ (by omega)), clip_id (hb _ (by omega)), show m - 1 - y + i = i + m - y - 1 by omega, show i + m - y - 1 + 1 = i + m - y by omega, show i + m - y - 1 + 2 = i + m - y + 1 by omega]
theorem prd_row {t l : List Int} {k : Int} {b1 b2 : Bool} {m : Nat} {mode : Int} {y : Nat} (hy : y < m) : (prdF t l k b1 b2 m mode).take (y * m + m) = (prdF t l k b1 b2 m mode).take (y * m) ++ rowPF t l k b1 b2 m mode y := by
  rw [List.take_add]
  have hf : y * m + m ≤ m * m := by
    have h1 : (y + 1) * m ≤ m * m := Nat.mul_le_mul_right m hy
    rw [Nat.add_mul, Nat.one_mul] at h1
    exact h1
  refine congrArg _ (ints_same (n := m) ?_ (rowPF_len _ _ _ _ _ _ _ _) fun i hi => ?_)
  · rw [List.length_take, List.length_drop, prdF_len]
    omega
  · rw [drop_take_at hi, rowPF_at _ _ _ _ _ _ _ _ hi, List.getD_eq_getElem?_getD, prdF, List.getElem?_map, List.getElem?_range (by omega), Option.map_some, Option.getD_some]
    have e1 : (y * m + i) / m = y := by rw [Nat.add_comm, Nat.add_mul_div_right _ _ (by omega), Nat.div_eq_of_lt hi, Nat.zero_add]
    have e2 : (y * m + i) % m = i := by rw [Nat.add_comm, Nat.add_mul_mod_self_right, Nat.mod_eq_of_lt hi]
    rw [e1, e2]
end Go.Proofs.Ytjgbenhjafgimaa
