/-
  Plain facts of chapter 18: a row of a block that is set is one piece; what lies above a block is a piece of a row and its last sample again. No condition.
-/
import Derived.Test.YtemfiglflbfocaaFrK
import Derived.Test.YtemfiglflbfocaaFrE
import Derived.Test.YtemfiglflbfocaaApp
namespace Go.Proofs.Ytemfiglflbfocaa
set_option linter.unusedVariables false

theorem set_mid (P Q R : List Int) (v : Int) (k : Nat) (hk : k = P.length + Q.length) (hR : 0 < R.length) : (P ++ Q ++ R).set k v = P ++ (Q ++ [v]) ++ R.drop 1 := by
  rw [List.set_append_right (s := P ++ Q) _ _ (by rw [List.length_append]; omega), List.length_append, hk, Nat.sub_self]
  cases R with
  | nil => simp at hR
  | cons r R => simp
/-- A row of a block that is set. -/
theorem sbP_row {l m : List Int} {a x y n i : Nat} (hn : 0 < n) (hl : (y + i) * a + x + n ≤ l.length) (hm : i * n + n ≤ m.length) : ∀ t, t ≤ n →
    sbP l m a x y n (i * n + t) = (sbP l m a x y n (i * n)).take ((y + i) * a + x) ++ (m.drop (i * n)).take t ++ (sbP l m a x y n (i * n)).drop ((y + i) * a + x + t) := by
  intro t
  induction t with
  | zero => intro _; simp
  | succ t ih =>
    intro ht
    rw [← Nat.add_assoc, sbP_next, ih (by omega)]
    have e1 : (i * n + t) / n = i := by rw [Nat.add_comm, Nat.add_mul_div_right _ _ hn, Nat.div_eq_of_lt (by omega), Nat.zero_add]
    have e2 : (i * n + t) % n = t := by rw [Nat.add_comm, Nat.add_mul_mod_self_right, Nat.mod_eq_of_lt (by omega)]
    rw [e1, e2, set_mid _ _ _ _ _ (by rw [List.length_take, List.length_take, List.length_drop, sbP_len]; omega) (by rw [List.length_drop, sbP_len]; omega), List.drop_drop]
    have e3 : (m.drop (i * n)).take t ++ [m.getD (i * n + t) 0] = (m.drop (i * n)).take (t + 1) := by
      have hq : t < (m.drop (i * n)).length := by rw [List.length_drop]; omega
      rw [List.take_succ_eq_append_getElem hq, List.getElem_drop, List.getD_eq_getElem?_getD, List.getElem?_eq_getElem (by omega)]
      rfl
    rw [e3]
    rfl
theorem tpL_edge (l : List Int) (a x n : Nat) : ∀ k, tpL l a x 0 n k = List.replicate k 128 := by
  intro k
  induction k with
  | zero => rfl
  | succ k ih => rw [tpL, ih, List.replicate_succ', tpV, if_pos rfl]
theorem row_snoc {l : List Int} {o k : Nat} (h : o + k < l.length) : (l.drop o).take (k + 1) = (l.drop o).take k ++ [l.getD (o + k) 0] := by
  have hq : k < (l.drop o).length := by rw [List.length_drop]; omega
  rw [List.take_succ_eq_append_getElem hq, List.getElem_drop, List.getD_eq_getElem?_getD, List.getElem?_eq_getElem (by omega)]
  rfl
theorem tpL_near {l : List Int} {a x y n c : Nat} (hy : 0 < y) (hc : ∀ i, i < c → i < n ∨ (y % 8 = 0 ∧ x + i < a)) (hl : (y - 1) * a + x + c ≤ l.length) : ∀ k, k ≤ c → tpL l a x y n k = (l.drop ((y - 1) * a + x)).take k := by
  intro k
  induction k with
  | zero => intro _; rfl
  | succ k ih =>
    intro hk
    rw [tpL, ih (by omega), row_snoc (by omega), tpV, if_neg (by omega), if_pos (hc k (by omega))]
theorem tpL_far {l : List Int} {a x y n c : Nat} (hy : 0 < y) (hc1 : 0 < c) (hc : ∀ i, i < c → i < n ∨ (y % 8 = 0 ∧ x + i < a)) (hl : (y - 1) * a + x + c ≤ l.length) (hf : ∀ i, c ≤ i → i < 2 * n → ¬ (i < n ∨ (y % 8 = 0 ∧ x + i < a))) : ∀ j, c + j ≤ 2 * n → tpL l a x y n (c + j) = (l.drop ((y - 1) * a + x)).take c ++ List.replicate j (l.getD ((y - 1) * a + x + (c - 1)) 0) := by
  intro j
  induction j with
  | zero => intro _; rw [Nat.add_zero, tpL_near hy hc hl c (Nat.le_refl _)]; simp
  | succ j ih =>
    intro hk
    rw [← Nat.add_assoc, tpL, ih (by omega), List.replicate_succ', tpV, if_neg (by omega), if_neg (hf (c + j) (by omega) (by omega))]
    rw [← List.append_assoc]
    congr 2
    have ht : ((l.drop ((y - 1) * a + x)).take c).length = c := by rw [List.length_take, List.length_drop]; omega
    by_cases h0 : j = 0
    · subst h0
      rw [List.replicate_zero, List.append_nil, Nat.add_zero]
      exact drop_take_at (by omega)
    · rw [List.getD_eq_getElem?_getD, List.getElem?_append_right (by omega), ht, List.getElem?_replicate, if_pos (by omega)]
      rfl
theorem leL_edge (l : List Int) (a y n : Nat) : leL l a 0 y n = List.replicate n 128 := by
  unfold leL
  rw [List.eq_replicate_iff]
  refine ⟨by simp, fun b hb => ?_⟩
  obtain ⟨i, _, rfl⟩ := List.mem_map.1 hb
  rfl
end Go.Proofs.Ytemfiglflbfocaa
