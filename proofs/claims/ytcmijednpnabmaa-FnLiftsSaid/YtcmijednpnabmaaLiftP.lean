/-
  Chapter 13, the plain part: the lifts over integers of the machine. No condition.
-/
import Derived.Test.YtcmijednpnabmaaMatR
import Derived.Test.YtcmijednpnabmaaFormP
namespace Go.Proofs.Ytcmijednpnabmaa
open Go.RowKit
set_option linter.unusedVariables false

theorem wr_id {x : Int} (h : -9223372036854775808 ≤ x ∧ x ≤ 9223372036854775807) : wrap64 x = x := by unfold wrap64; omega
theorem wr_add (x y : Int) : wrap64 (wrap64 x + wrap64 y) = wrap64 (x + y) := by unfold wrap64; omega
theorem wr_sub (x y : Int) : wrap64 (wrap64 x - wrap64 y) = wrap64 (x - y) := by unfold wrap64; omega
theorem wr_lift (a0 a1 a2 a3 : Int) : wrap64 (wrap64 (a0 + a2) + wrap64 (wrap64 (2 * a1) + a3)) = wrap64 (a0 + a2 + (2 * a1 + a3)) ∧ wrap64 (wrap64 (a0 - a2) + wrap64 (a1 - wrap64 (2 * a3))) = wrap64 (a0 - a2 + (a1 - 2 * a3)) ∧ wrap64 (wrap64 (a0 - a2) - wrap64 (a1 - wrap64 (2 * a3))) = wrap64 (a0 - a2 - (a1 - 2 * a3)) ∧ wrap64 (wrap64 (a0 + a2) - wrap64 (wrap64 (2 * a1) + a3)) = wrap64 (a0 + a2 - (2 * a1 + a3)) := by
  unfold wrap64
  omega
/-- What the lifts answer. -/
def liR (n : Nat) (a : List Int) : List Int := if a.length = n then (liftL n a).map wrap64 else []
theorem liR_len {n : Nat} (a : List Int) (h : n ≤ 8) : (liR n a).length ≤ 8 := by
  unfold liR
  split
  · rw [List.length_map, liftL_len]; exact h
  · simp
theorem liR_no {n : Nat} {a : List Int} (h : a.length ≠ n) : liR n a = [] := by unfold liR; rw [if_neg h]
theorem liR_yes {n : Nat} {a : List Int} (h : a.length = n) : liR n a = (liftL n a).map wrap64 := by unfold liR; rw [if_pos h]
theorem liR_full {n : Nat} {a : List Int} (h : a.length = n) : (liR n a).length = n := by rw [liR_yes h, List.length_map, liftL_len]
theorem liR_four (a : List Int) (h : a.length = 4) : liR 4 a = [wrap64 (a.getD 0 0 + a.getD 2 0 + (2 * a.getD 1 0 + a.getD 3 0)), wrap64 (a.getD 0 0 - a.getD 2 0 + (a.getD 1 0 - 2 * a.getD 3 0)), wrap64 (a.getD 0 0 - a.getD 2 0 - (a.getD 1 0 - 2 * a.getD 3 0)), wrap64 (a.getD 0 0 + a.getD 2 0 - (2 * a.getD 1 0 + a.getD 3 0))] := by
  rw [liR_yes h, lift_four]
  rfl
/-- A round of sums and differences of numbers that lie so far from each other, done up to a place. -/
def stW (W : Nat) (q : List Int) (j : Nat) : List Int := (List.range 8).map fun t => if t - t / W % 2 * W < j then (if t / W % 2 = 0 then wrap64 (q.getD t 0 + q.getD (t + W) 0) else wrap64 (q.getD (t - W) 0 - q.getD t 0)) else q.getD t 0
theorem stW_len (W : Nat) (q : List Int) (j : Nat) : (stW W q j).length = 8 := by simp [stW]
theorem stW_at (W : Nat) (q : List Int) (j : Nat) {t : Nat} (h : t < 8) : (stW W q j).getD t 0 = if t - t / W % 2 * W < j then (if t / W % 2 = 0 then wrap64 (q.getD t 0 + q.getD (t + W) 0) else wrap64 (q.getD (t - W) 0 - q.getD t 0)) else q.getD t 0 := by
  rw [List.getD_eq_getElem?_getD, stW, List.getElem?_map, List.getElem?_range h]
  rfl
theorem stW_start (W : Nat) {q : List Int} (h : q.length = 8) : stW W q 0 = q := list_of (stW_len _ _ _) h fun i hi => by rw [stW_at _ _ _ hi, if_neg (by omega)]
theorem getD_set_self {l : List Int} {k : Nat} (x : Int) (h : k < l.length) : (l.set k x).getD k 0 = x := by rw [List.getD_eq_getElem?_getD, List.getElem?_set_self h]; rfl
theorem getD_set_ne {l : List Int} {k t : Nat} (x : Int) (h : t ≠ k) : (l.set k x).getD t 0 = l.getD t 0 := by rw [List.getD_eq_getElem?_getD, List.getElem?_set_ne (fun e => h e.symm), ← List.getD_eq_getElem?_getD]

theorem stW_skip_1 (q : List Int) (j : Nat) (hj : j < 8) (h : j / 1 % 2 ≠ 0) : stW 1 q (j + 1) = stW 1 q j := list_of (stW_len _ _ _) (stW_len _ _ _) fun t ht => by
  rw [stW_at _ _ _ ht, stW_at _ _ _ ht]
  by_cases hc : t - t / 1 % 2 * 1 < j
  · rw [if_pos (show t - t / 1 % 2 * 1 < j + 1 by omega), if_pos hc]
  · rw [if_neg (show ¬ t - t / 1 % 2 * 1 < j + 1 by omega), if_neg hc]
theorem stW_keep_1 (q : List Int) (j : Nat) (hj : j < 8) (h : j / 1 % 2 = 0) : j + 1 < 8 ∧ (stW 1 q j).getD j 0 = q.getD j 0 ∧ (stW 1 q j).getD (j + 1) 0 = q.getD (j + 1) 0 := by
  refine ⟨by omega, ?_, ?_⟩
  · rw [stW_at _ _ _ hj, if_neg (by omega)]
  · rw [stW_at _ _ _ (by omega), if_neg (by omega)]
theorem stW_step_1 (q : List Int) (j : Nat) (hj : j < 8) (h : j / 1 % 2 = 0) : ((stW 1 q j).set j (wrap64 (q.getD j 0 + q.getD (j + 1) 0))).set (j + 1) (wrap64 (q.getD j 0 - q.getD (j + 1) 0)) = stW 1 q (j + 1) := list_of (k := 8) (by rw [List.length_set, List.length_set]; exact stW_len _ _ _) (stW_len _ _ _) fun t ht => by
  have hl := stW_len 1 q j
  by_cases h1 : t = j + 1
  · subst h1
    rw [getD_set_self _ (by rw [List.length_set]; omega), stW_at _ _ _ ht, if_pos (by omega), if_neg (by omega), show j + 1 - 1 = j by omega]
  · rw [getD_set_ne _ h1]
    by_cases h2 : t = j
    · subst h2
      rw [getD_set_self _ (by omega), stW_at _ _ _ ht, if_pos (by omega), if_pos h]
    · rw [getD_set_ne _ h2, stW_at _ _ _ ht, stW_at _ _ _ ht]
      by_cases hc : t - t / 1 % 2 * 1 < j
      · rw [if_pos hc, if_pos (show t - t / 1 % 2 * 1 < j + 1 by omega)]
      · rw [if_neg hc, if_neg (show ¬ t - t / 1 % 2 * 1 < j + 1 by omega)]

theorem stW_skip_2 (q : List Int) (j : Nat) (hj : j < 8) (h : j / 2 % 2 ≠ 0) : stW 2 q (j + 1) = stW 2 q j := list_of (stW_len _ _ _) (stW_len _ _ _) fun t ht => by
  rw [stW_at _ _ _ ht, stW_at _ _ _ ht]
  by_cases hc : t - t / 2 % 2 * 2 < j
  · rw [if_pos (show t - t / 2 % 2 * 2 < j + 1 by omega), if_pos hc]
  · rw [if_neg (show ¬ t - t / 2 % 2 * 2 < j + 1 by omega), if_neg hc]
theorem stW_keep_2 (q : List Int) (j : Nat) (hj : j < 8) (h : j / 2 % 2 = 0) : j + 2 < 8 ∧ (stW 2 q j).getD j 0 = q.getD j 0 ∧ (stW 2 q j).getD (j + 2) 0 = q.getD (j + 2) 0 := by
  refine ⟨by omega, ?_, ?_⟩
  · rw [stW_at _ _ _ hj, if_neg (by omega)]
  · rw [stW_at _ _ _ (by omega), if_neg (by omega)]
theorem stW_step_2 (q : List Int) (j : Nat) (hj : j < 8) (h : j / 2 % 2 = 0) : ((stW 2 q j).set j (wrap64 (q.getD j 0 + q.getD (j + 2) 0))).set (j + 2) (wrap64 (q.getD j 0 - q.getD (j + 2) 0)) = stW 2 q (j + 1) := list_of (k := 8) (by rw [List.length_set, List.length_set]; exact stW_len _ _ _) (stW_len _ _ _) fun t ht => by
  have hl := stW_len 2 q j
  by_cases h1 : t = j + 2
  · subst h1
    rw [getD_set_self _ (by rw [List.length_set]; omega), stW_at _ _ _ ht, if_pos (by omega), if_neg (by omega), show j + 2 - 2 = j by omega]
  · rw [getD_set_ne _ h1]
    by_cases h2 : t = j
    · subst h2
      rw [getD_set_self _ (by omega), stW_at _ _ _ ht, if_pos (by omega), if_pos h]
    · rw [getD_set_ne _ h2, stW_at _ _ _ ht, stW_at _ _ _ ht]
      by_cases hc : t - t / 2 % 2 * 2 < j
      · rw [if_pos hc, if_pos (show t - t / 2 % 2 * 2 < j + 1 by omega)]
      · rw [if_neg hc, if_neg (show ¬ t - t / 2 % 2 * 2 < j + 1 by omega)]

theorem stW_skip_4 (q : List Int) (j : Nat) (hj : j < 8) (h : j / 4 % 2 ≠ 0) : stW 4 q (j + 1) = stW 4 q j := list_of (stW_len _ _ _) (stW_len _ _ _) fun t ht => by
  rw [stW_at _ _ _ ht, stW_at _ _ _ ht]
  by_cases hc : t - t / 4 % 2 * 4 < j
  · rw [if_pos (show t - t / 4 % 2 * 4 < j + 1 by omega), if_pos hc]
  · rw [if_neg (show ¬ t - t / 4 % 2 * 4 < j + 1 by omega), if_neg hc]
theorem stW_keep_4 (q : List Int) (j : Nat) (hj : j < 8) (h : j / 4 % 2 = 0) : j + 4 < 8 ∧ (stW 4 q j).getD j 0 = q.getD j 0 ∧ (stW 4 q j).getD (j + 4) 0 = q.getD (j + 4) 0 := by
  refine ⟨by omega, ?_, ?_⟩
  · rw [stW_at _ _ _ hj, if_neg (by omega)]
  · rw [stW_at _ _ _ (by omega), if_neg (by omega)]
theorem stW_step_4 (q : List Int) (j : Nat) (hj : j < 8) (h : j / 4 % 2 = 0) : ((stW 4 q j).set j (wrap64 (q.getD j 0 + q.getD (j + 4) 0))).set (j + 4) (wrap64 (q.getD j 0 - q.getD (j + 4) 0)) = stW 4 q (j + 1) := list_of (k := 8) (by rw [List.length_set, List.length_set]; exact stW_len _ _ _) (stW_len _ _ _) fun t ht => by
  have hl := stW_len 4 q j
  by_cases h1 : t = j + 4
  · subst h1
    rw [getD_set_self _ (by rw [List.length_set]; omega), stW_at _ _ _ ht, if_pos (by omega), if_neg (by omega), show j + 4 - 4 = j by omega]
  · rw [getD_set_ne _ h1]
    by_cases h2 : t = j
    · subst h2
      rw [getD_set_self _ (by omega), stW_at _ _ _ ht, if_pos (by omega), if_pos h]
    · rw [getD_set_ne _ h2, stW_at _ _ _ ht, stW_at _ _ _ ht]
      by_cases hc : t - t / 4 % 2 * 4 < j
      · rw [if_pos hc, if_pos (show t - t / 4 % 2 * 4 < j + 1 by omega)]
      · rw [if_neg hc, if_neg (show ¬ t - t / 4 % 2 * 4 < j + 1 by omega)]

/-- The three rounds. -/
def stA (a : List Int) : Nat → List Int
  | 0 => a
  | 1 => stW 1 a 8
  | 2 => stW 2 (stW 1 a 8) 8
  | _ => stW 4 (stW 2 (stW 1 a 8) 8) 8
theorem stA_len {a : List Int} (h : a.length = 8) : ∀ t, (stA a t).length = 8
  | 0 => h
  | 1 => stW_len _ _ _
  | 2 => stW_len _ _ _
  | _ + 3 => stW_len _ _ _
set_option maxRecDepth 100000 in
set_option maxHeartbeats 4000000 in
theorem stA_end (a : List Int) (h : a.length = 8) : stA a 3 = liR 8 a := by
  rw [liR_yes h]
  refine list_of (k := 8) (stW_len _ _ _) (by rw [List.length_map, liftL_len]) fun r hr => ?_
  have e : ((liftL 8 a).map wrap64).getD r 0 = wrap64 ((liftL 8 a).getD r 0) := by
    rw [List.getD_eq_getElem?_getD, List.getElem?_map, List.getD_eq_getElem?_getD, List.getElem?_eq_getElem (by rw [liftL_len]; exact hr)]
    rfl
  rw [e, liftL_at _ hr]
  show (stW 4 (stW 2 (stW 1 a 8) 8) 8).getD r 0 = _
  have s1 : ∀ t, t < 8 → (stW 1 a 8).getD t 0 = if t / 1 % 2 = 0 then wrap64 (a.getD t 0 + a.getD (t + 1) 0) else wrap64 (a.getD (t - 1) 0 - a.getD t 0) := fun t ht => by rw [stW_at _ _ _ ht, if_pos (by omega)]
  have s2 : ∀ t, t < 8 → (stW 2 (stW 1 a 8) 8).getD t 0 = if t / 2 % 2 = 0 then wrap64 ((stW 1 a 8).getD t 0 + (stW 1 a 8).getD (t + 2) 0) else wrap64 ((stW 1 a 8).getD (t - 2) 0 - (stW 1 a 8).getD t 0) := fun t ht => by rw [stW_at _ _ _ ht, if_pos (by omega)]
  have s3 : ∀ t, t < 8 → (stW 4 (stW 2 (stW 1 a 8) 8) 8).getD t 0 = if t / 4 % 2 = 0 then wrap64 ((stW 2 (stW 1 a 8) 8).getD t 0 + (stW 2 (stW 1 a 8) 8).getD (t + 4) 0) else wrap64 ((stW 2 (stW 1 a 8) 8).getD (t - 4) 0 - (stW 2 (stW 1 a 8) 8).getD t 0) := fun t ht => by rw [stW_at _ _ _ ht, if_pos (by omega)]
  generalize stW 4 (stW 2 (stW 1 a 8) 8) 8 = q3 at *
  generalize stW 2 (stW 1 a 8) 8 = q2 at *
  generalize stW 1 a 8 = q1 at *
  have u : ∀ t, t < 8 → q1.getD t 0 = wrap64 (if t / 1 % 2 = 0 then a.getD t 0 + a.getD (t + 1) 0 else a.getD (t - 1) 0 - a.getD t 0) := fun t ht => by rw [s1 t ht]; split <;> rfl
  have v : ∀ t, t < 8 → t / 2 % 2 = 0 → q2.getD t 0 = wrap64 ((if t / 1 % 2 = 0 then a.getD t 0 + a.getD (t + 1) 0 else a.getD (t - 1) 0 - a.getD t 0) + (if (t + 2) / 1 % 2 = 0 then a.getD (t + 2) 0 + a.getD (t + 2 + 1) 0 else a.getD (t + 2 - 1) 0 - a.getD (t + 2) 0)) := fun t ht h => by
    rw [s2 t ht, if_pos h, u t ht, u (t + 2) (by omega), wr_add]
  have v' : ∀ t, t < 8 → t / 2 % 2 = 1 → q2.getD t 0 = wrap64 ((if (t - 2) / 1 % 2 = 0 then a.getD (t - 2) 0 + a.getD (t - 2 + 1) 0 else a.getD (t - 2 - 1) 0 - a.getD (t - 2) 0) - (if t / 1 % 2 = 0 then a.getD t 0 + a.getD (t + 1) 0 else a.getD (t - 1) 0 - a.getD t 0)) := fun t ht h => by
    rw [s2 t ht, if_neg (by omega), u t ht, u (t - 2) (by omega), wr_sub]
  rcases (show r = 0 ∨ r = 1 ∨ r = 2 ∨ r = 3 ∨ r = 4 ∨ r = 5 ∨ r = 6 ∨ r = 7 by omega) with rfl | rfl | rfl | rfl | rfl | rfl | rfl | rfl
  · rw [s3 0 (by decide), if_pos (by decide), v 0 (by decide) (by decide), v 4 (by decide) (by decide), wr_add]
    refine congrArg wrap64 ?_
    simp only [sumTo, show matE 8 true 0 0 = 1 from rfl, show matE 8 true 0 1 = 1 from rfl, show matE 8 true 0 2 = 1 from rfl, show matE 8 true 0 3 = 1 from rfl, show matE 8 true 0 4 = 1 from rfl, show matE 8 true 0 5 = 1 from rfl, show matE 8 true 0 6 = 1 from rfl, show matE 8 true 0 7 = 1 from rfl]
    simp
    omega
  · rw [s3 1 (by decide), if_pos (by decide), v 1 (by decide) (by decide), v 5 (by decide) (by decide), wr_add]
    refine congrArg wrap64 ?_
    simp only [sumTo, show matE 8 true 1 0 = 1 from rfl, show matE 8 true 1 1 = -1 from rfl, show matE 8 true 1 2 = 1 from rfl, show matE 8 true 1 3 = -1 from rfl, show matE 8 true 1 4 = 1 from rfl, show matE 8 true 1 5 = -1 from rfl, show matE 8 true 1 6 = 1 from rfl, show matE 8 true 1 7 = -1 from rfl]
    simp
    omega
  · rw [s3 2 (by decide), if_pos (by decide), v' 2 (by decide) (by decide), v' 6 (by decide) (by decide), wr_add]
    refine congrArg wrap64 ?_
    simp only [sumTo, show matE 8 true 2 0 = 1 from rfl, show matE 8 true 2 1 = 1 from rfl, show matE 8 true 2 2 = -1 from rfl, show matE 8 true 2 3 = -1 from rfl, show matE 8 true 2 4 = 1 from rfl, show matE 8 true 2 5 = 1 from rfl, show matE 8 true 2 6 = -1 from rfl, show matE 8 true 2 7 = -1 from rfl]
    simp
    omega
  · rw [s3 3 (by decide), if_pos (by decide), v' 3 (by decide) (by decide), v' 7 (by decide) (by decide), wr_add]
    refine congrArg wrap64 ?_
    simp only [sumTo, show matE 8 true 3 0 = 1 from rfl, show matE 8 true 3 1 = -1 from rfl, show matE 8 true 3 2 = -1 from rfl, show matE 8 true 3 3 = 1 from rfl, show matE 8 true 3 4 = 1 from rfl, show matE 8 true 3 5 = -1 from rfl, show matE 8 true 3 6 = -1 from rfl, show matE 8 true 3 7 = 1 from rfl]
    simp
    omega
  · rw [s3 4 (by decide), if_neg (by decide), v 0 (by decide) (by decide), v 4 (by decide) (by decide), wr_sub]
    refine congrArg wrap64 ?_
    simp only [sumTo, show matE 8 true 4 0 = 1 from rfl, show matE 8 true 4 1 = 1 from rfl, show matE 8 true 4 2 = 1 from rfl, show matE 8 true 4 3 = 1 from rfl, show matE 8 true 4 4 = -1 from rfl, show matE 8 true 4 5 = -1 from rfl, show matE 8 true 4 6 = -1 from rfl, show matE 8 true 4 7 = -1 from rfl]
    simp
    omega
  · rw [s3 5 (by decide), if_neg (by decide), v 1 (by decide) (by decide), v 5 (by decide) (by decide), wr_sub]
    refine congrArg wrap64 ?_
    simp only [sumTo, show matE 8 true 5 0 = 1 from rfl, show matE 8 true 5 1 = -1 from rfl, show matE 8 true 5 2 = 1 from rfl, show matE 8 true 5 3 = -1 from rfl, show matE 8 true 5 4 = -1 from rfl, show matE 8 true 5 5 = 1 from rfl, show matE 8 true 5 6 = -1 from rfl, show matE 8 true 5 7 = 1 from rfl]
    simp
    omega
  · rw [s3 6 (by decide), if_neg (by decide), v' 2 (by decide) (by decide), v' 6 (by decide) (by decide), wr_sub]
    refine congrArg wrap64 ?_
    simp only [sumTo, show matE 8 true 6 0 = 1 from rfl, show matE 8 true 6 1 = 1 from rfl, show matE 8 true 6 2 = -1 from rfl, show matE 8 true 6 3 = -1 from rfl, show matE 8 true 6 4 = -1 from rfl, show matE 8 true 6 5 = -1 from rfl, show matE 8 true 6 6 = 1 from rfl, show matE 8 true 6 7 = 1 from rfl]
    simp
    omega
  · rw [s3 7 (by decide), if_neg (by decide), v' 3 (by decide) (by decide), v' 7 (by decide) (by decide), wr_sub]
    refine congrArg wrap64 ?_
    simp only [sumTo, show matE 8 true 7 0 = 1 from rfl, show matE 8 true 7 1 = -1 from rfl, show matE 8 true 7 2 = -1 from rfl, show matE 8 true 7 3 = 1 from rfl, show matE 8 true 7 4 = -1 from rfl, show matE 8 true 7 5 = 1 from rfl, show matE 8 true 7 6 = 1 from rfl, show matE 8 true 7 7 = -1 from rfl]
    simp
    omega
end Go.Proofs.Ytcmijednpnabmaa
