/-
  Contracts of LevelsOk, PairsOf and LevelsFrom, in both texts. Condition: the lists are no longer than 1048576 (the laws ask no more).
-/
import Derived.Test.YtemfiglflbfocaaScanC
import Derived.Test.YtemfiglflbfocaaPair
namespace Go.Proofs.Ytemfiglflbfocaa
open Go.RowKit
set_option linter.unusedVariables false

/-! ### The plain part -/
def inV (x : Int) : Bool := decide (-16383 ≤ x) && decide (x ≤ 16383)
def sizeV (n : Nat) : Bool := decide (n = 16) || decide (n = 64)
def okV (l : List Int) : Bool := l.all inV && sizeV l.length
/-- One level more: the pairs so far, and the zeros behind the last one. -/
def stP (s : EntL × Nat) (x : Int) : EntL × Nat := if x = 0 then (s.1, s.2 + 1) else (s.1 ++ [((s.2 : Int), x)], 0)
def prT (l : List Int) : EntL × Nat := l.foldl stP ([], 0)
theorem prT_snoc (l : List Int) (x : Int) : prT (l ++ [x]) = stP (prT l) x := by simp [prT, List.foldl_append]
theorem stP_zero (s : EntL × Nat) : stP s 0 = (s.1, s.2 + 1) := by simp [stP]
theorem stP_other (s : EntL × Nat) (x : Int) (h : x ≠ 0) : stP s x = (s.1 ++ [((s.2 : Int), x)], 0) := by simp [stP, h]
theorem stP_le (s : EntL × Nat) (x : Int) : (stP s x).1.length ≤ s.1.length + 1 ∧ (stP s x).2 ≤ s.2 + 1 := by
  by_cases h : x = 0
  · subst h; rw [stP_zero]; simp only; omega
  · rw [stP_other _ _ h]; simp only [List.length_append, List.length_singleton]; omega
theorem prF_le : ∀ (l : List Int) (s : EntL × Nat), (l.foldl stP s).1.length ≤ s.1.length + l.length ∧ (l.foldl stP s).2 ≤ s.2 + l.length
  | [], s => by simp
  | x :: l, s => by
    have h1 := stP_le s x
    have h2 := prF_le l (stP s x)
    rw [List.foldl_cons, List.length_cons]
    omega
theorem prT_le (l : List Int) : (prT l).1.length ≤ l.length ∧ (prT l).2 ≤ l.length := by
  have h := prF_le l ([], 0)
  simpa [prT] using h
/-- What PairsOf answers. -/
def prR (l : List Int) : EntL := if okV l then (prT l).1 else []
theorem okV_len {l : List Int} (h : okV l = true) : l.length = 16 ∨ l.length = 64 := by
  simp [okV, sizeV] at h
  omega
theorem prR_len (l : List Int) : (prR l).length ≤ 64 := by
  unfold prR
  split
  · rename_i h
    have := okV_len h
    have := (prT_le l).1
    omega
  · simp

/-- A pair fits where so many levels are left. -/
def fitV (p : Int × Int) (left : Int) : Bool := decide (0 ≤ p.1) && decide (p.1 < left) && decide (p.2 ≠ 0) && inV p.2
/-- One pair more: the levels, and how many are set. -/
def stL (n : Nat) (s : List Int × Nat) (p : Int × Int) : Option (List Int × Nat) :=
  if fitV p ((n : Int) - (s.2 : Int)) then some (s.1.set (s.2 + p.1.toNat) p.2, s.2 + p.1.toNat + 1) else none
def lfT (n : Nat) (p : EntL) : Nat → Option (List Int × Nat)
  | 0 => some (List.replicate n 0, 0)
  | j + 1 => (lfT n p j).bind fun s => stL n s (entAt p j)
theorem lfT_none {n : Nat} {p : EntL} {j : Nat} (h : lfT n p j = none) : ∀ k, lfT n p (j + k) = none
  | 0 => h
  | k + 1 => by rw [← Nat.add_assoc, lfT, lfT_none h k]; rfl
theorem lfT_len {n : Nat} {p : EntL} : ∀ (j : Nat) (s : List Int × Nat), lfT n p j = some s → s.1.length = n ∧ s.2 ≤ n
  | 0, s, h => by
    rw [lfT] at h
    obtain rfl := Option.some.inj h
    simp
  | j + 1, s, h => by
    rw [lfT] at h
    cases h0 : lfT n p j with
    | none => rw [h0] at h; exact absurd h (by simp)
    | some s0 =>
      rw [h0] at h
      have ih := lfT_len j s0 h0
      have h1 : stL n s0 (entAt p j) = some s := h
      unfold stL at h1
      split at h1
      · rename_i hf
        obtain rfl := Option.some.inj h1
        simp [fitV] at hf
        refine ⟨by simpa using ih.1, ?_⟩
        simp only
        omega
      · exact absurd h1 (by simp)
/-- What LevelsFrom answers. -/
def lfO (p : EntL) (n : Int) : Option (List Int × Nat) := if n = 16 ∨ n = 64 then lfT n.toNat p p.length else none
def lfR (p : EntL) (n : Int) : List Int := match lfO p n with
  | some s => s.1
  | none => []
def lfE (p : EntL) (n : Int) : Int := match lfO p n with
  | some _ => 0
  | none => 5
theorem lfR_len (p : EntL) (n : Int) : (lfR p n).length ≤ 64 := by
  unfold lfR lfO
  split
  · rename_i s hs
    split at hs
    · rename_i hn
      have := (lfT_len _ _ hs).1
      rcases hn with rfl | rfl <;> simp at this <;> omega
    · exact absurd hs (by simp)
  · simp

/-! ### LevelsOk -/
theorem l1in_lev (x : Int) (w : World) :
    Calls Try.prog 63 #[.int .i64 x, .int .i64 (-16383), .int .i64 16383] w fun e w' => e = .returned (.bool (inV x)) ∧ w = w' := by
  by_cases h : -16383 ≤ x ∧ x ≤ 16383
  · rw [show inV x = true by simp [inV, h]]
    exact l1in_t _ _ _ h.1 h.2 w
  · rw [show inV x = false by simp [inV]; omega]
    exact l1in_f _ _ _ (by omega) w
theorem okV_snoc {l : List Int} {j : Nat} (h : ∀ t, t < j → inV (l.getD t 0) = true) (h1 : inV (l.getD j 0) = true) : ∀ t, t < j + 1 → inV (l.getD t 0) = true := by
  intro t ht
  by_cases e : t = j
  · subst e; exact h1
  · exact h t (by omega)
theorem okV_all {l : List Int} (h : ∀ t, t < l.length → inV (l.getD t 0) = true) : okV l = sizeV l.length := by
  have : l.all inV = true := by
    rw [List.all_eq_true]
    intro x hx
    obtain ⟨i, hi, rfl⟩ := List.getElem_of_mem hx
    have := h i hi
    rw [List.getD_eq_getElem?_getD, List.getElem?_eq_getElem hi] at this
    exact this
  unfold okV
  rw [this, Bool.true_and]
theorem okV_no {l : List Int} {j : Nat} (hj : j < l.length) (h : inV (l.getD j 0) = false) : okV l = false := by
  have : l.all inV = false := by
    rw [List.all_eq_false]
    refine ⟨l[j], List.getElem_mem hj, ?_⟩
    rw [List.getD_eq_getElem?_getD, List.getElem?_eq_getElem hj] at h
    have h : inV l[j] = false := h
    rw [h]; simp
  unfold okV
  rw [this, Bool.false_and]
theorem okV_at {l : List Int} (h : okV l = true) (j : Nat) (hj : j < l.length) : inV (l.getD j 0) = true := by
  simp only [okV, Bool.and_eq_true, List.all_eq_true] at h
  rw [List.getD_eq_getElem?_getD, List.getElem?_eq_getElem hj]
  exact h.1 _ (List.getElem_mem hj)
theorem size_side (n : Nat) : (sideN n != 0) = sizeV n ∧ decide (0 < sideN n) = sizeV n := by
  unfold sideN sizeV
  by_cases h : n = 16
  · subst h; decide
  · by_cases h2 : n = 64
    · subst h2; decide
    · simp [h, h2]

end Go.Proofs.Ytemfiglflbfocaa
