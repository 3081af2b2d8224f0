/-
  Contracts of StepOf and NormAt in both texts, and of the small functions beside them. Condition: the package's table of steps reads as its text lays it.
-/
import Derived.Test.YtjgbenhjafgimaaRunA
import Derived.IntWalk
namespace Go.Proofs.Ytjgbenhjafgimaa
open Go.RowKit
set_option linter.unusedVariables false

/-! ### The plain part -/
def stK (k : Nat) : Nat := [8, 9, 10, 11, 13, 14].getD (k % 6) 0 * 2 ^ (k / 6) / 8
/-- What StepOf answers. -/
def stV (q : Int) : Int := if 0 ≤ q ∧ q ≤ 51 then (stK q.toNat : Int) else 0
theorem stK_range : ∀ k, k < 52 → 1 ≤ stK k ∧ stK k ≤ 352 := by decide
theorem stK_mono : ∀ k, k < 51 → stK k ≤ stK (k + 1) := by decide
theorem stV_in {k : Nat} (hk : k < 52) : stV (k : Int) = (stK k : Int) := by
  unfold stV
  rw [if_pos (by omega), Int.toNat_natCast]
theorem stV_out {q : Int} (h : ¬ (0 ≤ q ∧ q ≤ 51)) : stV q = 0 := by
  unfold stV
  rw [if_neg h]
theorem stV_range (q : Int) : 0 ≤ stV q ∧ stV q ≤ 352 := by
  by_cases h : 0 ≤ q ∧ q ≤ 51
  · obtain ⟨k, rfl⟩ := Int.eq_ofNat_of_zero_le h.1
    rw [stV_in (by omega)]
    have := stK_range k (by omega)
    omega
  · rw [stV_out h]; omega
def nm4 (k : Nat) : Nat := [100, 40, 16].getD (k / 4 % 2 + k % 4 % 2) 0
/-- What NormAt answers. -/
def nmV (n i : Int) : Int := if n = 8 then (if 0 ≤ i ∧ i ≤ 63 then 1 else 0) else if n = 4 then (if 0 ≤ i ∧ i ≤ 15 then (nm4 i.toNat : Int) else 0) else 0
theorem nm4_range : ∀ k, k < 16 → 16 ≤ nm4 k ∧ nm4 k ≤ 100 := by decide
theorem nmV_eight {i : Nat} (h : i < 64) : nmV 8 (i : Int) = 1 := by
  unfold nmV
  rw [if_pos rfl, if_pos (by omega)]
theorem nmV_four {i : Nat} (h : i < 16) : nmV 4 (i : Int) = (nm4 i : Int) := by
  unfold nmV
  rw [if_neg (by decide), if_pos rfl, if_pos (by omega), Int.toNat_natCast]
theorem nmV_range (n i : Int) : 0 ≤ nmV n i ∧ nmV n i ≤ 100 := by
  unfold nmV
  split
  · split <;> omega
  · split
    · split
      · rename_i h
        have := nm4_range i.toNat (by omega)
        omega
      · omega
    · omega
theorem nmV_pos {n i : Nat} (h : n = 16 ∨ n = 64) (hi : i < n) : 1 ≤ nmV (sideN n) (i : Int) := by
  rcases h with rfl | rfl
  · rw [show sideN 16 = 4 by rfl, nmV_four hi]
    have := nm4_range i hi
    omega
  · rw [show sideN 64 = 8 by rfl, nmV_eight hi]; omega
/-- What Scaled answers at a place, and as a whole. -/
def scAt (l : List Int) (q : Int) (i : Nat) : Int := l.getD i 0 * stV q * nmV (sideN l.length) (i : Int)
def scF (l : List Int) (q : Int) : List Int := (List.range l.length).map fun i => scAt l q i
def scV (l : List Int) (q : Int) : List Int := if okV l = true ∧ stV q ≠ 0 then scF l q else []
theorem scV_len (l : List Int) (q : Int) : (scV l q).length ≤ 64 := by
  unfold scV
  split
  · rename_i h
    have := okV_len h.1
    simp only [scF, List.length_map, List.length_range]
    omega
  · simp
theorem scF_len (l : List Int) (q : Int) : (scF l q).length = l.length := by simp [scF]
theorem scF_at (l : List Int) (q : Int) (i : Nat) (h : i < l.length) : (scF l q).getD i 0 = scAt l q i := by
  rw [List.getD_eq_getElem?_getD, scF, List.getElem?_map, List.getElem?_range h]
  rfl
theorem take_snoc_q (l : List Int) (j : Nat) (h : j < l.length) : l.take (j + 1) = l.take j ++ [l.getD j 0] := by
  rw [List.take_add_one, List.getElem?_eq_getElem h, List.getD_eq_getElem?_getD, List.getElem?_eq_getElem h]
  rfl
theorem inV_range {x : Int} (h : inV x = true) : -16383 ≤ x ∧ x ≤ 16383 := by simpa [inV] using h
theorem scAt_range {l : List Int} {q : Int} {i : Nat} (hx : inV (l.getD i 0) = true) : -600000000 ≤ scAt l q i ∧ scAt l q i ≤ 600000000 ∧ -6000000 ≤ l.getD i 0 * stV q ∧ l.getD i 0 * stV q ≤ 6000000 := by
  have h1 := inV_range hx
  have h2 := stV_range q
  have h3 := nmV_range (sideN l.length) (i : Int)
  unfold scAt
  generalize l.getD i 0 = x at *
  generalize stV q = s at *
  generalize nmV (sideN l.length) (i : Int) = m at *
  have a1 : x * s ≤ 16383 * s := Int.mul_le_mul_of_nonneg_right h1.2 h2.1
  have a2 : (-16383) * s ≤ x * s := Int.mul_le_mul_of_nonneg_right h1.1 h2.1
  have a3 : x * s ≤ 6000000 := by omega
  have a4 : -6000000 ≤ x * s := by omega
  have b1 : x * s * m ≤ 6000000 * m := Int.mul_le_mul_of_nonneg_right a3 h3.1
  have b2 : (-6000000) * m ≤ x * s * m := Int.mul_le_mul_of_nonneg_right a4 h3.1
  omega
/-- The nearest number from -m to m. -/
def lim (m v : Int) : Int := max (-m) (min m v)
theorem lim_range {m v : Int} (h : 0 ≤ m) : -m ≤ lim m v ∧ lim m v ≤ m := by unfold lim; omega
/-- A number divided by a step, to the nearest, away from zero in the middle. -/
def nearV (v s : Int) : Int := if v < 0 then -((-v * 2 + s) / (2 * s)) else (v * 2 + s) / (2 * s)
def quAt (q v : Int) : Int := lim 16383 (nearV (lim 1000000 v) (stV q))
def quF (l : List Int) (q : Int) : List Int := l.map (quAt q)
/-- What Quantized answers. -/
def quV (l : List Int) (q : Int) : List Int := if sizeV l.length = true ∧ stV q ≠ 0 then quF l q else []
theorem sizeV_len {n : Nat} (h : sizeV n = true) : n = 16 ∨ n = 64 := by
  simp [sizeV] at h
  omega
theorem quV_len (l : List Int) (q : Int) : (quV l q).length ≤ 64 := by
  unfold quV
  split
  · rename_i h
    have := sizeV_len h.1
    simp only [quF, List.length_map]
    omega
  · simp
theorem quF_len (l : List Int) (q : Int) : (quF l q).length = l.length := by simp [quF]
theorem quF_at (l : List Int) (q : Int) (i : Nat) (h : i < l.length) : (quF l q).getD i 0 = quAt q (l.getD i 0) := by
  rw [List.getD_eq_getElem?_getD, List.getD_eq_getElem?_getD, quF, List.getElem?_map, List.getElem?_eq_getElem h]
  rfl
/-- The program's rounding is the model's. -/
theorem near_half (v s : Int) (hs : 0 < s) : (v * 2 + s) / (2 * s) = (v + s / 2) / s := by
  rw [← Int.ediv_ediv_of_nonneg (by omega) , show (v * 2 + s) / 2 = v + s / 2 by omega]
theorem near_impl_pos {v s : Int} (hs : 0 < s) (hv : 0 ≤ v) : nearV v s = (v + s / 2) / s := by
  unfold nearV
  rw [if_neg (by omega), near_half v s hs]
theorem near_impl_neg {v s : Int} (hs : 0 < s) (hv : v < 0) : nearV v s = (v - s / 2).tdiv s := by
  unfold nearV
  rw [if_pos hv, near_half (-v) s hs, show v - s / 2 = -(-v + s / 2) by omega, Int.neg_tdiv, Int.tdiv_eq_ediv_of_nonneg (by omega)]
theorem near_range {v s : Int} (hs : 0 < s) (h1 : -1000000 ≤ v) (h2 : v ≤ 1000000) : -1000001 ≤ nearV v s ∧ nearV v s ≤ 1000001 := by
  have key : ∀ x : Int, 0 ≤ x → x ≤ 1000000 → 0 ≤ (x * 2 + s) / (2 * s) ∧ (x * 2 + s) / (2 * s) ≤ 1000001 := by
    intro x hx hx2
    refine ⟨Int.ediv_nonneg (by omega) (by omega), ?_⟩
    have h3 : (x * 2 + s) / (2 * s) < 1000002 := Int.ediv_lt_of_lt_mul (by omega) (by
      have : 1000002 * 2 * 1 ≤ 1000002 * 2 * s := Int.mul_le_mul_of_nonneg_left (by omega) (by omega)
      have e : 1000002 * (2 * s) = 1000002 * 2 * s := by rw [Int.mul_assoc]
      omega)
    omega
  unfold nearV
  split
  · have := key (-v) (by omega) (by omega); omega
  · have := key v (by omega) (by omega); omega

/-! ### The table of steps -/
theorem step_wrap (x d : Nat) (hx : x ≤ 14) (hd : d ≤ 8) : wrap64 ((wrap64 ((x : Int) * 2 ^ d)).tdiv 8) = ((x * 2 ^ d / 8 : Nat) : Int) := by
  have h2 : 2 ^ d ≤ 2 ^ 8 := Nat.pow_le_pow_right (by decide) hd
  obtain ⟨y, hy⟩ : ∃ y : Nat, y = x * 2 ^ d := ⟨_, rfl⟩
  have hy2 : y ≤ 14 * 256 := by rw [hy]; exact Nat.mul_le_mul hx h2
  have e : (x : Int) * 2 ^ d = (y : Int) := by rw [hy]; push_cast; rfl
  have w1 : ∀ z : Nat, z ≤ 4000 → wrap64 (z : Int) = (z : Int) := fun z hz => by unfold wrap64; omega
  rw [e, ← hy, w1 y (by omega), Int.tdiv_eq_ediv_of_nonneg (by omega), show (y : Int) / 8 = ((y / 8 : Nat) : Int) by omega]
  exact w1 _ (by omega)

end Go.Proofs.Ytjgbenhjafgimaa
