/-
  Chapter 13, the plain part of rows and columns: what Columns answers, rows lifted one after the other, how great the numbers become. No condition.
-/
import Derived.Test.YtcmijednpnabmaaLiftP
namespace Go.Proofs.Ytcmijednpnabmaa
open Go.RowKit
set_option linter.unusedVariables false

/-- What Columns answers. -/
def clR (l : List Int) : List Int := if l.length = 16 then colL 4 l else if l.length = 64 then colL 8 l else []
theorem clR_four {l : List Int} (h : l.length = 16) : clR l = colL 4 l := by unfold clR; rw [if_pos h]
theorem clR_eight {l : List Int} (h : l.length = 64) : clR l = colL 8 l := by unfold clR; rw [if_neg (by omega), if_pos h]
theorem clR_no {l : List Int} (h1 : l.length ≠ 16) (h2 : l.length ≠ 64) : clR l = [] := by unfold clR; rw [if_neg h1, if_neg h2]
theorem clR_len (l : List Int) : (clR l).length ≤ 64 := by
  unfold clR
  split
  · rw [colL_len]; omega
  · split
    · rw [colL_len]; omega
    · simp
theorem clR_clR {l : List Int} (h : l.length = 16 ∨ l.length = 64) : clR (clR l) = l := by
  rcases h with h | h
  · rw [clR_four h, clR_four (colL_len 4 l), col_col h]
  · rw [clR_eight h, clR_eight (colL_len 8 l), col_col h]
theorem colL_next {n : Nat} (l : List Int) {y x : Nat} (hy : y < n) (hx : x < n) : (colL n l).take (y * n + (x + 1)) = (colL n l).take (y * n + x) ++ [l.getD (x * n + y) 0] := by
  have := place_lt hy hx
  rw [← Nat.add_assoc, take_snoc_q _ _ (by rw [colL_len]; exact this), colL_at l hy hx]
/-- A row of a square. -/
def rowV (n : Nat) (l : List Int) (y : Nat) : List Int := (l.drop (y * n)).take n
theorem row_fits {n y : Nat} (hy : y < n) : y * n + n ≤ n * n := by
  have h1 : (y + 1) * n ≤ n * n := Nat.mul_le_mul_right n hy
  rw [Nat.add_mul, Nat.one_mul] at h1
  exact h1
theorem rowV_len {n : Nat} {l : List Int} {y : Nat} (hl : l.length = n * n) (hy : y < n) : (rowV n l y).length = n := by
  have := row_fits hy
  rw [rowV, List.length_take, List.length_drop]
  omega
theorem rowV_at {n : Nat} {l : List Int} {y i : Nat} (hi : i < n) : (rowV n l y).getD i 0 = l.getD (y * n + i) 0 := by
  simp only [rowV, List.getD_eq_getElem?_getD, List.getElem?_take, if_pos hi, List.getElem?_drop]
/-- How great a lifted number may be. -/
theorem lift_bound {n : Nat} (hn : n = 4 ∨ n = 8) {a : List Int} {B : Int} (hB : 0 ≤ B) (h : ∀ i, i < n → -B ≤ a.getD i 0 ∧ a.getD i 0 ≤ B) {r : Nat} (hr : r < n) : -(16 * B) ≤ (liftL n a).getD r 0 ∧ (liftL n a).getD r 0 ≤ 16 * B := by
  rw [liftL_at _ hr]
  have h1 := accl_small (n := n) (g := fun i => matE n true r i * a.getD i 0) (B := 2 * B) (by omega) (fun k hk => by
    have hm := matL_bound n true hn r k hr hk
    have hv := h k hk
    exact times_two hm.1 hm.2.1 hv.1 hv.2) (by omega) (Nat.le_refl n)
  have h2 : 8 * (2 * B) = 16 * B := by omega
  rw [h2] at h1
  exact h1
theorem rows_bound {n : Nat} (hn : n = 4 ∨ n = 8) {l : List Int} {B : Int} (hB : 0 ≤ B) (h : ∀ i, i < n * n → -B ≤ l.getD i 0 ∧ l.getD i 0 ≤ B) (i : Nat) (hi : i < n * n) : -(16 * B) ≤ (rowsL n l).getD i 0 ∧ (rowsL n l).getD i 0 ≤ 16 * B := by
  have hn0 : 0 < n := by omega
  have hy : i / n < n := (Nat.div_lt_iff_lt_mul hn0).2 hi
  have hx : i % n < n := Nat.mod_lt _ hn0
  have e := rowsL_at l hy hx
  rw [Nat.div_add_mod'] at e
  rw [e]
  have h3 := lift_bound hn hB (a := rowV n l (i / n)) (fun k hk => by rw [rowV_at hk]; exact h _ (place_lt hy hk)) hx
  rw [liftL_at _ hx] at h3
  have e2 : sumTo (fun j => matE n true (i % n) j * (rowV n l (i / n)).getD j 0) n = sumTo (fun j => matE n true (i % n) j * l.getD (i / n * n + j) 0) n := sumTo_congr n fun j hj => by rw [rowV_at hj]
  rw [e2] at h3
  exact h3
theorem cols_bound {n : Nat} {l : List Int} {B : Int} (h : ∀ i, i < n * n → -B ≤ l.getD i 0 ∧ l.getD i 0 ≤ B) (i : Nat) (hi : i < n * n) : -B ≤ (colL n l).getD i 0 ∧ (colL n l).getD i 0 ≤ B := by
  have hn0 : 0 < n := by
    rcases Nat.eq_zero_or_pos n with rfl | h
    · simp at hi
    · exact h
  have hy : i / n < n := (Nat.div_lt_iff_lt_mul hn0).2 hi
  have hx : i % n < n := Nat.mod_lt _ hn0
  have e := colL_at l hy hx
  rw [Nat.div_add_mod'] at e
  rw [e]
  exact h _ (place_lt hx hy)
theorem liR_small {n : Nat} (hn : n = 4 ∨ n = 8) {a : List Int} (ha : a.length = n) (h : ∀ i, i < n → -20000000000 ≤ a.getD i 0 ∧ a.getD i 0 ≤ 20000000000) : liR n a = liftL n a := by
  rw [liR_yes ha]
  refine list_of (k := n) (by rw [List.length_map, liftL_len]) (liftL_len _ _) fun i hi => ?_
  have h1 := lift_bound hn (B := 20000000000) (by decide) h hi
  rw [List.getD_eq_getElem?_getD] at h1
  rw [List.getD_eq_getElem?_getD, List.getElem?_map, List.getD_eq_getElem?_getD]
  rw [List.getElem?_eq_getElem (by rw [liftL_len]; exact hi)] at h1 ⊢
  simp only [Option.getD_some, Option.map_some] at h1 ⊢
  exact wr_id (by omega)
theorem rows_next {n : Nat} (hn : n = 4 ∨ n = 8) {l : List Int} (hl : l.length = n * n) (h : ∀ i, i < n * n → -20000000000 ≤ l.getD i 0 ∧ l.getD i 0 ≤ 20000000000) {y : Nat} (hy : y < n) : (rowsL n l).take (y * n + n) = (rowsL n l).take (y * n) ++ liR n (rowV n l y) := by
  rw [liR_small hn (rowV_len hl hy) (fun i hi => by rw [rowV_at hi]; exact h _ (place_lt hy hi)), List.take_add]
  refine congrArg _ (list_of (k := n) ?_ (liftL_len _ _) fun i hi => ?_)
  · have := row_fits hy
    rw [List.length_take, List.length_drop, rowsL_len]
    omega
  · have e : (((rowsL n l).drop (y * n)).take n).getD i 0 = (rowsL n l).getD (y * n + i) 0 := by
      simp only [List.getD_eq_getElem?_getD, List.getElem?_take, if_pos hi, List.getElem?_drop]
    rw [e, rowsL_at l hy hi, liftL_at _ hi]
    exact sumTo_congr n fun j hj => by rw [rowV_at hj]
theorem fast_fit {n : Nat} {l : List Int} (h : fitL n l = true) : colL n (rowsL n (colL n (rowsL n l))) = xfR n true l := by rw [fast_mul, xfR_fit true h]
/-- What is read of a row of a slice. -/
theorem ints_row {w : World} {g b off n : Nat} {l : List Int} {y : Nat} (hn : n ≤ 1000) (hl : l.length = n * n) (hy : y < n) (hb : b < g) (hc : ∀ j, j < l.length → w.cell? ⟨b, off + j, none⟩ = some (.int .i64 (l.getD j 0))) : Ints w g (some ⟨b, off + y * n, none⟩) (rowV n l y) := by
  have hf := row_fits hy
  refine ⟨by rw [rowV_len hl hy]; omega, .inr ⟨b, off + y * n, rfl, hb, fun j hj => ?_⟩⟩
  rw [rowV_len hl hy] at hj
  rw [Nat.add_assoc, hc (y * n + j) (by omega), rowV_at hj]
end Go.Proofs.Ytcmijednpnabmaa
