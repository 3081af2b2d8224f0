/-
  Chapters 12 and 13, the plain part: the transforms restore the square, sums and differences come to what the matrices come to, sizes and energies. No condition.
-/
import Derived.Test.YtcmijednpnabmaaMatQ
namespace Go.Proofs.Ytcmijednpnabmaa
open Go.RowKit
set_option linter.unusedVariables false

theorem fitL_of {n : Nat} {l : List Int} (hl : l.length = n * n) (h : ∀ i, i < n * n → -1000000000 ≤ l.getD i 0 ∧ l.getD i 0 ≤ 1000000000) : fitL n l = true := by
  have : l.all fitE = true := by
    rw [List.all_eq_true]
    intro x hx
    obtain ⟨i, hi, rfl⟩ := List.getElem_of_mem hx
    have := h i (by omega)
    rw [List.getD_eq_getElem?_getD, List.getElem?_eq_getElem hi] at this
    have h2 : -1000000000 ≤ l[i] ∧ l[i] ≤ 1000000000 := this
    simp [fitE, h2.1, h2.2]
  unfold fitL
  rw [this, hl]
  simp
theorem fitL_len {n : Nat} {l : List Int} (h : fitL n l = true) : l.length = n * n := by
  simp only [fitL, Bool.and_eq_true, decide_eq_true_eq] at h
  exact h.2
theorem fitL_at {n : Nat} {l : List Int} (h : fitL n l = true) (i : Nat) (hi : i < n * n) : -1000000000 ≤ l.getD i 0 ∧ l.getD i 0 ≤ 1000000000 := by
  have hl := fitL_len h
  simp only [fitL, Bool.and_eq_true, List.all_eq_true] at h
  have h2 := h.1 (l[i]'(by omega)) (List.getElem_mem _)
  rw [List.getD_eq_getElem?_getD, List.getElem?_eq_getElem (by omega)]
  simp only [fitE, Bool.and_eq_true, decide_eq_true_eq] at h2
  exact h2
theorem xfR_fit {n : Nat} (back : Bool) {l : List Int} (h : fitL n l = true) : xfR n back l = mulF n (matE n back) l := by unfold xfR; rw [if_pos h]
theorem xfR_unfit {n : Nat} (back : Bool) {l : List Int} (h : fitL n l = false) : xfR n back l = [] := by unfold xfR; rw [if_neg (by rw [h]; simp)]
/-- How great the numbers of a transform may be. -/
theorem mul_bound_four (back : Bool) {l : List Int} {B : Int} (hB : 0 ≤ B) (h : ∀ i, i < 16 → -B ≤ l.getD i 0 ∧ l.getD i 0 ≤ B) (i : Nat) (hi : i < 16) : -(64 * B) ≤ (mulF 4 (matE 4 back) l).getD i 0 ∧ (mulF 4 (matE 4 back) l).getD i 0 ≤ 64 * B := by
  obtain ⟨y, x, hy, hx, rfl⟩ : ∃ y x, y < 4 ∧ x < 4 ∧ i = y * 4 + x := ⟨i / 4, i % 4, by omega, by omega, by omega⟩
  rw [mulF_at hy hx]
  have h2 := two_bound (n := 4) (a := 2) (b := 2) (B := B) (L := matE 4 back) (R := matE 4 back) (X := sqX 4 l) (y := y) (x := x) (fun i hi => matE_four back y hy i hi) (fun i hi => matE_four back x hx i hi) (fun i k hi hk => h (i * 4 + k) (by omega)) hB
  omega
theorem mul_bound_eight (back : Bool) {l : List Int} {B : Int} (hB : 0 ≤ B) (h : ∀ i, i < 64 → -B ≤ l.getD i 0 ∧ l.getD i 0 ≤ B) (i : Nat) (hi : i < 64) : -(64 * B) ≤ (mulF 8 (matE 8 back) l).getD i 0 ∧ (mulF 8 (matE 8 back) l).getD i 0 ≤ 64 * B := by
  obtain ⟨y, x, hy, hx, rfl⟩ : ∃ y x, y < 8 ∧ x < 8 ∧ i = y * 8 + x := ⟨i / 8, i % 8, by omega, by omega, by omega⟩
  rw [mulF_at hy hx]
  have h2 := two_bound (n := 8) (a := 1) (b := 1) (B := B) (L := matE 8 back) (R := matE 8 back) (X := sqX 8 l) (y := y) (x := x) (fun i hi => matE_eight back y hy i hi) (fun i hi => matE_eight back x hx i hi) (fun i k hi hk => h (i * 8 + k) (by omega)) hB
  omega
theorem rd_four {v : Int} (h1 : -100000 < v) (h2 : v < 100000) : rdAt 16 (1600 * v) = v := by
  unfold rdAt lim
  rw [if_pos rfl]
  omega
theorem rd_eight {v : Int} (h1 : -100000 < v) (h2 : v < 100000) : rdAt 64 (64 * v) = v := by
  unfold rdAt lim
  rw [if_neg (by decide)]
  omega
theorem list_of {l m : List Int} {k : Nat} (hl : l.length = k) (hm : m.length = k) (h : ∀ i, i < k → l.getD i 0 = m.getD i 0) : l = m := by
  refine List.ext_getElem (by omega) fun q h1 h2 => ?_
  have e := h q (by omega)
  rw [List.getD_eq_getElem?_getD, List.getD_eq_getElem?_getD, List.getElem?_eq_getElem h1, List.getElem?_eq_getElem h2] at e
  exact e
/-- There and back restores the square of four. -/
theorem inv_four {l : List Int} (hl : l.length = 16) (hs : ∀ i, i < 16 → -100000 < l.getD i 0 ∧ l.getD i 0 < 100000) : fitL 4 l = true ∧ fitL 4 (nrmL (mulF 4 (matE 4 false) l)) = true ∧ rdL (mulF 4 (matE 4 true) (nrmL (mulF 4 (matE 4 false) l))) = l := by
  have hb := mul_bound_four false (l := l) (B := 99999) (by decide) fun i hi => by have := hs i hi; omega
  refine ⟨fitL_of hl fun i hi => by have := hs i hi; omega, fitL_of (nrmL_len _) fun i hi => ?_, ?_⟩
  · rw [nrmL_at _ hi]
    have h1 := hb i hi
    have h2 := nm4_range i hi
    generalize (mulF 4 (matE 4 false) l).getD i 0 = f at *
    generalize nm4 i = m at *
    have a1 : f * (m : Int) ≤ 6399936 * (m : Int) := Int.mul_le_mul_of_nonneg_right (by omega) (by omega)
    have a2 : (-6399936) * (m : Int) ≤ f * (m : Int) := Int.mul_le_mul_of_nonneg_right (by omega) (by omega)
    omega
  · have hlen : (mulF 4 (matE 4 true) (nrmL (mulF 4 (matE 4 false) l))).length = 16 := mulF_len _ _ _
    unfold rdL
    rw [if_pos (by rw [hlen]; rfl)]
    refine list_of (k := 16) (by rw [rdF_len]; exact hlen) hl fun i hi => ?_
    rw [rdF_at _ _ (by rw [hlen]; exact hi), hlen]
    obtain ⟨y, x, hy, hx, rfl⟩ : ∃ y x, y < 4 ∧ x < 4 ∧ i = y * 4 + x := ⟨i / 4, i % 4, by omega, by omega, by omega⟩
    rw [back_four hy hx]
    exact rd_four (hs _ hi).1 (hs _ hi).2
/-- There and back restores the square of eight. -/
theorem inv_eight {l : List Int} (hl : l.length = 64) (hs : ∀ i, i < 64 → -100000 < l.getD i 0 ∧ l.getD i 0 < 100000) : fitL 8 l = true ∧ fitL 8 (mulF 8 (matE 8 false) l) = true ∧ rdL (mulF 8 (matE 8 true) (mulF 8 (matE 8 false) l)) = l := by
  have hb := mul_bound_eight false (l := l) (B := 99999) (by decide) fun i hi => by have := hs i hi; omega
  refine ⟨fitL_of hl fun i hi => by have := hs i hi; omega, fitL_of (mulF_len _ _ _) fun i hi => by have := hb i hi; omega, ?_⟩
  have hlen : (mulF 8 (matE 8 true) (mulF 8 (matE 8 false) l)).length = 64 := mulF_len _ _ _
  unfold rdL
  rw [if_pos (by rw [hlen]; rfl)]
  refine list_of (k := 64) (by rw [rdF_len]; exact hlen) hl fun i hi => ?_
  rw [rdF_at _ _ (by rw [hlen]; exact hi), hlen]
  obtain ⟨y, x, hy, hx, rfl⟩ : ∃ y x, y < 8 ∧ x < 8 ∧ i = y * 8 + x := ⟨i / 8, i % 8, by omega, by omega, by omega⟩
  rw [back_eight hy hx]
  exact rd_eight (hs _ hi).1 (hs _ hi).2

/-! ### Sums and differences -/
/-- What Lift4 and Lift8 answer. -/
def liftL (n : Nat) (a : List Int) : List Int := (List.range n).map fun r => sumTo (fun i => matE n true r i * a.getD i 0) n
theorem liftL_len (n : Nat) (a : List Int) : (liftL n a).length = n := by simp [liftL]
theorem liftL_at {n r : Nat} (a : List Int) (h : r < n) : (liftL n a).getD r 0 = sumTo (fun i => matE n true r i * a.getD i 0) n := by
  rw [List.getD_eq_getElem?_getD, liftL, List.getElem?_map, List.getElem?_range h]; rfl
theorem lift_four (a : List Int) : liftL 4 a = [a.getD 0 0 + a.getD 2 0 + (2 * a.getD 1 0 + a.getD 3 0), a.getD 0 0 - a.getD 2 0 + (a.getD 1 0 - 2 * a.getD 3 0), a.getD 0 0 - a.getD 2 0 - (a.getD 1 0 - 2 * a.getD 3 0), a.getD 0 0 + a.getD 2 0 - (2 * a.getD 1 0 + a.getD 3 0)] := by
  generalize h0 : a.getD 0 0 = a0
  generalize h1 : a.getD 1 0 = a1
  generalize h2 : a.getD 2 0 = a2
  generalize h3 : a.getD 3 0 = a3
  simp only [liftL, show List.range 4 = [0, 1, 2, 3] from rfl, List.map_cons, List.map_nil, sumTo, h0, h1, h2, h3]
  simp only [show matE 4 true 0 0 = 1 from rfl, show matE 4 true 0 1 = 2 from rfl, show matE 4 true 0 2 = 1 from rfl, show matE 4 true 0 3 = 1 from rfl, show matE 4 true 1 0 = 1 from rfl, show matE 4 true 1 1 = 1 from rfl, show matE 4 true 1 2 = -1 from rfl, show matE 4 true 1 3 = -2 from rfl, show matE 4 true 2 0 = 1 from rfl, show matE 4 true 2 1 = -1 from rfl, show matE 4 true 2 2 = -1 from rfl, show matE 4 true 2 3 = 2 from rfl, show matE 4 true 3 0 = 1 from rfl, show matE 4 true 3 1 = -2 from rfl, show matE 4 true 3 2 = 1 from rfl, show matE 4 true 3 3 = -1 from rfl]
  refine List.cons_eq_cons.2 ⟨by omega, List.cons_eq_cons.2 ⟨by omega, List.cons_eq_cons.2 ⟨by omega, List.cons_eq_cons.2 ⟨by omega, rfl⟩⟩⟩⟩
/-- What Columns answers. -/
def colL (n : Nat) (l : List Int) : List Int := (List.range (n * n)).map fun p => l.getD (p % n * n + p / n) 0
theorem colL_len (n : Nat) (l : List Int) : (colL n l).length = n * n := by simp [colL]
theorem divmod_two {n a b : Nat} (hb : b < n) : (a * n + b) / n = a ∧ (a * n + b) % n = b :=
  ⟨by rw [Nat.add_comm, Nat.add_mul_div_right _ _ (by omega), Nat.div_eq_of_lt hb, Nat.zero_add], by rw [Nat.add_comm, Nat.add_mul_mod_self_right, Nat.mod_eq_of_lt hb]⟩
theorem colL_at {n y x : Nat} (l : List Int) (hy : y < n) (hx : x < n) : (colL n l).getD (y * n + x) 0 = l.getD (x * n + y) 0 := by
  rw [List.getD_eq_getElem?_getD, colL, List.getElem?_map, List.getElem?_range (place_lt hy hx)]
  simp only [Option.map_some, Option.getD_some, (divmod_two hx).1, (divmod_two hx).2]
/-- The columns of the columns are the rows. -/
theorem col_col {n : Nat} {l : List Int} (hl : l.length = n * n) : colL n (colL n l) = l :=
  sq_ext (colL_len _ _) hl fun y x hy hx => by rw [colL_at _ hy hx, colL_at _ hx hy]
/-- Each row lifted. -/
def rowsL (n : Nat) (l : List Int) : List Int := (List.range (n * n)).map fun p => sumTo (fun i => matE n true (p % n) i * l.getD (p / n * n + i) 0) n
theorem rowsL_len (n : Nat) (l : List Int) : (rowsL n l).length = n * n := by simp [rowsL]
theorem rowsL_at {n y x : Nat} (l : List Int) (hy : y < n) (hx : x < n) : (rowsL n l).getD (y * n + x) 0 = sumTo (fun i => matE n true x i * l.getD (y * n + i) 0) n := by
  rw [List.getD_eq_getElem?_getD, rowsL, List.getElem?_map, List.getElem?_range (place_lt hy hx)]
  simp only [Option.map_some, Option.getD_some, (divmod_two hx).1, (divmod_two hx).2]
/-- Sums and differences by rows and by columns come to the product of the matrices. -/
theorem fast_mul (n : Nat) (l : List Int) : colL n (rowsL n (colL n (rowsL n l))) = mulF n (matE n true) l := by
  refine sq_ext (colL_len _ _) (mulF_len _ _ _) fun y x hy hx => ?_
  rw [colL_at _ hy hx, rowsL_at _ hx hy, mulF_at hy hx]
  have e1 : sumTo (fun k => matE n true y k * (colL n (rowsL n l)).getD (x * n + k) 0) n = sumTo (fun k => matE n true y k * sumTo (fun i => matE n true x i * l.getD (k * n + i) 0) n) n :=
    sumTo_congr n fun k hk => by rw [colL_at _ hx hk, rowsL_at _ hk hx]
  rw [e1]
  have e2 := sum_swap n (matE n true y) (matE n true x) (fun k b => sqX n l b k)
  unfold two
  exact e2.symm
theorem had_sym : ∀ r, r < 8 → ∀ c, c < 8 → matE 8 true r c = matE 8 false r c := by decide
theorem mul_sym (l : List Int) : mulF 8 (matE 8 true) l = mulF 8 (matE 8 false) l :=
  sq_ext (mulF_len _ _ _) (mulF_len _ _ _) fun y x hy hx => by
    rw [mulF_at hy hx, mulF_at hy hx]
    exact two_congr (fun i hi => had_sym y hy i hi) (fun i hi => had_sym x hx i hi) fun _ _ _ _ => rfl
/-- Lifted twice: eight times what it was. -/
theorem lift_lift {a : List Int} (ha : a.length = 8) {r : Nat} (hr : r < 8) : (liftL 8 (liftL 8 a)).getD r 0 = 8 * a.getD r 0 := by
  rw [liftL_at _ hr]
  have e1 : sumTo (fun i => matE 8 true r i * (liftL 8 a).getD i 0) 8 = sumTo (fun i => sumTo (fun j => matE 8 true r i * (matE 8 true i j * a.getD j 0)) 8) 8 :=
    sumTo_congr 8 fun i hi => by rw [liftL_at _ hi, sumTo_mul]
  rw [e1, sumTo_comm (fun i j => matE 8 true r i * (matE 8 true i j * a.getD j 0)) 8 8]
  have e2 : sumTo (fun j => sumTo (fun i => matE 8 true r i * (matE 8 true i j * a.getD j 0)) 8) 8 = sumTo (fun j => (if j = r then 8 else 0) * a.getD j 0) 8 :=
    sumTo_congr 8 fun j hj => by
      rw [← had_had r hr j hj]
      unfold dot
      rw [← sumTo_mul_right]
      exact sumTo_congr 8 fun i hi => by rw [Int.mul_assoc, had_sym i hi j hj]
  rw [e2, sumTo_one, if_pos hr]
end Go.Proofs.Ytcmijednpnabmaa
