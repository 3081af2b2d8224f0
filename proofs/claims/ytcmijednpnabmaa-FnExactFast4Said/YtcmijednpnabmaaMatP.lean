/-
  Chapter 12, the plain part: sums, squares that are summed up place by place, the matrices, what the transforms and the rounding answer. No condition.
-/
import Derived.Test.YtcmijednpnabmaaQuantA
namespace Go.Proofs.Ytcmijednpnabmaa
open Go.RowKit
set_option linter.unusedVariables false

/-! ### Sums -/
/-- The sum of the first terms. -/
def sumTo (f : Nat → Int) : Nat → Int
  | 0 => 0
  | k + 1 => sumTo f k + f k
theorem sumTo_bound {f : Nat → Int} {B : Int} : ∀ (n : Nat), (∀ k, k < n → -B ≤ f k ∧ f k ≤ B) → -((n : Int) * B) ≤ sumTo f n ∧ sumTo f n ≤ (n : Int) * B
  | 0, _ => by simp [sumTo]
  | n + 1, h => by
    have ih := sumTo_bound n fun k hk => h k (by omega)
    have h1 := h n (by omega)
    rw [sumTo, show (((n + 1 : Nat) : Int) * B) = (n : Int) * B + B by push_cast; rw [Int.add_mul, Int.one_mul]]
    omega
theorem sumTo_congr {f g : Nat → Int} : ∀ (n : Nat), (∀ k, k < n → f k = g k) → sumTo f n = sumTo g n
  | 0, _ => rfl
  | n + 1, h => by rw [sumTo, sumTo, sumTo_congr n fun k hk => h k (by omega), h n (by omega)]
/-- A place of a square, by its row and its column. -/
theorem place_two {n a b y k : Nat} (hb : b < n) (hk : k < n) (h : a * n + b = y * n + k) : a = y ∧ b = k := by
  have h1 : (a * n + b) / n = a := by rw [Nat.add_comm, Nat.add_mul_div_right _ _ (by omega), Nat.div_eq_of_lt hb, Nat.zero_add]
  have h2 : (y * n + k) / n = y := by rw [Nat.add_comm, Nat.add_mul_div_right _ _ (by omega), Nat.div_eq_of_lt hk, Nat.zero_add]
  have e : a = y := by rw [← h1, h, h2]
  subst e
  exact ⟨rfl, by omega⟩
theorem place_lt {n a b : Nat} (ha : a < n) (hb : b < n) : a * n + b < n * n := by
  have h1 : (a + 1) * n ≤ n * n := Nat.mul_le_mul_right n ha
  rw [Nat.add_mul, Nat.one_mul] at h1
  omega
/-- A square that is summed up place by place: where it stands at row y, column k, term i. -/
def Acc (n : Nat) (F : Nat → Nat → Nat → Int) (p : List Int) (y k i : Nat) : Prop :=
  p.length = n * n ∧ ∀ a b, a < n → b < n → p.getD (a * n + b) 0 = if a < y ∨ (a = y ∧ b < k) then sumTo (F a b) n else if a = y ∧ b = k then sumTo (F a b) i else 0
theorem acc_start (n : Nat) (F : Nat → Nat → Nat → Int) : Acc n F (List.replicate (n * n) 0) 0 0 0 := by
  refine ⟨List.length_replicate, fun a b ha hb => ?_⟩
  have e : (List.replicate (n * n) (0 : Int)).getD (a * n + b) 0 = 0 := by rw [List.getD_eq_getElem?_getD, List.getElem?_replicate, if_pos (place_lt ha hb)]; rfl
  rw [e, if_neg (by omega)]
  split <;> rfl
theorem acc_at {n : Nat} {F : Nat → Nat → Nat → Int} {p : List Int} {y k i : Nat} (h : Acc n F p y k i) (hy : y < n) (hk : k < n) : p.getD (y * n + k) 0 = sumTo (F y k) i := by
  rw [h.2 y k hy hk, if_neg (by omega), if_pos ⟨rfl, rfl⟩]
theorem acc_step {n : Nat} {F : Nat → Nat → Nat → Int} {p : List Int} {y k i : Nat} (h : Acc n F p y k i) (hy : y < n) (hk : k < n) : Acc n F (p.set (y * n + k) (sumTo (F y k) i + F y k i)) y k (i + 1) := by
  refine ⟨by rw [List.length_set]; exact h.1, fun a b ha hb => ?_⟩
  by_cases e : a * n + b = y * n + k
  · obtain ⟨rfl, rfl⟩ := place_two hb hk e
    rw [List.getD_eq_getElem?_getD, List.getElem?_set_self (by rw [h.1]; exact place_lt ha hb), if_neg (by omega), if_pos ⟨rfl, rfl⟩]
    rfl
  · rw [List.getD_eq_getElem?_getD, List.getElem?_set_ne (fun e' => e e'.symm), ← List.getD_eq_getElem?_getD, h.2 a b ha hb]
    have hne : ¬ (a = y ∧ b = k) := by rintro ⟨rfl, rfl⟩; exact e rfl
    rw [if_neg hne, if_neg hne]
theorem acc_col {n : Nat} {F : Nat → Nat → Nat → Int} {p : List Int} {y k : Nat} (h : Acc n F p y k n) : Acc n F p y (k + 1) 0 := by
  refine ⟨h.1, fun a b ha hb => ?_⟩
  rw [h.2 a b ha hb]
  by_cases h1 : a < y ∨ (a = y ∧ b < k)
  · rw [if_pos h1, if_pos (by omega)]
  · rw [if_neg h1]
    by_cases h2 : a = y ∧ b = k
    · rw [if_pos h2, if_pos (by omega)]
    · rw [if_neg h2, if_neg (by omega)]
      split <;> rfl
theorem acc_row {n : Nat} {F : Nat → Nat → Nat → Int} {p : List Int} {y : Nat} (h : Acc n F p y n 0) : Acc n F p (y + 1) 0 0 := by
  refine ⟨h.1, fun a b ha hb => ?_⟩
  rw [h.2 a b ha hb]
  by_cases h1 : a < y ∨ (a = y ∧ b < n)
  · rw [if_pos h1, if_pos (by omega)]
  · rw [if_neg h1, if_neg (by omega), if_neg (by omega)]
    split <;> rfl
/-- The square as a whole. -/
def sqF (n : Nat) (F : Nat → Nat → Nat → Int) : List Int := (List.range (n * n)).map fun q => sumTo (F (q / n) (q % n)) n
theorem sqF_len (n : Nat) (F : Nat → Nat → Nat → Int) : (sqF n F).length = n * n := by simp [sqF]
theorem sqF_at {n : Nat} {F : Nat → Nat → Nat → Int} {a b : Nat} (ha : a < n) (hb : b < n) : (sqF n F).getD (a * n + b) 0 = sumTo (F a b) n := by
  rw [List.getD_eq_getElem?_getD, sqF, List.getElem?_map, List.getElem?_range (place_lt ha hb)]
  have h1 : (a * n + b) / n = a := by rw [Nat.add_comm, Nat.add_mul_div_right _ _ (by omega), Nat.div_eq_of_lt hb, Nat.zero_add]
  have h2 : (a * n + b) % n = b := by rw [Nat.add_comm, Nat.add_mul_mod_self_right, Nat.mod_eq_of_lt hb]
  simp only [Option.map_some, Option.getD_some, h1, h2]
theorem acc_end {n : Nat} {F : Nat → Nat → Nat → Int} {p : List Int} (h : Acc n F p n 0 0) : p = sqF n F := by
  refine List.ext_getElem (by rw [h.1, sqF_len]) fun q h1 h2 => ?_
  rw [sqF_len] at h2
  have hn : 0 < n := by rcases Nat.eq_zero_or_pos n with rfl | h; · simp at h2
                        · exact h
  have hq : q / n * n + q % n = q := Nat.div_add_mod' q n
  have ha : q / n < n := (Nat.div_lt_iff_lt_mul hn).2 h2
  have hb : q % n < n := Nat.mod_lt _ hn
  have e1 := h.2 (q / n) (q % n) ha hb
  have e2 := sqF_at (F := F) ha hb
  rw [hq, if_pos (by omega)] at e1
  rw [hq] at e2
  rw [List.getD_eq_getElem?_getD, List.getElem?_eq_getElem h1] at e1
  rw [List.getD_eq_getElem?_getD, List.getElem?_eq_getElem (by rw [sqF_len]; exact h2)] at e2
  exact e1.trans e2.symm

/-! ### The matrices and what the transforms answer -/
def matA (r c : Nat) : Int := [1, 1, 1, 1, 2, 1, -1, -2, 1, -1, -1, 1, 1, -2, 2, -1].getD (r * 4 + c) 0
def matH (r c : Nat) : Int := if (r % 2 * (c % 2) + r / 2 % 2 * (c / 2 % 2) + r / 4 % 2 * (c / 4 % 2)) % 2 = 0 then 1 else -1
/-- The matrix of a size, forth or back. -/
def matE (n : Nat) (back : Bool) (r c : Nat) : Int := if n = 4 then (if back then matA c r else matA r c) else matH r c
theorem matE_four : ∀ (back : Bool) r, r < 4 → ∀ c, c < 4 → -2 ≤ matE 4 back r c ∧ matE 4 back r c ≤ 2 := by decide
theorem matE_eight : ∀ (back : Bool) r, r < 8 → ∀ c, c < 8 → -1 ≤ matE 8 back r c ∧ matE 8 back r c ≤ 1 := by decide
/-- A term of the first product, the first product, a term of the second. -/
def mulT (n : Nat) (M : Nat → Nat → Int) (l : List Int) (y k i : Nat) : Int := M y i * l.getD (i * n + k) 0
def mulO (n : Nat) (M : Nat → Nat → Int) (l : List Int) (y x k : Nat) : Int := sumTo (mulT n M l y k) n * M x k
def mulF (n : Nat) (M : Nat → Nat → Int) (l : List Int) : List Int := sqF n (mulO n M l)
def fitE (x : Int) : Bool := decide (-1000000000 ≤ x) && decide (x ≤ 1000000000)
def fitL (n : Nat) (l : List Int) : Bool := l.all fitE && decide (l.length = n * n)
/-- What the four transforms answer. -/
def xfR (n : Nat) (back : Bool) (l : List Int) : List Int := if fitL n l then mulF n (matE n back) l else []
theorem xfR_len {n : Nat} (back : Bool) (l : List Int) (h : n ≤ 8) : (xfR n back l).length ≤ 64 := by
  unfold xfR
  split
  · rw [mulF, sqF_len]
    exact Nat.mul_le_mul h h
  · simp

/-! ### Rounding -/
/-- What Rounded answers at a place. -/
def rdAt (n : Nat) (v : Int) : Int := if n = 16 then (lim 1000000000000 v + 800) / 1600 else (lim 1000000000000 v + 32) / 64
def rdF (l : List Int) : List Int := l.map (rdAt l.length)
def rdL (l : List Int) : List Int := if sizeV l.length = true then rdF l else []
theorem rdF_len (l : List Int) : (rdF l).length = l.length := by simp [rdF]
theorem rdL_len (l : List Int) : (rdL l).length ≤ 64 := by
  unfold rdL
  split
  · rename_i h
    have := sizeV_len h
    rw [rdF_len]; omega
  · simp
theorem rdF_at (l : List Int) (i : Nat) (h : i < l.length) : (rdF l).getD i 0 = rdAt l.length (l.getD i 0) := by
  rw [List.getD_eq_getElem?_getD, List.getD_eq_getElem?_getD, rdF, List.getElem?_map, List.getElem?_eq_getElem h]
  rfl
/-- A division rounded down, as the model writes it. -/
theorem floor_neg (v : Int) : (v < 0 → -((-v + 1600 - 1) / 1600) = v / 1600) ∧ (v < 0 → -((-v + 64 - 1) / 64) = v / 64) := by
  constructor <;> intro h <;> omega
end Go.Proofs.Ytcmijednpnabmaa
