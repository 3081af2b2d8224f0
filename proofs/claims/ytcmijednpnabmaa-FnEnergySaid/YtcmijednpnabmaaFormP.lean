/-
  Chapter 12, what the squares of the two texts come to: a square summed up in one row, products of lists, the matrices as lists, the lists turned. No condition.
-/
import Derived.Test.YtcmijednpnabmaaMatR
namespace Go.Proofs.Ytcmijednpnabmaa
open Go.RowKit
set_option linter.unusedVariables false

/-! ### Summed up in one row -/
/-- A list that is summed up place by place: where it stands at place j, term k. -/
def AccL (N n : Nat) (G : Nat → Nat → Int) (p : List Int) (j k : Nat) : Prop :=
  p.length = N ∧ ∀ t, t < N → p.getD t 0 = if t < j then sumTo (G t) n else if t = j then sumTo (G t) k else 0
theorem accl_start (N n : Nat) (G : Nat → Nat → Int) : AccL N n G (List.replicate N 0) 0 0 := by
  refine ⟨List.length_replicate, fun t ht => ?_⟩
  have e : (List.replicate N (0 : Int)).getD t 0 = 0 := by rw [List.getD_eq_getElem?_getD, List.getElem?_replicate, if_pos ht]; rfl
  rw [e, if_neg (by omega)]
  split <;> rfl
theorem accl_at {N n : Nat} {G : Nat → Nat → Int} {p : List Int} {j k : Nat} (h : AccL N n G p j k) (hj : j < N) : p.getD j 0 = sumTo (G j) k := by
  rw [h.2 j hj, if_neg (by omega), if_pos rfl]
theorem accl_step {N n : Nat} {G : Nat → Nat → Int} {p : List Int} {j k : Nat} (h : AccL N n G p j k) (hj : j < N) : AccL N n G (p.set j (sumTo (G j) k + G j k)) j (k + 1) := by
  refine ⟨by rw [List.length_set]; exact h.1, fun t ht => ?_⟩
  by_cases e : t = j
  · subst e
    rw [List.getD_eq_getElem?_getD, List.getElem?_set_self (by rw [h.1]; exact ht), if_neg (by omega), if_pos rfl]
    rfl
  · rw [List.getD_eq_getElem?_getD, List.getElem?_set_ne (fun e' => e e'.symm), ← List.getD_eq_getElem?_getD, h.2 t ht, if_neg e, if_neg e]
theorem accl_next {N n : Nat} {G : Nat → Nat → Int} {p : List Int} {j : Nat} (h : AccL N n G p j n) : AccL N n G p (j + 1) 0 := by
  refine ⟨h.1, fun t ht => ?_⟩
  rw [h.2 t ht]
  by_cases h1 : t < j
  · rw [if_pos h1, if_pos (by omega)]
  · rw [if_neg h1]
    by_cases h2 : t = j
    · rw [if_pos h2, if_pos (by omega)]
    · rw [if_neg h2, if_neg (by omega)]
      split <;> rfl
theorem accl_end {n : Nat} {F : Nat → Nat → Nat → Int} {p : List Int} (h : AccL (n * n) n (fun t => F (t / n) (t % n)) p (n * n) 0) : p = sqF n F := by
  refine List.ext_getElem (by rw [h.1, sqF_len]) fun q h1 h2 => ?_
  have hq : q < n * n := by rw [h.1] at h1; exact h1
  have e := h.2 q hq
  rw [if_pos hq, List.getD_eq_getElem?_getD, List.getElem?_eq_getElem h1] at e
  simp only [Option.getD_some] at e
  rw [e]
  simp [sqF]
/-- A sum that has not come to its end is small, too. -/
theorem accl_small {n : Nat} {g : Nat → Int} {B : Int} (hB : 0 ≤ B) (h : ∀ k, k < n → -B ≤ g k ∧ g k ≤ B) (hn : n ≤ 8) {k : Nat} (hk : k ≤ n) : -(8 * B) ≤ sumTo g k ∧ sumTo g k ≤ 8 * B := by
  have h1 := sumTo_bound (f := g) (B := B) k fun i hi => h i (by omega)
  have h2 : (k : Int) * B ≤ 8 * B := Int.mul_le_mul_of_nonneg_right (by omega) hB
  omega

/-! ### Lists as squares -/
theorem sqF_congr {n : Nat} {F G : Nat → Nat → Nat → Int} (h : ∀ y x k, y < n → x < n → k < n → F y x k = G y x k) : sqF n F = sqF n G := by
  unfold sqF
  refine List.map_congr_left fun q hq => ?_
  have hq' := List.mem_range.1 hq
  have hn : 0 < n := by
    rcases Nat.eq_zero_or_pos n with rfl | h
    · simp at hq'
    · exact h
  exact sumTo_congr n fun k hk => h _ _ k ((Nat.div_lt_iff_lt_mul hn).2 hq') (Nat.mod_lt _ hn) hk
/-- A list of a square, by its places. -/
def lsq (n : Nat) (f : Nat → Nat → Int) : List Int := (List.range (n * n)).map fun q => f (q / n) (q % n)
theorem lsq_len (n : Nat) (f : Nat → Nat → Int) : (lsq n f).length = n * n := by simp [lsq]
theorem lsq_at {n : Nat} {f : Nat → Nat → Int} {a b : Nat} (ha : a < n) (hb : b < n) : (lsq n f).getD (a * n + b) 0 = f a b := by
  rw [List.getD_eq_getElem?_getD, lsq, List.getElem?_map, List.getElem?_range (place_lt ha hb)]
  have h1 : (a * n + b) / n = a := by rw [Nat.add_comm, Nat.add_mul_div_right _ _ (by omega), Nat.div_eq_of_lt hb, Nat.zero_add]
  have h2 : (a * n + b) % n = b := by rw [Nat.add_comm, Nat.add_mul_mod_self_right, Nat.mod_eq_of_lt hb]
  simp only [Option.map_some, Option.getD_some, h1, h2]
theorem lsq_of {n : Nat} {f : Nat → Nat → Int} {p : List Int} (hp : p.length = n * n) (h : ∀ a b, a < n → b < n → p.getD (a * n + b) 0 = f a b) : p = lsq n f := by
  refine List.ext_getElem (by rw [hp, lsq_len]) fun q h1 h2 => ?_
  rw [lsq_len] at h2
  have hn : 0 < n := by
    rcases Nat.eq_zero_or_pos n with rfl | h
    · simp at h2
    · exact h
  have hq : q / n * n + q % n = q := Nat.div_add_mod' q n
  have ha : q / n < n := (Nat.div_lt_iff_lt_mul hn).2 h2
  have hb : q % n < n := Nat.mod_lt _ hn
  have e1 := h (q / n) (q % n) ha hb
  have e2 := lsq_at (f := f) ha hb
  rw [hq] at e1 e2
  rw [List.getD_eq_getElem?_getD, List.getElem?_eq_getElem h1] at e1
  rw [List.getD_eq_getElem?_getD, List.getElem?_eq_getElem (by rw [lsq_len]; exact h2)] at e2
  exact e1.trans e2.symm
/-- The product of two lists as squares. -/
def prG (n : Nat) (a b : List Int) (y x k : Nat) : Int := a.getD (y * n + k) 0 * b.getD (k * n + x) 0
def prF (n : Nat) (a b : List Int) : List Int := sqF n (prG n a b)
theorem prF_len (n : Nat) (a b : List Int) : (prF n a b).length = n * n := sqF_len _ _
/-- The list turned, and the matrix as a list. -/
def trL (n : Nat) (m : List Int) : List Int := lsq n fun y x => m.getD (x * n + y) 0
def matL (n : Nat) (back : Bool) : List Int := lsq n (matE n back)
theorem matL_len (n : Nat) (back : Bool) : (matL n back).length = n * n := lsq_len _ _
theorem trL_len (n : Nat) (m : List Int) : (trL n m).length = n * n := lsq_len _ _
theorem matL_four : matL 4 false = [1, 1, 1, 1, 2, 1, -1, -2, 1, -1, -1, 1, 1, -2, 2, -1] := by decide
theorem matL_turn : trL 4 (matL 4 false) = matL 4 true := by decide
theorem matL_bound (n : Nat) (back : Bool) (hn : n = 4 ∨ n = 8) (y i : Nat) (hy : y < n) (hi : i < n) : -2 ≤ matE n back y i ∧ matE n back y i ≤ 2 ∧ (n = 8 → -1 ≤ matE n back y i ∧ matE n back y i ≤ 1) := by
  rcases hn with rfl | rfl
  · have := matE_four back y hy i hi
    exact ⟨this.1, this.2, fun h => absurd h (by decide)⟩
  · have := matE_eight back y hy i hi
    exact ⟨by omega, by omega, fun _ => this⟩
theorem prG_first {n : Nat} (back : Bool) (l : List Int) (y x k : Nat) (hy : y < n) (hk : k < n) : prG n (matL n back) l y x k = mulT n (matE n back) l y x k := by
  unfold prG mulT
  rw [matL, lsq_at hy hk]
theorem prG_second {n : Nat} (back : Bool) (l : List Int) (y x k : Nat) (hy : y < n) (hx : x < n) (hk : k < n) : prG n (prF n (matL n back) l) (trL n (matL n back)) y x k = mulO n (matE n back) l y x k := by
  unfold prG mulO prF
  rw [sqF_at hy hk, trL, lsq_at hk hx, matL, lsq_at hx hk]
  congr 1
  refine sumTo_congr n fun i hi => ?_
  have := prG_first back l y k i hy hi
  rw [matL] at this
  exact this
theorem mul_prF (n : Nat) (back : Bool) (l : List Int) : prF n (prF n (matL n back) l) (trL n (matL n back)) = mulF n (matE n back) l := by
  show sqF n _ = mulF n (matE n back) l
  unfold mulF
  exact sqF_congr fun y x k hy hx hk => prG_second back l y x k hy hx hk
/-- A number times a small one. -/
theorem times_two {m v B : Int} (hm1 : -2 ≤ m) (hm2 : m ≤ 2) (h1 : -B ≤ v) (h2 : v ≤ B) : -(2 * B) ≤ m * v ∧ m * v ≤ 2 * B := by
  rcases (show m = -2 ∨ m = -1 ∨ m = 0 ∨ m = 1 ∨ m = 2 by omega) with rfl | rfl | rfl | rfl | rfl <;> omega
theorem times_one {m v B : Int} (hm1 : -1 ≤ m) (hm2 : m ≤ 1) (h1 : -B ≤ v) (h2 : v ≤ B) : -B ≤ m * v ∧ m * v ≤ B := by
  rcases (show m = -1 ∨ m = 0 ∨ m = 1 by omega) with rfl | rfl | rfl <;> omega
/-- No term and no sum of the two products is too great. -/
theorem term_first {n : Nat} (back : Bool) {l : List Int} (hn : n = 4 ∨ n = 8) (hl : ∀ i, i < n * n → -1000000000 ≤ l.getD i 0 ∧ l.getD i 0 ≤ 1000000000) (y k i : Nat) (hy : y < n) (hk : k < n) (hi : i < n) :
    -2000000000 ≤ mulT n (matE n back) l y k i ∧ mulT n (matE n back) l y k i ≤ 2000000000 := by
  have h1 := matL_bound n back hn y i hy hi
  have h2 := hl (i * n + k) (place_lt hi hk)
  unfold mulT
  exact times_two h1.1 h1.2.1 h2.1 h2.2
theorem sum_first {n : Nat} (back : Bool) {l : List Int} (hn : n = 4 ∨ n = 8) (hl : ∀ i, i < n * n → -1000000000 ≤ l.getD i 0 ∧ l.getD i 0 ≤ 1000000000) (y k i : Nat) (hy : y < n) (hk : k < n) (hi : i ≤ n) :
    -16000000000 ≤ sumTo (mulT n (matE n back) l y k) i ∧ sumTo (mulT n (matE n back) l y k) i ≤ 16000000000 :=
  accl_small (B := 2000000000) (by decide) (fun j hj => term_first back hn hl y k j hy hk hj) (by omega) hi
theorem term_second {n : Nat} (back : Bool) {l : List Int} (hn : n = 4 ∨ n = 8) (hl : ∀ i, i < n * n → -1000000000 ≤ l.getD i 0 ∧ l.getD i 0 ≤ 1000000000) (y x k : Nat) (hy : y < n) (hx : x < n) (hk : k < n) :
    -32000000000 ≤ mulO n (matE n back) l y x k ∧ mulO n (matE n back) l y x k ≤ 32000000000 := by
  have h1 := matL_bound n back hn x k hx hk
  have h2 := sum_first back hn hl y k n hy hk (Nat.le_refl _)
  unfold mulO
  rw [Int.mul_comm]
  exact times_two h1.1 h1.2.1 h2.1 h2.2
theorem sum_second {n : Nat} (back : Bool) {l : List Int} (hn : n = 4 ∨ n = 8) (hl : ∀ i, i < n * n → -1000000000 ≤ l.getD i 0 ∧ l.getD i 0 ≤ 1000000000) (y x k : Nat) (hy : y < n) (hx : x < n) (hk : k ≤ n) :
    -256000000000 ≤ sumTo (mulO n (matE n back) l y x) k ∧ sumTo (mulO n (matE n back) l y x) k ≤ 256000000000 :=
  accl_small (B := 32000000000) (by decide) (fun j hj => term_second back hn hl y x j hy hx hj) (by omega) hk

/-! ### A list turned place by place -/
def TrAt (n : Nat) (m p : List Int) (j : Nat) : Prop := p.length = n * n ∧ ∀ i, i < j → p.getD (i % n * n + i / n) 0 = m.getD i 0
theorem turn_place {n j : Nat} (hn : 0 < n) (hj : j < n * n) : j / n < n ∧ j % n < n ∧ j % n * n + j / n < n * n := by
  have h1 : j / n < n := (Nat.div_lt_iff_lt_mul hn).2 hj
  have h2 : j % n < n := Nat.mod_lt _ hn
  exact ⟨h1, h2, place_lt h2 h1⟩
theorem trat_step {n : Nat} {m p : List Int} {j : Nat} (hn : 0 < n) (h : TrAt n m p j) (hj : j < n * n) : TrAt n m (p.set (j % n * n + j / n) (m.getD j 0)) (j + 1) := by
  refine ⟨by rw [List.length_set]; exact h.1, fun i hi => ?_⟩
  have pj := turn_place hn hj
  by_cases e : i = j
  · subst e
    rw [List.getD_eq_getElem?_getD, List.getElem?_set_self (by rw [h.1]; exact pj.2.2)]
    rfl
  · have pi := turn_place hn (show i < n * n by omega)
    have hne : j % n * n + j / n ≠ i % n * n + i / n := by
      intro e2
      have e3 := place_two pj.1 pi.1 e2
      exact e (by rw [← Nat.div_add_mod' i n, ← Nat.div_add_mod' j n, e3.1, e3.2])
    rw [List.getD_eq_getElem?_getD, List.getElem?_set_ne hne, ← List.getD_eq_getElem?_getD]
    exact h.2 i (by omega)
theorem trat_end {n : Nat} {m p : List Int} (h : TrAt n m p (n * n)) : p = trL n m := by
  refine lsq_of h.1 fun a b ha hb => ?_
  have e := h.2 (b * n + a) (place_lt hb ha)
  have h1 : (b * n + a) / n = b := by rw [Nat.add_comm, Nat.add_mul_div_right _ _ (by omega), Nat.div_eq_of_lt ha, Nat.zero_add]
  have h2 : (b * n + a) % n = a := by rw [Nat.add_comm, Nat.add_mul_mod_self_right, Nat.mod_eq_of_lt ha]
  rw [h1, h2] at e
  exact e

/-! ### Signs by bits -/
def popN (b : Nat) : Nat := b % 2 + b / 2 % 2 + b / 4 % 2
def sgE (b : Nat) : Int := if popN b % 2 = 0 then 1 else -1
theorem popN_small : ∀ b, b < 8 → popN b ≤ 3 := by decide
theorem sgE_half : ∀ b, b < 8 → sgE b = (if b % 2 = 1 then -1 else 1) * sgE (b / 2) := by decide
theorem sgE_zero : sgE 0 = 1 := by decide
theorem matH_bits : ∀ r, r < 8 → ∀ c, c < 8 → (r &&& c) < 8 ∧ matH r c = sgE (r &&& c) := by decide +kernel
theorem matH_sym : ∀ r, r < 8 → ∀ c, c < 8 → matH r c = matH c r := by decide +kernel
theorem mat_turn {n : Nat} (hn : n = 4 ∨ n = 8) (a b : Nat) (ha : a < n) (hb : b < n) : matE n true b a = matE n false a b := by
  rcases hn with rfl | rfl
  · rfl
  · exact matH_sym b hb a ha
end Go.Proofs.Ytcmijednpnabmaa
