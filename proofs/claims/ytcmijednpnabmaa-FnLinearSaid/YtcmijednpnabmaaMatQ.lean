/-
  Chapters 12 and 13, the plain part: products of matrices from both sides, there and back. No condition.
-/
import Derived.Test.YtcmijednpnabmaaMatP
namespace Go.Proofs.Ytcmijednpnabmaa
open Go.RowKit
set_option linter.unusedVariables false

/-! ### Sums of sums -/
theorem sumTo_add (f g : Nat → Int) : ∀ n, sumTo (fun k => f k + g k) n = sumTo f n + sumTo g n
  | 0 => rfl
  | n + 1 => by simp only [sumTo]; rw [sumTo_add f g n]; omega
theorem sumTo_mul (c : Int) (f : Nat → Int) : ∀ n, sumTo (fun k => c * f k) n = c * sumTo f n
  | 0 => by simp [sumTo]
  | n + 1 => by simp only [sumTo]; rw [sumTo_mul c f n, Int.mul_add]
theorem sumTo_mul_right (c : Int) (f : Nat → Int) : ∀ n, sumTo (fun k => f k * c) n = sumTo f n * c
  | 0 => by simp [sumTo]
  | n + 1 => by simp only [sumTo]; rw [sumTo_mul_right c f n, Int.add_mul]
theorem sumTo_zero : ∀ n, sumTo (fun _ => 0) n = 0
  | 0 => rfl
  | n + 1 => by simp only [sumTo]; rw [sumTo_zero n]; rfl
theorem sumTo_comm (f : Nat → Nat → Int) (m : Nat) : ∀ n, sumTo (fun k => sumTo (fun i => f k i) m) n = sumTo (fun i => sumTo (fun k => f k i) n) m
  | 0 => by simp only [sumTo]; rw [sumTo_zero]
  | n + 1 => by
    simp only [sumTo]
    rw [sumTo_comm f m n, ← sumTo_add]
/-- A sum of which one term alone is not zero. -/
theorem sumTo_one (c : Int) (g : Nat → Int) (y : Nat) : ∀ n, sumTo (fun i => (if i = y then c else 0) * g i) n = if y < n then c * g y else 0
  | 0 => by simp [sumTo]
  | n + 1 => by
    simp only [sumTo]
    rw [sumTo_one c g y n]
    by_cases h : n = y
    · subst h
      rw [if_neg (by omega), if_pos rfl, if_pos (by omega)]; omega
    · rw [if_neg h]
      by_cases h2 : y < n
      · rw [if_pos h2, if_pos (by omega)]; omega
      · rw [if_neg h2, if_neg (by omega)]; omega
/-- The middle sum first. -/
theorem sum_swap (n : Nat) (g s : Nat → Int) (r : Nat → Nat → Int) : sumTo (fun k => sumTo (fun b => g b * r k b) n * s k) n = sumTo (fun b => g b * sumTo (fun k => s k * r k b) n) n := by
  have e1 : sumTo (fun k => sumTo (fun b => g b * r k b) n * s k) n = sumTo (fun k => sumTo (fun b => g b * (s k * r k b)) n) n :=
    sumTo_congr n fun k _ => by
      rw [← sumTo_mul_right]
      exact sumTo_congr n fun b _ => by rw [Int.mul_assoc, Int.mul_comm (r k b)]
  rw [e1, sumTo_comm (fun k b => g b * (s k * r k b)) n n]
  exact sumTo_congr n fun b _ => sumTo_mul _ _ _

/-! ### A square between two matrices -/
def two (n : Nat) (L R X : Nat → Nat → Int) (y x : Nat) : Int := sumTo (fun k => sumTo (fun i => L y i * X i k) n * R x k) n
def dot (n : Nat) (L M : Nat → Nat → Int) (y j : Nat) : Int := sumTo (fun i => L y i * M i j) n
theorem two_congr {n : Nat} {L L' R R' X X' : Nat → Nat → Int} {y x : Nat} (hL : ∀ i, i < n → L y i = L' y i) (hR : ∀ i, i < n → R x i = R' x i) (hX : ∀ i k, i < n → k < n → X i k = X' i k) : two n L R X y x = two n L' R' X' y x :=
  sumTo_congr n fun k hk => by
    rw [hR k hk, sumTo_congr n fun i hi => by rw [hL i hi, hX i k hi hk]]
/-- Two products, one behind the other. -/
theorem two_two (n : Nat) (L1 R1 L2 R2 X : Nat → Nat → Int) (y x : Nat) : two n L2 R2 (two n L1 R1 X) y x = two n (dot n L2 L1) (dot n R2 R1) X y x := by
  unfold two dot
  have e1 : ∀ k, sumTo (fun i => L2 y i * sumTo (fun b => sumTo (fun a => L1 i a * X a b) n * R1 k b) n) n = sumTo (fun b => sumTo (fun a => sumTo (fun i => L2 y i * L1 i a) n * X a b) n * R1 k b) n := by
    intro k
    have e2 : sumTo (fun i => L2 y i * sumTo (fun b => sumTo (fun a => L1 i a * X a b) n * R1 k b) n) n = sumTo (fun i => sumTo (fun b => L2 y i * sumTo (fun a => L1 i a * X a b) n * R1 k b) n) n :=
      sumTo_congr n fun i _ => by rw [← sumTo_mul]; exact sumTo_congr n fun b _ => by rw [Int.mul_assoc]
    rw [e2, sumTo_comm (fun i b => L2 y i * sumTo (fun a => L1 i a * X a b) n * R1 k b) n n]
    refine sumTo_congr n fun b _ => ?_
    rw [sumTo_mul_right]
    congr 1
    have e3 : sumTo (fun i => L2 y i * sumTo (fun a => L1 i a * X a b) n) n = sumTo (fun i => sumTo (fun a => L2 y i * L1 i a * X a b) n) n :=
      sumTo_congr n fun i _ => by rw [← sumTo_mul]; exact sumTo_congr n fun a _ => by rw [Int.mul_assoc]
    rw [e3, sumTo_comm (fun i a => L2 y i * L1 i a * X a b) n n]
    exact sumTo_congr n fun a _ => sumTo_mul_right _ _ _
  rw [sumTo_congr n fun k _ => by rw [e1 k]]
  exact sum_swap n _ _ _
/-- Scaled by rows and columns ahead. -/
theorem two_scaled (n : Nat) (L R X : Nat → Nat → Int) (d e : Nat → Int) (y x : Nat) : two n L R (fun i k => X i k * (d i * e k)) y x = two n (fun y i => L y i * d i) (fun x k => R x k * e k) X y x := by
  unfold two
  refine sumTo_congr n fun k _ => ?_
  have e1 : sumTo (fun i => L y i * (X i k * (d i * e k))) n = sumTo (fun i => L y i * d i * X i k) n * e k := by
    rw [← sumTo_mul_right]
    refine sumTo_congr n fun i _ => ?_
    rw [Int.mul_assoc (L y i), Int.mul_assoc, Int.mul_comm (d i * X i k), ← Int.mul_assoc (X i k), Int.mul_comm (d i), Int.mul_comm (e k), Int.mul_comm (X i k) (d i)]
  rw [e1, Int.mul_assoc, Int.mul_comm (e k)]
/-- Between multiples of the identity. -/
theorem two_same {n : Nat} {L R X : Nat → Nat → Int} {c : Int} {y x : Nat} (hL : ∀ i, i < n → L y i = if i = y then c else 0) (hR : ∀ i, i < n → R x i = if i = x then c else 0) (hy : y < n) (hx : x < n) : two n L R X y x = c * c * X y x := by
  unfold two
  have e1 : ∀ k, k < n → sumTo (fun i => L y i * X i k) n * R x k = (if k = x then c else 0) * (c * X y k) := by
    intro k hk
    have : sumTo (fun i => L y i * X i k) n = c * X y k := by
      rw [sumTo_congr n fun i hi => by rw [hL i hi], sumTo_one, if_pos hy]
    rw [this, hR k hk, Int.mul_comm]
  rw [sumTo_congr n e1, sumTo_one, if_pos hx, Int.mul_assoc]
theorem two_bound {n : Nat} {L R X : Nat → Nat → Int} {y x : Nat} {a b : Nat} {B : Int} (ha : ∀ i, i < n → -(a : Int) ≤ L y i ∧ L y i ≤ a) (hb : ∀ i, i < n → -(b : Int) ≤ R x i ∧ R x i ≤ b) (hX : ∀ i k, i < n → k < n → -B ≤ X i k ∧ X i k ≤ B) (hB : 0 ≤ B) :
    -((n : Int) * ((n : Int) * ((a : Int) * B) * (b : Int))) ≤ two n L R X y x ∧ two n L R X y x ≤ (n : Int) * ((n : Int) * ((a : Int) * B) * (b : Int)) := by
  have mulb : ∀ (u v : Int) (p q : Int), 0 ≤ p → -p ≤ u → u ≤ p → -q ≤ v → v ≤ q → 0 ≤ q → -(p * q) ≤ u * v ∧ u * v ≤ p * q := by
    intro u v p q hp h1 h2 h3 h4 hq
    have a1 : (p - u) * (q + v) ≥ 0 := Int.mul_nonneg (by omega) (by omega)
    have a2 : (p + u) * (q - v) ≥ 0 := Int.mul_nonneg (by omega) (by omega)
    have a3 : (p - u) * (q - v) ≥ 0 := Int.mul_nonneg (by omega) (by omega)
    have a4 : (p + u) * (q + v) ≥ 0 := Int.mul_nonneg (by omega) (by omega)
    rw [Int.sub_mul, Int.mul_add, Int.mul_add] at a1
    rw [Int.add_mul, Int.mul_sub, Int.mul_sub] at a2
    rw [Int.sub_mul, Int.mul_sub, Int.mul_sub] at a3
    rw [Int.add_mul, Int.mul_add, Int.mul_add] at a4
    omega
  have hn : (0 : Int) ≤ n := by omega
  have hab : (0 : Int) ≤ (a : Int) * B := Int.mul_nonneg (by omega) hB
  refine sumTo_bound n fun k hk => ?_
  have h1 := sumTo_bound (f := fun i => L y i * X i k) (B := (a : Int) * B) n fun i hi => by
    have hl := ha i hi; have hx := hX i k hi hk
    exact mulb _ _ _ _ (by omega) hl.1 hl.2 hx.1 hx.2 hB
  have hr := hb k hk
  exact mulb _ _ _ _ (Int.mul_nonneg hn hab) h1.1 h1.2 hr.1 hr.2 (by omega)

/-! ### The transforms as such products -/
/-- The list as a square. -/
def sqX (n : Nat) (l : List Int) (i k : Nat) : Int := l.getD (i * n + k) 0
theorem mulF_at {n : Nat} {M : Nat → Nat → Int} {l : List Int} {y x : Nat} (hy : y < n) (hx : x < n) : (mulF n M l).getD (y * n + x) 0 = two n M M (sqX n l) y x := by
  unfold mulF
  rw [sqF_at hy hx]
  rfl
theorem mulF_len (n : Nat) (M : Nat → Nat → Int) (l : List Int) : (mulF n M l).length = n * n := sqF_len _ _
/-- Two lists that are the same square. -/
theorem sq_ext {n : Nat} {l m : List Int} (hl : l.length = n * n) (hm : m.length = n * n) (h : ∀ y x, y < n → x < n → l.getD (y * n + x) 0 = m.getD (y * n + x) 0) : l = m := by
  refine List.ext_getElem (by omega) fun q h1 h2 => ?_
  have hq2 : q < n * n := by omega
  have hn : 0 < n := by
    rcases Nat.eq_zero_or_pos n with h0 | h0
    · subst h0; simp at hq2
    · exact h0
  have hq : q / n * n + q % n = q := Nat.div_add_mod' q n
  have e := h (q / n) (q % n) ((Nat.div_lt_iff_lt_mul hn).2 hq2) (Nat.mod_lt _ hn)
  rw [hq, List.getD_eq_getElem?_getD, List.getD_eq_getElem?_getD, List.getElem?_eq_getElem h1, List.getElem?_eq_getElem h2] at e
  exact e
theorem had_had : ∀ y, y < 8 → ∀ i, i < 8 → dot 8 (matE 8 true) (matE 8 false) y i = if i = y then 8 else 0 := by decide
/-- There and back by the matrix of eight. -/
theorem back_eight {l : List Int} {y x : Nat} (hy : y < 8) (hx : x < 8) : (mulF 8 (matE 8 true) (mulF 8 (matE 8 false) l)).getD (y * 8 + x) 0 = 64 * l.getD (y * 8 + x) 0 := by
  rw [mulF_at hy hx]
  have e : two 8 (matE 8 true) (matE 8 true) (sqX 8 (mulF 8 (matE 8 false) l)) y x = two 8 (matE 8 true) (matE 8 true) (two 8 (matE 8 false) (matE 8 false) (sqX 8 l)) y x :=
    two_congr (fun _ _ => rfl) (fun _ _ => rfl) fun i k hi hk => mulF_at hi hk
  rw [e, two_two, two_same (c := 8) (fun i hi => had_had y hy i hi) (fun i hi => had_had x hx i hi) hy hx]
  rfl
def nrmD (i : Nat) : Int := if i % 2 = 0 then 10 else 4
theorem nrm_two : ∀ y, y < 4 → ∀ x, x < 4 → (nm4 (y * 4 + x) : Int) = nrmD y * nrmD x := by decide
theorem mat_nrm : ∀ y, y < 4 → ∀ i, i < 4 → dot 4 (fun y i => matE 4 true y i * nrmD i) (matE 4 false) y i = if i = y then 40 else 0 := by decide
/-- A square of four with its norms. -/
def nrmL (f : List Int) : List Int := (List.range 16).map fun i => f.getD i 0 * nmV 4 (i : Int)
theorem nrmL_len (f : List Int) : (nrmL f).length = 16 := by simp [nrmL]
theorem nrmL_at (f : List Int) {i : Nat} (hi : i < 16) : (nrmL f).getD i 0 = f.getD i 0 * (nm4 i : Int) := by
  rw [List.getD_eq_getElem?_getD, nrmL, List.getElem?_map, List.getElem?_range hi]
  simp only [Option.map_some, Option.getD_some]
  rw [nmV_four hi]
/-- There and back by the matrix of four, with its norms. -/
theorem back_four {l : List Int} {y x : Nat} (hy : y < 4) (hx : x < 4) : (mulF 4 (matE 4 true) (nrmL (mulF 4 (matE 4 false) l))).getD (y * 4 + x) 0 = 1600 * l.getD (y * 4 + x) 0 := by
  rw [mulF_at hy hx]
  have e : two 4 (matE 4 true) (matE 4 true) (sqX 4 (nrmL (mulF 4 (matE 4 false) l))) y x = two 4 (matE 4 true) (matE 4 true) (fun i k => two 4 (matE 4 false) (matE 4 false) (sqX 4 l) i k * (nrmD i * nrmD k)) y x :=
    two_congr (fun _ _ => rfl) (fun _ _ => rfl) fun i k hi hk => by
      unfold sqX
      rw [nrmL_at _ (by omega), mulF_at hi hk, nrm_two i hi k hk]
      rfl
  rw [e, two_scaled, two_two, two_same (c := 40) (fun i hi => mat_nrm y hy i hi) (fun i hi => mat_nrm x hx i hi) hy hx]
  rfl
end Go.Proofs.Ytcmijednpnabmaa
