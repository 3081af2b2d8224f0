/-
  Chapter 13, the plain part: the transforms are linear, the first number is the sum of all, the energy grows sixty-four times. No condition.
-/
import Derived.Test.YtcmijednpnabmaaMatR
namespace Go.Proofs.Ytcmijednpnabmaa
open Go.RowKit
set_option linter.unusedVariables false

theorem sumTo_split (f : Nat → Int) (m : Nat) : ∀ n, sumTo f (m + n) = sumTo f m + sumTo (fun x => f (m + x)) n
  | 0 => by simp [sumTo]
  | n + 1 => by
    rw [show m + (n + 1) = (m + n) + 1 by omega, sumTo, sumTo_split f m n, sumTo]
    omega
/-- A sum over a square, row by row. -/
theorem sumTo_rows (f : Nat → Int) (n : Nat) : ∀ m, sumTo f (m * n) = sumTo (fun y => sumTo (fun x => f (y * n + x)) n) m
  | 0 => by simp [sumTo]
  | m + 1 => by
    rw [Nat.add_mul, Nat.one_mul, sumTo_split, sumTo_rows f n m]
    rfl
/-! ### Linear -/
theorem two_add (n : Nat) (L R X Y : Nat → Nat → Int) (y x : Nat) : two n L R (fun i k => X i k + Y i k) y x = two n L R X y x + two n L R Y y x := by
  unfold two
  rw [← sumTo_add]
  refine sumTo_congr n fun k _ => ?_
  rw [← Int.add_mul, ← sumTo_add]
  congr 1
  exact sumTo_congr n fun i _ => Int.mul_add _ _ _
theorem mul_add_list {n : Nat} (M : Nat → Nat → Int) {a b c : List Int} (h : ∀ i, i < n * n → c.getD i 0 = a.getD i 0 + b.getD i 0) {y x : Nat} (hy : y < n) (hx : x < n) :
    (mulF n M a).getD (y * n + x) 0 + (mulF n M b).getD (y * n + x) 0 = (mulF n M c).getD (y * n + x) 0 := by
  rw [mulF_at hy hx, mulF_at hy hx, mulF_at hy hx, ← two_add]
  exact two_congr (fun _ _ => rfl) (fun _ _ => rfl) fun i k hi hk => (h _ (place_lt hi hk)).symm
theorem had_first : ∀ i, i < 8 → matE 8 true 0 i = 1 := by decide
/-- The first number is the sum of all. -/
theorem mul_first (l : List Int) : (mulF 8 (matE 8 true) l).getD 0 0 = sumTo (fun i => l.getD i 0) 64 := by
  have h := mulF_at (n := 8) (M := matE 8 true) (l := l) (y := 0) (x := 0) (by decide) (by decide)
  rw [show (0 : Nat) * 8 + 0 = 0 by rfl] at h
  rw [h, show (64 : Nat) = 8 * 8 by rfl, sumTo_rows]
  unfold two
  have e : sumTo (fun k => sumTo (fun i => matE 8 true 0 i * sqX 8 l i k) 8 * matE 8 true 0 k) 8 = sumTo (fun k => sumTo (fun i => sqX 8 l i k) 8) 8 :=
    sumTo_congr 8 fun k hk => by
      rw [had_first k hk, Int.mul_one]
      exact sumTo_congr 8 fun i hi => by rw [had_first i hi, Int.one_mul]
  rw [e, sumTo_comm (fun k i => sqX 8 l i k) 8 8]
  rfl
/-! ### Energy -/
def ip (n : Nat) (X Y : Nat → Nat → Int) : Int := sumTo (fun y => sumTo (fun x => X y x * Y y x) n) n
theorem ip_congr {n : Nat} {X X' Y Y' : Nat → Nat → Int} (hX : ∀ y x, y < n → x < n → X y x = X' y x) (hY : ∀ y x, y < n → x < n → Y y x = Y' y x) : ip n X Y = ip n X' Y' :=
  sumTo_congr n fun y hy => sumTo_congr n fun x hx => by rw [hX y x hy hx, hY y x hy hx]
/-- One factor carried over to the other side, on the left. -/
theorem ip_left (n : Nat) (L X Y : Nat → Nat → Int) : ip n (fun y x => sumTo (fun i => L y i * X i x) n) Y = ip n X (fun i x => sumTo (fun y => L y i * Y y x) n) := by
  unfold ip
  have e1 : sumTo (fun y => sumTo (fun x => sumTo (fun i => L y i * X i x) n * Y y x) n) n = sumTo (fun y => sumTo (fun x => sumTo (fun i => X i x * (L y i * Y y x)) n) n) n :=
    sumTo_congr n fun y _ => sumTo_congr n fun x _ => by
      rw [← sumTo_mul_right]
      exact sumTo_congr n fun i _ => by rw [Int.mul_comm (L y i), Int.mul_assoc]
  rw [e1]
  have e2 : sumTo (fun y => sumTo (fun x => sumTo (fun i => X i x * (L y i * Y y x)) n) n) n = sumTo (fun y => sumTo (fun i => sumTo (fun x => X i x * (L y i * Y y x)) n) n) n :=
    sumTo_congr n fun y _ => sumTo_comm (fun x i => X i x * (L y i * Y y x)) n n
  rw [e2, sumTo_comm (fun y i => sumTo (fun x => X i x * (L y i * Y y x)) n) n n]
  refine sumTo_congr n fun i _ => ?_
  rw [sumTo_comm (fun y x => X i x * (L y i * Y y x)) n n]
  exact sumTo_congr n fun x _ => sumTo_mul _ _ _
/-- The same on the right. -/
theorem ip_right (n : Nat) (R X Y : Nat → Nat → Int) : ip n (fun y x => sumTo (fun k => X y k * R x k) n) Y = ip n X (fun y k => sumTo (fun x => Y y x * R x k) n) := by
  unfold ip
  refine sumTo_congr n fun y _ => ?_
  have e1 : sumTo (fun x => sumTo (fun k => X y k * R x k) n * Y y x) n = sumTo (fun x => sumTo (fun k => X y k * (Y y x * R x k)) n) n :=
    sumTo_congr n fun x _ => by
      rw [← sumTo_mul_right]
      exact sumTo_congr n fun k _ => by rw [Int.mul_assoc, Int.mul_comm (R x k)]
  rw [e1, sumTo_comm (fun x k => X y k * (Y y x * R x k)) n n]
  exact sumTo_congr n fun k _ => sumTo_mul _ _ _
theorem ip_two (n : Nat) (L R X Y : Nat → Nat → Int) : ip n (two n L R X) Y = ip n X (two n (fun i y => L y i) (fun k x => R x k) Y) := by
  have e1 := ip_right n R (fun y k => sumTo (fun i => L y i * X i k) n) Y
  have e2 := ip_left n L X (fun y k => sumTo (fun x => Y y x * R x k) n)
  refine (e1.trans e2).trans (ip_congr (fun _ _ _ _ => rfl) fun i k hi hk => ?_)
  unfold two
  have e3 := sum_swap n (fun y => L y i) (fun x => R x k) (fun x y => Y y x)
  have e4 : sumTo (fun b => L b i * sumTo (fun x => Y b x * R x k) n) n = sumTo (fun b => L b i * sumTo (fun x => R x k * Y b x) n) n :=
    sumTo_congr n fun b _ => by congr 1; exact sumTo_congr n fun x _ => Int.mul_comm _ _
  rw [e4]
  exact e3.symm
theorem had_turn : ∀ r, r < 8 → ∀ c, c < 8 → matE 8 true c r = matE 8 true r c := by decide
/-- By eight and eight the squares of all numbers come to sixty-four times what they were. -/
theorem energy_eight (l : List Int) : sumTo (fun i => (mulF 8 (matE 8 true) l).getD i 0 * (mulF 8 (matE 8 true) l).getD i 0) 64 = 64 * sumTo (fun i => l.getD i 0 * l.getD i 0) 64 := by
  rw [show (64 : Nat) = 8 * 8 by rfl, sumTo_rows, sumTo_rows]
  have e1 : sumTo (fun y => sumTo (fun x => (mulF 8 (matE 8 true) l).getD (y * 8 + x) 0 * (mulF 8 (matE 8 true) l).getD (y * 8 + x) 0) 8) 8 = ip 8 (two 8 (matE 8 true) (matE 8 true) (sqX 8 l)) (two 8 (matE 8 true) (matE 8 true) (sqX 8 l)) :=
    sumTo_congr 8 fun y hy => sumTo_congr 8 fun x hx => by rw [mulF_at hy hx]
  rw [e1, ip_two]
  have e2 : ip 8 (sqX 8 l) (two 8 (fun i y => matE 8 true y i) (fun k x => matE 8 true x k) (two 8 (matE 8 true) (matE 8 true) (sqX 8 l))) = ip 8 (sqX 8 l) (fun y x => 64 * sqX 8 l y x) := by
    refine ip_congr (fun _ _ _ _ => rfl) fun y x hy hx => ?_
    have e3 : two 8 (fun i y => matE 8 true y i) (fun k x => matE 8 true x k) (two 8 (matE 8 true) (matE 8 true) (sqX 8 l)) y x = two 8 (matE 8 true) (matE 8 true) (two 8 (matE 8 false) (matE 8 false) (sqX 8 l)) y x :=
      two_congr (fun i hi => had_turn y hy i hi) (fun i hi => had_turn x hx i hi) fun i k hi hk =>
        two_congr (fun j hj => had_sym i hi j hj) (fun j hj => had_sym k hk j hj) fun _ _ _ _ => rfl
    rw [e3, two_two, two_same (c := 8) (fun i hi => had_had y hy i hi) (fun i hi => had_had x hx i hi) hy hx]
    rfl
  rw [e2]
  unfold ip
  rw [← sumTo_mul]
  refine sumTo_congr 8 fun y _ => ?_
  rw [← sumTo_mul]
  exact sumTo_congr 8 fun x _ => by rw [Int.mul_left_comm]; rfl
end Go.Proofs.Ytcmijednpnabmaa
