/-
  Contracts of SizeOk and ScanOrder, in both texts, and of the size of a block. Condition: the number is an int.
-/
import Derived.Test.YtemfiglflbfocaaBits1
import Derived.Test.YtemfiglflbfocaaShelf
import Derived.Lib.RowBridge
namespace Go.Proofs.Ytemfiglflbfocaa
open Go.RowKit
set_option linter.unusedVariables false

/-- What the model's inner loop appends at step `k` of diagonal `d`. -/
def scStep (n d k : Nat) : List Int :=
  if (if d % 2 = 0 then d - k else k) < n ∧ (if d % 2 = 0 then k else d - k) < n then
    [(((if d % 2 = 0 then k else d - k) * n + (if d % 2 = 0 then d - k else k) : Nat) : Int)] else []
def scDia (n d : Nat) : Nat → List Int
  | 0 => []
  | k + 1 => scDia n d k ++ scStep n d k
/-- The row behind so many diagonals. -/
def scTab (n : Nat) : Nat → List Int
  | 0 => []
  | d + 1 => scTab n d ++ scDia n d (d + 1)
def okN (n : Int) : Bool := decide (n = 4) || decide (n = 8)
/-- What ScanOrder answers. -/
def scanL (n : Int) : List Int := if n = 4 then scTab 4 7 else if n = 8 then scTab 8 15 else []
theorem scanL_bad {n : Int} (h : okN n = false) : scanL n = [] := by
  simp [okN] at h
  unfold scanL
  rw [if_neg h.1, if_neg h.2]
theorem okN_cases {n : Int} (h : okN n = true) : n = 4 ∨ n = 8 := by simpa [okN] using h
theorem okN_no {n : Int} (h : okN n = false) : n ≠ 4 ∧ n ≠ 8 := by simpa [okN] using h
theorem scStep_len (n d k : Nat) : (scStep n d k).length ≤ 1 := by unfold scStep; generalize (if d % 2 = 0 then d - k else k) = x; generalize (if d % 2 = 0 then k else d - k) = y; split <;> simp
theorem scDia_len (n d : Nat) : ∀ k, (scDia n d k).length ≤ k
  | 0 => by simp [scDia]
  | k + 1 => by
    have h1 := scDia_len n d k
    have h2 := scStep_len n d k
    rw [scDia, List.length_append]
    omega
theorem scTab_len (n : Nat) : ∀ d, (scTab n d).length ≤ d * d
  | 0 => by simp [scTab]
  | d + 1 => by
    have h1 := scTab_len n d
    have h2 := scDia_len n d (d + 1)
    rw [scTab, List.length_append, Nat.mul_add, Nat.add_mul]
    omega
theorem scTab4_len : (scTab 4 7).length = 16 := by decide +kernel
theorem scTab8_len : (scTab 8 15).length = 64 := by decide +kernel

/-- A row that the call owns is a slice. -/
theorem own_slice {w : World} {base : Nat} {v : Value} {n : Nat} {l : List Int} (h : w.ownsRow base 3 1 v n (ivs l)) : ∃ A c, v = .slice A l.length c ∧ OwnI w base A c l := by
  have hn : n = l.length := by have := h.1; rw [ivs_len] at this; omega
  subst hn
  unfold OwnI
  rcases h.2 with ⟨h1, h2⟩ | ⟨g, cap, cur, h1, _⟩
  · rw [h2] at h ⊢
    exact ⟨none, 0, h1, by rw [← h1]; exact h⟩
  · exact ⟨_, _, h1, by rw [← h1]; exact h⟩

set_option maxRecDepth 100000 in
set_option maxHeartbeats 1000000 in
theorem impl_sizeok_any (n : Int) (w : World) :
    Calls Try.prog 61 #[.int .i64 n] w fun e w' => e = .returned (.bool (okN n)) ∧ w = w' := by
  by_cases h4 : n = 4
  · subst h4
    go_enter Try.func61, Try.ntmps61
    go_wp2
    go_ret
    exact ⟨rfl, rfl⟩
  · have b4 : (n == 4) = false := by rw [beq_eq_false_iff_ne]; exact h4
    have e : okN n = (n == 8) := by
      unfold okN
      rw [decide_eq_false h4, Bool.false_or]
      by_cases h : n = 8
      · rw [h]; decide
      · rw [decide_eq_false h]; simp [h]
    rw [e]
    clear e h4
    go_enter Try.func61, Try.ntmps61
    go_wp2
    go_ret
    exact ⟨rfl, rfl⟩
set_option maxRecDepth 100000 in
set_option maxHeartbeats 1000000 in
theorem spec_sizeok_any (n : Int) (w : World) :
    Calls Try.prog 71 #[.int .i64 n] w fun e w' => e = .returned (.bool (okN n)) ∧ w = w' := by
  by_cases h4 : n = 4
  · subst h4
    go_enter Try.func71, Try.ntmps71
    go_wp2
    go_ret
    exact ⟨rfl, rfl⟩
  · have b4 : (n == 4) = false := by rw [beq_eq_false_iff_ne]; exact h4
    have e : okN n = (n == 8) := by
      unfold okN
      rw [decide_eq_false h4, Bool.false_or]
      by_cases h : n = 8
      · rw [h]; decide
      · rw [decide_eq_false h]; simp [h]
    rw [e]
    clear e h4
    go_enter Try.func71, Try.ntmps71
    go_wp2
    go_ret
    exact ⟨rfl, rfl⟩

/-- The side of a square of so many numbers. -/
def sideN (n : Nat) : Int := if n = 16 then 4 else if n = 64 then 8 else 0
set_option maxRecDepth 100000 in
set_option maxHeartbeats 1000000 in
theorem impl_side_any (n : Nat) (w : World) :
    Calls Try.prog 48 #[.int .i64 n] w fun e w' => e = .returned (.int .i64 (sideN n)) ∧ w = w' := by
  by_cases h1 : n = 16
  · subst h1
    go_enter Try.func48, Try.ntmps48
    go_wp2
    go_ret
    exact ⟨rfl, rfl⟩
  · by_cases h2 : n = 64
    · subst h2
      go_enter Try.func48, Try.ntmps48
      go_wp2
      go_ret
      exact ⟨rfl, rfl⟩
    · have e : sideN n = 0 := by unfold sideN; rw [if_neg h1, if_neg h2]
      rw [e]
      have b1 : ((n : Int) == 16) = false := by rw [beq_eq_false_iff_ne]; omega
      have b2 : ((n : Int) == 64) = false := by rw [beq_eq_false_iff_ne]; omega
      clear e h1 h2
      go_enter Try.func48, Try.ntmps48
      go_wp2
      go_ret
      exact ⟨rfl, rfl⟩
set_option maxRecDepth 100000 in
set_option maxHeartbeats 1000000 in
theorem spec_side_any (A : Option Addr) (ca n : Nat) (w : World) :
    Calls Try.prog 53 #[.slice A n ca] w fun e w' => e = .returned (.int .i64 (sideN n)) ∧ w = w' := by
  by_cases h1 : n = 16
  · subst h1
    go_enter Try.func53, Try.ntmps53
    go_wp2
    go_ret
    exact ⟨rfl, rfl⟩
  · by_cases h2 : n = 64
    · subst h2
      go_enter Try.func53, Try.ntmps53
      go_wp2
      go_ret
      exact ⟨rfl, rfl⟩
    · have e : sideN n = 0 := by unfold sideN; rw [if_neg h1, if_neg h2]
      rw [e]
      have b1 : ((n : Int) == 16) = false := by rw [beq_eq_false_iff_ne]; omega
      have b2 : ((n : Int) == 64) = false := by rw [beq_eq_false_iff_ne]; omega
      clear e h1 h2
      go_enter Try.func53, Try.ntmps53
      go_wp2
      go_ret
      exact ⟨rfl, rfl⟩

theorem scanL_len (n : Int) : (scanL n).length ≤ 64 := by
  unfold scanL
  split
  · rw [scTab4_len]; decide
  · split
    · rw [scTab8_len]; decide
    · simp
/-- The diagonal of the program, from its smallest x on: what stands there behind so many rounds from x = a on. -/
def imStep (n d x : Nat) : Int := ((d - x) * n + x : Nat)
def imRow (n d a : Nat) : Nat → List Int
  | 0 => []
  | k + 1 => imRow n d a k ++ [imStep n d (a + k)]
theorem imRow_len (n d a : Nat) : ∀ k, (imRow n d a k).length = k
  | 0 => rfl
  | k + 1 => by rw [imRow, List.length_append, imRow_len n d a k]; rfl
/-- From where, and how many. -/
def imA (n d : Nat) : Nat := d + 1 - n
def imK (n d : Nat) : Nat := (if d < n - 1 then d else n - 1) + 1 - imA n d
def imDia (n d : Nat) : List Int := if d % 2 = 0 then (imRow n d (imA n d) (imK n d)).reverse else imRow n d (imA n d) (imK n d)
theorem imDia_len (n d : Nat) : (imDia n d).length = imK n d := by unfold imDia; split <;> simp [imRow_len]
theorem imDia_4 : ∀ d, d < 7 → imDia 4 d = scDia 4 d (d + 1) := by decide +kernel
theorem imDia_8 : ∀ d, d < 15 → imDia 8 d = scDia 8 d (d + 1) := by decide +kernel

end Go.Proofs.Ytemfiglflbfocaa
