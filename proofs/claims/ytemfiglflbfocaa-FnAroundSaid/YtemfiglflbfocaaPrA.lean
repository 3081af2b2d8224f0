/-
  Chapter 15, the plain part: what PredAt answers; the contracts of the model's l15Clip and l15Soft. Conditions: the numbers are samples, or sums of a few.
-/
import Derived.Test.YtemfiglflbfocaaNbV
namespace Go.Proofs.Ytemfiglflbfocaa
open Go.RowKit
set_option linter.unusedVariables false

def softV (a b c : Int) : Int := (a + 2 * b + c + 2) / 4
theorem softV_pix {a b c : Int} (ha : 0 ≤ a ∧ a ≤ 255) (hb : 0 ≤ b ∧ b ≤ 255) (hc : 0 ≤ c ∧ c ≤ 255) : 0 ≤ softV a b c ∧ softV a b c ≤ 255 := by unfold softV; omega
def clipV (v : Int) : Int := max 0 (min 255 v)
theorem clipV_pix (v : Int) : 0 ≤ clipV v ∧ clipV v ≤ 255 := by unfold clipV; omega
/-- What PredAt answers at a place of a valid neighbourhood. -/
def predF (t l : List Int) (k : Int) (b1 b2 : Bool) (m : Nat) (mode : Int) (x y : Nat) : Int :=
  if mode = 0 then meanV t l k b1 b2 (m : Int) else if mode = 1 then t.getD x 0 else if mode = 2 then l.getD y 0 else if mode = 3 then clipV (l.getD y 0 + t.getD x 0 - k)
  else if mode = 4 then softV (t.getD (x + y) 0) (t.getD (min (2 * m - 1) (x + y + 1)) 0) (t.getD (min (2 * m - 1) (x + y + 2)) 0)
  else if mode = 5 then softV ((bordF t l k).getD (x + m - y - 1) 0) ((bordF t l k).getD (x + m - y) 0) ((bordF t l k).getD (x + m - y + 1) 0) else -1
def predV (mode : Int) (t l : List Int) (k : Int) (b1 b2 : Bool) (n x y : Int) : Int := if nbOk t l k n = true ∧ (0 ≤ x ∧ x ≤ n - 1) ∧ (0 ≤ y ∧ y ≤ n - 1) then predF t l k b1 b2 n.toNat mode x.toNat y.toNat else -1
theorem bordF_at {t l : List Int} {k : Int} {m : Nat} (ht : t.length = 2 * m) (hl : l.length = m) (i : Nat) (hi : i < 2 * m + 1) : (bordF t l k).getD i 0 = if i < m then l.getD (m - 1 - i) 0 else if i = m then k else t.getD (i - m - 1) 0 := by
  have hrl : l.reverse.length = m := by rw [List.length_reverse]; exact hl
  rw [bordF, List.getD_eq_getElem?_getD]
  by_cases h1 : i < m
  · rw [if_pos h1, List.getElem?_append_left (by omega), List.getElem?_reverse (by omega), hl, List.getD_eq_getElem?_getD]
  · rw [if_neg h1, List.getElem?_append_right (by omega), hrl]
    by_cases h2 : i = m
    · subst h2
      rw [if_pos rfl, Nat.sub_self]
      rfl
    · rw [if_neg h2, show i - m = (i - m - 1) + 1 by omega, List.getElem?_cons_succ, List.getElem?_take, if_pos (by omega), List.getD_eq_getElem?_getD, Nat.add_sub_cancel]
theorem bordF_pix {t l : List Int} {k : Int} {m : Nat} (ht : t.length = 2 * m) (hl : l.length = m) (hpt : ∀ i, i < 2 * m → 0 ≤ t.getD i 0 ∧ t.getD i 0 ≤ 255) (hpl : ∀ i, i < m → 0 ≤ l.getD i 0 ∧ l.getD i 0 ≤ 255) (hk : 0 ≤ k ∧ k ≤ 255) (i : Nat) (hi : i < 2 * m + 1) : 0 ≤ (bordF t l k).getD i 0 ∧ (bordF t l k).getD i 0 ≤ 255 := by
  rw [bordF_at ht hl i hi]
  split
  · exact hpl _ (by omega)
  · split
    · exact hk
    · exact hpt _ (by omega)
theorem meanV_pix (t l : List Int) (k : Int) (b1 b2 : Bool) (n : Int) : 0 ≤ meanV t l k b1 b2 n ∧ meanV t l k b1 b2 n ≤ 255 := by
  unfold meanV
  split
  · rename_i h
    obtain ⟨m, rfl, hm, ht, hl, hpt, hpl, _⟩ := nbOk_side h
    have h1 := sumI_pix (l := t) m fun i hi => hpt i (by omega)
    have h2 := sumI_pix (l := l) m hpl
    rw [hl]
    rcases hm with rfl | rfl
    · split
      · omega
      · split
        · omega
        · split <;> omega
    · split
      · omega
      · split
        · omega
        · split <;> omega
  · omega
theorem predF_pix {t l : List Int} {k : Int} (b1 b2 : Bool) {n : Int} (h : nbOk t l k n = true) {m : Nat} (hm : n = (m : Int)) (mode : Int) (x y : Nat) (hx : x < m) (hy : y < m) : -1 ≤ predF t l k b1 b2 m mode x y ∧ predF t l k b1 b2 m mode x y ≤ 255 := by
  obtain ⟨m', hm', hm48, ht, hl, hpt, hpl, hk⟩ := nbOk_side h
  obtain rfl : m = m' := by omega
  unfold predF
  have hbp := bordF_pix ht hl hpt hpl hk
  have hmean := meanV_pix t l k b1 b2 (m : Int)
  split
  · omega
  split
  · have := hpt x (by omega); omega
  split
  · have := hpl y (by omega); omega
  split
  · have := clipV_pix (l.getD y 0 + t.getD x 0 - k); omega
  split
  · have := softV_pix (hpt (x + y) (by omega)) (hpt (min (2 * m - 1) (x + y + 1)) (by omega)) (hpt (min (2 * m - 1) (x + y + 2)) (by omega)); omega
  split
  · have := softV_pix (hbp (x + m - y - 1) (by omega)) (hbp (x + m - y) (by omega)) (hbp (x + m - y + 1) (by omega)); omega
  · omega
set_option maxRecDepth 100000 in
set_option maxHeartbeats 1000000 in
theorem l15clip_any (v : Int) (w : World) : Calls Try.prog 77 #[.int .i64 v] w fun e w' => e = .returned (.int .i64 (clipV v)) ∧ w' = w := by
  by_cases h : v < 255
  · by_cases h0 : 0 < v
    · rw [show clipV v = v by unfold clipV; omega]
      go_enter Try.func77, Try.ntmps77
      go_wp2
      go_ret
      first | exact ⟨rfl, rfl⟩ | exact ⟨congrArg (fun z => Ending.returned (.int .i64 z)) (by omega), rfl⟩
    · rw [show clipV v = 0 by unfold clipV; omega]
      go_enter Try.func77, Try.ntmps77
      go_wp2
      go_ret
      first | exact ⟨rfl, rfl⟩ | exact ⟨congrArg (fun z => Ending.returned (.int .i64 z)) (by omega), rfl⟩
  · rw [show clipV v = 255 by unfold clipV; omega]
    go_enter Try.func77, Try.ntmps77
    go_wp2
    go_ret
    first | exact ⟨rfl, rfl⟩ | exact ⟨congrArg (fun z => Ending.returned (.int .i64 z)) (by omega), rfl⟩
theorem l1in_at (x h : Int) (hx : 0 ≤ x ∧ x ≤ h) (w : World) : Calls Try.prog 63 #[.int .i64 x, .int .i64 0, .int .i64 h] w fun e w' => e = .returned (.bool true) ∧ w = w' := by
  have := l1In_any x 0 h w
  rw [decide_eq_true hx.1, decide_eq_true hx.2] at this
  exact this
theorem l1in_off (x h : Int) (hx : ¬ (0 ≤ x ∧ x ≤ h)) (w : World) : Calls Try.prog 63 #[.int .i64 x, .int .i64 0, .int .i64 h] w fun e w' => e = .returned (.bool false) ∧ w = w' := by
  have := l1In_any x 0 h w
  have e : (decide (0 ≤ x) && decide (x ≤ h)) = false := by
    by_cases h0 : 0 ≤ x
    · rw [decide_eq_false (fun h1 => hx ⟨h0, h1⟩), Bool.and_false]
    · rw [decide_eq_false h0, Bool.false_and]
  rw [e] at this
  exact this
end Go.Proofs.Ytemfiglflbfocaa
