/-
  Contracts of chapter 6's draw of a number. Condition: the input is no longer than 1048576 bytes.
-/
import Derived.Test.YthiplncceglnhaaDraw1
import Derived.Test.YthiplncceglnhaaCode
import Derived.Test.YthiplncceglnhaaReader
namespace Go.Proofs.Ythiplncceglnhaa
open Go.RowKit
set_option linter.unusedVariables false

/-- The numbers that the draw picks from. -/
def num6 (x y : Int) : List Int := [0, 1, 2, 3, 6, 7, 14, 30, 31, 65534, 65535, -1, x, y]
theorem num6_bound (x y : Int) (hx0 : 0 ≤ x) (hx1 : x < 500) (hy0 : 0 ≤ y) (hy1 : y < 65535) (k : Nat) (hk : k < 14) : -1 ≤ (num6 x y).getD k 0 ∧ (num6 x y).getD k 0 ≤ 65535 := by
  unfold num6
  rcases (show k = 0 ∨ k = 1 ∨ k = 2 ∨ k = 3 ∨ k = 4 ∨ k = 5 ∨ k = 6 ∨ k = 7 ∨ k = 8 ∨ k = 9 ∨ k = 10 ∨ k = 11 ∨ k = 12 ∨ k = 13 by omega) with rfl | rfl | rfl | rfl | rfl | rfl | rfl | rfl | rfl | rfl | rfl | rfl | rfl | rfl
  all_goals (simp; try omega)

set_option maxRecDepth 100000 in
set_option maxHeartbeats 1000000 in
theorem l6num_det (A : Option Addr) (cap : Nat) (zs : List Int) (i : Nat) (h : Int) (hi : i ≤ zs.length) : ∃ (x : Int) (i' : Nat) (h' : Int), -1 ≤ x ∧ x ≤ 65535 ∧ i' ≤ zs.length ∧ ∀ (w : World) (g : Nat), Cursor w g A cap zs i h →
    Calls Try.prog 57 #[.pointer (some ⟨g, 0, none⟩)] w fun e w' => e = .returned (.int .i64 x) ∧ Cursor w' g A cap zs i' h' ∧ w.grownBy w' (some g) := by
  obtain ⟨x0, i1, h1, a1, b1, _, l1, C1⟩ := below_det A cap zs i h hi 500
  have b1 := b1 (by decide)
  obtain ⟨x1, i2, h2, a2, b2, _, l2, C2⟩ := below_det A cap zs i1 h1 l1 65535
  have b2 := b2 (by decide)
  obtain ⟨k, i3, h3, hk, l3, C3⟩ := pickint_det A cap zs i2 h2 l2 (num6 x0 x1) (by simp [num6]) (by simp [num6])
  obtain ⟨n0, n1⟩ := num6_bound x0 x1 a1 b1 a2 b2 k hk
  have HC1 := Lib.hid C1; have HC2 := Lib.hid C2; have HC3 := Lib.hid C3
  clear C1 C2 C3
  refine ⟨(num6 x0 x1).getD k 0, i3, h3, n0, n1, l3, fun w g hC => ?_⟩
  have HC := Lib.hid hC
  clear hC n0 n1 hk
  obtain ⟨v, hv⟩ : ∃ v, v = (num6 x0 x1).getD k 0 := ⟨_, rfl⟩
  rw [← hv] at HC3 ⊢
  clear hv
  go_enter Try.func57, Try.ntmps57
  go_wp2_with fail
  refine (HC1.out _ _ HC.out).mono ?_
  rintro e w1 ⟨rfl, hC1, hg1⟩
  have G1 := Lib.hid hC1; clear hC1
  go_wp2_with fail
  refine (HC2.out _ _ G1.out).mono ?_
  rintro e w2 ⟨rfl, hC2, hg2⟩
  have G2 := Lib.hid hC2; clear hC2
  go_wp2_with fail
  refine (HC3.out _ _ _ (G2.out.alloc _) (heap_alloc_new w2 _) (by have := G2.out.lt; omega)).mono ?_
  rintro e w3 ⟨rfl, hC3, hg3⟩
  have G3 := Lib.hid hC3; clear hC3
  go_wp2
  go_ret
  exact ⟨rfl, G3.out, (grown_alloc (hg1.trans hg2) _).trans hg3⟩

end Go.Proofs.Ythiplncceglnhaa
