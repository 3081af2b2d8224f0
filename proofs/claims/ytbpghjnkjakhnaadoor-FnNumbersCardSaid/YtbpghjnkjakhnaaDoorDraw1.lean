/-
  Contracts of chapter 1's draws: each returns, its answer depends on the cursor's state alone, and it writes to the cursor and to new memory alone. Condition: the input is no longer than 1048576 bytes.
-/
import Derived.Test.YtbpghjnkjakhnaaDoorDraw
namespace Go.Proofs.YtbpghjnkjakhnaaDoor
open Go.RowKit
set_option linter.unusedVariables false

set_option maxHeartbeats 400000 in
theorem pickint_det (A : Option Addr) (cap : Nat) (zs : List Int) (i : Nat) (h : Int) (hi : i ≤ zs.length) (vs : List Int) (hvs : 0 < vs.length) (hv9 : vs.length ≤ 1000) : ∃ (k : Nat) (i' : Nat) (h' : Int), k < vs.length ∧ i' ≤ zs.length ∧ ∀ (w : World) (g gl : Nat), Cursor w g A cap zs i h →
    w.heap[gl]? = some (.cells (vs.map (Value.int .i64)).toArray 3 (0, 0)) → gl ≠ g →
    Calls Tryd.prog 32 #[.pointer (some ⟨g, 0, none⟩), .slice (some ⟨gl, 0, none⟩) vs.length vs.length] w fun e w' => e = .returned (.int .i64 (vs.getD k 0)) ∧ Cursor w' g A cap zs i' h' ∧ w.grownBy w' (some g) := by
  obtain ⟨x, i1, h1, a1, b1, c1, l1, C1⟩ := below_det A cap zs i h hi (vs.length : Int)
  have b2 := b1 (by omega)
  obtain ⟨k, rfl⟩ := Int.eq_ofNat_of_zero_le a1
  refine ⟨k, i1, h1, by omega, l1, fun w g gl hC hgl hne => ?_⟩
  have hc : w.cell? ⟨gl, k, none⟩ = some (.int .i64 (vs.getD k 0)) := by
    rw [cell_of_row w gl k _ _ _ hgl]
    have hk : k < vs.length := by omega
    simp [List.getD_eq_getElem?_getD, List.getElem?_eq_getElem hk]
  have HC1 := Lib.hid C1
  have HC := Lib.hid hC
  have HL := Lib.hid hc
  obtain ⟨v, hv⟩ : ∃ v, v = vs.getD k 0 := ⟨_, rfl⟩
  rw [← hv]
  have HV := Lib.hid hv
  obtain ⟨n, hn⟩ : ∃ n, n = vs.length := ⟨_, rfl⟩
  rw [← hn] at b2 HC1 hv9 hvs ⊢
  clear hC C1 hc hgl hi l1 a1 b1 c1 hn hv
  have hkn : k < n := by omega
  go_enter Tryd.func32, Tryd.ntmps32
  go_wp2_with fail
  refine (HC1.out _ _ HC.out).mono ?_
  rintro e w1 ⟨rfl, hC1, hg1⟩
  have G1 := Lib.hid hC1; clear hC1
  have hcell : w1.cell? ⟨gl, k, none⟩ = some (.int .i64 v) := by
    rw [HV.out]
    exact hg1.cell HL.out (by simpa using hne)
  go_wp2
  go_ret
  exact ⟨rfl, G1.out, hg1⟩

/-- The limits that Num picks from. -/
def numL : List Int := [-1, 0, 127, 128, 255, 256, 16383, 16384, 65535, 65536, 562949953421311, 562949953421312, 999999999, 1000000000, -999999999, 9223372036854775807, -9223372036854775808]
theorem numL_bound : ∀ k, k < 17 → -9223372036854775808 ≤ numL.getD k 0 ∧ numL.getD k 0 ≤ 9223372036854775807 := by decide

set_option maxRecDepth 100000 in
set_option maxHeartbeats 1000000 in
theorem num_det (A : Option Addr) (cap : Nat) (zs : List Int) (i : Nat) (h : Int) (hi : i ≤ zs.length) : ∃ (x : Int) (i' : Nat) (h' : Int), -9223372036854775808 ≤ x ∧ x ≤ 9223372036854775807 ∧ i' ≤ zs.length ∧ ∀ (w : World) (g : Nat), Cursor w g A cap zs i h →
    Calls Tryd.prog 21 #[.pointer (some ⟨g, 0, none⟩)] w fun e w' => e = .returned (.int .i64 x) ∧ Cursor w' g A cap zs i' h' ∧ w.grownBy w' (some g) := by
  obtain ⟨x0, i1, h1, a1, b1, _, l1, C1⟩ := below_det A cap zs i h hi 8
  have b1 := b1 (by decide)
  have HC1 := Lib.hid C1; clear C1
  by_cases e0 : x0 = 0
  · subst e0
    obtain ⟨k, i2, h2, hk, l2, C2⟩ := pickint_det A cap zs i1 h1 l1 numL (by decide) (by decide)
    have HC2 := Lib.hid C2; clear C2
    obtain ⟨b0, b9⟩ := numL_bound k hk
    refine ⟨numL.getD k 0, i2, h2, b0, b9, l2, fun w g hC => ?_⟩
    have HC := Lib.hid hC; clear hC b0 b9 hk
    obtain ⟨v, hv⟩ : ∃ v, v = numL.getD k 0 := ⟨_, rfl⟩
    rw [← hv] at HC2 ⊢
    clear hv
    go_enter Tryd.func21, Tryd.ntmps21
    go_wp2_with fail
    refine (HC1.out _ _ HC.out).mono ?_
    rintro e w1 ⟨rfl, hC1, hg1⟩
    have G1 := Lib.hid hC1; clear hC1
    go_wp2_with fail
    refine (HC2.out _ _ _ (G1.out.alloc _) (heap_alloc_new w1 _) (by have := G1.out.lt; omega)).mono ?_
    rintro e w2 ⟨rfl, hC2, hg2⟩
    have G2 := Lib.hid hC2; clear hC2
    go_wp2
    go_ret
    exact ⟨rfl, G2.out, (grown_alloc hg1 _).trans hg2⟩
  · have q0 : (x0 == 0) = false := by rw [beq_eq_false_iff_ne]; exact e0
    by_cases e1 : x0 = 1
    · subst e1
      obtain ⟨x2, i2, h2, a2, b2, _, l2, C2⟩ := below_det A cap zs i1 h1 l1 1000000000
      have b2 := b2 (by decide)
      obtain ⟨x3, i3, h3, a3, b3, _, l3, C3⟩ := below_det A cap zs i2 h2 l2 1000000000
      have b3 := b3 (by decide)
      have HC2 := Lib.hid C2; clear C2
      have HC3 := Lib.hid C3; clear C3
      have hp0 : 0 ≤ x2 * x3 := Int.mul_nonneg a2 a3
      have hp1 : x2 * x3 ≤ 999999999 * 999999999 := Int.mul_le_mul (by omega) (by omega) a3 (by decide)
      refine ⟨x2 * x3, i3, h3, by omega, by omega, l3, fun w g hC => ?_⟩
      have HC := Lib.hid hC; clear hC e0 q0
      have hp2 : x2 * x3 ≤ 999999998000000001 := hp1
      clear hp1
      go_enter Tryd.func21, Tryd.ntmps21
      go_wp2_with fail
      refine (HC1.out _ _ HC.out).mono ?_
      rintro e w1 ⟨rfl, hC1, hg1⟩
      have G1 := Lib.hid hC1; clear hC1
      go_wp2_with fail
      refine (HC2.out _ _ G1.out).mono ?_
      rintro e w2 ⟨rfl, hC2, hg2⟩
      have G2 := Lib.hid hC2; clear hC2
      go_wp2_with fail
      refine (HC3.out _ _ G2.out).mono ?_
      rintro e w3 ⟨rfl, hC3, hg3⟩
      have G3 := Lib.hid hC3; clear hC3
      go_wp2
      go_ret
      exact ⟨rfl, G3.out, (hg1.trans hg2).trans hg3⟩
    · have q1 : (x0 == 1) = false := by rw [beq_eq_false_iff_ne]; exact e1
      by_cases e2 : x0 = 2
      · subst e2
        obtain ⟨x2, i2, h2, a2, b2, _, l2, C2⟩ := below_det A cap zs i1 h1 l1 100000
        have b2 := b2 (by decide)
        have HC2 := Lib.hid C2; clear C2
        refine ⟨-x2, i2, h2, by omega, by omega, l2, fun w g hC => ?_⟩
        have HC := Lib.hid hC; clear hC e0 q0 e1 q1
        go_enter Tryd.func21, Tryd.ntmps21
        go_wp2_with fail
        refine (HC1.out _ _ HC.out).mono ?_
        rintro e w1 ⟨rfl, hC1, hg1⟩
        have G1 := Lib.hid hC1; clear hC1
        go_wp2_with fail
        refine (HC2.out _ _ G1.out).mono ?_
        rintro e w2 ⟨rfl, hC2, hg2⟩
        have G2 := Lib.hid hC2; clear hC2
        go_wp2
        go_ret
        exact ⟨rfl, G2.out, hg1.trans hg2⟩
      · have q2 : (x0 == 2) = false := by rw [beq_eq_false_iff_ne]; exact e2
        obtain ⟨x2, i2, h2, a2, b2, _, l2, C2⟩ := below_det A cap zs i1 h1 l1 70000
        have b2 := b2 (by decide)
        have HC2 := Lib.hid C2; clear C2
        refine ⟨x2, i2, h2, by omega, by omega, l2, fun w g hC => ?_⟩
        have HC := Lib.hid hC; clear hC e0 e1 e2
        go_enter Tryd.func21, Tryd.ntmps21
        go_wp2_with fail
        refine (HC1.out _ _ HC.out).mono ?_
        rintro e w1 ⟨rfl, hC1, hg1⟩
        have G1 := Lib.hid hC1; clear hC1
        go_wp2_with fail
        refine (HC2.out _ _ G1.out).mono ?_
        rintro e w2 ⟨rfl, hC2, hg2⟩
        have G2 := Lib.hid hC2; clear hC2
        go_wp2
        go_ret
        exact ⟨rfl, G2.out, hg1.trans hg2⟩
end Go.Proofs.YtbpghjnkjakhnaaDoor
