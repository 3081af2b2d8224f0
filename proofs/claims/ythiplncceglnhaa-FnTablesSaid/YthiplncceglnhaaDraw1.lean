/-
  Contracts of chapter 1's draws: each returns, its answer depends on the cursor's state alone, and it writes to the cursor and to new memory alone. Condition: the input is no longer than 1048576 bytes.
-/
import Derived.Test.YthiplncceglnhaaDraw
namespace Go.Proofs.Ythiplncceglnhaa
open Go.RowKit
set_option linter.unusedVariables false

set_option maxHeartbeats 400000 in
theorem pickint_det (A : Option Addr) (cap : Nat) (zs : List Int) (i : Nat) (h : Int) (hi : i ≤ zs.length) (vs : List Int) (hvs : 0 < vs.length) (hv9 : vs.length ≤ 1000) : ∃ (k : Nat) (i' : Nat) (h' : Int), k < vs.length ∧ i' ≤ zs.length ∧ ∀ (w : World) (g gl : Nat), Cursor w g A cap zs i h →
    w.heap[gl]? = some (.cells (vs.map (Value.int .i64)).toArray 3 (0, 0)) → gl ≠ g →
    Calls Try.prog 61 #[.pointer (some ⟨g, 0, none⟩), .slice (some ⟨gl, 0, none⟩) vs.length vs.length] w fun e w' => e = .returned (.int .i64 (vs.getD k 0)) ∧ Cursor w' g A cap zs i' h' ∧ w.grownBy w' (some g) := by
  obtain ⟨x, i1, h1, a1, b1, c1, l1, C1⟩ := below_det A cap zs i h hi (vs.length : Int)
  have b2 := b1 (by omega)
  obtain ⟨k, rfl⟩ := Int.eq_ofNat_of_zero_le a1
  refine ⟨k, i1, h1, by omega, l1, fun w g gl hC hgl hne => ?_⟩
  have hc : w.cell? ⟨gl, k, none⟩ = some (.int .i64 (vs.getD k 0)) := by
    rw [cell_of_row w gl k _ _ _ hgl]
    have hk : k < vs.length := by omega
    simp [List.getD_eq_getElem?_getD, List.getElem?_eq_getElem hk]
  have HC1 := Lib.hid C1
  have HC := Lib.hid hC
  have HL := Lib.hid hc
  obtain ⟨v, hv⟩ : ∃ v, v = vs.getD k 0 := ⟨_, rfl⟩
  rw [← hv]
  have HV := Lib.hid hv
  obtain ⟨n, hn⟩ : ∃ n, n = vs.length := ⟨_, rfl⟩
  rw [← hn] at b2 HC1 hv9 hvs ⊢
  clear hC C1 hc hgl hi l1 a1 b1 c1 hn hv
  have hkn : k < n := by omega
  go_enter Try.func61, Try.ntmps61
  go_wp2_with fail
  refine (HC1.out _ _ HC.out).mono ?_
  rintro e w1 ⟨rfl, hC1, hg1⟩
  have G1 := Lib.hid hC1; clear hC1
  have hcell : w1.cell? ⟨gl, k, none⟩ = some (.int .i64 v) := by
    rw [HV.out]
    exact hg1.cell HL.out (by simpa using hne)
  go_wp2
  go_ret
  exact ⟨rfl, G1.out, hg1⟩

/-- The limits that Num picks from. -/
def numL : List Int := [-1, 0, 127, 128, 255, 256, 16383, 16384, 65535, 65536, 562949953421311, 562949953421312, 999999999, 1000000000, -999999999, 9223372036854775807, -9223372036854775808]
theorem numL_bound : ∀ k, k < 17 → -9223372036854775808 ≤ numL.getD k 0 ∧ numL.getD k 0 ≤ 9223372036854775807 := by decide

end Go.Proofs.Ythiplncceglnhaa
