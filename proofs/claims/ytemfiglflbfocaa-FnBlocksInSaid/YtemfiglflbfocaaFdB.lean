/-
  Contracts of chapter 18's draw of any frame. Condition: the input is no longer than 1048576 bytes.
-/
import Derived.Test.YtemfiglflbfocaaFdA
namespace Go.Proofs.Ytemfiglflbfocaa
open Go.RowKit
set_option linter.unusedVariables false

theorem pick_w {W : Nat} {y : Int} (hW : W ≤ 24) (h : y ∈ ([0, 7, 40, (W : Int) + 8] : List Int)) : 0 ≤ y ∧ y ≤ 40 := by
  simp only [List.mem_cons, List.mem_nil_iff, or_false] at h
  omega
set_option maxRecDepth 100000 in
set_option maxHeartbeats 8000000 in
theorem l18any_ex (A : Option Addr) (cap : Nat) (zs : List Int) (w0 w : World) (g : Nat) (h : Dw g A cap zs w0 w) :
    Calls Try.prog 66 #[.pointer (some ⟨g, 0, none⟩)] w fun e w' => ∃ (a b : Int) (l : List Int) (TA : Option Addr) (c : Nat), e = .returned (.agg #[.int .i64 a, .int .i64 b, .slice TA l.length c]) ∧ (0 ≤ a ∧ a ≤ 40) ∧ (0 ≤ b ∧ b ≤ 40) ∧ RowOff w.heap.size w' TA l ∧ l.length ≤ c ∧ (0 < l.length ∧ l.length ≤ 384) ∧ Dw g A cap zs w0 w' := by
  have hgw : g < w.heap.size := h.lt
  have hs0 : w0.heap.size ≤ w.heap.size := h.size
  have BC := Lib.hid below_ex; have PC := Lib.hid pick_ex
  have FR := Lib.hid fun w0 w g h => l18frame_ex A cap zs w0 w g h
  have D0 := Lib.hid (h.alloc (.cells #[.int .i64 0, .int .i64 0, .slice none 0 0] 26))
  have R0 := Lib.hid (heap_alloc_new w (.cells #[.int .i64 0, .int .i64 0, .slice none 0 0] 26))
  have P2 : Hid (∀ (w0 w : World) (gl : Nat), Dw g A cap zs w0 w → w.heap[gl]? = some (.cells #[.int .i64 (-1), .int .i64 256] 3 (0, 0)) → gl ≠ g → Calls Try.prog 67 #[.pointer (some ⟨g, 0, none⟩), .slice (some ⟨gl, 0, none⟩) 2 2] w fun e w' => ∃ x : Int, e = .returned (.int .i64 x) ∧ x ∈ ([-1, 256] : List Int) ∧ Dw g A cap zs w0 w' ∧ w.grownBy w' (some g)) := Lib.hid (PC.out [-1, 256] (by simp) (by simp) g A cap zs)
  have hz : (w.alloc (.cells #[.int .i64 0, .int .i64 0, .slice none 0 0] 26)).heap.size = w.heap.size + 1 := by simp
  clear h
  go_enter Try.func66, Try.ntmps66
  go_wp2_with fail
  refine (FR.out _ _ _ D0.out.again).mono ?_
  rintro e w1 ⟨W, Hh, N, l, tb, c, rfl, hW, hH, hN, hl, hO, hD1⟩
  have hg1 := hD1.grown0
  have hD := D0.out.trans hD1
  rw [hz] at hO
  have R1 := (hg1.block w.heap.size (by rw [hz]; omega) (by simp; omega)).trans R0.out
  obtain ⟨htb, htw⟩ := hO.block tb rfl
  have hcl := hO.cap_le
  rw [hl] at hcl
  have hNb : N ≤ 384 ∧ 64 ≤ N := by
    have h1 : W * Hh ≤ 24 * 16 := Nat.mul_le_mul hW.2 hH.2
    have h2 : 8 * 8 ≤ W * Hh := Nat.mul_le_mul hW.1 hH.1
    omega
  obtain ⟨bb, hbb⟩ : ∃ bb, bb = w1.heap.size := ⟨_, rfl⟩
  obtain ⟨w2, hw2⟩ : ∃ w2, w2 = w1.alloc (.cells #[.int .i64 W, .int .i64 Hh, .slice (some ⟨tb, 0, none⟩) N c] 26) := ⟨_, rfl⟩
  have FH : FrH g A cap zs w0 bb w.heap.size N tb c (w.heap.size + 1) (.int .i64 W) (.int .i64 Hh) (.cells #[.int .i64 0, .int .i64 0, .slice none 0 0] 26 (0, 0)) w2 := by
    rw [hw2, hbb]
    exact ⟨heap_alloc_new _ _, (Below.heap_alloc _ _ _ (heap_lt R1)).trans R1, ⟨l, hl, World.ownsRow.alloc hO _⟩, hD.alloc _⟩
  have F2 := Lib.hid (frs_of FH)
  have h2 : bb < w2.heap.size := by rw [hw2, hbb]; simp
  have hgl := hD.lt
  have n1 : g ≠ bb := by omega
  have n2 : g ≠ w.heap.size := by omega
  have n3 : g < w.heap.size + 1 := by omega
  have n5 : bb ≠ tb := by omega
  have n6 : w.heap.size ≠ tb := by omega
  have n8 : w0.heap.size ≤ tb := by omega
  have n9 : g < tb := by omega
  have hbt : tb < bb := by omega
  have hRb : w.heap.size < bb := by omega
  have hgb : g < bb := by omega
  have hsb : w0.heap.size ≤ bb := by omega
  have HW2 := Lib.hid hw2; have HBB := Lib.hid hbb; have HCL := Lib.hid hcl
  clear hD1 hg1 hD hO R1 R0 D0 hz hw2 hbb FH hcl hl htw hgl hN
  go_wp2_with fail
  rw [← HW2.out, ← HBB.out]
  refine (BC.out 16 _ _ _ _ _ _ (frs_dw F2.out)).mono ?_
  rintro e w3 ⟨x, rfl, -, -, hD3, hg3⟩
  have F3 := Lib.hid (frs_call F2.out hg3 hD3 n1 n2 n3)
  have h3 : bb < w3.heap.size := Nat.lt_of_lt_of_le h2 hg3.size
  clear hD3 hg3 F2 HW2 HBB h2
  obtain ⟨kc, k3, r3, ⟨t3, ht3, o3⟩, d3⟩ := F3.out
  have K3 := Lib.hid k3; have R3 := Lib.hid r3; have O3 := Lib.hid o3; have D3 := Lib.hid d3; have T3 := Lib.hid ht3
  clear kc k3 r3 o3 d3 ht3
  obtain ⟨c0, c1, c2⟩ := cells3 K3.out
  obtain ⟨f0, f1, f2⟩ := frozen3 K3.out
  by_cases hx0 : x = 0
  · subst hx0
    have S0 := F3.out
    have S1 := frs_drew S0
    clear c0 c1 f0 f1 f2
    go_wp2_with fail
    go_region_held3 (fun w' => w'.cell? ⟨bb, 2, none⟩ = some (.slice (some ⟨tb, 0, none⟩) N c) ∧ FrH g A cap zs w0 bb w.heap.size N tb c (w.heap.size + 1) (.int .i64 W) (.int .i64 Hh) (.cells #[.int .i64 0, .int .i64 0, .slice none 0 0] 26 (0, 0)) w')
      (first | with_reducible assumption | (with_reducible refine frs_drew ?_; with_reducible assumption) | (with_reducible refine frs_alloc ?_ _; with_reducible assumption) | (with_reducible refine frs_drew (frs_alloc ?_ _); with_reducible assumption) | (exact frs_set (by with_reducible assumption) _ _ n5 n6 n8 n9) | fail)
      (first
        | (go_at_call 68; (with_reducible refine (BC.out (N : Int) _ _ _ _ _ _ (frs_dw (by with_reducible assumption))).mono ?_); rintro e w4 ⟨j, rfl, hj, -, hD4, hg4⟩; have hj1 : (j : Int) < (N : Int) := hj (by omega); have hl4 := hD4.lt; (first | (have GL := Lib.hid ((hg4.block w3.heap.size (by simp) (by first | (simp; omega) | simp)).trans (heap_alloc_new _ _))) | skip); have S4 := frs_call (by with_reducible assumption) hg4 hD4 n1 n2 n3; clear hj hD4 hg4)
        | (go_at_call 67; (first | (with_reducible refine (P2.out _ _ _ (frs_dw (by with_reducible assumption)) (heap_alloc_new _ _) (by first | omega | (simp; omega) | simp)).mono ?_) | (with_reducible refine (P2.out _ _ _ (frs_dw (by with_reducible assumption)) GL.out (by omega)).mono ?_)); rintro e w5 ⟨z, rfl, -, hD5, hg5⟩; have S5 := frs_call (by with_reducible assumption) hg5 hD5 n1 n2 n3; obtain ⟨fz, u0, cj⟩ := frs_cell S5 (show j < N by omega); have S5H := Lib.hid S5; clear hD5 hg5)
        | fail)
    all_goals
      have SF := Lib.hid (frs_set S5H.out j z n5 n6 n8 n9)
      obtain ⟨wF, hwF⟩ : ∃ wF, wF = w5.setCell ⟨tb, j, none⟩ (.int .i64 z) := ⟨_, rfl⟩
      rw [← hwF] at SF ⊢
      obtain ⟨-, kF, rF, ⟨tF, htF, oF⟩, dF⟩ := SF.out
      have KF := Lib.hid kF; have RF := Lib.hid rF; have OF := Lib.hid oF; have DF := Lib.hid dF; have TF := Lib.hid htF
      clear fz cj S5 hwF kF rF oF dF htF S0 S1 c2
      obtain ⟨c0, c1, c2⟩ := cells3 KF.out
      have RT := Lib.hid (RowOff.own OF.out (by rw [TF.out]; omega) (by rw [TF.out]; omega))
      obtain ⟨r0, r1, r2⟩ := cells3 RF.out
      obtain ⟨z0, z1, z2⟩ := frozen3 RF.out
      obtain ⟨e0, e1, e2⟩ := cells3 (put_three RF.out (.int .i64 W) (.int .i64 Hh) (.slice (some ⟨tb, 0, none⟩) N c))
      have og := Lib.hid ((RT.out.grown (grown_three wF w.heap.size (.int .i64 W) (.int .i64 Hh) (.slice (some ⟨tb, 0, none⟩) N c)) (Nat.lt_succ_self _)).low (Nat.le_succ _))
      have dz := Lib.hid (dw_put3 DF.out hs0 hgw (.int .i64 W) (.int .i64 Hh) (.slice (some ⟨tb, 0, none⟩) N c))
      go_wp2
      exact bodyPost_ret (v := .agg #[.int .i64 W, .int .i64 Hh, .slice (some ⟨tb, 0, none⟩) N c]) (by simp [results, Try.results66, go_sem, e0, e1, e2]) rfl ⟨(W : Int), (Hh : Int), tF, _, _, by rw [TF.out], ⟨by omega, by omega⟩, ⟨by omega, by omega⟩, og.out, by rw [TF.out]; exact HCL.out, ⟨by rw [TF.out]; omega, by rw [TF.out]; omega⟩, dz.out⟩
  · have q0 : ((x : Int) == 0) = false := by rw [beq_eq_false_iff_ne]; omega
    have RT := Lib.hid (RowOff.own O3.out (by rw [T3.out]; omega) (by rw [T3.out]; omega))
    by_cases hx1 : x = 1
    · subst hx1
      have P4 : Hid (∀ (w0 w : World) (gl : Nat), Dw g A cap zs w0 w → w.heap[gl]? = some (.cells #[.int .i64 0, .int .i64 7, .int .i64 40, .int .i64 ((W : Int) + 8)] 3 (0, 0)) → gl ≠ g → Calls Try.prog 67 #[.pointer (some ⟨g, 0, none⟩), .slice (some ⟨gl, 0, none⟩) 4 4] w fun e w' => ∃ x : Int, e = .returned (.int .i64 x) ∧ x ∈ ([0, 7, 40, (W : Int) + 8] : List Int) ∧ Dw g A cap zs w0 w' ∧ w.grownBy w' (some g)) := Lib.hid (PC.out [0, 7, 40, (W : Int) + 8] (by simp) (by simp) g A cap zs)
      have F3a := Lib.hid (frs_alloc F3.out (.cells #[.int .i64 0, .int .i64 7, .int .i64 40, .int .i64 ((W : Int) + 8)] 3))
      have hg3l := D3.out.lt
      go_wp2_with fail
      refine (P4.out _ _ w3.heap.size (frs_dw F3a.out) (heap_alloc_new w3 _) (by omega)).mono ?_
      rintro e w4 ⟨z, rfl, hzm, hD4, hg4⟩
      have hzr := pick_w hW.2 hzm
      have HZ := Lib.hid hzr
      obtain ⟨-, k4, r4, ⟨t4, ht4, o4⟩, d4⟩ := frs_call F3a.out hg4 hD4 n1 n2 n3
      have hb5 : Below bb w4 (w4.setCell ⟨bb, 0, none⟩ (.int .i64 z)) := (Below.refl bb w4).setCell (p := ⟨bb, 0, none⟩) (Nat.le_refl _) _
      have K4 := Lib.hid k4
      have R5 := Lib.hid ((hb5.block w.heap.size hRb).trans r4)
      have D5 := Lib.hid (d4.set hsb hgb 0 (.int .i64 z))
      have T4 := Lib.hid ht4
      have RT5 := Lib.hid (RowOff.lift (RowOff.own o4 (by rw [ht4]; omega) (by rw [ht4]; omega)) hb5 hbt)
      clear c0 c1 c2 f0 f1 f2 hD4 hg4 k4 r4 o4 d4 ht4 hzm hzr
      obtain ⟨c0, c1, c2⟩ := cells3 K4.out
      obtain ⟨f0, f1, f2⟩ := frozen3 K4.out
      obtain ⟨r0, r1, r2⟩ := cells3 R5.out
      obtain ⟨z0, z1, z2⟩ := frozen3 R5.out
      obtain ⟨e0, e1, e2⟩ := cells3 (put_three R5.out (.int .i64 z) (.int .i64 Hh) (.slice (some ⟨tb, 0, none⟩) N c))
      have og := Lib.hid ((RT5.out.grown (grown_three (w4.setCell ⟨bb, 0, none⟩ (.int .i64 z)) w.heap.size (.int .i64 z) (.int .i64 Hh) (.slice (some ⟨tb, 0, none⟩) N c)) (Nat.lt_succ_self _)).low (Nat.le_succ _))
      have dz := Lib.hid (dw_put3 D5.out hs0 hgw (.int .i64 z) (.int .i64 Hh) (.slice (some ⟨tb, 0, none⟩) N c))
      go_wp2
      exact bodyPost_ret (v := .agg #[.int .i64 z, .int .i64 Hh, .slice (some ⟨tb, 0, none⟩) N c]) (by simp [results, Try.results66, go_sem, e0, e1, e2]) rfl ⟨z, (Hh : Int), t4, _, _, by rw [T4.out], HZ.out, ⟨by omega, by omega⟩, og.out, by rw [T4.out]; exact HCL.out, ⟨by rw [T4.out]; omega, by rw [T4.out]; omega⟩, dz.out⟩
    · have q1 : ((x : Int) == 1) = false := by rw [beq_eq_false_iff_ne]; omega
      by_cases hx2 : x = 2
      · subst hx2
        have hc1 : ¬ c = 1 := by have := HCL.out; omega
        have hN1 : (1 : Int) ≤ (N : Int) := by omega
        have hcN : (N : Int) ≤ (c : Int) := by have := HCL.out; omega
        have hc2 : N ≤ c := HCL.out
        have hb5 : Below bb w3 (w3.setCell ⟨bb, 2, none⟩ (.slice (some ⟨tb, 1, none⟩) (N - 1) (c - 1))) := (Below.refl bb w3).setCell (p := ⟨bb, 2, none⟩) (Nat.le_refl _) _
        have R5 := Lib.hid ((hb5.block w.heap.size hRb).trans R3.out)
        have D5 := Lib.hid (D3.out.set hsb hgb 2 (.slice (some ⟨tb, 1, none⟩) (N - 1) (c - 1)))
        have RT5 := Lib.hid (RowOff.lift (RT.out.drop 1) hb5 hbt)
        have TD : Hid ((t3.drop 1).length = N - 1) := Lib.hid (by rw [List.length_drop, T3.out])
        obtain ⟨r0, r1, r2⟩ := cells3 R5.out
        obtain ⟨z0, z1, z2⟩ := frozen3 R5.out
        obtain ⟨e0, e1, e2⟩ := cells3 (put_three R5.out (.int .i64 W) (.int .i64 Hh) (.slice (some ⟨tb, 1, none⟩) (N - 1) (c - 1)))
        have og := Lib.hid ((RT5.out.grown (grown_three (w3.setCell ⟨bb, 2, none⟩ (.slice (some ⟨tb, 1, none⟩) (N - 1) (c - 1))) w.heap.size (.int .i64 W) (.int .i64 Hh) (.slice (some ⟨tb, 1, none⟩) (N - 1) (c - 1))) (Nat.lt_succ_self _)).low (Nat.le_succ _))
        have dz := Lib.hid (dw_put3 D5.out hs0 hgw (.int .i64 W) (.int .i64 Hh) (.slice (some ⟨tb, 1, none⟩) (N - 1) (c - 1)))
        go_wp2
        exact bodyPost_ret (v := .agg #[.int .i64 W, .int .i64 Hh, .slice (some ⟨tb, 1, none⟩) (N - 1) (c - 1)]) (by simp [results, Try.results66, go_sem, e0, e1, e2]) rfl ⟨(W : Int), (Hh : Int), t3.drop 1, _, _, by rw [TD.out], ⟨by omega, by omega⟩, ⟨by omega, by omega⟩, og.out, by rw [TD.out]; (have := HCL.out; omega), ⟨by rw [TD.out]; omega, by rw [TD.out]; omega⟩, dz.out⟩
      · have q2 : ((x : Int) == 2) = false := by rw [beq_eq_false_iff_ne]; omega
        obtain ⟨r0, r1, r2⟩ := cells3 R3.out
        obtain ⟨z0, z1, z2⟩ := frozen3 R3.out
        obtain ⟨e0, e1, e2⟩ := cells3 (put_three R3.out (.int .i64 W) (.int .i64 Hh) (.slice (some ⟨tb, 0, none⟩) N c))
        have og := Lib.hid ((RT.out.grown (grown_three w3 w.heap.size (.int .i64 W) (.int .i64 Hh) (.slice (some ⟨tb, 0, none⟩) N c)) (Nat.lt_succ_self _)).low (Nat.le_succ _))
        have dz := Lib.hid (dw_put3 D3.out hs0 hgw (.int .i64 W) (.int .i64 Hh) (.slice (some ⟨tb, 0, none⟩) N c))
        go_wp2
        exact bodyPost_ret (v := .agg #[.int .i64 W, .int .i64 Hh, .slice (some ⟨tb, 0, none⟩) N c]) (by simp [results, Try.results66, go_sem, e0, e1, e2]) rfl ⟨(W : Int), (Hh : Int), t3, _, _, by rw [T3.out], ⟨by omega, by omega⟩, ⟨by omega, by omega⟩, og.out, by rw [T3.out]; exact HCL.out, ⟨by rw [T3.out]; omega, by rw [T3.out]; omega⟩, dz.out⟩

end Go.Proofs.Ytemfiglflbfocaa
