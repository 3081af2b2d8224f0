/-
  The contract of the draw DrawPred. Condition: the input is no longer than 1048576 bytes.
-/
import Derived.Test.YtjgbenhjafgimaaPdM
namespace Go.Proofs.Ytjgbenhjafgimaa
open Go.RowKit
set_option linter.unusedVariables false

set_option maxRecDepth 100000 in
set_option maxHeartbeats 8000000 in
theorem drawpred_ex (A : Option Addr) (cap : Nat) (zs : List Int) (w : World) (hW : Code w A zs) :
    Calls Try.prog 10 #[.slice A zs.length cap] w fun e w' => ∃ (t l : List Int) (k : Int) (b1 b2 : Bool) (TA LB : Option Addr) (cA cB : Nat) (m y : Int), e = .returned (.tuple #[.int .i64 y, .agg #[.slice TA t.length cA, .slice LB l.length cB, .int .i64 k, .bool b1, .bool b2], .int .i64 m]) ∧ (0 ≤ m ∧ m ≤ 8) ∧ Ints w' w'.heap.size TA t ∧ Ints w' w'.heap.size LB l ∧ t.length ≤ cA ∧ l.length ≤ cB ∧ Below w.heap.size w w' := by
  have hz : (w.alloc (.cells #[.slice none 0 0, .slice none 0 0, .int .i64 0, .bool false, .bool false] 26)).heap.size = w.heap.size + 1 := by simp
  have hn := new_ex A cap zs (w.alloc (.cells #[.slice none 0 0, .slice none 0 0, .int .i64 0, .bool false, .bool false] 26)) (hW.below (below_new w _))
  rw [hz] at hn
  have HN := Lib.hid hn
  have LZ := Lib.hid hW.lies
  have BC := Lib.hid below_ex; have MC := Lib.hid l15mode_ex
  have DC := Lib.hid fun w g h => l14draw_at A cap zs w g h
  have R0 := Lib.hid (heap_alloc_new w (.cells #[.slice none 0 0, .slice none 0 0, .int .i64 0, .bool false, .bool false] 26))
  have B0 := Lib.hid (below_new w (.cells #[.slice none 0 0, .slice none 0 0, .int .i64 0, .bool false, .bool false] 26))
  clear hW hn
  go_enter Try.func10, Try.ntmps10
  go_wp2_with fail
  refine HN.out.mono ?_
  rintro e w1 ⟨rfl, hD1, hb1⟩
  obtain ⟨g, hg⟩ : ∃ g, g = w.heap.size + 1 := ⟨_, rfl⟩
  rw [← hg] at hD1 hb1 hz
  have hbw : Below w.heap.size w w1 := below_up B0.out (by rw [hz]; exact hb1) B0.out.size
  have hgw : w.grownBy w1 (some g) := ⟨hbw.os, hbw.tape, hbw.output, hbw.size, fun k hk _ => hbw.block k hk⟩
  have D1 := Lib.hid hD1
  have DW1 : Hid (Dw g A cap zs w w1) := Lib.hid (by obtain ⟨i, x, hC, _⟩ := hD1; exact ⟨i, x, hC, hgw⟩)
  have R1 := Lib.hid ((hb1.block w.heap.size (by omega)).trans R0.out)
  have L1 : Hid (Lies w1 w.heap.size A zs) := Lib.hid (LZ.out.kept fun k hk => hbw.block k hk)
  have hg1 : g < w1.heap.size := hD1.lt
  have hgR : w.heap.size < g := by omega
  clear hD1 hb1 hbw hgw hz R0 B0
  rw [← hg]
  clear hg
  go_wp2_with fail
  refine (DC.out _ _ D1.out).mono ?_
  rintro e w2 ⟨t, l, k, b1, b2, TA, LB, cA, cB, m, rfl, hm, hT, hL, hcA, hcB, hD2, hg2⟩
  have HM := Lib.hid hm; have HCA := Lib.hid hcA; have HCB := Lib.hid hcB
  have D2 := Lib.hid (DW1.out.trans hD2)
  have hR2 := (hg2.block w.heap.size (by omega) (by simp; omega)).trans R1.out
  have hL2 := L1.out.kept fun j hj => hg2.block j (by omega) (by simp; omega)
  have hs2 := hg2.size
  obtain ⟨bb, hbb⟩ : ∃ bb, bb = w2.heap.size := ⟨_, rfl⟩
  have n1 : g ≠ bb := by omega
  have n2 : g ≠ w.heap.size := by omega
  have n3 : g < w1.heap.size := hg1
  have n4 : bb ≠ w.heap.size := by omega
  have n5 : w.heap.size < w1.heap.size := by omega
  have n6 : w.heap.size ≤ w.heap.size := Nat.le_refl _
  have n7 : w.heap.size ≠ g := by omega
  have hK3 : (w2.alloc (.cells #[.slice TA t.length cA, .slice LB l.length cB, .int .i64 k, .bool b1, .bool b2] 26)).heap[bb]? = some (.cells #[.slice TA t.length cA, .slice LB l.length cB, .int .i64 k, .bool b1, .bool b2] 26 (0, 0)) := by rw [hbb]; exact heap_alloc_new w2 _
  have hA3 : NbA g A cap zs w w1.heap.size w.heap.size (w2.alloc (.cells #[.slice TA t.length cA, .slice LB l.length cB, .int .i64 k, .bool b1, .bool b2] 26)) := NbA.alloc ⟨⟨[], [], 0, false, false, none, none, 0, 0, hR2, RowOff.nil _ _, RowOff.nil _ _, Nat.le_refl _, Nat.le_refl _⟩, D2.out, hL2⟩ _
  have S0 : (w2.alloc (.cells #[.slice TA t.length cA, .slice LB l.length cB, .int .i64 k, .bool b1, .bool b2] 26)).cell? ⟨bb, 0, none⟩ = some (.slice TA t.length cA) ∧ (w2.alloc (.cells #[.slice TA t.length cA, .slice LB l.length cB, .int .i64 k, .bool b1, .bool b2] 26)).cell? ⟨bb, 1, none⟩ = some (.slice LB l.length cB) ∧ (w2.alloc (.cells #[.slice TA t.length cA, .slice LB l.length cB, .int .i64 k, .bool b1, .bool b2] 26)).cell? ⟨bb, 2, none⟩ = some (.int .i64 k) ∧ (w2.alloc (.cells #[.slice TA t.length cA, .slice LB l.length cB, .int .i64 k, .bool b1, .bool b2] 26)).cell? ⟨bb, 3, none⟩ = some (.bool b1) ∧ (w2.alloc (.cells #[.slice TA t.length cA, .slice LB l.length cB, .int .i64 k, .bool b1, .bool b2] 26)).cell? ⟨bb, 4, none⟩ = some (.bool b2) ∧ NbW g A cap zs w w1.heap.size bb w.heap.size t l k b1 b2 TA LB cA cB (w2.alloc (.cells #[.slice TA t.length cA, .slice LB l.length cB, .int .i64 k, .bool b1, .bool b2] 26)) := nbw_of ⟨hK3, hT.alloc _, hL.alloc _, hA3⟩
  obtain ⟨w3, hw3⟩ : ∃ w3, w3 = w2.alloc (.cells #[.slice TA t.length cA, .slice LB l.length cB, .int .i64 k, .bool b1, .bool b2] 26) := ⟨_, rfl⟩
  rw [← hw3] at S0 hK3
  have R3 : Hid (w3.heap[w.heap.size]? = some (.cells #[.slice none 0 0, .slice none 0 0, .int .i64 0, .bool false, .bool false] 26 (0, 0))) := Lib.hid (by rw [hw3]; exact (Below.heap_alloc w2 _ w.heap.size (by omega)).trans hR2)
  clear hm hcA hcB hT hL hD2 hg2 hR2 hL2 hK3 hA3 D1 DW1 R1 L1 D2 hs2
  have SH := Lib.hid S0; have HW3 := Lib.hid hw3; have HBB := Lib.hid hbb
  clear S0 hw3 hbb
  go_wp2_with fail
  rw [← HW3.out, ← HBB.out]
  obtain ⟨r0, r1, r2, r3, r4⟩ := cells5 R3.out
  obtain ⟨q0, q1, q2, q3, q4⟩ := frozen5 R3.out
  have hR3l : w.heap.size < w3.heap.size := heap_lt R3.out
  have S3 := nbw_drew SH.out
  obtain ⟨c0, c1, c2, c3, c4, -⟩ := SH.out
  go_region_held3 (fun w' => w'.cell? ⟨bb, 0, none⟩ = some (.slice TA t.length cA) ∧ w'.cell? ⟨bb, 1, none⟩ = some (.slice LB l.length cB) ∧ w'.cell? ⟨bb, 2, none⟩ = some (.int .i64 k) ∧ w'.cell? ⟨bb, 3, none⟩ = some (.bool b1) ∧ w'.cell? ⟨bb, 4, none⟩ = some (.bool b2) ∧ NbW g A cap zs w w1.heap.size bb w.heap.size t l k b1 b2 TA LB cA cB w')
    (first | with_reducible assumption | (with_reducible refine nbw_drew ?_; with_reducible assumption) | (with_reducible refine nbw_alloc ?_ _; with_reducible assumption) | (with_reducible refine nbw_drew (nbw_alloc ?_ _); with_reducible assumption) | (exact nbw_put (by with_reducible assumption) HCA.out HCB.out n4 n5 n6 n7) | (exact nbw_drew (nbw_put (by with_reducible assumption) HCA.out HCB.out n4 n5 n6 n7)) | fail)
    (first
      | (go_at_call 39; (with_reducible refine (MC.out _ _ _ _ _ _ (nbw_dw (by with_reducible assumption))).mono ?_); rintro e w5 ⟨y, rfl, hy6, hD5, hg5⟩; skip; have S5 := nbw_call (by with_reducible assumption) hg5 hD5 n1 n2 n3; have S5H := Lib.hid S5; obtain ⟨u0, u1, u2, u3, u4, hu⟩ := nbw_cells S5; obtain ⟨r0', r1', r2', r3', r4'⟩ := cells5 hu; obtain ⟨q0', q1', q2', q3', q4'⟩ := frozen5 hu; clear hD5 hg5 hu)
      | fail)
  all_goals
    have S5' := S5H.out
    go_wp2
    first
      | (have SF := S5'
         obtain ⟨⟨t', l', k', x1, x2, TA', LB', cA', cB', hR', rT', rL', hcA', hcB'⟩, hD', -⟩ := nbw_res SF
         obtain ⟨e0, e1, e2, e3, e4⟩ := cells5 hR'
         exact bodyPost_ret (v := .tuple #[.int .i64 y, .agg #[.slice TA' t'.length cA', .slice LB' l'.length cB', .int .i64 k', .bool x1, .bool x2], .int .i64 m]) (by simp [results, Try.results10, go_sem, e0, e1, e2, e3, e4]) rfl ⟨t', l', k', x1, x2, TA', LB', cA', cB', m, y, rfl, HM.out, rT'.1, rL'.1, hcA', hcB', hD'.belowOf (Nat.le_of_lt hgR) (Nat.le_refl _)⟩)
      | (have SF := nbw_put S5' HCA.out HCB.out n4 n5 n6 n7
         obtain ⟨⟨t', l', k', x1, x2, TA', LB', cA', cB', hR', rT', rL', hcA', hcB'⟩, hD', -⟩ := nbw_res SF
         obtain ⟨e0, e1, e2, e3, e4⟩ := cells5 hR'
         exact bodyPost_ret (v := .tuple #[.int .i64 y, .agg #[.slice TA' t'.length cA', .slice LB' l'.length cB', .int .i64 k', .bool x1, .bool x2], .int .i64 m]) (by simp [results, Try.results10, go_sem, e0, e1, e2, e3, e4]) rfl ⟨t', l', k', x1, x2, TA', LB', cA', cB', m, y, rfl, HM.out, rT'.1, rL'.1, hcA', hcB', hD'.belowOf (Nat.le_of_lt hgR) (Nat.le_refl _)⟩)
end Go.Proofs.Ytjgbenhjafgimaa
