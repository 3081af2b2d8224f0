/-
  Contracts of chapter 18's draws. Condition: the input is no longer than 1048576 bytes.
  Contracts of chapter 18's draw of any frame. Condition: the input is no longer than 1048576 bytes.
  Contracts of chapter 18's draw of a place in a frame. Condition: the input is no longer than 1048576 bytes.
  Contracts of chapter 18's draws of the laws' arguments. Condition: the input is no longer than 1048576 bytes.
-/
import Derived.Test.YtemfiglflbfocaaPdM
import Derived.Test.YtemfiglflbfocaaFrD
import Derived.Test.YtemfiglflbfocaaFrB
import Derived.Test.YtemfiglflbfocaaPrA
import Derived.Deep.RegionHeld3
namespace Go.Proofs.Ytemfiglflbfocaa
open Go.RowKit
set_option linter.unusedVariables false

theorem frozen3 {w : World} {g : Nat} {T : TypeId} {u v x : Value} (h : w.heap[g]? = some (.cells #[u, v, x] T (0, 0))) : w.frozen? ⟨g, 0, none⟩ = false ∧ w.frozen? ⟨g, 1, none⟩ = false ∧ w.frozen? ⟨g, 2, none⟩ = false :=
  ⟨frozen_of_row w g 0 _ _ h, frozen_of_row w g 1 _ _ h, frozen_of_row w g 2 _ _ h⟩
theorem grown_three (w : World) (g : Nat) (a b c : Value) : w.grownBy (((w.setCell ⟨g, 0, none⟩ a).setCell ⟨g, 1, none⟩ b).setCell ⟨g, 2, none⟩ c) (some g) :=
  ((grown_cell _ g 0 a).trans (grown_cell _ g 1 b)).trans (grown_cell _ g 2 c)
theorem put_three {w : World} {g : Nat} {T : TypeId} {u v x : Value} (h : w.heap[g]? = some (.cells #[u, v, x] T (0, 0))) (a b c : Value) : (((w.setCell ⟨g, 0, none⟩ a).setCell ⟨g, 1, none⟩ b).setCell ⟨g, 2, none⟩ c).heap[g]? = some (.cells #[a, b, c] T (0, 0)) := by
  rw [heap_setCell_same _ g 2 _ _ _ (heap_setCell_same _ g 1 _ _ _ (heap_setCell_same w g 0 _ _ _ h))]
  rfl
theorem dw_put3 {g : Nat} {A : Option Addr} {cap : Nat} {zs : List Int} {w0 w : World} (h : Dw g A cap zs w0 w) {R : Nat} (hR : w0.heap.size ≤ R) (hg : g < R) (a b c : Value) : Dw g A cap zs w0 (((w.setCell ⟨R, 0, none⟩ a).setCell ⟨R, 1, none⟩ b).setCell ⟨R, 2, none⟩ c) :=
  ((h.set hR hg 0 a).set hR hg 1 b).set hR hg 2 c
/-- A frame's block, the row that it holds (one's own), and the result's block. -/
def FrH (g : Nat) (A : Option Addr) (cap : Nat) (zs : List Int) (w0 : World) (bb R N tb cT baseT : Nat) (u0 u1 : Value) (z : Obj) (w : World) : Prop :=
  w.heap[bb]? = some (.cells #[u0, u1, .slice (some ⟨tb, 0, none⟩) N cT] 26 (0, 0)) ∧ w.heap[R]? = some z ∧ (∃ t : List Int, t.length = N ∧ OwnI w baseT (some ⟨tb, 0, none⟩) cT t) ∧ Dw g A cap zs w0 w
section
variable {g : Nat} {A : Option Addr} {cap : Nat} {zs : List Int} {w0 : World} {bb R N tb cT baseT : Nat} {u0 u1 : Value} {z : Obj} {w w' : World}
theorem frs_of (h : FrH g A cap zs w0 bb R N tb cT baseT u0 u1 z w) : w.cell? ⟨bb, 2, none⟩ = some (.slice (some ⟨tb, 0, none⟩) N cT) ∧ FrH g A cap zs w0 bb R N tb cT baseT u0 u1 z w := ⟨(cells3 h.1).2.2, h⟩
theorem frs_in (h : w.cell? ⟨bb, 2, none⟩ = some (.slice (some ⟨tb, 0, none⟩) N cT) ∧ FrH g A cap zs w0 bb R N tb cT baseT u0 u1 z w) : FrH g A cap zs w0 bb R N tb cT baseT u0 u1 z w := h.2
theorem frs_drew (h : w.cell? ⟨bb, 2, none⟩ = some (.slice (some ⟨tb, 0, none⟩) N cT) ∧ FrH g A cap zs w0 bb R N tb cT baseT u0 u1 z w) : w.drew.cell? ⟨bb, 2, none⟩ = some (.slice (some ⟨tb, 0, none⟩) N cT) ∧ FrH g A cap zs w0 bb R N tb cT baseT u0 u1 z w.drew := by
  obtain ⟨h0, h1, h2, ⟨t, ht, h3⟩, h5⟩ := h
  exact ⟨h0, h1, h2, ⟨t, ht, World.ownsRow.drew h3⟩, h5.drew⟩
theorem frs_alloc (h : w.cell? ⟨bb, 2, none⟩ = some (.slice (some ⟨tb, 0, none⟩) N cT) ∧ FrH g A cap zs w0 bb R N tb cT baseT u0 u1 z w) (o : Obj) : (w.alloc o).cell? ⟨bb, 2, none⟩ = some (.slice (some ⟨tb, 0, none⟩) N cT) ∧ FrH g A cap zs w0 bb R N tb cT baseT u0 u1 z (w.alloc o) := by
  obtain ⟨h0, h1, h2, ⟨t, ht, h3⟩, h5⟩ := h
  exact frs_of ⟨(Below.heap_alloc _ _ _ (heap_lt h1)).trans h1, (Below.heap_alloc _ _ _ (heap_lt h2)).trans h2, ⟨t, ht, World.ownsRow.alloc h3 o⟩, h5.alloc o⟩
theorem frs_dw (h : w.cell? ⟨bb, 2, none⟩ = some (.slice (some ⟨tb, 0, none⟩) N cT) ∧ FrH g A cap zs w0 bb R N tb cT baseT u0 u1 z w) : Dw g A cap zs w0 w := h.2.2.2.2
theorem frs_call (h : w.cell? ⟨bb, 2, none⟩ = some (.slice (some ⟨tb, 0, none⟩) N cT) ∧ FrH g A cap zs w0 bb R N tb cT baseT u0 u1 z w) (hg : w.grownBy w' (some g)) (hD : Dw g A cap zs w0 w') (h1 : g ≠ bb) (h2 : g ≠ R) (h3 : g < baseT) : w'.cell? ⟨bb, 2, none⟩ = some (.slice (some ⟨tb, 0, none⟩) N cT) ∧ FrH g A cap zs w0 bb R N tb cT baseT u0 u1 z w' := by
  obtain ⟨g0, g1, g2, ⟨t, ht, g3⟩, g5⟩ := h
  exact frs_of ⟨(hg.block bb (heap_lt g1) (by simp; omega)).trans g1, (hg.block R (heap_lt g2) (by simp; omega)).trans g2, ⟨t, ht, own_dw g3 hg h3⟩, hD⟩
theorem frs_set (h : w.cell? ⟨bb, 2, none⟩ = some (.slice (some ⟨tb, 0, none⟩) N cT) ∧ FrH g A cap zs w0 bb R N tb cT baseT u0 u1 z w) (j : Nat) (v : Int) (h1 : bb ≠ tb) (h2 : R ≠ tb) (h4 : w0.heap.size ≤ tb) (h5 : g < tb) : (w.setCell ⟨tb, j, none⟩ (.int .i64 v)).cell? ⟨bb, 2, none⟩ = some (.slice (some ⟨tb, 0, none⟩) N cT) ∧ FrH g A cap zs w0 bb R N tb cT baseT u0 u1 z (w.setCell ⟨tb, j, none⟩ (.int .i64 v)) := by
  obtain ⟨g0, g1, g2, ⟨t, ht, g3⟩, g5⟩ := h
  have s := (World.ownsRow.stored g3 j (.int .i64 v)).1
  rw [ivs_set] at s
  refine frs_of ⟨(heap_setCell_other _ _ _ _ h1).trans g1, (heap_setCell_other _ _ _ _ h2).trans g2, ⟨t.set j v, by rw [List.length_set]; exact ht, ?_⟩, g5.set h4 h5 j _⟩
  unfold OwnI
  rw [List.length_set]
  exact s
theorem frs_cell (h : w.cell? ⟨bb, 2, none⟩ = some (.slice (some ⟨tb, 0, none⟩) N cT) ∧ FrH g A cap zs w0 bb R N tb cT baseT u0 u1 z w) {j : Nat} (hj : j < N) : w.frozen? ⟨tb, j, none⟩ = false ∧ ∃ u, w.cell? ⟨tb, j, none⟩ = some u := by
  obtain ⟨g0, g1, g2, ⟨t, ht, g3⟩, g5⟩ := h
  exact ⟨World.ownsRow.frozenAt g3 j, _, (World.ownsRow.cellAt g3 j (by omega)).trans (ivs_at t j (by omega))⟩
end

set_option maxRecDepth 100000 in
set_option maxHeartbeats 8000000 in
theorem l18frame_ex (A : Option Addr) (cap : Nat) (zs : List Int) (w0 w : World) (g : Nat) (h : Dw g A cap zs w0 w) :
    Calls Try.prog 73 #[.pointer (some ⟨g, 0, none⟩)] w fun e w' => ∃ (a b N : Nat) (l : List Int) (tb c : Nat), e = .returned (.agg #[.int .i64 a, .int .i64 b, .slice (some ⟨tb, 0, none⟩) N c]) ∧ (8 ≤ a ∧ a ≤ 24) ∧ (8 ≤ b ∧ b ≤ 16) ∧ N = a * b ∧ l.length = N ∧ OwnI w' w.heap.size (some ⟨tb, 0, none⟩) c l ∧ Dw g A cap zs w0 w' := by
  have hgw : g < w.heap.size := h.lt
  have hs0 : w0.heap.size ≤ w.heap.size := h.size
  have BC := Lib.hid below_ex; have PC := Lib.hid pick_ex; have CL := Lib.hid l15clip_any
  have D0 := Lib.hid (h.alloc (.cells #[.int .i64 0, .int .i64 0, .slice none 0 0] 26))
  have R0 := Lib.hid (heap_alloc_new w (.cells #[.int .i64 0, .int .i64 0, .slice none 0 0] 26))
  have P5 : Hid (∀ (w0 w : World) (gl : Nat), Dw g A cap zs w0 w → w.heap[gl]? = some (.cells #[.int .i64 1, .int .i64 1, .int .i64 3, .int .i64 40, .int .i64 256] 3 (0, 0)) → gl ≠ g → Calls Try.prog 67 #[.pointer (some ⟨g, 0, none⟩), .slice (some ⟨gl, 0, none⟩) 5 5] w fun e w' => ∃ x : Int, e = .returned (.int .i64 x) ∧ x ∈ ([1, 1, 3, 40, 256] : List Int) ∧ Dw g A cap zs w0 w' ∧ w.grownBy w' (some g)) := Lib.hid (PC.out [1, 1, 3, 40, 256] (by simp) (by simp) g A cap zs)
  have hz : (w.alloc (.cells #[.int .i64 0, .int .i64 0, .slice none 0 0] 26)).heap.size = w.heap.size + 1 := by simp
  clear h
  go_enter Try.func73, Try.ntmps73
  go_wp2_with fail
  refine (BC.out 3 _ _ _ _ _ _ D0.out).mono ?_
  rintro e w1 ⟨x, rfl, hx, -, hD1, hg1⟩
  have hx1 : (x : Int) < 3 := hx (by decide)
  have D1 := Lib.hid hD1; have S1 : w.heap.size + 1 ≤ w1.heap.size := by rw [← hz]; exact hg1.size
  have R1 := Lib.hid ((hg1.block w.heap.size (by rw [hz]; omega) (by simp; omega)).trans R0.out)
  obtain ⟨x1, hx2⟩ : ∃ x1 : Nat, (1 : Int) + (x : Int) = (x1 : Int) := ⟨1 + x, by omega⟩
  obtain ⟨W, hW⟩ : ∃ W : Nat, (8 : Int) * (x1 : Int) = (W : Int) := ⟨8 * x1, by omega⟩
  have hWb : 8 ≤ W ∧ W ≤ 24 ∧ W % 8 = 0 := by omega
  clear hx hD1 hg1 D0 R0 hz
  go_wp2_with fail
  refine (BC.out 2 _ _ _ _ _ _ D1.out).mono ?_
  rintro e w2 ⟨y, rfl, hy, -, hD2, hg2⟩
  have hy1 : (y : Int) < 2 := hy (by decide)
  have D2 := Lib.hid hD2; have S2 : w.heap.size + 1 ≤ w2.heap.size := Nat.le_trans S1 hg2.size
  have R2 := Lib.hid ((hg2.block w.heap.size (by omega) (by simp; omega)).trans R1.out)
  obtain ⟨y1, hy2⟩ : ∃ x1 : Nat, (1 : Int) + (y : Int) = (x1 : Int) := ⟨1 + y, by omega⟩
  obtain ⟨Hh, hH⟩ : ∃ W : Nat, (8 : Int) * (y1 : Int) = (W : Int) := ⟨8 * y1, by omega⟩
  have hHb : 8 ≤ Hh ∧ Hh ≤ 16 ∧ Hh % 8 = 0 := by omega
  have FN := Lib.hid (spec_framenew_any (W : Int) (Hh : Int))
  have hsd : sidesE (W : Int) (Hh : Int) = true := by simp [sidesE, sidE]; omega
  have e1 : newW (W : Int) (Hh : Int) = (W : Int) := by unfold newW; rw [if_pos hsd]
  have e2 : newH (W : Int) (Hh : Int) = (Hh : Int) := by unfold newH; rw [if_pos hsd]
  obtain ⟨N, hN⟩ : ∃ N, N = W * Hh := ⟨_, rfl⟩
  have hNi : (W : Int) * (Hh : Int) = (N : Int) := by rw [hN]; exact_mod_cast rfl
  have e3 : newL (W : Int) (Hh : Int) = List.replicate N 0 := by unfold newL; rw [if_pos hsd, hNi, Int.toNat_natCast]
  have hNb : 64 ≤ N ∧ N ≤ 384 := by
    have h1 : 8 * 8 ≤ W * Hh := Nat.mul_le_mul hWb.1 hHb.1
    have h2 : W * Hh ≤ 24 * 16 := Nat.mul_le_mul hWb.2.1 hHb.2.1
    omega
  rw [e1, e2, e3, List.length_replicate] at FN
  have HN := Lib.hid hN
  clear hy hD2 hg2 D1 R1 hsd e1 e2 e3 hN
  go_wp2_with fail
  refine (FN.out w2).mono ?_
  rintro e w3 ⟨TA, cT, rfl, hoT, hb3⟩
  obtain ⟨tb, rfl, htb, htw, -⟩ := own_whereO hoT rfl (by rw [List.length_replicate]; omega)
  have D3 := D2.out.below hb3
  have R3 := (hb3.block w.heap.size (by omega)).trans R2.out
  have hb4 := below_new w3 (.cells #[.int .i64 W, .int .i64 Hh, .slice (some ⟨tb, 0, none⟩) N cT] 26)
  obtain ⟨bb, hbb⟩ : ∃ bb, bb = w3.heap.size := ⟨_, rfl⟩
  obtain ⟨w4, hw4⟩ : ∃ w4, w4 = w3.alloc (.cells #[.int .i64 W, .int .i64 Hh, .slice (some ⟨tb, 0, none⟩) N cT] 26) := ⟨_, rfl⟩
  have hg2l := D2.out.lt
  have FH4 : FrH g A cap zs w0 bb w.heap.size N tb cT w2.heap.size (.int .i64 W) (.int .i64 Hh) (.cells #[.int .i64 0, .int .i64 0, .slice none 0 0] 26 (0, 0)) w4 := by
    rw [hw4, hbb]
    exact ⟨heap_alloc_new _ _, (Below.heap_alloc _ _ _ (heap_lt R3)).trans R3, ⟨_, List.length_replicate, World.ownsRow.alloc hoT _⟩, D3.alloc _⟩
  have F4 := Lib.hid (frs_of FH4)
  have htbb : tb < bb := by omega
  have n1 : g ≠ bb := by have := hb3.size; omega
  have n2 : g ≠ w.heap.size := by omega
  have n3 : g < w2.heap.size := hg2l
  have n5 : bb ≠ tb := by omega
  have n6 : w.heap.size ≠ tb := by omega
  have n8 : w0.heap.size ≤ tb := by omega
  have n9 : g < tb := by omega
  have hlow : w.heap.size ≤ w2.heap.size := by omega
  have HW4 := Lib.hid hw4; have HBB := Lib.hid hbb
  clear hoT hb3 D3 R3 hb4 FH4 htb htw hw4 hbb hg2l D2 R2 FN
  go_wp2_with fail
  rw [← HW4.out, ← HBB.out]
  refine (BC.out 256 _ _ _ _ _ _ (frs_dw F4.out)).mono ?_
  rintro e w5 ⟨b0, rfl, -, -, hD5, hg5⟩
  have F5 := Lib.hid (frs_call F4.out hg5 hD5 n1 n2 n3)
  clear hD5 hg5 F4 HW4 HBB
  go_wp2_with fail
  refine (BC.out 9 _ _ _ _ _ _ (frs_dw F5.out)).mono ?_
  rintro e w6 ⟨b1, rfl, -, -, hD6, hg6⟩
  have F6 := Lib.hid (frs_call F5.out hg6 hD6 n1 n2 n3)
  clear hD6 hg6 F5
  go_wp2_with fail
  refine (BC.out 9 _ _ _ _ _ _ (frs_dw F6.out)).mono ?_
  rintro e w7 ⟨b2, rfl, -, -, hD7, hg7⟩
  have F7 := Lib.hid (frs_call F6.out hg7 hD7 n1 n2 n3)
  clear hD7 hg7 F6
  have F7a := Lib.hid (frs_alloc F7.out (.cells #[.int .i64 1, .int .i64 1, .int .i64 3, .int .i64 40, .int .i64 256] 3))
  have hg7l := (frs_dw F7.out).lt
  go_wp2_with fail
  refine (P5.out _ _ w7.heap.size (frs_dw F7a.out) (heap_alloc_new w7 _) (by omega)).mono ?_
  rintro e w8 ⟨z, rfl, -, hD8, hg8⟩
  have F8 := Lib.hid (frs_call F7a.out hg8 hD8 n1 n2 n3)
  clear hD8 hg8 F7 F7a hg7l
  go_wp2
  go_loopw [10] (fun x10 wr => ∃ j : Nat, j ≤ N ∧ x10 = .int .i64 j ∧ wr.cell? ⟨bb, 2, none⟩ = some (.slice (some ⟨tb, 0, none⟩) N cT) ∧ FrH g A cap zs w0 bb w.heap.size N tb cT w2.heap.size (.int .i64 W) (.int .i64 Hh) (.cells #[.int .i64 0, .int .i64 0, .slice none 0 0] 26 (0, 0)) wr) (fun x10 _ => N - (intOf x10).toNat)
  case atStart => exact ⟨0, Nat.zero_le _, rfl, F8.out⟩
  case round =>
    obtain ⟨j, hj, rfl, hF⟩ := hrel
    have HF := Lib.hid hF
    by_cases hlt : j < N
    · have d1 : decide ((j : Int) < (N : Int)) = true := by simp; omega
      have hF1 := frs_drew hF
      have hW0 : (W : Int) ≠ 0 := by omega
      have hW1 : ((W : Int) == 0) = false := by rw [beq_eq_false_iff_ne]; exact hW0
      have hW2 : ¬ W = 0 := by omega
      have hW3 : ¬ (W : Int) = 0 := hW0
      have hjN : (j : Int) < (N : Int) := by omega
      go_wp2_with fail
      go_region_held3 (fun w' => w'.cell? ⟨bb, 2, none⟩ = some (.slice (some ⟨tb, 0, none⟩) N cT) ∧ FrH g A cap zs w0 bb w.heap.size N tb cT w2.heap.size (.int .i64 W) (.int .i64 Hh) (.cells #[.int .i64 0, .int .i64 0, .slice none 0 0] 26 (0, 0)) w')
        (first | with_reducible assumption | (with_reducible refine frs_drew ?_; with_reducible assumption) | (with_reducible refine frs_alloc ?_ _; with_reducible assumption) | (with_reducible refine frs_drew (frs_alloc ?_ _); with_reducible assumption) | (exact frs_set (by with_reducible assumption) _ _ n5 n6 n8 n9) | fail)
        (first
          | (go_at_call 68; (refine (BC.out _ _ _ _ _ _ _ (frs_dw (by with_reducible assumption))).mono ?_); rintro e wa ⟨u, rfl, -, -, hDa, hga⟩; have Sa := frs_call (by with_reducible assumption) hga hDa n1 n2 n3; have SaH := Lib.hid Sa; clear hDa hga)
          | (go_at_call 77; (refine (CL.out _ _).mono ?_); rintro e wb ⟨rfl, hwb⟩; have Sb := SaH.out; obtain ⟨fz, u0, cj⟩ := frs_cell Sb hlt; subst hwb)
          | fail)
      all_goals
        have SF := Lib.hid fun v => frs_set SaH.out j v n5 n6 n8 n9
        go_wp2
        go_roundw
        case rel => exact ⟨j + 1, by omega, by go_num, SF.out _⟩
        case measure => simp [intOf]; omega
    · have d1 : decide ((j : Int) < (N : Int)) = false := by simp; omega
      obtain ⟨-, kF, rF, ⟨tF, htF, oF⟩, dF⟩ := hF
      obtain ⟨c0, c1, c2⟩ := cells3 kF
      obtain ⟨r0, r1, r2⟩ := cells3 rF
      obtain ⟨z0, z1, z2⟩ := frozen3 rF
      obtain ⟨e0, e1, e2⟩ := cells3 (put_three rF (.int .i64 W) (.int .i64 Hh) (.slice (some ⟨tb, 0, none⟩) N cT))
      have og := Lib.hid ((own_ne oF (grown_three wr w.heap.size (.int .i64 W) (.int .i64 Hh) (.slice (some ⟨tb, 0, none⟩) N cT)) (fun k hk => by simp only [Value.ownBlock, Option.some.injEq] at hk; omega)).low hlow)
      have dz := Lib.hid (dw_put3 dF hs0 hgw (.int .i64 W) (.int .i64 Hh) (.slice (some ⟨tb, 0, none⟩) N cT))
      have TLF := Lib.hid htF
      clear kF rF oF dF htF
      go_wp2
      exact bodyPost_ret (v := .agg #[.int .i64 W, .int .i64 Hh, .slice (some ⟨tb, 0, none⟩) N cT]) (by simp [results, Try.results73, go_sem, e0, e1, e2]) rfl ⟨W, Hh, N, tF, tb, cT, rfl, ⟨hWb.1, hWb.2.1⟩, ⟨hHb.1, hHb.2.1⟩, HN.out, TLF.out, og.out, dz.out⟩

end Go.Proofs.Ytemfiglflbfocaa

namespace Go.Proofs.Ytemfiglflbfocaa
open Go.RowKit
set_option linter.unusedVariables false

theorem pick_w {W : Nat} {y : Int} (hW : W ≤ 24) (h : y ∈ ([0, 7, 40, (W : Int) + 8] : List Int)) : 0 ≤ y ∧ y ≤ 40 := by
  simp only [List.mem_cons, List.mem_nil_iff, or_false] at h
  omega
set_option maxRecDepth 100000 in
set_option maxHeartbeats 8000000 in
theorem l18any_ex (A : Option Addr) (cap : Nat) (zs : List Int) (w0 w : World) (g : Nat) (h : Dw g A cap zs w0 w) :
    Calls Try.prog 66 #[.pointer (some ⟨g, 0, none⟩)] w fun e w' => ∃ (a b : Int) (l : List Int) (TA : Option Addr) (c : Nat), e = .returned (.agg #[.int .i64 a, .int .i64 b, .slice TA l.length c]) ∧ (0 ≤ a ∧ a ≤ 40) ∧ (0 ≤ b ∧ b ≤ 40) ∧ RowOff w.heap.size w' TA l ∧ l.length ≤ c ∧ (0 < l.length ∧ l.length ≤ 384) ∧ Dw g A cap zs w0 w' := by
  have hgw : g < w.heap.size := h.lt
  have hs0 : w0.heap.size ≤ w.heap.size := h.size
  have BC := Lib.hid below_ex; have PC := Lib.hid pick_ex
  have FR := Lib.hid fun w0 w g h => l18frame_ex A cap zs w0 w g h
  have D0 := Lib.hid (h.alloc (.cells #[.int .i64 0, .int .i64 0, .slice none 0 0] 26))
  have R0 := Lib.hid (heap_alloc_new w (.cells #[.int .i64 0, .int .i64 0, .slice none 0 0] 26))
  have P2 : Hid (∀ (w0 w : World) (gl : Nat), Dw g A cap zs w0 w → w.heap[gl]? = some (.cells #[.int .i64 (-1), .int .i64 256] 3 (0, 0)) → gl ≠ g → Calls Try.prog 67 #[.pointer (some ⟨g, 0, none⟩), .slice (some ⟨gl, 0, none⟩) 2 2] w fun e w' => ∃ x : Int, e = .returned (.int .i64 x) ∧ x ∈ ([-1, 256] : List Int) ∧ Dw g A cap zs w0 w' ∧ w.grownBy w' (some g)) := Lib.hid (PC.out [-1, 256] (by simp) (by simp) g A cap zs)
  have hz : (w.alloc (.cells #[.int .i64 0, .int .i64 0, .slice none 0 0] 26)).heap.size = w.heap.size + 1 := by simp
  clear h
  go_enter Try.func66, Try.ntmps66
  go_wp2_with fail
  refine (FR.out _ _ _ D0.out.again).mono ?_
  rintro e w1 ⟨W, Hh, N, l, tb, c, rfl, hW, hH, hN, hl, hO, hD1⟩
  have hg1 := hD1.grown0
  have hD := D0.out.trans hD1
  rw [hz] at hO
  have R1 := (hg1.block w.heap.size (by rw [hz]; omega) (by simp; omega)).trans R0.out
  obtain ⟨htb, htw⟩ := hO.block tb rfl
  have hcl := hO.cap_le
  rw [hl] at hcl
  have hNb : N ≤ 384 ∧ 64 ≤ N := by
    have h1 : W * Hh ≤ 24 * 16 := Nat.mul_le_mul hW.2 hH.2
    have h2 : 8 * 8 ≤ W * Hh := Nat.mul_le_mul hW.1 hH.1
    omega
  obtain ⟨bb, hbb⟩ : ∃ bb, bb = w1.heap.size := ⟨_, rfl⟩
  obtain ⟨w2, hw2⟩ : ∃ w2, w2 = w1.alloc (.cells #[.int .i64 W, .int .i64 Hh, .slice (some ⟨tb, 0, none⟩) N c] 26) := ⟨_, rfl⟩
  have FH : FrH g A cap zs w0 bb w.heap.size N tb c (w.heap.size + 1) (.int .i64 W) (.int .i64 Hh) (.cells #[.int .i64 0, .int .i64 0, .slice none 0 0] 26 (0, 0)) w2 := by
    rw [hw2, hbb]
    exact ⟨heap_alloc_new _ _, (Below.heap_alloc _ _ _ (heap_lt R1)).trans R1, ⟨l, hl, World.ownsRow.alloc hO _⟩, hD.alloc _⟩
  have F2 := Lib.hid (frs_of FH)
  have h2 : bb < w2.heap.size := by rw [hw2, hbb]; simp
  have hgl := hD.lt
  have n1 : g ≠ bb := by omega
  have n2 : g ≠ w.heap.size := by omega
  have n3 : g < w.heap.size + 1 := by omega
  have n5 : bb ≠ tb := by omega
  have n6 : w.heap.size ≠ tb := by omega
  have n8 : w0.heap.size ≤ tb := by omega
  have n9 : g < tb := by omega
  have hbt : tb < bb := by omega
  have hRb : w.heap.size < bb := by omega
  have hgb : g < bb := by omega
  have hsb : w0.heap.size ≤ bb := by omega
  have HW2 := Lib.hid hw2; have HBB := Lib.hid hbb; have HCL := Lib.hid hcl
  clear hD1 hg1 hD hO R1 R0 D0 hz hw2 hbb FH hcl hl htw hgl hN
  go_wp2_with fail
  rw [← HW2.out, ← HBB.out]
  refine (BC.out 16 _ _ _ _ _ _ (frs_dw F2.out)).mono ?_
  rintro e w3 ⟨x, rfl, -, -, hD3, hg3⟩
  have F3 := Lib.hid (frs_call F2.out hg3 hD3 n1 n2 n3)
  have h3 : bb < w3.heap.size := Nat.lt_of_lt_of_le h2 hg3.size
  clear hD3 hg3 F2 HW2 HBB h2
  obtain ⟨kc, k3, r3, ⟨t3, ht3, o3⟩, d3⟩ := F3.out
  have K3 := Lib.hid k3; have R3 := Lib.hid r3; have O3 := Lib.hid o3; have D3 := Lib.hid d3; have T3 := Lib.hid ht3
  clear kc k3 r3 o3 d3 ht3
  obtain ⟨c0, c1, c2⟩ := cells3 K3.out
  obtain ⟨f0, f1, f2⟩ := frozen3 K3.out
  by_cases hx0 : x = 0
  · subst hx0
    have S0 := F3.out
    have S1 := frs_drew S0
    clear c0 c1 f0 f1 f2
    go_wp2_with fail
    go_region_held3 (fun w' => w'.cell? ⟨bb, 2, none⟩ = some (.slice (some ⟨tb, 0, none⟩) N c) ∧ FrH g A cap zs w0 bb w.heap.size N tb c (w.heap.size + 1) (.int .i64 W) (.int .i64 Hh) (.cells #[.int .i64 0, .int .i64 0, .slice none 0 0] 26 (0, 0)) w')
      (first | with_reducible assumption | (with_reducible refine frs_drew ?_; with_reducible assumption) | (with_reducible refine frs_alloc ?_ _; with_reducible assumption) | (with_reducible refine frs_drew (frs_alloc ?_ _); with_reducible assumption) | (exact frs_set (by with_reducible assumption) _ _ n5 n6 n8 n9) | fail)
      (first
        | (go_at_call 68; (with_reducible refine (BC.out (N : Int) _ _ _ _ _ _ (frs_dw (by with_reducible assumption))).mono ?_); rintro e w4 ⟨j, rfl, hj, -, hD4, hg4⟩; have hj1 : (j : Int) < (N : Int) := hj (by omega); have hl4 := hD4.lt; (first | (have GL := Lib.hid ((hg4.block w3.heap.size (by simp) (by first | (simp; omega) | simp)).trans (heap_alloc_new _ _))) | skip); have S4 := frs_call (by with_reducible assumption) hg4 hD4 n1 n2 n3; clear hj hD4 hg4)
        | (go_at_call 67; (first | (with_reducible refine (P2.out _ _ _ (frs_dw (by with_reducible assumption)) (heap_alloc_new _ _) (by first | omega | (simp; omega) | simp)).mono ?_) | (with_reducible refine (P2.out _ _ _ (frs_dw (by with_reducible assumption)) GL.out (by omega)).mono ?_)); rintro e w5 ⟨z, rfl, -, hD5, hg5⟩; have S5 := frs_call (by with_reducible assumption) hg5 hD5 n1 n2 n3; obtain ⟨fz, u0, cj⟩ := frs_cell S5 (show j < N by omega); have S5H := Lib.hid S5; clear hD5 hg5)
        | fail)
    all_goals
      have SF := Lib.hid (frs_set S5H.out j z n5 n6 n8 n9)
      obtain ⟨wF, hwF⟩ : ∃ wF, wF = w5.setCell ⟨tb, j, none⟩ (.int .i64 z) := ⟨_, rfl⟩
      rw [← hwF] at SF ⊢
      obtain ⟨-, kF, rF, ⟨tF, htF, oF⟩, dF⟩ := SF.out
      have KF := Lib.hid kF; have RF := Lib.hid rF; have OF := Lib.hid oF; have DF := Lib.hid dF; have TF := Lib.hid htF
      clear fz cj S5 hwF kF rF oF dF htF S0 S1 c2
      obtain ⟨c0, c1, c2⟩ := cells3 KF.out
      have RT := Lib.hid (RowOff.own OF.out (by rw [TF.out]; omega) (by rw [TF.out]; omega))
      obtain ⟨r0, r1, r2⟩ := cells3 RF.out
      obtain ⟨z0, z1, z2⟩ := frozen3 RF.out
      obtain ⟨e0, e1, e2⟩ := cells3 (put_three RF.out (.int .i64 W) (.int .i64 Hh) (.slice (some ⟨tb, 0, none⟩) N c))
      have og := Lib.hid ((RT.out.grown (grown_three wF w.heap.size (.int .i64 W) (.int .i64 Hh) (.slice (some ⟨tb, 0, none⟩) N c)) (Nat.lt_succ_self _)).low (Nat.le_succ _))
      have dz := Lib.hid (dw_put3 DF.out hs0 hgw (.int .i64 W) (.int .i64 Hh) (.slice (some ⟨tb, 0, none⟩) N c))
      go_wp2
      exact bodyPost_ret (v := .agg #[.int .i64 W, .int .i64 Hh, .slice (some ⟨tb, 0, none⟩) N c]) (by simp [results, Try.results66, go_sem, e0, e1, e2]) rfl ⟨(W : Int), (Hh : Int), tF, _, _, by rw [TF.out], ⟨by omega, by omega⟩, ⟨by omega, by omega⟩, og.out, by rw [TF.out]; exact HCL.out, ⟨by rw [TF.out]; omega, by rw [TF.out]; omega⟩, dz.out⟩
  · have q0 : ((x : Int) == 0) = false := by rw [beq_eq_false_iff_ne]; omega
    have RT := Lib.hid (RowOff.own O3.out (by rw [T3.out]; omega) (by rw [T3.out]; omega))
    by_cases hx1 : x = 1
    · subst hx1
      have P4 : Hid (∀ (w0 w : World) (gl : Nat), Dw g A cap zs w0 w → w.heap[gl]? = some (.cells #[.int .i64 0, .int .i64 7, .int .i64 40, .int .i64 ((W : Int) + 8)] 3 (0, 0)) → gl ≠ g → Calls Try.prog 67 #[.pointer (some ⟨g, 0, none⟩), .slice (some ⟨gl, 0, none⟩) 4 4] w fun e w' => ∃ x : Int, e = .returned (.int .i64 x) ∧ x ∈ ([0, 7, 40, (W : Int) + 8] : List Int) ∧ Dw g A cap zs w0 w' ∧ w.grownBy w' (some g)) := Lib.hid (PC.out [0, 7, 40, (W : Int) + 8] (by simp) (by simp) g A cap zs)
      have F3a := Lib.hid (frs_alloc F3.out (.cells #[.int .i64 0, .int .i64 7, .int .i64 40, .int .i64 ((W : Int) + 8)] 3))
      have hg3l := D3.out.lt
      go_wp2_with fail
      refine (P4.out _ _ w3.heap.size (frs_dw F3a.out) (heap_alloc_new w3 _) (by omega)).mono ?_
      rintro e w4 ⟨z, rfl, hzm, hD4, hg4⟩
      have hzr := pick_w hW.2 hzm
      have HZ := Lib.hid hzr
      obtain ⟨-, k4, r4, ⟨t4, ht4, o4⟩, d4⟩ := frs_call F3a.out hg4 hD4 n1 n2 n3
      have hb5 : Below bb w4 (w4.setCell ⟨bb, 0, none⟩ (.int .i64 z)) := (Below.refl bb w4).setCell (p := ⟨bb, 0, none⟩) (Nat.le_refl _) _
      have K4 := Lib.hid k4
      have R5 := Lib.hid ((hb5.block w.heap.size hRb).trans r4)
      have D5 := Lib.hid (d4.set hsb hgb 0 (.int .i64 z))
      have T4 := Lib.hid ht4
      have RT5 := Lib.hid (RowOff.lift (RowOff.own o4 (by rw [ht4]; omega) (by rw [ht4]; omega)) hb5 hbt)
      clear c0 c1 c2 f0 f1 f2 hD4 hg4 k4 r4 o4 d4 ht4 hzm hzr
      obtain ⟨c0, c1, c2⟩ := cells3 K4.out
      obtain ⟨f0, f1, f2⟩ := frozen3 K4.out
      obtain ⟨r0, r1, r2⟩ := cells3 R5.out
      obtain ⟨z0, z1, z2⟩ := frozen3 R5.out
      obtain ⟨e0, e1, e2⟩ := cells3 (put_three R5.out (.int .i64 z) (.int .i64 Hh) (.slice (some ⟨tb, 0, none⟩) N c))
      have og := Lib.hid ((RT5.out.grown (grown_three (w4.setCell ⟨bb, 0, none⟩ (.int .i64 z)) w.heap.size (.int .i64 z) (.int .i64 Hh) (.slice (some ⟨tb, 0, none⟩) N c)) (Nat.lt_succ_self _)).low (Nat.le_succ _))
      have dz := Lib.hid (dw_put3 D5.out hs0 hgw (.int .i64 z) (.int .i64 Hh) (.slice (some ⟨tb, 0, none⟩) N c))
      go_wp2
      exact bodyPost_ret (v := .agg #[.int .i64 z, .int .i64 Hh, .slice (some ⟨tb, 0, none⟩) N c]) (by simp [results, Try.results66, go_sem, e0, e1, e2]) rfl ⟨z, (Hh : Int), t4, _, _, by rw [T4.out], HZ.out, ⟨by omega, by omega⟩, og.out, by rw [T4.out]; exact HCL.out, ⟨by rw [T4.out]; omega, by rw [T4.out]; omega⟩, dz.out⟩
    · have q1 : ((x : Int) == 1) = false := by rw [beq_eq_false_iff_ne]; omega
      by_cases hx2 : x = 2
      · subst hx2
        have hc1 : ¬ c = 1 := by have := HCL.out; omega
        have hN1 : (1 : Int) ≤ (N : Int) := by omega
        have hcN : (N : Int) ≤ (c : Int) := by have := HCL.out; omega
        have hc2 : N ≤ c := HCL.out
        have hb5 : Below bb w3 (w3.setCell ⟨bb, 2, none⟩ (.slice (some ⟨tb, 1, none⟩) (N - 1) (c - 1))) := (Below.refl bb w3).setCell (p := ⟨bb, 2, none⟩) (Nat.le_refl _) _
        have R5 := Lib.hid ((hb5.block w.heap.size hRb).trans R3.out)
        have D5 := Lib.hid (D3.out.set hsb hgb 2 (.slice (some ⟨tb, 1, none⟩) (N - 1) (c - 1)))
        have RT5 := Lib.hid (RowOff.lift (RT.out.drop 1) hb5 hbt)
        have TD : Hid ((t3.drop 1).length = N - 1) := Lib.hid (by rw [List.length_drop, T3.out])
        obtain ⟨r0, r1, r2⟩ := cells3 R5.out
        obtain ⟨z0, z1, z2⟩ := frozen3 R5.out
        obtain ⟨e0, e1, e2⟩ := cells3 (put_three R5.out (.int .i64 W) (.int .i64 Hh) (.slice (some ⟨tb, 1, none⟩) (N - 1) (c - 1)))
        have og := Lib.hid ((RT5.out.grown (grown_three (w3.setCell ⟨bb, 2, none⟩ (.slice (some ⟨tb, 1, none⟩) (N - 1) (c - 1))) w.heap.size (.int .i64 W) (.int .i64 Hh) (.slice (some ⟨tb, 1, none⟩) (N - 1) (c - 1))) (Nat.lt_succ_self _)).low (Nat.le_succ _))
        have dz := Lib.hid (dw_put3 D5.out hs0 hgw (.int .i64 W) (.int .i64 Hh) (.slice (some ⟨tb, 1, none⟩) (N - 1) (c - 1)))
        go_wp2
        exact bodyPost_ret (v := .agg #[.int .i64 W, .int .i64 Hh, .slice (some ⟨tb, 1, none⟩) (N - 1) (c - 1)]) (by simp [results, Try.results66, go_sem, e0, e1, e2]) rfl ⟨(W : Int), (Hh : Int), t3.drop 1, _, _, by rw [TD.out], ⟨by omega, by omega⟩, ⟨by omega, by omega⟩, og.out, by rw [TD.out]; (have := HCL.out; omega), ⟨by rw [TD.out]; omega, by rw [TD.out]; omega⟩, dz.out⟩
      · have q2 : ((x : Int) == 2) = false := by rw [beq_eq_false_iff_ne]; omega
        obtain ⟨r0, r1, r2⟩ := cells3 R3.out
        obtain ⟨z0, z1, z2⟩ := frozen3 R3.out
        obtain ⟨e0, e1, e2⟩ := cells3 (put_three R3.out (.int .i64 W) (.int .i64 Hh) (.slice (some ⟨tb, 0, none⟩) N c))
        have og := Lib.hid ((RT.out.grown (grown_three w3 w.heap.size (.int .i64 W) (.int .i64 Hh) (.slice (some ⟨tb, 0, none⟩) N c)) (Nat.lt_succ_self _)).low (Nat.le_succ _))
        have dz := Lib.hid (dw_put3 D3.out hs0 hgw (.int .i64 W) (.int .i64 Hh) (.slice (some ⟨tb, 0, none⟩) N c))
        go_wp2
        exact bodyPost_ret (v := .agg #[.int .i64 W, .int .i64 Hh, .slice (some ⟨tb, 0, none⟩) N c]) (by simp [results, Try.results66, go_sem, e0, e1, e2]) rfl ⟨(W : Int), (Hh : Int), t3, _, _, by rw [T3.out], ⟨by omega, by omega⟩, ⟨by omega, by omega⟩, og.out, by rw [T3.out]; exact HCL.out, ⟨by rw [T3.out]; omega, by rw [T3.out]; omega⟩, dz.out⟩

end Go.Proofs.Ytemfiglflbfocaa

namespace Go.Proofs.Ytemfiglflbfocaa
open Go.RowKit
set_option linter.unusedVariables false

theorem max_one (q : Nat) : ∃ m : Nat, (max (1 : Int) (q : Int) = (m : Int)) ∧ ((if (1 : Int) < (q : Int) then (q : Int) else 1) = (m : Int)) ∧ 1 ≤ m ∧ m ≤ q + 1 := by
  by_cases h : 1 < q
  · exact ⟨q, by omega, by rw [if_pos (by omega)], by omega, by omega⟩
  · exact ⟨1, by omega, by rw [if_neg (by omega)]; rfl, by omega, by omega⟩
set_option maxRecDepth 100000 in
set_option maxHeartbeats 8000000 in
theorem l18spot_ex (A : Option Addr) (cap : Nat) (zs : List Int) (w0 w : World) (g : Nat) (h : Dw g A cap zs w0 w) :
    Calls Try.prog 45 #[.pointer (some ⟨g, 0, none⟩)] w fun e w' => ∃ (a b : Int) (l : List Int) (TA : Option Addr) (c : Nat) (x y n : Int), e = .returned (.tuple #[.agg #[.int .i64 a, .int .i64 b, .slice TA l.length c], .int .i64 x, .int .i64 y, .int .i64 n]) ∧ (0 ≤ a ∧ a ≤ 40) ∧ (0 ≤ b ∧ b ≤ 40) ∧ (0 ≤ n ∧ n ≤ 16) ∧ (-1000 ≤ x ∧ x ≤ 1000) ∧ (-1000 ≤ y ∧ y ≤ 1000) ∧ RowOff w.heap.size w' TA l ∧ l.length ≤ c ∧ (0 < l.length ∧ l.length ≤ 384) ∧ Dw g A cap zs w0 w' := by
  have hgw : g < w.heap.size := h.lt
  have hs0 : w0.heap.size ≤ w.heap.size := h.size
  have BC := Lib.hid below_ex; have PC := Lib.hid pick_ex
  have FR := Lib.hid fun w0 w g h => l18any_ex A cap zs w0 w g h
  have D0 := Lib.hid (h.alloc (.cells #[.int .i64 0, .int .i64 0, .slice none 0 0] 26))
  have R0 := Lib.hid (heap_alloc_new w (.cells #[.int .i64 0, .int .i64 0, .slice none 0 0] 26))
  have P3 : Hid (∀ (w0 w : World) (gl : Nat), Dw g A cap zs w0 w → w.heap[gl]? = some (.cells #[.int .i64 4, .int .i64 4, .int .i64 8] 3 (0, 0)) → gl ≠ g → Calls Try.prog 67 #[.pointer (some ⟨g, 0, none⟩), .slice (some ⟨gl, 0, none⟩) 3 3] w fun e w' => ∃ x : Int, e = .returned (.int .i64 x) ∧ x ∈ ([4, 4, 8] : List Int) ∧ Dw g A cap zs w0 w' ∧ w.grownBy w' (some g)) := Lib.hid (PC.out [4, 4, 8] (by simp) (by simp) g A cap zs)
  have hz : (w.alloc (.cells #[.int .i64 0, .int .i64 0, .slice none 0 0] 26)).heap.size = w.heap.size + 1 := by simp
  clear h
  go_enter Try.func45, Try.ntmps45
  go_wp2_with fail
  refine (FR.out _ _ _ D0.out.again).mono ?_
  rintro e w1 ⟨a, b, l, TA, c, rfl, ha, hb, hR, hc, hl, hD1⟩
  have hg1 := hD1.grown0
  have hD := D0.out.trans hD1
  rw [hz] at hR
  have R1 := (hg1.block w.heap.size (by rw [hz]; omega) (by simp; omega)).trans R0.out
  have hs1 : w.heap.size + 1 ≤ w1.heap.size := by rw [← hz]; exact hg1.size
  obtain ⟨bb, hbb⟩ : ∃ bb, bb = w1.heap.size := ⟨_, rfl⟩
  have HA := Lib.hid ha; have HB := Lib.hid hb; have HC := Lib.hid hc; have HL := Lib.hid hl
  have n1 : g ≠ bb := by omega
  have n2 : g ≠ w.heap.size := by omega
  have n3 : g < w.heap.size + 1 := by omega
  have D2 := Lib.hid ((hD.alloc (.cells #[.int .i64 a, .int .i64 b, .slice TA l.length c] 26)).alloc (.cells #[.int .i64 4, .int .i64 4, .int .i64 8] 3))
  have hz2 : ((w1.alloc (.cells #[.int .i64 a, .int .i64 b, .slice TA l.length c] 26)).alloc (.cells #[.int .i64 4, .int .i64 4, .int .i64 8] 3)).heap.size = bb + 1 + 1 := by rw [hbb]; simp
  have K2 : Hid (((w1.alloc (.cells #[.int .i64 a, .int .i64 b, .slice TA l.length c] 26)).alloc (.cells #[.int .i64 4, .int .i64 4, .int .i64 8] 3)).heap[bb]? = some (.cells #[.int .i64 a, .int .i64 b, .slice TA l.length c] 26 (0, 0))) := Lib.hid (by rw [hbb]; exact (Below.heap_alloc (w1.alloc (.cells #[.int .i64 a, .int .i64 b, .slice TA l.length c] 26)) (.cells #[.int .i64 4, .int .i64 4, .int .i64 8] 3) w1.heap.size (by simp)).trans (heap_alloc_new w1 (.cells #[.int .i64 a, .int .i64 b, .slice TA l.length c] 26)))
  have R2 := Lib.hid ((Below.heap_alloc (w1.alloc (.cells #[.int .i64 a, .int .i64 b, .slice TA l.length c] 26)) (.cells #[.int .i64 4, .int .i64 4, .int .i64 8] 3) w.heap.size (by simp; omega)).trans ((Below.heap_alloc w1 (.cells #[.int .i64 a, .int .i64 b, .slice TA l.length c] 26) w.heap.size (by omega)).trans R1))
  have RT2 := Lib.hid ((hR.alloc (.cells #[.int .i64 a, .int .i64 b, .slice TA l.length c] 26)).alloc (.cells #[.int .i64 4, .int .i64 4, .int .i64 8] 3))
  have hb1 : w.heap.size < bb := by omega
  have hgb : g < bb := by omega
  have HBB := Lib.hid hbb
  have hs2 : bb + 1 ≤ ((w1.alloc (.cells #[.int .i64 a, .int .i64 b, .slice TA l.length c] 26)).alloc (.cells #[.int .i64 4, .int .i64 4, .int .i64 8] 3)).heap.size := by rw [hz2]; omega
  clear hD1 hg1 hD hR R1 R0 D0 hz hbb hc hl hz2
  go_wp2_with fail
  rw [← HBB.out]
  refine (P3.out _ _ (bb + 1) D2.out (by rw [HBB.out]; exact heap_alloc_second w1 _ _) (by omega)).mono ?_
  rintro e w3 ⟨z, rfl, hzm, hD3, hg3⟩
  have hzc : z = 4 ∨ z = 8 := by
    simp only [List.mem_cons, List.mem_nil_iff, or_false] at hzm
    omega
  have K3 := Lib.hid ((hg3.block bb (by omega) (by simp; omega)).trans K2.out)
  have R3 := Lib.hid ((hg3.block w.heap.size (by omega) (by simp; omega)).trans R2.out)
  have RT3 := Lib.hid (RT2.out.grown hg3 n3)
  have hs3 := Nat.le_trans hs2 hg3.size
  have D3 := Lib.hid hD3
  clear hzm hD3 hg3 K2 R2 RT2 D2 HBB hs2
  rcases hzc with rfl | rfl
  · skip
    have hn16 : (0 : Int) ≤ 4 ∧ (4 : Int) ≤ 16 := by decide
    obtain ⟨q, hq⟩ : ∃ q : Nat, a.tdiv 4 = (q : Int) := ⟨(a / 4).toNat, by rw [Int.tdiv_eq_ediv_of_nonneg (by omega)]; omega⟩
    have hq1 : a / 4 = (q : Int) := by rw [Int.tdiv_eq_ediv_of_nonneg (by omega)] at hq; exact hq
    have hqb : q ≤ 10 := by omega
    obtain ⟨m, hm1, hm2, hm3, hm4⟩ := max_one q
    obtain ⟨p, hp⟩ : ∃ q : Nat, b.tdiv 4 = (q : Int) := ⟨(b / 4).toNat, by rw [Int.tdiv_eq_ediv_of_nonneg (by omega)]; omega⟩
    have hp1 : b / 4 = (p : Int) := by rw [Int.tdiv_eq_ediv_of_nonneg (by omega)] at hp; exact hp
    have hpb : p ≤ 10 := by omega
    obtain ⟨m', hm1', hm2', hm3', hm4'⟩ := max_one p
    obtain ⟨c0, c1, c2⟩ := cells3 K3.out
    go_wp2_with fail
    refine (BC.out (m : Int) _ _ _ _ _ _ D3.out).mono ?_
    rintro e w4 ⟨x, rfl, hx, -, hD4, hg4⟩
    have hx1 : (x : Int) < (m : Int) := hx (by omega)
    obtain ⟨X, hX, hXb⟩ : ∃ X : Int, (4 : Int) * (x : Int) = X ∧ (0 ≤ X ∧ X ≤ 200) := ⟨_, rfl, by omega⟩
    have hXw : IntKind.i64.wrap X = X := IntWalk.i64_in _ (by omega)
    have K4 := Lib.hid ((hg4.block bb (by omega) (by simp; omega)).trans K3.out)
    have R4 := Lib.hid ((hg4.block w.heap.size (by omega) (by simp; omega)).trans R3.out)
    have RT4 := Lib.hid (RT3.out.grown hg4 n3)
    have hs4 := Nat.le_trans hs3 hg4.size
    have D4 := Lib.hid hD4
    clear hx hD4 hg4 c0 c1 c2 hx1
    obtain ⟨c0, c1, c2⟩ := cells3 K4.out
    go_wp2_with fail
    refine (BC.out (m' : Int) _ _ _ _ _ _ D4.out).mono ?_
    rintro e w5 ⟨y, rfl, hy, -, hD5, hg5⟩
    have hy1 : (y : Int) < (m' : Int) := hy (by omega)
    obtain ⟨Y, hY, hYb⟩ : ∃ X : Int, (4 : Int) * (y : Int) = X ∧ (0 ≤ X ∧ X ≤ 200) := ⟨_, rfl, by omega⟩
    have hYw : IntKind.i64.wrap Y = Y := IntWalk.i64_in _ (by omega)
    have K5 := Lib.hid ((hg5.block bb (by omega) (by simp; omega)).trans K4.out)
    have R5 := Lib.hid ((hg5.block w.heap.size (by omega) (by simp; omega)).trans R4.out)
    have RT5 := Lib.hid (RT4.out.grown hg5 n3)
    have hs5 := Nat.le_trans hs4 hg5.size
    have D5 := Lib.hid hD5
    clear hy hD5 hg5 c0 c1 c2 hy1
    go_wp2_with fail
    refine (BC.out 14 _ _ _ _ _ _ D5.out).mono ?_
    rintro e w6 ⟨k, rfl, -, -, hD6, hg6⟩
    have K6 := Lib.hid ((hg6.block bb (by omega) (by simp; omega)).trans K5.out)
    have R6 := Lib.hid ((hg6.block w.heap.size (by omega) (by simp; omega)).trans R5.out)
    have RT6 := Lib.hid (RT5.out.grown hg6 n3)
    have hs6 := Nat.le_trans hs5 hg6.size
    have D6 := Lib.hid hD6
    clear hD6 hg6
    obtain ⟨c0, c1, c2⟩ := cells3 K6.out
    by_cases hk0 : k = 0
    · subst hk0
      have D6a := Lib.hid (D6.out.alloc (.cells #[.int .i64 (-4), .int .i64 1, .int .i64 a] 3))
      have K6a := Lib.hid ((Below.heap_alloc w6 (.cells #[.int .i64 (-4), .int .i64 1, .int .i64 a] 3) bb (by omega)).trans K6.out)
      have R6a := Lib.hid ((Below.heap_alloc w6 (.cells #[.int .i64 (-4), .int .i64 1, .int .i64 a] 3) w.heap.size (by omega)).trans R6.out)
      have RT6a := Lib.hid (RT6.out.alloc (.cells #[.int .i64 (-4), .int .i64 1, .int .i64 a] 3))
      have hs6a : bb + 1 ≤ (w6.alloc (.cells #[.int .i64 (-4), .int .i64 1, .int .i64 a] 3)).heap.size := by simp; omega
      have PA : Hid (∀ (w0 w : World) (gl : Nat), Dw g A cap zs w0 w → w.heap[gl]? = some (.cells #[.int .i64 (-4), .int .i64 1, .int .i64 a] 3 (0, 0)) → gl ≠ g → Calls Try.prog 67 #[.pointer (some ⟨g, 0, none⟩), .slice (some ⟨gl, 0, none⟩) 3 3] w fun e w' => ∃ x : Int, e = .returned (.int .i64 x) ∧ x ∈ ([-4, 1, a] : List Int) ∧ Dw g A cap zs w0 w' ∧ w.grownBy w' (some g)) := Lib.hid (PC.out [-4, 1, a] (by simp) (by simp) g A cap zs)
      go_wp2_with fail
      refine (PA.out _ _ w6.heap.size D6a.out (heap_alloc_new w6 _) (by omega)).mono ?_
      rintro e w7 ⟨z, rfl, hzm, hD7, hg7⟩
      have hzr : -1000 ≤ z ∧ z ≤ 1000 := by
        simp only [List.mem_cons, List.mem_nil_iff, or_false] at hzm
        omega
      have HZ := Lib.hid hzr
      have K7 := Lib.hid ((hg7.block bb (by omega) (by simp; omega)).trans K6a.out)
      have R7 := Lib.hid ((hg7.block w.heap.size (by omega) (by simp; omega)).trans R6a.out)
      have RT7 := Lib.hid (RT6a.out.grown hg7 n3)
      have hs7 := Nat.le_trans hs6a hg7.size
      have D7 := Lib.hid hD7
      clear hzm hzr hD7 hg7 c0 c1 c2
      obtain ⟨c0, c1, c2⟩ := cells3 K7.out
      obtain ⟨r0, r1, r2⟩ := cells3 R7.out
      obtain ⟨z0, z1, z2⟩ := frozen3 R7.out
      obtain ⟨e0, e1, e2⟩ := cells3 (put_three R7.out (.int .i64 a) (.int .i64 b) (.slice TA l.length c))
      have og := Lib.hid ((RT7.out.grown (grown_three w7 w.heap.size (.int .i64 a) (.int .i64 b) (.slice TA l.length c)) (Nat.lt_succ_self _)).low (Nat.le_succ _))
      have dz := Lib.hid (dw_put3 D7.out hs0 hgw (.int .i64 a) (.int .i64 b) (.slice TA l.length c))
      go_wp2
      exact bodyPost_ret (v := .tuple #[.agg #[.int .i64 a, .int .i64 b, .slice TA l.length c], .int .i64 z, .int .i64 Y, .int .i64 4]) (by simp [results, Try.results45, go_sem, e0, e1, e2]) rfl ⟨a, b, l, TA, c, z, Y, 4, rfl, HA.out, HB.out, hn16, HZ.out, ⟨by omega, by omega⟩, og.out, HC.out, HL.out, dz.out⟩
    · have q0 : ((k : Int) == 0) = false := by rw [beq_eq_false_iff_ne]; omega
      by_cases hk1 : k = 1
      · subst hk1
        have D6a := Lib.hid (D6.out.alloc (.cells #[.int .i64 0, .int .i64 5, .int .i64 16] 3))
        have K6a := Lib.hid ((Below.heap_alloc w6 (.cells #[.int .i64 0, .int .i64 5, .int .i64 16] 3) bb (by omega)).trans K6.out)
        have R6a := Lib.hid ((Below.heap_alloc w6 (.cells #[.int .i64 0, .int .i64 5, .int .i64 16] 3) w.heap.size (by omega)).trans R6.out)
        have RT6a := Lib.hid (RT6.out.alloc (.cells #[.int .i64 0, .int .i64 5, .int .i64 16] 3))
        have hs6a : bb + 1 ≤ (w6.alloc (.cells #[.int .i64 0, .int .i64 5, .int .i64 16] 3)).heap.size := by simp; omega
        have PB : Hid (∀ (w0 w : World) (gl : Nat), Dw g A cap zs w0 w → w.heap[gl]? = some (.cells #[.int .i64 0, .int .i64 5, .int .i64 16] 3 (0, 0)) → gl ≠ g → Calls Try.prog 67 #[.pointer (some ⟨g, 0, none⟩), .slice (some ⟨gl, 0, none⟩) 3 3] w fun e w' => ∃ x : Int, e = .returned (.int .i64 x) ∧ x ∈ ([0, 5, 16] : List Int) ∧ Dw g A cap zs w0 w' ∧ w.grownBy w' (some g)) := Lib.hid (PC.out [0, 5, 16] (by simp) (by simp) g A cap zs)
        go_wp2_with fail
        refine (PB.out _ _ w6.heap.size D6a.out (heap_alloc_new w6 _) (by omega)).mono ?_
        rintro e w7 ⟨z, rfl, hzm, hD7, hg7⟩
        have hzr : 0 ≤ z ∧ z ≤ 16 := by
          simp only [List.mem_cons, List.mem_nil_iff, or_false] at hzm
          omega
        have HZ := Lib.hid hzr
        have K7 := Lib.hid ((hg7.block bb (by omega) (by simp; omega)).trans K6a.out)
        have R7 := Lib.hid ((hg7.block w.heap.size (by omega) (by simp; omega)).trans R6a.out)
        have RT7 := Lib.hid (RT6a.out.grown hg7 n3)
        have hs7 := Nat.le_trans hs6a hg7.size
        have D7 := Lib.hid hD7
        clear hzm hzr hD7 hg7 c0 c1 c2
        obtain ⟨c0, c1, c2⟩ := cells3 K7.out
        obtain ⟨r0, r1, r2⟩ := cells3 R7.out
        obtain ⟨z0, z1, z2⟩ := frozen3 R7.out
        obtain ⟨e0, e1, e2⟩ := cells3 (put_three R7.out (.int .i64 a) (.int .i64 b) (.slice TA l.length c))
        have og := Lib.hid ((RT7.out.grown (grown_three w7 w.heap.size (.int .i64 a) (.int .i64 b) (.slice TA l.length c)) (Nat.lt_succ_self _)).low (Nat.le_succ _))
        have dz := Lib.hid (dw_put3 D7.out hs0 hgw (.int .i64 a) (.int .i64 b) (.slice TA l.length c))
        go_wp2
        exact bodyPost_ret (v := .tuple #[.agg #[.int .i64 a, .int .i64 b, .slice TA l.length c], .int .i64 X, .int .i64 Y, .int .i64 z]) (by simp [results, Try.results45, go_sem, e0, e1, e2]) rfl ⟨a, b, l, TA, c, X, Y, z, rfl, HA.out, HB.out, HZ.out, ⟨by omega, by omega⟩, ⟨by omega, by omega⟩, og.out, HC.out, HL.out, dz.out⟩
      · have q1 : ((k : Int) == 1) = false := by rw [beq_eq_false_iff_ne]; omega
        obtain ⟨r0, r1, r2⟩ := cells3 R6.out
        obtain ⟨z0, z1, z2⟩ := frozen3 R6.out
        obtain ⟨e0, e1, e2⟩ := cells3 (put_three R6.out (.int .i64 a) (.int .i64 b) (.slice TA l.length c))
        have og := Lib.hid ((RT6.out.grown (grown_three w6 w.heap.size (.int .i64 a) (.int .i64 b) (.slice TA l.length c)) (Nat.lt_succ_self _)).low (Nat.le_succ _))
        have dz := Lib.hid (dw_put3 D6.out hs0 hgw (.int .i64 a) (.int .i64 b) (.slice TA l.length c))
        go_wp2
        exact bodyPost_ret (v := .tuple #[.agg #[.int .i64 a, .int .i64 b, .slice TA l.length c], .int .i64 X, .int .i64 Y, .int .i64 4]) (by simp [results, Try.results45, go_sem, e0, e1, e2]) rfl ⟨a, b, l, TA, c, X, Y, 4, rfl, HA.out, HB.out, hn16, ⟨by omega, by omega⟩, ⟨by omega, by omega⟩, og.out, HC.out, HL.out, dz.out⟩
    
  · skip
    have hn16 : (0 : Int) ≤ 8 ∧ (8 : Int) ≤ 16 := by decide
    obtain ⟨q, hq⟩ : ∃ q : Nat, a.tdiv 8 = (q : Int) := ⟨(a / 8).toNat, by rw [Int.tdiv_eq_ediv_of_nonneg (by omega)]; omega⟩
    have hq1 : a / 8 = (q : Int) := by rw [Int.tdiv_eq_ediv_of_nonneg (by omega)] at hq; exact hq
    have hqb : q ≤ 10 := by omega
    obtain ⟨m, hm1, hm2, hm3, hm4⟩ := max_one q
    obtain ⟨p, hp⟩ : ∃ q : Nat, b.tdiv 8 = (q : Int) := ⟨(b / 8).toNat, by rw [Int.tdiv_eq_ediv_of_nonneg (by omega)]; omega⟩
    have hp1 : b / 8 = (p : Int) := by rw [Int.tdiv_eq_ediv_of_nonneg (by omega)] at hp; exact hp
    have hpb : p ≤ 10 := by omega
    obtain ⟨m', hm1', hm2', hm3', hm4'⟩ := max_one p
    obtain ⟨c0, c1, c2⟩ := cells3 K3.out
    go_wp2_with fail
    refine (BC.out (m : Int) _ _ _ _ _ _ D3.out).mono ?_
    rintro e w4 ⟨x, rfl, hx, -, hD4, hg4⟩
    have hx1 : (x : Int) < (m : Int) := hx (by omega)
    obtain ⟨X, hX, hXb⟩ : ∃ X : Int, (8 : Int) * (x : Int) = X ∧ (0 ≤ X ∧ X ≤ 200) := ⟨_, rfl, by omega⟩
    have hXw : IntKind.i64.wrap X = X := IntWalk.i64_in _ (by omega)
    have K4 := Lib.hid ((hg4.block bb (by omega) (by simp; omega)).trans K3.out)
    have R4 := Lib.hid ((hg4.block w.heap.size (by omega) (by simp; omega)).trans R3.out)
    have RT4 := Lib.hid (RT3.out.grown hg4 n3)
    have hs4 := Nat.le_trans hs3 hg4.size
    have D4 := Lib.hid hD4
    clear hx hD4 hg4 c0 c1 c2 hx1
    obtain ⟨c0, c1, c2⟩ := cells3 K4.out
    go_wp2_with fail
    refine (BC.out (m' : Int) _ _ _ _ _ _ D4.out).mono ?_
    rintro e w5 ⟨y, rfl, hy, -, hD5, hg5⟩
    have hy1 : (y : Int) < (m' : Int) := hy (by omega)
    obtain ⟨Y, hY, hYb⟩ : ∃ X : Int, (8 : Int) * (y : Int) = X ∧ (0 ≤ X ∧ X ≤ 200) := ⟨_, rfl, by omega⟩
    have hYw : IntKind.i64.wrap Y = Y := IntWalk.i64_in _ (by omega)
    have K5 := Lib.hid ((hg5.block bb (by omega) (by simp; omega)).trans K4.out)
    have R5 := Lib.hid ((hg5.block w.heap.size (by omega) (by simp; omega)).trans R4.out)
    have RT5 := Lib.hid (RT4.out.grown hg5 n3)
    have hs5 := Nat.le_trans hs4 hg5.size
    have D5 := Lib.hid hD5
    clear hy hD5 hg5 c0 c1 c2 hy1
    go_wp2_with fail
    refine (BC.out 14 _ _ _ _ _ _ D5.out).mono ?_
    rintro e w6 ⟨k, rfl, -, -, hD6, hg6⟩
    have K6 := Lib.hid ((hg6.block bb (by omega) (by simp; omega)).trans K5.out)
    have R6 := Lib.hid ((hg6.block w.heap.size (by omega) (by simp; omega)).trans R5.out)
    have RT6 := Lib.hid (RT5.out.grown hg6 n3)
    have hs6 := Nat.le_trans hs5 hg6.size
    have D6 := Lib.hid hD6
    clear hD6 hg6
    obtain ⟨c0, c1, c2⟩ := cells3 K6.out
    by_cases hk0 : k = 0
    · subst hk0
      have D6a := Lib.hid (D6.out.alloc (.cells #[.int .i64 (-4), .int .i64 1, .int .i64 a] 3))
      have K6a := Lib.hid ((Below.heap_alloc w6 (.cells #[.int .i64 (-4), .int .i64 1, .int .i64 a] 3) bb (by omega)).trans K6.out)
      have R6a := Lib.hid ((Below.heap_alloc w6 (.cells #[.int .i64 (-4), .int .i64 1, .int .i64 a] 3) w.heap.size (by omega)).trans R6.out)
      have RT6a := Lib.hid (RT6.out.alloc (.cells #[.int .i64 (-4), .int .i64 1, .int .i64 a] 3))
      have hs6a : bb + 1 ≤ (w6.alloc (.cells #[.int .i64 (-4), .int .i64 1, .int .i64 a] 3)).heap.size := by simp; omega
      have PA : Hid (∀ (w0 w : World) (gl : Nat), Dw g A cap zs w0 w → w.heap[gl]? = some (.cells #[.int .i64 (-4), .int .i64 1, .int .i64 a] 3 (0, 0)) → gl ≠ g → Calls Try.prog 67 #[.pointer (some ⟨g, 0, none⟩), .slice (some ⟨gl, 0, none⟩) 3 3] w fun e w' => ∃ x : Int, e = .returned (.int .i64 x) ∧ x ∈ ([-4, 1, a] : List Int) ∧ Dw g A cap zs w0 w' ∧ w.grownBy w' (some g)) := Lib.hid (PC.out [-4, 1, a] (by simp) (by simp) g A cap zs)
      go_wp2_with fail
      refine (PA.out _ _ w6.heap.size D6a.out (heap_alloc_new w6 _) (by omega)).mono ?_
      rintro e w7 ⟨z, rfl, hzm, hD7, hg7⟩
      have hzr : -1000 ≤ z ∧ z ≤ 1000 := by
        simp only [List.mem_cons, List.mem_nil_iff, or_false] at hzm
        omega
      have HZ := Lib.hid hzr
      have K7 := Lib.hid ((hg7.block bb (by omega) (by simp; omega)).trans K6a.out)
      have R7 := Lib.hid ((hg7.block w.heap.size (by omega) (by simp; omega)).trans R6a.out)
      have RT7 := Lib.hid (RT6a.out.grown hg7 n3)
      have hs7 := Nat.le_trans hs6a hg7.size
      have D7 := Lib.hid hD7
      clear hzm hzr hD7 hg7 c0 c1 c2
      obtain ⟨c0, c1, c2⟩ := cells3 K7.out
      obtain ⟨r0, r1, r2⟩ := cells3 R7.out
      obtain ⟨z0, z1, z2⟩ := frozen3 R7.out
      obtain ⟨e0, e1, e2⟩ := cells3 (put_three R7.out (.int .i64 a) (.int .i64 b) (.slice TA l.length c))
      have og := Lib.hid ((RT7.out.grown (grown_three w7 w.heap.size (.int .i64 a) (.int .i64 b) (.slice TA l.length c)) (Nat.lt_succ_self _)).low (Nat.le_succ _))
      have dz := Lib.hid (dw_put3 D7.out hs0 hgw (.int .i64 a) (.int .i64 b) (.slice TA l.length c))
      go_wp2
      exact bodyPost_ret (v := .tuple #[.agg #[.int .i64 a, .int .i64 b, .slice TA l.length c], .int .i64 z, .int .i64 Y, .int .i64 8]) (by simp [results, Try.results45, go_sem, e0, e1, e2]) rfl ⟨a, b, l, TA, c, z, Y, 8, rfl, HA.out, HB.out, hn16, HZ.out, ⟨by omega, by omega⟩, og.out, HC.out, HL.out, dz.out⟩
    · have q0 : ((k : Int) == 0) = false := by rw [beq_eq_false_iff_ne]; omega
      by_cases hk1 : k = 1
      · subst hk1
        have D6a := Lib.hid (D6.out.alloc (.cells #[.int .i64 0, .int .i64 5, .int .i64 16] 3))
        have K6a := Lib.hid ((Below.heap_alloc w6 (.cells #[.int .i64 0, .int .i64 5, .int .i64 16] 3) bb (by omega)).trans K6.out)
        have R6a := Lib.hid ((Below.heap_alloc w6 (.cells #[.int .i64 0, .int .i64 5, .int .i64 16] 3) w.heap.size (by omega)).trans R6.out)
        have RT6a := Lib.hid (RT6.out.alloc (.cells #[.int .i64 0, .int .i64 5, .int .i64 16] 3))
        have hs6a : bb + 1 ≤ (w6.alloc (.cells #[.int .i64 0, .int .i64 5, .int .i64 16] 3)).heap.size := by simp; omega
        have PB : Hid (∀ (w0 w : World) (gl : Nat), Dw g A cap zs w0 w → w.heap[gl]? = some (.cells #[.int .i64 0, .int .i64 5, .int .i64 16] 3 (0, 0)) → gl ≠ g → Calls Try.prog 67 #[.pointer (some ⟨g, 0, none⟩), .slice (some ⟨gl, 0, none⟩) 3 3] w fun e w' => ∃ x : Int, e = .returned (.int .i64 x) ∧ x ∈ ([0, 5, 16] : List Int) ∧ Dw g A cap zs w0 w' ∧ w.grownBy w' (some g)) := Lib.hid (PC.out [0, 5, 16] (by simp) (by simp) g A cap zs)
        go_wp2_with fail
        refine (PB.out _ _ w6.heap.size D6a.out (heap_alloc_new w6 _) (by omega)).mono ?_
        rintro e w7 ⟨z, rfl, hzm, hD7, hg7⟩
        have hzr : 0 ≤ z ∧ z ≤ 16 := by
          simp only [List.mem_cons, List.mem_nil_iff, or_false] at hzm
          omega
        have HZ := Lib.hid hzr
        have K7 := Lib.hid ((hg7.block bb (by omega) (by simp; omega)).trans K6a.out)
        have R7 := Lib.hid ((hg7.block w.heap.size (by omega) (by simp; omega)).trans R6a.out)
        have RT7 := Lib.hid (RT6a.out.grown hg7 n3)
        have hs7 := Nat.le_trans hs6a hg7.size
        have D7 := Lib.hid hD7
        clear hzm hzr hD7 hg7 c0 c1 c2
        obtain ⟨c0, c1, c2⟩ := cells3 K7.out
        obtain ⟨r0, r1, r2⟩ := cells3 R7.out
        obtain ⟨z0, z1, z2⟩ := frozen3 R7.out
        obtain ⟨e0, e1, e2⟩ := cells3 (put_three R7.out (.int .i64 a) (.int .i64 b) (.slice TA l.length c))
        have og := Lib.hid ((RT7.out.grown (grown_three w7 w.heap.size (.int .i64 a) (.int .i64 b) (.slice TA l.length c)) (Nat.lt_succ_self _)).low (Nat.le_succ _))
        have dz := Lib.hid (dw_put3 D7.out hs0 hgw (.int .i64 a) (.int .i64 b) (.slice TA l.length c))
        go_wp2
        exact bodyPost_ret (v := .tuple #[.agg #[.int .i64 a, .int .i64 b, .slice TA l.length c], .int .i64 X, .int .i64 Y, .int .i64 z]) (by simp [results, Try.results45, go_sem, e0, e1, e2]) rfl ⟨a, b, l, TA, c, X, Y, z, rfl, HA.out, HB.out, HZ.out, ⟨by omega, by omega⟩, ⟨by omega, by omega⟩, og.out, HC.out, HL.out, dz.out⟩
      · have q1 : ((k : Int) == 1) = false := by rw [beq_eq_false_iff_ne]; omega
        obtain ⟨r0, r1, r2⟩ := cells3 R6.out
        obtain ⟨z0, z1, z2⟩ := frozen3 R6.out
        obtain ⟨e0, e1, e2⟩ := cells3 (put_three R6.out (.int .i64 a) (.int .i64 b) (.slice TA l.length c))
        have og := Lib.hid ((RT6.out.grown (grown_three w6 w.heap.size (.int .i64 a) (.int .i64 b) (.slice TA l.length c)) (Nat.lt_succ_self _)).low (Nat.le_succ _))
        have dz := Lib.hid (dw_put3 D6.out hs0 hgw (.int .i64 a) (.int .i64 b) (.slice TA l.length c))
        go_wp2
        exact bodyPost_ret (v := .tuple #[.agg #[.int .i64 a, .int .i64 b, .slice TA l.length c], .int .i64 X, .int .i64 Y, .int .i64 8]) (by simp [results, Try.results45, go_sem, e0, e1, e2]) rfl ⟨a, b, l, TA, c, X, Y, 8, rfl, HA.out, HB.out, hn16, ⟨by omega, by omega⟩, ⟨by omega, by omega⟩, og.out, HC.out, HL.out, dz.out⟩
    
end Go.Proofs.Ytemfiglflbfocaa

namespace Go.Proofs.Ytemfiglflbfocaa
open Go.RowKit
set_option linter.unusedVariables false

theorem row_up {B : Nat} {w : World} {X : Option Addr} {x : List Int} (h : RowOff B w X x) : x = [] ∨ ∀ b off, X = some ⟨b, off, none⟩ → b < w.heap.size := by
  obtain ⟨⟨h1, h2⟩, h3⟩ := h
  rcases h2 with h2 | ⟨b, off, hX, hb, hc⟩
  · exact .inl h2
  · refine .inr fun b' off' e => ?_
    rw [hX] at e
    simp only [Option.some.injEq, Addr.mk.injEq] at e
    exact e.1 ▸ hb
theorem row_apart {B r : Nat} {w w' : World} {X : Option Addr} {x : List Int} (h : RowOff B w X x) (hg : w.grownBy w' (some r)) (hr : x = [] ∨ ∀ b off, X = some ⟨b, off, none⟩ → b ≠ r) : RowOff B w' X x := by
  obtain ⟨⟨h1, h2⟩, h3⟩ := h
  refine ⟨⟨h1, ?_⟩, h3⟩
  rcases h2 with h2 | ⟨b, off, hX, hb, hc⟩
  · exact .inl h2
  · rcases hr with hr | hr
    · exact .inl hr
    · have hbr := hr b off hX
      refine .inr ⟨b, off, hX, Nat.lt_of_lt_of_le hb hg.size, fun j hj => ?_⟩
      rw [World.cell?_of_block (a := ⟨b, off + j, none⟩) (hg.block b hb (by simp; exact hbr))]
      exact hc j hj

set_option maxRecDepth 100000 in
set_option maxHeartbeats 8000000 in
theorem drawnbat_ex (A : Option Addr) (cap : Nat) (zs : List Int) (w : World) (hW : Code w A zs) :
    Calls Try.prog 21 #[.slice A zs.length cap] w fun e w' => ∃ (a b : Int) (l : List Int) (TA : Option Addr) (c : Nat) (x y n : Int), e = .returned (.tuple #[.agg #[.int .i64 a, .int .i64 b, .slice TA l.length c], .int .i64 x, .int .i64 y, .int .i64 n]) ∧ (0 ≤ a ∧ a ≤ 40) ∧ (0 ≤ b ∧ b ≤ 40) ∧ (0 ≤ n ∧ n ≤ 16) ∧ (-1000 ≤ x ∧ x ≤ 1000) ∧ (-1000 ≤ y ∧ y ≤ 1000) ∧ Ints w' w'.heap.size TA l ∧ l.length ≤ c ∧ (0 < l.length ∧ l.length ≤ 384) ∧ Below w.heap.size w w' := by
  have hz : (w.alloc (.cells #[.int .i64 0, .int .i64 0, .slice none 0 0] 26)).heap.size = w.heap.size + 1 := by simp
  have hn := new_ex A cap zs (w.alloc (.cells #[.int .i64 0, .int .i64 0, .slice none 0 0] 26)) (hW.below (below_new w _))
  rw [hz] at hn
  have HN := Lib.hid hn
  have OC := Lib.hid once_ex; have LC := Lib.hid l14line_ex
  have SP := Lib.hid fun w0 w g h => l18spot_ex A cap zs w0 w g h
  have R0 := Lib.hid (heap_alloc_new w (.cells #[.int .i64 0, .int .i64 0, .slice none 0 0] 26))
  have B0 := Lib.hid (below_new w (.cells #[.int .i64 0, .int .i64 0, .slice none 0 0] 26))
  clear hW hn
  go_enter Try.func21, Try.ntmps21
  go_wp2_with fail
  refine HN.out.mono ?_
  rintro e w1 ⟨rfl, hD1, hb1⟩
  obtain ⟨g, hg⟩ : ∃ g, g = w.heap.size + 1 := ⟨_, rfl⟩
  rw [← hg] at hD1 hb1 hz
  have hbw : Below w.heap.size w w1 := below_up B0.out (by rw [hz]; exact hb1) B0.out.size
  have D1 := Lib.hid hD1; have BW := Lib.hid hbw
  have R1 := Lib.hid ((hb1.block w.heap.size (by omega)).trans R0.out)
  have hg1 : g < w1.heap.size := hD1.lt
  have hgR : w.heap.size < g := by omega
  clear hD1 hb1 hbw hz R0 B0
  rw [← hg]
  clear hg
  go_wp2_with fail
  refine (SP.out _ _ _ D1.out).mono ?_
  rintro e w2 ⟨a, b, l, TA, c, x, y, n, rfl, ha, hb, hn, hx, hy, hRow, hc, hl, hD2⟩
  have HA := Lib.hid ha; have HB := Lib.hid hb; have HNn := Lib.hid hn; have HX := Lib.hid hx; have HY := Lib.hid hy; have HC := Lib.hid hc; have HL := Lib.hid hl
  have hg2 := hD2.grown0
  have R2 := Lib.hid ((hg2.block w.heap.size (by omega) (by simp; omega)).trans R1.out)
  have RW2 := Lib.hid hRow; have D2 := Lib.hid hD2
  have hs2 := hg2.size
  clear hRow hc hl hD2 hg2 R1 ha hb hx hy
  obtain ⟨r0, r1, r2⟩ := cells3 R2.out
  obtain ⟨z0, z1, z2⟩ := frozen3 R2.out
  obtain ⟨e0, e1, e2⟩ := cells3 (put_three R2.out (.int .i64 a) (.int .i64 b) (.slice TA l.length c))
  have og := Lib.hid ((RW2.out.grown (grown_three w2 w.heap.size (.int .i64 a) (.int .i64 b) (.slice TA l.length c)) (show w.heap.size < w1.heap.size by omega)).1)
  have dz := Lib.hid ((Below.setCell (Below.setCell (Below.setCell (BW.out.trans (D2.out.belowOf (Nat.le_of_lt hgR) BW.out.size)) (p := ⟨w.heap.size, 0, none⟩) (Nat.le_refl _) (.int .i64 a)) (p := ⟨w.heap.size, 1, none⟩) (Nat.le_refl _) (.int .i64 b)) (p := ⟨w.heap.size, 2, none⟩) (Nat.le_refl _) (.slice TA l.length c)))
  go_wp2
  exact bodyPost_ret (v := .tuple #[.agg #[.int .i64 a, .int .i64 b, .slice TA l.length c], .int .i64 x, .int .i64 y, .int .i64 n]) (by simp [results, Try.results21, go_sem, e0, e1, e2]) rfl ⟨a, b, l, TA, c, x, y, n, rfl, HA.out, HB.out, HNn.out, HX.out, HY.out, og.out, HC.out, HL.out, dz.out⟩

set_option maxRecDepth 100000 in
set_option maxHeartbeats 8000000 in
theorem drawsetblock_ex (A : Option Addr) (cap : Nat) (zs : List Int) (w : World) (hW : Code w A zs) :
    Calls Try.prog 13 #[.slice A zs.length cap] w fun e w' => ∃ (a b : Int) (l : List Int) (TA : Option Addr) (c : Nat) (x y : Int) (m : List Int) (MA : Option Addr) (cm : Nat), e = .returned (.tuple #[.agg #[.int .i64 a, .int .i64 b, .slice TA l.length c], .int .i64 x, .int .i64 y, .slice MA m.length cm]) ∧ (0 ≤ a ∧ a ≤ 40) ∧ (0 ≤ b ∧ b ≤ 40) ∧ (-1000 ≤ x ∧ x ≤ 1000) ∧ (-1000 ≤ y ∧ y ≤ 1000) ∧ Ints w' w'.heap.size TA l ∧ l.length ≤ c ∧ (0 < l.length ∧ l.length ≤ 384) ∧ Ints w' w'.heap.size MA m ∧ m.length ≤ cm ∧ m.length ≤ 256 ∧ Below w.heap.size w w' := by
  have hz : (w.alloc (.cells #[.int .i64 0, .int .i64 0, .slice none 0 0] 26)).heap.size = w.heap.size + 1 := by simp
  have hn := new_ex A cap zs (w.alloc (.cells #[.int .i64 0, .int .i64 0, .slice none 0 0] 26)) (hW.below (below_new w _))
  rw [hz] at hn
  have HN := Lib.hid hn
  have OC := Lib.hid once_ex; have LC := Lib.hid l14line_ex
  have SP := Lib.hid fun w0 w g h => l18spot_ex A cap zs w0 w g h
  have R0 := Lib.hid (heap_alloc_new w (.cells #[.int .i64 0, .int .i64 0, .slice none 0 0] 26))
  have B0 := Lib.hid (below_new w (.cells #[.int .i64 0, .int .i64 0, .slice none 0 0] 26))
  clear hW hn
  go_enter Try.func13, Try.ntmps13
  go_wp2_with fail
  refine HN.out.mono ?_
  rintro e w1 ⟨rfl, hD1, hb1⟩
  obtain ⟨g, hg⟩ : ∃ g, g = w.heap.size + 1 := ⟨_, rfl⟩
  rw [← hg] at hD1 hb1 hz
  have hbw : Below w.heap.size w w1 := below_up B0.out (by rw [hz]; exact hb1) B0.out.size
  have D1 := Lib.hid hD1; have BW := Lib.hid hbw
  have R1 := Lib.hid ((hb1.block w.heap.size (by omega)).trans R0.out)
  have hg1 : g < w1.heap.size := hD1.lt
  have hgR : w.heap.size < g := by omega
  clear hD1 hb1 hbw hz R0 B0
  rw [← hg]
  clear hg
  go_wp2_with fail
  refine (SP.out _ _ _ D1.out).mono ?_
  rintro e w2 ⟨a, b, l, TA, c, x, y, n, rfl, ha, hb, hn, hx, hy, hRow, hc, hl, hD2⟩
  have HA := Lib.hid ha; have HB := Lib.hid hb; have HNn := Lib.hid hn; have HX := Lib.hid hx; have HY := Lib.hid hy; have HC := Lib.hid hc; have HL := Lib.hid hl
  have hg2 := hD2.grown0
  have R2 := Lib.hid ((hg2.block w.heap.size (by omega) (by simp; omega)).trans R1.out)
  have RW2 := Lib.hid hRow; have D2 := Lib.hid hD2
  have hs2 := hg2.size
  clear hRow hc hl hD2 hg2 R1 ha hb hx hy
  obtain ⟨m, hm⟩ : ∃ m : Nat, n * n = (m : Int) := ⟨(n * n).toNat, by have := Int.mul_nonneg hn.1 hn.1; omega⟩
  have hm256 : m ≤ 256 := by
    have : n * n ≤ 16 * 16 := Int.mul_le_mul hn.2 hn.2 hn.1 (by decide)
    omega
  have hmx : max (0 : Int) (m : Int) = (m : Int) := by omega
  have hmx2 : (if (0 : Int) < (m : Int) then (m : Int) else 0) = (m : Int) := by split <;> omega
  have hmw : IntKind.i64.wrap (m : Int) = (m : Int) := IntWalk.i64_in _ (by omega)
  have D3 := Lib.hid (D2.out.alloc (.cells #[.int .i64 a, .int .i64 b, .slice TA l.length c] 26))
  obtain ⟨bb, hbb⟩ : ∃ bb, bb = w2.heap.size := ⟨_, rfl⟩
  have hz3 : (w2.alloc (.cells #[.int .i64 a, .int .i64 b, .slice TA l.length c] 26)).heap.size = bb + 1 := by rw [hbb]; simp
  have K3 : Hid ((w2.alloc (.cells #[.int .i64 a, .int .i64 b, .slice TA l.length c] 26)).heap[bb]? = some (.cells #[.int .i64 a, .int .i64 b, .slice TA l.length c] 26 (0, 0))) := Lib.hid (by rw [hbb]; exact heap_alloc_new w2 _)
  have R3 := Lib.hid ((Below.heap_alloc w2 (.cells #[.int .i64 a, .int .i64 b, .slice TA l.length c] 26) w.heap.size (by omega)).trans R2.out)
  have RW3 := Lib.hid (RW2.out.alloc (.cells #[.int .i64 a, .int .i64 b, .slice TA l.length c] 26))
  have hb1 : w1.heap.size ≤ bb := by omega
  have UB := Lib.hid (row_up RW2.out)
  have HBB := Lib.hid hbb
  clear hn R2 RW2 hs2 hbb D2
  by_cases hm0 : m = 0
  · subst hm0
    go_wp2_with fail
    rw [← HBB.out]
    refine (LC.out 0 (by omega) _ _ _ _ _ _ D3.out).mono ?_
    rintro e w4 ⟨q, MA, cm, rfl, hq, hO, hD4, hg4⟩
    rw [hz3] at hO
    have K4 := Lib.hid ((hg4.block bb (by omega) (by simp; omega)).trans K3.out)
    have R4 := Lib.hid ((hg4.block w.heap.size (by omega) (by simp; omega)).trans R3.out)
    have RW4 := Lib.hid (RW3.out.grown hg4 (show g < w1.heap.size from hg1))
    have hs4 : bb + 1 ≤ w4.heap.size := by rw [← hz3]; exact hg4.size
    have D4 := Lib.hid hD4; have QL := Lib.hid hq; have O4 := Lib.hid hO
    have HCM : Hid (0 ≤ cm) := Lib.hid (by have := hO.cap_le; rw [hq] at this; exact this)
    clear hD4 hg4 hO hq K3 R3 RW3 D3
    have hq0 : q = [] := List.eq_nil_of_length_eq_zero QL.out
    have QR : Hid (RowOff w1.heap.size w4 MA ([] : List Int)) := Lib.hid ⟨⟨by simp, .inl rfl⟩, fun b' off e => by
      have hO := O4.out
      rw [hq0] at hO
      subst e
      rcases hO.2 with ⟨h1, _⟩ | ⟨g', c', cur, h1, hb', _⟩
      · cases h1
      · simp only [Value.slice.injEq, Option.some.injEq, Addr.mk.injEq] at h1
        obtain ⟨⟨rfl, _⟩, _⟩ := h1
        omega⟩
    have QN : Hid (([] : List Int).length = 0) := Lib.hid rfl
    obtain ⟨c0, c1, c2⟩ := cells3 K4.out
    have MG := Lib.hid ((QR.out.grown (grown_three w4 w.heap.size (.int .i64 a) (.int .i64 b) (.slice TA l.length c)) (show w.heap.size < w1.heap.size by omega)).1)
    obtain ⟨r0, r1, r2⟩ := cells3 R4.out
    obtain ⟨z0, z1, z2⟩ := frozen3 R4.out
    obtain ⟨e0, e1, e2⟩ := cells3 (put_three R4.out (.int .i64 a) (.int .i64 b) (.slice TA l.length c))
    have og := Lib.hid ((RW4.out.grown (grown_three w4 w.heap.size (.int .i64 a) (.int .i64 b) (.slice TA l.length c)) (show w.heap.size < w1.heap.size by omega)).1)
    have dz := Lib.hid ((Below.setCell (Below.setCell (Below.setCell (BW.out.trans (D4.out.belowOf (Nat.le_of_lt hgR) BW.out.size)) (p := ⟨w.heap.size, 0, none⟩) (Nat.le_refl _) (.int .i64 a)) (p := ⟨w.heap.size, 1, none⟩) (Nat.le_refl _) (.int .i64 b)) (p := ⟨w.heap.size, 2, none⟩) (Nat.le_refl _) (.slice TA l.length c)))
    go_wp2
    exact bodyPost_ret (v := .tuple #[.agg #[.int .i64 a, .int .i64 b, .slice TA l.length c], .int .i64 x, .int .i64 y, .slice MA 0 cm]) (by simp [results, Try.results13, go_sem, e0, e1, e2]) rfl ⟨a, b, l, TA, c, x, y, [], MA, cm, by rw [QN.out], HA.out, HB.out, HX.out, HY.out, og.out, HC.out, HL.out, MG.out, by rw [QN.out]; exact HCM.out, by rw [QN.out]; omega, dz.out⟩
  · have d1 : decide ((0 : Int) < (m : Int)) = true := by simp; omega
    have hm1 : 0 < m := by omega
    go_wp2_with fail
    rw [← HBB.out]
    refine (LC.out m (by omega) _ _ _ _ _ _ D3.out).mono ?_
    rintro e w4 ⟨q, MA, cm, rfl, hq, hO, hD4, hg4⟩
    rw [hz3] at hO
    have K4 := Lib.hid ((hg4.block bb (by omega) (by simp; omega)).trans K3.out)
    have R4 := Lib.hid ((hg4.block w.heap.size (by omega) (by simp; omega)).trans R3.out)
    have RW4 := Lib.hid (RW3.out.grown hg4 (show g < w1.heap.size from hg1))
    have hs4 : bb + 1 ≤ w4.heap.size := by rw [← hz3]; exact hg4.size
    have D4 := Lib.hid hD4; have QL := Lib.hid hq; have O4 := Lib.hid hO
    have HCM : Hid (m ≤ cm) := Lib.hid (by have := hO.cap_le; rw [hq] at this; exact this)
    clear hD4 hg4 hO hq K3 R3 RW3 D3
    go_wp2_with fail
    refine (OC.out 10 _ _ _ _ _ _ D4.out).mono ?_
    rintro e w5 ⟨u, rfl, hD5, hg5⟩
    have K5 := Lib.hid ((hg5.block bb (by omega) (by simp; omega)).trans K4.out)
    have R5 := Lib.hid ((hg5.block w.heap.size (by omega) (by simp; omega)).trans R4.out)
    have RW5 := Lib.hid (RW4.out.grown hg5 (show g < w1.heap.size from hg1))
    have o5 := own_back6 (own_dw O4.out hg5 (by omega)) rfl
    have D5 := Lib.hid hD5
    have hs5 : bb + 1 ≤ w5.heap.size := Nat.le_trans hs4 hg5.size
    obtain ⟨tb, rfl, htb, htw, -⟩ := own_whereO o5 rfl (by rw [QL.out]; exact hm1)
    cases u with
    | false =>
      have QR := Lib.hid ((RowOff.own o5 (by rw [QL.out]; omega) (by rw [QL.out]; exact hm1)).low (show w1.heap.size ≤ bb + 1 by omega))
      clear o5 hD5 hg5
      obtain ⟨c0, c1, c2⟩ := cells3 K5.out
      have MG := Lib.hid ((QR.out.grown (grown_three w5 w.heap.size (.int .i64 a) (.int .i64 b) (.slice TA l.length c)) (show w.heap.size < w1.heap.size by omega)).1)
      obtain ⟨r0, r1, r2⟩ := cells3 R5.out
      obtain ⟨z0, z1, z2⟩ := frozen3 R5.out
      obtain ⟨e0, e1, e2⟩ := cells3 (put_three R5.out (.int .i64 a) (.int .i64 b) (.slice TA l.length c))
      have og := Lib.hid ((RW5.out.grown (grown_three w5 w.heap.size (.int .i64 a) (.int .i64 b) (.slice TA l.length c)) (show w.heap.size < w1.heap.size by omega)).1)
      have dz := Lib.hid ((Below.setCell (Below.setCell (Below.setCell (BW.out.trans (D5.out.belowOf (Nat.le_of_lt hgR) BW.out.size)) (p := ⟨w.heap.size, 0, none⟩) (Nat.le_refl _) (.int .i64 a)) (p := ⟨w.heap.size, 1, none⟩) (Nat.le_refl _) (.int .i64 b)) (p := ⟨w.heap.size, 2, none⟩) (Nat.le_refl _) (.slice TA l.length c)))
      go_wp2
      exact bodyPost_ret (v := .tuple #[.agg #[.int .i64 a, .int .i64 b, .slice TA l.length c], .int .i64 x, .int .i64 y, .slice (some ⟨tb, 0, none⟩) m cm]) (by simp [results, Try.results13, go_sem, e0, e1, e2]) rfl ⟨a, b, l, TA, c, x, y, q, (some ⟨tb, 0, none⟩), cm, by rw [QL.out], HA.out, HB.out, HX.out, HY.out, og.out, HC.out, HL.out, MG.out, by rw [QL.out]; exact HCM.out, by rw [QL.out]; omega, dz.out⟩
    | true =>
      have hz := World.ownsRow.frozenAt o5 0
      obtain ⟨v0, hcell⟩ : ∃ b0 : Int, w5.cell? ⟨tb, 0, none⟩ = some (.int .i64 b0) := ⟨_, (World.ownsRow.cellAt o5 0 (by rw [QL.out]; omega)).trans (ivs_at q 0 (by rw [QL.out]; omega))⟩
      have s1 := (World.ownsRow.stored o5 0 (.int .i64 256)).1
      rw [ivs_set] at s1
      have hl2 : (q.set 0 256).length = q.length := List.length_set
      have O6 := own_back6 s1 hl2
      have QS : Hid ((q.set 0 256).length = m) := Lib.hid (by rw [hl2]; exact QL.out)
      have hb6 : Below (bb + 1) w5 (w5.setCell ⟨tb, 0, none⟩ (.int .i64 256)) := (Below.refl (bb + 1) w5).setCell (p := ⟨tb, 0, none⟩) htb _
      have K6 := Lib.hid ((hb6.block bb (by omega)).trans K5.out)
      have R6 := Lib.hid ((hb6.block w.heap.size (by omega)).trans R5.out)
      have D6 := Lib.hid (hD5.set (show w1.heap.size ≤ tb by omega) (show g < tb by omega) 0 (.int .i64 256))
      have RTB : Hid (l = [] ∨ ∀ b off, TA = some ⟨b, off, none⟩ → b ≠ tb) := Lib.hid (UB.out.imp id fun h b' off' e => by have := h b' off' e; have := HBB.out; omega)
      have RW6 := Lib.hid (row_apart RW5.out (grown_cell w5 tb 0 (.int .i64 256)) RTB.out)
      have QR := Lib.hid ((RowOff.own O6 (by rw [QS.out]; omega) (by rw [QS.out]; exact hm1)).low (show w1.heap.size ≤ bb + 1 by omega))
      clear o5 s1 hl2 O6 hb6 hD5 hg5
      obtain ⟨c0, c1, c2⟩ := cells3 K6.out
      have MG := Lib.hid ((QR.out.grown (grown_three (w5.setCell ⟨tb, 0, none⟩ (.int .i64 256)) w.heap.size (.int .i64 a) (.int .i64 b) (.slice TA l.length c)) (show w.heap.size < w1.heap.size by omega)).1)
      obtain ⟨r0, r1, r2⟩ := cells3 R6.out
      obtain ⟨z0, z1, z2⟩ := frozen3 R6.out
      obtain ⟨e0, e1, e2⟩ := cells3 (put_three R6.out (.int .i64 a) (.int .i64 b) (.slice TA l.length c))
      have og := Lib.hid ((RW6.out.grown (grown_three (w5.setCell ⟨tb, 0, none⟩ (.int .i64 256)) w.heap.size (.int .i64 a) (.int .i64 b) (.slice TA l.length c)) (show w.heap.size < w1.heap.size by omega)).1)
      have dz := Lib.hid ((Below.setCell (Below.setCell (Below.setCell (BW.out.trans (D6.out.belowOf (Nat.le_of_lt hgR) BW.out.size)) (p := ⟨w.heap.size, 0, none⟩) (Nat.le_refl _) (.int .i64 a)) (p := ⟨w.heap.size, 1, none⟩) (Nat.le_refl _) (.int .i64 b)) (p := ⟨w.heap.size, 2, none⟩) (Nat.le_refl _) (.slice TA l.length c)))
      go_wp2
      exact bodyPost_ret (v := .tuple #[.agg #[.int .i64 a, .int .i64 b, .slice TA l.length c], .int .i64 x, .int .i64 y, .slice (some ⟨tb, 0, none⟩) m cm]) (by simp [results, Try.results13, go_sem, e0, e1, e2]) rfl ⟨a, b, l, TA, c, x, y, q.set 0 256, (some ⟨tb, 0, none⟩), cm, by rw [QS.out], HA.out, HB.out, HX.out, HY.out, og.out, HC.out, HL.out, MG.out, by rw [QS.out]; exact HCM.out, by rw [QS.out]; omega, dz.out⟩
end Go.Proofs.Ytemfiglflbfocaa
