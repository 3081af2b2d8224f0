/-
  Contracts of chapter 18's draws. Condition: the input is no longer than 1048576 bytes.
-/
import Derived.Test.YtemfiglflbfocaaPdM
import Derived.Test.YtemfiglflbfocaaFrD
import Derived.Test.YtemfiglflbfocaaFrB
import Derived.Test.YtemfiglflbfocaaPrA
import Derived.Deep.RegionHeld3
namespace Go.Proofs.Ytemfiglflbfocaa
open Go.RowKit
set_option linter.unusedVariables false

theorem frozen3 {w : World} {g : Nat} {T : TypeId} {u v x : Value} (h : w.heap[g]? = some (.cells #[u, v, x] T (0, 0))) : w.frozen? ⟨g, 0, none⟩ = false ∧ w.frozen? ⟨g, 1, none⟩ = false ∧ w.frozen? ⟨g, 2, none⟩ = false :=
  ⟨frozen_of_row w g 0 _ _ h, frozen_of_row w g 1 _ _ h, frozen_of_row w g 2 _ _ h⟩
theorem grown_three (w : World) (g : Nat) (a b c : Value) : w.grownBy (((w.setCell ⟨g, 0, none⟩ a).setCell ⟨g, 1, none⟩ b).setCell ⟨g, 2, none⟩ c) (some g) :=
  ((grown_cell _ g 0 a).trans (grown_cell _ g 1 b)).trans (grown_cell _ g 2 c)
theorem put_three {w : World} {g : Nat} {T : TypeId} {u v x : Value} (h : w.heap[g]? = some (.cells #[u, v, x] T (0, 0))) (a b c : Value) : (((w.setCell ⟨g, 0, none⟩ a).setCell ⟨g, 1, none⟩ b).setCell ⟨g, 2, none⟩ c).heap[g]? = some (.cells #[a, b, c] T (0, 0)) := by
  rw [heap_setCell_same _ g 2 _ _ _ (heap_setCell_same _ g 1 _ _ _ (heap_setCell_same w g 0 _ _ _ h))]
  rfl
theorem dw_put3 {g : Nat} {A : Option Addr} {cap : Nat} {zs : List Int} {w0 w : World} (h : Dw g A cap zs w0 w) {R : Nat} (hR : w0.heap.size ≤ R) (hg : g < R) (a b c : Value) : Dw g A cap zs w0 (((w.setCell ⟨R, 0, none⟩ a).setCell ⟨R, 1, none⟩ b).setCell ⟨R, 2, none⟩ c) :=
  ((h.set hR hg 0 a).set hR hg 1 b).set hR hg 2 c
/-- A frame's block, the row that it holds (one's own), and the result's block. -/
def FrH (g : Nat) (A : Option Addr) (cap : Nat) (zs : List Int) (w0 : World) (bb R N tb cT baseT : Nat) (u0 u1 : Value) (z : Obj) (w : World) : Prop :=
  w.heap[bb]? = some (.cells #[u0, u1, .slice (some ⟨tb, 0, none⟩) N cT] 26 (0, 0)) ∧ w.heap[R]? = some z ∧ (∃ t : List Int, t.length = N ∧ OwnI w baseT (some ⟨tb, 0, none⟩) cT t) ∧ Dw g A cap zs w0 w
section
variable {g : Nat} {A : Option Addr} {cap : Nat} {zs : List Int} {w0 : World} {bb R N tb cT baseT : Nat} {u0 u1 : Value} {z : Obj} {w w' : World}
theorem frs_of (h : FrH g A cap zs w0 bb R N tb cT baseT u0 u1 z w) : w.cell? ⟨bb, 2, none⟩ = some (.slice (some ⟨tb, 0, none⟩) N cT) ∧ FrH g A cap zs w0 bb R N tb cT baseT u0 u1 z w := ⟨(cells3 h.1).2.2, h⟩
theorem frs_in (h : w.cell? ⟨bb, 2, none⟩ = some (.slice (some ⟨tb, 0, none⟩) N cT) ∧ FrH g A cap zs w0 bb R N tb cT baseT u0 u1 z w) : FrH g A cap zs w0 bb R N tb cT baseT u0 u1 z w := h.2
theorem frs_drew (h : w.cell? ⟨bb, 2, none⟩ = some (.slice (some ⟨tb, 0, none⟩) N cT) ∧ FrH g A cap zs w0 bb R N tb cT baseT u0 u1 z w) : w.drew.cell? ⟨bb, 2, none⟩ = some (.slice (some ⟨tb, 0, none⟩) N cT) ∧ FrH g A cap zs w0 bb R N tb cT baseT u0 u1 z w.drew := by
  obtain ⟨h0, h1, h2, ⟨t, ht, h3⟩, h5⟩ := h
  exact ⟨h0, h1, h2, ⟨t, ht, World.ownsRow.drew h3⟩, h5.drew⟩
theorem frs_alloc (h : w.cell? ⟨bb, 2, none⟩ = some (.slice (some ⟨tb, 0, none⟩) N cT) ∧ FrH g A cap zs w0 bb R N tb cT baseT u0 u1 z w) (o : Obj) : (w.alloc o).cell? ⟨bb, 2, none⟩ = some (.slice (some ⟨tb, 0, none⟩) N cT) ∧ FrH g A cap zs w0 bb R N tb cT baseT u0 u1 z (w.alloc o) := by
  obtain ⟨h0, h1, h2, ⟨t, ht, h3⟩, h5⟩ := h
  exact frs_of ⟨(Below.heap_alloc _ _ _ (heap_lt h1)).trans h1, (Below.heap_alloc _ _ _ (heap_lt h2)).trans h2, ⟨t, ht, World.ownsRow.alloc h3 o⟩, h5.alloc o⟩
theorem frs_dw (h : w.cell? ⟨bb, 2, none⟩ = some (.slice (some ⟨tb, 0, none⟩) N cT) ∧ FrH g A cap zs w0 bb R N tb cT baseT u0 u1 z w) : Dw g A cap zs w0 w := h.2.2.2.2
theorem frs_call (h : w.cell? ⟨bb, 2, none⟩ = some (.slice (some ⟨tb, 0, none⟩) N cT) ∧ FrH g A cap zs w0 bb R N tb cT baseT u0 u1 z w) (hg : w.grownBy w' (some g)) (hD : Dw g A cap zs w0 w') (h1 : g ≠ bb) (h2 : g ≠ R) (h3 : g < baseT) : w'.cell? ⟨bb, 2, none⟩ = some (.slice (some ⟨tb, 0, none⟩) N cT) ∧ FrH g A cap zs w0 bb R N tb cT baseT u0 u1 z w' := by
  obtain ⟨g0, g1, g2, ⟨t, ht, g3⟩, g5⟩ := h
  exact frs_of ⟨(hg.block bb (heap_lt g1) (by simp; omega)).trans g1, (hg.block R (heap_lt g2) (by simp; omega)).trans g2, ⟨t, ht, own_dw g3 hg h3⟩, hD⟩
theorem frs_set (h : w.cell? ⟨bb, 2, none⟩ = some (.slice (some ⟨tb, 0, none⟩) N cT) ∧ FrH g A cap zs w0 bb R N tb cT baseT u0 u1 z w) (j : Nat) (v : Int) (h1 : bb ≠ tb) (h2 : R ≠ tb) (h4 : w0.heap.size ≤ tb) (h5 : g < tb) : (w.setCell ⟨tb, j, none⟩ (.int .i64 v)).cell? ⟨bb, 2, none⟩ = some (.slice (some ⟨tb, 0, none⟩) N cT) ∧ FrH g A cap zs w0 bb R N tb cT baseT u0 u1 z (w.setCell ⟨tb, j, none⟩ (.int .i64 v)) := by
  obtain ⟨g0, g1, g2, ⟨t, ht, g3⟩, g5⟩ := h
  have s := (World.ownsRow.stored g3 j (.int .i64 v)).1
  rw [ivs_set] at s
  refine frs_of ⟨(heap_setCell_other _ _ _ _ h1).trans g1, (heap_setCell_other _ _ _ _ h2).trans g2, ⟨t.set j v, by rw [List.length_set]; exact ht, ?_⟩, g5.set h4 h5 j _⟩
  unfold OwnI
  rw [List.length_set]
  exact s
theorem frs_cell (h : w.cell? ⟨bb, 2, none⟩ = some (.slice (some ⟨tb, 0, none⟩) N cT) ∧ FrH g A cap zs w0 bb R N tb cT baseT u0 u1 z w) {j : Nat} (hj : j < N) : w.frozen? ⟨tb, j, none⟩ = false ∧ ∃ u, w.cell? ⟨tb, j, none⟩ = some u := by
  obtain ⟨g0, g1, g2, ⟨t, ht, g3⟩, g5⟩ := h
  exact ⟨World.ownsRow.frozenAt g3 j, _, (World.ownsRow.cellAt g3 j (by omega)).trans (ivs_at t j (by omega))⟩
end

set_option maxRecDepth 100000 in
set_option maxHeartbeats 8000000 in
theorem l18frame_ex (A : Option Addr) (cap : Nat) (zs : List Int) (w0 w : World) (g : Nat) (h : Dw g A cap zs w0 w) :
    Calls Try.prog 73 #[.pointer (some ⟨g, 0, none⟩)] w fun e w' => ∃ (a b N : Nat) (l : List Int) (tb c : Nat), e = .returned (.agg #[.int .i64 a, .int .i64 b, .slice (some ⟨tb, 0, none⟩) N c]) ∧ (8 ≤ a ∧ a ≤ 24) ∧ (8 ≤ b ∧ b ≤ 16) ∧ N = a * b ∧ l.length = N ∧ OwnI w' w.heap.size (some ⟨tb, 0, none⟩) c l ∧ Dw g A cap zs w0 w' := by
  have hgw : g < w.heap.size := h.lt
  have hs0 : w0.heap.size ≤ w.heap.size := h.size
  have BC := Lib.hid below_ex; have PC := Lib.hid pick_ex; have CL := Lib.hid l15clip_any
  have D0 := Lib.hid (h.alloc (.cells #[.int .i64 0, .int .i64 0, .slice none 0 0] 26))
  have R0 := Lib.hid (heap_alloc_new w (.cells #[.int .i64 0, .int .i64 0, .slice none 0 0] 26))
  have P5 : Hid (∀ (w0 w : World) (gl : Nat), Dw g A cap zs w0 w → w.heap[gl]? = some (.cells #[.int .i64 1, .int .i64 1, .int .i64 3, .int .i64 40, .int .i64 256] 3 (0, 0)) → gl ≠ g → Calls Try.prog 67 #[.pointer (some ⟨g, 0, none⟩), .slice (some ⟨gl, 0, none⟩) 5 5] w fun e w' => ∃ x : Int, e = .returned (.int .i64 x) ∧ x ∈ ([1, 1, 3, 40, 256] : List Int) ∧ Dw g A cap zs w0 w' ∧ w.grownBy w' (some g)) := Lib.hid (PC.out [1, 1, 3, 40, 256] (by simp) (by simp) g A cap zs)
  have hz : (w.alloc (.cells #[.int .i64 0, .int .i64 0, .slice none 0 0] 26)).heap.size = w.heap.size + 1 := by simp
  clear h
  go_enter Try.func73, Try.ntmps73
  go_wp2_with fail
  refine (BC.out 3 _ _ _ _ _ _ D0.out).mono ?_
  rintro e w1 ⟨x, rfl, hx, -, hD1, hg1⟩
  have hx1 : (x : Int) < 3 := hx (by decide)
  have D1 := Lib.hid hD1; have S1 : w.heap.size + 1 ≤ w1.heap.size := by rw [← hz]; exact hg1.size
  have R1 := Lib.hid ((hg1.block w.heap.size (by rw [hz]; omega) (by simp; omega)).trans R0.out)
  obtain ⟨x1, hx2⟩ : ∃ x1 : Nat, (1 : Int) + (x : Int) = (x1 : Int) := ⟨1 + x, by omega⟩
  obtain ⟨W, hW⟩ : ∃ W : Nat, (8 : Int) * (x1 : Int) = (W : Int) := ⟨8 * x1, by omega⟩
  have hWb : 8 ≤ W ∧ W ≤ 24 ∧ W % 8 = 0 := by omega
  clear hx hD1 hg1 D0 R0 hz
  go_wp2_with fail
  refine (BC.out 2 _ _ _ _ _ _ D1.out).mono ?_
  rintro e w2 ⟨y, rfl, hy, -, hD2, hg2⟩
  have hy1 : (y : Int) < 2 := hy (by decide)
  have D2 := Lib.hid hD2; have S2 : w.heap.size + 1 ≤ w2.heap.size := Nat.le_trans S1 hg2.size
  have R2 := Lib.hid ((hg2.block w.heap.size (by omega) (by simp; omega)).trans R1.out)
  obtain ⟨y1, hy2⟩ : ∃ x1 : Nat, (1 : Int) + (y : Int) = (x1 : Int) := ⟨1 + y, by omega⟩
  obtain ⟨Hh, hH⟩ : ∃ W : Nat, (8 : Int) * (y1 : Int) = (W : Int) := ⟨8 * y1, by omega⟩
  have hHb : 8 ≤ Hh ∧ Hh ≤ 16 ∧ Hh % 8 = 0 := by omega
  have FN := Lib.hid (spec_framenew_any (W : Int) (Hh : Int))
  have hsd : sidesE (W : Int) (Hh : Int) = true := by simp [sidesE, sidE]; omega
  have e1 : newW (W : Int) (Hh : Int) = (W : Int) := by unfold newW; rw [if_pos hsd]
  have e2 : newH (W : Int) (Hh : Int) = (Hh : Int) := by unfold newH; rw [if_pos hsd]
  obtain ⟨N, hN⟩ : ∃ N, N = W * Hh := ⟨_, rfl⟩
  have hNi : (W : Int) * (Hh : Int) = (N : Int) := by rw [hN]; exact_mod_cast rfl
  have e3 : newL (W : Int) (Hh : Int) = List.replicate N 0 := by unfold newL; rw [if_pos hsd, hNi, Int.toNat_natCast]
  have hNb : 64 ≤ N ∧ N ≤ 384 := by
    have h1 : 8 * 8 ≤ W * Hh := Nat.mul_le_mul hWb.1 hHb.1
    have h2 : W * Hh ≤ 24 * 16 := Nat.mul_le_mul hWb.2.1 hHb.2.1
    omega
  rw [e1, e2, e3, List.length_replicate] at FN
  have HN := Lib.hid hN
  clear hy hD2 hg2 D1 R1 hsd e1 e2 e3 hN
  go_wp2_with fail
  refine (FN.out w2).mono ?_
  rintro e w3 ⟨TA, cT, rfl, hoT, hb3⟩
  obtain ⟨tb, rfl, htb, htw, -⟩ := own_whereO hoT rfl (by rw [List.length_replicate]; omega)
  have D3 := D2.out.below hb3
  have R3 := (hb3.block w.heap.size (by omega)).trans R2.out
  have hb4 := below_new w3 (.cells #[.int .i64 W, .int .i64 Hh, .slice (some ⟨tb, 0, none⟩) N cT] 26)
  obtain ⟨bb, hbb⟩ : ∃ bb, bb = w3.heap.size := ⟨_, rfl⟩
  obtain ⟨w4, hw4⟩ : ∃ w4, w4 = w3.alloc (.cells #[.int .i64 W, .int .i64 Hh, .slice (some ⟨tb, 0, none⟩) N cT] 26) := ⟨_, rfl⟩
  have hg2l := D2.out.lt
  have FH4 : FrH g A cap zs w0 bb w.heap.size N tb cT w2.heap.size (.int .i64 W) (.int .i64 Hh) (.cells #[.int .i64 0, .int .i64 0, .slice none 0 0] 26 (0, 0)) w4 := by
    rw [hw4, hbb]
    exact ⟨heap_alloc_new _ _, (Below.heap_alloc _ _ _ (heap_lt R3)).trans R3, ⟨_, List.length_replicate, World.ownsRow.alloc hoT _⟩, D3.alloc _⟩
  have F4 := Lib.hid (frs_of FH4)
  have htbb : tb < bb := by omega
  have n1 : g ≠ bb := by have := hb3.size; omega
  have n2 : g ≠ w.heap.size := by omega
  have n3 : g < w2.heap.size := hg2l
  have n5 : bb ≠ tb := by omega
  have n6 : w.heap.size ≠ tb := by omega
  have n8 : w0.heap.size ≤ tb := by omega
  have n9 : g < tb := by omega
  have hlow : w.heap.size ≤ w2.heap.size := by omega
  have HW4 := Lib.hid hw4; have HBB := Lib.hid hbb
  clear hoT hb3 D3 R3 hb4 FH4 htb htw hw4 hbb hg2l D2 R2 FN
  go_wp2_with fail
  rw [← HW4.out, ← HBB.out]
  refine (BC.out 256 _ _ _ _ _ _ (frs_dw F4.out)).mono ?_
  rintro e w5 ⟨b0, rfl, -, -, hD5, hg5⟩
  have F5 := Lib.hid (frs_call F4.out hg5 hD5 n1 n2 n3)
  clear hD5 hg5 F4 HW4 HBB
  go_wp2_with fail
  refine (BC.out 9 _ _ _ _ _ _ (frs_dw F5.out)).mono ?_
  rintro e w6 ⟨b1, rfl, -, -, hD6, hg6⟩
  have F6 := Lib.hid (frs_call F5.out hg6 hD6 n1 n2 n3)
  clear hD6 hg6 F5
  go_wp2_with fail
  refine (BC.out 9 _ _ _ _ _ _ (frs_dw F6.out)).mono ?_
  rintro e w7 ⟨b2, rfl, -, -, hD7, hg7⟩
  have F7 := Lib.hid (frs_call F6.out hg7 hD7 n1 n2 n3)
  clear hD7 hg7 F6
  have F7a := Lib.hid (frs_alloc F7.out (.cells #[.int .i64 1, .int .i64 1, .int .i64 3, .int .i64 40, .int .i64 256] 3))
  have hg7l := (frs_dw F7.out).lt
  go_wp2_with fail
  refine (P5.out _ _ w7.heap.size (frs_dw F7a.out) (heap_alloc_new w7 _) (by omega)).mono ?_
  rintro e w8 ⟨z, rfl, -, hD8, hg8⟩
  have F8 := Lib.hid (frs_call F7a.out hg8 hD8 n1 n2 n3)
  clear hD8 hg8 F7 F7a hg7l
  go_wp2
  go_loopw [10] (fun x10 wr => ∃ j : Nat, j ≤ N ∧ x10 = .int .i64 j ∧ wr.cell? ⟨bb, 2, none⟩ = some (.slice (some ⟨tb, 0, none⟩) N cT) ∧ FrH g A cap zs w0 bb w.heap.size N tb cT w2.heap.size (.int .i64 W) (.int .i64 Hh) (.cells #[.int .i64 0, .int .i64 0, .slice none 0 0] 26 (0, 0)) wr) (fun x10 _ => N - (intOf x10).toNat)
  case atStart => exact ⟨0, Nat.zero_le _, rfl, F8.out⟩
  case round =>
    obtain ⟨j, hj, rfl, hF⟩ := hrel
    have HF := Lib.hid hF
    by_cases hlt : j < N
    · have d1 : decide ((j : Int) < (N : Int)) = true := by simp; omega
      have hF1 := frs_drew hF
      have hW0 : (W : Int) ≠ 0 := by omega
      have hW1 : ((W : Int) == 0) = false := by rw [beq_eq_false_iff_ne]; exact hW0
      have hW2 : ¬ W = 0 := by omega
      have hW3 : ¬ (W : Int) = 0 := hW0
      have hjN : (j : Int) < (N : Int) := by omega
      go_wp2_with fail
      go_region_held3 (fun w' => w'.cell? ⟨bb, 2, none⟩ = some (.slice (some ⟨tb, 0, none⟩) N cT) ∧ FrH g A cap zs w0 bb w.heap.size N tb cT w2.heap.size (.int .i64 W) (.int .i64 Hh) (.cells #[.int .i64 0, .int .i64 0, .slice none 0 0] 26 (0, 0)) w')
        (first | with_reducible assumption | (with_reducible refine frs_drew ?_; with_reducible assumption) | (with_reducible refine frs_alloc ?_ _; with_reducible assumption) | (with_reducible refine frs_drew (frs_alloc ?_ _); with_reducible assumption) | (exact frs_set (by with_reducible assumption) _ _ n5 n6 n8 n9) | fail)
        (first
          | (go_at_call 68; (refine (BC.out _ _ _ _ _ _ _ (frs_dw (by with_reducible assumption))).mono ?_); rintro e wa ⟨u, rfl, -, -, hDa, hga⟩; have Sa := frs_call (by with_reducible assumption) hga hDa n1 n2 n3; have SaH := Lib.hid Sa; clear hDa hga)
          | (go_at_call 77; (refine (CL.out _ _).mono ?_); rintro e wb ⟨rfl, hwb⟩; have Sb := SaH.out; obtain ⟨fz, u0, cj⟩ := frs_cell Sb hlt; subst hwb)
          | fail)
      all_goals
        have SF := Lib.hid fun v => frs_set SaH.out j v n5 n6 n8 n9
        go_wp2
        go_roundw
        case rel => exact ⟨j + 1, by omega, by go_num, SF.out _⟩
        case measure => simp [intOf]; omega
    · have d1 : decide ((j : Int) < (N : Int)) = false := by simp; omega
      obtain ⟨-, kF, rF, ⟨tF, htF, oF⟩, dF⟩ := hF
      obtain ⟨c0, c1, c2⟩ := cells3 kF
      obtain ⟨r0, r1, r2⟩ := cells3 rF
      obtain ⟨z0, z1, z2⟩ := frozen3 rF
      obtain ⟨e0, e1, e2⟩ := cells3 (put_three rF (.int .i64 W) (.int .i64 Hh) (.slice (some ⟨tb, 0, none⟩) N cT))
      have og := Lib.hid ((own_ne oF (grown_three wr w.heap.size (.int .i64 W) (.int .i64 Hh) (.slice (some ⟨tb, 0, none⟩) N cT)) (fun k hk => by simp only [Value.ownBlock, Option.some.injEq] at hk; omega)).low hlow)
      have dz := Lib.hid (dw_put3 dF hs0 hgw (.int .i64 W) (.int .i64 Hh) (.slice (some ⟨tb, 0, none⟩) N cT))
      have TLF := Lib.hid htF
      clear kF rF oF dF htF
      go_wp2
      exact bodyPost_ret (v := .agg #[.int .i64 W, .int .i64 Hh, .slice (some ⟨tb, 0, none⟩) N cT]) (by simp [results, Try.results73, go_sem, e0, e1, e2]) rfl ⟨W, Hh, N, tF, tb, cT, rfl, ⟨hWb.1, hWb.2.1⟩, ⟨hHb.1, hHb.2.1⟩, HN.out, TLF.out, og.out, dz.out⟩

end Go.Proofs.Ytemfiglflbfocaa
