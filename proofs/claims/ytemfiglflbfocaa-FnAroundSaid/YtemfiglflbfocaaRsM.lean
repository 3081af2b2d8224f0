/-
  The laws' helpers over Block: its copy, whether two are alike, its marks. Condition: its row is no longer than 1048576 (the laws ask no more).
  The laws' helpers over Header: its copy, whether two are alike, its marks. Condition: its row is no longer than 1048576 (the laws ask no more).
  The laws' helpers over Frame: its copy, whether two are alike, its marks. Condition: its row is no longer than 1048576 (the laws ask no more).
-/
import Derived.Test.YtemfiglflbfocaaNbA
namespace Go.Proofs.Ytemfiglflbfocaa
open Go.RowKit
set_option linter.unusedVariables false

theorem rs2_cells {w : World} {g : Nat} {T : TypeId} {u0 u1 : Value} {fr : Nat × Nat} (h : w.heap[g]? = some (.cells #[u0, u1] T fr)) : w.cell? ⟨g, 0, none⟩ = some u0 ∧ w.cell? ⟨g, 1, none⟩ = some u1 :=
  ⟨cell_of_row _ _ 0 _ _ _ h, cell_of_row _ _ 1 _ _ _ h⟩
theorem rs2_frozen {w : World} {g : Nat} {u0 u1 : Value} {T : TypeId} (h : w.heap[g]? = some (.cells #[u0, u1] T (0, 0))) : w.frozen? ⟨g, 0, none⟩ = false ∧ w.frozen? ⟨g, 1, none⟩ = false :=
  ⟨frozen_of_row w g 0 _ _ h, frozen_of_row w g 1 _ _ h⟩
theorem rs2_put {w : World} {g : Nat} {T : TypeId} {u0 u1 : Value} (h : w.heap[g]? = some (.cells #[u0, u1] T (0, 0))) (v0 v1 : Value) : ((w.setCell ⟨g, 0, none⟩ v0).setCell ⟨g, 1, none⟩ v1).heap[g]? = some (.cells #[v0, v1] T (0, 0)) := by
  rw [heap_setCell_same _ g 1 _ _ _ (heap_setCell_same w g 0 _ _ _ h)]
  rfl
theorem rs2_grown (w : World) (g : Nat) (v0 v1 : Value) : w.grownBy ((w.setCell ⟨g, 0, none⟩ v0).setCell ⟨g, 1, none⟩ v1) (some g) := (World.grownBy.trans (grown_cell _ g 0 v0) (grown_cell _ g 1 v1))
theorem rs2_hold {w wr w' : World} {base : Nat} {a0 a1 b0 b1 : Addr} {u0 u1 v0 v1 : Value} {A : Option Addr} {c : Nat} {l : List Int} (h : wr.cell? a0 = some u0 ∧ wr.cell? a1 = some u1 ∧ wr.cell? b0 = some v0 ∧ wr.cell? b1 = some v1 ∧ OwnI wr base A c l ∧ Below w.heap.size w wr) (hb : Below wr.heap.size wr w') : w'.cell? a0 = some u0 ∧ w'.cell? a1 = some u1 ∧ w'.cell? b0 = some v0 ∧ w'.cell? b1 = some v1 ∧ OwnI w' base A c l ∧ Below w.heap.size w w' := by
  obtain ⟨h0, h1, h2, h3, ho, hw⟩ := h
  have k : ∀ {p : Addr} {v : Value}, wr.cell? p = some v → w'.cell? p = some v := fun hc => by
    rw [hb.cell (World.block_lt_of_cell? wr _ hc)]; exact hc
  exact ⟨k h0, k h1, k h2, k h3, ho.kept hb (Nat.le_refl _), below_up hw hb hw.size⟩
theorem rs2_hold_drew {w wr : World} {base : Nat} {a0 a1 b0 b1 : Addr} {u0 u1 v0 v1 : Value} {A : Option Addr} {c : Nat} {l : List Int} (h : wr.cell? a0 = some u0 ∧ wr.cell? a1 = some u1 ∧ wr.cell? b0 = some v0 ∧ wr.cell? b1 = some v1 ∧ OwnI wr base A c l ∧ Below w.heap.size w wr) : wr.drew.cell? a0 = some u0 ∧ wr.drew.cell? a1 = some u1 ∧ wr.drew.cell? b0 = some v0 ∧ wr.drew.cell? b1 = some v1 ∧ OwnI wr.drew base A c l ∧ Below w.heap.size w wr.drew := by
  obtain ⟨h0, h1, h2, h3, ho, hw⟩ := h
  exact ⟨h0, h1, h2, h3, World.ownsRow.drew ho, hw.drew⟩
theorem rs2_held_own {w wr : World} {base : Nat} {a0 a1 b0 b1 : Addr} {u0 u1 v0 v1 : Value} {A : Option Addr} {c : Nat} {l : List Int} (h : wr.cell? a0 = some u0 ∧ wr.cell? a1 = some u1 ∧ wr.cell? b0 = some v0 ∧ wr.cell? b1 = some v1 ∧ OwnI wr base A c l ∧ Below w.heap.size w wr) : OwnI wr base A c l := h.2.2.2.2.1
theorem rs2_held_below {w wr : World} {base : Nat} {a0 a1 b0 b1 : Addr} {u0 u1 v0 v1 : Value} {A : Option Addr} {c : Nat} {l : List Int} (h : wr.cell? a0 = some u0 ∧ wr.cell? a1 = some u1 ∧ wr.cell? b0 = some v0 ∧ wr.cell? b1 = some v1 ∧ OwnI wr base A c l ∧ Below w.heap.size w wr) : Below w.heap.size w wr := h.2.2.2.2.2
end Go.Proofs.Ytemfiglflbfocaa

namespace Go.Proofs.Ytemfiglflbfocaa
open Go.RowKit
set_option linter.unusedVariables false

theorem rs6_cells {w : World} {g : Nat} {T : TypeId} {u0 u1 u2 u3 u4 u5 : Value} {fr : Nat × Nat} (h : w.heap[g]? = some (.cells #[u0, u1, u2, u3, u4, u5] T fr)) : w.cell? ⟨g, 0, none⟩ = some u0 ∧ w.cell? ⟨g, 1, none⟩ = some u1 ∧ w.cell? ⟨g, 2, none⟩ = some u2 ∧ w.cell? ⟨g, 3, none⟩ = some u3 ∧ w.cell? ⟨g, 4, none⟩ = some u4 ∧ w.cell? ⟨g, 5, none⟩ = some u5 :=
  ⟨cell_of_row _ _ 0 _ _ _ h, cell_of_row _ _ 1 _ _ _ h, cell_of_row _ _ 2 _ _ _ h, cell_of_row _ _ 3 _ _ _ h, cell_of_row _ _ 4 _ _ _ h, cell_of_row _ _ 5 _ _ _ h⟩
theorem rs6_frozen {w : World} {g : Nat} {u0 u1 u2 u3 u4 u5 : Value} {T : TypeId} (h : w.heap[g]? = some (.cells #[u0, u1, u2, u3, u4, u5] T (0, 0))) : w.frozen? ⟨g, 0, none⟩ = false ∧ w.frozen? ⟨g, 1, none⟩ = false ∧ w.frozen? ⟨g, 2, none⟩ = false ∧ w.frozen? ⟨g, 3, none⟩ = false ∧ w.frozen? ⟨g, 4, none⟩ = false ∧ w.frozen? ⟨g, 5, none⟩ = false :=
  ⟨frozen_of_row w g 0 _ _ h, frozen_of_row w g 1 _ _ h, frozen_of_row w g 2 _ _ h, frozen_of_row w g 3 _ _ h, frozen_of_row w g 4 _ _ h, frozen_of_row w g 5 _ _ h⟩
theorem rs6_put {w : World} {g : Nat} {T : TypeId} {u0 u1 u2 u3 u4 u5 : Value} (h : w.heap[g]? = some (.cells #[u0, u1, u2, u3, u4, u5] T (0, 0))) (v0 v1 v2 v3 v4 v5 : Value) : ((((((w.setCell ⟨g, 0, none⟩ v0).setCell ⟨g, 1, none⟩ v1).setCell ⟨g, 2, none⟩ v2).setCell ⟨g, 3, none⟩ v3).setCell ⟨g, 4, none⟩ v4).setCell ⟨g, 5, none⟩ v5).heap[g]? = some (.cells #[v0, v1, v2, v3, v4, v5] T (0, 0)) := by
  rw [heap_setCell_same _ g 5 _ _ _ (heap_setCell_same _ g 4 _ _ _ (heap_setCell_same _ g 3 _ _ _ (heap_setCell_same _ g 2 _ _ _ (heap_setCell_same _ g 1 _ _ _ (heap_setCell_same w g 0 _ _ _ h)))))]
  rfl
theorem rs6_grown (w : World) (g : Nat) (v0 v1 v2 v3 v4 v5 : Value) : w.grownBy ((((((w.setCell ⟨g, 0, none⟩ v0).setCell ⟨g, 1, none⟩ v1).setCell ⟨g, 2, none⟩ v2).setCell ⟨g, 3, none⟩ v3).setCell ⟨g, 4, none⟩ v4).setCell ⟨g, 5, none⟩ v5) (some g) := (World.grownBy.trans (World.grownBy.trans (World.grownBy.trans (World.grownBy.trans (World.grownBy.trans (grown_cell _ g 0 v0) (grown_cell _ g 1 v1)) (grown_cell _ g 2 v2)) (grown_cell _ g 3 v3)) (grown_cell _ g 4 v4)) (grown_cell _ g 5 v5))
theorem rs6_hold {w wr w' : World} {base : Nat} {a0 a1 a2 a3 a4 a5 b0 b1 b2 b3 b4 b5 : Addr} {u0 u1 u2 u3 u4 u5 v0 v1 v2 v3 v4 v5 : Value} {A : Option Addr} {c : Nat} {l : List Int} (h : wr.cell? a0 = some u0 ∧ wr.cell? a1 = some u1 ∧ wr.cell? a2 = some u2 ∧ wr.cell? a3 = some u3 ∧ wr.cell? a4 = some u4 ∧ wr.cell? a5 = some u5 ∧ wr.cell? b0 = some v0 ∧ wr.cell? b1 = some v1 ∧ wr.cell? b2 = some v2 ∧ wr.cell? b3 = some v3 ∧ wr.cell? b4 = some v4 ∧ wr.cell? b5 = some v5 ∧ OwnI wr base A c l ∧ Below w.heap.size w wr) (hb : Below wr.heap.size wr w') : w'.cell? a0 = some u0 ∧ w'.cell? a1 = some u1 ∧ w'.cell? a2 = some u2 ∧ w'.cell? a3 = some u3 ∧ w'.cell? a4 = some u4 ∧ w'.cell? a5 = some u5 ∧ w'.cell? b0 = some v0 ∧ w'.cell? b1 = some v1 ∧ w'.cell? b2 = some v2 ∧ w'.cell? b3 = some v3 ∧ w'.cell? b4 = some v4 ∧ w'.cell? b5 = some v5 ∧ OwnI w' base A c l ∧ Below w.heap.size w w' := by
  obtain ⟨h0, h1, h2, h3, h4, h5, h6, h7, h8, h9, h10, h11, ho, hw⟩ := h
  have k : ∀ {p : Addr} {v : Value}, wr.cell? p = some v → w'.cell? p = some v := fun hc => by
    rw [hb.cell (World.block_lt_of_cell? wr _ hc)]; exact hc
  exact ⟨k h0, k h1, k h2, k h3, k h4, k h5, k h6, k h7, k h8, k h9, k h10, k h11, ho.kept hb (Nat.le_refl _), below_up hw hb hw.size⟩
theorem rs6_hold_drew {w wr : World} {base : Nat} {a0 a1 a2 a3 a4 a5 b0 b1 b2 b3 b4 b5 : Addr} {u0 u1 u2 u3 u4 u5 v0 v1 v2 v3 v4 v5 : Value} {A : Option Addr} {c : Nat} {l : List Int} (h : wr.cell? a0 = some u0 ∧ wr.cell? a1 = some u1 ∧ wr.cell? a2 = some u2 ∧ wr.cell? a3 = some u3 ∧ wr.cell? a4 = some u4 ∧ wr.cell? a5 = some u5 ∧ wr.cell? b0 = some v0 ∧ wr.cell? b1 = some v1 ∧ wr.cell? b2 = some v2 ∧ wr.cell? b3 = some v3 ∧ wr.cell? b4 = some v4 ∧ wr.cell? b5 = some v5 ∧ OwnI wr base A c l ∧ Below w.heap.size w wr) : wr.drew.cell? a0 = some u0 ∧ wr.drew.cell? a1 = some u1 ∧ wr.drew.cell? a2 = some u2 ∧ wr.drew.cell? a3 = some u3 ∧ wr.drew.cell? a4 = some u4 ∧ wr.drew.cell? a5 = some u5 ∧ wr.drew.cell? b0 = some v0 ∧ wr.drew.cell? b1 = some v1 ∧ wr.drew.cell? b2 = some v2 ∧ wr.drew.cell? b3 = some v3 ∧ wr.drew.cell? b4 = some v4 ∧ wr.drew.cell? b5 = some v5 ∧ OwnI wr.drew base A c l ∧ Below w.heap.size w wr.drew := by
  obtain ⟨h0, h1, h2, h3, h4, h5, h6, h7, h8, h9, h10, h11, ho, hw⟩ := h
  exact ⟨h0, h1, h2, h3, h4, h5, h6, h7, h8, h9, h10, h11, World.ownsRow.drew ho, hw.drew⟩
theorem rs6_held_own {w wr : World} {base : Nat} {a0 a1 a2 a3 a4 a5 b0 b1 b2 b3 b4 b5 : Addr} {u0 u1 u2 u3 u4 u5 v0 v1 v2 v3 v4 v5 : Value} {A : Option Addr} {c : Nat} {l : List Int} (h : wr.cell? a0 = some u0 ∧ wr.cell? a1 = some u1 ∧ wr.cell? a2 = some u2 ∧ wr.cell? a3 = some u3 ∧ wr.cell? a4 = some u4 ∧ wr.cell? a5 = some u5 ∧ wr.cell? b0 = some v0 ∧ wr.cell? b1 = some v1 ∧ wr.cell? b2 = some v2 ∧ wr.cell? b3 = some v3 ∧ wr.cell? b4 = some v4 ∧ wr.cell? b5 = some v5 ∧ OwnI wr base A c l ∧ Below w.heap.size w wr) : OwnI wr base A c l := h.2.2.2.2.2.2.2.2.2.2.2.2.1
theorem rs6_held_below {w wr : World} {base : Nat} {a0 a1 a2 a3 a4 a5 b0 b1 b2 b3 b4 b5 : Addr} {u0 u1 u2 u3 u4 u5 v0 v1 v2 v3 v4 v5 : Value} {A : Option Addr} {c : Nat} {l : List Int} (h : wr.cell? a0 = some u0 ∧ wr.cell? a1 = some u1 ∧ wr.cell? a2 = some u2 ∧ wr.cell? a3 = some u3 ∧ wr.cell? a4 = some u4 ∧ wr.cell? a5 = some u5 ∧ wr.cell? b0 = some v0 ∧ wr.cell? b1 = some v1 ∧ wr.cell? b2 = some v2 ∧ wr.cell? b3 = some v3 ∧ wr.cell? b4 = some v4 ∧ wr.cell? b5 = some v5 ∧ OwnI wr base A c l ∧ Below w.heap.size w wr) : Below w.heap.size w wr := h.2.2.2.2.2.2.2.2.2.2.2.2.2
end Go.Proofs.Ytemfiglflbfocaa

namespace Go.Proofs.Ytemfiglflbfocaa
open Go.RowKit
set_option linter.unusedVariables false

theorem rs3_cells {w : World} {g : Nat} {T : TypeId} {u0 u1 u2 : Value} {fr : Nat × Nat} (h : w.heap[g]? = some (.cells #[u0, u1, u2] T fr)) : w.cell? ⟨g, 0, none⟩ = some u0 ∧ w.cell? ⟨g, 1, none⟩ = some u1 ∧ w.cell? ⟨g, 2, none⟩ = some u2 :=
  ⟨cell_of_row _ _ 0 _ _ _ h, cell_of_row _ _ 1 _ _ _ h, cell_of_row _ _ 2 _ _ _ h⟩
theorem rs3_frozen {w : World} {g : Nat} {u0 u1 u2 : Value} {T : TypeId} (h : w.heap[g]? = some (.cells #[u0, u1, u2] T (0, 0))) : w.frozen? ⟨g, 0, none⟩ = false ∧ w.frozen? ⟨g, 1, none⟩ = false ∧ w.frozen? ⟨g, 2, none⟩ = false :=
  ⟨frozen_of_row w g 0 _ _ h, frozen_of_row w g 1 _ _ h, frozen_of_row w g 2 _ _ h⟩
set_option maxRecDepth 100000 in
set_option maxHeartbeats 400000 in
theorem szframe_any (A : Option Addr) (n c : Nat) (p0 : Int) (p1 : Int) (left : Int) (hn : n ≤ 9223372036854775807) (h0 : 0 ≤ left) (h1 : left ≤ 1048576) (w : World) :
    Calls Try.prog 29 #[.agg #[.int .i64 p0, .int .i64 p1, .slice A n c], .int .i64 left] w fun e w' => e = .returned (.int .i64 (if left < (n : Int) then -1 else left - (n : Int))) ∧ Below w.heap.size w w' := by
  have S1 := Lib.hid (szints_row A n c left hn h0 h1)
  by_cases h : left < (n : Int)
  · rw [if_pos h] at S1 ⊢
    clear h
    go_enter Try.func29, Try.ntmps29
    go_wp2_with fail
    refine (S1.out _).mono ?_
    rintro e w1 ⟨rfl, hw⟩
    subst hw
    go_wp2
    go_ret
    exact ⟨rfl, below_new _ _⟩
  · rw [if_neg h] at S1 ⊢
    have hq : decide (left - (n : Int) < 0) = false := by simp; omega
    clear h
    go_enter Try.func29, Try.ntmps29
    go_wp2_with fail
    refine (S1.out _).mono ?_
    rintro e w1 ⟨rfl, hw⟩
    subst hw
    go_wp2
    go_ret
    exact ⟨rfl, below_new _ _⟩
set_option maxRecDepth 100000 in
set_option maxHeartbeats 1000000 in
/-- The row marked: only its block was written. -/
theorem markframe_any (base : Nat) (A : Option Addr) (cap : Nat) (l : List Int) (p0 : Int) (p1 : Int) (k : Int) (hk : 0 ≤ k) (hk2 : k ≤ 281474976710656) (hl : l.length ≤ 281474976710656) (w : World) (hO : OwnI w base A cap l) :
    Calls Try.prog 34 #[.agg #[.int .i64 p0, .int .i64 p1, .slice A l.length cap], .int .i64 k] w fun e w' => e = .returned (.int .i64 (k + (l.length : Int))) ∧ OwnI w' base A cap (markL k l.length) ∧ w.grownBy w' (Value.slice A l.length cap).ownBlock := by
  have nb := below_new w (.cells #[.int .i64 p0, .int .i64 p1, .slice A l.length cap] 26)
  have M1 := Lib.hid (markints_any base A cap l k hk hk2 hl _ (hO.kept nb (Nat.le_refl _)))
  have G0 := Lib.hid (below_grown nb (Value.slice A l.length cap).ownBlock)
  obtain ⟨n, hn⟩ : ∃ n, n = l.length := ⟨_, rfl⟩
  rw [← hn] at M1 G0 hl ⊢
  clear hO nb hn
  go_enter Try.func34, Try.ntmps34
  go_wp2_with fail
  refine M1.out.mono ?_
  rintro e w1 ⟨rfl, ho, hg⟩
  have O1 := Lib.hid ho; have G1 := Lib.hid (G0.out.trans hg)
  clear ho hg
  go_wp2
  go_ret
  exact ⟨rfl, O1.out, G1.out⟩
set_option maxRecDepth 100000 in
set_option maxHeartbeats 1000000 in
theorem heldframe_any (A : Option Addr) (cap : Nat) (n : Nat) (p0 : Int) (p1 : Int) (k : Int) (hk : 0 ≤ k) (hk2 : k ≤ 281474976710656) (hn : n ≤ 281474976710656) (w : World) (hA : Ints w w.heap.size A (markL k n)) :
    Calls Try.prog 35 #[.agg #[.int .i64 p0, .int .i64 p1, .slice A n cap], .int .i64 k] w fun e w' => e = .returned (.int .i64 (k + (n : Int))) ∧ Below w.heap.size w w' := by
  have nb := below_new w (.cells #[.int .i64 p0, .int .i64 p1, .slice A n cap] 26)
  have M1 := Lib.hid (heldints_any A cap n k hk hk2 _ ((hA.below nb (Nat.le_refl _)).mono nb.size))
  have B0 := Lib.hid nb
  have hq : decide (k + (n : Int) < 0) = false := by simp; omega
  clear hA nb
  go_enter Try.func35, Try.ntmps35
  go_wp2_with fail
  refine M1.out.mono ?_
  rintro e w1 ⟨rfl, hb⟩
  have B1 := Lib.hid (below_up B0.out hb B0.out.size)
  clear hb
  go_wp2
  go_ret
  exact ⟨rfl, B1.out⟩
set_option maxRecDepth 100000 in
set_option maxHeartbeats 1000000 in
/-- Two that read alike are alike. -/
theorem eqframe_same (A B : Option Addr) (cA cB : Nat) (l : List Int) (p0 : Int) (p1 : Int) (w : World) (hA : Ints w w.heap.size A l) (hB : Ints w w.heap.size B l) :
    Calls Try.prog 32 #[.agg #[.int .i64 p0, .int .i64 p1, .slice A l.length cA], .agg #[.int .i64 p0, .int .i64 p1, .slice B l.length cB]] w fun e w' => e = .returned (.bool true) ∧ Below w.heap.size w w' := by
  have E1 := Lib.hid fun w h1 h2 => eqints_any A B cA cB l l w h1 h2
  rw [decide_eq_true (rfl : l = l)] at E1
  have HA := Lib.hid hA; have HB := Lib.hid hB
  clear hA hB
  obtain ⟨n, hn⟩ : ∃ n, n = l.length := ⟨_, rfl⟩
  rw [← hn] at E1 ⊢
  have q0 : (p0 != p0) = false := by simp
  have q1 : (p1 != p1) = false := by simp
  obtain ⟨h0, h1⟩ := heap_two w (.cells #[.int .i64 p0, .int .i64 p1, .slice A n cA] 26) (.cells #[.int .i64 p0, .int .i64 p1, .slice B n cB] 26)
  have H0 := Lib.hid h0; have H1 := Lib.hid h1
  obtain ⟨c0, c1, c2⟩ := rs3_cells h0
  obtain ⟨d0, d1, d2⟩ := rs3_cells h1
  clear hn h0 h1
  go_enter Try.func32, Try.ntmps32
  go_wp2_with fail
  refine (E1.out _ ((HA.out.below (below_two _ _ _) (Nat.le_refl _)).mono (below_two _ _ _).size) ((HB.out.below (below_two _ _ _) (Nat.le_refl _)).mono (below_two _ _ _).size)).mono ?_
  rintro e w1 ⟨rfl, hb1⟩
  have B1 := Lib.hid (below_up (below_two w _ _) hb1 (below_two w _ _).size)
  clear hb1
  go_wp2
  go_ret
  exact ⟨rfl, B1.out⟩
theorem rs3_put {w : World} {g : Nat} {T : TypeId} {u0 u1 u2 : Value} (h : w.heap[g]? = some (.cells #[u0, u1, u2] T (0, 0))) (v0 v1 v2 : Value) : (((w.setCell ⟨g, 0, none⟩ v0).setCell ⟨g, 1, none⟩ v1).setCell ⟨g, 2, none⟩ v2).heap[g]? = some (.cells #[v0, v1, v2] T (0, 0)) := by
  rw [heap_setCell_same _ g 2 _ _ _ (heap_setCell_same _ g 1 _ _ _ (heap_setCell_same w g 0 _ _ _ h))]
  rfl
theorem rs3_grown (w : World) (g : Nat) (v0 v1 v2 : Value) : w.grownBy (((w.setCell ⟨g, 0, none⟩ v0).setCell ⟨g, 1, none⟩ v1).setCell ⟨g, 2, none⟩ v2) (some g) := (World.grownBy.trans (World.grownBy.trans (grown_cell _ g 0 v0) (grown_cell _ g 1 v1)) (grown_cell _ g 2 v2))
set_option maxRecDepth 100000 in
set_option maxHeartbeats 2000000 in
theorem toframe_any (A : Option Addr) (cA : Nat) (l : List Int) (p0 : Int) (p1 : Int) (hl : l.length ≤ 1048576) (w : World) (hA : Ints w w.heap.size A l) :
    Calls Try.prog 31 #[.agg #[.int .i64 p0, .int .i64 p1, .slice A l.length cA]] w fun e w' => ∃ A' cA', e = .returned (.agg #[.int .i64 p0, .int .i64 p1, .slice A' l.length cA']) ∧ OwnI w' w.heap.size A' cA' l ∧ Below w.heap.size w w' := by
  have TT := Lib.hid fun A c w h => toints_any A c l hl w h
  have HA := Lib.hid hA
  clear hA
  obtain ⟨n, hn⟩ : ∃ n, n = l.length := ⟨_, rfl⟩
  rw [← hn] at TT ⊢
  have HN := Lib.hid hn
  clear hn hl
  go_enter Try.func31, Try.ntmps31
  go_wp2_with fail
  refine (TT.out _ _ _ ((HA.out.below (below_three _ _ _ _) (Nat.le_refl _)).mono (below_three _ _ _ _).size)).mono ?_
  rintro e w1 ⟨A1, cp, rfl, ho1, hb1⟩
  obtain ⟨h0, h1, h2⟩ := heap_three w (.cells #[.int .i64 p0, .int .i64 p1, .slice A n cA] 44) (.cells #[.int .i64 0, .int .i64 0, .slice none 0 0] 26) (.cells #[.int .i64 p0, .int .i64 p1, .slice none 0 0] 26)
  have k1 := cell_kept h1 hb1
  have k2 := cell_kept h2 hb1
  have hz1 : w.heap.size + 1 + 1 + 1 ≤ w1.heap.size := by have := hb1.size; rw [size_three] at this; exact this
  have B1 := below_up (below_three w _ _ _) hb1 (below_three w _ _ _).size
  rw [size_three] at ho1
  have K1 := Lib.hid k1; have O1 := Lib.hid ho1; have B1 := Lib.hid B1
  obtain ⟨d0, d1, d2⟩ := rs3_cells k1
  obtain ⟨e0, e1, e2⟩ := rs3_frozen k1
  obtain ⟨c0, c1, c2⟩ := rs3_cells k2
  obtain ⟨f0, f1, f2⟩ := rs3_frozen k2
  clear ho1 hb1 h0 h1 h2 k1 k2
  go_wp2
  have ga := grown_cell w1 (w.heap.size + 1 + 1) 2 (.slice A1 n cp)
  have hr := (ga.block (w.heap.size + 1) (heap_lt K1.out) (by simp)).trans K1.out
  have B2 := B1.out.setCell (p := ⟨w.heap.size + 1 + 1, 2, none⟩) (show w.heap.size ≤ w.heap.size + 1 + 1 by omega) (.slice A1 n cp)
  have o2 := O1.out.other ga (fun j hj => by obtain rfl := Option.some.inj hj; omega)
  obtain ⟨w2, hw2⟩ : ∃ w2, w2 = w1.setCell ⟨w.heap.size + 1 + 1, 2, none⟩ (.slice A1 n cp) := ⟨_, rfl⟩
  rw [← hw2] at hr B2 o2 ⊢
  have gb := rs3_grown w2 (w.heap.size + 1) (.int .i64 p0) (.int .i64 p1) (.slice A1 n cp)
  obtain ⟨r0, r1, r2⟩ := rs3_cells (rs3_put hr (.int .i64 p0) (.int .i64 p1) (.slice A1 n cp))
  have o3 := o2.other gb (fun j hj => by obtain rfl := Option.some.inj hj; omega)
  refine bodyPost_ret (v := .agg #[.int .i64 p0, .int .i64 p1, .slice A1 n cp]) (by simp [results, Try.results31, go_sem, r0, r1, r2]) rfl ⟨A1, cp, rfl, o3.low (by omega), B2.grown gb B2.size (fun j hj => by obtain rfl := Option.some.inj hj; omega)⟩
theorem rs3_hold {w wr w' : World} {base : Nat} {a0 a1 a2 b0 b1 b2 : Addr} {u0 u1 u2 v0 v1 v2 : Value} {A : Option Addr} {c : Nat} {l : List Int} (h : wr.cell? a0 = some u0 ∧ wr.cell? a1 = some u1 ∧ wr.cell? a2 = some u2 ∧ wr.cell? b0 = some v0 ∧ wr.cell? b1 = some v1 ∧ wr.cell? b2 = some v2 ∧ OwnI wr base A c l ∧ Below w.heap.size w wr) (hb : Below wr.heap.size wr w') : w'.cell? a0 = some u0 ∧ w'.cell? a1 = some u1 ∧ w'.cell? a2 = some u2 ∧ w'.cell? b0 = some v0 ∧ w'.cell? b1 = some v1 ∧ w'.cell? b2 = some v2 ∧ OwnI w' base A c l ∧ Below w.heap.size w w' := by
  obtain ⟨h0, h1, h2, h3, h4, h5, ho, hw⟩ := h
  have k : ∀ {p : Addr} {v : Value}, wr.cell? p = some v → w'.cell? p = some v := fun hc => by
    rw [hb.cell (World.block_lt_of_cell? wr _ hc)]; exact hc
  exact ⟨k h0, k h1, k h2, k h3, k h4, k h5, ho.kept hb (Nat.le_refl _), below_up hw hb hw.size⟩
theorem rs3_hold_drew {w wr : World} {base : Nat} {a0 a1 a2 b0 b1 b2 : Addr} {u0 u1 u2 v0 v1 v2 : Value} {A : Option Addr} {c : Nat} {l : List Int} (h : wr.cell? a0 = some u0 ∧ wr.cell? a1 = some u1 ∧ wr.cell? a2 = some u2 ∧ wr.cell? b0 = some v0 ∧ wr.cell? b1 = some v1 ∧ wr.cell? b2 = some v2 ∧ OwnI wr base A c l ∧ Below w.heap.size w wr) : wr.drew.cell? a0 = some u0 ∧ wr.drew.cell? a1 = some u1 ∧ wr.drew.cell? a2 = some u2 ∧ wr.drew.cell? b0 = some v0 ∧ wr.drew.cell? b1 = some v1 ∧ wr.drew.cell? b2 = some v2 ∧ OwnI wr.drew base A c l ∧ Below w.heap.size w wr.drew := by
  obtain ⟨h0, h1, h2, h3, h4, h5, ho, hw⟩ := h
  exact ⟨h0, h1, h2, h3, h4, h5, World.ownsRow.drew ho, hw.drew⟩
theorem rs3_held_own {w wr : World} {base : Nat} {a0 a1 a2 b0 b1 b2 : Addr} {u0 u1 u2 v0 v1 v2 : Value} {A : Option Addr} {c : Nat} {l : List Int} (h : wr.cell? a0 = some u0 ∧ wr.cell? a1 = some u1 ∧ wr.cell? a2 = some u2 ∧ wr.cell? b0 = some v0 ∧ wr.cell? b1 = some v1 ∧ wr.cell? b2 = some v2 ∧ OwnI wr base A c l ∧ Below w.heap.size w wr) : OwnI wr base A c l := h.2.2.2.2.2.2.1
theorem rs3_held_below {w wr : World} {base : Nat} {a0 a1 a2 b0 b1 b2 : Addr} {u0 u1 u2 v0 v1 v2 : Value} {A : Option Addr} {c : Nat} {l : List Int} (h : wr.cell? a0 = some u0 ∧ wr.cell? a1 = some u1 ∧ wr.cell? a2 = some u2 ∧ wr.cell? b0 = some v0 ∧ wr.cell? b1 = some v1 ∧ wr.cell? b2 = some v2 ∧ OwnI wr base A c l ∧ Below w.heap.size w wr) : Below w.heap.size w wr := h.2.2.2.2.2.2.2
end Go.Proofs.Ytemfiglflbfocaa
