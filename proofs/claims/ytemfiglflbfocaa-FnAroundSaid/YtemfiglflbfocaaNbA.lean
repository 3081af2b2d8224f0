/-
  Neighbourhoods (chapter 14): a struct of two rows, a number and two truth values: its cells, rows of one's own, the laws' helpers. Condition: each row is no longer than 1048576 (the laws ask no more).
-/
import Derived.Test.YtemfiglflbfocaaPut
import Derived.Test.YtemfiglflbfocaaScanA
import Derived.Maps.AppendAt
namespace Go.Proofs.Ytemfiglflbfocaa
open Go.RowKit
set_option linter.unusedVariables false

theorem cells5 {w : World} {g : Nat} {T : TypeId} {u v x y z : Value} {fr : Nat × Nat} (h : w.heap[g]? = some (.cells #[u, v, x, y, z] T fr)) : w.cell? ⟨g, 0, none⟩ = some u ∧ w.cell? ⟨g, 1, none⟩ = some v ∧ w.cell? ⟨g, 2, none⟩ = some x ∧ w.cell? ⟨g, 3, none⟩ = some y ∧ w.cell? ⟨g, 4, none⟩ = some z :=
  ⟨cell_of_row _ _ 0 _ _ _ h, cell_of_row _ _ 1 _ _ _ h, cell_of_row _ _ 2 _ _ _ h, cell_of_row _ _ 3 _ _ _ h, cell_of_row _ _ 4 _ _ _ h⟩
theorem frozen5 {w : World} {g : Nat} {u v x y z : Value} {T : TypeId} (h : w.heap[g]? = some (.cells #[u, v, x, y, z] T (0, 0))) :
    w.frozen? ⟨g, 0, none⟩ = false ∧ w.frozen? ⟨g, 1, none⟩ = false ∧ w.frozen? ⟨g, 2, none⟩ = false ∧ w.frozen? ⟨g, 3, none⟩ = false ∧ w.frozen? ⟨g, 4, none⟩ = false :=
  ⟨frozen_of_row w g 0 _ _ h, frozen_of_row w g 1 _ _ h, frozen_of_row w g 2 _ _ h, frozen_of_row w g 3 _ _ h, frozen_of_row w g 4 _ _ h⟩
theorem heap_three (w : World) (a b c : Obj) : (((w.alloc a).alloc b).alloc c).heap[w.heap.size]? = some a ∧ (((w.alloc a).alloc b).alloc c).heap[w.heap.size + 1]? = some b ∧ (((w.alloc a).alloc b).alloc c).heap[w.heap.size + 1 + 1]? = some c := by
  have e1 : (w.alloc a).heap.size = w.heap.size + 1 := by simp
  have e2 : ((w.alloc a).alloc b).heap.size = w.heap.size + 1 + 1 := by simp
  refine ⟨?_, ?_, ?_⟩
  · rw [Below.heap_alloc _ _ _ (by omega), Below.heap_alloc _ _ _ (by omega)]; exact heap_alloc_new w a
  · rw [Below.heap_alloc _ _ _ (by omega)]
    have := heap_alloc_new (w.alloc a) b
    rwa [e1] at this
  · have := heap_alloc_new ((w.alloc a).alloc b) c
    rwa [e2] at this
theorem below_three (w : World) (a b c : Obj) : Below w.heap.size w (((w.alloc a).alloc b).alloc c) := ((below_new w _).alloc (by simp) _).alloc (by simp; omega) _
theorem grown_cell (w : World) (g j : Nat) (u : Value) : w.grownBy (w.setCell ⟨g, j, none⟩ u) (some g) := ⟨rfl, rfl, rfl, by simp, fun k _ hk => heap_setCell_other w ⟨g, j, none⟩ k u (fun e => hk (by simp [e]))⟩
theorem grown_four (w : World) (g : Nat) (b c d e : Value) : w.grownBy ((((w.setCell ⟨g, 1, none⟩ b).setCell ⟨g, 2, none⟩ c).setCell ⟨g, 3, none⟩ d).setCell ⟨g, 4, none⟩ e) (some g) :=
  (((grown_cell _ g 1 b).trans (grown_cell _ g 2 c)).trans (grown_cell _ g 3 d)).trans (grown_cell _ g 4 e)
theorem grown_five (w : World) (g : Nat) (a b c d e : Value) : w.grownBy (((((w.setCell ⟨g, 0, none⟩ a).setCell ⟨g, 1, none⟩ b).setCell ⟨g, 2, none⟩ c).setCell ⟨g, 3, none⟩ d).setCell ⟨g, 4, none⟩ e) (some g) :=
  (grown_cell _ g 0 a).trans (grown_four _ g b c d e)
theorem put_five {w : World} {g : Nat} {T : TypeId} {u v x y z : Value} (h : w.heap[g]? = some (.cells #[u, v, x, y, z] T (0, 0))) (a b c d e : Value) :
    (((((w.setCell ⟨g, 0, none⟩ a).setCell ⟨g, 1, none⟩ b).setCell ⟨g, 2, none⟩ c).setCell ⟨g, 3, none⟩ d).setCell ⟨g, 4, none⟩ e).heap[g]? = some (.cells #[a, b, c, d, e] T (0, 0)) := by
  rw [heap_setCell_same _ g 4 _ _ _ (heap_setCell_same _ g 3 _ _ _ (heap_setCell_same _ g 2 _ _ _ (heap_setCell_same _ g 1 _ _ _ (heap_setCell_same w g 0 _ _ _ h))))]
  rfl
theorem size_three (w : World) (a b c : Obj) : (((w.alloc a).alloc b).alloc c).heap.size = w.heap.size + 1 + 1 + 1 := by simp
theorem size_set (w : World) (p : Addr) (u : Value) : (w.setCell p u).heap.size = w.heap.size := by simp
theorem below_grown {w w' : World} (h : Below w.heap.size w w') (row : Option Nat) : w.grownBy w' row := ⟨h.os, h.tape, h.output, h.size, fun k hk _ => h.block k hk⟩
/-- Two rows of one's own, the second one newer. -/
def NbOwn (w : World) (base : Nat) (A : Option Addr) (cA : Nat) (B : Option Addr) (cB : Nat) (t l : List Int) : Prop :=
  ∃ m, base ≤ m ∧ OwnI w base A cA t ∧ (∀ k, (Value.slice A t.length cA).ownBlock = some k → k < m) ∧ OwnI w m B cB l
theorem NbOwn.kept {w w' : World} {base B0 : Nat} {A B : Option Addr} {cA cB : Nat} {t l : List Int} (h : NbOwn w base A cA B cB t l) (hb : Below B0 w w') (hB : w.heap.size ≤ B0) : NbOwn w' base A cA B cB t l := by
  obtain ⟨m, h1, h2, h3, h4⟩ := h
  exact ⟨m, h1, h2.kept hb hB, h3, h4.kept hb hB⟩
theorem NbOwn.top {w : World} {base : Nat} {A B : Option Addr} {cA cB : Nat} {t l : List Int} (h : NbOwn w base A cA B cB t l) (hm : t.length ≤ 1048576) : Ints w w.heap.size A t := by
  obtain ⟨m, h1, h2, h3, h4⟩ := h
  exact h2.ints (by omega)
theorem NbOwn.left {w : World} {base : Nat} {A B : Option Addr} {cA cB : Nat} {t l : List Int} (h : NbOwn w base A cA B cB t l) (hm : l.length ≤ 1048576) : Ints w w.heap.size B l := by
  obtain ⟨m, h1, h2, h3, h4⟩ := h
  exact h4.ints (by omega)
theorem NbOwn.caps {w : World} {base : Nat} {A B : Option Addr} {cA cB : Nat} {t l : List Int} (h : NbOwn w base A cA B cB t l) : t.length ≤ cA ∧ l.length ≤ cB := by
  obtain ⟨m, h1, h2, h3, h4⟩ := h
  exact ⟨h2.cap_le, h4.cap_le⟩

set_option maxRecDepth 100000 in
set_option maxHeartbeats 400000 in
theorem szints_row (A : Option Addr) (n c : Nat) (left : Int) (hn : n ≤ 9223372036854775807) (h0 : 0 ≤ left) (h1 : left ≤ 1048576) (w : World) :
    Calls Try.prog 65 #[.slice A n c, .int .i64 left] w fun e w' => e = .returned (.int .i64 (if left < (n : Int) then -1 else left - (n : Int))) ∧ w = w' := by
  by_cases h : left < (n : Int)
  · rw [if_pos h]
    have hq : decide (left - (n : Int) < 0) = true := by simp; omega
    go_enter Try.func65, Try.ntmps65
    go_wp2
    go_ret
    exact ⟨rfl, rfl⟩
  · rw [if_neg h]
    have hq : decide (left - (n : Int) < 0) = false := by simp; omega
    go_enter Try.func65, Try.ntmps65
    go_wp2
    go_ret
    exact ⟨rfl, rfl⟩
theorem heap_two (w : World) (a b : Obj) : ((w.alloc a).alloc b).heap[w.heap.size]? = some a ∧ ((w.alloc a).alloc b).heap[w.heap.size + 1]? = some b := by
  have e1 : (w.alloc a).heap.size = w.heap.size + 1 := by simp
  refine ⟨?_, ?_⟩
  · rw [Below.heap_alloc _ _ _ (by omega)]; exact heap_alloc_new w a
  · have := heap_alloc_new (w.alloc a) b
    rwa [e1] at this
theorem below_two (w : World) (a b : Obj) : Below w.heap.size w ((w.alloc a).alloc b) := (below_new w _).alloc (by simp) _
set_option maxRecDepth 100000 in
set_option maxHeartbeats 1000000 in
/-- Two neighbourhoods that read alike are alike. -/
theorem eqnb_same (A B C D : Option Addr) (cA cB cC cD : Nat) (t l : List Int) (k : Int) (b1 b2 : Bool) (ht : t.length ≤ 1048576) (hl : l.length ≤ 1048576) (w : World) (hA : Ints w w.heap.size A t) (hB : Ints w w.heap.size B l) (hC : Ints w w.heap.size C t) (hD : Ints w w.heap.size D l) :
    Calls Try.prog 41 #[.agg #[.slice A t.length cA, .slice B l.length cB, .int .i64 k, .bool b1, .bool b2], .agg #[.slice C t.length cC, .slice D l.length cD, .int .i64 k, .bool b1, .bool b2]] w fun e w' => e = .returned (.bool true) ∧ Below w.heap.size w w' := by
  have E1 := Lib.hid fun w h1 h2 => eqints_any A C cA cC t t w h1 h2
  have E2 := Lib.hid fun w h1 h2 => eqints_any B D cB cD l l w h1 h2
  rw [decide_eq_true (rfl : t = t)] at E1
  rw [decide_eq_true (rfl : l = l)] at E2
  have HA := Lib.hid hA; have HB := Lib.hid hB; have HC := Lib.hid hC; have HD := Lib.hid hD
  clear hA hB hC hD
  obtain ⟨n, hn⟩ : ∃ n, n = t.length := ⟨_, rfl⟩
  obtain ⟨m, hm⟩ : ∃ n, n = l.length := ⟨_, rfl⟩
  rw [← hn] at E1
  rw [← hm] at E2
  rw [← hn, ← hm]
  have q1 : (k != k) = false := by simp
  have q2 : (b1 != b1) = false := by simp
  have q3 : (b2 != b2) = false := by simp
  obtain ⟨h0, h1⟩ := heap_two w (.cells #[.slice A n cA, .slice B m cB, .int .i64 k, .bool b1, .bool b2] 38) (.cells #[.slice C n cC, .slice D m cD, .int .i64 k, .bool b1, .bool b2] 38)
  have H0 := Lib.hid h0; have H1 := Lib.hid h1
  clear hn hm ht hl h0 h1
  go_enter Try.func41, Try.ntmps41
  go_wp2_with fail
  refine (E1.out _ ((HA.out.below (below_two _ _ _) (Nat.le_refl _)).mono (below_two _ _ _).size) ((HC.out.below (below_two _ _ _) (Nat.le_refl _)).mono (below_two _ _ _).size)).mono ?_
  rintro e w1 ⟨rfl, hb1⟩
  have B1 := Lib.hid (below_up (below_two w _ _) hb1 (below_two w _ _).size)
  have k0 := cell_kept H0.out hb1
  have k1 := cell_kept H1.out hb1
  have K0 := Lib.hid k0; have K1 := Lib.hid k1
  obtain ⟨c0, c1, c2, c3, c4⟩ := cells5 k0
  obtain ⟨d0, d1, d2, d3, d4⟩ := cells5 k1
  clear hb1 k0 k1
  go_wp2_with fail
  refine (E2.out _ ((HB.out.below B1.out (Nat.le_refl _)).mono B1.out.size) ((HD.out.below B1.out (Nat.le_refl _)).mono B1.out.size)).mono ?_
  rintro e w2 ⟨rfl, hb2⟩
  clear c0 c1 c2 c3 c4 d0 d1 d2 d3 d4
  have B2 := Lib.hid (below_up B1.out hb2 B1.out.size)
  obtain ⟨c0, c1, c2, c3, c4⟩ := cells5 (cell_kept K0.out hb2)
  obtain ⟨d0, d1, d2, d3, d4⟩ := cells5 (cell_kept K1.out hb2)
  clear hb2
  go_wp2
  go_ret
  exact ⟨rfl, B2.out⟩
set_option maxRecDepth 100000 in
set_option maxHeartbeats 1000000 in
/-- Both rows marked: only their blocks were written. -/
theorem marknb_any (base : Nat) (A B : Option Addr) (cA cB : Nat) (t l : List Int) (k : Int) (b1 b2 : Bool) (ht : t.length ≤ 1048576) (hl : l.length ≤ 1048576) (w : World) (hO : NbOwn w base A cA B cB t l) :
    Calls Try.prog 42 #[.agg #[.slice A t.length cA, .slice B l.length cB, .int .i64 k, .bool b1, .bool b2], .int .i64 1] w fun e w' => e = .returned (.int .i64 (1 + (t.length : Int) + (l.length : Int))) ∧ ∃ wm, w.grownBy wm (Value.slice A t.length cA).ownBlock ∧ wm.grownBy w' (Value.slice B l.length cB).ownBlock := by
  obtain ⟨m, hbm, oA, hAm, oB⟩ := hO
  have M1 := Lib.hid fun w h => markints_any base A cA t 1 (by omega) (by omega) (by omega) w h
  have M2 := Lib.hid fun w h => markints_any m B cB l (1 + (t.length : Int)) (by omega) (by omega) (by omega) w h
  obtain ⟨vA, hvA⟩ : ∃ v, v = (Value.slice A t.length cA).ownBlock := ⟨_, rfl⟩
  obtain ⟨vB, hvB⟩ : ∃ v, v = (Value.slice B l.length cB).ownBlock := ⟨_, rfl⟩
  have HA := Lib.hid hvA; have HB := Lib.hid hvB
  rw [← hvA] at M1 hAm ⊢
  rw [← hvB] at M2 ⊢
  obtain ⟨g, hg⟩ : ∃ g, g = w.heap.size := ⟨_, rfl⟩
  have hlA : ∀ j, vA = some j → j < w.heap.size := fun j hj => (oA.block j (by rw [← hvA]; exact hj)).2
  have LA := Lib.hid hlA
  have OA := Lib.hid (oA.kept (below_new w (.cells #[.slice A t.length cA, .slice B l.length cB, .int .i64 k, .bool b1, .bool b2] 38)) (Nat.le_refl _))
  have OB := Lib.hid (oB.kept (below_new w (.cells #[.slice A t.length cA, .slice B l.length cB, .int .i64 k, .bool b1, .bool b2] 38)) (Nat.le_refl _))
  have G0 := Lib.hid (below_grown (below_new w (.cells #[.slice A t.length cA, .slice B l.length cB, .int .i64 k, .bool b1, .bool b2] 38)) vA)
  have H0 := Lib.hid (heap_alloc_new w (.cells #[.slice A t.length cA, .slice B l.length cB, .int .i64 k, .bool b1, .bool b2] 38))
  have HAM := Lib.hid hAm
  clear hvA hvB oA oB hlA hAm hg
  go_enter Try.func42, Try.ntmps42
  go_wp2_with fail
  refine (M1.out _ OA.out).mono ?_
  rintro e w1 ⟨rfl, -, hg1⟩
  have OB1 := Lib.hid (OB.out.other hg1 (fun j hj => HAM.out j hj))
  have h0 := (hg1.block w.heap.size (heap_lt H0.out) (fun e => by have := LA.out _ e.symm; omega)).trans H0.out
  obtain ⟨c0, c1, c2, c3, c4⟩ := cells5 h0
  have G1 := Lib.hid (G0.out.trans hg1)
  clear hg1 h0
  go_wp2_with fail
  refine (M2.out _ OB1.out).mono ?_
  rintro e w2 ⟨rfl, -, hg2⟩
  have G2 := Lib.hid hg2
  clear hg2 c0 c1 c2 c3 c4
  go_wp2
  go_ret
  exact ⟨rfl, w1, G1.out, G2.out⟩
end Go.Proofs.Ytemfiglflbfocaa
