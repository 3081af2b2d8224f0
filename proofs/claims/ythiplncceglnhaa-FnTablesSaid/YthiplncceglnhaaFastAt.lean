/-
  Contracts of FastUe and of what it calls, in both texts. Condition: the string is no longer than 1048576 bytes (the laws ask no more).
-/
import Derived.Test.YthiplncceglnhaaCacheLaws
import Derived.Test.YthiplncceglnhaaReadUe
import Derived.Test.YthiplncceglnhaaTabOk
import Derived.Deep.RegionHeld3
import Derived.Deep.DeepCutAuto
namespace Go.Proofs.Ythiplncceglnhaa
open Go.RowKit
set_option linter.unusedVariables false

theorem held2k {cs : Array Value} {T : TypeId} {fr : Nat × Nat} {w w' W : World} {p0 p1 : Addr} {v0 v1 : Value} {g : Nat} {B : Nat} (h : w.cell? p0 = some v0 ∧ w.cell? p1 = some v1 ∧ w.heap[g]? = some (.cells cs T fr) ∧ Below B W w ∧ B ≤ w.heap.size)
    (hb : Below w.heap.size w w') : w'.cell? p0 = some v0 ∧ w'.cell? p1 = some v1 ∧ w'.heap[g]? = some (.cells cs T fr) ∧ Below B W w' ∧ B ≤ w'.heap.size := by
  obtain ⟨h0, h1, h2, h6, h7⟩ := h
  have k : ∀ {p : Addr} {v : Value}, w.cell? p = some v → w'.cell? p = some v := fun hc => by
    rw [hb.cell (World.block_lt_of_cell? w _ hc)]; exact hc
  exact ⟨k h0, k h1, cell_kept h2 hb, below_up h6 hb h7, Nat.le_trans h7 hb.size⟩
theorem held2k_drew {cs : Array Value} {T : TypeId} {fr : Nat × Nat} {w W : World} {p0 p1 : Addr} {v0 v1 : Value} {g : Nat} {B : Nat} (h : w.cell? p0 = some v0 ∧ w.cell? p1 = some v1 ∧ w.heap[g]? = some (.cells cs T fr) ∧ Below B W w ∧ B ≤ w.heap.size) :
    w.drew.cell? p0 = some v0 ∧ w.drew.cell? p1 = some v1 ∧ w.drew.heap[g]? = some (.cells cs T fr) ∧ Below B W w.drew ∧ B ≤ w.drew.heap.size :=
  ⟨h.1, h.2.1, h.2.2.1, h.2.2.2.1.drew, h.2.2.2.2⟩

set_option maxRecDepth 100000 in
set_option maxHeartbeats 1000000 in
theorem settledat_any (s : ByteArray) (a : Nat) (hs : s.size ≤ 1048576) (ha : a ≤ 8 * s.size) (w : World) :
    Calls Try.prog 66 #[.agg #[.string s, .int .i64 a]] w fun e w' => e = .returned (cw s a ((a + 7) / 8)) ∧ Below w.heap.size w w' := by
  unfold cw cv
  obtain ⟨P, hP⟩ : ∃ P, P = (a + 7) / 8 := ⟨_, rfl⟩
  obtain ⟨X, hX⟩ : ∃ X, X = 8 * P - a := ⟨_, rfl⟩
  have hq1 : ((a : Int) + 7) / 8 = (P : Int) := by omega
  have hq2 : 8 * (P : Int) - (a : Int) = (X : Int) := by omega
  have x1 : a + X = 8 * P := by omega
  have x2 : X ≤ 7 := by omega
  have x3 : P ≤ s.size := by omega
  have hsz : (bs (s.data.toList.take P)).size = P := by rw [bs_size]; simp; omega
  have LB := Lib.hid (lastbits_any (bs (s.data.toList.take P)) X (by omega) (by omega) (by omega))
  rw [hsz, show 8 * P - X = a by omega, rdN_take s P a X (by omega)] at LB
  have hc := cut_to Try.underlying9 s P (P : Int) rfl (by omega)
  rw [← hP, ← hX]
  obtain ⟨u, hu⟩ : ∃ u, u = bs (s.data.toList.take P) := ⟨_, rfl⟩
  obtain ⟨v, hv⟩ : ∃ v, v = rdN s a X := ⟨_, rfl⟩
  rw [← hu, ← hv] at LB
  rw [← hu] at hc
  rw [← hv]
  clear hX hP hsz hu hv x1
  go_enter Try.func66, Try.ntmps66
  go_wp2_with fail
  obtain ⟨k0, k1⟩ := boxes_kept (w := w) (cs := #[.string s, .int .i64 a]) (T := 35) (ds := #[.string ⟨#[]⟩, .int .i64 0, .int .i64 0, .int .i64 0]) (U := 25) (Below.refl _ _)
  obtain ⟨c0, c1⟩ := cells2 k0
  have hS := And.intro c0 (And.intro c1 (And.intro k1 (And.intro ((below_new w (.cells #[.string s, .int .i64 a] 35)).alloc (below_new w _).size (.cells #[.string ⟨#[]⟩, .int .i64 0, .int .i64 0, .int .i64 0] 25)) (show w.heap.size ≤ _ from ((below_new w (.cells #[.string s, .int .i64 a] 35)).alloc (below_new w _).size (.cells #[.string ⟨#[]⟩, .int .i64 0, .int .i64 0, .int .i64 0] 25)).size))))
  clear k0 k1 c0 c1
  have HS := Lib.hid hS
  obtain ⟨c0, c1, k1, -, -⟩ := hS
  clear k1
  go_region_with (go_at_call 62; with_reducible refine (LB.out _).mono ?_; rintro e w' ⟨rfl, hb'⟩; have hK := held2k (held2k_drew HS.out) hb'; obtain ⟨c2, c3, k2, hb2, -⟩ := hK; have K2 := Lib.hid k2; have B2 := Lib.hid hb2; obtain ⟨d0, d1, d2, d3⟩ := cells4 k2; obtain ⟨f0, f1, f2, f3⟩ := frozen4 k2; clear k2 hb2 hb')
  all_goals
    obtain ⟨w3, hw3, e0, e1, e2, e3, hb3⟩ := out4 s (P : Int) (v : Int) (X : Int) K2.out (Nat.le_succ _) B2.out
    have HW := Lib.hid hw3; have HB := Lib.hid hb3; have E0 := Lib.hid e0; have E1 := Lib.hid e1; have E2 := Lib.hid e2; have E3 := Lib.hid e3
    clear hw3 hb3 e0 e1 e2 e3
    go_wp2
    rw [← HW.out]
    have e0 := E0.out; have e1 := E1.out; have e2 := E2.out; have e3 := E3.out
    exact bodyPost_ret (v := .agg #[.string s, .int .i64 P, .int .i64 v, .int .i64 X]) (by simp [results, Try.results66, go_sem, e0, e1, e2, e3]) rfl ⟨rfl, HB.out⟩

/-- What is read bit by bit at a cache's place: the cache, the number, the fault. -/
def fuR (s : ByteArray) (a P : Nat) : Value := if ruEr s a = 0 then .tuple #[cw s (ruPlace s a).toNat (((ruPlace s a).toNat + 7) / 8), .int .i64 (ruNum s a), .int .i64 0] else .tuple #[cw s a P, .int .i64 0, .int .i64 (ruEr s a)]
theorem ruEr_range (s : ByteArray) (a : Int) : 0 ≤ ruEr s a ∧ ruEr s a ≤ 4 := by
  unfold ruEr
  split
  · omega
  · split <;> omega
theorem ruPlace_in (s : ByteArray) (a : Nat) (ha : a ≤ 8 * s.size) : 0 ≤ ruPlace s a ∧ ruPlace s a ≤ 8 * (s.size : Int) := by
  unfold ruPlace
  split
  · omega
  · split
    · rename_i h
      unfold rbPlace
      rw [if_pos h]
      simp only [rbOk, rdOk, leftV, Bool.and_eq_true, decide_eq_true_eq] at h
      split at h <;> omega
    · omega

theorem held4k {cs : Array Value} {T : TypeId} {fr : Nat × Nat} {w w' W : World} {p0 p1 p2 p3 : Addr} {v0 v1 v2 v3 : Value} {g : Nat} {B : Nat} (h : w.cell? p0 = some v0 ∧ w.cell? p1 = some v1 ∧ w.cell? p2 = some v2 ∧ w.cell? p3 = some v3 ∧ w.heap[g]? = some (.cells cs T fr) ∧ Below B W w ∧ B ≤ w.heap.size)
    (hb : Below w.heap.size w w') : w'.cell? p0 = some v0 ∧ w'.cell? p1 = some v1 ∧ w'.cell? p2 = some v2 ∧ w'.cell? p3 = some v3 ∧ w'.heap[g]? = some (.cells cs T fr) ∧ Below B W w' ∧ B ≤ w'.heap.size := by
  obtain ⟨h0, h1, h2, h3, h4, h6, h7⟩ := h
  have k : ∀ {p : Addr} {v : Value}, w.cell? p = some v → w'.cell? p = some v := fun hc => by
    rw [hb.cell (World.block_lt_of_cell? w _ hc)]; exact hc
  exact ⟨k h0, k h1, k h2, k h3, cell_kept h4 hb, below_up h6 hb h7, Nat.le_trans h7 hb.size⟩
theorem held4k_drew {cs : Array Value} {T : TypeId} {fr : Nat × Nat} {w W : World} {p0 p1 p2 p3 : Addr} {v0 v1 v2 v3 : Value} {g : Nat} {B : Nat} (h : w.cell? p0 = some v0 ∧ w.cell? p1 = some v1 ∧ w.cell? p2 = some v2 ∧ w.cell? p3 = some v3 ∧ w.heap[g]? = some (.cells cs T fr) ∧ Below B W w ∧ B ≤ w.heap.size) :
    w.drew.cell? p0 = some v0 ∧ w.drew.cell? p1 = some v1 ∧ w.drew.cell? p2 = some v2 ∧ w.drew.cell? p3 = some v3 ∧ w.drew.heap[g]? = some (.cells cs T fr) ∧ Below B W w.drew ∧ B ≤ w.drew.heap.size :=
  ⟨h.1, h.2.1, h.2.2.1, h.2.2.2.1, h.2.2.2.2.1, h.2.2.2.2.2.1.drew, h.2.2.2.2.2.2⟩

theorem held4k_alloc {cs : Array Value} {T : TypeId} {fr : Nat × Nat} {w W : World} {p0 p1 p2 p3 : Addr} {v0 v1 v2 v3 : Value} {g : Nat} {B : Nat} {o : Obj} (h : w.cell? p0 = some v0 ∧ w.cell? p1 = some v1 ∧ w.cell? p2 = some v2 ∧ w.cell? p3 = some v3 ∧ w.heap[g]? = some (.cells cs T fr) ∧ Below B W w ∧ B ≤ w.heap.size) :
    (w.alloc o).cell? p0 = some v0 ∧ (w.alloc o).cell? p1 = some v1 ∧ (w.alloc o).cell? p2 = some v2 ∧ (w.alloc o).cell? p3 = some v3 ∧ (w.alloc o).heap[g]? = some (.cells cs T fr) ∧ Below B W (w.alloc o) ∧ B ≤ (w.alloc o).heap.size :=
  held4k h ((Below.refl _ _).alloc (Nat.le_refl _) _)

theorem held4k_set2 {cs : Array Value} {T : TypeId} {fr : Nat × Nat} {w W : World} {b x : Nat} {v0 v1 v2 v3 y0 y1 : Value} {g : Nat} {B : Nat} (h : w.cell? ⟨b, 0, none⟩ = some v0 ∧ w.cell? ⟨b, 1, none⟩ = some v1 ∧ w.cell? ⟨b, 2, none⟩ = some v2 ∧ w.cell? ⟨b, 3, none⟩ = some v3 ∧ w.heap[g]? = some (.cells cs T fr) ∧ Below B W w ∧ B ≤ w.heap.size)
    (hx : b < x ∧ g < x) (hB : B ≤ x) :
    ((w.setCell ⟨x, 0, none⟩ y0).setCell ⟨x, 1, none⟩ y1).cell? ⟨b, 0, none⟩ = some v0 ∧ ((w.setCell ⟨x, 0, none⟩ y0).setCell ⟨x, 1, none⟩ y1).cell? ⟨b, 1, none⟩ = some v1 ∧ ((w.setCell ⟨x, 0, none⟩ y0).setCell ⟨x, 1, none⟩ y1).cell? ⟨b, 2, none⟩ = some v2 ∧ ((w.setCell ⟨x, 0, none⟩ y0).setCell ⟨x, 1, none⟩ y1).cell? ⟨b, 3, none⟩ = some v3 ∧
      ((w.setCell ⟨x, 0, none⟩ y0).setCell ⟨x, 1, none⟩ y1).heap[g]? = some (.cells cs T fr) ∧ Below B W ((w.setCell ⟨x, 0, none⟩ y0).setCell ⟨x, 1, none⟩ y1) ∧ B ≤ ((w.setCell ⟨x, 0, none⟩ y0).setCell ⟨x, 1, none⟩ y1).heap.size := by
  obtain ⟨h0, h1, h2, h3, h4, h6, h7⟩ := h
  have hk : ∀ k, k ≠ x → ((w.setCell ⟨x, 0, none⟩ y0).setCell ⟨x, 1, none⟩ y1).heap[k]? = w.heap[k]? := fun k hk => by
    rw [heap_setCell_other _ _ _ _ hk, heap_setCell_other _ _ _ _ hk]
  have hc : ∀ j, ((w.setCell ⟨x, 0, none⟩ y0).setCell ⟨x, 1, none⟩ y1).cell? ⟨b, j, none⟩ = w.cell? ⟨b, j, none⟩ := fun j => World.cell?_of_block (a := ⟨b, j, none⟩) (hk b (by omega))
  have hb := Below.setCell (Below.setCell h6 (p := ⟨x, 0, none⟩) hB y0) (p := ⟨x, 1, none⟩) hB y1
  refine ⟨(hc 0).trans h0, (hc 1).trans h1, (hc 2).trans h2, (hc 3).trans h3, (hk g (by omega)).trans h4, hb, ?_⟩
  simpa using h7

end Go.Proofs.Ythiplncceglnhaa
