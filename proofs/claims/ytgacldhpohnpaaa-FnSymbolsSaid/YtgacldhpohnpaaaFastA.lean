/-
  Contracts of FastUe and of what it calls, in both texts. Condition: the string is no longer than 1048576 bytes (the laws ask no more).
  Contracts of FastUe and of what it calls, in both texts. Condition: the string is no longer than 1048576 bytes (the laws ask no more).
-/
import Derived.Test.YtgacldhpohnpaaaCacheLaws
import Derived.Test.YtgacldhpohnpaaaReadUe
import Derived.Test.YtgacldhpohnpaaaTab
import Derived.Deep.RegionHeld3
import Derived.Deep.DeepCutAuto
import Derived.Test.YtgacldhpohnpaaaCacheB
namespace Go.Proofs.Ytgacldhpohnpaaa
open Go.RowKit
set_option linter.unusedVariables false

theorem held2k {cs : Array Value} {T : TypeId} {fr : Nat × Nat} {w w' W : World} {p0 p1 : Addr} {v0 v1 : Value} {g : Nat} {B : Nat} (h : w.cell? p0 = some v0 ∧ w.cell? p1 = some v1 ∧ w.heap[g]? = some (.cells cs T fr) ∧ Below B W w ∧ B ≤ w.heap.size)
    (hb : Below w.heap.size w w') : w'.cell? p0 = some v0 ∧ w'.cell? p1 = some v1 ∧ w'.heap[g]? = some (.cells cs T fr) ∧ Below B W w' ∧ B ≤ w'.heap.size := by
  obtain ⟨h0, h1, h2, h6, h7⟩ := h
  have k : ∀ {p : Addr} {v : Value}, w.cell? p = some v → w'.cell? p = some v := fun hc => by
    rw [hb.cell (World.block_lt_of_cell? w _ hc)]; exact hc
  exact ⟨k h0, k h1, cell_kept h2 hb, below_up h6 hb h7, Nat.le_trans h7 hb.size⟩
theorem held2k_drew {cs : Array Value} {T : TypeId} {fr : Nat × Nat} {w W : World} {p0 p1 : Addr} {v0 v1 : Value} {g : Nat} {B : Nat} (h : w.cell? p0 = some v0 ∧ w.cell? p1 = some v1 ∧ w.heap[g]? = some (.cells cs T fr) ∧ Below B W w ∧ B ≤ w.heap.size) :
    w.drew.cell? p0 = some v0 ∧ w.drew.cell? p1 = some v1 ∧ w.drew.heap[g]? = some (.cells cs T fr) ∧ Below B W w.drew ∧ B ≤ w.drew.heap.size :=
  ⟨h.1, h.2.1, h.2.2.1, h.2.2.2.1.drew, h.2.2.2.2⟩

set_option maxRecDepth 100000 in
set_option maxHeartbeats 1000000 in
theorem settledat_any (s : ByteArray) (a : Nat) (hs : s.size ≤ 1048576) (ha : a ≤ 8 * s.size) (w : World) :
    Calls Try.prog 101 #[.agg #[.string s, .int .i64 a]] w fun e w' => e = .returned (cw s a ((a + 7) / 8)) ∧ Below w.heap.size w w' := by
  unfold cw cv
  obtain ⟨P, hP⟩ : ∃ P, P = (a + 7) / 8 := ⟨_, rfl⟩
  obtain ⟨X, hX⟩ : ∃ X, X = 8 * P - a := ⟨_, rfl⟩
  have hq1 : ((a : Int) + 7) / 8 = (P : Int) := by omega
  have hq2 : 8 * (P : Int) - (a : Int) = (X : Int) := by omega
  have x1 : a + X = 8 * P := by omega
  have x2 : X ≤ 7 := by omega
  have x3 : P ≤ s.size := by omega
  have hsz : (bs (s.data.toList.take P)).size = P := by rw [bs_size]; simp; omega
  have LB := Lib.hid (lastbits_any (bs (s.data.toList.take P)) X (by omega) (by omega) (by omega))
  rw [hsz, show 8 * P - X = a by omega, rdN_take s P a X (by omega)] at LB
  have hc := cut_to Try.underlying9 s P (P : Int) rfl (by omega)
  rw [← hP, ← hX]
  obtain ⟨u, hu⟩ : ∃ u, u = bs (s.data.toList.take P) := ⟨_, rfl⟩
  obtain ⟨v, hv⟩ : ∃ v, v = rdN s a X := ⟨_, rfl⟩
  rw [← hu, ← hv] at LB
  rw [← hu] at hc
  rw [← hv]
  clear hX hP hsz hu hv x1
  go_enter Try.func101, Try.ntmps101
  go_wp2_with fail
  obtain ⟨k0, k1⟩ := boxes_kept (w := w) (cs := #[.string s, .int .i64 a]) (T := 35) (ds := #[.string ⟨#[]⟩, .int .i64 0, .int .i64 0, .int .i64 0]) (U := 25) (Below.refl _ _)
  obtain ⟨c0, c1⟩ := cells2 k0
  have hS := And.intro c0 (And.intro c1 (And.intro k1 (And.intro ((below_new w (.cells #[.string s, .int .i64 a] 35)).alloc (below_new w _).size (.cells #[.string ⟨#[]⟩, .int .i64 0, .int .i64 0, .int .i64 0] 25)) (show w.heap.size ≤ _ from ((below_new w (.cells #[.string s, .int .i64 a] 35)).alloc (below_new w _).size (.cells #[.string ⟨#[]⟩, .int .i64 0, .int .i64 0, .int .i64 0] 25)).size))))
  clear k0 k1 c0 c1
  have HS := Lib.hid hS
  obtain ⟨c0, c1, k1, -, -⟩ := hS
  clear k1
  go_region_with (go_at_call 98; with_reducible refine (LB.out _).mono ?_; rintro e w' ⟨rfl, hb'⟩; have hK := held2k (held2k_drew HS.out) hb'; obtain ⟨c2, c3, k2, hb2, -⟩ := hK; have K2 := Lib.hid k2; have B2 := Lib.hid hb2; obtain ⟨d0, d1, d2, d3⟩ := cells4 k2; obtain ⟨f0, f1, f2, f3⟩ := frozen4 k2; clear k2 hb2 hb')
  all_goals
    obtain ⟨w3, hw3, e0, e1, e2, e3, hb3⟩ := out4 s (P : Int) (v : Int) (X : Int) K2.out (Nat.le_succ _) B2.out
    have HW := Lib.hid hw3; have HB := Lib.hid hb3; have E0 := Lib.hid e0; have E1 := Lib.hid e1; have E2 := Lib.hid e2; have E3 := Lib.hid e3
    clear hw3 hb3 e0 e1 e2 e3
    go_wp2
    rw [← HW.out]
    have e0 := E0.out; have e1 := E1.out; have e2 := E2.out; have e3 := E3.out
    exact bodyPost_ret (v := .agg #[.string s, .int .i64 P, .int .i64 v, .int .i64 X]) (by simp [results, Try.results101, go_sem, e0, e1, e2, e3]) rfl ⟨rfl, HB.out⟩

/-- What is read bit by bit at a cache's place: the cache, the number, the fault. -/
def fuR (s : ByteArray) (a P : Nat) : Value := if ruEr s a = 0 then .tuple #[cw s (ruPlace s a).toNat (((ruPlace s a).toNat + 7) / 8), .int .i64 (ruNum s a), .int .i64 0] else .tuple #[cw s a P, .int .i64 0, .int .i64 (ruEr s a)]
theorem ruEr_range (s : ByteArray) (a : Int) : 0 ≤ ruEr s a ∧ ruEr s a ≤ 4 := by
  unfold ruEr
  split
  · omega
  · split <;> omega
theorem ruPlace_in (s : ByteArray) (a : Nat) (ha : a ≤ 8 * s.size) : 0 ≤ ruPlace s a ∧ ruPlace s a ≤ 8 * (s.size : Int) := by
  unfold ruPlace
  split
  · omega
  · split
    · rename_i h
      unfold rbPlace
      rw [if_pos h]
      simp only [rbOk, rdOk, leftV, Bool.and_eq_true, decide_eq_true_eq] at h
      split at h <;> omega
    · omega

theorem held4k {cs : Array Value} {T : TypeId} {fr : Nat × Nat} {w w' W : World} {p0 p1 p2 p3 : Addr} {v0 v1 v2 v3 : Value} {g : Nat} {B : Nat} (h : w.cell? p0 = some v0 ∧ w.cell? p1 = some v1 ∧ w.cell? p2 = some v2 ∧ w.cell? p3 = some v3 ∧ w.heap[g]? = some (.cells cs T fr) ∧ Below B W w ∧ B ≤ w.heap.size)
    (hb : Below w.heap.size w w') : w'.cell? p0 = some v0 ∧ w'.cell? p1 = some v1 ∧ w'.cell? p2 = some v2 ∧ w'.cell? p3 = some v3 ∧ w'.heap[g]? = some (.cells cs T fr) ∧ Below B W w' ∧ B ≤ w'.heap.size := by
  obtain ⟨h0, h1, h2, h3, h4, h6, h7⟩ := h
  have k : ∀ {p : Addr} {v : Value}, w.cell? p = some v → w'.cell? p = some v := fun hc => by
    rw [hb.cell (World.block_lt_of_cell? w _ hc)]; exact hc
  exact ⟨k h0, k h1, k h2, k h3, cell_kept h4 hb, below_up h6 hb h7, Nat.le_trans h7 hb.size⟩
theorem held4k_drew {cs : Array Value} {T : TypeId} {fr : Nat × Nat} {w W : World} {p0 p1 p2 p3 : Addr} {v0 v1 v2 v3 : Value} {g : Nat} {B : Nat} (h : w.cell? p0 = some v0 ∧ w.cell? p1 = some v1 ∧ w.cell? p2 = some v2 ∧ w.cell? p3 = some v3 ∧ w.heap[g]? = some (.cells cs T fr) ∧ Below B W w ∧ B ≤ w.heap.size) :
    w.drew.cell? p0 = some v0 ∧ w.drew.cell? p1 = some v1 ∧ w.drew.cell? p2 = some v2 ∧ w.drew.cell? p3 = some v3 ∧ w.drew.heap[g]? = some (.cells cs T fr) ∧ Below B W w.drew ∧ B ≤ w.drew.heap.size :=
  ⟨h.1, h.2.1, h.2.2.1, h.2.2.2.1, h.2.2.2.2.1, h.2.2.2.2.2.1.drew, h.2.2.2.2.2.2⟩

theorem held4k_alloc {cs : Array Value} {T : TypeId} {fr : Nat × Nat} {w W : World} {p0 p1 p2 p3 : Addr} {v0 v1 v2 v3 : Value} {g : Nat} {B : Nat} {o : Obj} (h : w.cell? p0 = some v0 ∧ w.cell? p1 = some v1 ∧ w.cell? p2 = some v2 ∧ w.cell? p3 = some v3 ∧ w.heap[g]? = some (.cells cs T fr) ∧ Below B W w ∧ B ≤ w.heap.size) :
    (w.alloc o).cell? p0 = some v0 ∧ (w.alloc o).cell? p1 = some v1 ∧ (w.alloc o).cell? p2 = some v2 ∧ (w.alloc o).cell? p3 = some v3 ∧ (w.alloc o).heap[g]? = some (.cells cs T fr) ∧ Below B W (w.alloc o) ∧ B ≤ (w.alloc o).heap.size :=
  held4k h ((Below.refl _ _).alloc (Nat.le_refl _) _)

theorem held4k_set2 {cs : Array Value} {T : TypeId} {fr : Nat × Nat} {w W : World} {b x : Nat} {v0 v1 v2 v3 y0 y1 : Value} {g : Nat} {B : Nat} (h : w.cell? ⟨b, 0, none⟩ = some v0 ∧ w.cell? ⟨b, 1, none⟩ = some v1 ∧ w.cell? ⟨b, 2, none⟩ = some v2 ∧ w.cell? ⟨b, 3, none⟩ = some v3 ∧ w.heap[g]? = some (.cells cs T fr) ∧ Below B W w ∧ B ≤ w.heap.size)
    (hx : b < x ∧ g < x) (hB : B ≤ x) :
    ((w.setCell ⟨x, 0, none⟩ y0).setCell ⟨x, 1, none⟩ y1).cell? ⟨b, 0, none⟩ = some v0 ∧ ((w.setCell ⟨x, 0, none⟩ y0).setCell ⟨x, 1, none⟩ y1).cell? ⟨b, 1, none⟩ = some v1 ∧ ((w.setCell ⟨x, 0, none⟩ y0).setCell ⟨x, 1, none⟩ y1).cell? ⟨b, 2, none⟩ = some v2 ∧ ((w.setCell ⟨x, 0, none⟩ y0).setCell ⟨x, 1, none⟩ y1).cell? ⟨b, 3, none⟩ = some v3 ∧
      ((w.setCell ⟨x, 0, none⟩ y0).setCell ⟨x, 1, none⟩ y1).heap[g]? = some (.cells cs T fr) ∧ Below B W ((w.setCell ⟨x, 0, none⟩ y0).setCell ⟨x, 1, none⟩ y1) ∧ B ≤ ((w.setCell ⟨x, 0, none⟩ y0).setCell ⟨x, 1, none⟩ y1).heap.size := by
  obtain ⟨h0, h1, h2, h3, h4, h6, h7⟩ := h
  have hk : ∀ k, k ≠ x → ((w.setCell ⟨x, 0, none⟩ y0).setCell ⟨x, 1, none⟩ y1).heap[k]? = w.heap[k]? := fun k hk => by
    rw [heap_setCell_other _ _ _ _ hk, heap_setCell_other _ _ _ _ hk]
  have hc : ∀ j, ((w.setCell ⟨x, 0, none⟩ y0).setCell ⟨x, 1, none⟩ y1).cell? ⟨b, j, none⟩ = w.cell? ⟨b, j, none⟩ := fun j => World.cell?_of_block (a := ⟨b, j, none⟩) (hk b (by omega))
  have hb := Below.setCell (Below.setCell h6 (p := ⟨x, 0, none⟩) hB y0) (p := ⟨x, 1, none⟩) hB y1
  refine ⟨(hc 0).trans h0, (hc 1).trans h1, (hc 2).trans h2, (hc 3).trans h3, (hk g (by omega)).trans h4, hb, ?_⟩
  simpa using h7

end Go.Proofs.Ytgacldhpohnpaaa

namespace Go.Proofs.Ytgacldhpohnpaaa
open Go.RowKit
set_option linter.unusedVariables false

set_option maxRecDepth 100000 in
set_option maxHeartbeats 1000000 in
theorem readat_any (s : ByteArray) (a P : Nat) (hs : s.size ≤ 1048576) (hA : At s a P) (w : World) :
    Calls Try.prog 67 #[cw s a P] w fun e w' => e = .returned (fuR s a P) ∧ Below w.heap.size w w' := by
  have HP := Lib.hid (impl_placein_in s a P hs hA)
  have HR := Lib.hid (impl_readue_any s (a : Int) hs)
  have hpl := ruPlace_in s a (by obtain ⟨b1, b2, b3⟩ := hA; omega)
  have her := ruEr_range s a
  obtain ⟨q, hq⟩ : ∃ q : Nat, ruPlace s a = (q : Int) := ⟨(ruPlace s a).toNat, by omega⟩
  rw [hq] at HR hpl
  have HS := Lib.hid (settledat_any s q hs (by omega))
  unfold fuR
  rw [hq, Int.toNat_natCast]
  obtain ⟨n, hn⟩ : ∃ n, n = ruNum s a := ⟨_, rfl⟩
  obtain ⟨er, hE⟩ : ∃ er, er = ruEr s a := ⟨_, rfl⟩
  rw [← hn, ← hE] at HR
  rw [← hn, ← hE]
  rw [← hE] at her
  clear hn hE hq hpl hA
  unfold cw cv at *
  obtain ⟨X, hX⟩ : ∃ X : Int, X = ((8 * P - a : Nat) : Int) := ⟨_, rfl⟩
  obtain ⟨v, hv⟩ : ∃ v : Int, v = (rdN s a (8 * P - a) : Int) := ⟨_, rfl⟩
  obtain ⟨Q, hQ⟩ : ∃ Q : Int, Q = (((q + 7) / 8 : Nat) : Int) := ⟨_, rfl⟩
  obtain ⟨Y, hY⟩ : ∃ Y : Int, Y = ((8 * ((q + 7) / 8) - q : Nat) : Int) := ⟨_, rfl⟩
  obtain ⟨y, hy⟩ : ∃ y : Int, y = (rdN s q (8 * ((q + 7) / 8) - q) : Int) := ⟨_, rfl⟩
  rw [← hX, ← hv] at HP
  rw [← hX, ← hv, ← hQ, ← hY, ← hy]
  rw [← hQ, ← hY, ← hy] at HS
  clear hX hv hQ hY hy
  obtain ⟨R, hR⟩ : ∃ R, R = (if er = 0 then Value.tuple #[.agg #[.string s, .int .i64 Q, .int .i64 y, .int .i64 Y], .int .i64 n, .int .i64 0] else .tuple #[.agg #[.string s, .int .i64 P, .int .i64 v, .int .i64 X], .int .i64 0, .int .i64 er]) := ⟨_, rfl⟩
  rw [← hR]
  have HRR := Lib.hid hR; clear hR
  go_enter Try.func67, Try.ntmps67
  go_upto_region 1 with fail
  obtain ⟨k0, k1⟩ := boxes_kept (w := w) (cs := #[.string s, .int .i64 P, .int .i64 v, .int .i64 X]) (T := 25) (ds := #[.string ⟨#[]⟩, .int .i64 0, .int .i64 0, .int .i64 0]) (U := 25) (Below.refl _ _)
  obtain ⟨c0, c1, c2, c3⟩ := cells4 k0
  have b0 := (below_new w (.cells #[.string s, .int .i64 P, .int .i64 v, .int .i64 X] 25)).alloc (below_new w _).size (.cells #[.string ⟨#[]⟩, .int .i64 0, .int .i64 0, .int .i64 0] 25)
  have hS := And.intro c0 (And.intro c1 (And.intro c2 (And.intro c3 (And.intro k1 (And.intro b0 b0.size)))))
  clear c0 c1 c2 c3 k0 k1 b0
  go_cut [5, 6, 7] (fun s5 s6 s7 wx => ∃ g : Nat, s5 = .pointer (some ⟨g, 0, none⟩) ∧ s6 = .int .i64 n ∧ s7 = .int .i64 er ∧ wx.heap[g]? = some (.cells #[.string s, .int .i64 q] 35 (0, 0)) ∧
    wx.cell? ⟨w.heap.size, 0, none⟩ = some (.string s) ∧ wx.cell? ⟨w.heap.size, 1, none⟩ = some (.int .i64 P) ∧ wx.cell? ⟨w.heap.size, 2, none⟩ = some (.int .i64 v) ∧ wx.cell? ⟨w.heap.size, 3, none⟩ = some (.int .i64 X) ∧ wx.heap[w.heap.size + 1]? = some (.cells #[.string ⟨#[]⟩, .int .i64 0, .int .i64 0, .int .i64 0] 25 (0, 0)) ∧ Below w.heap.size w wx ∧ w.heap.size ≤ wx.heap.size)
  case first =>
    go_region_held3 (fun w' => w'.cell? ⟨w.heap.size, 0, none⟩ = some (.string s) ∧ w'.cell? ⟨w.heap.size, 1, none⟩ = some (.int .i64 P) ∧ w'.cell? ⟨w.heap.size, 2, none⟩ = some (.int .i64 v) ∧ w'.cell? ⟨w.heap.size, 3, none⟩ = some (.int .i64 X) ∧ w'.heap[w.heap.size + 1]? = some (.cells #[.string ⟨#[]⟩, .int .i64 0, .int .i64 0, .int .i64 0] 25 (0, 0)) ∧ Below w.heap.size w w' ∧ w.heap.size ≤ w'.heap.size)
      (first | (refine held4k_drew ?_; assumption) | (refine held4k_drew (held4k_alloc ?_); assumption) | (exact held4k_alloc HS2.out) | (exact held4k_set2 HS2.out (by have := HL1.out; omega) (by have := HL1.out; omega)) | (refine held4k_alloc ?_; assumption) | (refine held4k ?_ (by assumption); assumption))
      (first
        | (go_at_call 23; with_reducible refine (HP.out _).mono ?_; rintro e w1 ⟨rfl, hb'⟩;
           have HS1 : Hid (w1.cell? ⟨w.heap.size, 0, none⟩ = some (.string s) ∧ w1.cell? ⟨w.heap.size, 1, none⟩ = some (.int .i64 P) ∧ w1.cell? ⟨w.heap.size, 2, none⟩ = some (.int .i64 v) ∧ w1.cell? ⟨w.heap.size, 3, none⟩ = some (.int .i64 X) ∧ w1.heap[w.heap.size + 1]? = some (.cells #[.string ⟨#[]⟩, .int .i64 0, .int .i64 0, .int .i64 0] 25 (0, 0)) ∧ Below w.heap.size w w1 ∧ w.heap.size ≤ w1.heap.size) := Lib.hid (held4k (by assumption) hb');
           have HL1 : Hid (w.heap.size + 1 < w1.heap.size) := Lib.hid (heap_lt HS1.out.2.2.2.2.1);
           (try (have K5 : Hid (w1.heap[w.heap.size + 1 + 1]? = some (.cells #[.string ⟨#[]⟩, .int .i64 0] 35 (0, 0))) := Lib.hid (by have h := cell_kept (w := World.drew (World.alloc _ (.cells #[.string ⟨#[]⟩, .int .i64 0] 35))) (heap_alloc_new _ (.cells #[.string ⟨#[]⟩, .int .i64 0] 35)) hb'; simpa using h))))
        | (go_at_call 100; with_reducible refine (HR.out _).mono ?_; rintro e w2 ⟨rfl, hb''⟩;
           have HS2 : Hid (w2.cell? ⟨w.heap.size, 0, none⟩ = some (.string s) ∧ w2.cell? ⟨w.heap.size, 1, none⟩ = some (.int .i64 P) ∧ w2.cell? ⟨w.heap.size, 2, none⟩ = some (.int .i64 v) ∧ w2.cell? ⟨w.heap.size, 3, none⟩ = some (.int .i64 X) ∧ w2.heap[w.heap.size + 1]? = some (.cells #[.string ⟨#[]⟩, .int .i64 0, .int .i64 0, .int .i64 0] 25 (0, 0)) ∧ Below w.heap.size w w2 ∧ w.heap.size ≤ w2.heap.size) := Lib.hid (held4k (by assumption) hb'');
           (first
             | (have K6 := Lib.hid (cell_kept K5.out hb''); have p5 := cells2 K6.out; obtain ⟨p6, p7⟩ := p5; have p8 := frozen_of_row _ _ 0 _ _ K6.out; have p9 := frozen_of_row _ _ 1 _ _ K6.out)
             | (have K6 : Hid (w2.heap[w1.heap.size]? = some (.cells #[.string ⟨#[]⟩, .int .i64 0] 35 (0, 0))) := Lib.hid (by have h := cell_kept (heap_alloc_new _ (.cells #[.string ⟨#[]⟩, .int .i64 0] 35)) hb''; simpa using h); have p5 := cells2 K6.out; obtain ⟨p6, p7⟩ := p5; have p8 := frozen_of_row _ _ 0 _ _ K6.out; have p9 := frozen_of_row _ _ 1 _ _ K6.out)
             | skip))
        | fail)
    all_goals go_wp2_with fail
    all_goals go_meet
    all_goals first
      | exact ⟨_, rfl, rfl, rfl, heap_alloc_new _ _, by assumption⟩
      | exact ⟨_, rfl, rfl, rfl, block_set2 K6.out _ _, by assumption⟩
  case rest =>
    obtain ⟨g, rfl, rfl, rfl, kg, c0, c1, c2, c3, k1, hb, hle⟩ := hcut
    clear hS
    have K1 := Lib.hid k1; have KG := Lib.hid kg; have HB := Lib.hid hb
    obtain ⟨p0, p1⟩ := cells2 kg
    obtain ⟨d0, d1, d2, d3⟩ := cells4 k1
    obtain ⟨f0, f1, f2, f3⟩ := frozen4 k1
    clear kg hb
    by_cases h0 : er = 0
    · subst h0
      clear d0 d1 d2 d3 f0 f1 f2 f3 k1
      go_wp2_with fail
      refine (HS.out _).mono ?_
      rintro e w4 ⟨rfl, hb4⟩
      have k4 := cell_kept K1.out hb4
      obtain ⟨d0, d1, d2, d3⟩ := cells4 k4
      obtain ⟨f0, f1, f2, f3⟩ := frozen4 k4
      obtain ⟨w3, hw3, e0, e1, e2, e3, hb3⟩ := out4 s Q y Y k4 (Nat.le_succ _) (below_up HB.out hb4 hle)
      have HW := Lib.hid hw3; have HB3 := Lib.hid hb3; have E0 := Lib.hid e0; have E1 := Lib.hid e1; have E2 := Lib.hid e2; have E3 := Lib.hid e3
      clear hw3 hb3 e0 e1 e2 e3 hb4 k4
      go_wp2
      rw [← HW.out]
      have e0 := E0.out; have e1 := E1.out; have e2 := E2.out; have e3 := E3.out
      exact bodyPost_ret (v := .tuple #[.agg #[.string s, .int .i64 Q, .int .i64 y, .int .i64 Y], .int .i64 n, .int .i64 0]) (by simp [results, Try.results67, go_sem, e0, e1, e2, e3]) rfl ⟨by rw [HRR.out]; simp, HB3.out⟩
    · have hq1 : (er != 0) = true := by rw [bne_iff_ne]; exact h0
      have H0 := Lib.hid h0; clear h0
      obtain ⟨w3, hw3, e0, e1, e2, e3, hb3⟩ := out4 s (P : Int) v X K1.out (Nat.le_succ _) HB.out
      have HW := Lib.hid hw3; have HB3 := Lib.hid hb3; have E0 := Lib.hid e0; have E1 := Lib.hid e1; have E2 := Lib.hid e2; have E3 := Lib.hid e3
      clear hw3 hb3 e0 e1 e2 e3 k1
      go_wp2
      rw [← HW.out]
      have e0 := E0.out; have e1 := E1.out; have e2 := E2.out; have e3 := E3.out
      exact bodyPost_ret (v := .tuple #[.agg #[.string s, .int .i64 P, .int .i64 v, .int .i64 X], .int .i64 0, .int .i64 er]) (by simp [results, Try.results67, go_sem, e0, e1, e2, e3]) rfl ⟨by rw [HRR.out, if_neg H0.out], HB3.out⟩
end Go.Proofs.Ytgacldhpohnpaaa

namespace Go.Proofs.Ytgacldhpohnpaaa
open Go.RowKit
set_option linter.unusedVariables false

/-- Nine bits are a number below 512. -/
theorem pkV_nine (s : ByteArray) (a Q : Nat) : ∃ x : Nat, pkV s a Q 9 = (x : Int) ∧ x < 512 := by
  unfold pkV
  split
  · rename_i h
    refine ⟨_, rfl, ?_⟩
    have h1 := rdN_lt s a (8 * Q - a)
    have h2 : rdN s a (8 * Q - a) * 2 ^ (9 - (8 * Q - a)) < 2 ^ (8 * Q - a) * 2 ^ (9 - (8 * Q - a)) := Nat.mul_lt_mul_of_pos_right h1 (Nat.two_pow_pos _)
    rw [← Nat.pow_add, show 8 * Q - a + (9 - (8 * Q - a)) = 9 by omega] at h2
    exact h2
  · exact ⟨_, rfl, rdN_lt s a 9⟩
/-- The number of the nine bits that are peeked at. -/
def fnX (s : ByteArray) (a P : Nat) : Nat := (pkV s a (pkP s a P 9) 9).toNat
theorem fnX_eq (s : ByteArray) (a P : Nat) : pkV s a (pkP s a P 9) 9 = (fnX s a P : Int) ∧ fnX s a P < 512 := by
  obtain ⟨x, h1, h2⟩ := pkV_nine s a (pkP s a P 9)
  unfold fnX
  omega
/-- The table has an entry for these bits that is used. -/
def quick (s : ByteArray) (a P : Nat) (l : EntL) : Prop := l.length = 512 ∧ 1 ≤ (entAt l (fnX s a P)).1 ∧ (entAt l (fnX s a P)).1 ≤ 9

/-- The fault and the number that are read bit by bit. -/
theorem fuR_form (s : ByteArray) (a P : Nat) : ∃ p wd h n er : Int, fuR s a P = .tuple #[.agg #[.string s, .int .i64 p, .int .i64 wd, .int .i64 h], .int .i64 n, .int .i64 er] := by
  unfold fuR
  split
  · exact ⟨_, _, _, _, _, rfl⟩
  · exact ⟨_, _, _, _, _, rfl⟩

end Go.Proofs.Ytgacldhpohnpaaa
