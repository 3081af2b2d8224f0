/-
  Contracts of the model's FastUe. Condition: the string is no longer than 1048576 bytes (the laws ask no more).
  The model's FastUe where the table has an entry that is used. Condition: the string is no longer than 1048576 bytes (the laws ask no more).
  The model's FastUe where the table has no entry that is used. Condition: the string is no longer than 1048576 bytes (the laws ask no more).
-/
import Derived.Test.YtgacldhpohnpaaaTake
import Derived.Deep.RegionHeld3
import Derived.Deep.DeepCutAuto
namespace Go.Proofs.Ytgacldhpohnpaaa
open Go.RowKit
set_option linter.unusedVariables false

theorem held5_below {w W : World} {g b j B : Nat} {v0 v1 v2 v3 v4 : Value} {w' : World} (h : w.cell? ⟨g, 0, none⟩ = some v0 ∧ w.cell? ⟨g, 1, none⟩ = some v1 ∧ w.cell? ⟨g, 2, none⟩ = some v2 ∧ w.cell? ⟨g, 3, none⟩ = some v3 ∧ w.cell? ⟨b, j, none⟩ = some v4 ∧ Below B W w) (hb : Below w.heap.size w w') (hB : B ≤ W.heap.size) : w'.cell? ⟨g, 0, none⟩ = some v0 ∧ w'.cell? ⟨g, 1, none⟩ = some v1 ∧ w'.cell? ⟨g, 2, none⟩ = some v2 ∧ w'.cell? ⟨g, 3, none⟩ = some v3 ∧ w'.cell? ⟨b, j, none⟩ = some v4 ∧ Below B W w' := by
  obtain ⟨h0, h1, h2, h3, h4, h6⟩ := h
  have k : ∀ {p : Addr} {v : Value}, w.cell? p = some v → w'.cell? p = some v := fun hc => by
    rw [hb.cell (World.block_lt_of_cell? w _ hc)]; exact hc
  exact ⟨k h0, k h1, k h2, k h3, k h4, below_up h6 hb (Nat.le_trans hB h6.size)⟩
theorem held5_drew {w W : World} {g b j B : Nat} {v0 v1 v2 v3 v4 : Value} (h : w.cell? ⟨g, 0, none⟩ = some v0 ∧ w.cell? ⟨g, 1, none⟩ = some v1 ∧ w.cell? ⟨g, 2, none⟩ = some v2 ∧ w.cell? ⟨g, 3, none⟩ = some v3 ∧ w.cell? ⟨b, j, none⟩ = some v4 ∧ Below B W w) : w.drew.cell? ⟨g, 0, none⟩ = some v0 ∧ w.drew.cell? ⟨g, 1, none⟩ = some v1 ∧ w.drew.cell? ⟨g, 2, none⟩ = some v2 ∧ w.drew.cell? ⟨g, 3, none⟩ = some v3 ∧ w.drew.cell? ⟨b, j, none⟩ = some v4 ∧ Below B W w.drew :=
  ⟨h.1, h.2.1, h.2.2.1, h.2.2.2.1, h.2.2.2.2.1, h.2.2.2.2.2.drew⟩
theorem held5_alloc {w W : World} {g b j B : Nat} {v0 v1 v2 v3 v4 : Value} {o : Obj} (h : w.cell? ⟨g, 0, none⟩ = some v0 ∧ w.cell? ⟨g, 1, none⟩ = some v1 ∧ w.cell? ⟨g, 2, none⟩ = some v2 ∧ w.cell? ⟨g, 3, none⟩ = some v3 ∧ w.cell? ⟨b, j, none⟩ = some v4 ∧ Below B W w) (hB : B ≤ W.heap.size) : (w.alloc o).cell? ⟨g, 0, none⟩ = some v0 ∧ (w.alloc o).cell? ⟨g, 1, none⟩ = some v1 ∧ (w.alloc o).cell? ⟨g, 2, none⟩ = some v2 ∧ (w.alloc o).cell? ⟨g, 3, none⟩ = some v3 ∧ (w.alloc o).cell? ⟨b, j, none⟩ = some v4 ∧ Below B W (w.alloc o) :=
  held5_below h ((Below.refl _ _).alloc (Nat.le_refl _) _) hB
theorem held5_set4 {w W : World} {g b j B : Nat} {v0 v1 v2 v3 v4 : Value} {x : Nat} {y0 y1 y2 y3 : Value} (h : w.cell? ⟨g, 0, none⟩ = some v0 ∧ w.cell? ⟨g, 1, none⟩ = some v1 ∧ w.cell? ⟨g, 2, none⟩ = some v2 ∧ w.cell? ⟨g, 3, none⟩ = some v3 ∧ w.cell? ⟨b, j, none⟩ = some v4 ∧ Below B W w) (hx : g < x ∧ b < x) (hB : B ≤ x) : ((((w.setCell ⟨x, 0, none⟩ y0).setCell ⟨x, 1, none⟩ y1).setCell ⟨x, 2, none⟩ y2).setCell ⟨x, 3, none⟩ y3).cell? ⟨g, 0, none⟩ = some v0 ∧ ((((w.setCell ⟨x, 0, none⟩ y0).setCell ⟨x, 1, none⟩ y1).setCell ⟨x, 2, none⟩ y2).setCell ⟨x, 3, none⟩ y3).cell? ⟨g, 1, none⟩ = some v1 ∧ ((((w.setCell ⟨x, 0, none⟩ y0).setCell ⟨x, 1, none⟩ y1).setCell ⟨x, 2, none⟩ y2).setCell ⟨x, 3, none⟩ y3).cell? ⟨g, 2, none⟩ = some v2 ∧ ((((w.setCell ⟨x, 0, none⟩ y0).setCell ⟨x, 1, none⟩ y1).setCell ⟨x, 2, none⟩ y2).setCell ⟨x, 3, none⟩ y3).cell? ⟨g, 3, none⟩ = some v3 ∧ ((((w.setCell ⟨x, 0, none⟩ y0).setCell ⟨x, 1, none⟩ y1).setCell ⟨x, 2, none⟩ y2).setCell ⟨x, 3, none⟩ y3).cell? ⟨b, j, none⟩ = some v4 ∧ Below B W ((((w.setCell ⟨x, 0, none⟩ y0).setCell ⟨x, 1, none⟩ y1).setCell ⟨x, 2, none⟩ y2).setCell ⟨x, 3, none⟩ y3) := by
  obtain ⟨h0, h1, h2, h3, h4, h6⟩ := h
  have hk : ∀ k, k ≠ x → ((((w.setCell ⟨x, 0, none⟩ y0).setCell ⟨x, 1, none⟩ y1).setCell ⟨x, 2, none⟩ y2).setCell ⟨x, 3, none⟩ y3).heap[k]? = w.heap[k]? := fun k hk => by
    rw [heap_setCell_other _ _ _ _ hk, heap_setCell_other _ _ _ _ hk, heap_setCell_other _ _ _ _ hk, heap_setCell_other _ _ _ _ hk]
  have hc : ∀ k i, k < x → ((((w.setCell ⟨x, 0, none⟩ y0).setCell ⟨x, 1, none⟩ y1).setCell ⟨x, 2, none⟩ y2).setCell ⟨x, 3, none⟩ y3).cell? ⟨k, i, none⟩ = w.cell? ⟨k, i, none⟩ := fun k i hkx => World.cell?_of_block (a := ⟨k, i, none⟩) (hk k (by omega))
  have hb := Below.setCell (Below.setCell (Below.setCell (Below.setCell h6 (p := ⟨x, 0, none⟩) hB y0) (p := ⟨x, 1, none⟩) hB y1) (p := ⟨x, 2, none⟩) hB y2) (p := ⟨x, 3, none⟩) hB y3
  exact ⟨(hc g 0 hx.1).trans h0, (hc g 1 hx.1).trans h1, (hc g 2 hx.1).trans h2, (hc g 3 hx.1).trans h3, (hc b j hx.2).trans h4, hb⟩
theorem block_set4 {w : World} {g : Nat} {u0 u1 u2 u3 : Value} {T : TypeId} (h : w.heap[g]? = some (.cells #[u0, u1, u2, u3] T (0, 0))) (x0 x1 x2 x3 : Value) :
    ((((w.setCell ⟨g, 0, none⟩ x0).setCell ⟨g, 1, none⟩ x1).setCell ⟨g, 2, none⟩ x2).setCell ⟨g, 3, none⟩ x3).heap[g]? = some (.cells #[x0, x1, x2, x3] T (0, 0)) := by
  rw [heap_setCell_same _ g 3 _ _ _ (heap_setCell_same _ g 2 _ _ _ (heap_setCell_same _ g 1 _ _ _ (heap_setCell_same w g 0 _ _ _ h)))]
  rfl

end Go.Proofs.Ytgacldhpohnpaaa

namespace Go.Proofs.Ytgacldhpohnpaaa
open Go.RowKit
set_option linter.unusedVariables false

set_option maxRecDepth 100000 in
set_option maxHeartbeats 1000000 in
theorem l7reader_any (s : ByteArray) (a P : Nat) (hs : s.size ≤ 1048576) (hA : At s a P) (w : World) :
    Calls Try.prog 77 #[cw s a P] w fun e w' => e = .returned (.agg #[.string s, .int .i64 a]) ∧ Below w.heap.size w w' := by
  have HP := Lib.hid (spec_placein_in s a P hs hA)
  clear hA
  unfold cw cv at *
  obtain ⟨X, hX⟩ : ∃ X : Int, X = ((8 * P - a : Nat) : Int) := ⟨_, rfl⟩
  obtain ⟨v, hv⟩ : ∃ v : Int, v = (rdN s a (8 * P - a) : Int) := ⟨_, rfl⟩
  rw [← hX, ← hv] at HP
  rw [← hX, ← hv]
  clear hX hv
  have k0 : ((w.alloc (.cells #[.string s, .int .i64 P, .int .i64 v, .int .i64 X] 25)).alloc (.cells #[.string ⟨#[]⟩, .int .i64 0] 35)).heap[w.heap.size]? = some (.cells #[.string s, .int .i64 P, .int .i64 v, .int .i64 X] 25 (0, 0)) := by
    rw [Below.heap_alloc _ _ _ (by simp)]; exact heap_alloc_new w _
  have k1 : ((w.alloc (.cells #[.string s, .int .i64 P, .int .i64 v, .int .i64 X] 25)).alloc (.cells #[.string ⟨#[]⟩, .int .i64 0] 35)).heap[w.heap.size + 1]? = some (.cells #[.string ⟨#[]⟩, .int .i64 0] 35 (0, 0)) := by
    have := heap_alloc_new (w.alloc (.cells #[.string s, .int .i64 P, .int .i64 v, .int .i64 X] 25)) (.cells #[.string ⟨#[]⟩, .int .i64 0] 35)
    simpa using this
  obtain ⟨c0, c1, c2, c3⟩ := cells4 k0
  have B0 := Lib.hid ((below_new w (.cells #[.string s, .int .i64 P, .int .i64 v, .int .i64 X] 25)).alloc (below_new w _).size (.cells #[.string ⟨#[]⟩, .int .i64 0] 35))
  have HS0 := Lib.hid (held4k_drew (And.intro c0 (And.intro c1 (And.intro c2 (And.intro c3 (And.intro k1 (And.intro B0.out B0.out.size)))))))
  clear k0 k1
  go_enter Try.func77, Try.ntmps77
  go_wp2_with fail
  go_region_with (go_at_call 22; with_reducible refine (HP.out _).mono ?_; rintro e w1 ⟨rfl, hb'⟩; have HS1 := Lib.hid (held4k HS0.out hb'); obtain ⟨p0, p1, p2, p3, p4, p5, -⟩ := HS1.out; have K1 := Lib.hid p4; have B1 := Lib.hid p5; have d := cells2 p4; obtain ⟨d0, d1⟩ := d; have f0 := frozen_of_row _ _ 0 _ _ p4; have f1 := frozen_of_row _ _ 1 _ _ p4; clear p4 p5 hb')
  all_goals
    obtain ⟨w3, hw3, e0, e1, hb3⟩ := copy_out s (a : Int) K1.out B1.out
    have HW := Lib.hid hw3; have HB := Lib.hid hb3; have E0 := Lib.hid e0; have E1 := Lib.hid e1
    clear hw3 hb3 e0 e1
    go_wp2
    rw [← HW.out]
    have e0 := E0.out; have e1 := E1.out
    exact bodyPost_ret (v := .agg #[.string s, .int .i64 a]) (by simp [results, Try.results77, go_sem, e0, e1]) rfl ⟨rfl, HB.out⟩

set_option maxRecDepth 100000 in
set_option maxHeartbeats 1000000 in
theorem spec_fast_out (s : ByteArray) (p wd h : Int) (A : Option Addr) (len ca : Nat) (hs : s.size ≤ 1048576) (hno : ckOk s p wd h = false) (w : World) :
    Calls Try.prog 20 #[cv s p wd h, .slice A len ca] w fun e w' => e = .returned (.tuple #[cv s p wd h, .int .i64 0, .int .i64 1]) ∧ Below w.heap.size w w' := by
  have HO := Lib.hid (spec_cacheok_any s p wd h hs)
  rw [hno] at HO
  clear hno
  unfold cv at *
  go_enter Try.func20, Try.ntmps20
  go_wp2_with fail
  refine (HO.out _).mono ?_
  rintro e w1 ⟨rfl, hb1⟩
  obtain ⟨k0, k1⟩ := boxes_kept hb1
  obtain ⟨c0, c1, c2, c3⟩ := cells4 k0
  obtain ⟨d0, d1, d2, d3⟩ := cells4 k1
  obtain ⟨g0, g1, g2, g3⟩ := frozen4 k1
  obtain ⟨w3, hw3, e0, e1, e2, e3, hb3⟩ := out4 s p wd h k1 (Nat.le_succ _) (below_step ((below_new w _).alloc (below_new w _).size _) hb1)
  have HW := Lib.hid hw3; have HB := Lib.hid hb3; have E0 := Lib.hid e0; have E1 := Lib.hid e1; have E2 := Lib.hid e2; have E3 := Lib.hid e3
  clear hw3 hb3 e0 e1 e2 e3 hb1 k0 k1
  go_wp2
  rw [← HW.out]
  have e0 := E0.out; have e1 := E1.out; have e2 := E2.out; have e3 := E3.out
  exact bodyPost_ret (v := .tuple #[.agg #[.string s, .int .i64 p, .int .i64 wd, .int .i64 h], .int .i64 0, .int .i64 1]) (by simp [results, Try.results20, go_sem, e0, e1, e2, e3]) rfl ⟨rfl, HB.out⟩

end Go.Proofs.Ytgacldhpohnpaaa

namespace Go.Proofs.Ytgacldhpohnpaaa
open Go.RowKit
set_option linter.unusedVariables false

set_option maxRecDepth 100000 in
set_option maxHeartbeats 1000000 in
theorem spec_fast_in (s : ByteArray) (a P : Nat) (hs : s.size ≤ 1048576) (hA : At s a P) (A : Option Addr) (ca : Nat) (l : EntL) (z n : Int) (x : Nat) (hx : x = fnX s a P) (hl : l.length = 512) (he : entAt l x = (z, n)) (hz1 : 1 ≤ z) (hz9 : z ≤ 9)
    (ok : Bool) (sp sw sh fp fw fh : Int)
    (HK : Hid (∀ w, Calls Try.prog 37 #[cw s a (pkP s a P 9), .int .i64 z] w fun e w' => e = .returned (.tuple #[cv s sp sw sh, .bool ok]) ∧ Below w.heap.size w w'))
    (HT : Hid (ok = true → ∀ w, Calls Try.prog 76 #[cv s sp sw sh] w fun e w' => e = .returned (cv s fp fw fh) ∧ Below w.heap.size w w')) (w : World) (hE : Ents w w.heap.size A l) :
    Calls Try.prog 20 #[cw s a P, .slice A 512 ca] w fun e w' => e = .returned (if ok then .tuple #[cv s fp fw fh, .int .i64 n, .int .i64 0] else .tuple #[cw s a P, .int .i64 0, .int .i64 1]) ∧ Below w.heap.size w w' := by
  have HO := Lib.hid (spec_cacheok_any s (P : Int) (rdN s a (8 * P - a) : Int) ((8 * P - a : Nat) : Int) hs)
  rw [ckOk_of s a P hA] at HO
  have HP := Lib.hid (spec_peek_in s a P 9 hs hA (by decide))
  have LI := Lib.hid (l1In_any z 1 9)
  rw [show (decide (1 ≤ z) && decide (z ≤ 9)) = true by simp; omega] at LI
  obtain ⟨hx1, hx2⟩ := fnX_eq s a P
  rw [hx1] at HP
  rw [← hx] at HP hx2
  obtain ⟨Q, hQ⟩ : ∃ Q, Q = pkP s a P 9 := ⟨_, rfl⟩
  rw [← hQ] at HP HK
  clear hx hQ hx1 hA
  unfold cw cv at *
  obtain ⟨X, hX⟩ : ∃ X : Int, X = ((8 * P - a : Nat) : Int) := ⟨_, rfl⟩
  obtain ⟨v, hv⟩ : ∃ v : Int, v = (rdN s a (8 * P - a) : Int) := ⟨_, rfl⟩
  obtain ⟨Y, hY⟩ : ∃ Y : Int, Y = ((8 * Q - a : Nat) : Int) := ⟨_, rfl⟩
  obtain ⟨y, hy⟩ : ∃ y : Int, y = (rdN s a (8 * Q - a) : Int) := ⟨_, rfl⟩
  rw [← hX, ← hv] at HO HP
  rw [← hX, ← hv]
  rw [← hY, ← hy] at HP HK
  clear hX hv hY hy
  obtain ⟨b, off, rfl, hbb, hct⟩ := hE.at x (by omega)
  obtain ⟨ct0, ct1⟩ := hct x (by omega)
  rw [he] at ct0 ct1
  have CT0 := Lib.hid ct0; have CT1 := Lib.hid ct1
  clear hct ct0 ct1 hE he hl
  obtain ⟨R, hR⟩ : ∃ R, R = (if ok then Value.tuple #[.agg #[.string s, .int .i64 fp, .int .i64 fw, .int .i64 fh], .int .i64 n, .int .i64 0] else .tuple #[.agg #[.string s, .int .i64 P, .int .i64 v, .int .i64 X], .int .i64 0, .int .i64 1]) := ⟨_, rfl⟩
  rw [← hR]
  have HRR := Lib.hid hR; clear hR
  have hxi : (x : Int) < 512 := by omega
  have hx0 : (0 : Int) ≤ (x : Int) := by omega
  go_enter Try.func20, Try.ntmps20
  go_wp2_with fail
  refine (HO.out _).mono ?_
  rintro e w1 ⟨rfl, hb1⟩
  obtain ⟨k0, k1⟩ := boxes_kept hb1
  obtain ⟨c0, c1, c2, c3⟩ := cells4 k0
  have K0 := Lib.hid k0; have K1 := Lib.hid k1
  have B1 := Lib.hid (below_step ((below_new w _).alloc (below_new w _).size _) hb1)
  clear hb1 k0 k1
  go_wp2_with fail
  refine (HP.out _).mono ?_
  rintro e w2 ⟨rfl, hb2⟩
  have K0b := Lib.hid (cell_kept K0.out hb2)
  have K1b := Lib.hid (cell_kept K1.out hb2)
  have B2 := Lib.hid (below_up B1.out hb2 B1.out.size)
  clear c0 c1 c2 c3 hb2
  have hlb : b < w2.heap.size := Nat.lt_of_lt_of_le hbb B2.out.size
  have ct : w2.cell? ⟨b, off + x * 2, none⟩ = some (.int .i64 z) := by rw [B2.out.cell (p := ⟨b, off + x * 2, none⟩) hbb]; exact CT0.out
  go_wp2_with fail
  refine (LI.out _).mono ?_
  rintro e w' ⟨rfl, rfl⟩
  go_upto_region 5 with fail
  have cta : (w2.alloc (.cells #[.string s, .int .i64 Q, .int .i64 y, .int .i64 Y] 25)).cell? ⟨b, off + x * 2, none⟩ = some (.int .i64 z) := by
    rw [World.cell?_of_block (w := w2) (a := ⟨b, off + x * 2, none⟩) (Below.heap_alloc _ _ _ hlb)]; exact ct
  obtain ⟨c0, c1, c2, c3⟩ := cells4 (heap_alloc_new w2 (.cells #[.string s, .int .i64 Q, .int .i64 y, .int .i64 Y] 25))
  have hS := And.intro c0 (And.intro c1 (And.intro c2 (And.intro c3 (And.intro cta (Below.refl (w2.alloc (.cells #[.string s, .int .i64 Q, .int .i64 y, .int .i64 Y] 25)).heap.size (w2.alloc (.cells #[.string s, .int .i64 Q, .int .i64 y, .int .i64 Y] 25)))))))
  clear c0 c1 c2 c3 cta ct
  go_cut [9, 10] (fun s9 s10 wx => ∃ g : Nat, s9 = .pointer (some ⟨g, 0, none⟩) ∧ s10 = .bool ok ∧ wx.heap[g]? = some (.cells #[.string s, .int .i64 sp, .int .i64 sw, .int .i64 sh] 25 (0, 0)) ∧ wx.cell? ⟨w2.heap.size, 0, none⟩ = some (.string s) ∧ wx.cell? ⟨w2.heap.size, 1, none⟩ = some (.int .i64 Q) ∧ wx.cell? ⟨w2.heap.size, 2, none⟩ = some (.int .i64 y) ∧ wx.cell? ⟨w2.heap.size, 3, none⟩ = some (.int .i64 Y) ∧ wx.cell? ⟨b, off + x * 2, none⟩ = some (.int .i64 z) ∧ Below (w2.alloc (.cells #[.string s, .int .i64 Q, .int .i64 y, .int .i64 Y] 25)).heap.size (w2.alloc (.cells #[.string s, .int .i64 Q, .int .i64 y, .int .i64 Y] 25)) wx)
  case first =>
    go_region_held3 (fun w' => w'.cell? ⟨w2.heap.size, 0, none⟩ = some (.string s) ∧ w'.cell? ⟨w2.heap.size, 1, none⟩ = some (.int .i64 Q) ∧ w'.cell? ⟨w2.heap.size, 2, none⟩ = some (.int .i64 y) ∧ w'.cell? ⟨w2.heap.size, 3, none⟩ = some (.int .i64 Y) ∧ w'.cell? ⟨b, off + x * 2, none⟩ = some (.int .i64 z) ∧ Below (w2.alloc (.cells #[.string s, .int .i64 Q, .int .i64 y, .int .i64 Y] 25)).heap.size (w2.alloc (.cells #[.string s, .int .i64 Q, .int .i64 y, .int .i64 Y] 25)) w')
      (first | (with_reducible exact HS2.out) | (with_reducible refine held5_drew ?_; with_reducible assumption) | (with_reducible refine held5_drew (held5_alloc ?_ (Nat.le_refl _)); with_reducible assumption) | (with_reducible exact held5_alloc HS2.out (Nat.le_refl _)) | (with_reducible refine held5_set4 HS2.out ?_ ?_ <;> first | omega | (simp; done)))
      (first
        | (go_at_call 37; with_reducible refine (HK.out _).mono ?_; rintro e w3 ⟨rfl, hb'⟩;
           have HS2 : Hid (w3.cell? ⟨w2.heap.size, 0, none⟩ = some (.string s) ∧ w3.cell? ⟨w2.heap.size, 1, none⟩ = some (.int .i64 Q) ∧ w3.cell? ⟨w2.heap.size, 2, none⟩ = some (.int .i64 y) ∧ w3.cell? ⟨w2.heap.size, 3, none⟩ = some (.int .i64 Y) ∧ w3.cell? ⟨b, off + x * 2, none⟩ = some (.int .i64 z) ∧ Below (w2.alloc (.cells #[.string s, .int .i64 Q, .int .i64 y, .int .i64 Y] 25)).heap.size (w2.alloc (.cells #[.string s, .int .i64 Q, .int .i64 y, .int .i64 Y] 25)) w3) := Lib.hid (held5_below (by assumption) hb' (Nat.le_refl _));
           (first
             | (have HB6 : Below (World.drew (World.alloc (w2.alloc (.cells #[.string s, .int .i64 Q, .int .i64 y, .int .i64 Y] 25)) (.cells #[.string ⟨#[]⟩, .int .i64 0, .int .i64 0, .int .i64 0] 25))).heap.size (World.drew (World.alloc (w2.alloc (.cells #[.string s, .int .i64 Q, .int .i64 y, .int .i64 Y] 25)) (.cells #[.string ⟨#[]⟩, .int .i64 0, .int .i64 0, .int .i64 0] 25))) w3 := by with_reducible assumption
                have K6 : Hid (w3.heap[w2.heap.size + 1]? = some (.cells #[.string ⟨#[]⟩, .int .i64 0, .int .i64 0, .int .i64 0] 25 (0, 0))) := Lib.hid (by have h := cell_kept (w := World.drew (World.alloc (w2.alloc (.cells #[.string s, .int .i64 Q, .int .i64 y, .int .i64 Y] 25)) (.cells #[.string ⟨#[]⟩, .int .i64 0, .int .i64 0, .int .i64 0] 25))) (heap_alloc_new (w2.alloc (.cells #[.string s, .int .i64 Q, .int .i64 y, .int .i64 Y] 25)) (.cells #[.string ⟨#[]⟩, .int .i64 0, .int .i64 0, .int .i64 0] 25)) HB6; simpa using h); clear HB6; have p5 := cells4 K6.out; obtain ⟨p6, p7, p8, p9⟩ := p5; have q5 := frozen4 K6.out; obtain ⟨q6, q7, q8, q9⟩ := q5)
             | skip))
        | fail)
    all_goals go_wp2_with fail
    all_goals go_meet
    all_goals first
      | exact ⟨_, rfl, rfl, heap_alloc_new _ _, by assumption⟩
      | exact ⟨_, rfl, rfl, block_set4 K6.out _ _ _ _, by assumption⟩
  case rest =>
    obtain ⟨g, rfl, rfl, kg, -, -, -, -, ct, hb⟩ := hcut
    clear hS
    have k0 := cell_kept (heap_keep K0b.out _) hb
    have k1 := cell_kept (heap_keep K1b.out _) hb
    have BW := Lib.hid (below_up (B2.out.alloc B2.out.size _) hb (B2.out.alloc B2.out.size _).size)
    have ct1 : wc.cell? ⟨b, off + x * 2 + 1, none⟩ = some (.int .i64 n) := by rw [BW.out.cell (p := ⟨b, off + x * 2 + 1, none⟩) hbb]; exact CT1.out
    have K0c := Lib.hid k0; have K1c := Lib.hid k1; have KG := Lib.hid kg
    clear hb k0 k1 kg
    cases ok with
    | false =>
      obtain ⟨c0, c1, c2, c3⟩ := cells4 K0c.out
      obtain ⟨d0, d1, d2, d3⟩ := cells4 K1c.out
      obtain ⟨f0, f1, f2, f3⟩ := frozen4 K1c.out
      obtain ⟨w3, hw3, e0, e1, e2, e3, hb3⟩ := out4 s (P : Int) v X K1c.out (Nat.le_succ _) BW.out
      have HW := Lib.hid hw3; have HB3 := Lib.hid hb3; have E0 := Lib.hid e0; have E1 := Lib.hid e1; have E2 := Lib.hid e2; have E3 := Lib.hid e3
      clear hw3 hb3 e0 e1 e2 e3 ct ct1
      go_wp2
      rw [← HW.out]
      have e0 := E0.out; have e1 := E1.out; have e2 := E2.out; have e3 := E3.out
      exact bodyPost_ret (v := .tuple #[.agg #[.string s, .int .i64 P, .int .i64 v, .int .i64 X], .int .i64 0, .int .i64 1]) (by simp [results, Try.results20, go_sem, e0, e1, e2, e3]) rfl ⟨by rw [HRR.out]; simp, HB3.out⟩
    | true =>
      have HT1 : Hid (∀ w, Calls Try.prog 76 #[.agg #[.string s, .int .i64 sp, .int .i64 sw, .int .i64 sh]] w fun e w' => e = .returned (.agg #[.string s, .int .i64 fp, .int .i64 fw, .int .i64 fh]) ∧ Below w.heap.size w w') := Lib.hid (HT.out rfl)
      obtain ⟨c0, c1, c2, c3⟩ := cells4 KG.out
      have CTW := Lib.hid ct1
      clear ct
      go_wp2_with fail
      go_region_with (go_at_call 76; with_reducible refine (HT1.out _).mono ?_; rintro e w5 ⟨rfl, hb5⟩; have K5 := Lib.hid (cell_kept (w := wc.drew) K1c.out hb5); have B5 := Lib.hid (below_up BW.out.drew hb5 BW.out.drew.size); have ct5 := cell_drew_below CTW.out hb5; obtain ⟨d0, d1, d2, d3⟩ := cells4 K5.out; obtain ⟨f0, f1, f2, f3⟩ := frozen4 K5.out; clear hb5)
      all_goals
        obtain ⟨w3, hw3, e0, e1, e2, e3, hb3⟩ := out4 s fp fw fh K5.out (Nat.le_succ _) B5.out
        have HW := Lib.hid hw3; have HB3 := Lib.hid hb3; have E0 := Lib.hid e0; have E1 := Lib.hid e1; have E2 := Lib.hid e2; have E3 := Lib.hid e3
        clear hw3 hb3 e0 e1 e2 e3
        go_wp2
        rw [← HW.out]
        have e0 := E0.out; have e1 := E1.out; have e2 := E2.out; have e3 := E3.out
        exact bodyPost_ret (v := .tuple #[.agg #[.string s, .int .i64 fp, .int .i64 fw, .int .i64 fh], .int .i64 n, .int .i64 0]) (by simp [results, Try.results20, go_sem, e0, e1, e2, e3]) rfl ⟨by rw [HRR.out]; simp, HB3.out⟩
end Go.Proofs.Ytgacldhpohnpaaa

namespace Go.Proofs.Ytgacldhpohnpaaa
open Go.RowKit
set_option linter.unusedVariables false

set_option maxRecDepth 100000 in
set_option maxHeartbeats 1000000 in
theorem spec_fast_slow (s : ByteArray) (a P : Nat) (hs : s.size ≤ 1048576) (hA : At s a P) (A : Option Addr) (ca : Nat) (l : EntL) (hq : ¬ quick s a P l) (w : World) (hE : Ents w w.heap.size A l) :
    Calls Try.prog 20 #[cw s a P, .slice A l.length ca] w fun e w' => e = .returned (fuR s a P) ∧ Below w.heap.size w w' := by
  have HO := Lib.hid (spec_cacheok_any s (P : Int) (rdN s a (8 * P - a) : Int) ((8 * P - a : Nat) : Int) hs)
  rw [ckOk_of s a P hA] at HO
  have HP := Lib.hid (spec_peek_in s a P 9 hs hA (by decide))
  obtain ⟨hx1, hx2⟩ := fnX_eq s a P
  rw [hx1] at HP
  have HL := Lib.hid (l7reader_any s a P hs hA)
  have HR := Lib.hid (spec_readue_any s (a : Int) hs)
  have hpl := ruPlace_in s a (by obtain ⟨b1, b2, b3⟩ := hA; omega)
  obtain ⟨q, hqq⟩ : ∃ q : Nat, ruPlace s a = (q : Int) := ⟨(ruPlace s a).toNat, by omega⟩
  rw [hqq] at HR hpl
  have HS := Lib.hid (l7at_any s q hs (by omega))
  unfold fuR
  rw [hqq, Int.toNat_natCast]
  obtain ⟨n, hn⟩ : ∃ n, n = ruNum s a := ⟨_, rfl⟩
  obtain ⟨er, hEr⟩ : ∃ er, er = ruEr s a := ⟨_, rfl⟩
  rw [← hn, ← hEr] at HR
  rw [← hn, ← hEr]
  clear hn hEr hqq hpl
  have hcases : (((l.length : Int) == 512) = false) ∨ (l.length = 512 ∧ (decide (1 ≤ (entAt l (fnX s a P)).1) && decide ((entAt l (fnX s a P)).1 ≤ 9)) = false) := by
    unfold quick at hq
    by_cases h1 : l.length = 512
    · refine .inr ⟨h1, ?_⟩
      simp only [Bool.and_eq_false_iff, decide_eq_false_iff_not]
      by_cases h2 : 1 ≤ (entAt l (fnX s a P)).1
      · right; intro h3; exact hq ⟨h1, h2, h3⟩
      · left; exact h2
    · left; rw [beq_eq_false_iff_ne]; omega
  clear hq
  obtain ⟨x, hx⟩ : ∃ x, x = fnX s a P := ⟨_, rfl⟩
  rw [← hx] at HP hcases hx2
  obtain ⟨Q, hQ⟩ : ∃ Q, Q = pkP s a P 9 := ⟨_, rfl⟩
  rw [← hQ] at HP
  clear hx hQ hx1 hA
  unfold cw cv at *
  obtain ⟨X, hX⟩ : ∃ X : Int, X = ((8 * P - a : Nat) : Int) := ⟨_, rfl⟩
  obtain ⟨v, hv⟩ : ∃ v : Int, v = (rdN s a (8 * P - a) : Int) := ⟨_, rfl⟩
  obtain ⟨Y, hY⟩ : ∃ Y : Int, Y = ((8 * Q - a : Nat) : Int) := ⟨_, rfl⟩
  obtain ⟨y, hy⟩ : ∃ y : Int, y = (rdN s a (8 * Q - a) : Int) := ⟨_, rfl⟩
  obtain ⟨Q', hQ'⟩ : ∃ Q : Int, Q = (((q + 7) / 8 : Nat) : Int) := ⟨_, rfl⟩
  obtain ⟨Y', hY'⟩ : ∃ Y : Int, Y = ((8 * ((q + 7) / 8) - q : Nat) : Int) := ⟨_, rfl⟩
  obtain ⟨y', hy'⟩ : ∃ y : Int, y = (rdN s q (8 * ((q + 7) / 8) - q) : Int) := ⟨_, rfl⟩
  rw [← hX, ← hv] at HO HP HL
  rw [← hX, ← hv, ← hQ', ← hY', ← hy']
  rw [← hY, ← hy] at HP
  rw [← hQ', ← hY', ← hy'] at HS
  clear hX hv hY hy hQ' hY' hy'
  obtain ⟨RR, hR⟩ : ∃ R, R = (if er = 0 then Value.tuple #[.agg #[.string s, .int .i64 Q', .int .i64 y', .int .i64 Y'], .int .i64 n, .int .i64 0] else .tuple #[.agg #[.string s, .int .i64 P, .int .i64 v, .int .i64 X], .int .i64 0, .int .i64 er]) := ⟨_, rfl⟩
  rw [← hR]
  have HRR := Lib.hid hR; clear hR
  have HE := Lib.hid hE
  obtain ⟨N, hN⟩ : ∃ n, n = l.length := ⟨_, rfl⟩
  have hn9 := hE.1
  rw [← hN] at hcases hn9 ⊢
  have HN := Lib.hid hN; clear hN hE
  rcases hcases with hc | ⟨hl, hc⟩
  · go_enter Try.func20, Try.ntmps20
    go_wp2_with fail
    refine (HO.out _).mono ?_
    rintro e w1 ⟨rfl, hb1⟩
    obtain ⟨k0, k1⟩ := boxes_kept hb1
    obtain ⟨c0, c1, c2, c3⟩ := cells4 k0
    have K0 := Lib.hid k0; have K1 := Lib.hid k1
    have B1 := Lib.hid (below_step ((below_new w _).alloc (below_new w _).size _) hb1)
    clear hb1 k0 k1
    go_wp2_with fail
    refine (HP.out _).mono ?_
    rintro e w2 ⟨rfl, hb2⟩
    have k0 := cell_kept K0.out hb2
    have K0b := Lib.hid k0
    have K1b := Lib.hid (cell_kept K1.out hb2)
    have B2 := Lib.hid (below_up B1.out hb2 B1.out.size)
    have hlt := heap_lt k0
    clear c0 c1 c2 c3 hb2
    obtain ⟨c0, c1, c2, c3⟩ := cells4 k0
    clear k0
    go_wp2_with fail
    refine (HL.out _).mono ?_
    rintro e w3 ⟨rfl, hb3⟩
    have K0c := Lib.hid (cell_kept (heap_keep K0b.out _) hb3)
    have K1c := Lib.hid (cell_kept (heap_keep K1b.out _) hb3)
    have B3 := Lib.hid (below_up (B2.out.alloc B2.out.size _) hb3 (B2.out.alloc B2.out.size _).size)
    clear hb3
    go_wp2_with fail
    refine (HR.out _).mono ?_
    rintro e w4 ⟨rfl, hb4⟩
    have k0 := cell_kept K0c.out hb4
    have k1 := cell_kept K1c.out hb4
    have hl0 := heap_lt k0
    have hl1 := heap_lt k1
    have B4 := Lib.hid (below_up B3.out hb4 B3.out.size)
    clear c0 c1 c2 c3 hb4
    have K0d := Lib.hid k0; have K1d := Lib.hid k1
    clear k0 k1
    by_cases h0 : er = 0
    · subst h0
      obtain ⟨c0, c1, c2, c3⟩ := cells4 K0d.out
      go_wp2_with fail
      refine (HS.out _).mono ?_
      rintro e w5 ⟨rfl, hb5⟩
      have k1 := cell_kept (heap_keep K1d.out _) hb5
      obtain ⟨d0, d1, d2, d3⟩ := cells4 k1
      obtain ⟨f0, f1, f2, f3⟩ := frozen4 k1
      obtain ⟨w3', hw3, e0, e1, e2, e3, hb3⟩ := out4 s Q' y' Y' k1 (Nat.le_succ _) (below_up (B4.out.alloc B4.out.size _) hb5 (B4.out.alloc B4.out.size _).size)
      have HW := Lib.hid hw3; have HB3 := Lib.hid hb3; have E0 := Lib.hid e0; have E1 := Lib.hid e1; have E2 := Lib.hid e2; have E3 := Lib.hid e3
      clear hw3 hb3 e0 e1 e2 e3 hb5 k1
      go_wp2
      rw [← HW.out]
      have e0 := E0.out; have e1 := E1.out; have e2 := E2.out; have e3 := E3.out
      exact bodyPost_ret (v := .tuple #[.agg #[.string s, .int .i64 Q', .int .i64 y', .int .i64 Y'], .int .i64 n, .int .i64 0]) (by simp [results, Try.results20, go_sem, e0, e1, e2, e3]) rfl ⟨by rw [HRR.out]; simp, HB3.out⟩
    · have hq1 : (er != 0) = true := by rw [bne_iff_ne]; exact h0
      have H0 := Lib.hid h0; clear h0
      obtain ⟨c0, c1, c2, c3⟩ := cells4 K0d.out
      obtain ⟨d0, d1, d2, d3⟩ := cells4 K1d.out
      obtain ⟨f0, f1, f2, f3⟩ := frozen4 K1d.out
      obtain ⟨w3', hw3, e0, e1, e2, e3, hb3⟩ := out4a s (P : Int) v X K1d.out (Nat.le_succ _) B4.out (.cells #[.string s, .int .i64 q] 35)
      have HW := Lib.hid hw3; have HB3 := Lib.hid hb3; have E0 := Lib.hid e0; have E1 := Lib.hid e1; have E2 := Lib.hid e2; have E3 := Lib.hid e3
      clear hw3 hb3 e0 e1 e2 e3
      go_wp2
      rw [← HW.out]
      have e0 := E0.out; have e1 := E1.out; have e2 := E2.out; have e3 := E3.out
      exact bodyPost_ret (v := .tuple #[.agg #[.string s, .int .i64 P, .int .i64 v, .int .i64 X], .int .i64 0, .int .i64 er]) (by simp [results, Try.results20, go_sem, e0, e1, e2, e3]) rfl ⟨by rw [HRR.out, if_neg H0.out], HB3.out⟩
  · subst hl
    obtain ⟨b, off, rfl, hbb, hct⟩ := HE.out.at x (by rw [← HN.out]; exact hx2)
    obtain ⟨z, hz⟩ : ∃ z, z = (entAt l x).1 := ⟨_, rfl⟩
    have ct0 := (hct x (by rw [← HN.out]; exact hx2)).1
    rw [← hz] at hc ct0
    have LI := Lib.hid (l1In_any z 1 9)
    rw [hc] at LI
    have CT := Lib.hid ct0; clear ct0 hct hz hc
    have hxi : (x : Int) < 512 := by omega
    have hx0 : (0 : Int) ≤ (x : Int) := by omega
    go_enter Try.func20, Try.ntmps20
    go_wp2_with fail
    refine (HO.out _).mono ?_
    rintro e w1 ⟨rfl, hb1⟩
    obtain ⟨k0, k1⟩ := boxes_kept hb1
    obtain ⟨c0, c1, c2, c3⟩ := cells4 k0
    have K0 := Lib.hid k0; have K1 := Lib.hid k1
    have B1 := Lib.hid (below_step ((below_new w _).alloc (below_new w _).size _) hb1)
    clear hb1 k0 k1
    go_wp2_with fail
    refine (HP.out _).mono ?_
    rintro e w2 ⟨rfl, hb2⟩
    have k0 := cell_kept K0.out hb2
    have K0b := Lib.hid k0
    have K1b := Lib.hid (cell_kept K1.out hb2)
    have B2 := Lib.hid (below_up B1.out hb2 B1.out.size)
    have hlt := heap_lt k0
    clear c0 c1 c2 c3 hb2
    obtain ⟨c0, c1, c2, c3⟩ := cells4 k0
    clear k0
    have ct : w2.cell? ⟨b, off + x * 2, none⟩ = some (.int .i64 z) := by rw [B2.out.cell (p := ⟨b, off + x * 2, none⟩) hbb]; exact CT.out
    have hlb : b < w2.heap.size := Nat.lt_of_lt_of_le hbb B2.out.size
    go_wp2_with fail
    refine (LI.out _).mono ?_
    rintro e w' ⟨rfl, rfl⟩
    go_wp2_with fail
    refine (HL.out _).mono ?_
    rintro e w3 ⟨rfl, hb3⟩
    have K0c := Lib.hid (cell_kept (heap_keep K0b.out _) hb3)
    have K1c := Lib.hid (cell_kept (heap_keep K1b.out _) hb3)
    have B3 := Lib.hid (below_up (B2.out.alloc B2.out.size _) hb3 (B2.out.alloc B2.out.size _).size)
    clear hb3
    go_wp2_with fail
    refine (HR.out _).mono ?_
    rintro e w4 ⟨rfl, hb4⟩
    have k0 := cell_kept K0c.out hb4
    have k1 := cell_kept K1c.out hb4
    have hl0 := heap_lt k0
    have hl1 := heap_lt k1
    have B4 := Lib.hid (below_up B3.out hb4 B3.out.size)
    clear c0 c1 c2 c3 hb4
    have K0d := Lib.hid k0; have K1d := Lib.hid k1
    clear k0 k1
    by_cases h0 : er = 0
    · subst h0
      obtain ⟨c0, c1, c2, c3⟩ := cells4 K0d.out
      go_wp2_with fail
      refine (HS.out _).mono ?_
      rintro e w5 ⟨rfl, hb5⟩
      have k1 := cell_kept (heap_keep K1d.out _) hb5
      obtain ⟨d0, d1, d2, d3⟩ := cells4 k1
      obtain ⟨f0, f1, f2, f3⟩ := frozen4 k1
      obtain ⟨w3', hw3, e0, e1, e2, e3, hb3⟩ := out4 s Q' y' Y' k1 (Nat.le_succ _) (below_up (B4.out.alloc B4.out.size _) hb5 (B4.out.alloc B4.out.size _).size)
      have HW := Lib.hid hw3; have HB3 := Lib.hid hb3; have E0 := Lib.hid e0; have E1 := Lib.hid e1; have E2 := Lib.hid e2; have E3 := Lib.hid e3
      clear hw3 hb3 e0 e1 e2 e3 hb5 k1
      go_wp2
      rw [← HW.out]
      have e0 := E0.out; have e1 := E1.out; have e2 := E2.out; have e3 := E3.out
      exact bodyPost_ret (v := .tuple #[.agg #[.string s, .int .i64 Q', .int .i64 y', .int .i64 Y'], .int .i64 n, .int .i64 0]) (by simp [results, Try.results20, go_sem, e0, e1, e2, e3]) rfl ⟨by rw [HRR.out]; simp, HB3.out⟩
    · have hq1 : (er != 0) = true := by rw [bne_iff_ne]; exact h0
      have H0 := Lib.hid h0; clear h0
      obtain ⟨c0, c1, c2, c3⟩ := cells4 K0d.out
      obtain ⟨d0, d1, d2, d3⟩ := cells4 K1d.out
      obtain ⟨f0, f1, f2, f3⟩ := frozen4 K1d.out
      obtain ⟨w3', hw3, e0, e1, e2, e3, hb3⟩ := out4a s (P : Int) v X K1d.out (Nat.le_succ _) B4.out (.cells #[.string s, .int .i64 q] 35)
      have HW := Lib.hid hw3; have HB3 := Lib.hid hb3; have E0 := Lib.hid e0; have E1 := Lib.hid e1; have E2 := Lib.hid e2; have E3 := Lib.hid e3
      clear hw3 hb3 e0 e1 e2 e3
      go_wp2
      rw [← HW.out]
      have e0 := E0.out; have e1 := E1.out; have e2 := E2.out; have e3 := E3.out
      exact bodyPost_ret (v := .tuple #[.agg #[.string s, .int .i64 P, .int .i64 v, .int .i64 X], .int .i64 0, .int .i64 er]) (by simp [results, Try.results20, go_sem, e0, e1, e2, e3]) rfl ⟨by rw [HRR.out, if_neg H0.out], HB3.out⟩
end Go.Proofs.Ytgacldhpohnpaaa
