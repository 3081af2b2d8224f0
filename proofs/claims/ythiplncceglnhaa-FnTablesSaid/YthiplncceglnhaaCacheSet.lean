/-
  Contracts of PlaceIn and Settle, in both texts, and of the model's cache at a place. Condition: the string is no longer than 1048576 bytes (the laws ask no more).
-/
import Derived.Test.YthiplncceglnhaaCacheFill
namespace Go.Proofs.Ythiplncceglnhaa
open Go.RowKit
set_option linter.unusedVariables false

/-- A block of the call's own, behind a call. -/
theorem box_kept {w w' : World} {cs : Array Value} {T : TypeId} (hb : Below (w.alloc (.cells cs T)).heap.size (w.alloc (.cells cs T)) w') : w'.heap[w.heap.size]? = some (.cells cs T (0, 0)) := cell_kept (heap_alloc_new w _) hb

set_option maxRecDepth 100000 in
set_option maxHeartbeats 800000 in
theorem impl_placein_out (s : ByteArray) (p wd h : Int) (hs : s.size ≤ 1048576) (hno : ckOk s p wd h = false) (w : World) :
    Calls Try.prog 17 #[cv s p wd h] w fun e w' => e = .returned (.int .i64 (-1)) ∧ Below w.heap.size w w' := by
  have HO := Lib.hid (impl_cacheok_any s p wd h hs)
  rw [hno] at HO
  clear hno
  unfold cv at *
  go_enter Try.func17, Try.ntmps17
  go_wp2_with fail
  refine (HO.out _).mono ?_
  rintro e w1 ⟨rfl, hb1⟩
  have B := Lib.hid (below_step (below_new w _) hb1); clear hb1
  go_wp2
  go_ret
  exact ⟨rfl, B.out⟩
set_option maxRecDepth 100000 in
set_option maxHeartbeats 800000 in
theorem impl_placein_in (s : ByteArray) (a P : Nat) (hs : s.size ≤ 1048576) (hA : At s a P) (w : World) :
    Calls Try.prog 17 #[cw s a P] w fun e w' => e = .returned (.int .i64 (a : Int)) ∧ Below w.heap.size w w' := by
  have HO := Lib.hid (impl_cacheok_any s (P : Int) (rdN s a (8 * P - a) : Int) ((8 * P - a : Nat) : Int) hs)
  rw [ckOk_of s a P hA] at HO
  obtain ⟨b1, b2, b3⟩ := hA
  unfold cw
  have HX : Hid (8 * (P : Int) - ((8 * P - a : Nat) : Int) = (a : Int)) := Lib.hid (by omega)
  obtain ⟨X, hX⟩ : ∃ X, X = 8 * P - a := ⟨_, rfl⟩
  rw [← hX] at HO b3 HX ⊢
  clear hX
  unfold cv at *
  go_enter Try.func17, Try.ntmps17
  go_wp2_with fail
  refine (HO.out _).mono ?_
  rintro e w1 ⟨rfl, hb1⟩
  obtain ⟨c0, c1, c2, c3⟩ := cells4 (box_kept hb1)
  have B := Lib.hid (below_step (below_new w _) hb1); clear hb1
  go_wp2
  go_ret
  first | exact ⟨rfl, B.out⟩ | exact ⟨by rw [HX.out]; rfl, B.out⟩

set_option maxRecDepth 100000 in
set_option maxHeartbeats 800000 in
theorem impl_settle_in (s : ByteArray) (a P : Nat) (hs : s.size ≤ 1048576) (hA : At s a P) (w : World) :
    Calls Try.prog 39 #[cw s a P] w fun e w' => e = .returned (cw s a ((a + 7) / 8)) ∧ Below w.heap.size w w' := by
  have HO := Lib.hid (impl_cacheok_any s (P : Int) (rdN s a (8 * P - a) : Int) ((8 * P - a : Nat) : Int) hs)
  rw [ckOk_of s a P hA] at HO
  obtain ⟨b1, b2, b3⟩ := hA
  unfold cw
  obtain ⟨X, hX⟩ : ∃ X, X = 8 * P - a := ⟨_, rfl⟩
  obtain ⟨v, hv⟩ : ∃ v, v = rdN s a X := ⟨_, rfl⟩
  have hv9 : v < 2 ^ 56 := by rw [hv]; exact rdN_lt' s a X 56 (by omega)
  have hq1 : (((a + 7) / 8 : Nat) : Int) = (P : Int) - (X : Int) / 8 := by omega
  have hq2 : ((8 * ((a + 7) / 8) - a : Nat) : Int) = (X : Int) - 8 * ((X : Int) / 8) := by omega
  have hcut := rdN_cut s a (8 * ((a + 7) / 8) - a) X (by omega)
  rw [show X - (8 * ((a + 7) / 8) - a) = 8 * (X / 8) by omega, ← hv] at hcut
  rw [← hX, ← hv] at HO
  have HQ1 := Lib.hid hq1; have HQ2 := Lib.hid hq2; have HC := Lib.hid hcut; have HXV := Lib.hid (And.intro hX hv)
  have x9 : X ≤ 56 := by omega
  have x8 : X ≤ 8 * P := by omega
  clear hX hv hq1 hq2 hcut b2 b3
  unfold cv at *
  go_enter Try.func39, Try.ntmps39
  go_wp2_with fail
  rw [← HXV.out.1, ← HXV.out.2]
  refine (HO.out _).mono ?_
  rintro e w1 ⟨rfl, hb1⟩
  obtain ⟨k0, k1⟩ := boxes_kept hb1
  obtain ⟨c0, c1, c2, c3⟩ := cells4 k0
  obtain ⟨f0, f1, f2, f3⟩ := frozen4 k0
  obtain ⟨d0, d1, d2, d3⟩ := cells4 k1
  obtain ⟨g0, g1, g2, g3⟩ := frozen4 k1
  have K0 := Lib.hid k0; have K1 := Lib.hid k1
  have B1 := Lib.hid (below_step ((below_new w _).alloc (below_new w _).size _) hb1)
  clear hb1 k0 k1
  go_wp2
  have hne : w.heap.size + 1 ≠ w.heap.size := by omega
  have hin : (((w1.setCell ⟨w.heap.size, 1, none⟩ (.int .i64 ((P : Int) - (X : Int) / 8))).setCell ⟨w.heap.size, 2, none⟩ (.int .i64 ((v : Int) / 2 ^ (8 * (X / 8))))).setCell ⟨w.heap.size, 3, none⟩ (.int .i64 ((X : Int) - 8 * ((X : Int) / 8)))).heap[w.heap.size + 1]? = some (.cells #[.string ⟨#[]⟩, .int .i64 0, .int .i64 0, .int .i64 0] 25 (0, 0)) := by
    rw [heap_setCell_other _ _ _ _ hne, heap_setCell_other _ _ _ _ hne, heap_setCell_other _ _ _ _ hne]; exact K1.out
  have hb3 : Below w.heap.size w (((w1.setCell ⟨w.heap.size, 1, none⟩ (.int .i64 ((P : Int) - (X : Int) / 8))).setCell ⟨w.heap.size, 2, none⟩ (.int .i64 ((v : Int) / 2 ^ (8 * (X / 8))))).setCell ⟨w.heap.size, 3, none⟩ (.int .i64 ((X : Int) - 8 * ((X : Int) / 8)))) :=
    Below.setCell (Below.setCell (Below.setCell B1.out (p := ⟨w.heap.size, 1, none⟩) (Nat.le_refl _) _) (p := ⟨w.heap.size, 2, none⟩) (Nat.le_refl _) _) (p := ⟨w.heap.size, 3, none⟩) (Nat.le_refl _) _
  obtain ⟨w3, hw3, e0, e1, e2, e3, hb4⟩ := out4 s ((P : Int) - (X : Int) / 8) ((v : Int) / 2 ^ (8 * (X / 8))) ((X : Int) - 8 * ((X : Int) / 8)) hin (Nat.le_succ _) hb3
  rw [← hw3]
  clear hw3
  exact bodyPost_ret (v := .agg #[.string s, .int .i64 ((P : Int) - (X : Int) / 8), .int .i64 ((v : Int) / 2 ^ (8 * (X / 8))), .int .i64 ((X : Int) - 8 * ((X : Int) / 8))]) (by simp [results, Try.results39, go_sem, e0, e1, e2, e3]) rfl ⟨by rw [HQ1.out, HQ2.out, ← HC.out]; norm_cast, hb4⟩
set_option maxRecDepth 100000 in
set_option maxHeartbeats 800000 in
theorem impl_settle_out (s : ByteArray) (p wd h : Int) (hs : s.size ≤ 1048576) (hno : ckOk s p wd h = false) (w : World) :
    Calls Try.prog 39 #[cv s p wd h] w fun e w' => e = .returned (cv s p wd h) ∧ Below w.heap.size w w' := by
  have HO := Lib.hid (impl_cacheok_any s p wd h hs)
  rw [hno] at HO
  clear hno
  unfold cv at *
  go_enter Try.func39, Try.ntmps39
  go_wp2_with fail
  refine (HO.out _).mono ?_
  rintro e w1 ⟨rfl, hb1⟩
  obtain ⟨k0, k1⟩ := boxes_kept hb1
  obtain ⟨c0, c1, c2, c3⟩ := cells4 k0
  obtain ⟨f0, f1, f2, f3⟩ := frozen4 k1
  obtain ⟨d0, d1, d2, d3⟩ := cells4 k1
  obtain ⟨w3, hw3, e0, e1, e2, e3, hb3⟩ := out4 s p wd h k1 (Nat.le_succ _) (below_step ((below_new w _).alloc (below_new w _).size _) hb1)
  have HW := Lib.hid hw3; have HB := Lib.hid hb3; have E0 := Lib.hid e0; have E1 := Lib.hid e1; have E2 := Lib.hid e2; have E3 := Lib.hid e3
  clear hw3 hb3 e0 e1 e2 e3 hb1 k0 k1
  go_wp2
  rw [← HW.out]
  have e0 := E0.out; have e1 := E1.out; have e2 := E2.out; have e3 := E3.out
  exact bodyPost_ret (v := .agg #[.string s, .int .i64 p, .int .i64 wd, .int .i64 h]) (by simp [results, Try.results39, go_sem, e0, e1, e2, e3]) rfl ⟨rfl, HB.out⟩

set_option maxRecDepth 100000 in
set_option maxHeartbeats 800000 in
theorem spec_placein_out (s : ByteArray) (p wd h : Int) (hs : s.size ≤ 1048576) (hno : ckOk s p wd h = false) (w : World) :
    Calls Try.prog 16 #[cv s p wd h] w fun e w' => e = .returned (.int .i64 (-1)) ∧ Below w.heap.size w w' := by
  have HO := Lib.hid (spec_cacheok_any s p wd h hs)
  rw [hno] at HO
  clear hno
  unfold cv at *
  go_enter Try.func16, Try.ntmps16
  go_wp2_with fail
  refine (HO.out _).mono ?_
  rintro e w1 ⟨rfl, hb1⟩
  have B := Lib.hid (below_step (below_new w _) hb1); clear hb1
  go_wp2
  go_ret
  exact ⟨rfl, B.out⟩
set_option maxRecDepth 100000 in
set_option maxHeartbeats 800000 in
theorem spec_placein_in (s : ByteArray) (a P : Nat) (hs : s.size ≤ 1048576) (hA : At s a P) (w : World) :
    Calls Try.prog 16 #[cw s a P] w fun e w' => e = .returned (.int .i64 (a : Int)) ∧ Below w.heap.size w w' := by
  have HO := Lib.hid (spec_cacheok_any s (P : Int) (rdN s a (8 * P - a) : Int) ((8 * P - a : Nat) : Int) hs)
  rw [ckOk_of s a P hA] at HO
  obtain ⟨b1, b2, b3⟩ := hA
  unfold cw
  have HX : Hid (8 * (P : Int) - ((8 * P - a : Nat) : Int) = (a : Int)) := Lib.hid (by omega)
  obtain ⟨X, hX⟩ : ∃ X, X = 8 * P - a := ⟨_, rfl⟩
  rw [← hX] at HO b3 HX ⊢
  clear hX
  unfold cv at *
  go_enter Try.func16, Try.ntmps16
  go_wp2_with fail
  refine (HO.out _).mono ?_
  rintro e w1 ⟨rfl, hb1⟩
  obtain ⟨c0, c1, c2, c3⟩ := cells4 (box_kept hb1)
  have B := Lib.hid (below_step (below_new w _) hb1); clear hb1
  go_wp2
  go_ret
  first | exact ⟨rfl, B.out⟩ | exact ⟨by rw [HX.out]; rfl, B.out⟩

set_option maxRecDepth 100000 in
set_option maxHeartbeats 800000 in
theorem spec_settle_out (s : ByteArray) (p wd h : Int) (hs : s.size ≤ 1048576) (hno : ckOk s p wd h = false) (w : World) :
    Calls Try.prog 47 #[cv s p wd h] w fun e w' => e = .returned (cv s p wd h) ∧ Below w.heap.size w w' := by
  have HO := Lib.hid (spec_cacheok_any s p wd h hs)
  rw [hno] at HO
  clear hno
  unfold cv at *
  go_enter Try.func47, Try.ntmps47
  go_wp2_with fail
  refine (HO.out _).mono ?_
  rintro e w1 ⟨rfl, hb1⟩
  obtain ⟨k0, k1⟩ := boxes_kept hb1
  obtain ⟨c0, c1, c2, c3⟩ := cells4 k0
  obtain ⟨f0, f1, f2, f3⟩ := frozen4 k1
  obtain ⟨d0, d1, d2, d3⟩ := cells4 k1
  obtain ⟨w3, hw3, e0, e1, e2, e3, hb3⟩ := out4 s p wd h k1 (Nat.le_succ _) (below_step ((below_new w _).alloc (below_new w _).size _) hb1)
  have HW := Lib.hid hw3; have HB := Lib.hid hb3; have E0 := Lib.hid e0; have E1 := Lib.hid e1; have E2 := Lib.hid e2; have E3 := Lib.hid e3
  clear hw3 hb3 e0 e1 e2 e3 hb1 k0 k1
  go_wp2
  rw [← HW.out]
  have e0 := E0.out; have e1 := E1.out; have e2 := E2.out; have e3 := E3.out
  exact bodyPost_ret (v := .agg #[.string s, .int .i64 p, .int .i64 wd, .int .i64 h]) (by simp [results, Try.results47, go_sem, e0, e1, e2, e3]) rfl ⟨rfl, HB.out⟩


/-- The word of a block written. -/
theorem upd2_block {w : World} {g : Nat} {u0 u1 u2 u3 : Value} {T : TypeId} (h : w.heap[g]? = some (.cells #[u0, u1, u2, u3] T (0, 0))) (x : Value) :
    (w.setCell ⟨g, 2, none⟩ x).drew.heap[g]? = some (.cells #[u0, u1, x, u3] T (0, 0)) := by
  show (w.setCell ⟨g, 2, none⟩ x).heap[g]? = _
  rw [heap_setCell_same w g 2 _ _ _ h]
  rfl
set_option maxRecDepth 100000 in
set_option maxHeartbeats 1000000 in
theorem l7at_any (s : ByteArray) (a : Nat) (hs : s.size ≤ 1048576) (ha : a ≤ 8 * s.size) (w : World) :
    Calls Try.prog 32 #[.string s, .int .i64 a] w fun e w' => e = .returned (cw s a ((a + 7) / 8)) ∧ Below w.heap.size w w' := by
  unfold cw cv
  obtain ⟨P, hP⟩ : ∃ P, P = (a + 7) / 8 := ⟨_, rfl⟩
  obtain ⟨X, hX⟩ : ∃ X, X = 8 * P - a := ⟨_, rfl⟩
  have hq1 : ((a : Int) + 7) / 8 = (P : Int) := by omega
  have hq2 : 8 * (P : Int) - (a : Int) = (X : Int) := by omega
  have x1 : a + X = 8 * P := by omega
  have x2 : X ≤ 7 := by omega
  have x3 : P ≤ s.size := by omega
  rw [← hP, ← hX]
  have HX1 := Lib.hid x1
  clear hX hP
  go_enter Try.func32, Try.ntmps32
  go_wp2
  clear hq1 hq2 x1
  go_loopw [6] (fun i wr => ∃ k : Nat, k ≤ X ∧ i = .int .i64 ((a : Int) + (k : Int)) ∧ wr.heap[w.heap.size + 1]? = some (.cells #[.string s, .int .i64 P, .int .i64 (rdN s a k), .int .i64 X] 25 (0, 0)) ∧
      wr.heap[w.heap.size]? = some (.cells #[.string ⟨#[]⟩, .int .i64 0, .int .i64 0, .int .i64 0] 25 (0, 0)) ∧ Below w.heap.size w wr)
    (fun i _ => 8 * P - (intOf i).toNat)
  case atStart =>
    obtain ⟨k0, k1⟩ := boxes_kept (w := w) (Below.refl _ _)
    exact ⟨0, Nat.zero_le _, by simp, k1, k0, (below_new w _).alloc (below_new w _).size _⟩
  case round =>
    obtain ⟨k, hk, rfl, k1, k0, hb⟩ := hrel
    obtain ⟨c0, c1, c2, c3⟩ := cells4 k1
    by_cases hlt : k < X
    · obtain ⟨f0, f1, f2, f3⟩ := frozen4 k1
      have HB := Lib.hid (spec_bitat_in s (a + k) hs (by have := HX1.out; omega))
      simp only [Int.natCast_add] at HB
      have hv := rdN_lt' s a k 8 (by omega)
      have hb9 := bitN_lt s (a + k)
      have hs1 : rdN s a (k + 1) = 2 * rdN s a k + bitN s (a + k) := rfl
      obtain ⟨v, hvd⟩ : ∃ v, v = rdN s a k := ⟨_, rfl⟩
      obtain ⟨b, hbd⟩ : ∃ b, b = bitN s (a + k) := ⟨_, rfl⟩
      rw [← hvd, ← hbd] at hs1
      rw [← hbd] at HB hb9
      rw [← hvd] at hv c2 k1
      have HS := Lib.hid hs1; have K0 := Lib.hid k0; have K1 := Lib.hid k1; have HB0 := Lib.hid hb
      have hnew := upd2_block k1 (.int .i64 ((v : Int) * 2 + (b : Int)))
      clear hs1 hvd hbd k0 k1 hb
      have hne : w.heap.size ≠ w.heap.size + 1 := by omega
      have hlt2 : (a : Int) + (k : Int) < 8 * (P : Int) := by have := HX1.out; omega
      go_wp2
      go_region_with (go_at_call 44; refine (HB.out _).mono ?_; rintro e w' ⟨rfl, rfl⟩)
      all_goals go_wp2
      all_goals go_roundw
      all_goals first
        | (refine ⟨k + 1, by omega, by go_num, ?_, ?_, ?_⟩
           · rw [hnew, HS.out, show ((2 * v + b : Nat) : Int) = (v : Int) * 2 + (b : Int) by omega]
           · show (wr.setCell _ _).heap[w.heap.size]? = _
             rw [heap_setCell_other _ _ _ _ hne]; exact K0.out
           · exact (Below.setCell HB0.out (p := ⟨w.heap.size + 1, 2, none⟩) (Nat.le_succ _) _).drew)
        | (simp [intOf]; omega)
    · obtain rfl : k = X := by omega
      obtain ⟨f0, f1, f2, f3⟩ := frozen4 k0
      obtain ⟨d0, d1, d2, d3⟩ := cells4 k0
      obtain ⟨v, hvd⟩ : ∃ v, v = rdN s a k := ⟨_, rfl⟩
      rw [← hvd] at c2
      have HV := Lib.hid hvd
      have HX2 : (a : Int) + (k : Int) = 8 * (P : Int) := by have := HX1.out; omega
      obtain ⟨w3, hw3, e0, e1, e2, e3, hb3⟩ := out4 s (P : Int) (v : Int) (k : Int) k0 (Nat.le_refl _) hb
      have HW := Lib.hid hw3; have HB := Lib.hid hb3; have E0 := Lib.hid e0; have E1 := Lib.hid e1; have E2 := Lib.hid e2; have E3 := Lib.hid e3
      clear hw3 hb3 e0 e1 e2 e3 hb k0 k1 hvd
      go_wp2
      rw [← HW.out]
      have e0 := E0.out; have e1 := E1.out; have e2 := E2.out; have e3 := E3.out
      exact bodyPost_ret (v := .agg #[.string s, .int .i64 P, .int .i64 v, .int .i64 k]) (by simp [results, Try.results32, go_sem, e0, e1, e2, e3]) rfl ⟨by rw [← HV.out], HB.out⟩
set_option maxRecDepth 100000 in
set_option maxHeartbeats 1000000 in
theorem spec_settle_in (s : ByteArray) (a P : Nat) (hs : s.size ≤ 1048576) (hA : At s a P) (w : World) :
    Calls Try.prog 47 #[cw s a P] w fun e w' => e = .returned (cw s a ((a + 7) / 8)) ∧ Below w.heap.size w w' := by
  have HO := Lib.hid (spec_cacheok_any s (P : Int) (rdN s a (8 * P - a) : Int) ((8 * P - a : Nat) : Int) hs)
  rw [ckOk_of s a P hA] at HO
  have HP := Lib.hid (spec_placein_in s a P hs hA)
  obtain ⟨b1, b2, b3⟩ := hA
  have HL := Lib.hid (l7at_any s a hs (by omega))
  unfold cw cv at *
  obtain ⟨X, hX⟩ : ∃ X : Int, X = ((8 * P - a : Nat) : Int) := ⟨_, rfl⟩
  obtain ⟨v, hv⟩ : ∃ v : Int, v = (rdN s a (8 * P - a) : Int) := ⟨_, rfl⟩
  obtain ⟨x, hx⟩ : ∃ x : Int, x = ((8 * ((a + 7) / 8) - a : Nat) : Int) := ⟨_, rfl⟩
  obtain ⟨y, hy⟩ : ∃ y : Int, y = (rdN s a (8 * ((a + 7) / 8) - a) : Int) := ⟨_, rfl⟩
  obtain ⟨z, hz⟩ : ∃ z : Int, z = (((a + 7) / 8 : Nat) : Int) := ⟨_, rfl⟩
  rw [← hX, ← hv] at HO HP
  rw [← hX, ← hv]
  rw [← hx, ← hy, ← hz] at HL ⊢
  clear hX hv hx hy hz b1 b2 b3
  go_enter Try.func47, Try.ntmps47
  go_wp2_with fail
  refine (HO.out _).mono ?_
  rintro e w1 ⟨rfl, hb1⟩
  obtain ⟨k0, k1⟩ := boxes_kept hb1
  have K0 := Lib.hid k0; have K1 := Lib.hid k1
  obtain ⟨c0, c1, c2, c3⟩ := cells4 k0
  have B1 := Lib.hid (below_step ((below_new w _).alloc (below_new w _).size _) hb1)
  clear hb1 k0 k1
  go_wp2
  go_region_with (first | (go_at_call 16; refine (HP.out _).mono ?_; rintro e w2 ⟨rfl, hb2⟩; obtain ⟨i0, i1, i2, i3⟩ := cells4 (@cell_kept w1.drew _ _ _ _ _ K0.out hb2)) | (go_at_call 32; refine (HL.out _).mono ?_; rintro e w3 ⟨rfl, hb3⟩; obtain ⟨d0, d1, d2, d3⟩ := cells4 (cell_kept (@cell_kept w1.drew _ _ _ _ _ K1.out hb2) hb3); obtain ⟨g0, g1, g2, g3⟩ := frozen4 (cell_kept (@cell_kept w1.drew _ _ _ _ _ K1.out hb2) hb3)))
  all_goals
    have hk1 := cell_kept (@cell_kept w1.drew _ _ _ _ _ K1.out hb2) hb3
    obtain ⟨w4, hw4, e0, e1, e2, e3, hb4⟩ := out4 s z y x hk1 (Nat.le_succ _) (below_step (below_step B1.out.drew hb2) hb3)
    rw [← hw4]
    clear hw4 hk1
    go_wp2
    exact bodyPost_ret (v := .agg #[.string s, .int .i64 z, .int .i64 y, .int .i64 x]) (by simp [results, Try.results47, go_sem, e0, e1, e2, e3]) rfl ⟨rfl, hb4⟩
end Go.Proofs.Ythiplncceglnhaa
