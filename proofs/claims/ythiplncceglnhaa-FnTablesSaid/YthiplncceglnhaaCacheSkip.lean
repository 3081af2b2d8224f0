/-
  Contracts of Skip, in both texts. Condition: the string is no longer than 1048576 bytes (the laws ask no more).
-/
import Derived.Test.YthiplncceglnhaaCachePeek
import Derived.Deep.Cut
namespace Go.Proofs.Ythiplncceglnhaa
open Go.RowKit
set_option linter.unusedVariables false

/-- What Skip answers where `Q` bytes are read behind Refill. -/
def skR (s : ByteArray) (a Q n : Nat) : Value := .tuple #[cw s (if n ≤ 8 * Q - a then a + n else a) Q, .bool (decide (n ≤ 8 * Q - a))]
theorem skR_yes (s : ByteArray) (a Q n : Nat) (h : n ≤ 8 * Q - a) : skR s a Q n = .tuple #[.agg #[.string s, .int .i64 Q, .int .i64 ((rdN s a (8 * Q - a) % 2 ^ (8 * Q - a - n) : Nat) : Int), .int .i64 ((8 * Q - a - n : Nat) : Int)], .bool true] := by
  have e : 8 * Q - (a + n) = 8 * Q - a - n := by omega
  rw [skR, if_pos h, decide_eq_true h, cw, cv, e, rdN_low s a n (8 * Q - a) h]
theorem skR_no (s : ByteArray) (a Q n : Nat) (h : 8 * Q - a < n) : skR s a Q n = .tuple #[.agg #[.string s, .int .i64 Q, .int .i64 (rdN s a (8 * Q - a)), .int .i64 ((8 * Q - a : Nat) : Int)], .bool false] := by
  have h' : ¬ n ≤ 8 * Q - a := by omega
  rw [skR, if_neg h', decide_eq_false h', cw, cv]

set_option maxRecDepth 100000 in
set_option maxHeartbeats 800000 in
theorem impl_skip_out (s : ByteArray) (p wd h n : Int) (hs : s.size ≤ 1048576) (hno : ckOk s p wd h = false ∨ ckOk s p wd h = true ∧ pkOk n = false) (w : World) :
    Calls Try.prog 38 #[cv s p wd h, .int .i64 n] w fun e w' => e = .returned (.tuple #[cv s p wd h, .bool false]) ∧ Below w.heap.size w w' := by
  have HO := Lib.hid (impl_cacheok_any s p wd h hs)
  have HK := Lib.hid (peekok_any n)
  rcases hno with hk | ⟨hk, hn⟩
  case' inr => rw [hn] at HK; clear hn
  all_goals
    rw [hk] at HO
    clear hk
    unfold cv at *
    go_enter Try.func38, Try.ntmps38
    go_wp2_with fail
    refine (HO.out _).mono ?_
    rintro e w1 ⟨rfl, hb1⟩
    obtain ⟨k0, k1⟩ := boxes_kept hb1
    obtain ⟨c0, c1, c2, c3⟩ := cells4 k0
    obtain ⟨f0, f1, f2, f3⟩ := frozen4 k1
    obtain ⟨d0, d1, d2, d3⟩ := cells4 k1
    obtain ⟨w3, hw3, e0, e1, e2, e3, hb3⟩ := out4 s p wd h k1 (Nat.le_succ _) (below_step ((below_new w _).alloc (below_new w _).size _) hb1)
    have HW := Lib.hid hw3; have HB := Lib.hid hb3; have E0 := Lib.hid e0; have E1 := Lib.hid e1; have E2 := Lib.hid e2; have E3 := Lib.hid e3
    clear hw3 hb3 e0 e1 e2 e3 hb1 k0 k1
    go_wp2_with (refine (HK.out _).mono ?_; rintro e w' ⟨rfl, rfl⟩)
    rw [← HW.out]
    have e0 := E0.out; have e1 := E1.out; have e2 := E2.out; have e3 := E3.out
    exact bodyPost_ret (v := .tuple #[.agg #[.string s, .int .i64 p, .int .i64 wd, .int .i64 h], .bool false]) (by simp [results, Try.results38, go_sem, e0, e1, e2, e3]) rfl ⟨rfl, HB.out⟩

set_option maxRecDepth 100000 in
set_option maxHeartbeats 800000 in
theorem spec_skip_out (s : ByteArray) (p wd h n : Int) (hs : s.size ≤ 1048576) (hno : ckOk s p wd h = false ∨ ckOk s p wd h = true ∧ pkOk n = false) (w : World) :
    Calls Try.prog 46 #[cv s p wd h, .int .i64 n] w fun e w' => e = .returned (.tuple #[cv s p wd h, .bool false]) ∧ Below w.heap.size w w' := by
  have HO := Lib.hid (spec_cacheok_any s p wd h hs)
  have HK := Lib.hid (l1In_any n 0 16)
  rcases hno with hk | ⟨hk, hn⟩
  case' inr => rw [show (decide (0 ≤ n) && decide (n ≤ 16)) = false from hn] at HK; clear hn
  all_goals
    rw [hk] at HO
    clear hk
    unfold cv at *
    go_enter Try.func46, Try.ntmps46
    go_wp2_with fail
    refine (HO.out _).mono ?_
    rintro e w1 ⟨rfl, hb1⟩
    obtain ⟨k0, k1⟩ := boxes_kept hb1
    obtain ⟨c0, c1, c2, c3⟩ := cells4 k0
    obtain ⟨f0, f1, f2, f3⟩ := frozen4 k1
    obtain ⟨d0, d1, d2, d3⟩ := cells4 k1
    obtain ⟨w3, hw3, e0, e1, e2, e3, hb3⟩ := out4 s p wd h k1 (Nat.le_succ _) (below_step ((below_new w _).alloc (below_new w _).size _) hb1)
    have HW := Lib.hid hw3; have HB := Lib.hid hb3; have E0 := Lib.hid e0; have E1 := Lib.hid e1; have E2 := Lib.hid e2; have E3 := Lib.hid e3
    clear hw3 hb3 e0 e1 e2 e3 hb1 k0 k1
    go_wp2_with (refine (HK.out _).mono ?_; rintro e w' ⟨rfl, rfl⟩)
    rw [← HW.out]
    have e0 := E0.out; have e1 := E1.out; have e2 := E2.out; have e3 := E3.out
    exact bodyPost_ret (v := .tuple #[.agg #[.string s, .int .i64 p, .int .i64 wd, .int .i64 h], .bool false]) (by simp [results, Try.results46, go_sem, e0, e1, e2, e3]) rfl ⟨rfl, HB.out⟩

set_option maxRecDepth 100000 in
set_option maxHeartbeats 800000 in
theorem impl_skip_in (s : ByteArray) (a P n : Nat) (hs : s.size ≤ 1048576) (hA : At s a P) (hn : n ≤ 16) (w : World) :
    Calls Try.prog 38 #[cw s a P, .int .i64 n] w fun e w' => e = .returned (skR s a (pkP s a P n) n) ∧ Below w.heap.size w w' := by
  have HO := Lib.hid (impl_cacheok_any s (P : Int) (rdN s a (8 * P - a) : Int) ((8 * P - a : Nat) : Int) hs)
  rw [ckOk_of s a P hA] at HO
  have HK := Lib.hid (peekok_any (n : Int))
  rw [show pkOk (n : Int) = true by simp [pkOk]; omega] at HK
  have HR := Lib.hid (refillfor_in s a P n hs hA)
  have hA2 := (pkP_at s a P n hA).2
  obtain ⟨Q, hQ⟩ : ∃ Q, Q = pkP s a P n := ⟨_, rfl⟩
  rw [← hQ] at hA2 HR ⊢
  have HV := Lib.hid (skR_yes s a Q n)
  have HF := Lib.hid (skR_no s a Q n)
  obtain ⟨R, hR⟩ : ∃ R, R = skR s a Q n := ⟨_, rfl⟩
  rw [← hR] at HV HF ⊢
  unfold cw cv at *
  obtain ⟨x, hx⟩ : ∃ x : Int, x = ((8 * P - a : Nat) : Int) := ⟨_, rfl⟩
  obtain ⟨v, hv⟩ : ∃ v : Int, v = (rdN s a (8 * P - a) : Int) := ⟨_, rfl⟩
  rw [← hx, ← hv] at HO HR
  rw [← hx, ← hv]
  obtain ⟨b1, b2, b3⟩ := hA2
  obtain ⟨Y, hY⟩ : ∃ Y, Y = 8 * Q - a := ⟨_, rfl⟩
  obtain ⟨y, hy⟩ : ∃ y, y = rdN s a Y := ⟨_, rfl⟩
  rw [← hY, ← hy] at HR
  rw [← hY, ← hy] at HV HF
  rw [← hY] at b3
  have y9 : y < 72057594037927936 := by rw [hy]; exact rdN_lt' s a Y 56 b3
  clear hx hv hQ hY hy hA b1 b2 hR
  go_enter Try.func38, Try.ntmps38
  go_wp2_with fail
  refine (HO.out _).mono ?_
  rintro e w1 ⟨rfl, hb1⟩
  obtain ⟨k0, k1⟩ := boxes_kept hb1
  obtain ⟨c0, c1, c2, c3⟩ := cells4 k0
  have K0 := Lib.hid k0; have K1 := Lib.hid k1
  have B1 := Lib.hid (below_step ((below_new w _).alloc (below_new w _).size _) hb1)
  clear hb1 k0 k1
  go_wp2_with fail
  refine (HK.out _).mono ?_
  rintro e w' ⟨rfl, rfl⟩
  go_wp2_with fail
  refine (HR.out _).mono ?_
  rintro e w2 ⟨rfl, hb2⟩
  clear c0 c1 c2 c3
  have k0 := cell_kept K0.out hb2
  have k1 := cell_kept K1.out hb2
  have hne : w.heap.size + 1 ≠ w.heap.size := by omega
  obtain ⟨c0, c1, c2, c3⟩ := cells4 k0
  obtain ⟨f0, f1, f2, f3⟩ := frozen4 k0
  obtain ⟨wx, hwx⟩ : ∃ wx, wx = put4 w2 w.heap.size s (Q : Int) (y : Int) (Y : Int) := ⟨_, rfl⟩
  have x0 := put4_block k0 s (Q : Int) (y : Int) (Y : Int)
  have x1 := (put4_other hne s (Q : Int) (y : Int) (Y : Int)).trans k1
  rw [← hwx] at x0 x1
  have xb : Below w.heap.size w wx := by rw [hwx]; exact put4_below (below_step B1.out hb2) w.heap.size (Nat.le_refl _) s (Q : Int) (y : Int) (Y : Int)
  have X0 := Lib.hid x0; have X1 := Lib.hid x1; have XB := Lib.hid xb; have HWX := Lib.hid hwx
  clear k0 k1 x0 x1 xb hwx hb2
  go_upto_region 4 with fail
  rw [show (((w2.setCell ⟨w.heap.size, 0, none⟩ (.string s)).setCell ⟨w.heap.size, 1, none⟩ (.int .i64 Q)).setCell ⟨w.heap.size, 2, none⟩ (.int .i64 y)).setCell ⟨w.heap.size, 3, none⟩ (.int .i64 Y) = wx from HWX.out.symm]
  clear c0 c1 c2 c3 f0 f1 f2 f3
  have k0 := X0.out
  have k1 := X1.out
  have bx := XB.out
  obtain ⟨c0, c1, c2, c3⟩ := cells4 k0
  obtain ⟨f0, f1, f2, f3⟩ := frozen4 k0
  obtain ⟨d0, d1, d2, d3⟩ := cells4 k1
  obtain ⟨g0, g1, g2, g3⟩ := frozen4 k1
  by_cases hle : n ≤ Y
  · have hge : n ≤ Y := hle
    obtain ⟨D, hD⟩ : ∃ D, D = Y - n := ⟨_, rfl⟩
    have hsub : (Y : Int) - (n : Int) = (D : Int) := by omega
    have d9 : D ≤ 56 := by omega
    obtain ⟨Z, hZ⟩ : ∃ Z, Z = y % 2 ^ D := ⟨_, rfl⟩
    have z9 : Z < 72057594037927936 := by rw [hZ]; exact Nat.lt_of_le_of_lt (Nat.mod_le _ _) y9
    have hv := HV.out hge
    rw [← hD, ← hZ] at hv
    have HV2 := Lib.hid hv
    have LB := Lib.hid (lowbits_any y D (by omega) d9)
    rw [← hZ] at LB
    clear hv hZ hD
    have hw4 : ∃ w4, w4 = ((wx).setCell ⟨w.heap.size, 3, none⟩ (.int .i64 D)).setCell ⟨w.heap.size, 2, none⟩ (.int .i64 Z) := ⟨_, rfl⟩
    have kk := k1
    have bb := bx
    have hin : (((wx).setCell ⟨w.heap.size, 3, none⟩ (.int .i64 D)).setCell ⟨w.heap.size, 2, none⟩ (.int .i64 Z)).heap[w.heap.size + 1]? = some (.cells #[.string ⟨#[]⟩, .int .i64 0, .int .i64 0, .int .i64 0] 25 (0, 0)) := by
      rw [heap_setCell_other _ _ _ _ hne, heap_setCell_other _ _ _ _ hne]; exact kk
    obtain ⟨w3, hw3, e0, e1, e2, e3, hb3⟩ := out4 s (Q : Int) (Z : Int) (D : Int) hin (Nat.le_succ _) (Below.setCell (Below.setCell bb (p := ⟨w.heap.size, 3, none⟩) (Nat.le_refl _) _) (p := ⟨w.heap.size, 2, none⟩) (Nat.le_refl _) _)
    have HW := Lib.hid hw3; have HE := Lib.hid (And.intro e0 (And.intro e1 (And.intro e2 (And.intro e3 hb3))))
    clear hw3 hb3 e0 e1 e2 e3 hw4 kk bb hin
    clear k0 k1 bx
    go_wp2_with fail
    refine (LB.out _).mono ?_
    rintro e w' ⟨rfl, rfl⟩
    go_wp2
    rw [← HW.out]
    obtain ⟨e0, e1, e2, e3, hb3⟩ := HE.out
    exact bodyPost_ret (v := .tuple #[.agg #[.string s, .int .i64 Q, .int .i64 Z, .int .i64 D], .bool true]) (by simp [results, Try.results38, go_sem, e0, e1, e2, e3]) rfl ⟨by rw [HV2.out], hb3⟩
  · have hlt : Y < n := by omega
    have hv := HF.out hlt
    have HV2 := Lib.hid hv
    obtain ⟨w3, hw3, e0, e1, e2, e3, hb3⟩ := out4 s (Q : Int) (y : Int) (Y : Int) k1 (Nat.le_succ _) bx
    have HW := Lib.hid hw3; have HE := Lib.hid (And.intro e0 (And.intro e1 (And.intro e2 (And.intro e3 hb3))))
    clear hw3 hb3 e0 e1 e2 e3 bx k0 k1 hv
    go_wp2
    rw [← HW.out]
    obtain ⟨e0, e1, e2, e3, hb3⟩ := HE.out
    exact bodyPost_ret (v := .tuple #[.agg #[.string s, .int .i64 Q, .int .i64 y, .int .i64 Y], .bool false]) (by simp [results, Try.results38, go_sem, e0, e1, e2, e3]) rfl ⟨by rw [HV2.out], hb3⟩

set_option maxRecDepth 100000 in
set_option maxHeartbeats 800000 in
theorem spec_skip_in1 (s : ByteArray) (a P n : Nat) (hs : s.size ≤ 1048576) (hA : At s a P) (hn : n ≤ 16) (hXn : 8 * P - a < n) (w : World) :
    Calls Try.prog 46 #[cw s a P, .int .i64 n] w fun e w' => e = .returned (skR s a (pkP s a P n) n) ∧ Below w.heap.size w w' := by
  have HO := Lib.hid (spec_cacheok_any s (P : Int) (rdN s a (8 * P - a) : Int) ((8 * P - a : Nat) : Int) hs)
  rw [ckOk_of s a P hA] at HO
  have HK := Lib.hid (l1In_any (n : Int) 0 16)
  rw [show (decide (0 ≤ (n : Int)) && decide ((n : Int) ≤ 16)) = true by simp; omega] at HK
  have HR := Lib.hid (spec_refill_in s a P hs hA)
  rw [show rfP s a P = pkP s a P n by rw [pkP, if_pos hXn]] at HR
  have hA2 := (pkP_at s a P n hA).2
  obtain ⟨Q, hQ⟩ : ∃ Q, Q = pkP s a P n := ⟨_, rfl⟩
  rw [← hQ] at hA2 HR ⊢
  have HV := Lib.hid (skR_yes s a Q n)
  have HF := Lib.hid (skR_no s a Q n)
  obtain ⟨R, hR⟩ : ∃ R, R = skR s a Q n := ⟨_, rfl⟩
  rw [← hR] at HV HF ⊢
  unfold cw cv at *
  obtain ⟨x, hx⟩ : ∃ x : Int, x = ((8 * P - a : Nat) : Int) := ⟨_, rfl⟩
  obtain ⟨v, hv⟩ : ∃ v : Int, v = (rdN s a (8 * P - a) : Int) := ⟨_, rfl⟩
  rw [← hx, ← hv] at HO HR
  rw [← hx, ← hv]
  have hxn : x < (n : Int) := by omega
  obtain ⟨b1, b2, b3⟩ := hA2
  obtain ⟨Y, hY⟩ : ∃ Y, Y = 8 * Q - a := ⟨_, rfl⟩
  obtain ⟨y, hy⟩ : ∃ y, y = rdN s a Y := ⟨_, rfl⟩
  rw [← hY, ← hy] at HR
  rw [← hY, ← hy] at HV HF
  rw [← hY] at b3
  have y9 : y < 72057594037927936 := by rw [hy]; exact rdN_lt' s a Y 56 b3
  clear hx hv hQ hY hy hA b1 b2 hR hXn
  go_enter Try.func46, Try.ntmps46
  go_wp2_with fail
  refine (HO.out _).mono ?_
  rintro e w1 ⟨rfl, hb1⟩
  obtain ⟨k0, k1⟩ := boxes_kept hb1
  obtain ⟨c0, c1, c2, c3⟩ := cells4 k0
  have K0 := Lib.hid k0; have K1 := Lib.hid k1
  have B1 := Lib.hid (below_step ((below_new w _).alloc (below_new w _).size _) hb1)
  clear hb1 k0 k1
  go_wp2_with fail
  refine (HK.out _).mono ?_
  rintro e w' ⟨rfl, rfl⟩
  go_wp2_with fail
  refine (HR.out _).mono ?_
  rintro e w2 ⟨rfl, hb2⟩
  clear c0 c1 c2 c3
  have k0 := cell_kept K0.out hb2
  have k1 := cell_kept K1.out hb2
  have hne : w.heap.size + 1 ≠ w.heap.size := by omega
  obtain ⟨c0, c1, c2, c3⟩ := cells4 k0
  obtain ⟨f0, f1, f2, f3⟩ := frozen4 k0
  obtain ⟨wx, hwx⟩ : ∃ wx, wx = put4 w2 w.heap.size s (Q : Int) (y : Int) (Y : Int) := ⟨_, rfl⟩
  have x0 := put4_block k0 s (Q : Int) (y : Int) (Y : Int)
  have x1 := (put4_other hne s (Q : Int) (y : Int) (Y : Int)).trans k1
  rw [← hwx] at x0 x1
  have xb : Below w.heap.size w wx := by rw [hwx]; exact put4_below (below_step B1.out hb2) w.heap.size (Nat.le_refl _) s (Q : Int) (y : Int) (Y : Int)
  have X0 := Lib.hid x0; have X1 := Lib.hid x1; have XB := Lib.hid xb; have HWX := Lib.hid hwx
  clear k0 k1 x0 x1 xb hwx hb2
  go_upto_region 5 with fail
  rw [show (((w2.setCell ⟨w.heap.size, 0, none⟩ (.string s)).setCell ⟨w.heap.size, 1, none⟩ (.int .i64 Q)).setCell ⟨w.heap.size, 2, none⟩ (.int .i64 y)).setCell ⟨w.heap.size, 3, none⟩ (.int .i64 Y) = wx from HWX.out.symm]
  clear c0 c1 c2 c3 f0 f1 f2 f3
  have k0 := X0.out
  have k1 := X1.out
  have bx := XB.out
  obtain ⟨c0, c1, c2, c3⟩ := cells4 k0
  obtain ⟨f0, f1, f2, f3⟩ := frozen4 k0
  obtain ⟨d0, d1, d2, d3⟩ := cells4 k1
  obtain ⟨g0, g1, g2, g3⟩ := frozen4 k1
  by_cases hle : n ≤ Y
  · have hge : n ≤ Y := hle
    obtain ⟨D, hD⟩ : ∃ D, D = Y - n := ⟨_, rfl⟩
    have hsub : (Y : Int) - (n : Int) = (D : Int) := by omega
    have d9 : D ≤ 56 := by omega
    obtain ⟨Z, hZ⟩ : ∃ Z, Z = y % 2 ^ D := ⟨_, rfl⟩
    have z9 : Z < 72057594037927936 := by rw [hZ]; exact Nat.lt_of_le_of_lt (Nat.mod_le _ _) y9
    have hv := HV.out hge
    rw [← hD, ← hZ] at hv
    have HV2 := Lib.hid hv
    have hm := mask_n y D (by omega) d9
    rw [← hZ] at hm
    obtain ⟨p1, p2⟩ := pow_le56 D d9
    obtain ⟨p, hp⟩ : ∃ p : Int, p = 2 ^ D := ⟨_, rfl⟩
    have h1 : wrap64 (2 ^ D) = p := by rw [← hp]; unfold wrap64; omega
    rw [← hp] at hm p1 p2
    clear hp
    clear hv hZ hD
    have hw4 : ∃ w4, w4 = ((wx).setCell ⟨w.heap.size, 3, none⟩ (.int .i64 D)).setCell ⟨w.heap.size, 2, none⟩ (.int .i64 Z) := ⟨_, rfl⟩
    have kk := k1
    have bb := bx
    have hin : (((wx).setCell ⟨w.heap.size, 3, none⟩ (.int .i64 D)).setCell ⟨w.heap.size, 2, none⟩ (.int .i64 Z)).heap[w.heap.size + 1]? = some (.cells #[.string ⟨#[]⟩, .int .i64 0, .int .i64 0, .int .i64 0] 25 (0, 0)) := by
      rw [heap_setCell_other _ _ _ _ hne, heap_setCell_other _ _ _ _ hne]; exact kk
    obtain ⟨w3, hw3, e0, e1, e2, e3, hb3⟩ := out4 s (Q : Int) (Z : Int) (D : Int) hin (Nat.le_succ _) (Below.setCell (Below.setCell bb (p := ⟨w.heap.size, 3, none⟩) (Nat.le_refl _) _) (p := ⟨w.heap.size, 2, none⟩) (Nat.le_refl _) _)
    have HW := Lib.hid hw3; have HE := Lib.hid (cells_drew ⟨e0, e1, e2, e3, hb3⟩)
    clear hw3 hb3 e0 e1 e2 e3 hw4 kk bb hin
    clear k0 k1 bx
    go_wp2
    go_region
    go_wp2
    rw [← HW.out]
    obtain ⟨e0, e1, e2, e3, hb3⟩ := HE.out
    exact bodyPost_ret (v := .tuple #[.agg #[.string s, .int .i64 Q, .int .i64 Z, .int .i64 D], .bool true]) (by simp [results, Try.results46, go_sem, e0, e1, e2, e3]) rfl ⟨by rw [HV2.out], hb3⟩
  · have hlt : Y < n := by omega
    have hv := HF.out hlt
    have HV2 := Lib.hid hv
    obtain ⟨w3, hw3, e0, e1, e2, e3, hb3⟩ := out4 s (Q : Int) (y : Int) (Y : Int) k1 (Nat.le_succ _) bx
    have HW := Lib.hid hw3; have HE := Lib.hid (And.intro e0 (And.intro e1 (And.intro e2 (And.intro e3 hb3))))
    clear hw3 hb3 e0 e1 e2 e3 bx k0 k1 hv
    go_wp2
    rw [← HW.out]
    obtain ⟨e0, e1, e2, e3, hb3⟩ := HE.out
    exact bodyPost_ret (v := .tuple #[.agg #[.string s, .int .i64 Q, .int .i64 y, .int .i64 Y], .bool false]) (by simp [results, Try.results46, go_sem, e0, e1, e2, e3]) rfl ⟨by rw [HV2.out], hb3⟩

set_option maxRecDepth 100000 in
set_option maxHeartbeats 800000 in
theorem spec_skip_in2 (s : ByteArray) (a P n : Nat) (hs : s.size ≤ 1048576) (hA : At s a P) (hn : n ≤ 16) (hXn : ¬ 8 * P - a < n) (w : World) :
    Calls Try.prog 46 #[cw s a P, .int .i64 n] w fun e w' => e = .returned (skR s a (pkP s a P n) n) ∧ Below w.heap.size w w' := by
  have HO := Lib.hid (spec_cacheok_any s (P : Int) (rdN s a (8 * P - a) : Int) ((8 * P - a : Nat) : Int) hs)
  rw [ckOk_of s a P hA] at HO
  have HK := Lib.hid (l1In_any (n : Int) 0 16)
  rw [show (decide (0 ≤ (n : Int)) && decide ((n : Int) ≤ 16)) = true by simp; omega] at HK
  rw [show pkP s a P n = P by rw [pkP, if_neg hXn]]
  have HV := Lib.hid (skR_yes s a P n)
  have HF := Lib.hid (skR_no s a P n)
  obtain ⟨R, hR⟩ : ∃ R, R = skR s a P n := ⟨_, rfl⟩
  rw [← hR] at HV HF ⊢
  unfold cw cv at *
  obtain ⟨b1, b2, b3⟩ := hA
  obtain ⟨Y, hY⟩ : ∃ Y, Y = 8 * P - a := ⟨_, rfl⟩
  obtain ⟨y, hy⟩ : ∃ y, y = rdN s a Y := ⟨_, rfl⟩
  rw [← hY, ← hy] at HV HF HO
  rw [← hY, ← hy]
  rw [← hY] at b3 hXn
  have y9 : y < 72057594037927936 := by rw [hy]; exact rdN_lt' s a Y 56 b3
  have hle : n ≤ Y := by omega
  clear hY hy b1 b2 hR hXn HF
  go_enter Try.func46, Try.ntmps46
  go_wp2_with fail
  refine (HO.out _).mono ?_
  rintro e w1 ⟨rfl, hb1⟩
  obtain ⟨k0, k1⟩ := boxes_kept hb1
  obtain ⟨c0, c1, c2, c3⟩ := cells4 k0
  obtain ⟨f0, f1, f2, f3⟩ := frozen4 k0
  obtain ⟨d0, d1, d2, d3⟩ := cells4 k1
  obtain ⟨g0, g1, g2, g3⟩ := frozen4 k1
  have hne : w.heap.size + 1 ≠ w.heap.size := by omega
  have hge : n ≤ Y := hle
  obtain ⟨D, hD⟩ : ∃ D, D = Y - n := ⟨_, rfl⟩
  have hsub : (Y : Int) - (n : Int) = (D : Int) := by omega
  have d9 : D ≤ 56 := by omega
  obtain ⟨Z, hZ⟩ : ∃ Z, Z = y % 2 ^ D := ⟨_, rfl⟩
  have z9 : Z < 72057594037927936 := by rw [hZ]; exact Nat.lt_of_le_of_lt (Nat.mod_le _ _) y9
  have hv := HV.out hge
  rw [← hD, ← hZ] at hv
  have HV2 := Lib.hid hv
  have hm := mask_n y D (by omega) d9
  rw [← hZ] at hm
  obtain ⟨p1, p2⟩ := pow_le56 D d9
  obtain ⟨p, hp⟩ : ∃ p : Int, p = 2 ^ D := ⟨_, rfl⟩
  have h1 : wrap64 (2 ^ D) = p := by rw [← hp]; unfold wrap64; omega
  rw [← hp] at hm p1 p2
  clear hp
  clear hv hZ hD
  have hw4 : ∃ w4, w4 = ((w1).setCell ⟨w.heap.size, 3, none⟩ (.int .i64 D)).setCell ⟨w.heap.size, 2, none⟩ (.int .i64 Z) := ⟨_, rfl⟩
  have kk := k1
  have bb := (below_step ((below_new w _).alloc (below_new w _).size _) hb1)
  have hin : (((w1).setCell ⟨w.heap.size, 3, none⟩ (.int .i64 D)).setCell ⟨w.heap.size, 2, none⟩ (.int .i64 Z)).heap[w.heap.size + 1]? = some (.cells #[.string ⟨#[]⟩, .int .i64 0, .int .i64 0, .int .i64 0] 25 (0, 0)) := by
    rw [heap_setCell_other _ _ _ _ hne, heap_setCell_other _ _ _ _ hne]; exact kk
  obtain ⟨w3, hw3, e0, e1, e2, e3, hb3⟩ := out4 s (P : Int) (Z : Int) (D : Int) hin (Nat.le_succ _) (Below.setCell (Below.setCell bb (p := ⟨w.heap.size, 3, none⟩) (Nat.le_refl _) _) (p := ⟨w.heap.size, 2, none⟩) (Nat.le_refl _) _)
  have HW := Lib.hid hw3; have HE := Lib.hid (cells_drew ⟨e0, e1, e2, e3, hb3⟩)
  clear hw3 hb3 e0 e1 e2 e3 hw4 kk bb hin
  clear k0 k1 hb1
  go_wp2_with fail
  refine (HK.out _).mono ?_
  rintro e w' ⟨rfl, rfl⟩
  go_wp2
  go_region
  go_wp2
  rw [← HW.out]
  obtain ⟨e0, e1, e2, e3, hb3⟩ := HE.out
  exact bodyPost_ret (v := .tuple #[.agg #[.string s, .int .i64 P, .int .i64 Z, .int .i64 D], .bool true]) (by simp [results, Try.results46, go_sem, e0, e1, e2, e3]) rfl ⟨by rw [HV2.out], hb3⟩

theorem spec_skip_in (s : ByteArray) (a P n : Nat) (hs : s.size ≤ 1048576) (hA : At s a P) (hn : n ≤ 16) (w : World) :
    Calls Try.prog 46 #[cw s a P, .int .i64 n] w fun e w' => e = .returned (skR s a (pkP s a P n) n) ∧ Below w.heap.size w w' := by
  by_cases hXn : 8 * P - a < n
  · exact spec_skip_in1 s a P n hs hA hn hXn w
  · exact spec_skip_in2 s a P n hs hA hn hXn w
end Go.Proofs.Ythiplncceglnhaa
