/-
  Contracts of Peek, in both texts. Condition: the string is no longer than 1048576 bytes (the laws ask no more).
  Contracts of Skip, in both texts. Condition: the string is no longer than 1048576 bytes (the laws ask no more).
  Contracts of TakeBits and CacheNew, in both texts. Condition: the string is no longer than 1048576 bytes (the laws ask no more).
-/
import Derived.Test.YtgacldhpohnpaaaCacheA
import Derived.Deep.Cut
namespace Go.Proofs.Ytgacldhpohnpaaa
open Go.RowKit
set_option linter.unusedVariables false

/-- Is it a number of bits to peek? -/
def pkOk (n : Int) : Bool := decide (0 ≤ n) && decide (n ≤ 16)
set_option maxRecDepth 100000 in
set_option maxHeartbeats 400000 in
theorem peekok_any (n : Int) (w : World) :
    Calls Try.prog 117 #[.int .i64 n] w fun e w' => e = .returned (.bool (pkOk n)) ∧ w = w' := by
  unfold pkOk
  by_cases h0 : 0 ≤ n
  · have hge : decide (0 ≤ n) = true := by simpa using h0
    have hr : decide (n ≤ 16) = (decide (0 ≤ n) && decide (n ≤ 16)) := by simp [h0]
    rw [← hr]; clear hr
    go_enter Try.func117, Try.ntmps117
    go_wp2
    go_ret
    exact ⟨rfl, rfl⟩
  · have hge : decide (0 ≤ n) = false := by simpa using h0
    have hr : (decide (0 ≤ n) && decide (n ≤ 16)) = false := by simp [h0]
    rw [hr]; clear hr
    go_enter Try.func117, Try.ntmps117
    go_wp2
    go_ret
    exact ⟨rfl, rfl⟩

set_option maxRecDepth 100000 in
set_option maxHeartbeats 800000 in
theorem refillfor_in (s : ByteArray) (a P n : Nat) (hs : s.size ≤ 1048576) (hA : At s a P) (w : World) :
    Calls Try.prog 118 #[cw s a P, .int .i64 n] w fun e w' => e = .returned (cw s a (pkP s a P n)) ∧ Below w.heap.size w w' := by
  have HR := Lib.hid (impl_refill_in s a P hs hA)
  clear hA
  by_cases hlt : 8 * P - a < n
  · rw [pkP, if_pos hlt]
    unfold cw cv at *
    obtain ⟨X, hX⟩ : ∃ X, X = 8 * P - a := ⟨_, rfl⟩
    obtain ⟨v, hv⟩ : ∃ v : Int, v = (rdN s a (8 * P - a) : Int) := ⟨_, rfl⟩
    obtain ⟨p, hp⟩ : ∃ p : Int, p = (rfP s a P : Int) := ⟨_, rfl⟩
    obtain ⟨x, hx⟩ : ∃ x : Int, x = ((8 * rfP s a P - a : Nat) : Int) := ⟨_, rfl⟩
    obtain ⟨y, hy⟩ : ∃ y : Int, y = (rdN s a (8 * rfP s a P - a) : Int) := ⟨_, rfl⟩
    rw [← hX] at hlt
    rw [← hp, ← hx, ← hy, ← hv, ← hX] at HR ⊢
    clear hX hv hp hx hy
    go_enter Try.func118, Try.ntmps118
    go_wp2_with fail
    refine (HR.out _).mono ?_
    rintro e w1 ⟨rfl, hb1⟩
    obtain ⟨k0, k1⟩ := boxes_kept hb1
    obtain ⟨f0, f1, f2, f3⟩ := frozen4 k1
    obtain ⟨d0, d1, d2, d3⟩ := cells4 k1
    obtain ⟨w3, hw3, e0, e1, e2, e3, hb3⟩ := out4 s p y x k1 (Nat.le_succ _) (below_step ((below_new w _).alloc (below_new w _).size _) hb1)
    have HW := Lib.hid hw3; have HB := Lib.hid hb3; have E0 := Lib.hid e0; have E1 := Lib.hid e1; have E2 := Lib.hid e2; have E3 := Lib.hid e3
    clear hw3 hb3 e0 e1 e2 e3 hb1 k0 k1
    go_wp2
    rw [← HW.out]
    have e0 := E0.out; have e1 := E1.out; have e2 := E2.out; have e3 := E3.out
    exact bodyPost_ret (v := .agg #[.string s, .int .i64 p, .int .i64 y, .int .i64 x]) (by simp [results, Try.results118, go_sem, e0, e1, e2, e3]) rfl ⟨rfl, HB.out⟩
  · rw [pkP, if_neg hlt]
    unfold cw cv at *
    obtain ⟨X, hX⟩ : ∃ X, X = 8 * P - a := ⟨_, rfl⟩
    obtain ⟨v, hv⟩ : ∃ v : Int, v = (rdN s a (8 * P - a) : Int) := ⟨_, rfl⟩
    rw [← hv, ← hX]
    rw [← hX] at hlt
    clear HR hX hv
    have hge : n ≤ X := by omega
    go_enter Try.func118, Try.ntmps118
    go_wp2
    obtain ⟨e0, e1, e2, e3⟩ := cells4 (boxes_kept (w := w) (cs := #[.string s, .int .i64 P, .int .i64 v, .int .i64 X]) (ds := #[.string s, .int .i64 P, .int .i64 v, .int .i64 X]) (T := 25) (U := 25) (Below.refl _ _)).2
    exact bodyPost_ret (v := .agg #[.string s, .int .i64 P, .int .i64 v, .int .i64 X]) (by simp [results, Try.results118, go_sem, e0, e1, e2, e3]) rfl ⟨rfl, (below_new w _).alloc (below_new w _).size _⟩

/-- The end of a call that writes its cache anew and answers it out of its result's block. -/
theorem out44 {w w2 : World} {T U : TypeId} {g g' : Nat} {u v x y u' v' x' y' : Value} (s : ByteArray) (p wd k : Int) (h : w2.heap[g]? = some (.cells #[u, v, x, y] T (0, 0))) (h' : w2.heap[g']? = some (.cells #[u', v', x', y'] U (0, 0))) (hne : g' ≠ g) (hg : w.heap.size ≤ g) (hg' : w.heap.size ≤ g') (hb : Below w.heap.size w w2) :
    ∃ w3, w3 = ((((((((w2.setCell ⟨g, 0, none⟩ (.string s)).setCell ⟨g, 1, none⟩ (.int .i64 p)).setCell ⟨g, 2, none⟩ (.int .i64 wd)).setCell ⟨g, 3, none⟩ (.int .i64 k)).setCell ⟨g', 0, none⟩ (.string s)).setCell ⟨g', 1, none⟩ (.int .i64 p)).setCell ⟨g', 2, none⟩ (.int .i64 wd)).setCell ⟨g', 3, none⟩ (.int .i64 k)) ∧
      w3.cell? ⟨g', 0, none⟩ = some (.string s) ∧ w3.cell? ⟨g', 1, none⟩ = some (.int .i64 p) ∧ w3.cell? ⟨g', 2, none⟩ = some (.int .i64 wd) ∧ w3.cell? ⟨g', 3, none⟩ = some (.int .i64 k) ∧ Below w.heap.size w w3 := by
  have k1 : (put4 w2 g s p wd k).heap[g']? = some (.cells #[u', v', x', y'] U (0, 0)) := by rw [put4_other hne]; exact h'
  obtain ⟨a0, a1, a2, a3⟩ := cells4 (put4_block k1 s p wd k)
  exact ⟨_, rfl, a0, a1, a2, a3, put4_below (put4_below hb g hg s p wd k) g' hg' s p wd k⟩
theorem cells_drew {w3 : World} {a0 a1 a2 a3 : Addr} {v0 v1 v2 v3 : Value} {B : Nat} {w : World} (h : w3.cell? a0 = some v0 ∧ w3.cell? a1 = some v1 ∧ w3.cell? a2 = some v2 ∧ w3.cell? a3 = some v3 ∧ Below B w w3) :
    w3.drew.cell? a0 = some v0 ∧ w3.drew.cell? a1 = some v1 ∧ w3.drew.cell? a2 = some v2 ∧ w3.drew.cell? a3 = some v3 ∧ Below B w w3.drew := ⟨h.1, h.2.1, h.2.2.1, h.2.2.2.1, h.2.2.2.2.drew⟩

set_option maxRecDepth 100000 in
set_option maxHeartbeats 800000 in
theorem impl_peek_out (s : ByteArray) (p wd h n : Int) (hs : s.size ≤ 1048576) (hno : ckOk s p wd h = false ∨ ckOk s p wd h = true ∧ pkOk n = false) (w : World) :
    Calls Try.prog 99 #[cv s p wd h, .int .i64 n] w fun e w' => e = .returned (.tuple #[cv s p wd h, .int .i64 0]) ∧ Below w.heap.size w w' := by
  have HO := Lib.hid (impl_cacheok_any s p wd h hs)
  have HK := Lib.hid (peekok_any n)
  rcases hno with hk | ⟨hk, hn⟩
  case' inr => rw [hn] at HK; clear hn
  all_goals
    rw [hk] at HO
    clear hk
    unfold cv at *
    go_enter Try.func99, Try.ntmps99
    go_wp2_with fail
    refine (HO.out _).mono ?_
    rintro e w1 ⟨rfl, hb1⟩
    obtain ⟨k0, k1⟩ := boxes_kept hb1
    obtain ⟨c0, c1, c2, c3⟩ := cells4 k0
    obtain ⟨f0, f1, f2, f3⟩ := frozen4 k1
    obtain ⟨d0, d1, d2, d3⟩ := cells4 k1
    obtain ⟨w3, hw3, e0, e1, e2, e3, hb3⟩ := out4 s p wd h k1 (Nat.le_succ _) (below_step ((below_new w _).alloc (below_new w _).size _) hb1)
    have HW := Lib.hid hw3; have HB := Lib.hid hb3; have E0 := Lib.hid e0; have E1 := Lib.hid e1; have E2 := Lib.hid e2; have E3 := Lib.hid e3
    clear hw3 hb3 e0 e1 e2 e3 hb1 k0 k1
    go_wp2_with (refine (HK.out _).mono ?_; rintro e w' ⟨rfl, rfl⟩)
    rw [← HW.out]
    have e0 := E0.out; have e1 := E1.out; have e2 := E2.out; have e3 := E3.out
    exact bodyPost_ret (v := .tuple #[.agg #[.string s, .int .i64 p, .int .i64 wd, .int .i64 h], .int .i64 0]) (by simp [results, Try.results99, go_sem, e0, e1, e2, e3]) rfl ⟨rfl, HB.out⟩

set_option maxRecDepth 100000 in
set_option maxHeartbeats 800000 in
theorem impl_peek_in (s : ByteArray) (a P n : Nat) (hs : s.size ≤ 1048576) (hA : At s a P) (hn : n ≤ 16) (w : World) :
    Calls Try.prog 99 #[cw s a P, .int .i64 n] w fun e w' => e = .returned (.tuple #[cw s a (pkP s a P n), .int .i64 (pkV s a (pkP s a P n) n)]) ∧ Below w.heap.size w w' := by
  have HO := Lib.hid (impl_cacheok_any s (P : Int) (rdN s a (8 * P - a) : Int) ((8 * P - a : Nat) : Int) hs)
  rw [ckOk_of s a P hA] at HO
  have HK := Lib.hid (peekok_any (n : Int))
  rw [show pkOk (n : Int) = true by simp [pkOk]; omega] at HK
  have HR := Lib.hid (refillfor_in s a P n hs hA)
  have hA2 := (pkP_at s a P n hA).2
  obtain ⟨Q, hQ⟩ : ∃ Q, Q = pkP s a P n := ⟨_, rfl⟩
  rw [← hQ] at hA2 HR ⊢
  unfold cw cv at *
  obtain ⟨x, hx⟩ : ∃ x : Int, x = ((8 * P - a : Nat) : Int) := ⟨_, rfl⟩
  obtain ⟨v, hv⟩ : ∃ v : Int, v = (rdN s a (8 * P - a) : Int) := ⟨_, rfl⟩
  rw [← hx, ← hv] at HO HR
  rw [← hx, ← hv]
  obtain ⟨b1, b2, b3⟩ := hA2
  obtain ⟨Y, hY⟩ : ∃ Y, Y = 8 * Q - a := ⟨_, rfl⟩
  obtain ⟨y, hy⟩ : ∃ y, y = rdN s a Y := ⟨_, rfl⟩
  have hy9 : y < 2 ^ Y := by rw [hy]; exact rdN_lt s a Y
  have HV := Lib.hid (pkV_out s a Q n)
  rw [← hY, ← hy] at HV HR
  rw [← hY, ← hy]
  rw [← hY] at b3
  have y9 : y < 72057594037927936 := by rw [hy]; exact rdN_lt' s a Y 56 b3
  clear hx hv hQ hY hy hA b1 b2
  go_enter Try.func99, Try.ntmps99
  go_wp2_with fail
  refine (HO.out _).mono ?_
  rintro e w1 ⟨rfl, hb1⟩
  obtain ⟨k0, k1⟩ := boxes_kept hb1
  obtain ⟨c0, c1, c2, c3⟩ := cells4 k0
  have K0 := Lib.hid k0; have K1 := Lib.hid k1
  have B1 := Lib.hid (below_step ((below_new w _).alloc (below_new w _).size _) hb1)
  clear hb1 k0 k1
  go_wp2_with fail
  refine (HK.out _).mono ?_
  rintro e w' ⟨rfl, rfl⟩
  go_wp2_with fail
  refine (HR.out _).mono ?_
  rintro e w2 ⟨rfl, hb2⟩
  clear c0 c1 c2 c3
  have k0 := cell_kept K0.out hb2
  have k1 := cell_kept K1.out hb2
  obtain ⟨c0, c1, c2, c3⟩ := cells4 k0
  obtain ⟨f0, f1, f2, f3⟩ := frozen4 k0
  obtain ⟨d0, d1, d2, d3⟩ := cells4 k1
  obtain ⟨g0, g1, g2, g3⟩ := frozen4 k1
  have hne : w.heap.size + 1 ≠ w.heap.size := by omega
  have hne' : w.heap.size ≠ w.heap.size + 1 := by omega
  obtain ⟨w3, hw3, e0, e1, e2, e3, hb3⟩ := out44 s (Q : Int) (y : Int) (Y : Int) k0 k1 hne (Nat.le_refl _) (Nat.le_succ _) (below_step B1.out hb2)
  have HW := Lib.hid hw3; have HE := Lib.hid (cells_drew ⟨e0, e1, e2, e3, hb3⟩)
  clear hw3 hb3 e0 e1 e2 e3 hb2 k0 k1
  by_cases hlt : Y < n
  · have hv := HV.out.1 hlt
    obtain ⟨Z, hZ⟩ : ∃ Z, Z = y * 2 ^ (n - Y) := ⟨_, rfl⟩
    rw [← hZ] at hv
    have z9 : Z < 65536 := by
      have e1 : (2 : Nat) ^ n ≤ 2 ^ 16 := Nat.pow_le_pow_right (by decide) hn
      have e2 : y * 2 ^ (n - Y) < 2 ^ Y * 2 ^ (n - Y) := Nat.mul_lt_mul_of_pos_right hy9 (Nat.two_pow_pos _)
      rw [← Nat.pow_add, show Y + (n - Y) = n by omega] at e2
      omega
    have hsh : wrap64 ((y : Int) * 2 ^ (n - Y)) = (Z : Int) := by
      have : (y : Int) * 2 ^ (n - Y) = (Z : Int) := by rw [hZ]; push_cast; rfl
      rw [this]; unfold wrap64; omega
    have HV2 := Lib.hid hv
    clear hv hZ hy9
    go_wp2
    go_region
    go_wp2
    rw [← HW.out]
    obtain ⟨e0, e1, e2, e3, hb3⟩ := HE.out
    exact bodyPost_ret (v := .tuple #[.agg #[.string s, .int .i64 Q, .int .i64 y, .int .i64 Y], .int .i64 Z]) (by simp [results, Try.results99, go_sem, e0, e1, e2, e3, hsh]) rfl ⟨by rw [HV2.out], hb3⟩
  · have hv := HV.out.2 hlt
    obtain ⟨Z, hZ⟩ : ∃ Z, Z = y / 2 ^ (Y - n) := ⟨_, rfl⟩
    rw [← hZ] at hv
    have hsh : (y : Int) / 2 ^ (Y - n) = (Z : Int) := by rw [hZ]; norm_cast
    have HV2 := Lib.hid hv
    clear hv hZ hy9
    go_wp2
    go_region
    go_wp2
    rw [← HW.out]
    obtain ⟨e0, e1, e2, e3, hb3⟩ := HE.out
    exact bodyPost_ret (v := .tuple #[.agg #[.string s, .int .i64 Q, .int .i64 y, .int .i64 Y], .int .i64 Z]) (by simp [results, Try.results99, go_sem, e0, e1, e2, e3]) rfl ⟨by rw [HV2.out], hb3⟩
set_option maxRecDepth 100000 in
set_option maxHeartbeats 800000 in
theorem spec_peek_out (s : ByteArray) (p wd h n : Int) (hs : s.size ≤ 1048576) (hno : ckOk s p wd h = false ∨ ckOk s p wd h = true ∧ pkOk n = false) (w : World) :
    Calls Try.prog 75 #[cv s p wd h, .int .i64 n] w fun e w' => e = .returned (.tuple #[cv s p wd h, .int .i64 0]) ∧ Below w.heap.size w w' := by
  have HO := Lib.hid (spec_cacheok_any s p wd h hs)
  have HK := Lib.hid (l1In_any n 0 16)
  rcases hno with hk | ⟨hk, hn⟩
  case' inr => rw [show (decide (0 ≤ n) && decide (n ≤ 16)) = false from hn] at HK; clear hn
  all_goals
    rw [hk] at HO
    clear hk
    unfold cv at *
    go_enter Try.func75, Try.ntmps75
    go_wp2_with fail
    refine (HO.out _).mono ?_
    rintro e w1 ⟨rfl, hb1⟩
    obtain ⟨k0, k1⟩ := boxes_kept hb1
    obtain ⟨c0, c1, c2, c3⟩ := cells4 k0
    obtain ⟨f0, f1, f2, f3⟩ := frozen4 k1
    obtain ⟨d0, d1, d2, d3⟩ := cells4 k1
    obtain ⟨w3, hw3, e0, e1, e2, e3, hb3⟩ := out4 s p wd h k1 (Nat.le_succ _) (below_step ((below_new w _).alloc (below_new w _).size _) hb1)
    have HW := Lib.hid hw3; have HB := Lib.hid hb3; have E0 := Lib.hid e0; have E1 := Lib.hid e1; have E2 := Lib.hid e2; have E3 := Lib.hid e3
    clear hw3 hb3 e0 e1 e2 e3 hb1 k0 k1
    go_wp2_with (refine (HK.out _).mono ?_; rintro e w' ⟨rfl, rfl⟩)
    rw [← HW.out]
    have e0 := E0.out; have e1 := E1.out; have e2 := E2.out; have e3 := E3.out
    exact bodyPost_ret (v := .tuple #[.agg #[.string s, .int .i64 p, .int .i64 wd, .int .i64 h], .int .i64 0]) (by simp [results, Try.results75, go_sem, e0, e1, e2, e3]) rfl ⟨rfl, HB.out⟩

set_option maxRecDepth 100000 in
set_option maxHeartbeats 800000 in
theorem spec_peek_in1 (s : ByteArray) (a P n : Nat) (hs : s.size ≤ 1048576) (hA : At s a P) (hn : n ≤ 16) (hXn : 8 * P - a < n) (w : World) :
    Calls Try.prog 75 #[cw s a P, .int .i64 n] w fun e w' => e = .returned (.tuple #[cw s a (pkP s a P n), .int .i64 (pkV s a (pkP s a P n) n)]) ∧ Below w.heap.size w w' := by
  have HO := Lib.hid (spec_cacheok_any s (P : Int) (rdN s a (8 * P - a) : Int) ((8 * P - a : Nat) : Int) hs)
  rw [ckOk_of s a P hA] at HO
  have HK := Lib.hid (l1In_any (n : Int) 0 16)
  rw [show (decide (0 ≤ (n : Int)) && decide ((n : Int) ≤ 16)) = true by simp; omega] at HK
  have HR := Lib.hid (spec_refill_in s a P hs hA)
  rw [show rfP s a P = pkP s a P n by rw [pkP, if_pos hXn]] at HR
  have hA2 := (pkP_at s a P n hA).2
  obtain ⟨Q, hQ⟩ : ∃ Q, Q = pkP s a P n := ⟨_, rfl⟩
  rw [← hQ] at hA2 HR ⊢
  unfold cw cv at *
  obtain ⟨x, hx⟩ : ∃ x : Int, x = ((8 * P - a : Nat) : Int) := ⟨_, rfl⟩
  obtain ⟨v, hv⟩ : ∃ v : Int, v = (rdN s a (8 * P - a) : Int) := ⟨_, rfl⟩
  rw [← hx, ← hv] at HO HR
  rw [← hx, ← hv]
  have hxn : x < (n : Int) := by omega
  obtain ⟨b1, b2, b3⟩ := hA2
  obtain ⟨Y, hY⟩ : ∃ Y, Y = 8 * Q - a := ⟨_, rfl⟩
  obtain ⟨y, hy⟩ : ∃ y, y = rdN s a Y := ⟨_, rfl⟩
  have hy9 : y < 2 ^ Y := by rw [hy]; exact rdN_lt s a Y
  have HV := Lib.hid (pkV_out s a Q n)
  rw [← hY, ← hy] at HV HR
  rw [← hY, ← hy]
  rw [← hY] at b3
  have y9 : y < 72057594037927936 := by rw [hy]; exact rdN_lt' s a Y 56 b3
  clear hx hv hQ hY hy hA b1 b2 hXn
  go_enter Try.func75, Try.ntmps75
  go_wp2_with fail
  refine (HO.out _).mono ?_
  rintro e w1 ⟨rfl, hb1⟩
  obtain ⟨k0, k1⟩ := boxes_kept hb1
  obtain ⟨c0, c1, c2, c3⟩ := cells4 k0
  have K0 := Lib.hid k0; have K1 := Lib.hid k1
  have B1 := Lib.hid (below_step ((below_new w _).alloc (below_new w _).size _) hb1)
  clear hb1 k0 k1
  go_wp2_with fail
  refine (HK.out _).mono ?_
  rintro e w' ⟨rfl, rfl⟩
  go_wp2_with fail
  refine (HR.out _).mono ?_
  rintro e w2 ⟨rfl, hb2⟩
  clear c0 c1 c2 c3
  have k0 := cell_kept K0.out hb2
  have k1 := cell_kept K1.out hb2
  obtain ⟨c0, c1, c2, c3⟩ := cells4 k0
  obtain ⟨f0, f1, f2, f3⟩ := frozen4 k0
  obtain ⟨d0, d1, d2, d3⟩ := cells4 k1
  obtain ⟨g0, g1, g2, g3⟩ := frozen4 k1
  have hne : w.heap.size + 1 ≠ w.heap.size := by omega
  have hne' : w.heap.size ≠ w.heap.size + 1 := by omega
  obtain ⟨w3, hw3, e0, e1, e2, e3, hb3⟩ := out44 s (Q : Int) (y : Int) (Y : Int) k0 k1 hne (Nat.le_refl _) (Nat.le_succ _) (below_step B1.out hb2)
  have HW := Lib.hid hw3; have HE := Lib.hid (cells_drew ⟨e0, e1, e2, e3, hb3⟩)
  clear hw3 hb3 e0 e1 e2 e3 hb2 k0 k1
  by_cases hlt : Y < n
  · have hv := HV.out.1 hlt
    obtain ⟨Z, hZ⟩ : ∃ Z, Z = y * 2 ^ (n - Y) := ⟨_, rfl⟩
    rw [← hZ] at hv
    have z9 : Z < 65536 := by
      have e1 : (2 : Nat) ^ n ≤ 2 ^ 16 := Nat.pow_le_pow_right (by decide) hn
      have e2 : y * 2 ^ (n - Y) < 2 ^ Y * 2 ^ (n - Y) := Nat.mul_lt_mul_of_pos_right hy9 (Nat.two_pow_pos _)
      rw [← Nat.pow_add, show Y + (n - Y) = n by omega] at e2
      omega
    have hsh : wrap64 ((y : Int) * 2 ^ (n - Y)) = (Z : Int) := by
      have : (y : Int) * 2 ^ (n - Y) = (Z : Int) := by rw [hZ]; push_cast; rfl
      rw [this]; unfold wrap64; omega
    have HV2 := Lib.hid hv
    clear hv hZ hy9
    go_wp2
    go_region
    go_wp2
    rw [← HW.out]
    obtain ⟨e0, e1, e2, e3, hb3⟩ := HE.out
    exact bodyPost_ret (v := .tuple #[.agg #[.string s, .int .i64 Q, .int .i64 y, .int .i64 Y], .int .i64 Z]) (by simp [results, Try.results75, go_sem, e0, e1, e2, e3, hsh]) rfl ⟨by rw [HV2.out], hb3⟩
  · have hv := HV.out.2 hlt
    obtain ⟨Z, hZ⟩ : ∃ Z, Z = y / 2 ^ (Y - n) := ⟨_, rfl⟩
    rw [← hZ] at hv
    have hsh : (y : Int) / 2 ^ (Y - n) = (Z : Int) := by rw [hZ]; norm_cast
    have HV2 := Lib.hid hv
    clear hv hZ hy9
    go_wp2
    go_region
    go_wp2
    rw [← HW.out]
    obtain ⟨e0, e1, e2, e3, hb3⟩ := HE.out
    exact bodyPost_ret (v := .tuple #[.agg #[.string s, .int .i64 Q, .int .i64 y, .int .i64 Y], .int .i64 Z]) (by simp [results, Try.results75, go_sem, e0, e1, e2, e3]) rfl ⟨by rw [HV2.out], hb3⟩
set_option maxRecDepth 100000 in
set_option maxHeartbeats 800000 in
theorem spec_peek_in2 (s : ByteArray) (a P n : Nat) (hs : s.size ≤ 1048576) (hA : At s a P) (hn : n ≤ 16) (hXn : ¬ 8 * P - a < n) (w : World) :
    Calls Try.prog 75 #[cw s a P, .int .i64 n] w fun e w' => e = .returned (.tuple #[cw s a (pkP s a P n), .int .i64 (pkV s a (pkP s a P n) n)]) ∧ Below w.heap.size w w' := by
  have HO := Lib.hid (spec_cacheok_any s (P : Int) (rdN s a (8 * P - a) : Int) ((8 * P - a : Nat) : Int) hs)
  rw [ckOk_of s a P hA] at HO
  have HK := Lib.hid (l1In_any (n : Int) 0 16)
  rw [show (decide (0 ≤ (n : Int)) && decide ((n : Int) ≤ 16)) = true by simp; omega] at HK
  rw [show pkP s a P n = P by rw [pkP, if_neg hXn]]
  unfold cw cv at *
  obtain ⟨b1, b2, b3⟩ := hA
  obtain ⟨Y, hY⟩ : ∃ Y, Y = 8 * P - a := ⟨_, rfl⟩
  obtain ⟨y, hy⟩ : ∃ y, y = rdN s a Y := ⟨_, rfl⟩
  have HV := Lib.hid (pkV_out s a P n)
  rw [← hY, ← hy] at HV
  rw [← hY, ← hy] at HO
  rw [← hY, ← hy]
  rw [← hY] at b3 hXn
  have y9 : y < 72057594037927936 := by rw [hy]; exact rdN_lt' s a Y 56 b3
  clear hY hy b1 b2
  have hv := HV.out.2 hXn
  obtain ⟨Z, hZ⟩ : ∃ Z, Z = y / 2 ^ (Y - n) := ⟨_, rfl⟩
  rw [← hZ] at hv
  have hsh : (y : Int) / 2 ^ (Y - n) = (Z : Int) := by rw [hZ]; norm_cast
  have HV2 := Lib.hid hv
  clear hv hZ
  go_enter Try.func75, Try.ntmps75
  go_wp2_with fail
  refine (HO.out _).mono ?_
  rintro e w1 ⟨rfl, hb1⟩
  obtain ⟨k0, k1⟩ := boxes_kept hb1
  obtain ⟨c0, c1, c2, c3⟩ := cells4 k0
  obtain ⟨f0, f1, f2, f3⟩ := frozen4 k1
  obtain ⟨d0, d1, d2, d3⟩ := cells4 k1
  obtain ⟨w3, hw3, e0, e1, e2, e3, hb3⟩ := out4 s (P : Int) (y : Int) (Y : Int) k1 (Nat.le_succ _) (below_step ((below_new w _).alloc (below_new w _).size _) hb1)
  have HW := Lib.hid hw3; have HE := Lib.hid (cells_drew ⟨e0, e1, e2, e3, hb3⟩)
  clear hw3 hb3 e0 e1 e2 e3 hb1 k0 k1
  go_wp2_with fail
  refine (HK.out _).mono ?_
  rintro e w' ⟨rfl, rfl⟩
  go_wp2
  go_region
  go_wp2
  rw [← HW.out]
  obtain ⟨e0, e1, e2, e3, hb3⟩ := HE.out
  exact bodyPost_ret (v := .tuple #[.agg #[.string s, .int .i64 P, .int .i64 y, .int .i64 Y], .int .i64 Z]) (by simp [results, Try.results75, go_sem, e0, e1, e2, e3]) rfl ⟨by rw [HV2.out], hb3⟩

theorem spec_peek_in (s : ByteArray) (a P n : Nat) (hs : s.size ≤ 1048576) (hA : At s a P) (hn : n ≤ 16) (w : World) :
    Calls Try.prog 75 #[cw s a P, .int .i64 n] w fun e w' => e = .returned (.tuple #[cw s a (pkP s a P n), .int .i64 (pkV s a (pkP s a P n) n)]) ∧ Below w.heap.size w w' := by
  by_cases hXn : 8 * P - a < n
  · exact spec_peek_in1 s a P n hs hA hn hXn w
  · exact spec_peek_in2 s a P n hs hA hn hXn w
end Go.Proofs.Ytgacldhpohnpaaa

namespace Go.Proofs.Ytgacldhpohnpaaa
open Go.RowKit
set_option linter.unusedVariables false

/-- What Skip answers where `Q` bytes are read behind Refill. -/
def skR (s : ByteArray) (a Q n : Nat) : Value := .tuple #[cw s (if n ≤ 8 * Q - a then a + n else a) Q, .bool (decide (n ≤ 8 * Q - a))]
theorem skR_yes (s : ByteArray) (a Q n : Nat) (h : n ≤ 8 * Q - a) : skR s a Q n = .tuple #[.agg #[.string s, .int .i64 Q, .int .i64 ((rdN s a (8 * Q - a) % 2 ^ (8 * Q - a - n) : Nat) : Int), .int .i64 ((8 * Q - a - n : Nat) : Int)], .bool true] := by
  have e : 8 * Q - (a + n) = 8 * Q - a - n := by omega
  rw [skR, if_pos h, decide_eq_true h, cw, cv, e, rdN_low s a n (8 * Q - a) h]
theorem skR_no (s : ByteArray) (a Q n : Nat) (h : 8 * Q - a < n) : skR s a Q n = .tuple #[.agg #[.string s, .int .i64 Q, .int .i64 (rdN s a (8 * Q - a)), .int .i64 ((8 * Q - a : Nat) : Int)], .bool false] := by
  have h' : ¬ n ≤ 8 * Q - a := by omega
  rw [skR, if_neg h', decide_eq_false h', cw, cv]

set_option maxRecDepth 100000 in
set_option maxHeartbeats 800000 in
theorem impl_skip_out (s : ByteArray) (p wd h n : Int) (hs : s.size ≤ 1048576) (hno : ckOk s p wd h = false ∨ ckOk s p wd h = true ∧ pkOk n = false) (w : World) :
    Calls Try.prog 102 #[cv s p wd h, .int .i64 n] w fun e w' => e = .returned (.tuple #[cv s p wd h, .bool false]) ∧ Below w.heap.size w w' := by
  have HO := Lib.hid (impl_cacheok_any s p wd h hs)
  have HK := Lib.hid (peekok_any n)
  rcases hno with hk | ⟨hk, hn⟩
  case' inr => rw [hn] at HK; clear hn
  all_goals
    rw [hk] at HO
    clear hk
    unfold cv at *
    go_enter Try.func102, Try.ntmps102
    go_wp2_with fail
    refine (HO.out _).mono ?_
    rintro e w1 ⟨rfl, hb1⟩
    obtain ⟨k0, k1⟩ := boxes_kept hb1
    obtain ⟨c0, c1, c2, c3⟩ := cells4 k0
    obtain ⟨f0, f1, f2, f3⟩ := frozen4 k1
    obtain ⟨d0, d1, d2, d3⟩ := cells4 k1
    obtain ⟨w3, hw3, e0, e1, e2, e3, hb3⟩ := out4 s p wd h k1 (Nat.le_succ _) (below_step ((below_new w _).alloc (below_new w _).size _) hb1)
    have HW := Lib.hid hw3; have HB := Lib.hid hb3; have E0 := Lib.hid e0; have E1 := Lib.hid e1; have E2 := Lib.hid e2; have E3 := Lib.hid e3
    clear hw3 hb3 e0 e1 e2 e3 hb1 k0 k1
    go_wp2_with (refine (HK.out _).mono ?_; rintro e w' ⟨rfl, rfl⟩)
    rw [← HW.out]
    have e0 := E0.out; have e1 := E1.out; have e2 := E2.out; have e3 := E3.out
    exact bodyPost_ret (v := .tuple #[.agg #[.string s, .int .i64 p, .int .i64 wd, .int .i64 h], .bool false]) (by simp [results, Try.results102, go_sem, e0, e1, e2, e3]) rfl ⟨rfl, HB.out⟩

set_option maxRecDepth 100000 in
set_option maxHeartbeats 800000 in
theorem spec_skip_out (s : ByteArray) (p wd h n : Int) (hs : s.size ≤ 1048576) (hno : ckOk s p wd h = false ∨ ckOk s p wd h = true ∧ pkOk n = false) (w : World) :
    Calls Try.prog 37 #[cv s p wd h, .int .i64 n] w fun e w' => e = .returned (.tuple #[cv s p wd h, .bool false]) ∧ Below w.heap.size w w' := by
  have HO := Lib.hid (spec_cacheok_any s p wd h hs)
  have HK := Lib.hid (l1In_any n 0 16)
  rcases hno with hk | ⟨hk, hn⟩
  case' inr => rw [show (decide (0 ≤ n) && decide (n ≤ 16)) = false from hn] at HK; clear hn
  all_goals
    rw [hk] at HO
    clear hk
    unfold cv at *
    go_enter Try.func37, Try.ntmps37
    go_wp2_with fail
    refine (HO.out _).mono ?_
    rintro e w1 ⟨rfl, hb1⟩
    obtain ⟨k0, k1⟩ := boxes_kept hb1
    obtain ⟨c0, c1, c2, c3⟩ := cells4 k0
    obtain ⟨f0, f1, f2, f3⟩ := frozen4 k1
    obtain ⟨d0, d1, d2, d3⟩ := cells4 k1
    obtain ⟨w3, hw3, e0, e1, e2, e3, hb3⟩ := out4 s p wd h k1 (Nat.le_succ _) (below_step ((below_new w _).alloc (below_new w _).size _) hb1)
    have HW := Lib.hid hw3; have HB := Lib.hid hb3; have E0 := Lib.hid e0; have E1 := Lib.hid e1; have E2 := Lib.hid e2; have E3 := Lib.hid e3
    clear hw3 hb3 e0 e1 e2 e3 hb1 k0 k1
    go_wp2_with (refine (HK.out _).mono ?_; rintro e w' ⟨rfl, rfl⟩)
    rw [← HW.out]
    have e0 := E0.out; have e1 := E1.out; have e2 := E2.out; have e3 := E3.out
    exact bodyPost_ret (v := .tuple #[.agg #[.string s, .int .i64 p, .int .i64 wd, .int .i64 h], .bool false]) (by simp [results, Try.results37, go_sem, e0, e1, e2, e3]) rfl ⟨rfl, HB.out⟩

set_option maxRecDepth 100000 in
set_option maxHeartbeats 800000 in
theorem impl_skip_in (s : ByteArray) (a P n : Nat) (hs : s.size ≤ 1048576) (hA : At s a P) (hn : n ≤ 16) (w : World) :
    Calls Try.prog 102 #[cw s a P, .int .i64 n] w fun e w' => e = .returned (skR s a (pkP s a P n) n) ∧ Below w.heap.size w w' := by
  have HO := Lib.hid (impl_cacheok_any s (P : Int) (rdN s a (8 * P - a) : Int) ((8 * P - a : Nat) : Int) hs)
  rw [ckOk_of s a P hA] at HO
  have HK := Lib.hid (peekok_any (n : Int))
  rw [show pkOk (n : Int) = true by simp [pkOk]; omega] at HK
  have HR := Lib.hid (refillfor_in s a P n hs hA)
  have hA2 := (pkP_at s a P n hA).2
  obtain ⟨Q, hQ⟩ : ∃ Q, Q = pkP s a P n := ⟨_, rfl⟩
  rw [← hQ] at hA2 HR ⊢
  have HV := Lib.hid (skR_yes s a Q n)
  have HF := Lib.hid (skR_no s a Q n)
  obtain ⟨R, hR⟩ : ∃ R, R = skR s a Q n := ⟨_, rfl⟩
  rw [← hR] at HV HF ⊢
  unfold cw cv at *
  obtain ⟨x, hx⟩ : ∃ x : Int, x = ((8 * P - a : Nat) : Int) := ⟨_, rfl⟩
  obtain ⟨v, hv⟩ : ∃ v : Int, v = (rdN s a (8 * P - a) : Int) := ⟨_, rfl⟩
  rw [← hx, ← hv] at HO HR
  rw [← hx, ← hv]
  obtain ⟨b1, b2, b3⟩ := hA2
  obtain ⟨Y, hY⟩ : ∃ Y, Y = 8 * Q - a := ⟨_, rfl⟩
  obtain ⟨y, hy⟩ : ∃ y, y = rdN s a Y := ⟨_, rfl⟩
  rw [← hY, ← hy] at HR
  rw [← hY, ← hy] at HV HF
  rw [← hY] at b3
  have y9 : y < 72057594037927936 := by rw [hy]; exact rdN_lt' s a Y 56 b3
  clear hx hv hQ hY hy hA b1 b2 hR
  go_enter Try.func102, Try.ntmps102
  go_wp2_with fail
  refine (HO.out _).mono ?_
  rintro e w1 ⟨rfl, hb1⟩
  obtain ⟨k0, k1⟩ := boxes_kept hb1
  obtain ⟨c0, c1, c2, c3⟩ := cells4 k0
  have K0 := Lib.hid k0; have K1 := Lib.hid k1
  have B1 := Lib.hid (below_step ((below_new w _).alloc (below_new w _).size _) hb1)
  clear hb1 k0 k1
  go_wp2_with fail
  refine (HK.out _).mono ?_
  rintro e w' ⟨rfl, rfl⟩
  go_wp2_with fail
  refine (HR.out _).mono ?_
  rintro e w2 ⟨rfl, hb2⟩
  clear c0 c1 c2 c3
  have k0 := cell_kept K0.out hb2
  have k1 := cell_kept K1.out hb2
  have hne : w.heap.size + 1 ≠ w.heap.size := by omega
  obtain ⟨c0, c1, c2, c3⟩ := cells4 k0
  obtain ⟨f0, f1, f2, f3⟩ := frozen4 k0
  obtain ⟨wx, hwx⟩ : ∃ wx, wx = put4 w2 w.heap.size s (Q : Int) (y : Int) (Y : Int) := ⟨_, rfl⟩
  have x0 := put4_block k0 s (Q : Int) (y : Int) (Y : Int)
  have x1 := (put4_other hne s (Q : Int) (y : Int) (Y : Int)).trans k1
  rw [← hwx] at x0 x1
  have xb : Below w.heap.size w wx := by rw [hwx]; exact put4_below (below_step B1.out hb2) w.heap.size (Nat.le_refl _) s (Q : Int) (y : Int) (Y : Int)
  have X0 := Lib.hid x0; have X1 := Lib.hid x1; have XB := Lib.hid xb; have HWX := Lib.hid hwx
  clear k0 k1 x0 x1 xb hwx hb2
  go_upto_region 4 with fail
  rw [show (((w2.setCell ⟨w.heap.size, 0, none⟩ (.string s)).setCell ⟨w.heap.size, 1, none⟩ (.int .i64 Q)).setCell ⟨w.heap.size, 2, none⟩ (.int .i64 y)).setCell ⟨w.heap.size, 3, none⟩ (.int .i64 Y) = wx from HWX.out.symm]
  clear c0 c1 c2 c3 f0 f1 f2 f3
  have k0 := X0.out
  have k1 := X1.out
  have bx := XB.out
  obtain ⟨c0, c1, c2, c3⟩ := cells4 k0
  obtain ⟨f0, f1, f2, f3⟩ := frozen4 k0
  obtain ⟨d0, d1, d2, d3⟩ := cells4 k1
  obtain ⟨g0, g1, g2, g3⟩ := frozen4 k1
  by_cases hle : n ≤ Y
  · have hge : n ≤ Y := hle
    obtain ⟨D, hD⟩ : ∃ D, D = Y - n := ⟨_, rfl⟩
    have hsub : (Y : Int) - (n : Int) = (D : Int) := by omega
    have d9 : D ≤ 56 := by omega
    obtain ⟨Z, hZ⟩ : ∃ Z, Z = y % 2 ^ D := ⟨_, rfl⟩
    have z9 : Z < 72057594037927936 := by rw [hZ]; exact Nat.lt_of_le_of_lt (Nat.mod_le _ _) y9
    have hv := HV.out hge
    rw [← hD, ← hZ] at hv
    have HV2 := Lib.hid hv
    have LB := Lib.hid (lowbits_any y D (by omega) d9)
    rw [← hZ] at LB
    clear hv hZ hD
    have hw4 : ∃ w4, w4 = ((wx).setCell ⟨w.heap.size, 3, none⟩ (.int .i64 D)).setCell ⟨w.heap.size, 2, none⟩ (.int .i64 Z) := ⟨_, rfl⟩
    have kk := k1
    have bb := bx
    have hin : (((wx).setCell ⟨w.heap.size, 3, none⟩ (.int .i64 D)).setCell ⟨w.heap.size, 2, none⟩ (.int .i64 Z)).heap[w.heap.size + 1]? = some (.cells #[.string ⟨#[]⟩, .int .i64 0, .int .i64 0, .int .i64 0] 25 (0, 0)) := by
      rw [heap_setCell_other _ _ _ _ hne, heap_setCell_other _ _ _ _ hne]; exact kk
    obtain ⟨w3, hw3, e0, e1, e2, e3, hb3⟩ := out4 s (Q : Int) (Z : Int) (D : Int) hin (Nat.le_succ _) (Below.setCell (Below.setCell bb (p := ⟨w.heap.size, 3, none⟩) (Nat.le_refl _) _) (p := ⟨w.heap.size, 2, none⟩) (Nat.le_refl _) _)
    have HW := Lib.hid hw3; have HE := Lib.hid (And.intro e0 (And.intro e1 (And.intro e2 (And.intro e3 hb3))))
    clear hw3 hb3 e0 e1 e2 e3 hw4 kk bb hin
    clear k0 k1 bx
    go_wp2_with fail
    refine (LB.out _).mono ?_
    rintro e w' ⟨rfl, rfl⟩
    go_wp2
    rw [← HW.out]
    obtain ⟨e0, e1, e2, e3, hb3⟩ := HE.out
    exact bodyPost_ret (v := .tuple #[.agg #[.string s, .int .i64 Q, .int .i64 Z, .int .i64 D], .bool true]) (by simp [results, Try.results102, go_sem, e0, e1, e2, e3]) rfl ⟨by rw [HV2.out], hb3⟩
  · have hlt : Y < n := by omega
    have hv := HF.out hlt
    have HV2 := Lib.hid hv
    obtain ⟨w3, hw3, e0, e1, e2, e3, hb3⟩ := out4 s (Q : Int) (y : Int) (Y : Int) k1 (Nat.le_succ _) bx
    have HW := Lib.hid hw3; have HE := Lib.hid (And.intro e0 (And.intro e1 (And.intro e2 (And.intro e3 hb3))))
    clear hw3 hb3 e0 e1 e2 e3 bx k0 k1 hv
    go_wp2
    rw [← HW.out]
    obtain ⟨e0, e1, e2, e3, hb3⟩ := HE.out
    exact bodyPost_ret (v := .tuple #[.agg #[.string s, .int .i64 Q, .int .i64 y, .int .i64 Y], .bool false]) (by simp [results, Try.results102, go_sem, e0, e1, e2, e3]) rfl ⟨by rw [HV2.out], hb3⟩

set_option maxRecDepth 100000 in
set_option maxHeartbeats 800000 in
theorem spec_skip_in1 (s : ByteArray) (a P n : Nat) (hs : s.size ≤ 1048576) (hA : At s a P) (hn : n ≤ 16) (hXn : 8 * P - a < n) (w : World) :
    Calls Try.prog 37 #[cw s a P, .int .i64 n] w fun e w' => e = .returned (skR s a (pkP s a P n) n) ∧ Below w.heap.size w w' := by
  have HO := Lib.hid (spec_cacheok_any s (P : Int) (rdN s a (8 * P - a) : Int) ((8 * P - a : Nat) : Int) hs)
  rw [ckOk_of s a P hA] at HO
  have HK := Lib.hid (l1In_any (n : Int) 0 16)
  rw [show (decide (0 ≤ (n : Int)) && decide ((n : Int) ≤ 16)) = true by simp; omega] at HK
  have HR := Lib.hid (spec_refill_in s a P hs hA)
  rw [show rfP s a P = pkP s a P n by rw [pkP, if_pos hXn]] at HR
  have hA2 := (pkP_at s a P n hA).2
  obtain ⟨Q, hQ⟩ : ∃ Q, Q = pkP s a P n := ⟨_, rfl⟩
  rw [← hQ] at hA2 HR ⊢
  have HV := Lib.hid (skR_yes s a Q n)
  have HF := Lib.hid (skR_no s a Q n)
  obtain ⟨R, hR⟩ : ∃ R, R = skR s a Q n := ⟨_, rfl⟩
  rw [← hR] at HV HF ⊢
  unfold cw cv at *
  obtain ⟨x, hx⟩ : ∃ x : Int, x = ((8 * P - a : Nat) : Int) := ⟨_, rfl⟩
  obtain ⟨v, hv⟩ : ∃ v : Int, v = (rdN s a (8 * P - a) : Int) := ⟨_, rfl⟩
  rw [← hx, ← hv] at HO HR
  rw [← hx, ← hv]
  have hxn : x < (n : Int) := by omega
  obtain ⟨b1, b2, b3⟩ := hA2
  obtain ⟨Y, hY⟩ : ∃ Y, Y = 8 * Q - a := ⟨_, rfl⟩
  obtain ⟨y, hy⟩ : ∃ y, y = rdN s a Y := ⟨_, rfl⟩
  rw [← hY, ← hy] at HR
  rw [← hY, ← hy] at HV HF
  rw [← hY] at b3
  have y9 : y < 72057594037927936 := by rw [hy]; exact rdN_lt' s a Y 56 b3
  clear hx hv hQ hY hy hA b1 b2 hR hXn
  go_enter Try.func37, Try.ntmps37
  go_wp2_with fail
  refine (HO.out _).mono ?_
  rintro e w1 ⟨rfl, hb1⟩
  obtain ⟨k0, k1⟩ := boxes_kept hb1
  obtain ⟨c0, c1, c2, c3⟩ := cells4 k0
  have K0 := Lib.hid k0; have K1 := Lib.hid k1
  have B1 := Lib.hid (below_step ((below_new w _).alloc (below_new w _).size _) hb1)
  clear hb1 k0 k1
  go_wp2_with fail
  refine (HK.out _).mono ?_
  rintro e w' ⟨rfl, rfl⟩
  go_wp2_with fail
  refine (HR.out _).mono ?_
  rintro e w2 ⟨rfl, hb2⟩
  clear c0 c1 c2 c3
  have k0 := cell_kept K0.out hb2
  have k1 := cell_kept K1.out hb2
  have hne : w.heap.size + 1 ≠ w.heap.size := by omega
  obtain ⟨c0, c1, c2, c3⟩ := cells4 k0
  obtain ⟨f0, f1, f2, f3⟩ := frozen4 k0
  obtain ⟨wx, hwx⟩ : ∃ wx, wx = put4 w2 w.heap.size s (Q : Int) (y : Int) (Y : Int) := ⟨_, rfl⟩
  have x0 := put4_block k0 s (Q : Int) (y : Int) (Y : Int)
  have x1 := (put4_other hne s (Q : Int) (y : Int) (Y : Int)).trans k1
  rw [← hwx] at x0 x1
  have xb : Below w.heap.size w wx := by rw [hwx]; exact put4_below (below_step B1.out hb2) w.heap.size (Nat.le_refl _) s (Q : Int) (y : Int) (Y : Int)
  have X0 := Lib.hid x0; have X1 := Lib.hid x1; have XB := Lib.hid xb; have HWX := Lib.hid hwx
  clear k0 k1 x0 x1 xb hwx hb2
  go_upto_region 5 with fail
  rw [show (((w2.setCell ⟨w.heap.size, 0, none⟩ (.string s)).setCell ⟨w.heap.size, 1, none⟩ (.int .i64 Q)).setCell ⟨w.heap.size, 2, none⟩ (.int .i64 y)).setCell ⟨w.heap.size, 3, none⟩ (.int .i64 Y) = wx from HWX.out.symm]
  clear c0 c1 c2 c3 f0 f1 f2 f3
  have k0 := X0.out
  have k1 := X1.out
  have bx := XB.out
  obtain ⟨c0, c1, c2, c3⟩ := cells4 k0
  obtain ⟨f0, f1, f2, f3⟩ := frozen4 k0
  obtain ⟨d0, d1, d2, d3⟩ := cells4 k1
  obtain ⟨g0, g1, g2, g3⟩ := frozen4 k1
  by_cases hle : n ≤ Y
  · have hge : n ≤ Y := hle
    obtain ⟨D, hD⟩ : ∃ D, D = Y - n := ⟨_, rfl⟩
    have hsub : (Y : Int) - (n : Int) = (D : Int) := by omega
    have d9 : D ≤ 56 := by omega
    obtain ⟨Z, hZ⟩ : ∃ Z, Z = y % 2 ^ D := ⟨_, rfl⟩
    have z9 : Z < 72057594037927936 := by rw [hZ]; exact Nat.lt_of_le_of_lt (Nat.mod_le _ _) y9
    have hv := HV.out hge
    rw [← hD, ← hZ] at hv
    have HV2 := Lib.hid hv
    have hm := mask_n y D (by omega) d9
    rw [← hZ] at hm
    obtain ⟨p1, p2⟩ := pow_le56 D d9
    obtain ⟨p, hp⟩ : ∃ p : Int, p = 2 ^ D := ⟨_, rfl⟩
    have h1 : wrap64 (2 ^ D) = p := by rw [← hp]; unfold wrap64; omega
    rw [← hp] at hm p1 p2
    clear hp
    clear hv hZ hD
    have hw4 : ∃ w4, w4 = ((wx).setCell ⟨w.heap.size, 3, none⟩ (.int .i64 D)).setCell ⟨w.heap.size, 2, none⟩ (.int .i64 Z) := ⟨_, rfl⟩
    have kk := k1
    have bb := bx
    have hin : (((wx).setCell ⟨w.heap.size, 3, none⟩ (.int .i64 D)).setCell ⟨w.heap.size, 2, none⟩ (.int .i64 Z)).heap[w.heap.size + 1]? = some (.cells #[.string ⟨#[]⟩, .int .i64 0, .int .i64 0, .int .i64 0] 25 (0, 0)) := by
      rw [heap_setCell_other _ _ _ _ hne, heap_setCell_other _ _ _ _ hne]; exact kk
    obtain ⟨w3, hw3, e0, e1, e2, e3, hb3⟩ := out4 s (Q : Int) (Z : Int) (D : Int) hin (Nat.le_succ _) (Below.setCell (Below.setCell bb (p := ⟨w.heap.size, 3, none⟩) (Nat.le_refl _) _) (p := ⟨w.heap.size, 2, none⟩) (Nat.le_refl _) _)
    have HW := Lib.hid hw3; have HE := Lib.hid (cells_drew ⟨e0, e1, e2, e3, hb3⟩)
    clear hw3 hb3 e0 e1 e2 e3 hw4 kk bb hin
    clear k0 k1 bx
    go_wp2
    go_region
    go_wp2
    rw [← HW.out]
    obtain ⟨e0, e1, e2, e3, hb3⟩ := HE.out
    exact bodyPost_ret (v := .tuple #[.agg #[.string s, .int .i64 Q, .int .i64 Z, .int .i64 D], .bool true]) (by simp [results, Try.results37, go_sem, e0, e1, e2, e3]) rfl ⟨by rw [HV2.out], hb3⟩
  · have hlt : Y < n := by omega
    have hv := HF.out hlt
    have HV2 := Lib.hid hv
    obtain ⟨w3, hw3, e0, e1, e2, e3, hb3⟩ := out4 s (Q : Int) (y : Int) (Y : Int) k1 (Nat.le_succ _) bx
    have HW := Lib.hid hw3; have HE := Lib.hid (And.intro e0 (And.intro e1 (And.intro e2 (And.intro e3 hb3))))
    clear hw3 hb3 e0 e1 e2 e3 bx k0 k1 hv
    go_wp2
    rw [← HW.out]
    obtain ⟨e0, e1, e2, e3, hb3⟩ := HE.out
    exact bodyPost_ret (v := .tuple #[.agg #[.string s, .int .i64 Q, .int .i64 y, .int .i64 Y], .bool false]) (by simp [results, Try.results37, go_sem, e0, e1, e2, e3]) rfl ⟨by rw [HV2.out], hb3⟩

set_option maxRecDepth 100000 in
set_option maxHeartbeats 800000 in
theorem spec_skip_in2 (s : ByteArray) (a P n : Nat) (hs : s.size ≤ 1048576) (hA : At s a P) (hn : n ≤ 16) (hXn : ¬ 8 * P - a < n) (w : World) :
    Calls Try.prog 37 #[cw s a P, .int .i64 n] w fun e w' => e = .returned (skR s a (pkP s a P n) n) ∧ Below w.heap.size w w' := by
  have HO := Lib.hid (spec_cacheok_any s (P : Int) (rdN s a (8 * P - a) : Int) ((8 * P - a : Nat) : Int) hs)
  rw [ckOk_of s a P hA] at HO
  have HK := Lib.hid (l1In_any (n : Int) 0 16)
  rw [show (decide (0 ≤ (n : Int)) && decide ((n : Int) ≤ 16)) = true by simp; omega] at HK
  rw [show pkP s a P n = P by rw [pkP, if_neg hXn]]
  have HV := Lib.hid (skR_yes s a P n)
  have HF := Lib.hid (skR_no s a P n)
  obtain ⟨R, hR⟩ : ∃ R, R = skR s a P n := ⟨_, rfl⟩
  rw [← hR] at HV HF ⊢
  unfold cw cv at *
  obtain ⟨b1, b2, b3⟩ := hA
  obtain ⟨Y, hY⟩ : ∃ Y, Y = 8 * P - a := ⟨_, rfl⟩
  obtain ⟨y, hy⟩ : ∃ y, y = rdN s a Y := ⟨_, rfl⟩
  rw [← hY, ← hy] at HV HF HO
  rw [← hY, ← hy]
  rw [← hY] at b3 hXn
  have y9 : y < 72057594037927936 := by rw [hy]; exact rdN_lt' s a Y 56 b3
  have hle : n ≤ Y := by omega
  clear hY hy b1 b2 hR hXn HF
  go_enter Try.func37, Try.ntmps37
  go_wp2_with fail
  refine (HO.out _).mono ?_
  rintro e w1 ⟨rfl, hb1⟩
  obtain ⟨k0, k1⟩ := boxes_kept hb1
  obtain ⟨c0, c1, c2, c3⟩ := cells4 k0
  obtain ⟨f0, f1, f2, f3⟩ := frozen4 k0
  obtain ⟨d0, d1, d2, d3⟩ := cells4 k1
  obtain ⟨g0, g1, g2, g3⟩ := frozen4 k1
  have hne : w.heap.size + 1 ≠ w.heap.size := by omega
  have hge : n ≤ Y := hle
  obtain ⟨D, hD⟩ : ∃ D, D = Y - n := ⟨_, rfl⟩
  have hsub : (Y : Int) - (n : Int) = (D : Int) := by omega
  have d9 : D ≤ 56 := by omega
  obtain ⟨Z, hZ⟩ : ∃ Z, Z = y % 2 ^ D := ⟨_, rfl⟩
  have z9 : Z < 72057594037927936 := by rw [hZ]; exact Nat.lt_of_le_of_lt (Nat.mod_le _ _) y9
  have hv := HV.out hge
  rw [← hD, ← hZ] at hv
  have HV2 := Lib.hid hv
  have hm := mask_n y D (by omega) d9
  rw [← hZ] at hm
  obtain ⟨p1, p2⟩ := pow_le56 D d9
  obtain ⟨p, hp⟩ : ∃ p : Int, p = 2 ^ D := ⟨_, rfl⟩
  have h1 : wrap64 (2 ^ D) = p := by rw [← hp]; unfold wrap64; omega
  rw [← hp] at hm p1 p2
  clear hp
  clear hv hZ hD
  have hw4 : ∃ w4, w4 = ((w1).setCell ⟨w.heap.size, 3, none⟩ (.int .i64 D)).setCell ⟨w.heap.size, 2, none⟩ (.int .i64 Z) := ⟨_, rfl⟩
  have kk := k1
  have bb := (below_step ((below_new w _).alloc (below_new w _).size _) hb1)
  have hin : (((w1).setCell ⟨w.heap.size, 3, none⟩ (.int .i64 D)).setCell ⟨w.heap.size, 2, none⟩ (.int .i64 Z)).heap[w.heap.size + 1]? = some (.cells #[.string ⟨#[]⟩, .int .i64 0, .int .i64 0, .int .i64 0] 25 (0, 0)) := by
    rw [heap_setCell_other _ _ _ _ hne, heap_setCell_other _ _ _ _ hne]; exact kk
  obtain ⟨w3, hw3, e0, e1, e2, e3, hb3⟩ := out4 s (P : Int) (Z : Int) (D : Int) hin (Nat.le_succ _) (Below.setCell (Below.setCell bb (p := ⟨w.heap.size, 3, none⟩) (Nat.le_refl _) _) (p := ⟨w.heap.size, 2, none⟩) (Nat.le_refl _) _)
  have HW := Lib.hid hw3; have HE := Lib.hid (cells_drew ⟨e0, e1, e2, e3, hb3⟩)
  clear hw3 hb3 e0 e1 e2 e3 hw4 kk bb hin
  clear k0 k1 hb1
  go_wp2_with fail
  refine (HK.out _).mono ?_
  rintro e w' ⟨rfl, rfl⟩
  go_wp2
  go_region
  go_wp2
  rw [← HW.out]
  obtain ⟨e0, e1, e2, e3, hb3⟩ := HE.out
  exact bodyPost_ret (v := .tuple #[.agg #[.string s, .int .i64 P, .int .i64 Z, .int .i64 D], .bool true]) (by simp [results, Try.results37, go_sem, e0, e1, e2, e3]) rfl ⟨by rw [HV2.out], hb3⟩

theorem spec_skip_in (s : ByteArray) (a P n : Nat) (hs : s.size ≤ 1048576) (hA : At s a P) (hn : n ≤ 16) (w : World) :
    Calls Try.prog 37 #[cw s a P, .int .i64 n] w fun e w' => e = .returned (skR s a (pkP s a P n) n) ∧ Below w.heap.size w w' := by
  by_cases hXn : 8 * P - a < n
  · exact spec_skip_in1 s a P n hs hA hn hXn w
  · exact spec_skip_in2 s a P n hs hA hn hXn w
end Go.Proofs.Ytgacldhpohnpaaa

namespace Go.Proofs.Ytgacldhpohnpaaa
open Go.RowKit
set_option linter.unusedVariables false

/-- The end of a call that answers a cache out of its result's block, behind an allocation. -/
theorem out4a {w w2 : World} {T : TypeId} {g : Nat} {u v x y : Value} (s : ByteArray) (p wd k : Int) (h : w2.heap[g]? = some (.cells #[u, v, x, y] T (0, 0))) (hg : w.heap.size ≤ g) (hb : Below w.heap.size w w2) (o : Obj) : ∃ w3, w3 = (((w2.setCell ⟨g, 0, none⟩ (.string s)).setCell ⟨g, 1, none⟩ (.int .i64 p)).setCell ⟨g, 2, none⟩ (.int .i64 wd)).setCell ⟨g, 3, none⟩ (.int .i64 k) ∧
      (w3.alloc o).cell? ⟨g, 0, none⟩ = some (.string s) ∧ (w3.alloc o).cell? ⟨g, 1, none⟩ = some (.int .i64 p) ∧ (w3.alloc o).cell? ⟨g, 2, none⟩ = some (.int .i64 wd) ∧ (w3.alloc o).cell? ⟨g, 3, none⟩ = some (.int .i64 k) ∧ Below w.heap.size w (w3.alloc o) := by
  obtain ⟨a0, a1, a2, a3⟩ := cells4 (heap_keep (put4_block h s p wd k) o)
  have b := put4_below hb g hg s p wd k
  exact ⟨_, rfl, a0, a1, a2, a3, b.alloc b.size o⟩
/-- A second Peek of as many bits reads no more. -/
theorem pkP_again (s : ByteArray) (a P n : Nat) (hA : At s a P) (hn : n ≤ 16) : pkP s a (pkP s a P n) n = pkP s a P n := by
  obtain ⟨h1, h2, h3⟩ := hA
  unfold pkP
  by_cases h : 8 * P - a < n
  · rw [if_pos h]
    have e : rfP s a P = min s.size ((a + 48) / 8 + 1) := by rw [rfP, if_pos (by omega)]
    by_cases h4 : 8 * rfP s a P - a < n
    · rw [if_pos h4]
      have e2 : rfP s a (rfP s a P) = min s.size ((a + 48) / 8 + 1) := by rw [rfP, if_pos (by omega)]
      rw [e2, e]
    · rw [if_neg h4]
  · rw [if_neg h, if_neg h]
/-- What TakeBits answers where `Q` bytes are read behind Refill. -/
def tkR (s : ByteArray) (a Q n : Nat) : Value := if n ≤ 8 * Q - a then .tuple #[cw s (a + n) Q, .int .i64 (pkV s a Q n), .bool true] else .tuple #[cw s a Q, .int .i64 0, .bool false]

set_option maxRecDepth 100000 in
set_option maxHeartbeats 800000 in
theorem spec_new_any (s : ByteArray) (w : World) :
    Calls Try.prog 36 #[.string s] w fun e w' => e = .returned (cv s 0 0 0) ∧ Below w.heap.size w w' := by
  unfold cv
  go_enter Try.func36, Try.ntmps36
  go_wp2
  obtain ⟨e0, e1, e2, e3⟩ := cells4 (heap_alloc_new w (.cells #[.string s, .int .i64 0, .int .i64 0, .int .i64 0] 25))
  exact bodyPost_ret (v := .agg #[.string s, .int .i64 0, .int .i64 0, .int .i64 0]) (by simp [results, Try.results36, go_sem, e0, e1, e2, e3]) rfl ⟨rfl, below_new _ _⟩
end Go.Proofs.Ytgacldhpohnpaaa
