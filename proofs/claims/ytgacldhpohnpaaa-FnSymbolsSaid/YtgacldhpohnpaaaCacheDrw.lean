/-
  Contracts of chapter 4's draws: a cache, a cache with a number of bits: each returns, and its answer depends on the input's bytes alone. Condition: the input is no longer than 1048576 bytes.
  Contracts of chapter 4's draws, joined: a cache with a number of bits; each returns, and its answer depends on the input's bytes alone. Condition: the input is no longer than 1048576 bytes.
-/
import Derived.Test.YtgacldhpohnpaaaDrawB
import Derived.Test.YtgacldhpohnpaaaCacheB
import Derived.Deep.Cut
namespace Go.Proofs.Ytgacldhpohnpaaa
open Go.RowKit
set_option linter.unusedVariables false

theorem below_grows {w w' : World} (h : Below w.heap.size w w') (row : Option Nat) : w.grownBy w' row := ⟨h.os, h.tape, h.output, h.size, fun k hk _ => h.block k hk⟩
/-- A cursor behind a call that makes new memory alone. -/
theorem cursor_below {w w' : World} {g : Nat} {A : Option Addr} {cap : Nat} {zs : List Int} {i : Nat} {h : Int} (hC : Cursor w g A cap zs i h) (hb : Below w.heap.size w w') : Cursor w' g A cap zs i h :=
  hC.kept fun k hk => hb.block k (by have := hC.lt; omega)
theorem sk_at (s : ByteArray) (a P n : Nat) (hA : At s a P) (hn : n ≤ 16) : At s (if n ≤ 8 * pkP s a P n - a then a + n else a) (pkP s a P n) := by
  obtain ⟨h1, h2, h3⟩ := (pkP_at s a P n hA).2
  split
  · exact ⟨h1, by omega, by omega⟩
  · exact ⟨h1, h2, h3⟩
/-- What a valid cache's numbers keep to. -/
theorem ck_range (s : ByteArray) (p y x : Int) (h : ckOk s p y x = true) : 0 ≤ p ∧ p ≤ (s.size : Int) ∧ 0 ≤ x ∧ x ≤ 56 ∧ 0 ≤ y ∧ y < 72057594037927936 := by
  obtain ⟨a, P, ⟨h1, h2, h3⟩, rfl, rfl, rfl⟩ := ckOk_at s p y x h
  have := rdN_lt' s a (8 * P - a) 56 h3
  exact ⟨by omega, by omega, by omega, by omega, by omega, by omega⟩
/-- Skipping again and again, as the draws do it. -/
theorem skips_det (A : Option Addr) (cap : Nat) (zs : List Int) (i : Nat) (h : Int) (hi : i ≤ zs.length) (s : ByteArray) (hs : s.size ≤ 1048576) : ∃ (fp fy fx : Nat → Int) (fi : Nat → Nat) (fh : Nat → Int),
    fp 0 = 0 ∧ fy 0 = 0 ∧ fx 0 = 0 ∧ fi 0 = i ∧ fh 0 = h ∧ (∀ t, fi t ≤ zs.length) ∧ (∀ t, ckOk s (fp t) (fy t) (fx t) = true) ∧
    ∀ t, ∃ (m : Int) (b : Bool), (∀ (w : World) (g : Nat), Cursor w g A cap zs (fi t) (fh t) →
        Calls Try.prog 92 #[.pointer (some ⟨g, 0, none⟩), .int .i64 12] w fun e w' => e = .returned (.int .i64 m) ∧ Cursor w' g A cap zs (fi (t + 1)) (fh (t + 1)) ∧ w.grownBy w' (some g)) ∧
      (∀ w : World, Calls Try.prog 37 #[.agg #[.string s, .int .i64 (fp t), .int .i64 (fy t), .int .i64 (fx t)], .int .i64 m] w fun e w' => e = .returned (.tuple #[.agg #[.string s, .int .i64 (fp (t + 1)), .int .i64 (fy (t + 1)), .int .i64 (fx (t + 1))], .bool b]) ∧ Below w.heap.size w w') := by
  obtain ⟨f, f0, fP, fR⟩ := seq_from (σ := Nat × Nat × Nat × Int) (fun q => At s q.1 q.2.1 ∧ q.2.2.1 ≤ zs.length) (fun q q' => ∃ (m : Int) (b : Bool), (∀ (w : World) (g : Nat), Cursor w g A cap zs q.2.2.1 q.2.2.2 →
        Calls Try.prog 92 #[.pointer (some ⟨g, 0, none⟩), .int .i64 12] w fun e w' => e = .returned (.int .i64 m) ∧ Cursor w' g A cap zs q'.2.2.1 q'.2.2.2 ∧ w.grownBy w' (some g)) ∧
      (∀ w : World, Calls Try.prog 37 #[cw s q.1 q.2.1, .int .i64 m] w fun e w' => e = .returned (.tuple #[cw s q'.1 q'.2.1, .bool b]) ∧ Below w.heap.size w w')) (0, 0, i, h) ⟨⟨Nat.zero_le _, Nat.le_refl _, Nat.zero_le _⟩, hi⟩ (fun q hq => by
      obtain ⟨x, j, g, x0, x9, _, l, CB⟩ := below_det A cap zs q.2.2.1 q.2.2.2 hq.2 12
      have x9 := x9 (by decide)
      obtain ⟨m, rfl⟩ := Int.eq_ofNat_of_zero_le x0
      exact ⟨(if m ≤ 8 * pkP s q.1 q.2.1 m - q.1 then q.1 + m else q.1, pkP s q.1 q.2.1 m, j, g), ⟨sk_at s q.1 q.2.1 m hq.1 (by omega), l⟩, (m : Int), _, CB, spec_skip_in s q.1 q.2.1 m hs hq.1 (by omega)⟩)
  refine ⟨fun t => ((f t).2.1 : Int), fun t => (rdN s (f t).1 (8 * (f t).2.1 - (f t).1) : Int), fun t => ((8 * (f t).2.1 - (f t).1 : Nat) : Int), fun t => (f t).2.2.1, fun t => (f t).2.2.2, by simp [f0], by simp [f0, rdN], by simp [f0], by simp [f0], by simp [f0], fun t => (fP t).2, fun t => ckOk_of s _ _ (fP t).1, fun t => fR t⟩

set_option maxRecDepth 100000 in
set_option maxHeartbeats 1600000 in
theorem l4cache_false0 (A : Option Addr) (cap : Nat) (zs : List Int) (i : Nat) (h : Int) (s : ByteArray) (at0 : Int) (i1 : Nat) (h1 : Int) (N : Nat) (i3 : Nat) (h3 : Int) (i4 : Nat) (h4 : Int) (fp fy fx : Nat → Int) (fi : Nat → Nat) (fh : Nat → Int) (p2 y2 x2 X : Int) (s8 : s.size ≤ 8) (N4 : N ≤ 4)
    (HR : Hid (∀ (w : World) (g : Nat), Cursor w g A cap zs i h → Calls Try.prog 96 #[.pointer (some ⟨g, 0, none⟩)] w fun e w' => e = .returned (.agg #[.string s, .int .i64 at0]) ∧ Cursor w' g A cap zs i1 h1 ∧ w.grownBy w' (some g)))
    (HN : Hid (∀ (w : World) (g : Nat), Cursor w g A cap zs i1 h1 → Calls Try.prog 92 #[.pointer (some ⟨g, 0, none⟩), .int .i64 5] w fun e w' => e = .returned (.int .i64 N) ∧ Cursor w' g A cap zs (fi 0) (fh 0) ∧ w.grownBy w' (some g)))
    (F0 : Hid (fp 0 = 0 ∧ fy 0 = 0 ∧ fx 0 = 0))
    (HF : Hid (∀ t, ∃ (m : Int) (b : Bool), (∀ (w : World) (g : Nat), Cursor w g A cap zs (fi t) (fh t) →
        Calls Try.prog 92 #[.pointer (some ⟨g, 0, none⟩), .int .i64 12] w fun e w' => e = .returned (.int .i64 m) ∧ Cursor w' g A cap zs (fi (t + 1)) (fh (t + 1)) ∧ w.grownBy w' (some g)) ∧
      (∀ w : World, Calls Try.prog 37 #[.agg #[.string s, .int .i64 (fp t), .int .i64 (fy t), .int .i64 (fx t)], .int .i64 m] w fun e w' => e = .returned (.tuple #[.agg #[.string s, .int .i64 (fp (t + 1)), .int .i64 (fy (t + 1)), .int .i64 (fx (t + 1))], .bool b]) ∧ Below w.heap.size w w')))
    (HO : Hid (∀ (w : World) (g : Nat), Cursor w g A cap zs (fi N) (fh N) → Calls Try.prog 61 #[.pointer (some ⟨g, 0, none⟩), .int .i64 3] w fun e w' => e = .returned (.bool false) ∧ Cursor w' g A cap zs i3 h3 ∧ w.grownBy w' (some g)))
    (HX : Hid (∀ (w : World) (g : Nat), Cursor w g A cap zs i3 h3 → Calls Try.prog 92 #[.pointer (some ⟨g, 0, none⟩), .int .i64 16] w fun e w' => e = .returned (.int .i64 X) ∧ Cursor w' g A cap zs i4 h4 ∧ w.grownBy w' (some g)))
    (HZ : Hid (p2 = fp N ∧ y2 = fy N ∧ x2 = fx N))
    (P0 : 0 ≤ p2) (P9 : p2 ≤ 8) (Y0 : 0 ≤ y2) (Y9 : y2 < 72057594037927936) (X0 : 0 ≤ x2) (X9 : x2 ≤ 56)
    (hX : X = 0) (w : World) (g : Nat) (hC : Cursor w g A cap zs i h) :
    Calls Try.prog 60 #[.pointer (some ⟨g, 0, none⟩)] w fun e w' => e = .returned (.agg #[.string s, .int .i64 p2, .int .i64 (y2 + 1), .int .i64 x2]) ∧ Cursor w' g A cap zs i4 h4 ∧ w.grownBy w' (some g) := by
  have hgw := hC.lt
  have HC := Lib.hid hC; clear hC
  have HNW := Lib.hid (spec_new_any s)
  unfold cv at HNW
  subst hX
  go_enter Try.func60, Try.ntmps60
  go_wp2_with fail
  refine (HR.out _ _ (HC.out.alloc _)).mono ?_
  rintro e w1 ⟨rfl, hC1, hg1⟩
  have G1 := Lib.hid hC1; clear hC1
  have R1 := Lib.hid (grown_at (heap_alloc_new w _) hg1 (by omega))
  have Q1 := Lib.hid ((World.grownBy_alloc w _ _).trans hg1); clear hg1
  go_wp2_with fail
  refine (HNW.out _).mono ?_
  rintro e w2 ⟨rfl, hb⟩
  have G2 := Lib.hid (cursor_below (G1.out.alloc _) hb)
  have R2 := Lib.hid (cell_kept (heap_keep' R1.out _) hb)
  have Q2 := Lib.hid ((grown_alloc Q1.out _).trans (below_grows hb _)); clear hb
  go_wp2_with fail
  refine (HN.out _ _ (G2.out.alloc _)).mono ?_
  rintro e w3 ⟨rfl, hC3, hg3⟩
  have hgx : g < w2.heap.size := G2.out.lt
  have G3 := Lib.hid hC3; clear hC3
  have R3 := Lib.hid (grown_at (heap_keep' R2.out _) hg3 (by omega))
  have X3 := Lib.hid (grown_at (heap_alloc_new w2 _) hg3 (by omega))
  have Q3 := Lib.hid ((grown_alloc Q2.out _).trans hg3); clear hg3
  have hxw : w.heap.size ≤ w2.heap.size := Q2.out.size
  have hxr : w.heap.size < w2.heap.size := heap_lt R2.out
  obtain ⟨x, hx⟩ : ∃ x, x = w2.heap.size := ⟨_, rfl⟩
  rw [← hx] at hgx X3 hxr hxw ⊢
  clear hx
  go_wp2
  go_loopw [5] (fun n wr => ∃ t : Nat, t ≤ N ∧ n = .int .i64 ((N : Int) - (t : Int)) ∧ Cursor wr g A cap zs (fi t) (fh t) ∧ w.grownBy wr (some g) ∧ wr.heap[w.heap.size]? = some (.cells #[.string ⟨#[]⟩, .int .i64 0, .int .i64 0, .int .i64 0] 25 (0, 0)) ∧
      wr.heap[x]? = some (.cells #[.string s, .int .i64 (fp t), .int .i64 (fy t), .int .i64 (fx t)] 25 (0, 0)))
    (fun n _ => (intOf n).toNat)
  case atStart => exact ⟨0, Nat.zero_le _, by simp, G3.out, Q3.out, R3.out, by rw [F0.out.1, F0.out.2.1, F0.out.2.2]; exact X3.out⟩
  case round =>
    obtain ⟨t, ht, rfl, hCr, hgr, hR, hX⟩ := hrel
    have GR := Lib.hid hCr; clear hCr
    have HGR := Lib.hid hgr; clear hgr
    have HRR := Lib.hid hR; clear hR
    have HXX := Lib.hid hX
    obtain ⟨c0, c1, c2, c3⟩ := cells4 hX
    obtain ⟨f0, f1, f2, f3⟩ := frozen4 hX
    clear hX
    by_cases hlt : t < N
    · obtain ⟨m, b, hc1, hc2⟩ := HF.out t
      have HA := Lib.hid hc1; have HS := Lib.hid hc2; clear hc1 hc2
      have hpos : 0 < (N : Int) - (t : Int) := by omega
      have hneg : x ≠ g := by omega
      go_wp2
      go_region_with (first | (go_at_call 92; refine (HA.out _ _ GR.out.drew).mono ?_; rintro e w4 ⟨rfl, hC4, hg4⟩; have x4 := @grown_at wr.drew _ _ _ _ HXX.out hg4 hneg; have r4 := @grown_at wr.drew _ _ _ _ HRR.out hg4 (by omega); have q4 := HGR.out.trans ((grown_drew (grown_refl wr _)).trans hg4); have G4 := Lib.hid hC4; have X4 := Lib.hid x4; have R4 := Lib.hid r4; have Q4 := Lib.hid q4; obtain ⟨i0, i1, i2, i3⟩ := cells4 x4; clear hC4 hg4 x4 r4 q4) | (go_at_call 37; refine (HS.out _).mono ?_; rintro e w5 ⟨rfl, hb5⟩; have G5 := Lib.hid (cursor_below G4.out hb5); have x5 := cell_kept X4.out hb5; have X5 := Lib.hid x5; have R5 := Lib.hid (cell_kept R4.out hb5); have Q5 := Lib.hid (Q4.out.trans (below_grows hb5 _)); obtain ⟨j0, j1, j2, j3⟩ := cells4 x5; obtain ⟨l0, l1, l2, l3⟩ := frozen4 x5; clear hb5 x5))
      all_goals
        have hput := put4_block X5.out s (fp (t + 1)) (fy (t + 1)) (fx (t + 1))
        have hoth := (put4_other (w := w5) (g := x) (k := w.heap.size) (by omega) s (fp (t + 1)) (fy (t + 1)) (fx (t + 1))).trans R5.out
        have hcur := G5.out.kept (w' := put4 w5 x s (fp (t + 1)) (fy (t + 1)) (fx (t + 1))) (fun k hk => put4_other (by omega) s _ _ _)
        have hgro := grown_new (grown_new (grown_new (grown_new Q5.out hxw 0 (.string s)) hxw 1 (.int .i64 (fp (t + 1)))) hxw 2 (.int .i64 (fy (t + 1)))) hxw 3 (.int .i64 (fx (t + 1)))
        have HP1 := Lib.hid hput; have HP2 := Lib.hid hoth; have HP3 := Lib.hid hcur; have HP4 := Lib.hid hgro
        clear hput hoth hcur hgro
        go_wp2
        go_roundw
        all_goals first
          | exact ⟨t + 1, by omega, by go_num, HP3.out, HP4.out, HP2.out, HP1.out⟩
          | (simp [intOf]; omega)
    · obtain rfl : t = N := by omega
      clear f0 f1 f2 f3
      go_wp2_with fail
      refine (HO.out _ _ GR.out).mono ?_
      rintro e w4 ⟨rfl, hC4, hg4⟩
      clear c0 c1 c2 c3
      have x4 := grown_at HXX.out hg4 (by omega)
      have r4 := grown_at HRR.out hg4 (by omega)
      have q4 := HGR.out.trans hg4
      have G4 := Lib.hid hC4; have X4 := Lib.hid x4; have R4 := Lib.hid r4; have Q4 := Lib.hid q4
      clear hC4 hg4 x4 r4 q4
      have x6 := X4.out
      rw [← HZ.out.1, ← HZ.out.2.1, ← HZ.out.2.2] at x6
      have X6 := Lib.hid x6; have R6 := R4; have G6 := G4; have Q6 := Q4
      clear x6 X4 R4 G4 Q4
      go_wp2_with fail
      refine (HX.out _ _ G6.out).mono ?_
      rintro e w7 ⟨rfl, hC7, hg7⟩
      have x7 := grown_at X6.out hg7 (by omega)
      have r7 := grown_at R6.out hg7 (by omega)
      have G7 := Lib.hid hC7; have X7 := Lib.hid x7; have R7 := Lib.hid r7; have Q7 := Lib.hid (Q6.out.trans hg7)
      clear hC7 hg7
      obtain ⟨c0, c1, c2, c3⟩ := cells4 x7
      obtain ⟨f0, f1, f2, f3⟩ := frozen4 x7
      obtain ⟨d0, d1, d2, d3⟩ := cells4 r7
      obtain ⟨g0, g1, g2, g3⟩ := frozen4 r7
      have hxr' : w.heap.size ≠ x := by omega
      clear x7 r7
      have hr9 : (w7.setCell ⟨x, 2, none⟩ (.int .i64 (y2 + 1))).heap[w.heap.size]? = some (.cells #[.string ⟨#[]⟩, .int .i64 0, .int .i64 0, .int .i64 0] 25 (0, 0)) := by
        rw [heap_setCell_other _ _ _ _ hxr']; exact R7.out
      have hc9 := cursor_new G7.out hgx 2 (.int .i64 (y2 + 1))
      have hq9 := grown_new Q7.out hxw 2 (.int .i64 (y2 + 1))
      have hout := put4_block hr9 s p2 (y2 + 1) x2
      obtain ⟨e0, e1, e2, e3⟩ := cells4 hout
      have hc10 := cursor_new (cursor_new (cursor_new (cursor_new hc9 hgw 0 (.string s)) hgw 1 (.int .i64 p2)) hgw 2 (.int .i64 (y2 + 1))) hgw 3 (.int .i64 x2)
      have hq10 := grown_new (grown_new (grown_new (grown_new hq9 (Nat.le_refl _) 0 (.string s)) (Nat.le_refl _) 1 (.int .i64 p2)) (Nat.le_refl _) 2 (.int .i64 (y2 + 1))) (Nat.le_refl _) 3 (.int .i64 x2)
      obtain ⟨wz, hwz⟩ : ∃ wz, wz = put4 (w7.setCell ⟨x, 2, none⟩ (.int .i64 (y2 + 1))) w.heap.size s p2 (y2 + 1) x2 := ⟨_, rfl⟩
      have HZ1 := Lib.hid (And.intro e0 (And.intro e1 (And.intro e2 e3)))
      have HZ2 := Lib.hid hc10; have HZ3 := Lib.hid hq10; have HWZ := Lib.hid hwz
      clear hr9 hc9 hq9 hout e0 e1 e2 e3 hc10 hq10 hwz
      go_wp2
      rw [show (((((w7.setCell ⟨x, 2, none⟩ (.int .i64 (y2 + 1)))).setCell ⟨w.heap.size, 0, none⟩ (.string s)).setCell ⟨w.heap.size, 1, none⟩ (.int .i64 p2)).setCell ⟨w.heap.size, 2, none⟩ (.int .i64 (y2 + 1))).setCell ⟨w.heap.size, 3, none⟩ (.int .i64 x2) = wz from HWZ.out.symm]
      have hz1 := HZ1.out
      have hz2 : Cursor (put4 (w7.setCell ⟨x, 2, none⟩ (.int .i64 (y2 + 1))) w.heap.size s p2 (y2 + 1) x2) g A cap zs i4 h4 := HZ2.out
      have hz3 : w.grownBy (put4 (w7.setCell ⟨x, 2, none⟩ (.int .i64 (y2 + 1))) w.heap.size s p2 (y2 + 1) x2) (some g) := HZ3.out
      rw [← HWZ.out] at hz1 hz2 hz3
      obtain ⟨e0, e1, e2, e3⟩ := hz1
      exact bodyPost_ret (v := .agg #[.string s, .int .i64 p2, .int .i64 (y2 + 1), .int .i64 x2]) (by simp [results, Try.results60, go_sem, e0, e1, e2, e3]) rfl ⟨rfl, hz2, hz3⟩

set_option maxRecDepth 100000 in
set_option maxHeartbeats 1600000 in
theorem l4cache_false1 (A : Option Addr) (cap : Nat) (zs : List Int) (i : Nat) (h : Int) (s : ByteArray) (at0 : Int) (i1 : Nat) (h1 : Int) (N : Nat) (i3 : Nat) (h3 : Int) (i4 : Nat) (h4 : Int) (fp fy fx : Nat → Int) (fi : Nat → Nat) (fh : Nat → Int) (p2 y2 x2 X : Int) (s8 : s.size ≤ 8) (N4 : N ≤ 4)
    (HR : Hid (∀ (w : World) (g : Nat), Cursor w g A cap zs i h → Calls Try.prog 96 #[.pointer (some ⟨g, 0, none⟩)] w fun e w' => e = .returned (.agg #[.string s, .int .i64 at0]) ∧ Cursor w' g A cap zs i1 h1 ∧ w.grownBy w' (some g)))
    (HN : Hid (∀ (w : World) (g : Nat), Cursor w g A cap zs i1 h1 → Calls Try.prog 92 #[.pointer (some ⟨g, 0, none⟩), .int .i64 5] w fun e w' => e = .returned (.int .i64 N) ∧ Cursor w' g A cap zs (fi 0) (fh 0) ∧ w.grownBy w' (some g)))
    (F0 : Hid (fp 0 = 0 ∧ fy 0 = 0 ∧ fx 0 = 0))
    (HF : Hid (∀ t, ∃ (m : Int) (b : Bool), (∀ (w : World) (g : Nat), Cursor w g A cap zs (fi t) (fh t) →
        Calls Try.prog 92 #[.pointer (some ⟨g, 0, none⟩), .int .i64 12] w fun e w' => e = .returned (.int .i64 m) ∧ Cursor w' g A cap zs (fi (t + 1)) (fh (t + 1)) ∧ w.grownBy w' (some g)) ∧
      (∀ w : World, Calls Try.prog 37 #[.agg #[.string s, .int .i64 (fp t), .int .i64 (fy t), .int .i64 (fx t)], .int .i64 m] w fun e w' => e = .returned (.tuple #[.agg #[.string s, .int .i64 (fp (t + 1)), .int .i64 (fy (t + 1)), .int .i64 (fx (t + 1))], .bool b]) ∧ Below w.heap.size w w')))
    (HO : Hid (∀ (w : World) (g : Nat), Cursor w g A cap zs (fi N) (fh N) → Calls Try.prog 61 #[.pointer (some ⟨g, 0, none⟩), .int .i64 3] w fun e w' => e = .returned (.bool false) ∧ Cursor w' g A cap zs i3 h3 ∧ w.grownBy w' (some g)))
    (HX : Hid (∀ (w : World) (g : Nat), Cursor w g A cap zs i3 h3 → Calls Try.prog 92 #[.pointer (some ⟨g, 0, none⟩), .int .i64 16] w fun e w' => e = .returned (.int .i64 X) ∧ Cursor w' g A cap zs i4 h4 ∧ w.grownBy w' (some g)))
    (HZ : Hid (p2 = fp N ∧ y2 = fy N ∧ x2 = fx N))
    (P0 : 0 ≤ p2) (P9 : p2 ≤ 8) (Y0 : 0 ≤ y2) (Y9 : y2 < 72057594037927936) (X0 : 0 ≤ x2) (X9 : x2 ≤ 56)
    (i5 : Nat) (h5 : Int) (u : Int) (HP : Hid (∀ (w : World) (g gl : Nat), Cursor w g A cap zs i4 h4 → w.heap[gl]? = some (.cells #[.int .i64 (-1), .int .i64 (x2 + 1), .int .i64 57] 3 (0, 0)) → gl ≠ g →
      Calls Try.prog 97 #[.pointer (some ⟨g, 0, none⟩), .slice (some ⟨gl, 0, none⟩) 3 3] w fun e w' => e = .returned (.int .i64 u) ∧ Cursor w' g A cap zs i5 h5 ∧ w.grownBy w' (some g)))
    (hX : X = 1) (w : World) (g : Nat) (hC : Cursor w g A cap zs i h) :
    Calls Try.prog 60 #[.pointer (some ⟨g, 0, none⟩)] w fun e w' => e = .returned (.agg #[.string s, .int .i64 p2, .int .i64 y2, .int .i64 u]) ∧ Cursor w' g A cap zs i5 h5 ∧ w.grownBy w' (some g) := by
  have hgw := hC.lt
  have HC := Lib.hid hC; clear hC
  have HNW := Lib.hid (spec_new_any s)
  unfold cv at HNW
  subst hX
  go_enter Try.func60, Try.ntmps60
  go_wp2_with fail
  refine (HR.out _ _ (HC.out.alloc _)).mono ?_
  rintro e w1 ⟨rfl, hC1, hg1⟩
  have G1 := Lib.hid hC1; clear hC1
  have R1 := Lib.hid (grown_at (heap_alloc_new w _) hg1 (by omega))
  have Q1 := Lib.hid ((World.grownBy_alloc w _ _).trans hg1); clear hg1
  go_wp2_with fail
  refine (HNW.out _).mono ?_
  rintro e w2 ⟨rfl, hb⟩
  have G2 := Lib.hid (cursor_below (G1.out.alloc _) hb)
  have R2 := Lib.hid (cell_kept (heap_keep' R1.out _) hb)
  have Q2 := Lib.hid ((grown_alloc Q1.out _).trans (below_grows hb _)); clear hb
  go_wp2_with fail
  refine (HN.out _ _ (G2.out.alloc _)).mono ?_
  rintro e w3 ⟨rfl, hC3, hg3⟩
  have hgx : g < w2.heap.size := G2.out.lt
  have G3 := Lib.hid hC3; clear hC3
  have R3 := Lib.hid (grown_at (heap_keep' R2.out _) hg3 (by omega))
  have X3 := Lib.hid (grown_at (heap_alloc_new w2 _) hg3 (by omega))
  have Q3 := Lib.hid ((grown_alloc Q2.out _).trans hg3); clear hg3
  have hxw : w.heap.size ≤ w2.heap.size := Q2.out.size
  have hxr : w.heap.size < w2.heap.size := heap_lt R2.out
  obtain ⟨x, hx⟩ : ∃ x, x = w2.heap.size := ⟨_, rfl⟩
  rw [← hx] at hgx X3 hxr hxw ⊢
  clear hx
  go_wp2
  go_loopw [5] (fun n wr => ∃ t : Nat, t ≤ N ∧ n = .int .i64 ((N : Int) - (t : Int)) ∧ Cursor wr g A cap zs (fi t) (fh t) ∧ w.grownBy wr (some g) ∧ wr.heap[w.heap.size]? = some (.cells #[.string ⟨#[]⟩, .int .i64 0, .int .i64 0, .int .i64 0] 25 (0, 0)) ∧
      wr.heap[x]? = some (.cells #[.string s, .int .i64 (fp t), .int .i64 (fy t), .int .i64 (fx t)] 25 (0, 0)))
    (fun n _ => (intOf n).toNat)
  case atStart => exact ⟨0, Nat.zero_le _, by simp, G3.out, Q3.out, R3.out, by rw [F0.out.1, F0.out.2.1, F0.out.2.2]; exact X3.out⟩
  case round =>
    obtain ⟨t, ht, rfl, hCr, hgr, hR, hX⟩ := hrel
    have GR := Lib.hid hCr; clear hCr
    have HGR := Lib.hid hgr; clear hgr
    have HRR := Lib.hid hR; clear hR
    have HXX := Lib.hid hX
    obtain ⟨c0, c1, c2, c3⟩ := cells4 hX
    obtain ⟨f0, f1, f2, f3⟩ := frozen4 hX
    clear hX
    by_cases hlt : t < N
    · obtain ⟨m, b, hc1, hc2⟩ := HF.out t
      have HA := Lib.hid hc1; have HS := Lib.hid hc2; clear hc1 hc2
      have hpos : 0 < (N : Int) - (t : Int) := by omega
      have hneg : x ≠ g := by omega
      go_wp2
      go_region_with (first | (go_at_call 92; refine (HA.out _ _ GR.out.drew).mono ?_; rintro e w4 ⟨rfl, hC4, hg4⟩; have x4 := @grown_at wr.drew _ _ _ _ HXX.out hg4 hneg; have r4 := @grown_at wr.drew _ _ _ _ HRR.out hg4 (by omega); have q4 := HGR.out.trans ((grown_drew (grown_refl wr _)).trans hg4); have G4 := Lib.hid hC4; have X4 := Lib.hid x4; have R4 := Lib.hid r4; have Q4 := Lib.hid q4; obtain ⟨i0, i1, i2, i3⟩ := cells4 x4; clear hC4 hg4 x4 r4 q4) | (go_at_call 37; refine (HS.out _).mono ?_; rintro e w5 ⟨rfl, hb5⟩; have G5 := Lib.hid (cursor_below G4.out hb5); have x5 := cell_kept X4.out hb5; have X5 := Lib.hid x5; have R5 := Lib.hid (cell_kept R4.out hb5); have Q5 := Lib.hid (Q4.out.trans (below_grows hb5 _)); obtain ⟨j0, j1, j2, j3⟩ := cells4 x5; obtain ⟨l0, l1, l2, l3⟩ := frozen4 x5; clear hb5 x5))
      all_goals
        have hput := put4_block X5.out s (fp (t + 1)) (fy (t + 1)) (fx (t + 1))
        have hoth := (put4_other (w := w5) (g := x) (k := w.heap.size) (by omega) s (fp (t + 1)) (fy (t + 1)) (fx (t + 1))).trans R5.out
        have hcur := G5.out.kept (w' := put4 w5 x s (fp (t + 1)) (fy (t + 1)) (fx (t + 1))) (fun k hk => put4_other (by omega) s _ _ _)
        have hgro := grown_new (grown_new (grown_new (grown_new Q5.out hxw 0 (.string s)) hxw 1 (.int .i64 (fp (t + 1)))) hxw 2 (.int .i64 (fy (t + 1)))) hxw 3 (.int .i64 (fx (t + 1)))
        have HP1 := Lib.hid hput; have HP2 := Lib.hid hoth; have HP3 := Lib.hid hcur; have HP4 := Lib.hid hgro
        clear hput hoth hcur hgro
        go_wp2
        go_roundw
        all_goals first
          | exact ⟨t + 1, by omega, by go_num, HP3.out, HP4.out, HP2.out, HP1.out⟩
          | (simp [intOf]; omega)
    · obtain rfl : t = N := by omega
      clear f0 f1 f2 f3
      go_wp2_with fail
      refine (HO.out _ _ GR.out).mono ?_
      rintro e w4 ⟨rfl, hC4, hg4⟩
      clear c0 c1 c2 c3
      have x4 := grown_at HXX.out hg4 (by omega)
      have r4 := grown_at HRR.out hg4 (by omega)
      have q4 := HGR.out.trans hg4
      have G4 := Lib.hid hC4; have X4 := Lib.hid x4; have R4 := Lib.hid r4; have Q4 := Lib.hid q4
      clear hC4 hg4 x4 r4 q4
      have x6 := X4.out
      rw [← HZ.out.1, ← HZ.out.2.1, ← HZ.out.2.2] at x6
      have X6 := Lib.hid x6; have R6 := R4; have G6 := G4; have Q6 := Q4
      clear x6 X4 R4 G4 Q4
      go_wp2_with fail
      refine (HX.out _ _ G6.out).mono ?_
      rintro e w7 ⟨rfl, hC7, hg7⟩
      have x7 := grown_at X6.out hg7 (by omega)
      have r7 := grown_at R6.out hg7 (by omega)
      have G7 := Lib.hid hC7; have X7 := Lib.hid x7; have R7 := Lib.hid r7; have Q7 := Lib.hid (Q6.out.trans hg7)
      clear hC7 hg7
      obtain ⟨c0, c1, c2, c3⟩ := cells4 x7
      obtain ⟨f0, f1, f2, f3⟩ := frozen4 x7
      obtain ⟨d0, d1, d2, d3⟩ := cells4 r7
      obtain ⟨g0, g1, g2, g3⟩ := frozen4 r7
      have hxr' : w.heap.size ≠ x := by omega
      clear x7 r7
      go_wp2_with fail
      refine (HP.out _ _ _ (G7.out.alloc _) (heap_alloc_new w7 _) (by have := G7.out.lt; omega)).mono ?_
      rintro e w8 ⟨rfl, hC8, hg8⟩
      clear c0 c1 c2 c3 f0 f1 f2 f3 d0 d1 d2 d3 g0 g1 g2 g3
      have x8 := grown_at (heap_keep' X7.out _) hg8 (by omega)
      have r8 := grown_at (heap_keep' R7.out _) hg8 (by omega)
      have G8 := Lib.hid hC8; have X8 := Lib.hid x8; have R8 := Lib.hid r8; have Q8 := Lib.hid ((grown_alloc Q7.out _).trans hg8)
      clear hC8 hg8
      obtain ⟨c0, c1, c2, c3⟩ := cells4 x8
      obtain ⟨f0, f1, f2, f3⟩ := frozen4 x8
      obtain ⟨d0, d1, d2, d3⟩ := cells4 r8
      obtain ⟨g0, g1, g2, g3⟩ := frozen4 r8
      clear x8 r8
      have hr9 : (w8.setCell ⟨x, 3, none⟩ (.int .i64 u)).heap[w.heap.size]? = some (.cells #[.string ⟨#[]⟩, .int .i64 0, .int .i64 0, .int .i64 0] 25 (0, 0)) := by
        rw [heap_setCell_other _ _ _ _ hxr']; exact R8.out
      have hc9 := cursor_new G8.out hgx 3 (.int .i64 u)
      have hq9 := grown_new Q8.out hxw 3 (.int .i64 u)
      have hout := put4_block hr9 s p2 y2 u
      obtain ⟨e0, e1, e2, e3⟩ := cells4 hout
      have hc10 := cursor_new (cursor_new (cursor_new (cursor_new hc9 hgw 0 (.string s)) hgw 1 (.int .i64 p2)) hgw 2 (.int .i64 y2)) hgw 3 (.int .i64 u)
      have hq10 := grown_new (grown_new (grown_new (grown_new hq9 (Nat.le_refl _) 0 (.string s)) (Nat.le_refl _) 1 (.int .i64 p2)) (Nat.le_refl _) 2 (.int .i64 y2)) (Nat.le_refl _) 3 (.int .i64 u)
      obtain ⟨wz, hwz⟩ : ∃ wz, wz = put4 (w8.setCell ⟨x, 3, none⟩ (.int .i64 u)) w.heap.size s p2 y2 u := ⟨_, rfl⟩
      have HZ1 := Lib.hid (And.intro e0 (And.intro e1 (And.intro e2 e3)))
      have HZ2 := Lib.hid hc10; have HZ3 := Lib.hid hq10; have HWZ := Lib.hid hwz
      clear hr9 hc9 hq9 hout e0 e1 e2 e3 hc10 hq10 hwz
      go_wp2
      rw [show (((((w8.setCell ⟨x, 3, none⟩ (.int .i64 u))).setCell ⟨w.heap.size, 0, none⟩ (.string s)).setCell ⟨w.heap.size, 1, none⟩ (.int .i64 p2)).setCell ⟨w.heap.size, 2, none⟩ (.int .i64 y2)).setCell ⟨w.heap.size, 3, none⟩ (.int .i64 u) = wz from HWZ.out.symm]
      have hz1 := HZ1.out
      have hz2 : Cursor (put4 (w8.setCell ⟨x, 3, none⟩ (.int .i64 u)) w.heap.size s p2 y2 u) g A cap zs i5 h5 := HZ2.out
      have hz3 : w.grownBy (put4 (w8.setCell ⟨x, 3, none⟩ (.int .i64 u)) w.heap.size s p2 y2 u) (some g) := HZ3.out
      rw [← HWZ.out] at hz1 hz2 hz3
      obtain ⟨e0, e1, e2, e3⟩ := hz1
      exact bodyPost_ret (v := .agg #[.string s, .int .i64 p2, .int .i64 y2, .int .i64 u]) (by simp [results, Try.results60, go_sem, e0, e1, e2, e3]) rfl ⟨rfl, hz2, hz3⟩

set_option maxRecDepth 100000 in
set_option maxHeartbeats 1600000 in
theorem l4cache_false2 (A : Option Addr) (cap : Nat) (zs : List Int) (i : Nat) (h : Int) (s : ByteArray) (at0 : Int) (i1 : Nat) (h1 : Int) (N : Nat) (i3 : Nat) (h3 : Int) (i4 : Nat) (h4 : Int) (fp fy fx : Nat → Int) (fi : Nat → Nat) (fh : Nat → Int) (p2 y2 x2 X : Int) (s8 : s.size ≤ 8) (N4 : N ≤ 4)
    (HR : Hid (∀ (w : World) (g : Nat), Cursor w g A cap zs i h → Calls Try.prog 96 #[.pointer (some ⟨g, 0, none⟩)] w fun e w' => e = .returned (.agg #[.string s, .int .i64 at0]) ∧ Cursor w' g A cap zs i1 h1 ∧ w.grownBy w' (some g)))
    (HN : Hid (∀ (w : World) (g : Nat), Cursor w g A cap zs i1 h1 → Calls Try.prog 92 #[.pointer (some ⟨g, 0, none⟩), .int .i64 5] w fun e w' => e = .returned (.int .i64 N) ∧ Cursor w' g A cap zs (fi 0) (fh 0) ∧ w.grownBy w' (some g)))
    (F0 : Hid (fp 0 = 0 ∧ fy 0 = 0 ∧ fx 0 = 0))
    (HF : Hid (∀ t, ∃ (m : Int) (b : Bool), (∀ (w : World) (g : Nat), Cursor w g A cap zs (fi t) (fh t) →
        Calls Try.prog 92 #[.pointer (some ⟨g, 0, none⟩), .int .i64 12] w fun e w' => e = .returned (.int .i64 m) ∧ Cursor w' g A cap zs (fi (t + 1)) (fh (t + 1)) ∧ w.grownBy w' (some g)) ∧
      (∀ w : World, Calls Try.prog 37 #[.agg #[.string s, .int .i64 (fp t), .int .i64 (fy t), .int .i64 (fx t)], .int .i64 m] w fun e w' => e = .returned (.tuple #[.agg #[.string s, .int .i64 (fp (t + 1)), .int .i64 (fy (t + 1)), .int .i64 (fx (t + 1))], .bool b]) ∧ Below w.heap.size w w')))
    (HO : Hid (∀ (w : World) (g : Nat), Cursor w g A cap zs (fi N) (fh N) → Calls Try.prog 61 #[.pointer (some ⟨g, 0, none⟩), .int .i64 3] w fun e w' => e = .returned (.bool false) ∧ Cursor w' g A cap zs i3 h3 ∧ w.grownBy w' (some g)))
    (HX : Hid (∀ (w : World) (g : Nat), Cursor w g A cap zs i3 h3 → Calls Try.prog 92 #[.pointer (some ⟨g, 0, none⟩), .int .i64 16] w fun e w' => e = .returned (.int .i64 X) ∧ Cursor w' g A cap zs i4 h4 ∧ w.grownBy w' (some g)))
    (HZ : Hid (p2 = fp N ∧ y2 = fy N ∧ x2 = fx N))
    (P0 : 0 ≤ p2) (P9 : p2 ≤ 8) (Y0 : 0 ≤ y2) (Y9 : y2 < 72057594037927936) (X0 : 0 ≤ x2) (X9 : x2 ≤ 56)
    (i5 : Nat) (h5 : Int) (u : Int) (HP : Hid (∀ (w : World) (g gl : Nat), Cursor w g A cap zs i4 h4 → w.heap[gl]? = some (.cells #[.int .i64 (-1), .int .i64 (p2 + 1), .int .i64 ((s.size : Int) + 1)] 3 (0, 0)) → gl ≠ g →
      Calls Try.prog 97 #[.pointer (some ⟨g, 0, none⟩), .slice (some ⟨gl, 0, none⟩) 3 3] w fun e w' => e = .returned (.int .i64 u) ∧ Cursor w' g A cap zs i5 h5 ∧ w.grownBy w' (some g)))
    (hX : X = 2) (w : World) (g : Nat) (hC : Cursor w g A cap zs i h) :
    Calls Try.prog 60 #[.pointer (some ⟨g, 0, none⟩)] w fun e w' => e = .returned (.agg #[.string s, .int .i64 u, .int .i64 y2, .int .i64 x2]) ∧ Cursor w' g A cap zs i5 h5 ∧ w.grownBy w' (some g) := by
  have hgw := hC.lt
  have HC := Lib.hid hC; clear hC
  have HNW := Lib.hid (spec_new_any s)
  unfold cv at HNW
  subst hX
  go_enter Try.func60, Try.ntmps60
  go_wp2_with fail
  refine (HR.out _ _ (HC.out.alloc _)).mono ?_
  rintro e w1 ⟨rfl, hC1, hg1⟩
  have G1 := Lib.hid hC1; clear hC1
  have R1 := Lib.hid (grown_at (heap_alloc_new w _) hg1 (by omega))
  have Q1 := Lib.hid ((World.grownBy_alloc w _ _).trans hg1); clear hg1
  go_wp2_with fail
  refine (HNW.out _).mono ?_
  rintro e w2 ⟨rfl, hb⟩
  have G2 := Lib.hid (cursor_below (G1.out.alloc _) hb)
  have R2 := Lib.hid (cell_kept (heap_keep' R1.out _) hb)
  have Q2 := Lib.hid ((grown_alloc Q1.out _).trans (below_grows hb _)); clear hb
  go_wp2_with fail
  refine (HN.out _ _ (G2.out.alloc _)).mono ?_
  rintro e w3 ⟨rfl, hC3, hg3⟩
  have hgx : g < w2.heap.size := G2.out.lt
  have G3 := Lib.hid hC3; clear hC3
  have R3 := Lib.hid (grown_at (heap_keep' R2.out _) hg3 (by omega))
  have X3 := Lib.hid (grown_at (heap_alloc_new w2 _) hg3 (by omega))
  have Q3 := Lib.hid ((grown_alloc Q2.out _).trans hg3); clear hg3
  have hxw : w.heap.size ≤ w2.heap.size := Q2.out.size
  have hxr : w.heap.size < w2.heap.size := heap_lt R2.out
  obtain ⟨x, hx⟩ : ∃ x, x = w2.heap.size := ⟨_, rfl⟩
  rw [← hx] at hgx X3 hxr hxw ⊢
  clear hx
  go_wp2
  go_loopw [5] (fun n wr => ∃ t : Nat, t ≤ N ∧ n = .int .i64 ((N : Int) - (t : Int)) ∧ Cursor wr g A cap zs (fi t) (fh t) ∧ w.grownBy wr (some g) ∧ wr.heap[w.heap.size]? = some (.cells #[.string ⟨#[]⟩, .int .i64 0, .int .i64 0, .int .i64 0] 25 (0, 0)) ∧
      wr.heap[x]? = some (.cells #[.string s, .int .i64 (fp t), .int .i64 (fy t), .int .i64 (fx t)] 25 (0, 0)))
    (fun n _ => (intOf n).toNat)
  case atStart => exact ⟨0, Nat.zero_le _, by simp, G3.out, Q3.out, R3.out, by rw [F0.out.1, F0.out.2.1, F0.out.2.2]; exact X3.out⟩
  case round =>
    obtain ⟨t, ht, rfl, hCr, hgr, hR, hX⟩ := hrel
    have GR := Lib.hid hCr; clear hCr
    have HGR := Lib.hid hgr; clear hgr
    have HRR := Lib.hid hR; clear hR
    have HXX := Lib.hid hX
    obtain ⟨c0, c1, c2, c3⟩ := cells4 hX
    obtain ⟨f0, f1, f2, f3⟩ := frozen4 hX
    clear hX
    by_cases hlt : t < N
    · obtain ⟨m, b, hc1, hc2⟩ := HF.out t
      have HA := Lib.hid hc1; have HS := Lib.hid hc2; clear hc1 hc2
      have hpos : 0 < (N : Int) - (t : Int) := by omega
      have hneg : x ≠ g := by omega
      go_wp2
      go_region_with (first | (go_at_call 92; refine (HA.out _ _ GR.out.drew).mono ?_; rintro e w4 ⟨rfl, hC4, hg4⟩; have x4 := @grown_at wr.drew _ _ _ _ HXX.out hg4 hneg; have r4 := @grown_at wr.drew _ _ _ _ HRR.out hg4 (by omega); have q4 := HGR.out.trans ((grown_drew (grown_refl wr _)).trans hg4); have G4 := Lib.hid hC4; have X4 := Lib.hid x4; have R4 := Lib.hid r4; have Q4 := Lib.hid q4; obtain ⟨i0, i1, i2, i3⟩ := cells4 x4; clear hC4 hg4 x4 r4 q4) | (go_at_call 37; refine (HS.out _).mono ?_; rintro e w5 ⟨rfl, hb5⟩; have G5 := Lib.hid (cursor_below G4.out hb5); have x5 := cell_kept X4.out hb5; have X5 := Lib.hid x5; have R5 := Lib.hid (cell_kept R4.out hb5); have Q5 := Lib.hid (Q4.out.trans (below_grows hb5 _)); obtain ⟨j0, j1, j2, j3⟩ := cells4 x5; obtain ⟨l0, l1, l2, l3⟩ := frozen4 x5; clear hb5 x5))
      all_goals
        have hput := put4_block X5.out s (fp (t + 1)) (fy (t + 1)) (fx (t + 1))
        have hoth := (put4_other (w := w5) (g := x) (k := w.heap.size) (by omega) s (fp (t + 1)) (fy (t + 1)) (fx (t + 1))).trans R5.out
        have hcur := G5.out.kept (w' := put4 w5 x s (fp (t + 1)) (fy (t + 1)) (fx (t + 1))) (fun k hk => put4_other (by omega) s _ _ _)
        have hgro := grown_new (grown_new (grown_new (grown_new Q5.out hxw 0 (.string s)) hxw 1 (.int .i64 (fp (t + 1)))) hxw 2 (.int .i64 (fy (t + 1)))) hxw 3 (.int .i64 (fx (t + 1)))
        have HP1 := Lib.hid hput; have HP2 := Lib.hid hoth; have HP3 := Lib.hid hcur; have HP4 := Lib.hid hgro
        clear hput hoth hcur hgro
        go_wp2
        go_roundw
        all_goals first
          | exact ⟨t + 1, by omega, by go_num, HP3.out, HP4.out, HP2.out, HP1.out⟩
          | (simp [intOf]; omega)
    · obtain rfl : t = N := by omega
      clear f0 f1 f2 f3
      go_wp2_with fail
      refine (HO.out _ _ GR.out).mono ?_
      rintro e w4 ⟨rfl, hC4, hg4⟩
      clear c0 c1 c2 c3
      have x4 := grown_at HXX.out hg4 (by omega)
      have r4 := grown_at HRR.out hg4 (by omega)
      have q4 := HGR.out.trans hg4
      have G4 := Lib.hid hC4; have X4 := Lib.hid x4; have R4 := Lib.hid r4; have Q4 := Lib.hid q4
      clear hC4 hg4 x4 r4 q4
      have x6 := X4.out
      rw [← HZ.out.1, ← HZ.out.2.1, ← HZ.out.2.2] at x6
      have X6 := Lib.hid x6; have R6 := R4; have G6 := G4; have Q6 := Q4
      clear x6 X4 R4 G4 Q4
      go_wp2_with fail
      refine (HX.out _ _ G6.out).mono ?_
      rintro e w7 ⟨rfl, hC7, hg7⟩
      have x7 := grown_at X6.out hg7 (by omega)
      have r7 := grown_at R6.out hg7 (by omega)
      have G7 := Lib.hid hC7; have X7 := Lib.hid x7; have R7 := Lib.hid r7; have Q7 := Lib.hid (Q6.out.trans hg7)
      clear hC7 hg7
      obtain ⟨c0, c1, c2, c3⟩ := cells4 x7
      obtain ⟨f0, f1, f2, f3⟩ := frozen4 x7
      obtain ⟨d0, d1, d2, d3⟩ := cells4 r7
      obtain ⟨g0, g1, g2, g3⟩ := frozen4 r7
      have hxr' : w.heap.size ≠ x := by omega
      clear x7 r7
      go_wp2_with fail
      refine (HP.out _ _ _ (G7.out.alloc _) (heap_alloc_new w7 _) (by have := G7.out.lt; omega)).mono ?_
      rintro e w8 ⟨rfl, hC8, hg8⟩
      clear c0 c1 c2 c3 f0 f1 f2 f3 d0 d1 d2 d3 g0 g1 g2 g3
      have x8 := grown_at (heap_keep' X7.out _) hg8 (by omega)
      have r8 := grown_at (heap_keep' R7.out _) hg8 (by omega)
      have G8 := Lib.hid hC8; have X8 := Lib.hid x8; have R8 := Lib.hid r8; have Q8 := Lib.hid ((grown_alloc Q7.out _).trans hg8)
      clear hC8 hg8
      obtain ⟨c0, c1, c2, c3⟩ := cells4 x8
      obtain ⟨f0, f1, f2, f3⟩ := frozen4 x8
      obtain ⟨d0, d1, d2, d3⟩ := cells4 r8
      obtain ⟨g0, g1, g2, g3⟩ := frozen4 r8
      clear x8 r8
      have hr9 : (w8.setCell ⟨x, 1, none⟩ (.int .i64 u)).heap[w.heap.size]? = some (.cells #[.string ⟨#[]⟩, .int .i64 0, .int .i64 0, .int .i64 0] 25 (0, 0)) := by
        rw [heap_setCell_other _ _ _ _ hxr']; exact R8.out
      have hc9 := cursor_new G8.out hgx 1 (.int .i64 u)
      have hq9 := grown_new Q8.out hxw 1 (.int .i64 u)
      have hout := put4_block hr9 s u y2 x2
      obtain ⟨e0, e1, e2, e3⟩ := cells4 hout
      have hc10 := cursor_new (cursor_new (cursor_new (cursor_new hc9 hgw 0 (.string s)) hgw 1 (.int .i64 u)) hgw 2 (.int .i64 y2)) hgw 3 (.int .i64 x2)
      have hq10 := grown_new (grown_new (grown_new (grown_new hq9 (Nat.le_refl _) 0 (.string s)) (Nat.le_refl _) 1 (.int .i64 u)) (Nat.le_refl _) 2 (.int .i64 y2)) (Nat.le_refl _) 3 (.int .i64 x2)
      obtain ⟨wz, hwz⟩ : ∃ wz, wz = put4 (w8.setCell ⟨x, 1, none⟩ (.int .i64 u)) w.heap.size s u y2 x2 := ⟨_, rfl⟩
      have HZ1 := Lib.hid (And.intro e0 (And.intro e1 (And.intro e2 e3)))
      have HZ2 := Lib.hid hc10; have HZ3 := Lib.hid hq10; have HWZ := Lib.hid hwz
      clear hr9 hc9 hq9 hout e0 e1 e2 e3 hc10 hq10 hwz
      go_wp2
      rw [show (((((w8.setCell ⟨x, 1, none⟩ (.int .i64 u))).setCell ⟨w.heap.size, 0, none⟩ (.string s)).setCell ⟨w.heap.size, 1, none⟩ (.int .i64 u)).setCell ⟨w.heap.size, 2, none⟩ (.int .i64 y2)).setCell ⟨w.heap.size, 3, none⟩ (.int .i64 x2) = wz from HWZ.out.symm]
      have hz1 := HZ1.out
      have hz2 : Cursor (put4 (w8.setCell ⟨x, 1, none⟩ (.int .i64 u)) w.heap.size s u y2 x2) g A cap zs i5 h5 := HZ2.out
      have hz3 : w.grownBy (put4 (w8.setCell ⟨x, 1, none⟩ (.int .i64 u)) w.heap.size s u y2 x2) (some g) := HZ3.out
      rw [← HWZ.out] at hz1 hz2 hz3
      obtain ⟨e0, e1, e2, e3⟩ := hz1
      exact bodyPost_ret (v := .agg #[.string s, .int .i64 u, .int .i64 y2, .int .i64 x2]) (by simp [results, Try.results60, go_sem, e0, e1, e2, e3]) rfl ⟨rfl, hz2, hz3⟩

set_option maxRecDepth 100000 in
set_option maxHeartbeats 1600000 in
theorem l4cache_false3 (A : Option Addr) (cap : Nat) (zs : List Int) (i : Nat) (h : Int) (s : ByteArray) (at0 : Int) (i1 : Nat) (h1 : Int) (N : Nat) (i3 : Nat) (h3 : Int) (i4 : Nat) (h4 : Int) (fp fy fx : Nat → Int) (fi : Nat → Nat) (fh : Nat → Int) (p2 y2 x2 X : Int) (s8 : s.size ≤ 8) (N4 : N ≤ 4)
    (HR : Hid (∀ (w : World) (g : Nat), Cursor w g A cap zs i h → Calls Try.prog 96 #[.pointer (some ⟨g, 0, none⟩)] w fun e w' => e = .returned (.agg #[.string s, .int .i64 at0]) ∧ Cursor w' g A cap zs i1 h1 ∧ w.grownBy w' (some g)))
    (HN : Hid (∀ (w : World) (g : Nat), Cursor w g A cap zs i1 h1 → Calls Try.prog 92 #[.pointer (some ⟨g, 0, none⟩), .int .i64 5] w fun e w' => e = .returned (.int .i64 N) ∧ Cursor w' g A cap zs (fi 0) (fh 0) ∧ w.grownBy w' (some g)))
    (F0 : Hid (fp 0 = 0 ∧ fy 0 = 0 ∧ fx 0 = 0))
    (HF : Hid (∀ t, ∃ (m : Int) (b : Bool), (∀ (w : World) (g : Nat), Cursor w g A cap zs (fi t) (fh t) →
        Calls Try.prog 92 #[.pointer (some ⟨g, 0, none⟩), .int .i64 12] w fun e w' => e = .returned (.int .i64 m) ∧ Cursor w' g A cap zs (fi (t + 1)) (fh (t + 1)) ∧ w.grownBy w' (some g)) ∧
      (∀ w : World, Calls Try.prog 37 #[.agg #[.string s, .int .i64 (fp t), .int .i64 (fy t), .int .i64 (fx t)], .int .i64 m] w fun e w' => e = .returned (.tuple #[.agg #[.string s, .int .i64 (fp (t + 1)), .int .i64 (fy (t + 1)), .int .i64 (fx (t + 1))], .bool b]) ∧ Below w.heap.size w w')))
    (HO : Hid (∀ (w : World) (g : Nat), Cursor w g A cap zs (fi N) (fh N) → Calls Try.prog 61 #[.pointer (some ⟨g, 0, none⟩), .int .i64 3] w fun e w' => e = .returned (.bool false) ∧ Cursor w' g A cap zs i3 h3 ∧ w.grownBy w' (some g)))
    (HX : Hid (∀ (w : World) (g : Nat), Cursor w g A cap zs i3 h3 → Calls Try.prog 92 #[.pointer (some ⟨g, 0, none⟩), .int .i64 16] w fun e w' => e = .returned (.int .i64 X) ∧ Cursor w' g A cap zs i4 h4 ∧ w.grownBy w' (some g)))
    (HZ : Hid (p2 = fp N ∧ y2 = fy N ∧ x2 = fx N))
    (P0 : 0 ≤ p2) (P9 : p2 ≤ 8) (Y0 : 0 ≤ y2) (Y9 : y2 < 72057594037927936) (X0 : 0 ≤ x2) (X9 : x2 ≤ 56)
    (hX : 3 ≤ X) (w : World) (g : Nat) (hC : Cursor w g A cap zs i h) :
    Calls Try.prog 60 #[.pointer (some ⟨g, 0, none⟩)] w fun e w' => e = .returned (.agg #[.string s, .int .i64 p2, .int .i64 y2, .int .i64 x2]) ∧ Cursor w' g A cap zs i4 h4 ∧ w.grownBy w' (some g) := by
  have hgw := hC.lt
  have HC := Lib.hid hC; clear hC
  have HNW := Lib.hid (spec_new_any s)
  unfold cv at HNW
  go_enter Try.func60, Try.ntmps60
  go_wp2_with fail
  refine (HR.out _ _ (HC.out.alloc _)).mono ?_
  rintro e w1 ⟨rfl, hC1, hg1⟩
  have G1 := Lib.hid hC1; clear hC1
  have R1 := Lib.hid (grown_at (heap_alloc_new w _) hg1 (by omega))
  have Q1 := Lib.hid ((World.grownBy_alloc w _ _).trans hg1); clear hg1
  go_wp2_with fail
  refine (HNW.out _).mono ?_
  rintro e w2 ⟨rfl, hb⟩
  have G2 := Lib.hid (cursor_below (G1.out.alloc _) hb)
  have R2 := Lib.hid (cell_kept (heap_keep' R1.out _) hb)
  have Q2 := Lib.hid ((grown_alloc Q1.out _).trans (below_grows hb _)); clear hb
  go_wp2_with fail
  refine (HN.out _ _ (G2.out.alloc _)).mono ?_
  rintro e w3 ⟨rfl, hC3, hg3⟩
  have hgx : g < w2.heap.size := G2.out.lt
  have G3 := Lib.hid hC3; clear hC3
  have R3 := Lib.hid (grown_at (heap_keep' R2.out _) hg3 (by omega))
  have X3 := Lib.hid (grown_at (heap_alloc_new w2 _) hg3 (by omega))
  have Q3 := Lib.hid ((grown_alloc Q2.out _).trans hg3); clear hg3
  have hxw : w.heap.size ≤ w2.heap.size := Q2.out.size
  have hxr : w.heap.size < w2.heap.size := heap_lt R2.out
  obtain ⟨x, hx⟩ : ∃ x, x = w2.heap.size := ⟨_, rfl⟩
  rw [← hx] at hgx X3 hxr hxw ⊢
  clear hx
  go_wp2
  go_loopw [5] (fun n wr => ∃ t : Nat, t ≤ N ∧ n = .int .i64 ((N : Int) - (t : Int)) ∧ Cursor wr g A cap zs (fi t) (fh t) ∧ w.grownBy wr (some g) ∧ wr.heap[w.heap.size]? = some (.cells #[.string ⟨#[]⟩, .int .i64 0, .int .i64 0, .int .i64 0] 25 (0, 0)) ∧
      wr.heap[x]? = some (.cells #[.string s, .int .i64 (fp t), .int .i64 (fy t), .int .i64 (fx t)] 25 (0, 0)))
    (fun n _ => (intOf n).toNat)
  case atStart => exact ⟨0, Nat.zero_le _, by simp, G3.out, Q3.out, R3.out, by rw [F0.out.1, F0.out.2.1, F0.out.2.2]; exact X3.out⟩
  case round =>
    obtain ⟨t, ht, rfl, hCr, hgr, hR, hX⟩ := hrel
    have GR := Lib.hid hCr; clear hCr
    have HGR := Lib.hid hgr; clear hgr
    have HRR := Lib.hid hR; clear hR
    have HXX := Lib.hid hX
    obtain ⟨c0, c1, c2, c3⟩ := cells4 hX
    obtain ⟨f0, f1, f2, f3⟩ := frozen4 hX
    clear hX
    by_cases hlt : t < N
    · obtain ⟨m, b, hc1, hc2⟩ := HF.out t
      have HA := Lib.hid hc1; have HS := Lib.hid hc2; clear hc1 hc2
      have hpos : 0 < (N : Int) - (t : Int) := by omega
      have hneg : x ≠ g := by omega
      go_wp2
      go_region_with (first | (go_at_call 92; refine (HA.out _ _ GR.out.drew).mono ?_; rintro e w4 ⟨rfl, hC4, hg4⟩; have x4 := @grown_at wr.drew _ _ _ _ HXX.out hg4 hneg; have r4 := @grown_at wr.drew _ _ _ _ HRR.out hg4 (by omega); have q4 := HGR.out.trans ((grown_drew (grown_refl wr _)).trans hg4); have G4 := Lib.hid hC4; have X4 := Lib.hid x4; have R4 := Lib.hid r4; have Q4 := Lib.hid q4; obtain ⟨i0, i1, i2, i3⟩ := cells4 x4; clear hC4 hg4 x4 r4 q4) | (go_at_call 37; refine (HS.out _).mono ?_; rintro e w5 ⟨rfl, hb5⟩; have G5 := Lib.hid (cursor_below G4.out hb5); have x5 := cell_kept X4.out hb5; have X5 := Lib.hid x5; have R5 := Lib.hid (cell_kept R4.out hb5); have Q5 := Lib.hid (Q4.out.trans (below_grows hb5 _)); obtain ⟨j0, j1, j2, j3⟩ := cells4 x5; obtain ⟨l0, l1, l2, l3⟩ := frozen4 x5; clear hb5 x5))
      all_goals
        have hput := put4_block X5.out s (fp (t + 1)) (fy (t + 1)) (fx (t + 1))
        have hoth := (put4_other (w := w5) (g := x) (k := w.heap.size) (by omega) s (fp (t + 1)) (fy (t + 1)) (fx (t + 1))).trans R5.out
        have hcur := G5.out.kept (w' := put4 w5 x s (fp (t + 1)) (fy (t + 1)) (fx (t + 1))) (fun k hk => put4_other (by omega) s _ _ _)
        have hgro := grown_new (grown_new (grown_new (grown_new Q5.out hxw 0 (.string s)) hxw 1 (.int .i64 (fp (t + 1)))) hxw 2 (.int .i64 (fy (t + 1)))) hxw 3 (.int .i64 (fx (t + 1)))
        have HP1 := Lib.hid hput; have HP2 := Lib.hid hoth; have HP3 := Lib.hid hcur; have HP4 := Lib.hid hgro
        clear hput hoth hcur hgro
        go_wp2
        go_roundw
        all_goals first
          | exact ⟨t + 1, by omega, by go_num, HP3.out, HP4.out, HP2.out, HP1.out⟩
          | (simp [intOf]; omega)
    · obtain rfl : t = N := by omega
      clear f0 f1 f2 f3
      go_wp2_with fail
      refine (HO.out _ _ GR.out).mono ?_
      rintro e w4 ⟨rfl, hC4, hg4⟩
      clear c0 c1 c2 c3
      have x4 := grown_at HXX.out hg4 (by omega)
      have r4 := grown_at HRR.out hg4 (by omega)
      have q4 := HGR.out.trans hg4
      have G4 := Lib.hid hC4; have X4 := Lib.hid x4; have R4 := Lib.hid r4; have Q4 := Lib.hid q4
      clear hC4 hg4 x4 r4 q4
      have x6 := X4.out
      rw [← HZ.out.1, ← HZ.out.2.1, ← HZ.out.2.2] at x6
      have X6 := Lib.hid x6; have R6 := R4; have G6 := G4; have Q6 := Q4
      clear x6 X4 R4 G4 Q4
      go_wp2_with fail
      refine (HX.out _ _ G6.out).mono ?_
      rintro e w7 ⟨rfl, hC7, hg7⟩
      have x7 := grown_at X6.out hg7 (by omega)
      have r7 := grown_at R6.out hg7 (by omega)
      have G7 := Lib.hid hC7; have X7 := Lib.hid x7; have R7 := Lib.hid r7; have Q7 := Lib.hid (Q6.out.trans hg7)
      clear hC7 hg7
      obtain ⟨c0, c1, c2, c3⟩ := cells4 x7
      obtain ⟨f0, f1, f2, f3⟩ := frozen4 x7
      obtain ⟨d0, d1, d2, d3⟩ := cells4 r7
      obtain ⟨g0, g1, g2, g3⟩ := frozen4 r7
      have hxr' : w.heap.size ≠ x := by omega
      clear x7 r7
      have hr9 := R7.out
      have hc9 := G7.out
      have hq9 := Q7.out
      have hout := put4_block hr9 s p2 y2 x2
      obtain ⟨e0, e1, e2, e3⟩ := cells4 hout
      have hc10 := cursor_new (cursor_new (cursor_new (cursor_new hc9 hgw 0 (.string s)) hgw 1 (.int .i64 p2)) hgw 2 (.int .i64 y2)) hgw 3 (.int .i64 x2)
      have hq10 := grown_new (grown_new (grown_new (grown_new hq9 (Nat.le_refl _) 0 (.string s)) (Nat.le_refl _) 1 (.int .i64 p2)) (Nat.le_refl _) 2 (.int .i64 y2)) (Nat.le_refl _) 3 (.int .i64 x2)
      obtain ⟨wz, hwz⟩ : ∃ wz, wz = put4 w7 w.heap.size s p2 y2 x2 := ⟨_, rfl⟩
      have HZ1 := Lib.hid (And.intro e0 (And.intro e1 (And.intro e2 e3)))
      have HZ2 := Lib.hid hc10; have HZ3 := Lib.hid hq10; have HWZ := Lib.hid hwz
      clear hr9 hc9 hq9 hout e0 e1 e2 e3 hc10 hq10 hwz
      go_wp2
      rw [show ((((w7).setCell ⟨w.heap.size, 0, none⟩ (.string s)).setCell ⟨w.heap.size, 1, none⟩ (.int .i64 p2)).setCell ⟨w.heap.size, 2, none⟩ (.int .i64 y2)).setCell ⟨w.heap.size, 3, none⟩ (.int .i64 x2) = wz from HWZ.out.symm]
      have hz1 := HZ1.out
      have hz2 : Cursor (put4 w7 w.heap.size s p2 y2 x2) g A cap zs i4 h4 := HZ2.out
      have hz3 : w.grownBy (put4 w7 w.heap.size s p2 y2 x2) (some g) := HZ3.out
      rw [← HWZ.out] at hz1 hz2 hz3
      obtain ⟨e0, e1, e2, e3⟩ := hz1
      exact bodyPost_ret (v := .agg #[.string s, .int .i64 p2, .int .i64 y2, .int .i64 x2]) (by simp [results, Try.results60, go_sem, e0, e1, e2, e3]) rfl ⟨rfl, hz2, hz3⟩

set_option maxRecDepth 100000 in
set_option maxHeartbeats 1600000 in
theorem l4cache_true0 (A : Option Addr) (cap : Nat) (zs : List Int) (i : Nat) (h : Int) (s : ByteArray) (at0 : Int) (i1 : Nat) (h1 : Int) (N : Nat) (i3 : Nat) (h3 : Int) (i4 : Nat) (h4 : Int) (fp fy fx : Nat → Int) (fi : Nat → Nat) (fh : Nat → Int) (p2 y2 x2 X : Int) (s8 : s.size ≤ 8) (N4 : N ≤ 4)
    (HR : Hid (∀ (w : World) (g : Nat), Cursor w g A cap zs i h → Calls Try.prog 96 #[.pointer (some ⟨g, 0, none⟩)] w fun e w' => e = .returned (.agg #[.string s, .int .i64 at0]) ∧ Cursor w' g A cap zs i1 h1 ∧ w.grownBy w' (some g)))
    (HN : Hid (∀ (w : World) (g : Nat), Cursor w g A cap zs i1 h1 → Calls Try.prog 92 #[.pointer (some ⟨g, 0, none⟩), .int .i64 5] w fun e w' => e = .returned (.int .i64 N) ∧ Cursor w' g A cap zs (fi 0) (fh 0) ∧ w.grownBy w' (some g)))
    (F0 : Hid (fp 0 = 0 ∧ fy 0 = 0 ∧ fx 0 = 0))
    (HF : Hid (∀ t, ∃ (m : Int) (b : Bool), (∀ (w : World) (g : Nat), Cursor w g A cap zs (fi t) (fh t) →
        Calls Try.prog 92 #[.pointer (some ⟨g, 0, none⟩), .int .i64 12] w fun e w' => e = .returned (.int .i64 m) ∧ Cursor w' g A cap zs (fi (t + 1)) (fh (t + 1)) ∧ w.grownBy w' (some g)) ∧
      (∀ w : World, Calls Try.prog 37 #[.agg #[.string s, .int .i64 (fp t), .int .i64 (fy t), .int .i64 (fx t)], .int .i64 m] w fun e w' => e = .returned (.tuple #[.agg #[.string s, .int .i64 (fp (t + 1)), .int .i64 (fy (t + 1)), .int .i64 (fx (t + 1))], .bool b]) ∧ Below w.heap.size w w')))
    (HO : Hid (∀ (w : World) (g : Nat), Cursor w g A cap zs (fi N) (fh N) → Calls Try.prog 61 #[.pointer (some ⟨g, 0, none⟩), .int .i64 3] w fun e w' => e = .returned (.bool true) ∧ Cursor w' g A cap zs i3 h3 ∧ w.grownBy w' (some g)))
    (HX : Hid (∀ (w : World) (g : Nat), Cursor w g A cap zs i3 h3 → Calls Try.prog 92 #[.pointer (some ⟨g, 0, none⟩), .int .i64 16] w fun e w' => e = .returned (.int .i64 X) ∧ Cursor w' g A cap zs i4 h4 ∧ w.grownBy w' (some g)))
    (HZ : Hid (∀ w : World, Calls Try.prog 63 #[.agg #[.string s, .int .i64 (fp N), .int .i64 (fy N), .int .i64 (fx N)]] w fun e w' => e = .returned (.agg #[.string s, .int .i64 p2, .int .i64 y2, .int .i64 x2]) ∧ Below w.heap.size w w'))
    (P0 : 0 ≤ p2) (P9 : p2 ≤ 8) (Y0 : 0 ≤ y2) (Y9 : y2 < 72057594037927936) (X0 : 0 ≤ x2) (X9 : x2 ≤ 56)
    (hX : X = 0) (w : World) (g : Nat) (hC : Cursor w g A cap zs i h) :
    Calls Try.prog 60 #[.pointer (some ⟨g, 0, none⟩)] w fun e w' => e = .returned (.agg #[.string s, .int .i64 p2, .int .i64 (y2 + 1), .int .i64 x2]) ∧ Cursor w' g A cap zs i4 h4 ∧ w.grownBy w' (some g) := by
  have hgw := hC.lt
  have HC := Lib.hid hC; clear hC
  have HNW := Lib.hid (spec_new_any s)
  unfold cv at HNW
  subst hX
  go_enter Try.func60, Try.ntmps60
  go_wp2_with fail
  refine (HR.out _ _ (HC.out.alloc _)).mono ?_
  rintro e w1 ⟨rfl, hC1, hg1⟩
  have G1 := Lib.hid hC1; clear hC1
  have R1 := Lib.hid (grown_at (heap_alloc_new w _) hg1 (by omega))
  have Q1 := Lib.hid ((World.grownBy_alloc w _ _).trans hg1); clear hg1
  go_wp2_with fail
  refine (HNW.out _).mono ?_
  rintro e w2 ⟨rfl, hb⟩
  have G2 := Lib.hid (cursor_below (G1.out.alloc _) hb)
  have R2 := Lib.hid (cell_kept (heap_keep' R1.out _) hb)
  have Q2 := Lib.hid ((grown_alloc Q1.out _).trans (below_grows hb _)); clear hb
  go_wp2_with fail
  refine (HN.out _ _ (G2.out.alloc _)).mono ?_
  rintro e w3 ⟨rfl, hC3, hg3⟩
  have hgx : g < w2.heap.size := G2.out.lt
  have G3 := Lib.hid hC3; clear hC3
  have R3 := Lib.hid (grown_at (heap_keep' R2.out _) hg3 (by omega))
  have X3 := Lib.hid (grown_at (heap_alloc_new w2 _) hg3 (by omega))
  have Q3 := Lib.hid ((grown_alloc Q2.out _).trans hg3); clear hg3
  have hxw : w.heap.size ≤ w2.heap.size := Q2.out.size
  have hxr : w.heap.size < w2.heap.size := heap_lt R2.out
  obtain ⟨x, hx⟩ : ∃ x, x = w2.heap.size := ⟨_, rfl⟩
  rw [← hx] at hgx X3 hxr hxw ⊢
  clear hx
  go_wp2
  go_loopw [5] (fun n wr => ∃ t : Nat, t ≤ N ∧ n = .int .i64 ((N : Int) - (t : Int)) ∧ Cursor wr g A cap zs (fi t) (fh t) ∧ w.grownBy wr (some g) ∧ wr.heap[w.heap.size]? = some (.cells #[.string ⟨#[]⟩, .int .i64 0, .int .i64 0, .int .i64 0] 25 (0, 0)) ∧
      wr.heap[x]? = some (.cells #[.string s, .int .i64 (fp t), .int .i64 (fy t), .int .i64 (fx t)] 25 (0, 0)))
    (fun n _ => (intOf n).toNat)
  case atStart => exact ⟨0, Nat.zero_le _, by simp, G3.out, Q3.out, R3.out, by rw [F0.out.1, F0.out.2.1, F0.out.2.2]; exact X3.out⟩
  case round =>
    obtain ⟨t, ht, rfl, hCr, hgr, hR, hX⟩ := hrel
    have GR := Lib.hid hCr; clear hCr
    have HGR := Lib.hid hgr; clear hgr
    have HRR := Lib.hid hR; clear hR
    have HXX := Lib.hid hX
    obtain ⟨c0, c1, c2, c3⟩ := cells4 hX
    obtain ⟨f0, f1, f2, f3⟩ := frozen4 hX
    clear hX
    by_cases hlt : t < N
    · obtain ⟨m, b, hc1, hc2⟩ := HF.out t
      have HA := Lib.hid hc1; have HS := Lib.hid hc2; clear hc1 hc2
      have hpos : 0 < (N : Int) - (t : Int) := by omega
      have hneg : x ≠ g := by omega
      go_wp2
      go_region_with (first | (go_at_call 92; refine (HA.out _ _ GR.out.drew).mono ?_; rintro e w4 ⟨rfl, hC4, hg4⟩; have x4 := @grown_at wr.drew _ _ _ _ HXX.out hg4 hneg; have r4 := @grown_at wr.drew _ _ _ _ HRR.out hg4 (by omega); have q4 := HGR.out.trans ((grown_drew (grown_refl wr _)).trans hg4); have G4 := Lib.hid hC4; have X4 := Lib.hid x4; have R4 := Lib.hid r4; have Q4 := Lib.hid q4; obtain ⟨i0, i1, i2, i3⟩ := cells4 x4; clear hC4 hg4 x4 r4 q4) | (go_at_call 37; refine (HS.out _).mono ?_; rintro e w5 ⟨rfl, hb5⟩; have G5 := Lib.hid (cursor_below G4.out hb5); have x5 := cell_kept X4.out hb5; have X5 := Lib.hid x5; have R5 := Lib.hid (cell_kept R4.out hb5); have Q5 := Lib.hid (Q4.out.trans (below_grows hb5 _)); obtain ⟨j0, j1, j2, j3⟩ := cells4 x5; obtain ⟨l0, l1, l2, l3⟩ := frozen4 x5; clear hb5 x5))
      all_goals
        have hput := put4_block X5.out s (fp (t + 1)) (fy (t + 1)) (fx (t + 1))
        have hoth := (put4_other (w := w5) (g := x) (k := w.heap.size) (by omega) s (fp (t + 1)) (fy (t + 1)) (fx (t + 1))).trans R5.out
        have hcur := G5.out.kept (w' := put4 w5 x s (fp (t + 1)) (fy (t + 1)) (fx (t + 1))) (fun k hk => put4_other (by omega) s _ _ _)
        have hgro := grown_new (grown_new (grown_new (grown_new Q5.out hxw 0 (.string s)) hxw 1 (.int .i64 (fp (t + 1)))) hxw 2 (.int .i64 (fy (t + 1)))) hxw 3 (.int .i64 (fx (t + 1)))
        have HP1 := Lib.hid hput; have HP2 := Lib.hid hoth; have HP3 := Lib.hid hcur; have HP4 := Lib.hid hgro
        clear hput hoth hcur hgro
        go_wp2
        go_roundw
        all_goals first
          | exact ⟨t + 1, by omega, by go_num, HP3.out, HP4.out, HP2.out, HP1.out⟩
          | (simp [intOf]; omega)
    · obtain rfl : t = N := by omega
      clear f0 f1 f2 f3
      go_wp2_with fail
      refine (HO.out _ _ GR.out).mono ?_
      rintro e w4 ⟨rfl, hC4, hg4⟩
      clear c0 c1 c2 c3
      have x4 := grown_at HXX.out hg4 (by omega)
      have r4 := grown_at HRR.out hg4 (by omega)
      have q4 := HGR.out.trans hg4
      have G4 := Lib.hid hC4; have X4 := Lib.hid x4; have R4 := Lib.hid r4; have Q4 := Lib.hid q4
      clear hC4 hg4 x4 r4 q4
      obtain ⟨c0, c1, c2, c3⟩ := cells4 X4.out
      go_wp2_with fail
      refine (HZ.out _).mono ?_
      rintro e w5 ⟨rfl, hb5⟩
      clear c0 c1 c2 c3
      have x5 := cell_kept X4.out hb5
      have r5 := cell_kept R4.out hb5
      obtain ⟨c0, c1, c2, c3⟩ := cells4 x5
      obtain ⟨f0, f1, f2, f3⟩ := frozen4 x5
      have hput := put4_block x5 s p2 y2 x2
      have hoth := (put4_other (w := w5) (g := x) (k := w.heap.size) (by omega) s p2 y2 x2).trans r5
      have hcur := (cursor_below G4.out hb5).kept (w' := put4 w5 x s p2 y2 x2) (fun k hk => put4_other (by omega) s _ _ _)
      have hgro : w.grownBy (put4 w5 x s p2 y2 x2) (some g) := grown_new (grown_new (grown_new (grown_new (Q4.out.trans (below_grows hb5 _)) hxw 0 (.string s)) hxw 1 (.int .i64 p2)) hxw 2 (.int .i64 y2)) hxw 3 (.int .i64 x2)
      obtain ⟨wx, hwx⟩ : ∃ wx, wx = put4 w5 x s p2 y2 x2 := ⟨_, rfl⟩
      rw [← hwx] at hput hoth hcur hgro
      have HWX := Lib.hid hwx; have X6 := Lib.hid hput; have R6 := Lib.hid hoth; have G6 := Lib.hid hcur; have Q6 := Lib.hid hgro
      clear hput hoth hcur hgro hwx hb5 x5 r5
      go_upto_region 9 with fail
      rw [show (((w5.setCell ⟨x, 0, none⟩ (.string s)).setCell ⟨x, 1, none⟩ (.int .i64 p2)).setCell ⟨x, 2, none⟩ (.int .i64 y2)).setCell ⟨x, 3, none⟩ (.int .i64 x2) = wx from HWX.out.symm]
      clear c0 c1 c2 c3 f0 f1 f2 f3
      go_wp2_with fail
      refine (HX.out _ _ G6.out).mono ?_
      rintro e w7 ⟨rfl, hC7, hg7⟩
      have x7 := grown_at X6.out hg7 (by omega)
      have r7 := grown_at R6.out hg7 (by omega)
      have G7 := Lib.hid hC7; have X7 := Lib.hid x7; have R7 := Lib.hid r7; have Q7 := Lib.hid (Q6.out.trans hg7)
      clear hC7 hg7
      obtain ⟨c0, c1, c2, c3⟩ := cells4 x7
      obtain ⟨f0, f1, f2, f3⟩ := frozen4 x7
      obtain ⟨d0, d1, d2, d3⟩ := cells4 r7
      obtain ⟨g0, g1, g2, g3⟩ := frozen4 r7
      have hxr' : w.heap.size ≠ x := by omega
      clear x7 r7
      have hr9 : (w7.setCell ⟨x, 2, none⟩ (.int .i64 (y2 + 1))).heap[w.heap.size]? = some (.cells #[.string ⟨#[]⟩, .int .i64 0, .int .i64 0, .int .i64 0] 25 (0, 0)) := by
        rw [heap_setCell_other _ _ _ _ hxr']; exact R7.out
      have hc9 := cursor_new G7.out hgx 2 (.int .i64 (y2 + 1))
      have hq9 := grown_new Q7.out hxw 2 (.int .i64 (y2 + 1))
      have hout := put4_block hr9 s p2 (y2 + 1) x2
      obtain ⟨e0, e1, e2, e3⟩ := cells4 hout
      have hc10 := cursor_new (cursor_new (cursor_new (cursor_new hc9 hgw 0 (.string s)) hgw 1 (.int .i64 p2)) hgw 2 (.int .i64 (y2 + 1))) hgw 3 (.int .i64 x2)
      have hq10 := grown_new (grown_new (grown_new (grown_new hq9 (Nat.le_refl _) 0 (.string s)) (Nat.le_refl _) 1 (.int .i64 p2)) (Nat.le_refl _) 2 (.int .i64 (y2 + 1))) (Nat.le_refl _) 3 (.int .i64 x2)
      obtain ⟨wz, hwz⟩ : ∃ wz, wz = put4 (w7.setCell ⟨x, 2, none⟩ (.int .i64 (y2 + 1))) w.heap.size s p2 (y2 + 1) x2 := ⟨_, rfl⟩
      have HZ1 := Lib.hid (And.intro e0 (And.intro e1 (And.intro e2 e3)))
      have HZ2 := Lib.hid hc10; have HZ3 := Lib.hid hq10; have HWZ := Lib.hid hwz
      clear hr9 hc9 hq9 hout e0 e1 e2 e3 hc10 hq10 hwz
      go_wp2
      rw [show (((((w7.setCell ⟨x, 2, none⟩ (.int .i64 (y2 + 1)))).setCell ⟨w.heap.size, 0, none⟩ (.string s)).setCell ⟨w.heap.size, 1, none⟩ (.int .i64 p2)).setCell ⟨w.heap.size, 2, none⟩ (.int .i64 (y2 + 1))).setCell ⟨w.heap.size, 3, none⟩ (.int .i64 x2) = wz from HWZ.out.symm]
      have hz1 := HZ1.out
      have hz2 : Cursor (put4 (w7.setCell ⟨x, 2, none⟩ (.int .i64 (y2 + 1))) w.heap.size s p2 (y2 + 1) x2) g A cap zs i4 h4 := HZ2.out
      have hz3 : w.grownBy (put4 (w7.setCell ⟨x, 2, none⟩ (.int .i64 (y2 + 1))) w.heap.size s p2 (y2 + 1) x2) (some g) := HZ3.out
      rw [← HWZ.out] at hz1 hz2 hz3
      obtain ⟨e0, e1, e2, e3⟩ := hz1
      exact bodyPost_ret (v := .agg #[.string s, .int .i64 p2, .int .i64 (y2 + 1), .int .i64 x2]) (by simp [results, Try.results60, go_sem, e0, e1, e2, e3]) rfl ⟨rfl, hz2, hz3⟩

set_option maxRecDepth 100000 in
set_option maxHeartbeats 1600000 in
theorem l4cache_true1 (A : Option Addr) (cap : Nat) (zs : List Int) (i : Nat) (h : Int) (s : ByteArray) (at0 : Int) (i1 : Nat) (h1 : Int) (N : Nat) (i3 : Nat) (h3 : Int) (i4 : Nat) (h4 : Int) (fp fy fx : Nat → Int) (fi : Nat → Nat) (fh : Nat → Int) (p2 y2 x2 X : Int) (s8 : s.size ≤ 8) (N4 : N ≤ 4)
    (HR : Hid (∀ (w : World) (g : Nat), Cursor w g A cap zs i h → Calls Try.prog 96 #[.pointer (some ⟨g, 0, none⟩)] w fun e w' => e = .returned (.agg #[.string s, .int .i64 at0]) ∧ Cursor w' g A cap zs i1 h1 ∧ w.grownBy w' (some g)))
    (HN : Hid (∀ (w : World) (g : Nat), Cursor w g A cap zs i1 h1 → Calls Try.prog 92 #[.pointer (some ⟨g, 0, none⟩), .int .i64 5] w fun e w' => e = .returned (.int .i64 N) ∧ Cursor w' g A cap zs (fi 0) (fh 0) ∧ w.grownBy w' (some g)))
    (F0 : Hid (fp 0 = 0 ∧ fy 0 = 0 ∧ fx 0 = 0))
    (HF : Hid (∀ t, ∃ (m : Int) (b : Bool), (∀ (w : World) (g : Nat), Cursor w g A cap zs (fi t) (fh t) →
        Calls Try.prog 92 #[.pointer (some ⟨g, 0, none⟩), .int .i64 12] w fun e w' => e = .returned (.int .i64 m) ∧ Cursor w' g A cap zs (fi (t + 1)) (fh (t + 1)) ∧ w.grownBy w' (some g)) ∧
      (∀ w : World, Calls Try.prog 37 #[.agg #[.string s, .int .i64 (fp t), .int .i64 (fy t), .int .i64 (fx t)], .int .i64 m] w fun e w' => e = .returned (.tuple #[.agg #[.string s, .int .i64 (fp (t + 1)), .int .i64 (fy (t + 1)), .int .i64 (fx (t + 1))], .bool b]) ∧ Below w.heap.size w w')))
    (HO : Hid (∀ (w : World) (g : Nat), Cursor w g A cap zs (fi N) (fh N) → Calls Try.prog 61 #[.pointer (some ⟨g, 0, none⟩), .int .i64 3] w fun e w' => e = .returned (.bool true) ∧ Cursor w' g A cap zs i3 h3 ∧ w.grownBy w' (some g)))
    (HX : Hid (∀ (w : World) (g : Nat), Cursor w g A cap zs i3 h3 → Calls Try.prog 92 #[.pointer (some ⟨g, 0, none⟩), .int .i64 16] w fun e w' => e = .returned (.int .i64 X) ∧ Cursor w' g A cap zs i4 h4 ∧ w.grownBy w' (some g)))
    (HZ : Hid (∀ w : World, Calls Try.prog 63 #[.agg #[.string s, .int .i64 (fp N), .int .i64 (fy N), .int .i64 (fx N)]] w fun e w' => e = .returned (.agg #[.string s, .int .i64 p2, .int .i64 y2, .int .i64 x2]) ∧ Below w.heap.size w w'))
    (P0 : 0 ≤ p2) (P9 : p2 ≤ 8) (Y0 : 0 ≤ y2) (Y9 : y2 < 72057594037927936) (X0 : 0 ≤ x2) (X9 : x2 ≤ 56)
    (i5 : Nat) (h5 : Int) (u : Int) (HP : Hid (∀ (w : World) (g gl : Nat), Cursor w g A cap zs i4 h4 → w.heap[gl]? = some (.cells #[.int .i64 (-1), .int .i64 (x2 + 1), .int .i64 57] 3 (0, 0)) → gl ≠ g →
      Calls Try.prog 97 #[.pointer (some ⟨g, 0, none⟩), .slice (some ⟨gl, 0, none⟩) 3 3] w fun e w' => e = .returned (.int .i64 u) ∧ Cursor w' g A cap zs i5 h5 ∧ w.grownBy w' (some g)))
    (hX : X = 1) (w : World) (g : Nat) (hC : Cursor w g A cap zs i h) :
    Calls Try.prog 60 #[.pointer (some ⟨g, 0, none⟩)] w fun e w' => e = .returned (.agg #[.string s, .int .i64 p2, .int .i64 y2, .int .i64 u]) ∧ Cursor w' g A cap zs i5 h5 ∧ w.grownBy w' (some g) := by
  have hgw := hC.lt
  have HC := Lib.hid hC; clear hC
  have HNW := Lib.hid (spec_new_any s)
  unfold cv at HNW
  subst hX
  go_enter Try.func60, Try.ntmps60
  go_wp2_with fail
  refine (HR.out _ _ (HC.out.alloc _)).mono ?_
  rintro e w1 ⟨rfl, hC1, hg1⟩
  have G1 := Lib.hid hC1; clear hC1
  have R1 := Lib.hid (grown_at (heap_alloc_new w _) hg1 (by omega))
  have Q1 := Lib.hid ((World.grownBy_alloc w _ _).trans hg1); clear hg1
  go_wp2_with fail
  refine (HNW.out _).mono ?_
  rintro e w2 ⟨rfl, hb⟩
  have G2 := Lib.hid (cursor_below (G1.out.alloc _) hb)
  have R2 := Lib.hid (cell_kept (heap_keep' R1.out _) hb)
  have Q2 := Lib.hid ((grown_alloc Q1.out _).trans (below_grows hb _)); clear hb
  go_wp2_with fail
  refine (HN.out _ _ (G2.out.alloc _)).mono ?_
  rintro e w3 ⟨rfl, hC3, hg3⟩
  have hgx : g < w2.heap.size := G2.out.lt
  have G3 := Lib.hid hC3; clear hC3
  have R3 := Lib.hid (grown_at (heap_keep' R2.out _) hg3 (by omega))
  have X3 := Lib.hid (grown_at (heap_alloc_new w2 _) hg3 (by omega))
  have Q3 := Lib.hid ((grown_alloc Q2.out _).trans hg3); clear hg3
  have hxw : w.heap.size ≤ w2.heap.size := Q2.out.size
  have hxr : w.heap.size < w2.heap.size := heap_lt R2.out
  obtain ⟨x, hx⟩ : ∃ x, x = w2.heap.size := ⟨_, rfl⟩
  rw [← hx] at hgx X3 hxr hxw ⊢
  clear hx
  go_wp2
  go_loopw [5] (fun n wr => ∃ t : Nat, t ≤ N ∧ n = .int .i64 ((N : Int) - (t : Int)) ∧ Cursor wr g A cap zs (fi t) (fh t) ∧ w.grownBy wr (some g) ∧ wr.heap[w.heap.size]? = some (.cells #[.string ⟨#[]⟩, .int .i64 0, .int .i64 0, .int .i64 0] 25 (0, 0)) ∧
      wr.heap[x]? = some (.cells #[.string s, .int .i64 (fp t), .int .i64 (fy t), .int .i64 (fx t)] 25 (0, 0)))
    (fun n _ => (intOf n).toNat)
  case atStart => exact ⟨0, Nat.zero_le _, by simp, G3.out, Q3.out, R3.out, by rw [F0.out.1, F0.out.2.1, F0.out.2.2]; exact X3.out⟩
  case round =>
    obtain ⟨t, ht, rfl, hCr, hgr, hR, hX⟩ := hrel
    have GR := Lib.hid hCr; clear hCr
    have HGR := Lib.hid hgr; clear hgr
    have HRR := Lib.hid hR; clear hR
    have HXX := Lib.hid hX
    obtain ⟨c0, c1, c2, c3⟩ := cells4 hX
    obtain ⟨f0, f1, f2, f3⟩ := frozen4 hX
    clear hX
    by_cases hlt : t < N
    · obtain ⟨m, b, hc1, hc2⟩ := HF.out t
      have HA := Lib.hid hc1; have HS := Lib.hid hc2; clear hc1 hc2
      have hpos : 0 < (N : Int) - (t : Int) := by omega
      have hneg : x ≠ g := by omega
      go_wp2
      go_region_with (first | (go_at_call 92; refine (HA.out _ _ GR.out.drew).mono ?_; rintro e w4 ⟨rfl, hC4, hg4⟩; have x4 := @grown_at wr.drew _ _ _ _ HXX.out hg4 hneg; have r4 := @grown_at wr.drew _ _ _ _ HRR.out hg4 (by omega); have q4 := HGR.out.trans ((grown_drew (grown_refl wr _)).trans hg4); have G4 := Lib.hid hC4; have X4 := Lib.hid x4; have R4 := Lib.hid r4; have Q4 := Lib.hid q4; obtain ⟨i0, i1, i2, i3⟩ := cells4 x4; clear hC4 hg4 x4 r4 q4) | (go_at_call 37; refine (HS.out _).mono ?_; rintro e w5 ⟨rfl, hb5⟩; have G5 := Lib.hid (cursor_below G4.out hb5); have x5 := cell_kept X4.out hb5; have X5 := Lib.hid x5; have R5 := Lib.hid (cell_kept R4.out hb5); have Q5 := Lib.hid (Q4.out.trans (below_grows hb5 _)); obtain ⟨j0, j1, j2, j3⟩ := cells4 x5; obtain ⟨l0, l1, l2, l3⟩ := frozen4 x5; clear hb5 x5))
      all_goals
        have hput := put4_block X5.out s (fp (t + 1)) (fy (t + 1)) (fx (t + 1))
        have hoth := (put4_other (w := w5) (g := x) (k := w.heap.size) (by omega) s (fp (t + 1)) (fy (t + 1)) (fx (t + 1))).trans R5.out
        have hcur := G5.out.kept (w' := put4 w5 x s (fp (t + 1)) (fy (t + 1)) (fx (t + 1))) (fun k hk => put4_other (by omega) s _ _ _)
        have hgro := grown_new (grown_new (grown_new (grown_new Q5.out hxw 0 (.string s)) hxw 1 (.int .i64 (fp (t + 1)))) hxw 2 (.int .i64 (fy (t + 1)))) hxw 3 (.int .i64 (fx (t + 1)))
        have HP1 := Lib.hid hput; have HP2 := Lib.hid hoth; have HP3 := Lib.hid hcur; have HP4 := Lib.hid hgro
        clear hput hoth hcur hgro
        go_wp2
        go_roundw
        all_goals first
          | exact ⟨t + 1, by omega, by go_num, HP3.out, HP4.out, HP2.out, HP1.out⟩
          | (simp [intOf]; omega)
    · obtain rfl : t = N := by omega
      clear f0 f1 f2 f3
      go_wp2_with fail
      refine (HO.out _ _ GR.out).mono ?_
      rintro e w4 ⟨rfl, hC4, hg4⟩
      clear c0 c1 c2 c3
      have x4 := grown_at HXX.out hg4 (by omega)
      have r4 := grown_at HRR.out hg4 (by omega)
      have q4 := HGR.out.trans hg4
      have G4 := Lib.hid hC4; have X4 := Lib.hid x4; have R4 := Lib.hid r4; have Q4 := Lib.hid q4
      clear hC4 hg4 x4 r4 q4
      obtain ⟨c0, c1, c2, c3⟩ := cells4 X4.out
      go_wp2_with fail
      refine (HZ.out _).mono ?_
      rintro e w5 ⟨rfl, hb5⟩
      clear c0 c1 c2 c3
      have x5 := cell_kept X4.out hb5
      have r5 := cell_kept R4.out hb5
      obtain ⟨c0, c1, c2, c3⟩ := cells4 x5
      obtain ⟨f0, f1, f2, f3⟩ := frozen4 x5
      have hput := put4_block x5 s p2 y2 x2
      have hoth := (put4_other (w := w5) (g := x) (k := w.heap.size) (by omega) s p2 y2 x2).trans r5
      have hcur := (cursor_below G4.out hb5).kept (w' := put4 w5 x s p2 y2 x2) (fun k hk => put4_other (by omega) s _ _ _)
      have hgro : w.grownBy (put4 w5 x s p2 y2 x2) (some g) := grown_new (grown_new (grown_new (grown_new (Q4.out.trans (below_grows hb5 _)) hxw 0 (.string s)) hxw 1 (.int .i64 p2)) hxw 2 (.int .i64 y2)) hxw 3 (.int .i64 x2)
      obtain ⟨wx, hwx⟩ : ∃ wx, wx = put4 w5 x s p2 y2 x2 := ⟨_, rfl⟩
      rw [← hwx] at hput hoth hcur hgro
      have HWX := Lib.hid hwx; have X6 := Lib.hid hput; have R6 := Lib.hid hoth; have G6 := Lib.hid hcur; have Q6 := Lib.hid hgro
      clear hput hoth hcur hgro hwx hb5 x5 r5
      go_upto_region 9 with fail
      rw [show (((w5.setCell ⟨x, 0, none⟩ (.string s)).setCell ⟨x, 1, none⟩ (.int .i64 p2)).setCell ⟨x, 2, none⟩ (.int .i64 y2)).setCell ⟨x, 3, none⟩ (.int .i64 x2) = wx from HWX.out.symm]
      clear c0 c1 c2 c3 f0 f1 f2 f3
      go_wp2_with fail
      refine (HX.out _ _ G6.out).mono ?_
      rintro e w7 ⟨rfl, hC7, hg7⟩
      have x7 := grown_at X6.out hg7 (by omega)
      have r7 := grown_at R6.out hg7 (by omega)
      have G7 := Lib.hid hC7; have X7 := Lib.hid x7; have R7 := Lib.hid r7; have Q7 := Lib.hid (Q6.out.trans hg7)
      clear hC7 hg7
      obtain ⟨c0, c1, c2, c3⟩ := cells4 x7
      obtain ⟨f0, f1, f2, f3⟩ := frozen4 x7
      obtain ⟨d0, d1, d2, d3⟩ := cells4 r7
      obtain ⟨g0, g1, g2, g3⟩ := frozen4 r7
      have hxr' : w.heap.size ≠ x := by omega
      clear x7 r7
      go_wp2_with fail
      refine (HP.out _ _ _ (G7.out.alloc _) (heap_alloc_new w7 _) (by have := G7.out.lt; omega)).mono ?_
      rintro e w8 ⟨rfl, hC8, hg8⟩
      clear c0 c1 c2 c3 f0 f1 f2 f3 d0 d1 d2 d3 g0 g1 g2 g3
      have x8 := grown_at (heap_keep' X7.out _) hg8 (by omega)
      have r8 := grown_at (heap_keep' R7.out _) hg8 (by omega)
      have G8 := Lib.hid hC8; have X8 := Lib.hid x8; have R8 := Lib.hid r8; have Q8 := Lib.hid ((grown_alloc Q7.out _).trans hg8)
      clear hC8 hg8
      obtain ⟨c0, c1, c2, c3⟩ := cells4 x8
      obtain ⟨f0, f1, f2, f3⟩ := frozen4 x8
      obtain ⟨d0, d1, d2, d3⟩ := cells4 r8
      obtain ⟨g0, g1, g2, g3⟩ := frozen4 r8
      clear x8 r8
      have hr9 : (w8.setCell ⟨x, 3, none⟩ (.int .i64 u)).heap[w.heap.size]? = some (.cells #[.string ⟨#[]⟩, .int .i64 0, .int .i64 0, .int .i64 0] 25 (0, 0)) := by
        rw [heap_setCell_other _ _ _ _ hxr']; exact R8.out
      have hc9 := cursor_new G8.out hgx 3 (.int .i64 u)
      have hq9 := grown_new Q8.out hxw 3 (.int .i64 u)
      have hout := put4_block hr9 s p2 y2 u
      obtain ⟨e0, e1, e2, e3⟩ := cells4 hout
      have hc10 := cursor_new (cursor_new (cursor_new (cursor_new hc9 hgw 0 (.string s)) hgw 1 (.int .i64 p2)) hgw 2 (.int .i64 y2)) hgw 3 (.int .i64 u)
      have hq10 := grown_new (grown_new (grown_new (grown_new hq9 (Nat.le_refl _) 0 (.string s)) (Nat.le_refl _) 1 (.int .i64 p2)) (Nat.le_refl _) 2 (.int .i64 y2)) (Nat.le_refl _) 3 (.int .i64 u)
      obtain ⟨wz, hwz⟩ : ∃ wz, wz = put4 (w8.setCell ⟨x, 3, none⟩ (.int .i64 u)) w.heap.size s p2 y2 u := ⟨_, rfl⟩
      have HZ1 := Lib.hid (And.intro e0 (And.intro e1 (And.intro e2 e3)))
      have HZ2 := Lib.hid hc10; have HZ3 := Lib.hid hq10; have HWZ := Lib.hid hwz
      clear hr9 hc9 hq9 hout e0 e1 e2 e3 hc10 hq10 hwz
      go_wp2
      rw [show (((((w8.setCell ⟨x, 3, none⟩ (.int .i64 u))).setCell ⟨w.heap.size, 0, none⟩ (.string s)).setCell ⟨w.heap.size, 1, none⟩ (.int .i64 p2)).setCell ⟨w.heap.size, 2, none⟩ (.int .i64 y2)).setCell ⟨w.heap.size, 3, none⟩ (.int .i64 u) = wz from HWZ.out.symm]
      have hz1 := HZ1.out
      have hz2 : Cursor (put4 (w8.setCell ⟨x, 3, none⟩ (.int .i64 u)) w.heap.size s p2 y2 u) g A cap zs i5 h5 := HZ2.out
      have hz3 : w.grownBy (put4 (w8.setCell ⟨x, 3, none⟩ (.int .i64 u)) w.heap.size s p2 y2 u) (some g) := HZ3.out
      rw [← HWZ.out] at hz1 hz2 hz3
      obtain ⟨e0, e1, e2, e3⟩ := hz1
      exact bodyPost_ret (v := .agg #[.string s, .int .i64 p2, .int .i64 y2, .int .i64 u]) (by simp [results, Try.results60, go_sem, e0, e1, e2, e3]) rfl ⟨rfl, hz2, hz3⟩

set_option maxRecDepth 100000 in
set_option maxHeartbeats 1600000 in
theorem l4cache_true2 (A : Option Addr) (cap : Nat) (zs : List Int) (i : Nat) (h : Int) (s : ByteArray) (at0 : Int) (i1 : Nat) (h1 : Int) (N : Nat) (i3 : Nat) (h3 : Int) (i4 : Nat) (h4 : Int) (fp fy fx : Nat → Int) (fi : Nat → Nat) (fh : Nat → Int) (p2 y2 x2 X : Int) (s8 : s.size ≤ 8) (N4 : N ≤ 4)
    (HR : Hid (∀ (w : World) (g : Nat), Cursor w g A cap zs i h → Calls Try.prog 96 #[.pointer (some ⟨g, 0, none⟩)] w fun e w' => e = .returned (.agg #[.string s, .int .i64 at0]) ∧ Cursor w' g A cap zs i1 h1 ∧ w.grownBy w' (some g)))
    (HN : Hid (∀ (w : World) (g : Nat), Cursor w g A cap zs i1 h1 → Calls Try.prog 92 #[.pointer (some ⟨g, 0, none⟩), .int .i64 5] w fun e w' => e = .returned (.int .i64 N) ∧ Cursor w' g A cap zs (fi 0) (fh 0) ∧ w.grownBy w' (some g)))
    (F0 : Hid (fp 0 = 0 ∧ fy 0 = 0 ∧ fx 0 = 0))
    (HF : Hid (∀ t, ∃ (m : Int) (b : Bool), (∀ (w : World) (g : Nat), Cursor w g A cap zs (fi t) (fh t) →
        Calls Try.prog 92 #[.pointer (some ⟨g, 0, none⟩), .int .i64 12] w fun e w' => e = .returned (.int .i64 m) ∧ Cursor w' g A cap zs (fi (t + 1)) (fh (t + 1)) ∧ w.grownBy w' (some g)) ∧
      (∀ w : World, Calls Try.prog 37 #[.agg #[.string s, .int .i64 (fp t), .int .i64 (fy t), .int .i64 (fx t)], .int .i64 m] w fun e w' => e = .returned (.tuple #[.agg #[.string s, .int .i64 (fp (t + 1)), .int .i64 (fy (t + 1)), .int .i64 (fx (t + 1))], .bool b]) ∧ Below w.heap.size w w')))
    (HO : Hid (∀ (w : World) (g : Nat), Cursor w g A cap zs (fi N) (fh N) → Calls Try.prog 61 #[.pointer (some ⟨g, 0, none⟩), .int .i64 3] w fun e w' => e = .returned (.bool true) ∧ Cursor w' g A cap zs i3 h3 ∧ w.grownBy w' (some g)))
    (HX : Hid (∀ (w : World) (g : Nat), Cursor w g A cap zs i3 h3 → Calls Try.prog 92 #[.pointer (some ⟨g, 0, none⟩), .int .i64 16] w fun e w' => e = .returned (.int .i64 X) ∧ Cursor w' g A cap zs i4 h4 ∧ w.grownBy w' (some g)))
    (HZ : Hid (∀ w : World, Calls Try.prog 63 #[.agg #[.string s, .int .i64 (fp N), .int .i64 (fy N), .int .i64 (fx N)]] w fun e w' => e = .returned (.agg #[.string s, .int .i64 p2, .int .i64 y2, .int .i64 x2]) ∧ Below w.heap.size w w'))
    (P0 : 0 ≤ p2) (P9 : p2 ≤ 8) (Y0 : 0 ≤ y2) (Y9 : y2 < 72057594037927936) (X0 : 0 ≤ x2) (X9 : x2 ≤ 56)
    (i5 : Nat) (h5 : Int) (u : Int) (HP : Hid (∀ (w : World) (g gl : Nat), Cursor w g A cap zs i4 h4 → w.heap[gl]? = some (.cells #[.int .i64 (-1), .int .i64 (p2 + 1), .int .i64 ((s.size : Int) + 1)] 3 (0, 0)) → gl ≠ g →
      Calls Try.prog 97 #[.pointer (some ⟨g, 0, none⟩), .slice (some ⟨gl, 0, none⟩) 3 3] w fun e w' => e = .returned (.int .i64 u) ∧ Cursor w' g A cap zs i5 h5 ∧ w.grownBy w' (some g)))
    (hX : X = 2) (w : World) (g : Nat) (hC : Cursor w g A cap zs i h) :
    Calls Try.prog 60 #[.pointer (some ⟨g, 0, none⟩)] w fun e w' => e = .returned (.agg #[.string s, .int .i64 u, .int .i64 y2, .int .i64 x2]) ∧ Cursor w' g A cap zs i5 h5 ∧ w.grownBy w' (some g) := by
  have hgw := hC.lt
  have HC := Lib.hid hC; clear hC
  have HNW := Lib.hid (spec_new_any s)
  unfold cv at HNW
  subst hX
  go_enter Try.func60, Try.ntmps60
  go_wp2_with fail
  refine (HR.out _ _ (HC.out.alloc _)).mono ?_
  rintro e w1 ⟨rfl, hC1, hg1⟩
  have G1 := Lib.hid hC1; clear hC1
  have R1 := Lib.hid (grown_at (heap_alloc_new w _) hg1 (by omega))
  have Q1 := Lib.hid ((World.grownBy_alloc w _ _).trans hg1); clear hg1
  go_wp2_with fail
  refine (HNW.out _).mono ?_
  rintro e w2 ⟨rfl, hb⟩
  have G2 := Lib.hid (cursor_below (G1.out.alloc _) hb)
  have R2 := Lib.hid (cell_kept (heap_keep' R1.out _) hb)
  have Q2 := Lib.hid ((grown_alloc Q1.out _).trans (below_grows hb _)); clear hb
  go_wp2_with fail
  refine (HN.out _ _ (G2.out.alloc _)).mono ?_
  rintro e w3 ⟨rfl, hC3, hg3⟩
  have hgx : g < w2.heap.size := G2.out.lt
  have G3 := Lib.hid hC3; clear hC3
  have R3 := Lib.hid (grown_at (heap_keep' R2.out _) hg3 (by omega))
  have X3 := Lib.hid (grown_at (heap_alloc_new w2 _) hg3 (by omega))
  have Q3 := Lib.hid ((grown_alloc Q2.out _).trans hg3); clear hg3
  have hxw : w.heap.size ≤ w2.heap.size := Q2.out.size
  have hxr : w.heap.size < w2.heap.size := heap_lt R2.out
  obtain ⟨x, hx⟩ : ∃ x, x = w2.heap.size := ⟨_, rfl⟩
  rw [← hx] at hgx X3 hxr hxw ⊢
  clear hx
  go_wp2
  go_loopw [5] (fun n wr => ∃ t : Nat, t ≤ N ∧ n = .int .i64 ((N : Int) - (t : Int)) ∧ Cursor wr g A cap zs (fi t) (fh t) ∧ w.grownBy wr (some g) ∧ wr.heap[w.heap.size]? = some (.cells #[.string ⟨#[]⟩, .int .i64 0, .int .i64 0, .int .i64 0] 25 (0, 0)) ∧
      wr.heap[x]? = some (.cells #[.string s, .int .i64 (fp t), .int .i64 (fy t), .int .i64 (fx t)] 25 (0, 0)))
    (fun n _ => (intOf n).toNat)
  case atStart => exact ⟨0, Nat.zero_le _, by simp, G3.out, Q3.out, R3.out, by rw [F0.out.1, F0.out.2.1, F0.out.2.2]; exact X3.out⟩
  case round =>
    obtain ⟨t, ht, rfl, hCr, hgr, hR, hX⟩ := hrel
    have GR := Lib.hid hCr; clear hCr
    have HGR := Lib.hid hgr; clear hgr
    have HRR := Lib.hid hR; clear hR
    have HXX := Lib.hid hX
    obtain ⟨c0, c1, c2, c3⟩ := cells4 hX
    obtain ⟨f0, f1, f2, f3⟩ := frozen4 hX
    clear hX
    by_cases hlt : t < N
    · obtain ⟨m, b, hc1, hc2⟩ := HF.out t
      have HA := Lib.hid hc1; have HS := Lib.hid hc2; clear hc1 hc2
      have hpos : 0 < (N : Int) - (t : Int) := by omega
      have hneg : x ≠ g := by omega
      go_wp2
      go_region_with (first | (go_at_call 92; refine (HA.out _ _ GR.out.drew).mono ?_; rintro e w4 ⟨rfl, hC4, hg4⟩; have x4 := @grown_at wr.drew _ _ _ _ HXX.out hg4 hneg; have r4 := @grown_at wr.drew _ _ _ _ HRR.out hg4 (by omega); have q4 := HGR.out.trans ((grown_drew (grown_refl wr _)).trans hg4); have G4 := Lib.hid hC4; have X4 := Lib.hid x4; have R4 := Lib.hid r4; have Q4 := Lib.hid q4; obtain ⟨i0, i1, i2, i3⟩ := cells4 x4; clear hC4 hg4 x4 r4 q4) | (go_at_call 37; refine (HS.out _).mono ?_; rintro e w5 ⟨rfl, hb5⟩; have G5 := Lib.hid (cursor_below G4.out hb5); have x5 := cell_kept X4.out hb5; have X5 := Lib.hid x5; have R5 := Lib.hid (cell_kept R4.out hb5); have Q5 := Lib.hid (Q4.out.trans (below_grows hb5 _)); obtain ⟨j0, j1, j2, j3⟩ := cells4 x5; obtain ⟨l0, l1, l2, l3⟩ := frozen4 x5; clear hb5 x5))
      all_goals
        have hput := put4_block X5.out s (fp (t + 1)) (fy (t + 1)) (fx (t + 1))
        have hoth := (put4_other (w := w5) (g := x) (k := w.heap.size) (by omega) s (fp (t + 1)) (fy (t + 1)) (fx (t + 1))).trans R5.out
        have hcur := G5.out.kept (w' := put4 w5 x s (fp (t + 1)) (fy (t + 1)) (fx (t + 1))) (fun k hk => put4_other (by omega) s _ _ _)
        have hgro := grown_new (grown_new (grown_new (grown_new Q5.out hxw 0 (.string s)) hxw 1 (.int .i64 (fp (t + 1)))) hxw 2 (.int .i64 (fy (t + 1)))) hxw 3 (.int .i64 (fx (t + 1)))
        have HP1 := Lib.hid hput; have HP2 := Lib.hid hoth; have HP3 := Lib.hid hcur; have HP4 := Lib.hid hgro
        clear hput hoth hcur hgro
        go_wp2
        go_roundw
        all_goals first
          | exact ⟨t + 1, by omega, by go_num, HP3.out, HP4.out, HP2.out, HP1.out⟩
          | (simp [intOf]; omega)
    · obtain rfl : t = N := by omega
      clear f0 f1 f2 f3
      go_wp2_with fail
      refine (HO.out _ _ GR.out).mono ?_
      rintro e w4 ⟨rfl, hC4, hg4⟩
      clear c0 c1 c2 c3
      have x4 := grown_at HXX.out hg4 (by omega)
      have r4 := grown_at HRR.out hg4 (by omega)
      have q4 := HGR.out.trans hg4
      have G4 := Lib.hid hC4; have X4 := Lib.hid x4; have R4 := Lib.hid r4; have Q4 := Lib.hid q4
      clear hC4 hg4 x4 r4 q4
      obtain ⟨c0, c1, c2, c3⟩ := cells4 X4.out
      go_wp2_with fail
      refine (HZ.out _).mono ?_
      rintro e w5 ⟨rfl, hb5⟩
      clear c0 c1 c2 c3
      have x5 := cell_kept X4.out hb5
      have r5 := cell_kept R4.out hb5
      obtain ⟨c0, c1, c2, c3⟩ := cells4 x5
      obtain ⟨f0, f1, f2, f3⟩ := frozen4 x5
      have hput := put4_block x5 s p2 y2 x2
      have hoth := (put4_other (w := w5) (g := x) (k := w.heap.size) (by omega) s p2 y2 x2).trans r5
      have hcur := (cursor_below G4.out hb5).kept (w' := put4 w5 x s p2 y2 x2) (fun k hk => put4_other (by omega) s _ _ _)
      have hgro : w.grownBy (put4 w5 x s p2 y2 x2) (some g) := grown_new (grown_new (grown_new (grown_new (Q4.out.trans (below_grows hb5 _)) hxw 0 (.string s)) hxw 1 (.int .i64 p2)) hxw 2 (.int .i64 y2)) hxw 3 (.int .i64 x2)
      obtain ⟨wx, hwx⟩ : ∃ wx, wx = put4 w5 x s p2 y2 x2 := ⟨_, rfl⟩
      rw [← hwx] at hput hoth hcur hgro
      have HWX := Lib.hid hwx; have X6 := Lib.hid hput; have R6 := Lib.hid hoth; have G6 := Lib.hid hcur; have Q6 := Lib.hid hgro
      clear hput hoth hcur hgro hwx hb5 x5 r5
      go_upto_region 9 with fail
      rw [show (((w5.setCell ⟨x, 0, none⟩ (.string s)).setCell ⟨x, 1, none⟩ (.int .i64 p2)).setCell ⟨x, 2, none⟩ (.int .i64 y2)).setCell ⟨x, 3, none⟩ (.int .i64 x2) = wx from HWX.out.symm]
      clear c0 c1 c2 c3 f0 f1 f2 f3
      go_wp2_with fail
      refine (HX.out _ _ G6.out).mono ?_
      rintro e w7 ⟨rfl, hC7, hg7⟩
      have x7 := grown_at X6.out hg7 (by omega)
      have r7 := grown_at R6.out hg7 (by omega)
      have G7 := Lib.hid hC7; have X7 := Lib.hid x7; have R7 := Lib.hid r7; have Q7 := Lib.hid (Q6.out.trans hg7)
      clear hC7 hg7
      obtain ⟨c0, c1, c2, c3⟩ := cells4 x7
      obtain ⟨f0, f1, f2, f3⟩ := frozen4 x7
      obtain ⟨d0, d1, d2, d3⟩ := cells4 r7
      obtain ⟨g0, g1, g2, g3⟩ := frozen4 r7
      have hxr' : w.heap.size ≠ x := by omega
      clear x7 r7
      go_wp2_with fail
      refine (HP.out _ _ _ (G7.out.alloc _) (heap_alloc_new w7 _) (by have := G7.out.lt; omega)).mono ?_
      rintro e w8 ⟨rfl, hC8, hg8⟩
      clear c0 c1 c2 c3 f0 f1 f2 f3 d0 d1 d2 d3 g0 g1 g2 g3
      have x8 := grown_at (heap_keep' X7.out _) hg8 (by omega)
      have r8 := grown_at (heap_keep' R7.out _) hg8 (by omega)
      have G8 := Lib.hid hC8; have X8 := Lib.hid x8; have R8 := Lib.hid r8; have Q8 := Lib.hid ((grown_alloc Q7.out _).trans hg8)
      clear hC8 hg8
      obtain ⟨c0, c1, c2, c3⟩ := cells4 x8
      obtain ⟨f0, f1, f2, f3⟩ := frozen4 x8
      obtain ⟨d0, d1, d2, d3⟩ := cells4 r8
      obtain ⟨g0, g1, g2, g3⟩ := frozen4 r8
      clear x8 r8
      have hr9 : (w8.setCell ⟨x, 1, none⟩ (.int .i64 u)).heap[w.heap.size]? = some (.cells #[.string ⟨#[]⟩, .int .i64 0, .int .i64 0, .int .i64 0] 25 (0, 0)) := by
        rw [heap_setCell_other _ _ _ _ hxr']; exact R8.out
      have hc9 := cursor_new G8.out hgx 1 (.int .i64 u)
      have hq9 := grown_new Q8.out hxw 1 (.int .i64 u)
      have hout := put4_block hr9 s u y2 x2
      obtain ⟨e0, e1, e2, e3⟩ := cells4 hout
      have hc10 := cursor_new (cursor_new (cursor_new (cursor_new hc9 hgw 0 (.string s)) hgw 1 (.int .i64 u)) hgw 2 (.int .i64 y2)) hgw 3 (.int .i64 x2)
      have hq10 := grown_new (grown_new (grown_new (grown_new hq9 (Nat.le_refl _) 0 (.string s)) (Nat.le_refl _) 1 (.int .i64 u)) (Nat.le_refl _) 2 (.int .i64 y2)) (Nat.le_refl _) 3 (.int .i64 x2)
      obtain ⟨wz, hwz⟩ : ∃ wz, wz = put4 (w8.setCell ⟨x, 1, none⟩ (.int .i64 u)) w.heap.size s u y2 x2 := ⟨_, rfl⟩
      have HZ1 := Lib.hid (And.intro e0 (And.intro e1 (And.intro e2 e3)))
      have HZ2 := Lib.hid hc10; have HZ3 := Lib.hid hq10; have HWZ := Lib.hid hwz
      clear hr9 hc9 hq9 hout e0 e1 e2 e3 hc10 hq10 hwz
      go_wp2
      rw [show (((((w8.setCell ⟨x, 1, none⟩ (.int .i64 u))).setCell ⟨w.heap.size, 0, none⟩ (.string s)).setCell ⟨w.heap.size, 1, none⟩ (.int .i64 u)).setCell ⟨w.heap.size, 2, none⟩ (.int .i64 y2)).setCell ⟨w.heap.size, 3, none⟩ (.int .i64 x2) = wz from HWZ.out.symm]
      have hz1 := HZ1.out
      have hz2 : Cursor (put4 (w8.setCell ⟨x, 1, none⟩ (.int .i64 u)) w.heap.size s u y2 x2) g A cap zs i5 h5 := HZ2.out
      have hz3 : w.grownBy (put4 (w8.setCell ⟨x, 1, none⟩ (.int .i64 u)) w.heap.size s u y2 x2) (some g) := HZ3.out
      rw [← HWZ.out] at hz1 hz2 hz3
      obtain ⟨e0, e1, e2, e3⟩ := hz1
      exact bodyPost_ret (v := .agg #[.string s, .int .i64 u, .int .i64 y2, .int .i64 x2]) (by simp [results, Try.results60, go_sem, e0, e1, e2, e3]) rfl ⟨rfl, hz2, hz3⟩

set_option maxRecDepth 100000 in
set_option maxHeartbeats 1600000 in
theorem l4cache_true3 (A : Option Addr) (cap : Nat) (zs : List Int) (i : Nat) (h : Int) (s : ByteArray) (at0 : Int) (i1 : Nat) (h1 : Int) (N : Nat) (i3 : Nat) (h3 : Int) (i4 : Nat) (h4 : Int) (fp fy fx : Nat → Int) (fi : Nat → Nat) (fh : Nat → Int) (p2 y2 x2 X : Int) (s8 : s.size ≤ 8) (N4 : N ≤ 4)
    (HR : Hid (∀ (w : World) (g : Nat), Cursor w g A cap zs i h → Calls Try.prog 96 #[.pointer (some ⟨g, 0, none⟩)] w fun e w' => e = .returned (.agg #[.string s, .int .i64 at0]) ∧ Cursor w' g A cap zs i1 h1 ∧ w.grownBy w' (some g)))
    (HN : Hid (∀ (w : World) (g : Nat), Cursor w g A cap zs i1 h1 → Calls Try.prog 92 #[.pointer (some ⟨g, 0, none⟩), .int .i64 5] w fun e w' => e = .returned (.int .i64 N) ∧ Cursor w' g A cap zs (fi 0) (fh 0) ∧ w.grownBy w' (some g)))
    (F0 : Hid (fp 0 = 0 ∧ fy 0 = 0 ∧ fx 0 = 0))
    (HF : Hid (∀ t, ∃ (m : Int) (b : Bool), (∀ (w : World) (g : Nat), Cursor w g A cap zs (fi t) (fh t) →
        Calls Try.prog 92 #[.pointer (some ⟨g, 0, none⟩), .int .i64 12] w fun e w' => e = .returned (.int .i64 m) ∧ Cursor w' g A cap zs (fi (t + 1)) (fh (t + 1)) ∧ w.grownBy w' (some g)) ∧
      (∀ w : World, Calls Try.prog 37 #[.agg #[.string s, .int .i64 (fp t), .int .i64 (fy t), .int .i64 (fx t)], .int .i64 m] w fun e w' => e = .returned (.tuple #[.agg #[.string s, .int .i64 (fp (t + 1)), .int .i64 (fy (t + 1)), .int .i64 (fx (t + 1))], .bool b]) ∧ Below w.heap.size w w')))
    (HO : Hid (∀ (w : World) (g : Nat), Cursor w g A cap zs (fi N) (fh N) → Calls Try.prog 61 #[.pointer (some ⟨g, 0, none⟩), .int .i64 3] w fun e w' => e = .returned (.bool true) ∧ Cursor w' g A cap zs i3 h3 ∧ w.grownBy w' (some g)))
    (HX : Hid (∀ (w : World) (g : Nat), Cursor w g A cap zs i3 h3 → Calls Try.prog 92 #[.pointer (some ⟨g, 0, none⟩), .int .i64 16] w fun e w' => e = .returned (.int .i64 X) ∧ Cursor w' g A cap zs i4 h4 ∧ w.grownBy w' (some g)))
    (HZ : Hid (∀ w : World, Calls Try.prog 63 #[.agg #[.string s, .int .i64 (fp N), .int .i64 (fy N), .int .i64 (fx N)]] w fun e w' => e = .returned (.agg #[.string s, .int .i64 p2, .int .i64 y2, .int .i64 x2]) ∧ Below w.heap.size w w'))
    (P0 : 0 ≤ p2) (P9 : p2 ≤ 8) (Y0 : 0 ≤ y2) (Y9 : y2 < 72057594037927936) (X0 : 0 ≤ x2) (X9 : x2 ≤ 56)
    (hX : 3 ≤ X) (w : World) (g : Nat) (hC : Cursor w g A cap zs i h) :
    Calls Try.prog 60 #[.pointer (some ⟨g, 0, none⟩)] w fun e w' => e = .returned (.agg #[.string s, .int .i64 p2, .int .i64 y2, .int .i64 x2]) ∧ Cursor w' g A cap zs i4 h4 ∧ w.grownBy w' (some g) := by
  have hgw := hC.lt
  have HC := Lib.hid hC; clear hC
  have HNW := Lib.hid (spec_new_any s)
  unfold cv at HNW
  go_enter Try.func60, Try.ntmps60
  go_wp2_with fail
  refine (HR.out _ _ (HC.out.alloc _)).mono ?_
  rintro e w1 ⟨rfl, hC1, hg1⟩
  have G1 := Lib.hid hC1; clear hC1
  have R1 := Lib.hid (grown_at (heap_alloc_new w _) hg1 (by omega))
  have Q1 := Lib.hid ((World.grownBy_alloc w _ _).trans hg1); clear hg1
  go_wp2_with fail
  refine (HNW.out _).mono ?_
  rintro e w2 ⟨rfl, hb⟩
  have G2 := Lib.hid (cursor_below (G1.out.alloc _) hb)
  have R2 := Lib.hid (cell_kept (heap_keep' R1.out _) hb)
  have Q2 := Lib.hid ((grown_alloc Q1.out _).trans (below_grows hb _)); clear hb
  go_wp2_with fail
  refine (HN.out _ _ (G2.out.alloc _)).mono ?_
  rintro e w3 ⟨rfl, hC3, hg3⟩
  have hgx : g < w2.heap.size := G2.out.lt
  have G3 := Lib.hid hC3; clear hC3
  have R3 := Lib.hid (grown_at (heap_keep' R2.out _) hg3 (by omega))
  have X3 := Lib.hid (grown_at (heap_alloc_new w2 _) hg3 (by omega))
  have Q3 := Lib.hid ((grown_alloc Q2.out _).trans hg3); clear hg3
  have hxw : w.heap.size ≤ w2.heap.size := Q2.out.size
  have hxr : w.heap.size < w2.heap.size := heap_lt R2.out
  obtain ⟨x, hx⟩ : ∃ x, x = w2.heap.size := ⟨_, rfl⟩
  rw [← hx] at hgx X3 hxr hxw ⊢
  clear hx
  go_wp2
  go_loopw [5] (fun n wr => ∃ t : Nat, t ≤ N ∧ n = .int .i64 ((N : Int) - (t : Int)) ∧ Cursor wr g A cap zs (fi t) (fh t) ∧ w.grownBy wr (some g) ∧ wr.heap[w.heap.size]? = some (.cells #[.string ⟨#[]⟩, .int .i64 0, .int .i64 0, .int .i64 0] 25 (0, 0)) ∧
      wr.heap[x]? = some (.cells #[.string s, .int .i64 (fp t), .int .i64 (fy t), .int .i64 (fx t)] 25 (0, 0)))
    (fun n _ => (intOf n).toNat)
  case atStart => exact ⟨0, Nat.zero_le _, by simp, G3.out, Q3.out, R3.out, by rw [F0.out.1, F0.out.2.1, F0.out.2.2]; exact X3.out⟩
  case round =>
    obtain ⟨t, ht, rfl, hCr, hgr, hR, hX⟩ := hrel
    have GR := Lib.hid hCr; clear hCr
    have HGR := Lib.hid hgr; clear hgr
    have HRR := Lib.hid hR; clear hR
    have HXX := Lib.hid hX
    obtain ⟨c0, c1, c2, c3⟩ := cells4 hX
    obtain ⟨f0, f1, f2, f3⟩ := frozen4 hX
    clear hX
    by_cases hlt : t < N
    · obtain ⟨m, b, hc1, hc2⟩ := HF.out t
      have HA := Lib.hid hc1; have HS := Lib.hid hc2; clear hc1 hc2
      have hpos : 0 < (N : Int) - (t : Int) := by omega
      have hneg : x ≠ g := by omega
      go_wp2
      go_region_with (first | (go_at_call 92; refine (HA.out _ _ GR.out.drew).mono ?_; rintro e w4 ⟨rfl, hC4, hg4⟩; have x4 := @grown_at wr.drew _ _ _ _ HXX.out hg4 hneg; have r4 := @grown_at wr.drew _ _ _ _ HRR.out hg4 (by omega); have q4 := HGR.out.trans ((grown_drew (grown_refl wr _)).trans hg4); have G4 := Lib.hid hC4; have X4 := Lib.hid x4; have R4 := Lib.hid r4; have Q4 := Lib.hid q4; obtain ⟨i0, i1, i2, i3⟩ := cells4 x4; clear hC4 hg4 x4 r4 q4) | (go_at_call 37; refine (HS.out _).mono ?_; rintro e w5 ⟨rfl, hb5⟩; have G5 := Lib.hid (cursor_below G4.out hb5); have x5 := cell_kept X4.out hb5; have X5 := Lib.hid x5; have R5 := Lib.hid (cell_kept R4.out hb5); have Q5 := Lib.hid (Q4.out.trans (below_grows hb5 _)); obtain ⟨j0, j1, j2, j3⟩ := cells4 x5; obtain ⟨l0, l1, l2, l3⟩ := frozen4 x5; clear hb5 x5))
      all_goals
        have hput := put4_block X5.out s (fp (t + 1)) (fy (t + 1)) (fx (t + 1))
        have hoth := (put4_other (w := w5) (g := x) (k := w.heap.size) (by omega) s (fp (t + 1)) (fy (t + 1)) (fx (t + 1))).trans R5.out
        have hcur := G5.out.kept (w' := put4 w5 x s (fp (t + 1)) (fy (t + 1)) (fx (t + 1))) (fun k hk => put4_other (by omega) s _ _ _)
        have hgro := grown_new (grown_new (grown_new (grown_new Q5.out hxw 0 (.string s)) hxw 1 (.int .i64 (fp (t + 1)))) hxw 2 (.int .i64 (fy (t + 1)))) hxw 3 (.int .i64 (fx (t + 1)))
        have HP1 := Lib.hid hput; have HP2 := Lib.hid hoth; have HP3 := Lib.hid hcur; have HP4 := Lib.hid hgro
        clear hput hoth hcur hgro
        go_wp2
        go_roundw
        all_goals first
          | exact ⟨t + 1, by omega, by go_num, HP3.out, HP4.out, HP2.out, HP1.out⟩
          | (simp [intOf]; omega)
    · obtain rfl : t = N := by omega
      clear f0 f1 f2 f3
      go_wp2_with fail
      refine (HO.out _ _ GR.out).mono ?_
      rintro e w4 ⟨rfl, hC4, hg4⟩
      clear c0 c1 c2 c3
      have x4 := grown_at HXX.out hg4 (by omega)
      have r4 := grown_at HRR.out hg4 (by omega)
      have q4 := HGR.out.trans hg4
      have G4 := Lib.hid hC4; have X4 := Lib.hid x4; have R4 := Lib.hid r4; have Q4 := Lib.hid q4
      clear hC4 hg4 x4 r4 q4
      obtain ⟨c0, c1, c2, c3⟩ := cells4 X4.out
      go_wp2_with fail
      refine (HZ.out _).mono ?_
      rintro e w5 ⟨rfl, hb5⟩
      clear c0 c1 c2 c3
      have x5 := cell_kept X4.out hb5
      have r5 := cell_kept R4.out hb5
      obtain ⟨c0, c1, c2, c3⟩ := cells4 x5
      obtain ⟨f0, f1, f2, f3⟩ := frozen4 x5
      have hput := put4_block x5 s p2 y2 x2
      have hoth := (put4_other (w := w5) (g := x) (k := w.heap.size) (by omega) s p2 y2 x2).trans r5
      have hcur := (cursor_below G4.out hb5).kept (w' := put4 w5 x s p2 y2 x2) (fun k hk => put4_other (by omega) s _ _ _)
      have hgro : w.grownBy (put4 w5 x s p2 y2 x2) (some g) := grown_new (grown_new (grown_new (grown_new (Q4.out.trans (below_grows hb5 _)) hxw 0 (.string s)) hxw 1 (.int .i64 p2)) hxw 2 (.int .i64 y2)) hxw 3 (.int .i64 x2)
      obtain ⟨wx, hwx⟩ : ∃ wx, wx = put4 w5 x s p2 y2 x2 := ⟨_, rfl⟩
      rw [← hwx] at hput hoth hcur hgro
      have HWX := Lib.hid hwx; have X6 := Lib.hid hput; have R6 := Lib.hid hoth; have G6 := Lib.hid hcur; have Q6 := Lib.hid hgro
      clear hput hoth hcur hgro hwx hb5 x5 r5
      go_upto_region 9 with fail
      rw [show (((w5.setCell ⟨x, 0, none⟩ (.string s)).setCell ⟨x, 1, none⟩ (.int .i64 p2)).setCell ⟨x, 2, none⟩ (.int .i64 y2)).setCell ⟨x, 3, none⟩ (.int .i64 x2) = wx from HWX.out.symm]
      clear c0 c1 c2 c3 f0 f1 f2 f3
      go_wp2_with fail
      refine (HX.out _ _ G6.out).mono ?_
      rintro e w7 ⟨rfl, hC7, hg7⟩
      have x7 := grown_at X6.out hg7 (by omega)
      have r7 := grown_at R6.out hg7 (by omega)
      have G7 := Lib.hid hC7; have X7 := Lib.hid x7; have R7 := Lib.hid r7; have Q7 := Lib.hid (Q6.out.trans hg7)
      clear hC7 hg7
      obtain ⟨c0, c1, c2, c3⟩ := cells4 x7
      obtain ⟨f0, f1, f2, f3⟩ := frozen4 x7
      obtain ⟨d0, d1, d2, d3⟩ := cells4 r7
      obtain ⟨g0, g1, g2, g3⟩ := frozen4 r7
      have hxr' : w.heap.size ≠ x := by omega
      clear x7 r7
      have hr9 := R7.out
      have hc9 := G7.out
      have hq9 := Q7.out
      have hout := put4_block hr9 s p2 y2 x2
      obtain ⟨e0, e1, e2, e3⟩ := cells4 hout
      have hc10 := cursor_new (cursor_new (cursor_new (cursor_new hc9 hgw 0 (.string s)) hgw 1 (.int .i64 p2)) hgw 2 (.int .i64 y2)) hgw 3 (.int .i64 x2)
      have hq10 := grown_new (grown_new (grown_new (grown_new hq9 (Nat.le_refl _) 0 (.string s)) (Nat.le_refl _) 1 (.int .i64 p2)) (Nat.le_refl _) 2 (.int .i64 y2)) (Nat.le_refl _) 3 (.int .i64 x2)
      obtain ⟨wz, hwz⟩ : ∃ wz, wz = put4 w7 w.heap.size s p2 y2 x2 := ⟨_, rfl⟩
      have HZ1 := Lib.hid (And.intro e0 (And.intro e1 (And.intro e2 e3)))
      have HZ2 := Lib.hid hc10; have HZ3 := Lib.hid hq10; have HWZ := Lib.hid hwz
      clear hr9 hc9 hq9 hout e0 e1 e2 e3 hc10 hq10 hwz
      go_wp2
      rw [show ((((w7).setCell ⟨w.heap.size, 0, none⟩ (.string s)).setCell ⟨w.heap.size, 1, none⟩ (.int .i64 p2)).setCell ⟨w.heap.size, 2, none⟩ (.int .i64 y2)).setCell ⟨w.heap.size, 3, none⟩ (.int .i64 x2) = wz from HWZ.out.symm]
      have hz1 := HZ1.out
      have hz2 : Cursor (put4 w7 w.heap.size s p2 y2 x2) g A cap zs i4 h4 := HZ2.out
      have hz3 : w.grownBy (put4 w7 w.heap.size s p2 y2 x2) (some g) := HZ3.out
      rw [← HWZ.out] at hz1 hz2 hz3
      obtain ⟨e0, e1, e2, e3⟩ := hz1
      exact bodyPost_ret (v := .agg #[.string s, .int .i64 p2, .int .i64 y2, .int .i64 x2]) (by simp [results, Try.results60, go_sem, e0, e1, e2, e3]) rfl ⟨rfl, hz2, hz3⟩

end Go.Proofs.Ytgacldhpohnpaaa

namespace Go.Proofs.Ytgacldhpohnpaaa
open Go.RowKit
set_option linter.unusedVariables false

theorem nth3 (a b c : Int) : ∀ k, k < 3 → [a, b, c].getD k 0 = a ∨ [a, b, c].getD k 0 = b ∨ [a, b, c].getD k 0 = c
  | 0, _ => .inl rfl
  | 1, _ => .inr (.inl rfl)
  | 2, _ => .inr (.inr rfl)

theorem l4cache_det (A : Option Addr) (cap : Nat) (zs : List Int) (i : Nat) (h : Int) (hi : i ≤ zs.length) : ∃ (s : ByteArray) (p y x : Int) (i' : Nat) (h' : Int), s.size ≤ 8 ∧ i' ≤ zs.length ∧ ∀ (w : World) (g : Nat), Cursor w g A cap zs i h →
    Calls Try.prog 60 #[.pointer (some ⟨g, 0, none⟩)] w fun e w' => e = .returned (.agg #[.string s, .int .i64 p, .int .i64 y, .int .i64 x]) ∧ Cursor w' g A cap zs i' h' ∧ w.grownBy w' (some g) := by
  obtain ⟨s, at0, i1, h1, s8, _, _, l1, CR⟩ := l3reader_det A cap zs i h hi
  obtain ⟨N, i2, h2, n0, n9, _, l2, CN⟩ := below_det A cap zs i1 h1 l1 5
  have n9 := n9 (by decide)
  obtain ⟨N, rfl⟩ := Int.eq_ofNat_of_zero_le n0
  obtain ⟨fp, fy, fx, fi, fh, e0, e1, e2, rfl, rfl, fl, fk, FR⟩ := skips_det A cap zs i2 h2 l2 s (by omega)
  obtain ⟨b, i3, h3, l3, CO⟩ := once_det A cap zs (fi N) (fh N) (fl N) 3
  obtain ⟨X, i4, h4, x0, x9, _, l4, CX⟩ := below_det A cap zs i3 h3 l3 16
  cases b with
  | false =>
    obtain ⟨r0, r1, r2, r3, r4, r5⟩ := ck_range s _ _ _ (fk N)
    by_cases hX0 : X = 0
    · exact ⟨s, _, _, _, i4, h4, s8, l4, l4cache_false0 A cap zs i h s at0 i1 h1 N i3 h3 i4 h4 fp fy fx fi fh (fp N) (fy N) (fx N) X s8 (by omega) (Lib.hid CR) (Lib.hid CN) (Lib.hid ⟨e0, e1, e2⟩) (Lib.hid FR) (Lib.hid CO) (Lib.hid CX) (Lib.hid ⟨rfl, rfl, rfl⟩) r0 (by omega) r4 r5 r2 r3 hX0⟩
    by_cases hX1 : X = 1
    · obtain ⟨k, i5, h5, hk, l5, CP⟩ := pickint_det A cap zs i4 h4 l4 [-1, fx N + 1, 57] (by simp) (by simp)
      exact ⟨s, _, _, _, i5, h5, s8, l5, l4cache_false1 A cap zs i h s at0 i1 h1 N i3 h3 i4 h4 fp fy fx fi fh (fp N) (fy N) (fx N) X s8 (by omega) (Lib.hid CR) (Lib.hid CN) (Lib.hid ⟨e0, e1, e2⟩) (Lib.hid FR) (Lib.hid CO) (Lib.hid CX) (Lib.hid ⟨rfl, rfl, rfl⟩) r0 (by omega) r4 r5 r2 r3 i5 h5 _ (Lib.hid CP) hX1⟩
    by_cases hX2 : X = 2
    · obtain ⟨k, i5, h5, hk, l5, CP⟩ := pickint_det A cap zs i4 h4 l4 [-1, fp N + 1, (s.size : Int) + 1] (by simp) (by simp)
      exact ⟨s, _, _, _, i5, h5, s8, l5, l4cache_false2 A cap zs i h s at0 i1 h1 N i3 h3 i4 h4 fp fy fx fi fh (fp N) (fy N) (fx N) X s8 (by omega) (Lib.hid CR) (Lib.hid CN) (Lib.hid ⟨e0, e1, e2⟩) (Lib.hid FR) (Lib.hid CO) (Lib.hid CX) (Lib.hid ⟨rfl, rfl, rfl⟩) r0 (by omega) r4 r5 r2 r3 i5 h5 _ (Lib.hid CP) hX2⟩
    · exact ⟨s, _, _, _, i4, h4, s8, l4, l4cache_false3 A cap zs i h s at0 i1 h1 N i3 h3 i4 h4 fp fy fx fi fh (fp N) (fy N) (fx N) X s8 (by omega) (Lib.hid CR) (Lib.hid CN) (Lib.hid ⟨e0, e1, e2⟩) (Lib.hid FR) (Lib.hid CO) (Lib.hid CX) (Lib.hid ⟨rfl, rfl, rfl⟩) r0 (by omega) r4 r5 r2 r3 (by omega)⟩
  | true =>
    obtain ⟨a, P, hA, ep, ex, ey⟩ := ckOk_at s _ _ _ (fk N)
    have CZ := spec_refill_in s a P (by omega) hA
    have r := ck_range s _ _ _ (ckOk_of s a (rfP s a P) (rfP_at s a P hA).2)
    unfold cw cv at CZ
    rw [← ep, ← ey, ← ex] at CZ
    obtain ⟨p2, hp2⟩ : ∃ p2 : Int, p2 = (rfP s a P : Int) := ⟨_, rfl⟩
    obtain ⟨y2, hy2⟩ : ∃ y2 : Int, y2 = (rdN s a (8 * rfP s a P - a) : Int) := ⟨_, rfl⟩
    obtain ⟨x2, hx2⟩ : ∃ x2 : Int, x2 = ((8 * rfP s a P - a : Nat) : Int) := ⟨_, rfl⟩
    rw [← hp2, ← hy2, ← hx2] at CZ r
    clear hp2 hy2 hx2
    obtain ⟨r0, r1, r2, r3, r4, r5⟩ := r
    by_cases hX0 : X = 0
    · exact ⟨s, _, _, _, i4, h4, s8, l4, l4cache_true0 A cap zs i h s at0 i1 h1 N i3 h3 i4 h4 fp fy fx fi fh p2 y2 x2 X s8 (by omega) (Lib.hid CR) (Lib.hid CN) (Lib.hid ⟨e0, e1, e2⟩) (Lib.hid FR) (Lib.hid CO) (Lib.hid CX) (Lib.hid CZ) r0 (by omega) r4 r5 r2 r3 hX0⟩
    by_cases hX1 : X = 1
    · obtain ⟨k, i5, h5, hk, l5, CP⟩ := pickint_det A cap zs i4 h4 l4 [-1, x2 + 1, 57] (by simp) (by simp)
      exact ⟨s, _, _, _, i5, h5, s8, l5, l4cache_true1 A cap zs i h s at0 i1 h1 N i3 h3 i4 h4 fp fy fx fi fh p2 y2 x2 X s8 (by omega) (Lib.hid CR) (Lib.hid CN) (Lib.hid ⟨e0, e1, e2⟩) (Lib.hid FR) (Lib.hid CO) (Lib.hid CX) (Lib.hid CZ) r0 (by omega) r4 r5 r2 r3 i5 h5 _ (Lib.hid CP) hX1⟩
    by_cases hX2 : X = 2
    · obtain ⟨k, i5, h5, hk, l5, CP⟩ := pickint_det A cap zs i4 h4 l4 [-1, p2 + 1, (s.size : Int) + 1] (by simp) (by simp)
      exact ⟨s, _, _, _, i5, h5, s8, l5, l4cache_true2 A cap zs i h s at0 i1 h1 N i3 h3 i4 h4 fp fy fx fi fh p2 y2 x2 X s8 (by omega) (Lib.hid CR) (Lib.hid CN) (Lib.hid ⟨e0, e1, e2⟩) (Lib.hid FR) (Lib.hid CO) (Lib.hid CX) (Lib.hid CZ) r0 (by omega) r4 r5 r2 r3 i5 h5 _ (Lib.hid CP) hX2⟩
    · exact ⟨s, _, _, _, i4, h4, s8, l4, l4cache_true3 A cap zs i h s at0 i1 h1 N i3 h3 i4 h4 fp fy fx fi fh p2 y2 x2 X s8 (by omega) (Lib.hid CR) (Lib.hid CN) (Lib.hid ⟨e0, e1, e2⟩) (Lib.hid FR) (Lib.hid CO) (Lib.hid CX) (Lib.hid CZ) r0 (by omega) r4 r5 r2 r3 (by omega)⟩

theorem nth9 (x : Int) (h0 : 0 ≤ x) (h1 : x < 12) (k : Nat) : -1 ≤ [0, 1, 2, 5, 9, 16, 17, -1, x].getD k 0 ∧ [0, 1, 2, 5, 9, 16, 17, -1, x].getD k 0 ≤ 17 := by
  match k with
  | 0 | 1 | 2 | 3 | 4 | 5 | 6 | 7 => simp
  | 8 => simp; omega
  | k + 9 => simp

end Go.Proofs.Ytgacldhpohnpaaa
