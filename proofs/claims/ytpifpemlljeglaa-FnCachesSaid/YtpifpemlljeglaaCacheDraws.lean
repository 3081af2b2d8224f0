/-
  Contracts of chapter 4's draws, joined: a cache with a number of bits; each returns, and its answer depends on the input's bytes alone. Condition: the input is no longer than 1048576 bytes.
-/
import Derived.Test.YtpifpemlljeglaaCacheDraw
namespace Go.Proofs.Ytpifpemlljeglaa
open Go.RowKit
set_option linter.unusedVariables false

theorem nth3 (a b c : Int) : ∀ k, k < 3 → [a, b, c].getD k 0 = a ∨ [a, b, c].getD k 0 = b ∨ [a, b, c].getD k 0 = c
  | 0, _ => .inl rfl
  | 1, _ => .inr (.inl rfl)
  | 2, _ => .inr (.inr rfl)

theorem l4cache_det (A : Option Addr) (cap : Nat) (zs : List Int) (i : Nat) (h : Int) (hi : i ≤ zs.length) : ∃ (s : ByteArray) (p y x : Int) (i' : Nat) (h' : Int), s.size ≤ 8 ∧ i' ≤ zs.length ∧ ∀ (w : World) (g : Nat), Cursor w g A cap zs i h →
    Calls Try.prog 52 #[.pointer (some ⟨g, 0, none⟩)] w fun e w' => e = .returned (.agg #[.string s, .int .i64 p, .int .i64 y, .int .i64 x]) ∧ Cursor w' g A cap zs i' h' ∧ w.grownBy w' (some g) := by
  obtain ⟨s, at0, i1, h1, s8, _, _, l1, CR⟩ := l3reader_det A cap zs i h hi
  obtain ⟨N, i2, h2, n0, n9, _, l2, CN⟩ := below_det A cap zs i1 h1 l1 5
  have n9 := n9 (by decide)
  obtain ⟨N, rfl⟩ := Int.eq_ofNat_of_zero_le n0
  obtain ⟨fp, fy, fx, fi, fh, e0, e1, e2, rfl, rfl, fl, fk, FR⟩ := skips_det A cap zs i2 h2 l2 s (by omega)
  obtain ⟨b, i3, h3, l3, CO⟩ := once_det A cap zs (fi N) (fh N) (fl N) 3
  obtain ⟨X, i4, h4, x0, x9, _, l4, CX⟩ := below_det A cap zs i3 h3 l3 16
  cases b with
  | false =>
    obtain ⟨r0, r1, r2, r3, r4, r5⟩ := ck_range s _ _ _ (fk N)
    by_cases hX0 : X = 0
    · exact ⟨s, _, _, _, i4, h4, s8, l4, l4cache_false0 A cap zs i h s at0 i1 h1 N i3 h3 i4 h4 fp fy fx fi fh (fp N) (fy N) (fx N) X s8 (by omega) (Lib.hid CR) (Lib.hid CN) (Lib.hid ⟨e0, e1, e2⟩) (Lib.hid FR) (Lib.hid CO) (Lib.hid CX) (Lib.hid ⟨rfl, rfl, rfl⟩) r0 (by omega) r4 r5 r2 r3 hX0⟩
    by_cases hX1 : X = 1
    · obtain ⟨k, i5, h5, hk, l5, CP⟩ := pickint_det A cap zs i4 h4 l4 [-1, fx N + 1, 57] (by simp) (by simp)
      exact ⟨s, _, _, _, i5, h5, s8, l5, l4cache_false1 A cap zs i h s at0 i1 h1 N i3 h3 i4 h4 fp fy fx fi fh (fp N) (fy N) (fx N) X s8 (by omega) (Lib.hid CR) (Lib.hid CN) (Lib.hid ⟨e0, e1, e2⟩) (Lib.hid FR) (Lib.hid CO) (Lib.hid CX) (Lib.hid ⟨rfl, rfl, rfl⟩) r0 (by omega) r4 r5 r2 r3 i5 h5 _ (Lib.hid CP) hX1⟩
    by_cases hX2 : X = 2
    · obtain ⟨k, i5, h5, hk, l5, CP⟩ := pickint_det A cap zs i4 h4 l4 [-1, fp N + 1, (s.size : Int) + 1] (by simp) (by simp)
      exact ⟨s, _, _, _, i5, h5, s8, l5, l4cache_false2 A cap zs i h s at0 i1 h1 N i3 h3 i4 h4 fp fy fx fi fh (fp N) (fy N) (fx N) X s8 (by omega) (Lib.hid CR) (Lib.hid CN) (Lib.hid ⟨e0, e1, e2⟩) (Lib.hid FR) (Lib.hid CO) (Lib.hid CX) (Lib.hid ⟨rfl, rfl, rfl⟩) r0 (by omega) r4 r5 r2 r3 i5 h5 _ (Lib.hid CP) hX2⟩
    · exact ⟨s, _, _, _, i4, h4, s8, l4, l4cache_false3 A cap zs i h s at0 i1 h1 N i3 h3 i4 h4 fp fy fx fi fh (fp N) (fy N) (fx N) X s8 (by omega) (Lib.hid CR) (Lib.hid CN) (Lib.hid ⟨e0, e1, e2⟩) (Lib.hid FR) (Lib.hid CO) (Lib.hid CX) (Lib.hid ⟨rfl, rfl, rfl⟩) r0 (by omega) r4 r5 r2 r3 (by omega)⟩
  | true =>
    obtain ⟨a, P, hA, ep, ex, ey⟩ := ckOk_at s _ _ _ (fk N)
    have CZ := spec_refill_in s a P (by omega) hA
    have r := ck_range s _ _ _ (ckOk_of s a (rfP s a P) (rfP_at s a P hA).2)
    unfold cw cv at CZ
    rw [← ep, ← ey, ← ex] at CZ
    obtain ⟨p2, hp2⟩ : ∃ p2 : Int, p2 = (rfP s a P : Int) := ⟨_, rfl⟩
    obtain ⟨y2, hy2⟩ : ∃ y2 : Int, y2 = (rdN s a (8 * rfP s a P - a) : Int) := ⟨_, rfl⟩
    obtain ⟨x2, hx2⟩ : ∃ x2 : Int, x2 = ((8 * rfP s a P - a : Nat) : Int) := ⟨_, rfl⟩
    rw [← hp2, ← hy2, ← hx2] at CZ r
    clear hp2 hy2 hx2
    obtain ⟨r0, r1, r2, r3, r4, r5⟩ := r
    by_cases hX0 : X = 0
    · exact ⟨s, _, _, _, i4, h4, s8, l4, l4cache_true0 A cap zs i h s at0 i1 h1 N i3 h3 i4 h4 fp fy fx fi fh p2 y2 x2 X s8 (by omega) (Lib.hid CR) (Lib.hid CN) (Lib.hid ⟨e0, e1, e2⟩) (Lib.hid FR) (Lib.hid CO) (Lib.hid CX) (Lib.hid CZ) r0 (by omega) r4 r5 r2 r3 hX0⟩
    by_cases hX1 : X = 1
    · obtain ⟨k, i5, h5, hk, l5, CP⟩ := pickint_det A cap zs i4 h4 l4 [-1, x2 + 1, 57] (by simp) (by simp)
      exact ⟨s, _, _, _, i5, h5, s8, l5, l4cache_true1 A cap zs i h s at0 i1 h1 N i3 h3 i4 h4 fp fy fx fi fh p2 y2 x2 X s8 (by omega) (Lib.hid CR) (Lib.hid CN) (Lib.hid ⟨e0, e1, e2⟩) (Lib.hid FR) (Lib.hid CO) (Lib.hid CX) (Lib.hid CZ) r0 (by omega) r4 r5 r2 r3 i5 h5 _ (Lib.hid CP) hX1⟩
    by_cases hX2 : X = 2
    · obtain ⟨k, i5, h5, hk, l5, CP⟩ := pickint_det A cap zs i4 h4 l4 [-1, p2 + 1, (s.size : Int) + 1] (by simp) (by simp)
      exact ⟨s, _, _, _, i5, h5, s8, l5, l4cache_true2 A cap zs i h s at0 i1 h1 N i3 h3 i4 h4 fp fy fx fi fh p2 y2 x2 X s8 (by omega) (Lib.hid CR) (Lib.hid CN) (Lib.hid ⟨e0, e1, e2⟩) (Lib.hid FR) (Lib.hid CO) (Lib.hid CX) (Lib.hid CZ) r0 (by omega) r4 r5 r2 r3 i5 h5 _ (Lib.hid CP) hX2⟩
    · exact ⟨s, _, _, _, i4, h4, s8, l4, l4cache_true3 A cap zs i h s at0 i1 h1 N i3 h3 i4 h4 fp fy fx fi fh p2 y2 x2 X s8 (by omega) (Lib.hid CR) (Lib.hid CN) (Lib.hid ⟨e0, e1, e2⟩) (Lib.hid FR) (Lib.hid CO) (Lib.hid CX) (Lib.hid CZ) r0 (by omega) r4 r5 r2 r3 (by omega)⟩

theorem nth9 (x : Int) (h0 : 0 ≤ x) (h1 : x < 12) (k : Nat) : -1 ≤ [0, 1, 2, 5, 9, 16, 17, -1, x].getD k 0 ∧ [0, 1, 2, 5, 9, 16, 17, -1, x].getD k 0 ≤ 17 := by
  match k with
  | 0 | 1 | 2 | 3 | 4 | 5 | 6 | 7 => simp
  | 8 => simp; omega
  | k + 9 => simp

set_option maxRecDepth 100000 in
set_option maxHeartbeats 1000000 in
theorem l4count_det (A : Option Addr) (cap : Nat) (zs : List Int) (i : Nat) (h : Int) (hi : i ≤ zs.length) : ∃ (n : Int) (i' : Nat) (h' : Int), -1 ≤ n ∧ n ≤ 17 ∧ i' ≤ zs.length ∧ ∀ (w : World) (g : Nat), Cursor w g A cap zs i h →
    Calls Try.prog 53 #[.pointer (some ⟨g, 0, none⟩)] w fun e w' => e = .returned (.int .i64 n) ∧ Cursor w' g A cap zs i' h' ∧ w.grownBy w' (some g) := by
  obtain ⟨x, i1, h1, x0, x9, _, l1, C1⟩ := below_det A cap zs i h hi 12
  have x9 := x9 (by decide)
  obtain ⟨k, i2, h2, hk, l2, C2⟩ := pickint_det A cap zs i1 h1 l1 [0, 1, 2, 5, 9, 16, 17, -1, x] (by simp) (by simp)
  obtain ⟨n0, n1⟩ := nth9 x x0 x9 k
  obtain ⟨n, hn⟩ : ∃ n, n = [0, 1, 2, 5, 9, 16, 17, -1, x].getD k 0 := ⟨_, rfl⟩
  rw [← hn] at n0 n1 C2
  clear hn hk
  refine ⟨n, i2, h2, n0, n1, l2, fun w g hC => ?_⟩
  have HC := Lib.hid hC; have HC1 := Lib.hid C1; have HC2 := Lib.hid C2
  clear hC C1 C2 hi l1 l2
  go_enter Try.func53, Try.ntmps53
  go_wp2_with fail
  refine (HC1.out _ _ HC.out).mono ?_
  rintro e w1 ⟨rfl, hC1, hg1⟩
  have G1 := Lib.hid hC1; have Q1 := Lib.hid hg1; clear hC1 hg1
  go_wp2_with fail
  refine (HC2.out _ _ _ (G1.out.alloc _) (heap_alloc_new w1 _) (by have := G1.out.lt; omega)).mono ?_
  rintro e w2 ⟨rfl, hC2, hg2⟩
  have G2 := Lib.hid hC2; have Q2 := Lib.hid ((grown_alloc Q1.out _).trans hg2); clear hC2 hg2
  go_wp2
  go_ret
  exact ⟨rfl, G2.out, Q2.out⟩

set_option maxRecDepth 100000 in
set_option maxHeartbeats 1000000 in
theorem drawPeek_det (A : Option Addr) (cap : Nat) (zs : List Int) : ∃ (s : ByteArray) (p y x n : Int), s.size ≤ 8 ∧ -1 ≤ n ∧ n ≤ 17 ∧ ∀ w : World, Code w A zs →
    Calls Try.prog 40 #[.slice A zs.length cap] w fun e w' => e = .returned (.tuple #[.agg #[.string s, .int .i64 p, .int .i64 y, .int .i64 x], .int .i64 n]) ∧ Below w.heap.size w w' := by
  obtain ⟨s, p, y, x, i1, h1, s8, l1, C1⟩ := l4cache_det A cap zs 0 (hashF zs (min zs.length 4000)) (Nat.zero_le _)
  obtain ⟨n, i2, h2, n0, n9, l2, C2⟩ := l4count_det A cap zs i1 h1 l1
  refine ⟨s, p, y, x, n, s8, n0, n9, fun w hW => ?_⟩
  have HN := Lib.hid (fun w hb => new_any A cap zs hW.few hW.bytes w hb)
  have HW := Lib.hid hW
  have HC1 := Lib.hid C1; have HC2 := Lib.hid C2
  clear hW C1 C2 l1 l2
  go_enter Try.func40, Try.ntmps40
  go_wp2_with fail
  refine (HN.out _ ((HW.out.below (below_new w _)).lies)).mono ?_
  obtain ⟨g, hg⟩ : ∃ g, g = (w.alloc (.cells #[.string ⟨#[]⟩, .int .i64 0, .int .i64 0, .int .i64 0] 25)).heap.size := ⟨_, rfl⟩
  have hgw : w.heap.size < g := by rw [hg]; simp
  rw [← hg]
  rintro e w1 ⟨rfl, hC, hb⟩
  rw [hg] at hb
  have G1 := Lib.hid hC; clear hC
  have R1 := Lib.hid (cell_kept (heap_alloc_new w _) hb)
  have B1 := Lib.hid (below_step (below_new w _) hb); clear hb hg
  go_wp2_with fail
  refine (HC1.out _ _ G1.out).mono ?_
  rintro e w2 ⟨rfl, hC, hg2⟩
  have G2 := Lib.hid hC; clear hC
  have R2 := Lib.hid (grown_at R1.out hg2 (by omega))
  have B2 := Lib.hid (B1.out.trans (grown_below hg2 (Nat.le_of_lt hgw) B1.out.size)); clear hg2
  go_wp2_with fail
  refine (HC2.out _ _ G2.out).mono ?_
  rintro e w3 ⟨rfl, hC, hg3⟩
  have r3 := grown_at R2.out hg3 (by omega)
  have b3 := B2.out.trans (grown_below hg3 (Nat.le_of_lt hgw) B2.out.size)
  clear hC hg3
  obtain ⟨d0, d1, d2, d3⟩ := cells4 r3
  obtain ⟨f0, f1, f2, f3⟩ := frozen4 r3
  obtain ⟨w4, hw4, e0, e1, e2, e3, hb4⟩ := out4 s p y x r3 (Nat.le_refl _) b3
  have HW4 := Lib.hid hw4; have HE := Lib.hid (And.intro e0 (And.intro e1 (And.intro e2 (And.intro e3 hb4))))
  clear hw4 e0 e1 e2 e3 hb4 r3 b3
  go_wp2
  rw [← HW4.out]
  obtain ⟨e0, e1, e2, e3, hb4⟩ := HE.out
  exact bodyPost_ret (v := .tuple #[.agg #[.string s, .int .i64 p, .int .i64 y, .int .i64 x], .int .i64 n]) (by simp [results, Try.results40, go_sem, e0, e1, e2, e3]) rfl ⟨rfl, hb4⟩

set_option maxRecDepth 100000 in
set_option maxHeartbeats 1000000 in
theorem drawTakeBits_det (A : Option Addr) (cap : Nat) (zs : List Int) : ∃ (s : ByteArray) (p y x n : Int), s.size ≤ 8 ∧ -1 ≤ n ∧ n ≤ 17 ∧ ∀ w : World, Code w A zs →
    Calls Try.prog 14 #[.slice A zs.length cap] w fun e w' => e = .returned (.tuple #[.agg #[.string s, .int .i64 p, .int .i64 y, .int .i64 x], .int .i64 n]) ∧ Below w.heap.size w w' := by
  obtain ⟨s, p, y, x, n, s8, n0, n9, C1⟩ := drawPeek_det A cap zs
  refine ⟨s, p, y, x, n, s8, n0, n9, fun w hW => ?_⟩
  have HC1 := Lib.hid (C1 _ (hW.below (below_new w (.cells #[.string ⟨#[]⟩, .int .i64 0, .int .i64 0, .int .i64 0] 25))))
  clear hW C1
  go_enter Try.func14, Try.ntmps14
  go_wp2_with fail
  refine HC1.out.mono ?_
  rintro e w1 ⟨rfl, hb⟩
  have r3 := cell_kept (heap_alloc_new w _) hb
  have b3 := below_step (below_new w _) hb
  clear hb
  obtain ⟨d0, d1, d2, d3⟩ := cells4 r3
  obtain ⟨f0, f1, f2, f3⟩ := frozen4 r3
  obtain ⟨w4, hw4, e0, e1, e2, e3, hb4⟩ := out4 s p y x r3 (Nat.le_refl _) b3
  have HW4 := Lib.hid hw4; have HE := Lib.hid (And.intro e0 (And.intro e1 (And.intro e2 (And.intro e3 hb4))))
  clear hw4 e0 e1 e2 e3 hb4 r3 b3
  go_wp2
  rw [← HW4.out]
  obtain ⟨e0, e1, e2, e3, hb4⟩ := HE.out
  exact bodyPost_ret (v := .tuple #[.agg #[.string s, .int .i64 p, .int .i64 y, .int .i64 x], .int .i64 n]) (by simp [results, Try.results14, go_sem, e0, e1, e2, e3]) rfl ⟨rfl, hb4⟩
end Go.Proofs.Ytpifpemlljeglaa
