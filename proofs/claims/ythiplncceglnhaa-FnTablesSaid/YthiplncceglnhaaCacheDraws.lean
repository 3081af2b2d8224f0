/-
  Contracts of chapter 4's draws, joined: a cache with a number of bits; each returns, and its answer depends on the input's bytes alone. Condition: the input is no longer than 1048576 bytes.
-/
import Derived.Test.YthiplncceglnhaaCacheDraw
namespace Go.Proofs.Ythiplncceglnhaa
open Go.RowKit
set_option linter.unusedVariables false

theorem nth3 (a b c : Int) : ∀ k, k < 3 → [a, b, c].getD k 0 = a ∨ [a, b, c].getD k 0 = b ∨ [a, b, c].getD k 0 = c
  | 0, _ => .inl rfl
  | 1, _ => .inr (.inl rfl)
  | 2, _ => .inr (.inr rfl)

theorem l4cache_det (A : Option Addr) (cap : Nat) (zs : List Int) (i : Nat) (h : Int) (hi : i ≤ zs.length) : ∃ (s : ByteArray) (p y x : Int) (i' : Nat) (h' : Int), s.size ≤ 8 ∧ i' ≤ zs.length ∧ ∀ (w : World) (g : Nat), Cursor w g A cap zs i h →
    Calls Try.prog 29 #[.pointer (some ⟨g, 0, none⟩)] w fun e w' => e = .returned (.agg #[.string s, .int .i64 p, .int .i64 y, .int .i64 x]) ∧ Cursor w' g A cap zs i' h' ∧ w.grownBy w' (some g) := by
  obtain ⟨s, at0, i1, h1, s8, _, _, l1, CR⟩ := l3reader_det A cap zs i h hi
  obtain ⟨N, i2, h2, n0, n9, _, l2, CN⟩ := below_det A cap zs i1 h1 l1 5
  have n9 := n9 (by decide)
  obtain ⟨N, rfl⟩ := Int.eq_ofNat_of_zero_le n0
  obtain ⟨fp, fy, fx, fi, fh, e0, e1, e2, rfl, rfl, fl, fk, FR⟩ := skips_det A cap zs i2 h2 l2 s (by omega)
  obtain ⟨b, i3, h3, l3, CO⟩ := once_det A cap zs (fi N) (fh N) (fl N) 3
  obtain ⟨X, i4, h4, x0, x9, _, l4, CX⟩ := below_det A cap zs i3 h3 l3 16
  cases b with
  | false =>
    obtain ⟨r0, r1, r2, r3, r4, r5⟩ := ck_range s _ _ _ (fk N)
    by_cases hX0 : X = 0
    · exact ⟨s, _, _, _, i4, h4, s8, l4, l4cache_false0 A cap zs i h s at0 i1 h1 N i3 h3 i4 h4 fp fy fx fi fh (fp N) (fy N) (fx N) X s8 (by omega) (Lib.hid CR) (Lib.hid CN) (Lib.hid ⟨e0, e1, e2⟩) (Lib.hid FR) (Lib.hid CO) (Lib.hid CX) (Lib.hid ⟨rfl, rfl, rfl⟩) r0 (by omega) r4 r5 r2 r3 hX0⟩
    by_cases hX1 : X = 1
    · obtain ⟨k, i5, h5, hk, l5, CP⟩ := pickint_det A cap zs i4 h4 l4 [-1, fx N + 1, 57] (by simp) (by simp)
      exact ⟨s, _, _, _, i5, h5, s8, l5, l4cache_false1 A cap zs i h s at0 i1 h1 N i3 h3 i4 h4 fp fy fx fi fh (fp N) (fy N) (fx N) X s8 (by omega) (Lib.hid CR) (Lib.hid CN) (Lib.hid ⟨e0, e1, e2⟩) (Lib.hid FR) (Lib.hid CO) (Lib.hid CX) (Lib.hid ⟨rfl, rfl, rfl⟩) r0 (by omega) r4 r5 r2 r3 i5 h5 _ (Lib.hid CP) hX1⟩
    by_cases hX2 : X = 2
    · obtain ⟨k, i5, h5, hk, l5, CP⟩ := pickint_det A cap zs i4 h4 l4 [-1, fp N + 1, (s.size : Int) + 1] (by simp) (by simp)
      exact ⟨s, _, _, _, i5, h5, s8, l5, l4cache_false2 A cap zs i h s at0 i1 h1 N i3 h3 i4 h4 fp fy fx fi fh (fp N) (fy N) (fx N) X s8 (by omega) (Lib.hid CR) (Lib.hid CN) (Lib.hid ⟨e0, e1, e2⟩) (Lib.hid FR) (Lib.hid CO) (Lib.hid CX) (Lib.hid ⟨rfl, rfl, rfl⟩) r0 (by omega) r4 r5 r2 r3 i5 h5 _ (Lib.hid CP) hX2⟩
    · exact ⟨s, _, _, _, i4, h4, s8, l4, l4cache_false3 A cap zs i h s at0 i1 h1 N i3 h3 i4 h4 fp fy fx fi fh (fp N) (fy N) (fx N) X s8 (by omega) (Lib.hid CR) (Lib.hid CN) (Lib.hid ⟨e0, e1, e2⟩) (Lib.hid FR) (Lib.hid CO) (Lib.hid CX) (Lib.hid ⟨rfl, rfl, rfl⟩) r0 (by omega) r4 r5 r2 r3 (by omega)⟩
  | true =>
    obtain ⟨a, P, hA, ep, ex, ey⟩ := ckOk_at s _ _ _ (fk N)
    have CZ := spec_refill_in s a P (by omega) hA
    have r := ck_range s _ _ _ (ckOk_of s a (rfP s a P) (rfP_at s a P hA).2)
    unfold cw cv at CZ
    rw [← ep, ← ey, ← ex] at CZ
    obtain ⟨p2, hp2⟩ : ∃ p2 : Int, p2 = (rfP s a P : Int) := ⟨_, rfl⟩
    obtain ⟨y2, hy2⟩ : ∃ y2 : Int, y2 = (rdN s a (8 * rfP s a P - a) : Int) := ⟨_, rfl⟩
    obtain ⟨x2, hx2⟩ : ∃ x2 : Int, x2 = ((8 * rfP s a P - a : Nat) : Int) := ⟨_, rfl⟩
    rw [← hp2, ← hy2, ← hx2] at CZ r
    clear hp2 hy2 hx2
    obtain ⟨r0, r1, r2, r3, r4, r5⟩ := r
    by_cases hX0 : X = 0
    · exact ⟨s, _, _, _, i4, h4, s8, l4, l4cache_true0 A cap zs i h s at0 i1 h1 N i3 h3 i4 h4 fp fy fx fi fh p2 y2 x2 X s8 (by omega) (Lib.hid CR) (Lib.hid CN) (Lib.hid ⟨e0, e1, e2⟩) (Lib.hid FR) (Lib.hid CO) (Lib.hid CX) (Lib.hid CZ) r0 (by omega) r4 r5 r2 r3 hX0⟩
    by_cases hX1 : X = 1
    · obtain ⟨k, i5, h5, hk, l5, CP⟩ := pickint_det A cap zs i4 h4 l4 [-1, x2 + 1, 57] (by simp) (by simp)
      exact ⟨s, _, _, _, i5, h5, s8, l5, l4cache_true1 A cap zs i h s at0 i1 h1 N i3 h3 i4 h4 fp fy fx fi fh p2 y2 x2 X s8 (by omega) (Lib.hid CR) (Lib.hid CN) (Lib.hid ⟨e0, e1, e2⟩) (Lib.hid FR) (Lib.hid CO) (Lib.hid CX) (Lib.hid CZ) r0 (by omega) r4 r5 r2 r3 i5 h5 _ (Lib.hid CP) hX1⟩
    by_cases hX2 : X = 2
    · obtain ⟨k, i5, h5, hk, l5, CP⟩ := pickint_det A cap zs i4 h4 l4 [-1, p2 + 1, (s.size : Int) + 1] (by simp) (by simp)
      exact ⟨s, _, _, _, i5, h5, s8, l5, l4cache_true2 A cap zs i h s at0 i1 h1 N i3 h3 i4 h4 fp fy fx fi fh p2 y2 x2 X s8 (by omega) (Lib.hid CR) (Lib.hid CN) (Lib.hid ⟨e0, e1, e2⟩) (Lib.hid FR) (Lib.hid CO) (Lib.hid CX) (Lib.hid CZ) r0 (by omega) r4 r5 r2 r3 i5 h5 _ (Lib.hid CP) hX2⟩
    · exact ⟨s, _, _, _, i4, h4, s8, l4, l4cache_true3 A cap zs i h s at0 i1 h1 N i3 h3 i4 h4 fp fy fx fi fh p2 y2 x2 X s8 (by omega) (Lib.hid CR) (Lib.hid CN) (Lib.hid ⟨e0, e1, e2⟩) (Lib.hid FR) (Lib.hid CO) (Lib.hid CX) (Lib.hid CZ) r0 (by omega) r4 r5 r2 r3 (by omega)⟩

theorem nth9 (x : Int) (h0 : 0 ≤ x) (h1 : x < 12) (k : Nat) : -1 ≤ [0, 1, 2, 5, 9, 16, 17, -1, x].getD k 0 ∧ [0, 1, 2, 5, 9, 16, 17, -1, x].getD k 0 ≤ 17 := by
  match k with
  | 0 | 1 | 2 | 3 | 4 | 5 | 6 | 7 => simp
  | 8 => simp; omega
  | k + 9 => simp

end Go.Proofs.Ythiplncceglnhaa
