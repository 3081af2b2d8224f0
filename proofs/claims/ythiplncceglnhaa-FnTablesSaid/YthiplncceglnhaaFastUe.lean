/-
  Contracts of the program's FastUe. Condition: the string is no longer than 1048576 bytes (the laws ask no more).
-/
import Derived.Test.YthiplncceglnhaaFastRd
import Derived.Test.YthiplncceglnhaaCacheTake
namespace Go.Proofs.Ythiplncceglnhaa
open Go.RowKit
set_option linter.unusedVariables false

/-- Nine bits are a number below 512. -/
theorem pkV_nine (s : ByteArray) (a Q : Nat) : ∃ x : Nat, pkV s a Q 9 = (x : Int) ∧ x < 512 := by
  unfold pkV
  split
  · rename_i h
    refine ⟨_, rfl, ?_⟩
    have h1 := rdN_lt s a (8 * Q - a)
    have h2 : rdN s a (8 * Q - a) * 2 ^ (9 - (8 * Q - a)) < 2 ^ (8 * Q - a) * 2 ^ (9 - (8 * Q - a)) := Nat.mul_lt_mul_of_pos_right h1 (Nat.two_pow_pos _)
    rw [← Nat.pow_add, show 8 * Q - a + (9 - (8 * Q - a)) = 9 by omega] at h2
    exact h2
  · exact ⟨_, rfl, rdN_lt s a 9⟩
/-- The number of the nine bits that are peeked at. -/
def fnX (s : ByteArray) (a P : Nat) : Nat := (pkV s a (pkP s a P 9) 9).toNat
theorem fnX_eq (s : ByteArray) (a P : Nat) : pkV s a (pkP s a P 9) 9 = (fnX s a P : Int) ∧ fnX s a P < 512 := by
  obtain ⟨x, h1, h2⟩ := pkV_nine s a (pkP s a P 9)
  unfold fnX
  omega
/-- The table has an entry for these bits that is used. -/
def quick (s : ByteArray) (a P : Nat) (l : EntL) : Prop := l.length = 512 ∧ 1 ≤ (entAt l (fnX s a P)).1 ∧ (entAt l (fnX s a P)).1 ≤ 9

set_option maxRecDepth 100000 in
set_option maxHeartbeats 1000000 in
theorem impl_fast_out (s : ByteArray) (p wd h : Int) (A : Option Addr) (len ca : Nat) (hs : s.size ≤ 1048576) (hno : ckOk s p wd h = false) (w : World) :
    Calls Try.prog 9 #[cv s p wd h, .slice A len ca] w fun e w' => e = .returned (.tuple #[cv s p wd h, .int .i64 0, .int .i64 1]) ∧ Below w.heap.size w w' := by
  have HO := Lib.hid (impl_cacheok_any s p wd h hs)
  rw [hno] at HO
  clear hno
  unfold cv at *
  go_enter Try.func9, Try.ntmps9
  go_wp2_with fail
  refine (HO.out _).mono ?_
  rintro e w1 ⟨rfl, hb1⟩
  obtain ⟨k0, k1⟩ := boxes_kept hb1
  obtain ⟨c0, c1, c2, c3⟩ := cells4 k0
  obtain ⟨d0, d1, d2, d3⟩ := cells4 k1
  obtain ⟨g0, g1, g2, g3⟩ := frozen4 k1
  obtain ⟨w3, hw3, e0, e1, e2, e3, hb3⟩ := out4 s p wd h k1 (Nat.le_succ _) (below_step ((below_new w _).alloc (below_new w _).size _) hb1)
  have HW := Lib.hid hw3; have HB := Lib.hid hb3; have E0 := Lib.hid e0; have E1 := Lib.hid e1; have E2 := Lib.hid e2; have E3 := Lib.hid e3
  clear hw3 hb3 e0 e1 e2 e3 hb1 k0 k1
  go_wp2
  rw [← HW.out]
  have e0 := E0.out; have e1 := E1.out; have e2 := E2.out; have e3 := E3.out
  exact bodyPost_ret (v := .tuple #[.agg #[.string s, .int .i64 p, .int .i64 wd, .int .i64 h], .int .i64 0, .int .i64 1]) (by simp [results, Try.results9, go_sem, e0, e1, e2, e3]) rfl ⟨rfl, HB.out⟩

/-- The fault and the number that are read bit by bit. -/
theorem fuR_form (s : ByteArray) (a P : Nat) : ∃ p wd h n er : Int, fuR s a P = .tuple #[.agg #[.string s, .int .i64 p, .int .i64 wd, .int .i64 h], .int .i64 n, .int .i64 er] := by
  unfold fuR
  split
  · exact ⟨_, _, _, _, _, rfl⟩
  · exact ⟨_, _, _, _, _, rfl⟩

set_option maxRecDepth 100000 in
set_option maxHeartbeats 1000000 in
theorem impl_fast_slow (s : ByteArray) (a P : Nat) (hs : s.size ≤ 1048576) (hA : At s a P) (A : Option Addr) (ca : Nat) (l : EntL) (hq : ¬ quick s a P l) (w : World) (hE : Ents w w.heap.size A l) :
    Calls Try.prog 9 #[cw s a P, .slice A l.length ca] w fun e w' => e = .returned (fuR s a P) ∧ Below w.heap.size w w' := by
  have HO := Lib.hid (impl_cacheok_any s (P : Int) (rdN s a (8 * P - a) : Int) ((8 * P - a : Nat) : Int) hs)
  rw [ckOk_of s a P hA] at HO
  have HP := Lib.hid (impl_peek_in s a P 9 hs hA (by decide))
  obtain ⟨hx1, hx2⟩ := fnX_eq s a P
  rw [hx1] at HP
  have HR := Lib.hid (readat_any s a P hs hA)
  obtain ⟨fp, fw, fh, fn, fe, hf⟩ := fuR_form s a P
  rw [hf] at HR ⊢
  have hcases : (((l.length : Int) != 512) = true) ∨ (l.length = 512 ∧ decide ((entAt l (fnX s a P)).1 < 1) = true) ∨ (l.length = 512 ∧ decide ((entAt l (fnX s a P)).1 < 1) = false ∧ decide (9 < (entAt l (fnX s a P)).1) = true) := by
    unfold quick at hq
    by_cases h1 : l.length = 512
    · by_cases h2 : (entAt l (fnX s a P)).1 < 1
      · exact .inr (.inl ⟨h1, by simpa using h2⟩)
      · exact .inr (.inr ⟨h1, by simpa using h2, by simp; omega⟩)
    · left; rw [bne_iff_ne]; omega
  clear hq hf
  obtain ⟨x, hx⟩ : ∃ x, x = fnX s a P := ⟨_, rfl⟩
  rw [← hx] at HP hcases hx2
  obtain ⟨Q, hQ⟩ : ∃ Q, Q = pkP s a P 9 := ⟨_, rfl⟩
  rw [← hQ] at HP
  clear hx hQ hx1 hA
  unfold cw cv at *
  obtain ⟨X, hX⟩ : ∃ X : Int, X = ((8 * P - a : Nat) : Int) := ⟨_, rfl⟩
  obtain ⟨v, hv⟩ : ∃ v : Int, v = (rdN s a (8 * P - a) : Int) := ⟨_, rfl⟩
  obtain ⟨Y, hY⟩ : ∃ Y : Int, Y = ((8 * Q - a : Nat) : Int) := ⟨_, rfl⟩
  obtain ⟨y, hy⟩ : ∃ y : Int, y = (rdN s a (8 * Q - a) : Int) := ⟨_, rfl⟩
  rw [← hX, ← hv] at HO HP HR
  rw [← hX, ← hv]
  rw [← hY, ← hy] at HP
  clear hX hv hY hy
  have HE := Lib.hid hE
  obtain ⟨n, hn⟩ : ∃ n, n = l.length := ⟨_, rfl⟩
  have hn9 := hE.1
  rw [← hn] at hcases hn9 ⊢
  have HN := Lib.hid hn; clear hn hE
  rcases hcases with hc | ⟨hl, hc⟩ | ⟨hl, hc, hc2⟩
  · go_enter Try.func9, Try.ntmps9
    go_wp2_with fail
    refine (HO.out _).mono ?_
    rintro e w1 ⟨rfl, hb1⟩
    obtain ⟨k0, k1⟩ := boxes_kept hb1
    obtain ⟨c0, c1, c2, c3⟩ := cells4 k0
    have K0 := Lib.hid k0; have K1 := Lib.hid k1
    have B1 := Lib.hid (below_step ((below_new w _).alloc (below_new w _).size _) hb1)
    clear hb1 k0 k1
    go_wp2_with fail
    refine (HP.out _).mono ?_
    rintro e w2 ⟨rfl, hb2⟩
    have k0 := cell_kept K0.out hb2
    have K1b := Lib.hid (cell_kept K1.out hb2)
    have B2 := Lib.hid (below_up B1.out hb2 B1.out.size)
    have hlt := heap_lt k0
    clear c0 c1 c2 c3 hb2
    obtain ⟨c0, c1, c2, c3⟩ := cells4 k0
    clear k0
    go_wp2_with fail
    refine (HR.out _).mono ?_
    rintro e w3 ⟨rfl, hb3⟩
    have k1 := cell_kept (heap_keep K1b.out _) hb3
    obtain ⟨d0, d1, d2, d3⟩ := cells4 k1
    obtain ⟨g0, g1, g2, g3⟩ := frozen4 k1
    obtain ⟨w4, hw4, e0, e1, e2, e3, hb4⟩ := out4 s fp fw fh k1 (Nat.le_succ _) (below_up (B2.out.alloc B2.out.size _) hb3 (B2.out.alloc B2.out.size _).size)
    have HW := Lib.hid hw4; have HB := Lib.hid hb4; have E0 := Lib.hid e0; have E1 := Lib.hid e1; have E2 := Lib.hid e2; have E3 := Lib.hid e3
    clear hw4 hb4 e0 e1 e2 e3 hb3 k1
    go_wp2
    rw [← HW.out]
    have e0 := E0.out; have e1 := E1.out; have e2 := E2.out; have e3 := E3.out
    exact bodyPost_ret (v := .tuple #[.agg #[.string s, .int .i64 fp, .int .i64 fw, .int .i64 fh], .int .i64 fn, .int .i64 fe]) (by simp [results, Try.results9, go_sem, e0, e1, e2, e3]) rfl ⟨rfl, HB.out⟩
  · subst hl
    obtain ⟨b, off, rfl, hb, hct⟩ := HE.out.at x (by rw [← HN.out]; exact hx2)
    obtain ⟨z, hz⟩ : ∃ z, z = (entAt l x).1 := ⟨_, rfl⟩
    have ct0 := (hct x (by rw [← HN.out]; exact hx2)).1
    rw [← hz] at hc ct0
    have CT := Lib.hid ct0; clear ct0 hct hz
    go_enter Try.func9, Try.ntmps9
    go_wp2_with fail
    refine (HO.out _).mono ?_
    rintro e w1 ⟨rfl, hb1⟩
    obtain ⟨k0, k1⟩ := boxes_kept hb1
    obtain ⟨c0, c1, c2, c3⟩ := cells4 k0
    have K0 := Lib.hid k0; have K1 := Lib.hid k1
    have B1 := Lib.hid (below_step ((below_new w _).alloc (below_new w _).size _) hb1)
    clear hb1 k0 k1
    go_wp2_with fail
    refine (HP.out _).mono ?_
    rintro e w2 ⟨rfl, hb2⟩
    have k0 := cell_kept K0.out hb2
    have K1b := Lib.hid (cell_kept K1.out hb2)
    have B2 := Lib.hid (below_up B1.out hb2 B1.out.size)
    have hlt := heap_lt k0
    clear c0 c1 c2 c3 hb2
    obtain ⟨c0, c1, c2, c3⟩ := cells4 k0
    clear k0
    have ct : w2.cell? ⟨b, off + x * 2, none⟩ = some (.int .i64 z) := by rw [B2.out.cell (p := ⟨b, off + x * 2, none⟩) hb]; exact CT.out
    have hlb : b < w2.heap.size := Nat.lt_of_lt_of_le hb B2.out.size
    go_wp2_with fail
    refine (HR.out _).mono ?_
    rintro e w3 ⟨rfl, hb3⟩
    have k1 := cell_kept (heap_keep K1b.out _) hb3
    obtain ⟨d0, d1, d2, d3⟩ := cells4 k1
    obtain ⟨g0, g1, g2, g3⟩ := frozen4 k1
    obtain ⟨w4, hw4, e0, e1, e2, e3, hb4⟩ := out4 s fp fw fh k1 (Nat.le_succ _) (below_up (B2.out.alloc B2.out.size _) hb3 (B2.out.alloc B2.out.size _).size)
    have HW := Lib.hid hw4; have HB := Lib.hid hb4; have E0 := Lib.hid e0; have E1 := Lib.hid e1; have E2 := Lib.hid e2; have E3 := Lib.hid e3
    clear hw4 hb4 e0 e1 e2 e3 hb3 k1
    go_wp2
    rw [← HW.out]
    have e0 := E0.out; have e1 := E1.out; have e2 := E2.out; have e3 := E3.out
    exact bodyPost_ret (v := .tuple #[.agg #[.string s, .int .i64 fp, .int .i64 fw, .int .i64 fh], .int .i64 fn, .int .i64 fe]) (by simp [results, Try.results9, go_sem, e0, e1, e2, e3]) rfl ⟨rfl, HB.out⟩
  · subst hl
    obtain ⟨b, off, rfl, hb, hct⟩ := HE.out.at x (by rw [← HN.out]; exact hx2)
    obtain ⟨z, hz⟩ : ∃ z, z = (entAt l x).1 := ⟨_, rfl⟩
    have ct0 := (hct x (by rw [← HN.out]; exact hx2)).1
    rw [← hz] at hc hc2 ct0
    have CT := Lib.hid ct0; clear ct0 hct hz
    go_enter Try.func9, Try.ntmps9
    go_wp2_with fail
    refine (HO.out _).mono ?_
    rintro e w1 ⟨rfl, hb1⟩
    obtain ⟨k0, k1⟩ := boxes_kept hb1
    obtain ⟨c0, c1, c2, c3⟩ := cells4 k0
    have K0 := Lib.hid k0; have K1 := Lib.hid k1
    have B1 := Lib.hid (below_step ((below_new w _).alloc (below_new w _).size _) hb1)
    clear hb1 k0 k1
    go_wp2_with fail
    refine (HP.out _).mono ?_
    rintro e w2 ⟨rfl, hb2⟩
    have k0 := cell_kept K0.out hb2
    have K1b := Lib.hid (cell_kept K1.out hb2)
    have B2 := Lib.hid (below_up B1.out hb2 B1.out.size)
    have hlt := heap_lt k0
    clear c0 c1 c2 c3 hb2
    obtain ⟨c0, c1, c2, c3⟩ := cells4 k0
    clear k0
    have ct : w2.cell? ⟨b, off + x * 2, none⟩ = some (.int .i64 z) := by rw [B2.out.cell (p := ⟨b, off + x * 2, none⟩) hb]; exact CT.out
    have hlb : b < w2.heap.size := Nat.lt_of_lt_of_le hb B2.out.size
    go_wp2_with fail
    refine (HR.out _).mono ?_
    rintro e w3 ⟨rfl, hb3⟩
    have k1 := cell_kept (heap_keep K1b.out _) hb3
    obtain ⟨d0, d1, d2, d3⟩ := cells4 k1
    obtain ⟨g0, g1, g2, g3⟩ := frozen4 k1
    obtain ⟨w4, hw4, e0, e1, e2, e3, hb4⟩ := out4 s fp fw fh k1 (Nat.le_succ _) (below_up (B2.out.alloc B2.out.size _) hb3 (B2.out.alloc B2.out.size _).size)
    have HW := Lib.hid hw4; have HB := Lib.hid hb4; have E0 := Lib.hid e0; have E1 := Lib.hid e1; have E2 := Lib.hid e2; have E3 := Lib.hid e3
    clear hw4 hb4 e0 e1 e2 e3 hb3 k1
    go_wp2
    rw [← HW.out]
    have e0 := E0.out; have e1 := E1.out; have e2 := E2.out; have e3 := E3.out
    exact bodyPost_ret (v := .tuple #[.agg #[.string s, .int .i64 fp, .int .i64 fw, .int .i64 fh], .int .i64 fn, .int .i64 fe]) (by simp [results, Try.results9, go_sem, e0, e1, e2, e3]) rfl ⟨rfl, HB.out⟩
end Go.Proofs.Ythiplncceglnhaa
