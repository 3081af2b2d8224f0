/-
  The model's FastUe where the table has no entry that is used. Condition: the string is no longer than 1048576 bytes (the laws ask no more).
-/
import Derived.Test.YthiplncceglnhaaFastSp
namespace Go.Proofs.Ythiplncceglnhaa
open Go.RowKit
set_option linter.unusedVariables false

set_option maxRecDepth 100000 in
set_option maxHeartbeats 1000000 in
theorem spec_fast_slow (s : ByteArray) (a P : Nat) (hs : s.size ≤ 1048576) (hA : At s a P) (A : Option Addr) (ca : Nat) (l : EntL) (hq : ¬ quick s a P l) (w : World) (hE : Ents w w.heap.size A l) :
    Calls Try.prog 14 #[cw s a P, .slice A l.length ca] w fun e w' => e = .returned (fuR s a P) ∧ Below w.heap.size w w' := by
  have HO := Lib.hid (spec_cacheok_any s (P : Int) (rdN s a (8 * P - a) : Int) ((8 * P - a : Nat) : Int) hs)
  rw [ckOk_of s a P hA] at HO
  have HP := Lib.hid (spec_peek_in s a P 9 hs hA (by decide))
  obtain ⟨hx1, hx2⟩ := fnX_eq s a P
  rw [hx1] at HP
  have HL := Lib.hid (l7reader_any s a P hs hA)
  have HR := Lib.hid (spec_readue_any s (a : Int) hs)
  have hpl := ruPlace_in s a (by obtain ⟨b1, b2, b3⟩ := hA; omega)
  obtain ⟨q, hqq⟩ : ∃ q : Nat, ruPlace s a = (q : Int) := ⟨(ruPlace s a).toNat, by omega⟩
  rw [hqq] at HR hpl
  have HS := Lib.hid (l7at_any s q hs (by omega))
  unfold fuR
  rw [hqq, Int.toNat_natCast]
  obtain ⟨n, hn⟩ : ∃ n, n = ruNum s a := ⟨_, rfl⟩
  obtain ⟨er, hEr⟩ : ∃ er, er = ruEr s a := ⟨_, rfl⟩
  rw [← hn, ← hEr] at HR
  rw [← hn, ← hEr]
  clear hn hEr hqq hpl
  have hcases : (((l.length : Int) == 512) = false) ∨ (l.length = 512 ∧ (decide (1 ≤ (entAt l (fnX s a P)).1) && decide ((entAt l (fnX s a P)).1 ≤ 9)) = false) := by
    unfold quick at hq
    by_cases h1 : l.length = 512
    · refine .inr ⟨h1, ?_⟩
      simp only [Bool.and_eq_false_iff, decide_eq_false_iff_not]
      by_cases h2 : 1 ≤ (entAt l (fnX s a P)).1
      · right; intro h3; exact hq ⟨h1, h2, h3⟩
      · left; exact h2
    · left; rw [beq_eq_false_iff_ne]; omega
  clear hq
  obtain ⟨x, hx⟩ : ∃ x, x = fnX s a P := ⟨_, rfl⟩
  rw [← hx] at HP hcases hx2
  obtain ⟨Q, hQ⟩ : ∃ Q, Q = pkP s a P 9 := ⟨_, rfl⟩
  rw [← hQ] at HP
  clear hx hQ hx1 hA
  unfold cw cv at *
  obtain ⟨X, hX⟩ : ∃ X : Int, X = ((8 * P - a : Nat) : Int) := ⟨_, rfl⟩
  obtain ⟨v, hv⟩ : ∃ v : Int, v = (rdN s a (8 * P - a) : Int) := ⟨_, rfl⟩
  obtain ⟨Y, hY⟩ : ∃ Y : Int, Y = ((8 * Q - a : Nat) : Int) := ⟨_, rfl⟩
  obtain ⟨y, hy⟩ : ∃ y : Int, y = (rdN s a (8 * Q - a) : Int) := ⟨_, rfl⟩
  obtain ⟨Q', hQ'⟩ : ∃ Q : Int, Q = (((q + 7) / 8 : Nat) : Int) := ⟨_, rfl⟩
  obtain ⟨Y', hY'⟩ : ∃ Y : Int, Y = ((8 * ((q + 7) / 8) - q : Nat) : Int) := ⟨_, rfl⟩
  obtain ⟨y', hy'⟩ : ∃ y : Int, y = (rdN s q (8 * ((q + 7) / 8) - q) : Int) := ⟨_, rfl⟩
  rw [← hX, ← hv] at HO HP HL
  rw [← hX, ← hv, ← hQ', ← hY', ← hy']
  rw [← hY, ← hy] at HP
  rw [← hQ', ← hY', ← hy'] at HS
  clear hX hv hY hy hQ' hY' hy'
  obtain ⟨RR, hR⟩ : ∃ R, R = (if er = 0 then Value.tuple #[.agg #[.string s, .int .i64 Q', .int .i64 y', .int .i64 Y'], .int .i64 n, .int .i64 0] else .tuple #[.agg #[.string s, .int .i64 P, .int .i64 v, .int .i64 X], .int .i64 0, .int .i64 er]) := ⟨_, rfl⟩
  rw [← hR]
  have HRR := Lib.hid hR; clear hR
  have HE := Lib.hid hE
  obtain ⟨N, hN⟩ : ∃ n, n = l.length := ⟨_, rfl⟩
  have hn9 := hE.1
  rw [← hN] at hcases hn9 ⊢
  have HN := Lib.hid hN; clear hN hE
  rcases hcases with hc | ⟨hl, hc⟩
  · go_enter Try.func14, Try.ntmps14
    go_wp2_with fail
    refine (HO.out _).mono ?_
    rintro e w1 ⟨rfl, hb1⟩
    obtain ⟨k0, k1⟩ := boxes_kept hb1
    obtain ⟨c0, c1, c2, c3⟩ := cells4 k0
    have K0 := Lib.hid k0; have K1 := Lib.hid k1
    have B1 := Lib.hid (below_step ((below_new w _).alloc (below_new w _).size _) hb1)
    clear hb1 k0 k1
    go_wp2_with fail
    refine (HP.out _).mono ?_
    rintro e w2 ⟨rfl, hb2⟩
    have k0 := cell_kept K0.out hb2
    have K0b := Lib.hid k0
    have K1b := Lib.hid (cell_kept K1.out hb2)
    have B2 := Lib.hid (below_up B1.out hb2 B1.out.size)
    have hlt := heap_lt k0
    clear c0 c1 c2 c3 hb2
    obtain ⟨c0, c1, c2, c3⟩ := cells4 k0
    clear k0
    go_wp2_with fail
    refine (HL.out _).mono ?_
    rintro e w3 ⟨rfl, hb3⟩
    have K0c := Lib.hid (cell_kept (heap_keep K0b.out _) hb3)
    have K1c := Lib.hid (cell_kept (heap_keep K1b.out _) hb3)
    have B3 := Lib.hid (below_up (B2.out.alloc B2.out.size _) hb3 (B2.out.alloc B2.out.size _).size)
    clear hb3
    go_wp2_with fail
    refine (HR.out _).mono ?_
    rintro e w4 ⟨rfl, hb4⟩
    have k0 := cell_kept K0c.out hb4
    have k1 := cell_kept K1c.out hb4
    have hl0 := heap_lt k0
    have hl1 := heap_lt k1
    have B4 := Lib.hid (below_up B3.out hb4 B3.out.size)
    clear c0 c1 c2 c3 hb4
    have K0d := Lib.hid k0; have K1d := Lib.hid k1
    clear k0 k1
    by_cases h0 : er = 0
    · subst h0
      obtain ⟨c0, c1, c2, c3⟩ := cells4 K0d.out
      go_wp2_with fail
      refine (HS.out _).mono ?_
      rintro e w5 ⟨rfl, hb5⟩
      have k1 := cell_kept (heap_keep K1d.out _) hb5
      obtain ⟨d0, d1, d2, d3⟩ := cells4 k1
      obtain ⟨f0, f1, f2, f3⟩ := frozen4 k1
      obtain ⟨w3', hw3, e0, e1, e2, e3, hb3⟩ := out4 s Q' y' Y' k1 (Nat.le_succ _) (below_up (B4.out.alloc B4.out.size _) hb5 (B4.out.alloc B4.out.size _).size)
      have HW := Lib.hid hw3; have HB3 := Lib.hid hb3; have E0 := Lib.hid e0; have E1 := Lib.hid e1; have E2 := Lib.hid e2; have E3 := Lib.hid e3
      clear hw3 hb3 e0 e1 e2 e3 hb5 k1
      go_wp2
      rw [← HW.out]
      have e0 := E0.out; have e1 := E1.out; have e2 := E2.out; have e3 := E3.out
      exact bodyPost_ret (v := .tuple #[.agg #[.string s, .int .i64 Q', .int .i64 y', .int .i64 Y'], .int .i64 n, .int .i64 0]) (by simp [results, Try.results14, go_sem, e0, e1, e2, e3]) rfl ⟨by rw [HRR.out]; simp, HB3.out⟩
    · have hq1 : (er != 0) = true := by rw [bne_iff_ne]; exact h0
      have H0 := Lib.hid h0; clear h0
      obtain ⟨c0, c1, c2, c3⟩ := cells4 K0d.out
      obtain ⟨d0, d1, d2, d3⟩ := cells4 K1d.out
      obtain ⟨f0, f1, f2, f3⟩ := frozen4 K1d.out
      obtain ⟨w3', hw3, e0, e1, e2, e3, hb3⟩ := out4a s (P : Int) v X K1d.out (Nat.le_succ _) B4.out (.cells #[.string s, .int .i64 q] 35)
      have HW := Lib.hid hw3; have HB3 := Lib.hid hb3; have E0 := Lib.hid e0; have E1 := Lib.hid e1; have E2 := Lib.hid e2; have E3 := Lib.hid e3
      clear hw3 hb3 e0 e1 e2 e3
      go_wp2
      rw [← HW.out]
      have e0 := E0.out; have e1 := E1.out; have e2 := E2.out; have e3 := E3.out
      exact bodyPost_ret (v := .tuple #[.agg #[.string s, .int .i64 P, .int .i64 v, .int .i64 X], .int .i64 0, .int .i64 er]) (by simp [results, Try.results14, go_sem, e0, e1, e2, e3]) rfl ⟨by rw [HRR.out, if_neg H0.out], HB3.out⟩
  · subst hl
    obtain ⟨b, off, rfl, hbb, hct⟩ := HE.out.at x (by rw [← HN.out]; exact hx2)
    obtain ⟨z, hz⟩ : ∃ z, z = (entAt l x).1 := ⟨_, rfl⟩
    have ct0 := (hct x (by rw [← HN.out]; exact hx2)).1
    rw [← hz] at hc ct0
    have LI := Lib.hid (l1In_any z 1 9)
    rw [hc] at LI
    have CT := Lib.hid ct0; clear ct0 hct hz hc
    have hxi : (x : Int) < 512 := by omega
    have hx0 : (0 : Int) ≤ (x : Int) := by omega
    go_enter Try.func14, Try.ntmps14
    go_wp2_with fail
    refine (HO.out _).mono ?_
    rintro e w1 ⟨rfl, hb1⟩
    obtain ⟨k0, k1⟩ := boxes_kept hb1
    obtain ⟨c0, c1, c2, c3⟩ := cells4 k0
    have K0 := Lib.hid k0; have K1 := Lib.hid k1
    have B1 := Lib.hid (below_step ((below_new w _).alloc (below_new w _).size _) hb1)
    clear hb1 k0 k1
    go_wp2_with fail
    refine (HP.out _).mono ?_
    rintro e w2 ⟨rfl, hb2⟩
    have k0 := cell_kept K0.out hb2
    have K0b := Lib.hid k0
    have K1b := Lib.hid (cell_kept K1.out hb2)
    have B2 := Lib.hid (below_up B1.out hb2 B1.out.size)
    have hlt := heap_lt k0
    clear c0 c1 c2 c3 hb2
    obtain ⟨c0, c1, c2, c3⟩ := cells4 k0
    clear k0
    have ct : w2.cell? ⟨b, off + x * 2, none⟩ = some (.int .i64 z) := by rw [B2.out.cell (p := ⟨b, off + x * 2, none⟩) hbb]; exact CT.out
    have hlb : b < w2.heap.size := Nat.lt_of_lt_of_le hbb B2.out.size
    go_wp2_with fail
    refine (LI.out _).mono ?_
    rintro e w' ⟨rfl, rfl⟩
    go_wp2_with fail
    refine (HL.out _).mono ?_
    rintro e w3 ⟨rfl, hb3⟩
    have K0c := Lib.hid (cell_kept (heap_keep K0b.out _) hb3)
    have K1c := Lib.hid (cell_kept (heap_keep K1b.out _) hb3)
    have B3 := Lib.hid (below_up (B2.out.alloc B2.out.size _) hb3 (B2.out.alloc B2.out.size _).size)
    clear hb3
    go_wp2_with fail
    refine (HR.out _).mono ?_
    rintro e w4 ⟨rfl, hb4⟩
    have k0 := cell_kept K0c.out hb4
    have k1 := cell_kept K1c.out hb4
    have hl0 := heap_lt k0
    have hl1 := heap_lt k1
    have B4 := Lib.hid (below_up B3.out hb4 B3.out.size)
    clear c0 c1 c2 c3 hb4
    have K0d := Lib.hid k0; have K1d := Lib.hid k1
    clear k0 k1
    by_cases h0 : er = 0
    · subst h0
      obtain ⟨c0, c1, c2, c3⟩ := cells4 K0d.out
      go_wp2_with fail
      refine (HS.out _).mono ?_
      rintro e w5 ⟨rfl, hb5⟩
      have k1 := cell_kept (heap_keep K1d.out _) hb5
      obtain ⟨d0, d1, d2, d3⟩ := cells4 k1
      obtain ⟨f0, f1, f2, f3⟩ := frozen4 k1
      obtain ⟨w3', hw3, e0, e1, e2, e3, hb3⟩ := out4 s Q' y' Y' k1 (Nat.le_succ _) (below_up (B4.out.alloc B4.out.size _) hb5 (B4.out.alloc B4.out.size _).size)
      have HW := Lib.hid hw3; have HB3 := Lib.hid hb3; have E0 := Lib.hid e0; have E1 := Lib.hid e1; have E2 := Lib.hid e2; have E3 := Lib.hid e3
      clear hw3 hb3 e0 e1 e2 e3 hb5 k1
      go_wp2
      rw [← HW.out]
      have e0 := E0.out; have e1 := E1.out; have e2 := E2.out; have e3 := E3.out
      exact bodyPost_ret (v := .tuple #[.agg #[.string s, .int .i64 Q', .int .i64 y', .int .i64 Y'], .int .i64 n, .int .i64 0]) (by simp [results, Try.results14, go_sem, e0, e1, e2, e3]) rfl ⟨by rw [HRR.out]; simp, HB3.out⟩
    · have hq1 : (er != 0) = true := by rw [bne_iff_ne]; exact h0
      have H0 := Lib.hid h0; clear h0
      obtain ⟨c0, c1, c2, c3⟩ := cells4 K0d.out
      obtain ⟨d0, d1, d2, d3⟩ := cells4 K1d.out
      obtain ⟨f0, f1, f2, f3⟩ := frozen4 K1d.out
      obtain ⟨w3', hw3, e0, e1, e2, e3, hb3⟩ := out4a s (P : Int) v X K1d.out (Nat.le_succ _) B4.out (.cells #[.string s, .int .i64 q] 35)
      have HW := Lib.hid hw3; have HB3 := Lib.hid hb3; have E0 := Lib.hid e0; have E1 := Lib.hid e1; have E2 := Lib.hid e2; have E3 := Lib.hid e3
      clear hw3 hb3 e0 e1 e2 e3
      go_wp2
      rw [← HW.out]
      have e0 := E0.out; have e1 := E1.out; have e2 := E2.out; have e3 := E3.out
      exact bodyPost_ret (v := .tuple #[.agg #[.string s, .int .i64 P, .int .i64 v, .int .i64 X], .int .i64 0, .int .i64 er]) (by simp [results, Try.results14, go_sem, e0, e1, e2, e3]) rfl ⟨by rw [HRR.out, if_neg H0.out], HB3.out⟩
end Go.Proofs.Ythiplncceglnhaa
