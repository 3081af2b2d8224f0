/-
  Contracts of the model's FastSym. Condition: the string is no longer than 1048576 bytes (the laws ask no more).
-/
import Derived.Test.YtgacldhpohnpaaaFastB
namespace Go.Proofs.Ytgacldhpohnpaaa
open Go.RowKit
set_option linter.unusedVariables false

/-- Seven bits are a number below 128. -/
theorem pkV_seven (s : ByteArray) (a Q : Nat) : ∃ x : Nat, pkV s a Q 7 = (x : Int) ∧ x < 128 := by
  unfold pkV
  split
  · rename_i h
    refine ⟨_, rfl, ?_⟩
    have h1 := rdN_lt s a (8 * Q - a)
    have h2 : rdN s a (8 * Q - a) * 2 ^ (7 - (8 * Q - a)) < 2 ^ (8 * Q - a) * 2 ^ (7 - (8 * Q - a)) := Nat.mul_lt_mul_of_pos_right h1 (Nat.two_pow_pos _)
    rw [← Nat.pow_add, show 8 * Q - a + (7 - (8 * Q - a)) = 7 by omega] at h2
    exact h2
  · exact ⟨_, rfl, rdN_lt s a 7⟩
/-- The number of the seven bits that are peeked at. -/
def fnY (s : ByteArray) (a P : Nat) : Nat := (pkV s a (pkP s a P 7) 7).toNat
theorem fnY_eq (s : ByteArray) (a P : Nat) : pkV s a (pkP s a P 7) 7 = (fnY s a P : Int) ∧ fnY s a P < 128 := by
  obtain ⟨x, h1, h2⟩ := pkV_seven s a (pkP s a P 7)
  unfold fnY
  omega
/-- The table has an entry for these bits that is used. -/
def quick7 (s : ByteArray) (a P : Nat) (l : EntL) : Prop := l.length = 128 ∧ 1 ≤ (entAt l (fnY s a P)).1 ∧ (entAt l (fnY s a P)).1 ≤ 7

set_option maxRecDepth 100000 in
set_option maxHeartbeats 1000000 in
theorem spec_sym_out (s : ByteArray) (p wd h : Int) (A : Option Addr) (len ca : Nat) (hs : s.size ≤ 1048576) (hno : ckOk s p wd h = false) (w : World) :
    Calls Try.prog 57 #[cv s p wd h, .slice A len ca] w fun e w' => e = .returned (.tuple #[cv s p wd h, .int .i64 0, .int .i64 1]) ∧ Below w.heap.size w w' := by
  have HO := Lib.hid (spec_cacheok_any s p wd h hs)
  rw [hno] at HO
  clear hno
  unfold cv at *
  go_enter Try.func57, Try.ntmps57
  go_wp2_with fail
  refine (HO.out _).mono ?_
  rintro e w1 ⟨rfl, hb1⟩
  obtain ⟨k0, k1⟩ := boxes_kept hb1
  obtain ⟨c0, c1, c2, c3⟩ := cells4 k0
  obtain ⟨d0, d1, d2, d3⟩ := cells4 k1
  obtain ⟨g0, g1, g2, g3⟩ := frozen4 k1
  obtain ⟨w3, hw3, e0, e1, e2, e3, hb3⟩ := out4 s p wd h k1 (Nat.le_succ _) (below_step ((below_new w _).alloc (below_new w _).size _) hb1)
  have HW := Lib.hid hw3; have HB := Lib.hid hb3; have E0 := Lib.hid e0; have E1 := Lib.hid e1; have E2 := Lib.hid e2; have E3 := Lib.hid e3
  clear hw3 hb3 e0 e1 e2 e3 hb1 k0 k1
  go_wp2
  rw [← HW.out]
  have e0 := E0.out; have e1 := E1.out; have e2 := E2.out; have e3 := E3.out
  exact bodyPost_ret (v := .tuple #[.agg #[.string s, .int .i64 p, .int .i64 wd, .int .i64 h], .int .i64 0, .int .i64 1]) (by simp [results, Try.results57, go_sem, e0, e1, e2, e3]) rfl ⟨rfl, HB.out⟩

set_option maxRecDepth 100000 in
set_option maxHeartbeats 1000000 in
theorem spec_sym_in (s : ByteArray) (a P : Nat) (hs : s.size ≤ 1048576) (hA : At s a P) (A : Option Addr) (ca : Nat) (l : EntL) (z n : Int) (x : Nat) (hx : x = fnY s a P) (hl : l.length = 128) (he : entAt l x = (z, n)) (hz1 : 1 ≤ z) (hz9 : z ≤ 7)
    (ok : Bool) (sp sw sh fp fw fh : Int)
    (HK : Hid (∀ w, Calls Try.prog 37 #[cw s a (pkP s a P 7), .int .i64 z] w fun e w' => e = .returned (.tuple #[cv s sp sw sh, .bool ok]) ∧ Below w.heap.size w w'))
    (HT : Hid (ok = true → ∀ w, Calls Try.prog 76 #[cv s sp sw sh] w fun e w' => e = .returned (cv s fp fw fh) ∧ Below w.heap.size w w')) (w : World) (hE : Ents w w.heap.size A l) :
    Calls Try.prog 57 #[cw s a P, .slice A 128 ca] w fun e w' => e = .returned (if ok then .tuple #[cv s fp fw fh, .int .i64 n, .int .i64 0] else .tuple #[cw s a P, .int .i64 0, .int .i64 1]) ∧ Below w.heap.size w w' := by
  have HO := Lib.hid (spec_cacheok_any s (P : Int) (rdN s a (8 * P - a) : Int) ((8 * P - a : Nat) : Int) hs)
  rw [ckOk_of s a P hA] at HO
  have HP := Lib.hid (spec_peek_in s a P 7 hs hA (by decide))
  have LI := Lib.hid (l1In_any z 1 7)
  rw [show (decide (1 ≤ z) && decide (z ≤ 7)) = true by simp; omega] at LI
  obtain ⟨hx1, hx2⟩ := fnY_eq s a P
  rw [hx1] at HP
  rw [← hx] at HP hx2
  obtain ⟨Q, hQ⟩ : ∃ Q, Q = pkP s a P 7 := ⟨_, rfl⟩
  rw [← hQ] at HP HK
  clear hx hQ hx1 hA
  unfold cw cv at *
  obtain ⟨X, hX⟩ : ∃ X : Int, X = ((8 * P - a : Nat) : Int) := ⟨_, rfl⟩
  obtain ⟨v, hv⟩ : ∃ v : Int, v = (rdN s a (8 * P - a) : Int) := ⟨_, rfl⟩
  obtain ⟨Y, hY⟩ : ∃ Y : Int, Y = ((8 * Q - a : Nat) : Int) := ⟨_, rfl⟩
  obtain ⟨y, hy⟩ : ∃ y : Int, y = (rdN s a (8 * Q - a) : Int) := ⟨_, rfl⟩
  rw [← hX, ← hv] at HO HP
  rw [← hX, ← hv]
  rw [← hY, ← hy] at HP HK
  clear hX hv hY hy
  obtain ⟨b, off, rfl, hbb, hct⟩ := hE.at x (by omega)
  obtain ⟨ct0, ct1⟩ := hct x (by omega)
  rw [he] at ct0 ct1
  have CT0 := Lib.hid ct0; have CT1 := Lib.hid ct1
  clear hct ct0 ct1 hE he hl
  obtain ⟨R, hR⟩ : ∃ R, R = (if ok then Value.tuple #[.agg #[.string s, .int .i64 fp, .int .i64 fw, .int .i64 fh], .int .i64 n, .int .i64 0] else .tuple #[.agg #[.string s, .int .i64 P, .int .i64 v, .int .i64 X], .int .i64 0, .int .i64 1]) := ⟨_, rfl⟩
  rw [← hR]
  have HRR := Lib.hid hR; clear hR
  have hxi : (x : Int) < 128 := by omega
  have hx0 : (0 : Int) ≤ (x : Int) := by omega
  go_enter Try.func57, Try.ntmps57
  go_wp2_with fail
  refine (HO.out _).mono ?_
  rintro e w1 ⟨rfl, hb1⟩
  obtain ⟨k0, k1⟩ := boxes_kept hb1
  obtain ⟨c0, c1, c2, c3⟩ := cells4 k0
  have K0 := Lib.hid k0; have K1 := Lib.hid k1
  have B1 := Lib.hid (below_step ((below_new w _).alloc (below_new w _).size _) hb1)
  clear hb1 k0 k1
  go_wp2_with fail
  refine (HP.out _).mono ?_
  rintro e w2 ⟨rfl, hb2⟩
  have K0b := Lib.hid (cell_kept K0.out hb2)
  have K1b := Lib.hid (cell_kept K1.out hb2)
  have B2 := Lib.hid (below_up B1.out hb2 B1.out.size)
  clear c0 c1 c2 c3 hb2
  have hlb : b < w2.heap.size := Nat.lt_of_lt_of_le hbb B2.out.size
  have ct : w2.cell? ⟨b, off + x * 2, none⟩ = some (.int .i64 z) := by rw [B2.out.cell (p := ⟨b, off + x * 2, none⟩) hbb]; exact CT0.out
  go_wp2_with fail
  refine (LI.out _).mono ?_
  rintro e w' ⟨rfl, rfl⟩
  go_upto_region 6 with fail
  have cta : (w2.alloc (.cells #[.string s, .int .i64 Q, .int .i64 y, .int .i64 Y] 25)).cell? ⟨b, off + x * 2, none⟩ = some (.int .i64 z) := by
    rw [World.cell?_of_block (w := w2) (a := ⟨b, off + x * 2, none⟩) (Below.heap_alloc _ _ _ hlb)]; exact ct
  obtain ⟨c0, c1, c2, c3⟩ := cells4 (heap_alloc_new w2 (.cells #[.string s, .int .i64 Q, .int .i64 y, .int .i64 Y] 25))
  have hS := And.intro c0 (And.intro c1 (And.intro c2 (And.intro c3 (And.intro cta (Below.refl (w2.alloc (.cells #[.string s, .int .i64 Q, .int .i64 y, .int .i64 Y] 25)).heap.size (w2.alloc (.cells #[.string s, .int .i64 Q, .int .i64 y, .int .i64 Y] 25)))))))
  clear c0 c1 c2 c3 cta ct
  go_cut [9, 10] (fun s9 s10 wx => ∃ g : Nat, s9 = .pointer (some ⟨g, 0, none⟩) ∧ s10 = .bool ok ∧ wx.heap[g]? = some (.cells #[.string s, .int .i64 sp, .int .i64 sw, .int .i64 sh] 25 (0, 0)) ∧ wx.cell? ⟨w2.heap.size, 0, none⟩ = some (.string s) ∧ wx.cell? ⟨w2.heap.size, 1, none⟩ = some (.int .i64 Q) ∧ wx.cell? ⟨w2.heap.size, 2, none⟩ = some (.int .i64 y) ∧ wx.cell? ⟨w2.heap.size, 3, none⟩ = some (.int .i64 Y) ∧ wx.cell? ⟨b, off + x * 2, none⟩ = some (.int .i64 z) ∧ Below (w2.alloc (.cells #[.string s, .int .i64 Q, .int .i64 y, .int .i64 Y] 25)).heap.size (w2.alloc (.cells #[.string s, .int .i64 Q, .int .i64 y, .int .i64 Y] 25)) wx)
  case first =>
    go_region_held3 (fun w' => w'.cell? ⟨w2.heap.size, 0, none⟩ = some (.string s) ∧ w'.cell? ⟨w2.heap.size, 1, none⟩ = some (.int .i64 Q) ∧ w'.cell? ⟨w2.heap.size, 2, none⟩ = some (.int .i64 y) ∧ w'.cell? ⟨w2.heap.size, 3, none⟩ = some (.int .i64 Y) ∧ w'.cell? ⟨b, off + x * 2, none⟩ = some (.int .i64 z) ∧ Below (w2.alloc (.cells #[.string s, .int .i64 Q, .int .i64 y, .int .i64 Y] 25)).heap.size (w2.alloc (.cells #[.string s, .int .i64 Q, .int .i64 y, .int .i64 Y] 25)) w')
      (first | (with_reducible exact HS2.out) | (with_reducible refine held5_drew ?_; with_reducible assumption) | (with_reducible refine held5_drew (held5_alloc ?_ (Nat.le_refl _)); with_reducible assumption) | (with_reducible exact held5_alloc HS2.out (Nat.le_refl _)) | (with_reducible refine held5_set4 HS2.out ?_ ?_ <;> first | omega | (simp; done)))
      (first
        | (go_at_call 37; with_reducible refine (HK.out _).mono ?_; rintro e w3 ⟨rfl, hb'⟩;
           have HS2 : Hid (w3.cell? ⟨w2.heap.size, 0, none⟩ = some (.string s) ∧ w3.cell? ⟨w2.heap.size, 1, none⟩ = some (.int .i64 Q) ∧ w3.cell? ⟨w2.heap.size, 2, none⟩ = some (.int .i64 y) ∧ w3.cell? ⟨w2.heap.size, 3, none⟩ = some (.int .i64 Y) ∧ w3.cell? ⟨b, off + x * 2, none⟩ = some (.int .i64 z) ∧ Below (w2.alloc (.cells #[.string s, .int .i64 Q, .int .i64 y, .int .i64 Y] 25)).heap.size (w2.alloc (.cells #[.string s, .int .i64 Q, .int .i64 y, .int .i64 Y] 25)) w3) := Lib.hid (held5_below (by assumption) hb' (Nat.le_refl _));
           (first
             | (have HB6 : Below (World.drew (World.alloc (w2.alloc (.cells #[.string s, .int .i64 Q, .int .i64 y, .int .i64 Y] 25)) (.cells #[.string ⟨#[]⟩, .int .i64 0, .int .i64 0, .int .i64 0] 25))).heap.size (World.drew (World.alloc (w2.alloc (.cells #[.string s, .int .i64 Q, .int .i64 y, .int .i64 Y] 25)) (.cells #[.string ⟨#[]⟩, .int .i64 0, .int .i64 0, .int .i64 0] 25))) w3 := by with_reducible assumption
                have K6 : Hid (w3.heap[w2.heap.size + 1]? = some (.cells #[.string ⟨#[]⟩, .int .i64 0, .int .i64 0, .int .i64 0] 25 (0, 0))) := Lib.hid (by have h := cell_kept (w := World.drew (World.alloc (w2.alloc (.cells #[.string s, .int .i64 Q, .int .i64 y, .int .i64 Y] 25)) (.cells #[.string ⟨#[]⟩, .int .i64 0, .int .i64 0, .int .i64 0] 25))) (heap_alloc_new (w2.alloc (.cells #[.string s, .int .i64 Q, .int .i64 y, .int .i64 Y] 25)) (.cells #[.string ⟨#[]⟩, .int .i64 0, .int .i64 0, .int .i64 0] 25)) HB6; simpa using h); clear HB6; have p5 := cells4 K6.out; obtain ⟨p6, p7, p8, p9⟩ := p5; have q5 := frozen4 K6.out; obtain ⟨q6, q7, q8, q9⟩ := q5)
             | skip))
        | fail)
    all_goals go_wp2_with fail
    all_goals go_meet
    all_goals first
      | exact ⟨_, rfl, rfl, heap_alloc_new _ _, by assumption⟩
      | exact ⟨_, rfl, rfl, block_set4 K6.out _ _ _ _, by assumption⟩
  case rest =>
    obtain ⟨g, rfl, rfl, kg, -, -, -, -, ct, hb⟩ := hcut
    clear hS
    have k0 := cell_kept (heap_keep K0b.out _) hb
    have k1 := cell_kept (heap_keep K1b.out _) hb
    have BW := Lib.hid (below_up (B2.out.alloc B2.out.size _) hb (B2.out.alloc B2.out.size _).size)
    have ct1 : wc.cell? ⟨b, off + x * 2 + 1, none⟩ = some (.int .i64 n) := by rw [BW.out.cell (p := ⟨b, off + x * 2 + 1, none⟩) hbb]; exact CT1.out
    have K0c := Lib.hid k0; have K1c := Lib.hid k1; have KG := Lib.hid kg
    clear hb k0 k1 kg
    cases ok with
    | false =>
      obtain ⟨c0, c1, c2, c3⟩ := cells4 K0c.out
      obtain ⟨d0, d1, d2, d3⟩ := cells4 K1c.out
      obtain ⟨f0, f1, f2, f3⟩ := frozen4 K1c.out
      obtain ⟨w3, hw3, e0, e1, e2, e3, hb3⟩ := out4 s (P : Int) v X K1c.out (Nat.le_succ _) BW.out
      have HW := Lib.hid hw3; have HB3 := Lib.hid hb3; have E0 := Lib.hid e0; have E1 := Lib.hid e1; have E2 := Lib.hid e2; have E3 := Lib.hid e3
      clear hw3 hb3 e0 e1 e2 e3 ct ct1
      go_wp2
      rw [← HW.out]
      have e0 := E0.out; have e1 := E1.out; have e2 := E2.out; have e3 := E3.out
      exact bodyPost_ret (v := .tuple #[.agg #[.string s, .int .i64 P, .int .i64 v, .int .i64 X], .int .i64 0, .int .i64 1]) (by simp [results, Try.results57, go_sem, e0, e1, e2, e3]) rfl ⟨by rw [HRR.out]; simp, HB3.out⟩
    | true =>
      have HT1 : Hid (∀ w, Calls Try.prog 76 #[.agg #[.string s, .int .i64 sp, .int .i64 sw, .int .i64 sh]] w fun e w' => e = .returned (.agg #[.string s, .int .i64 fp, .int .i64 fw, .int .i64 fh]) ∧ Below w.heap.size w w') := Lib.hid (HT.out rfl)
      obtain ⟨c0, c1, c2, c3⟩ := cells4 KG.out
      have CTW := Lib.hid ct1
      clear ct
      go_wp2_with fail
      go_region_with (go_at_call 76; with_reducible refine (HT1.out _).mono ?_; rintro e w5 ⟨rfl, hb5⟩; have K5 := Lib.hid (cell_kept (w := wc.drew) K1c.out hb5); have B5 := Lib.hid (below_up BW.out.drew hb5 BW.out.drew.size); have ct5 := cell_drew_below CTW.out hb5; obtain ⟨d0, d1, d2, d3⟩ := cells4 K5.out; obtain ⟨f0, f1, f2, f3⟩ := frozen4 K5.out; clear hb5)
      all_goals
        obtain ⟨w3, hw3, e0, e1, e2, e3, hb3⟩ := out4 s fp fw fh K5.out (Nat.le_succ _) B5.out
        have HW := Lib.hid hw3; have HB3 := Lib.hid hb3; have E0 := Lib.hid e0; have E1 := Lib.hid e1; have E2 := Lib.hid e2; have E3 := Lib.hid e3
        clear hw3 hb3 e0 e1 e2 e3
        go_wp2
        rw [← HW.out]
        have e0 := E0.out; have e1 := E1.out; have e2 := E2.out; have e3 := E3.out
        exact bodyPost_ret (v := .tuple #[.agg #[.string s, .int .i64 fp, .int .i64 fw, .int .i64 fh], .int .i64 n, .int .i64 0]) (by simp [results, Try.results57, go_sem, e0, e1, e2, e3]) rfl ⟨by rw [HRR.out]; simp, HB3.out⟩

set_option maxRecDepth 100000 in
set_option maxHeartbeats 1000000 in
theorem spec_sym_none (s : ByteArray) (a P : Nat) (hs : s.size ≤ 1048576) (hA : At s a P) (A : Option Addr) (ca : Nat) (l : EntL) (hq : ¬ quick7 s a P l) (w : World) (hE : Ents w w.heap.size A l) :
    Calls Try.prog 57 #[cw s a P, .slice A l.length ca] w fun e w' => e = .returned (.tuple #[cw s a P, .int .i64 0, .int .i64 4]) ∧ Below w.heap.size w w' := by
  have HO := Lib.hid (spec_cacheok_any s (P : Int) (rdN s a (8 * P - a) : Int) ((8 * P - a : Nat) : Int) hs)
  rw [ckOk_of s a P hA] at HO
  have HP := Lib.hid (spec_peek_in s a P 7 hs hA (by decide))
  obtain ⟨hx1, hx2⟩ := fnY_eq s a P
  rw [hx1] at HP
  have hcases : (((l.length : Int) != 128) = true) ∨ (l.length = 128 ∧ (decide (1 ≤ (entAt l (fnY s a P)).1) && decide ((entAt l (fnY s a P)).1 ≤ 7)) = false) := by
    unfold quick7 at hq
    by_cases h1 : l.length = 128
    · refine .inr ⟨h1, ?_⟩
      simp only [Bool.and_eq_false_iff, decide_eq_false_iff_not]
      by_cases h2 : 1 ≤ (entAt l (fnY s a P)).1
      · right; intro h3; exact hq ⟨h1, h2, h3⟩
      · left; exact h2
    · left; rw [bne_iff_ne]; omega
  clear hq
  obtain ⟨x, hx⟩ : ∃ x, x = fnY s a P := ⟨_, rfl⟩
  rw [← hx] at HP hcases hx2
  obtain ⟨Q, hQ⟩ : ∃ Q, Q = pkP s a P 7 := ⟨_, rfl⟩
  rw [← hQ] at HP
  clear hx hQ hx1 hA
  unfold cw cv at *
  obtain ⟨X, hX⟩ : ∃ X : Int, X = ((8 * P - a : Nat) : Int) := ⟨_, rfl⟩
  obtain ⟨v, hv⟩ : ∃ v : Int, v = (rdN s a (8 * P - a) : Int) := ⟨_, rfl⟩
  obtain ⟨Y, hY⟩ : ∃ Y : Int, Y = ((8 * Q - a : Nat) : Int) := ⟨_, rfl⟩
  obtain ⟨y, hy⟩ : ∃ y : Int, y = (rdN s a (8 * Q - a) : Int) := ⟨_, rfl⟩
  rw [← hX, ← hv] at HO HP
  rw [← hX, ← hv]
  rw [← hY, ← hy] at HP
  clear hX hv hY hy
  have HE := Lib.hid hE
  obtain ⟨N, hN⟩ : ∃ n, n = l.length := ⟨_, rfl⟩
  have hn9 := hE.1
  rw [← hN] at hcases hn9 ⊢
  have HN := Lib.hid hN; clear hN hE
  rcases hcases with hc | ⟨hl, hc⟩
  · go_enter Try.func57, Try.ntmps57
    go_wp2_with fail
    refine (HO.out _).mono ?_
    rintro e w1 ⟨rfl, hb1⟩
    obtain ⟨k0, k1⟩ := boxes_kept hb1
    obtain ⟨c0, c1, c2, c3⟩ := cells4 k0
    have K0 := Lib.hid k0; have K1 := Lib.hid k1
    have B1 := Lib.hid (below_step ((below_new w _).alloc (below_new w _).size _) hb1)
    clear hb1 k0 k1
    go_wp2_with fail
    refine (HP.out _).mono ?_
    rintro e w2 ⟨rfl, hb2⟩
    have k0 := cell_kept K0.out hb2
    have k1 := cell_kept K1.out hb2
    have B2 := Lib.hid (below_up B1.out hb2 B1.out.size)
    clear c0 c1 c2 c3 hb2
    have l0 := heap_lt k0
    have l1 := heap_lt k1
    obtain ⟨c0, c1, c2, c3⟩ := cells4 k0
    obtain ⟨d0, d1, d2, d3⟩ := cells4 k1
    obtain ⟨g0, g1, g2, g3⟩ := frozen4 k1
    obtain ⟨w4, hw4⟩ : ∃ w4, w4 = (put4 w2 (w.heap.size + 1) s P v X).alloc (.cells #[.string s, .int .i64 Q, .int .i64 y, .int .i64 Y] 25) := ⟨_, rfl⟩
    have hb4 : Below w.heap.size w w4 := by rw [hw4]; exact (put4_below B2.out _ (by omega) s P v X).alloc (put4_below B2.out _ (by omega) s P v X).size _
    obtain ⟨e0, e1, e2, e3⟩ : w4.cell? ⟨w.heap.size + 1, 0, none⟩ = some (.string s) ∧ w4.cell? ⟨w.heap.size + 1, 1, none⟩ = some (.int .i64 P) ∧ w4.cell? ⟨w.heap.size + 1, 2, none⟩ = some (.int .i64 v) ∧ w4.cell? ⟨w.heap.size + 1, 3, none⟩ = some (.int .i64 X) := by rw [hw4]; exact cells4 (heap_keep (put4_block k1 s P v X) _)
    unfold put4 at hw4
    clear k0 k1
    have HW := Lib.hid hw4; have HB := Lib.hid hb4; have E0 := Lib.hid e0; have E1 := Lib.hid e1; have E2 := Lib.hid e2; have E3 := Lib.hid e3
    clear hw4 hb4 e0 e1 e2 e3
    go_wp2
    rw [← HW.out]
    have e0 := E0.out; have e1 := E1.out; have e2 := E2.out; have e3 := E3.out
    exact bodyPost_ret (v := .tuple #[.agg #[.string s, .int .i64 P, .int .i64 v, .int .i64 X], .int .i64 0, .int .i64 4]) (by simp [results, Try.results57, go_sem, e0, e1, e2, e3]) rfl ⟨rfl, HB.out⟩
  · subst hl
    obtain ⟨b, off, rfl, hbb, hct⟩ := HE.out.at x (by rw [← HN.out]; exact hx2)
    obtain ⟨z, hz⟩ : ∃ z, z = (entAt l x).1 := ⟨_, rfl⟩
    have ct0 := (hct x (by rw [← HN.out]; exact hx2)).1
    rw [← hz] at hc ct0
    have LI := Lib.hid (l1In_any z 1 7)
    rw [hc] at LI
    have CT := Lib.hid ct0; clear ct0 hct hz hc
    have hxi : (x : Int) < 128 := by omega
    have hx0 : (0 : Int) ≤ (x : Int) := by omega
    go_enter Try.func57, Try.ntmps57
    go_wp2_with fail
    refine (HO.out _).mono ?_
    rintro e w1 ⟨rfl, hb1⟩
    obtain ⟨k0, k1⟩ := boxes_kept hb1
    obtain ⟨c0, c1, c2, c3⟩ := cells4 k0
    have K0 := Lib.hid k0; have K1 := Lib.hid k1
    have B1 := Lib.hid (below_step ((below_new w _).alloc (below_new w _).size _) hb1)
    clear hb1 k0 k1
    go_wp2_with fail
    refine (HP.out _).mono ?_
    rintro e w2 ⟨rfl, hb2⟩
    have k0 := cell_kept K0.out hb2
    have k1 := cell_kept K1.out hb2
    have B2 := Lib.hid (below_up B1.out hb2 B1.out.size)
    clear c0 c1 c2 c3 hb2
    have l0 := heap_lt k0
    have l1 := heap_lt k1
    have ct : w2.cell? ⟨b, off + x * 2, none⟩ = some (.int .i64 z) := by rw [B2.out.cell (p := ⟨b, off + x * 2, none⟩) hbb]; exact CT.out
    have hlb : b < w2.heap.size := Nat.lt_of_lt_of_le hbb B2.out.size
    go_wp2_with fail
    refine (LI.out _).mono ?_
    rintro e w' ⟨rfl, hw⟩
    subst hw
    obtain ⟨c0, c1, c2, c3⟩ := cells4 k0
    obtain ⟨d0, d1, d2, d3⟩ := cells4 k1
    obtain ⟨g0, g1, g2, g3⟩ := frozen4 k1
    obtain ⟨w4, hw4⟩ : ∃ w4, w4 = (put4 w2 (w.heap.size + 1) s P v X).alloc (.cells #[.string s, .int .i64 Q, .int .i64 y, .int .i64 Y] 25) := ⟨_, rfl⟩
    have hb4 : Below w.heap.size w w4 := by rw [hw4]; exact (put4_below B2.out _ (by omega) s P v X).alloc (put4_below B2.out _ (by omega) s P v X).size _
    obtain ⟨e0, e1, e2, e3⟩ : w4.cell? ⟨w.heap.size + 1, 0, none⟩ = some (.string s) ∧ w4.cell? ⟨w.heap.size + 1, 1, none⟩ = some (.int .i64 P) ∧ w4.cell? ⟨w.heap.size + 1, 2, none⟩ = some (.int .i64 v) ∧ w4.cell? ⟨w.heap.size + 1, 3, none⟩ = some (.int .i64 X) := by rw [hw4]; exact cells4 (heap_keep (put4_block k1 s P v X) _)
    unfold put4 at hw4
    clear k0 k1
    have HW := Lib.hid hw4; have HB := Lib.hid hb4; have E0 := Lib.hid e0; have E1 := Lib.hid e1; have E2 := Lib.hid e2; have E3 := Lib.hid e3
    clear hw4 hb4 e0 e1 e2 e3
    go_wp2
    rw [← HW.out]
    have e0 := E0.out; have e1 := E1.out; have e2 := E2.out; have e3 := E3.out
    exact bodyPost_ret (v := .tuple #[.agg #[.string s, .int .i64 P, .int .i64 v, .int .i64 X], .int .i64 0, .int .i64 4]) (by simp [results, Try.results57, go_sem, e0, e1, e2, e3]) rfl ⟨rfl, HB.out⟩
end Go.Proofs.Ytgacldhpohnpaaa
