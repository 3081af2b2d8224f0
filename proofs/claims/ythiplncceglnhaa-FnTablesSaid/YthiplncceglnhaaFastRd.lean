/-
  Contracts of FastUe and of what it calls, in both texts. Condition: the string is no longer than 1048576 bytes (the laws ask no more).
-/
import Derived.Test.YthiplncceglnhaaFastAt
import Derived.Deep.RegionHeld3
import Derived.Deep.DeepCutAuto
namespace Go.Proofs.Ythiplncceglnhaa
open Go.RowKit
set_option linter.unusedVariables false

set_option maxRecDepth 100000 in
set_option maxHeartbeats 1000000 in
theorem readat_any (s : ByteArray) (a P : Nat) (hs : s.size ≤ 1048576) (hA : At s a P) (w : World) :
    Calls Try.prog 37 #[cw s a P] w fun e w' => e = .returned (fuR s a P) ∧ Below w.heap.size w w' := by
  have HP := Lib.hid (impl_placein_in s a P hs hA)
  have HR := Lib.hid (impl_readue_any s (a : Int) hs)
  have hpl := ruPlace_in s a (by obtain ⟨b1, b2, b3⟩ := hA; omega)
  have her := ruEr_range s a
  obtain ⟨q, hq⟩ : ∃ q : Nat, ruPlace s a = (q : Int) := ⟨(ruPlace s a).toNat, by omega⟩
  rw [hq] at HR hpl
  have HS := Lib.hid (settledat_any s q hs (by omega))
  unfold fuR
  rw [hq, Int.toNat_natCast]
  obtain ⟨n, hn⟩ : ∃ n, n = ruNum s a := ⟨_, rfl⟩
  obtain ⟨er, hE⟩ : ∃ er, er = ruEr s a := ⟨_, rfl⟩
  rw [← hn, ← hE] at HR
  rw [← hn, ← hE]
  rw [← hE] at her
  clear hn hE hq hpl hA
  unfold cw cv at *
  obtain ⟨X, hX⟩ : ∃ X : Int, X = ((8 * P - a : Nat) : Int) := ⟨_, rfl⟩
  obtain ⟨v, hv⟩ : ∃ v : Int, v = (rdN s a (8 * P - a) : Int) := ⟨_, rfl⟩
  obtain ⟨Q, hQ⟩ : ∃ Q : Int, Q = (((q + 7) / 8 : Nat) : Int) := ⟨_, rfl⟩
  obtain ⟨Y, hY⟩ : ∃ Y : Int, Y = ((8 * ((q + 7) / 8) - q : Nat) : Int) := ⟨_, rfl⟩
  obtain ⟨y, hy⟩ : ∃ y : Int, y = (rdN s q (8 * ((q + 7) / 8) - q) : Int) := ⟨_, rfl⟩
  rw [← hX, ← hv] at HP
  rw [← hX, ← hv, ← hQ, ← hY, ← hy]
  rw [← hQ, ← hY, ← hy] at HS
  clear hX hv hQ hY hy
  obtain ⟨R, hR⟩ : ∃ R, R = (if er = 0 then Value.tuple #[.agg #[.string s, .int .i64 Q, .int .i64 y, .int .i64 Y], .int .i64 n, .int .i64 0] else .tuple #[.agg #[.string s, .int .i64 P, .int .i64 v, .int .i64 X], .int .i64 0, .int .i64 er]) := ⟨_, rfl⟩
  rw [← hR]
  have HRR := Lib.hid hR; clear hR
  go_enter Try.func37, Try.ntmps37
  go_upto_region 1 with fail
  obtain ⟨k0, k1⟩ := boxes_kept (w := w) (cs := #[.string s, .int .i64 P, .int .i64 v, .int .i64 X]) (T := 25) (ds := #[.string ⟨#[]⟩, .int .i64 0, .int .i64 0, .int .i64 0]) (U := 25) (Below.refl _ _)
  obtain ⟨c0, c1, c2, c3⟩ := cells4 k0
  have b0 := (below_new w (.cells #[.string s, .int .i64 P, .int .i64 v, .int .i64 X] 25)).alloc (below_new w _).size (.cells #[.string ⟨#[]⟩, .int .i64 0, .int .i64 0, .int .i64 0] 25)
  have hS := And.intro c0 (And.intro c1 (And.intro c2 (And.intro c3 (And.intro k1 (And.intro b0 b0.size)))))
  clear c0 c1 c2 c3 k0 k1 b0
  go_cut [5, 6, 7] (fun s5 s6 s7 wx => ∃ g : Nat, s5 = .pointer (some ⟨g, 0, none⟩) ∧ s6 = .int .i64 n ∧ s7 = .int .i64 er ∧ wx.heap[g]? = some (.cells #[.string s, .int .i64 q] 35 (0, 0)) ∧
    wx.cell? ⟨w.heap.size, 0, none⟩ = some (.string s) ∧ wx.cell? ⟨w.heap.size, 1, none⟩ = some (.int .i64 P) ∧ wx.cell? ⟨w.heap.size, 2, none⟩ = some (.int .i64 v) ∧ wx.cell? ⟨w.heap.size, 3, none⟩ = some (.int .i64 X) ∧ wx.heap[w.heap.size + 1]? = some (.cells #[.string ⟨#[]⟩, .int .i64 0, .int .i64 0, .int .i64 0] 25 (0, 0)) ∧ Below w.heap.size w wx ∧ w.heap.size ≤ wx.heap.size)
  case first =>
    go_region_held3 (fun w' => w'.cell? ⟨w.heap.size, 0, none⟩ = some (.string s) ∧ w'.cell? ⟨w.heap.size, 1, none⟩ = some (.int .i64 P) ∧ w'.cell? ⟨w.heap.size, 2, none⟩ = some (.int .i64 v) ∧ w'.cell? ⟨w.heap.size, 3, none⟩ = some (.int .i64 X) ∧ w'.heap[w.heap.size + 1]? = some (.cells #[.string ⟨#[]⟩, .int .i64 0, .int .i64 0, .int .i64 0] 25 (0, 0)) ∧ Below w.heap.size w w' ∧ w.heap.size ≤ w'.heap.size)
      (first | (refine held4k_drew ?_; assumption) | (refine held4k_drew (held4k_alloc ?_); assumption) | (exact held4k_alloc HS2.out) | (exact held4k_set2 HS2.out (by have := HL1.out; omega) (by have := HL1.out; omega)) | (refine held4k_alloc ?_; assumption) | (refine held4k ?_ (by assumption); assumption))
      (first
        | (go_at_call 17; with_reducible refine (HP.out _).mono ?_; rintro e w1 ⟨rfl, hb'⟩;
           have HS1 : Hid (w1.cell? ⟨w.heap.size, 0, none⟩ = some (.string s) ∧ w1.cell? ⟨w.heap.size, 1, none⟩ = some (.int .i64 P) ∧ w1.cell? ⟨w.heap.size, 2, none⟩ = some (.int .i64 v) ∧ w1.cell? ⟨w.heap.size, 3, none⟩ = some (.int .i64 X) ∧ w1.heap[w.heap.size + 1]? = some (.cells #[.string ⟨#[]⟩, .int .i64 0, .int .i64 0, .int .i64 0] 25 (0, 0)) ∧ Below w.heap.size w w1 ∧ w.heap.size ≤ w1.heap.size) := Lib.hid (held4k (by assumption) hb');
           have HL1 : Hid (w.heap.size + 1 < w1.heap.size) := Lib.hid (heap_lt HS1.out.2.2.2.2.1);
           (try (have K5 : Hid (w1.heap[w.heap.size + 1 + 1]? = some (.cells #[.string ⟨#[]⟩, .int .i64 0] 35 (0, 0))) := Lib.hid (by have h := cell_kept (w := World.drew (World.alloc _ (.cells #[.string ⟨#[]⟩, .int .i64 0] 35))) (heap_alloc_new _ (.cells #[.string ⟨#[]⟩, .int .i64 0] 35)) hb'; simpa using h))))
        | (go_at_call 65; with_reducible refine (HR.out _).mono ?_; rintro e w2 ⟨rfl, hb''⟩;
           have HS2 : Hid (w2.cell? ⟨w.heap.size, 0, none⟩ = some (.string s) ∧ w2.cell? ⟨w.heap.size, 1, none⟩ = some (.int .i64 P) ∧ w2.cell? ⟨w.heap.size, 2, none⟩ = some (.int .i64 v) ∧ w2.cell? ⟨w.heap.size, 3, none⟩ = some (.int .i64 X) ∧ w2.heap[w.heap.size + 1]? = some (.cells #[.string ⟨#[]⟩, .int .i64 0, .int .i64 0, .int .i64 0] 25 (0, 0)) ∧ Below w.heap.size w w2 ∧ w.heap.size ≤ w2.heap.size) := Lib.hid (held4k (by assumption) hb'');
           (first
             | (have K6 := Lib.hid (cell_kept K5.out hb''); have p5 := cells2 K6.out; obtain ⟨p6, p7⟩ := p5; have p8 := frozen_of_row _ _ 0 _ _ K6.out; have p9 := frozen_of_row _ _ 1 _ _ K6.out)
             | (have K6 : Hid (w2.heap[w1.heap.size]? = some (.cells #[.string ⟨#[]⟩, .int .i64 0] 35 (0, 0))) := Lib.hid (by have h := cell_kept (heap_alloc_new _ (.cells #[.string ⟨#[]⟩, .int .i64 0] 35)) hb''; simpa using h); have p5 := cells2 K6.out; obtain ⟨p6, p7⟩ := p5; have p8 := frozen_of_row _ _ 0 _ _ K6.out; have p9 := frozen_of_row _ _ 1 _ _ K6.out)
             | skip))
        | fail)
    all_goals go_wp2_with fail
    all_goals go_meet
    all_goals first
      | exact ⟨_, rfl, rfl, rfl, heap_alloc_new _ _, by assumption⟩
      | exact ⟨_, rfl, rfl, rfl, block_set2 K6.out _ _, by assumption⟩
  case rest =>
    obtain ⟨g, rfl, rfl, rfl, kg, c0, c1, c2, c3, k1, hb, hle⟩ := hcut
    clear hS
    have K1 := Lib.hid k1; have KG := Lib.hid kg; have HB := Lib.hid hb
    obtain ⟨p0, p1⟩ := cells2 kg
    obtain ⟨d0, d1, d2, d3⟩ := cells4 k1
    obtain ⟨f0, f1, f2, f3⟩ := frozen4 k1
    clear kg hb
    by_cases h0 : er = 0
    · subst h0
      clear d0 d1 d2 d3 f0 f1 f2 f3 k1
      go_wp2_with fail
      refine (HS.out _).mono ?_
      rintro e w4 ⟨rfl, hb4⟩
      have k4 := cell_kept K1.out hb4
      obtain ⟨d0, d1, d2, d3⟩ := cells4 k4
      obtain ⟨f0, f1, f2, f3⟩ := frozen4 k4
      obtain ⟨w3, hw3, e0, e1, e2, e3, hb3⟩ := out4 s Q y Y k4 (Nat.le_succ _) (below_up HB.out hb4 hle)
      have HW := Lib.hid hw3; have HB3 := Lib.hid hb3; have E0 := Lib.hid e0; have E1 := Lib.hid e1; have E2 := Lib.hid e2; have E3 := Lib.hid e3
      clear hw3 hb3 e0 e1 e2 e3 hb4 k4
      go_wp2
      rw [← HW.out]
      have e0 := E0.out; have e1 := E1.out; have e2 := E2.out; have e3 := E3.out
      exact bodyPost_ret (v := .tuple #[.agg #[.string s, .int .i64 Q, .int .i64 y, .int .i64 Y], .int .i64 n, .int .i64 0]) (by simp [results, Try.results37, go_sem, e0, e1, e2, e3]) rfl ⟨by rw [HRR.out]; simp, HB3.out⟩
    · have hq1 : (er != 0) = true := by rw [bne_iff_ne]; exact h0
      have H0 := Lib.hid h0; clear h0
      obtain ⟨w3, hw3, e0, e1, e2, e3, hb3⟩ := out4 s (P : Int) v X K1.out (Nat.le_succ _) HB.out
      have HW := Lib.hid hw3; have HB3 := Lib.hid hb3; have E0 := Lib.hid e0; have E1 := Lib.hid e1; have E2 := Lib.hid e2; have E3 := Lib.hid e3
      clear hw3 hb3 e0 e1 e2 e3 k1
      go_wp2
      rw [← HW.out]
      have e0 := E0.out; have e1 := E1.out; have e2 := E2.out; have e3 := E3.out
      exact bodyPost_ret (v := .tuple #[.agg #[.string s, .int .i64 P, .int .i64 v, .int .i64 X], .int .i64 0, .int .i64 er]) (by simp [results, Try.results37, go_sem, e0, e1, e2, e3]) rfl ⟨by rw [HRR.out, if_neg H0.out], HB3.out⟩
end Go.Proofs.Ythiplncceglnhaa
