/-
  Contracts of Refill, in both texts. Condition: the string is no longer than 1048576 bytes (the laws ask no more).
-/
import Derived.Test.YthiplncceglnhaaCacheOk
namespace Go.Proofs.Ythiplncceglnhaa
open Go.RowKit
set_option linter.unusedVariables false

/-- Two blocks that the call has made, behind a call. -/
theorem boxes_kept {w w' : World} {cs ds : Array Value} {T U : TypeId} (hb : Below ((w.alloc (.cells cs T)).alloc (.cells ds U)).heap.size ((w.alloc (.cells cs T)).alloc (.cells ds U)) w') :
    w'.heap[w.heap.size]? = some (.cells cs T (0, 0)) ∧ w'.heap[w.heap.size + 1]? = some (.cells ds U (0, 0)) := by
  have h1 : ((w.alloc (.cells cs T)).alloc (.cells ds U)).heap[w.heap.size]? = some (.cells cs T (0, 0)) := by
    rw [Below.heap_alloc _ _ _ (by simp)]; exact heap_alloc_new w _
  have h2 : ((w.alloc (.cells cs T)).alloc (.cells ds U)).heap[w.heap.size + 1]? = some (.cells ds U (0, 0)) := by
    have := heap_alloc_new (w.alloc (.cells cs T)) (.cells ds U)
    simpa using this
  exact ⟨cell_kept h1 hb, cell_kept h2 hb⟩
/-- All cells of a cache's block written. -/
def put4 (w : World) (g : Nat) (s : ByteArray) (p wd h : Int) : World := (((w.setCell ⟨g, 0, none⟩ (.string s)).setCell ⟨g, 1, none⟩ (.int .i64 p)).setCell ⟨g, 2, none⟩ (.int .i64 wd)).setCell ⟨g, 3, none⟩ (.int .i64 h)
theorem put4_block {w : World} {g : Nat} {u v x y : Value} {T : TypeId} (h : w.heap[g]? = some (.cells #[u, v, x, y] T (0, 0))) (s : ByteArray) (p wd k : Int) :
    (put4 w g s p wd k).heap[g]? = some (.cells #[.string s, .int .i64 p, .int .i64 wd, .int .i64 k] T (0, 0)) := by
  unfold put4
  rw [heap_setCell_same _ g 3 _ _ _ (heap_setCell_same _ g 2 _ _ _ (heap_setCell_same _ g 1 _ _ _ (heap_setCell_same w g 0 _ _ _ h)))]
  rfl
theorem put4_below {w w' : World} (h : Below w.heap.size w w') (g : Nat) (hg : w.heap.size ≤ g) (s : ByteArray) (p wd k : Int) : Below w.heap.size w (put4 w' g s p wd k) :=
  Below.setCell (Below.setCell (Below.setCell (Below.setCell h (p := ⟨g, 0, none⟩) hg _) (p := ⟨g, 1, none⟩) hg _) (p := ⟨g, 2, none⟩) hg _) (p := ⟨g, 3, none⟩) hg _
theorem put4_other {w : World} {g k : Nat} (h : k ≠ g) (s : ByteArray) (p wd x : Int) : (put4 w g s p wd x).heap[k]? = w.heap[k]? := by
  unfold put4
  rw [heap_setCell_other _ _ _ _ h, heap_setCell_other _ _ _ _ h, heap_setCell_other _ _ _ _ h, heap_setCell_other _ _ _ _ h]
/-- No cell of a block without the mark is frozen. -/
theorem frozen4 {w : World} {g : Nat} {u v x y : Value} {T : TypeId} (h : w.heap[g]? = some (.cells #[u, v, x, y] T (0, 0))) :
    w.frozen? ⟨g, 0, none⟩ = false ∧ w.frozen? ⟨g, 1, none⟩ = false ∧ w.frozen? ⟨g, 2, none⟩ = false ∧ w.frozen? ⟨g, 3, none⟩ = false :=
  ⟨frozen_of_row w g 0 _ _ h, frozen_of_row w g 1 _ _ h, frozen_of_row w g 2 _ _ h, frozen_of_row w g 3 _ _ h⟩
/-- The end of a call that answers a cache out of its result's block. -/
theorem out4 {w w2 : World} {T : TypeId} {g : Nat} {u v x y : Value} (s : ByteArray) (p wd k : Int) (h : w2.heap[g]? = some (.cells #[u, v, x, y] T (0, 0))) (hg : w.heap.size ≤ g) (hb : Below w.heap.size w w2) : ∃ w3, w3 = (((w2.setCell ⟨g, 0, none⟩ (.string s)).setCell ⟨g, 1, none⟩ (.int .i64 p)).setCell ⟨g, 2, none⟩ (.int .i64 wd)).setCell ⟨g, 3, none⟩ (.int .i64 k) ∧
      w3.cell? ⟨g, 0, none⟩ = some (.string s) ∧ w3.cell? ⟨g, 1, none⟩ = some (.int .i64 p) ∧ w3.cell? ⟨g, 2, none⟩ = some (.int .i64 wd) ∧ w3.cell? ⟨g, 3, none⟩ = some (.int .i64 k) ∧ Below w.heap.size w w3 := by
  obtain ⟨a0, a1, a2, a3⟩ := cells4 (put4_block h s p wd k)
  exact ⟨_, rfl, a0, a1, a2, a3, put4_below hb g hg s p wd k⟩

/-- Three cells of a block written. -/
theorem upd3_block {w : World} {g : Nat} {u0 u1 u2 u3 : Value} {T : TypeId} (h : w.heap[g]? = some (.cells #[u0, u1, u2, u3] T (0, 0))) (x y z : Value) :
    (((w.setCell ⟨g, 2, none⟩ x).setCell ⟨g, 1, none⟩ y).setCell ⟨g, 3, none⟩ z).drew.heap[g]? = some (.cells #[u0, y, x, z] T (0, 0)) := by
  show (((w.setCell ⟨g, 2, none⟩ x).setCell ⟨g, 1, none⟩ y).setCell ⟨g, 3, none⟩ z).heap[g]? = _
  rw [heap_setCell_same _ g 3 _ _ _ (heap_setCell_same _ g 1 _ _ _ (heap_setCell_same w g 2 _ _ _ h))]
  rfl
theorem upd3_other {w : World} {g k : Nat} (h : k ≠ g) {x y z : Value} : (((w.setCell ⟨g, 2, none⟩ x).setCell ⟨g, 1, none⟩ y).setCell ⟨g, 3, none⟩ z).drew.heap[k]? = w.heap[k]? := by
  show (((w.setCell ⟨g, 2, none⟩ x).setCell ⟨g, 1, none⟩ y).setCell ⟨g, 3, none⟩ z).heap[k]? = _
  rw [heap_setCell_other _ _ _ _ h, heap_setCell_other _ _ _ _ h, heap_setCell_other _ _ _ _ h]
theorem upd3_below {w w' : World} (h : Below w.heap.size w w') (g : Nat) (hg : w.heap.size ≤ g) (x y z : Value) : Below w.heap.size w (((w'.setCell ⟨g, 2, none⟩ x).setCell ⟨g, 1, none⟩ y).setCell ⟨g, 3, none⟩ z).drew :=
  (Below.setCell (Below.setCell (Below.setCell h (p := ⟨g, 2, none⟩) hg _) (p := ⟨g, 1, none⟩) hg _) (p := ⟨g, 3, none⟩) hg _).drew

theorem rf_step (s : ByteArray) (a P Q : Nat) (h1 : P ≤ Q) (h2 : Q ≤ rfP s a P) (hA : At s a Q) : (Q < rfP s a P → 8 * Q - a ≤ 48 ∧ Q < s.size) ∧ (Q = rfP s a P → 8 * Q - a ≤ 48 → s.size ≤ Q) := by
  obtain ⟨b1, b2, b3⟩ := hA
  unfold rfP at *
  split at h2 <;> rename_i hc
  · rw [if_pos hc]; omega
  · rw [if_neg hc]; omega

set_option maxRecDepth 100000 in
set_option maxHeartbeats 800000 in
theorem impl_refill_out (s : ByteArray) (p wd h : Int) (hs : s.size ≤ 1048576) (hno : ckOk s p wd h = false) (w : World) :
    Calls Try.prog 74 #[cv s p wd h] w fun e w' => e = .returned (cv s p wd h) ∧ Below w.heap.size w w' := by
  have HO := Lib.hid (impl_cacheok_any s p wd h hs)
  rw [hno] at HO
  clear hno
  unfold cv at *
  go_enter Try.func74, Try.ntmps74
  go_wp2_with fail
  refine (HO.out _).mono ?_
  rintro e w1 ⟨rfl, hb1⟩
  obtain ⟨k0, k1⟩ := boxes_kept hb1
  obtain ⟨c0, c1, c2, c3⟩ := cells4 k0
  obtain ⟨f0, f1, f2, f3⟩ := frozen4 k1
  obtain ⟨d0, d1, d2, d3⟩ := cells4 k1
  obtain ⟨w3, hw3, e0, e1, e2, e3, hb3⟩ := out4 s p wd h k1 (Nat.le_succ _) (below_step ((below_new w _).alloc (below_new w _).size _) hb1)
  have HW := Lib.hid hw3; have HB := Lib.hid hb3; have E0 := Lib.hid e0; have E1 := Lib.hid e1; have E2 := Lib.hid e2; have E3 := Lib.hid e3
  clear hw3 hb3 e0 e1 e2 e3 hb1 k0 k1
  go_wp2
  rw [← HW.out]
  have e0 := E0.out; have e1 := E1.out; have e2 := E2.out; have e3 := E3.out
  exact bodyPost_ret (v := .agg #[.string s, .int .i64 p, .int .i64 wd, .int .i64 h]) (by simp [results, Try.results74, go_sem, e0, e1, e2, e3]) rfl ⟨rfl, HB.out⟩

set_option maxRecDepth 100000 in
set_option maxHeartbeats 800000 in
theorem impl_refill_in (s : ByteArray) (a P : Nat) (hs : s.size ≤ 1048576) (hA : At s a P) (w : World) :
    Calls Try.prog 74 #[cw s a P] w fun e w' => e = .returned (cw s a (rfP s a P)) ∧ Below w.heap.size w w' := by
  have HO := Lib.hid (impl_cacheok_any s (P : Int) (rdN s a (8 * P - a) : Int) ((8 * P - a : Nat) : Int) hs)
  rw [ckOk_of s a P hA] at HO
  have hAt := Lib.hid (rfP_at s a P hA)
  have hst := Lib.hid (rf_step s a P)
  have hA' := Lib.hid hA
  clear hA
  obtain ⟨N, hN⟩ : ∃ N, N = rfP s a P := ⟨_, rfl⟩
  rw [← hN] at hAt hst ⊢
  clear hN
  unfold cw cv at *
  go_enter Try.func74, Try.ntmps74
  go_wp2_with fail
  refine (HO.out _).mono ?_
  rintro e w1 ⟨rfl, hb1⟩
  obtain ⟨k0, k1⟩ := boxes_kept hb1
  have K0 := Lib.hid k0; have K1 := Lib.hid k1
  have B1 := Lib.hid (below_step ((below_new w _).alloc (below_new w _).size _) hb1)
  clear hb1 k0 k1
  go_wp2
  go_loopw [] (fun wr => ∃ Q : Nat, P ≤ Q ∧ Q ≤ N ∧ At s a Q ∧ wr.heap[w.heap.size]? = some (.cells #[.string s, .int .i64 Q, .int .i64 (rdN s a (8 * Q - a)), .int .i64 ((8 * Q - a : Nat) : Int)] 25 (0, 0)) ∧
      wr.heap[w.heap.size + 1]? = some (.cells #[.string ⟨#[]⟩, .int .i64 0, .int .i64 0, .int .i64 0] 25 (0, 0)) ∧ Below w.heap.size w wr)
    (fun wr => N - (intOf ((wr.cell? ⟨w.heap.size, 1, none⟩).getD undef)).toNat)
  case atStart => exact ⟨P, Nat.le_refl _, hAt.out.1, hA'.out, K0.out, K1.out, B1.out⟩
  case round =>
    obtain ⟨Q, hPQ, hQN, hAQ, k0, k1, hb⟩ := hrel
    have hstep := hst.out Q hPQ hQN hAQ
    obtain ⟨b1, b2, b3⟩ := hAQ
    obtain ⟨X, hX⟩ : ∃ X, X = 8 * Q - a := ⟨_, rfl⟩
    rw [← hX] at k0 hstep b3
    obtain ⟨c0, c1, c2, c3⟩ := cells4 k0
    by_cases hlt : Q < N
    · obtain ⟨g1, g2⟩ := hstep.1 hlt
      obtain ⟨f0, f1, f2, f3⟩ := frozen4 k0
      have hmore := rdN_more s a X Q (by omega)
      have hv := rdN_lt' s a X 48 (by omega)
      have hb9 := byteAt_lt s Q
      have hix := index_at Try.underlying9 s Q g2
      obtain ⟨v, hvd⟩ : ∃ v, v = rdN s a X := ⟨_, rfl⟩
      obtain ⟨b, hbd⟩ : ∃ b, b = byteAt s Q := ⟨_, rfl⟩
      rw [← hvd, ← hbd] at hmore
      rw [← hvd] at hv c2 k0
      rw [← hbd] at hb9 hix
      have HS := Lib.hid hmore; have K0 := Lib.hid k0; have K1 := Lib.hid k1; have HB := Lib.hid hb; have HX := Lib.hid hX
      clear hmore hvd hbd k0 k1 hb hX hstep
      have hor : bits .or .i64 ((v : Int) * 256) (b : Int) = (v : Int) * 256 + b := by
        rw [or_i64 8 _ _ (by omega) (by omega) (by omega) (by omega) (by omega) (by decide)]
      go_wp2
      go_region
      go_wp2
      have hnew := upd3_block K0.out (.int .i64 ((v : Int) * 256 + b)) (.int .i64 ((Q : Int) + 1)) (.int .i64 ((X : Int) + 8))
      have hne : w.heap.size + 1 ≠ w.heap.size := by omega
      go_roundw
      case rel =>
        have hX2 := HX.out
        refine ⟨Q + 1, by omega, by omega, ⟨by omega, by omega, by omega⟩, ?_, ?_, ?_⟩
        · rw [hnew, show 8 * (Q + 1) - a = X + 8 by have := HX.out; omega, HS.out]
          rfl
        · rw [upd3_other hne]; exact K1.out
        · exact upd3_below HB.out _ (Nat.le_refl _) _ _ _
      case measure =>
        rw [(cells4 hnew).2.1, c1]
        simp [intOf]
        omega
    · obtain rfl : Q = N := by omega
      have g1 := hstep.2 rfl
      obtain ⟨f0, f1, f2, f3⟩ := frozen4 k1
      obtain ⟨d0, d1, d2, d3⟩ := cells4 k1
      obtain ⟨v, hvd⟩ : ∃ v, v = rdN s a X := ⟨_, rfl⟩
      rw [← hvd] at c2 k0
      have HX := Lib.hid hX; have HV := Lib.hid hvd
      obtain ⟨w3, hw3, e0, e1, e2, e3, hb3⟩ := out4 s (Q : Int) (v : Int) (X : Int) k1 (Nat.le_succ _) hb
      have HW := Lib.hid hw3; have HB := Lib.hid hb3; have E0 := Lib.hid e0; have E1 := Lib.hid e1; have E2 := Lib.hid e2; have E3 := Lib.hid e3
      clear hw3 hb3 e0 e1 e2 e3 hb k0 k1 hstep hX hvd
      by_cases hx : X ≤ 48
      · have g2 : (s.size : Int) ≤ (Q : Int) := by have := g1 hx; omega
        clear g1
        go_wp2
        rw [← HW.out]
        have e0 := E0.out; have e1 := E1.out; have e2 := E2.out; have e3 := E3.out
        exact bodyPost_ret (v := .agg #[.string s, .int .i64 Q, .int .i64 v, .int .i64 X]) (by simp [results, Try.results74, go_sem, e0, e1, e2, e3]) rfl ⟨by rw [← HX.out, ← HV.out], HB.out⟩
      · have hx' : (48 : Int) < (X : Int) := by omega
        clear g1
        go_wp2
        rw [← HW.out]
        have e0 := E0.out; have e1 := E1.out; have e2 := E2.out; have e3 := E3.out
        exact bodyPost_ret (v := .agg #[.string s, .int .i64 Q, .int .i64 v, .int .i64 X]) (by simp [results, Try.results74, go_sem, e0, e1, e2, e3]) rfl ⟨by rw [← HX.out, ← HV.out], HB.out⟩
set_option maxRecDepth 100000 in
set_option maxHeartbeats 800000 in
theorem spec_refill_out (s : ByteArray) (p wd h : Int) (hs : s.size ≤ 1048576) (hno : ckOk s p wd h = false) (w : World) :
    Calls Try.prog 33 #[cv s p wd h] w fun e w' => e = .returned (cv s p wd h) ∧ Below w.heap.size w w' := by
  have HO := Lib.hid (spec_cacheok_any s p wd h hs)
  rw [hno] at HO
  clear hno
  unfold cv at *
  go_enter Try.func33, Try.ntmps33
  go_wp2_with fail
  refine (HO.out _).mono ?_
  rintro e w1 ⟨rfl, hb1⟩
  obtain ⟨k0, k1⟩ := boxes_kept hb1
  obtain ⟨c0, c1, c2, c3⟩ := cells4 k0
  obtain ⟨f0, f1, f2, f3⟩ := frozen4 k1
  obtain ⟨d0, d1, d2, d3⟩ := cells4 k1
  obtain ⟨w3, hw3, e0, e1, e2, e3, hb3⟩ := out4 s p wd h k1 (Nat.le_succ _) (below_step ((below_new w _).alloc (below_new w _).size _) hb1)
  have HW := Lib.hid hw3; have HB := Lib.hid hb3; have E0 := Lib.hid e0; have E1 := Lib.hid e1; have E2 := Lib.hid e2; have E3 := Lib.hid e3
  clear hw3 hb3 e0 e1 e2 e3 hb1 k0 k1
  go_wp2
  rw [← HW.out]
  have e0 := E0.out; have e1 := E1.out; have e2 := E2.out; have e3 := E3.out
  exact bodyPost_ret (v := .agg #[.string s, .int .i64 p, .int .i64 wd, .int .i64 h]) (by simp [results, Try.results33, go_sem, e0, e1, e2, e3]) rfl ⟨rfl, HB.out⟩

set_option maxRecDepth 100000 in
set_option maxHeartbeats 800000 in
theorem spec_refill_in (s : ByteArray) (a P : Nat) (hs : s.size ≤ 1048576) (hA : At s a P) (w : World) :
    Calls Try.prog 33 #[cw s a P] w fun e w' => e = .returned (cw s a (rfP s a P)) ∧ Below w.heap.size w w' := by
  have HO := Lib.hid (spec_cacheok_any s (P : Int) (rdN s a (8 * P - a) : Int) ((8 * P - a : Nat) : Int) hs)
  rw [ckOk_of s a P hA] at HO
  have hAt := Lib.hid (rfP_at s a P hA)
  have hst := Lib.hid (rf_step s a P)
  have hA' := Lib.hid hA
  clear hA
  obtain ⟨N, hN⟩ : ∃ N, N = rfP s a P := ⟨_, rfl⟩
  rw [← hN] at hAt hst ⊢
  clear hN
  unfold cw cv at *
  go_enter Try.func33, Try.ntmps33
  go_wp2_with fail
  refine (HO.out _).mono ?_
  rintro e w1 ⟨rfl, hb1⟩
  obtain ⟨k0, k1⟩ := boxes_kept hb1
  have K0 := Lib.hid k0; have K1 := Lib.hid k1
  have B1 := Lib.hid (below_step ((below_new w _).alloc (below_new w _).size _) hb1)
  clear hb1 k0 k1
  go_wp2
  go_loopw [] (fun wr => ∃ Q : Nat, P ≤ Q ∧ Q ≤ N ∧ At s a Q ∧ wr.heap[w.heap.size]? = some (.cells #[.string s, .int .i64 Q, .int .i64 (rdN s a (8 * Q - a)), .int .i64 ((8 * Q - a : Nat) : Int)] 25 (0, 0)) ∧
      wr.heap[w.heap.size + 1]? = some (.cells #[.string ⟨#[]⟩, .int .i64 0, .int .i64 0, .int .i64 0] 25 (0, 0)) ∧ Below w.heap.size w wr)
    (fun wr => N - (intOf ((wr.cell? ⟨w.heap.size, 1, none⟩).getD undef)).toNat)
  case atStart => exact ⟨P, Nat.le_refl _, hAt.out.1, hA'.out, K0.out, K1.out, B1.out⟩
  case round =>
    obtain ⟨Q, hPQ, hQN, hAQ, k0, k1, hb⟩ := hrel
    have hstep := hst.out Q hPQ hQN hAQ
    obtain ⟨b1, b2, b3⟩ := hAQ
    obtain ⟨X, hX⟩ : ∃ X, X = 8 * Q - a := ⟨_, rfl⟩
    rw [← hX] at k0 hstep b3
    obtain ⟨c0, c1, c2, c3⟩ := cells4 k0
    by_cases hlt : Q < N
    · obtain ⟨g1, g2⟩ := hstep.1 hlt
      obtain ⟨f0, f1, f2, f3⟩ := frozen4 k0
      have hmore := rdN_more s a X Q (by omega)
      have hv := rdN_lt' s a X 48 (by omega)
      have hb9 := byteAt_lt s Q
      have hix := index_at Try.underlying9 s Q g2
      obtain ⟨v, hvd⟩ : ∃ v, v = rdN s a X := ⟨_, rfl⟩
      obtain ⟨b, hbd⟩ : ∃ b, b = byteAt s Q := ⟨_, rfl⟩
      rw [← hvd, ← hbd] at hmore
      rw [← hvd] at hv c2 k0
      rw [← hbd] at hb9 hix
      have HS := Lib.hid hmore; have K0 := Lib.hid k0; have K1 := Lib.hid k1; have HB := Lib.hid hb; have HX := Lib.hid hX
      clear hmore hvd hbd k0 k1 hb hX hstep
      go_wp2
      go_region
      go_wp2
      have hnew := upd3_block K0.out (.int .i64 ((v : Int) * 256 + b)) (.int .i64 ((Q : Int) + 1)) (.int .i64 ((X : Int) + 8))
      have hne : w.heap.size + 1 ≠ w.heap.size := by omega
      go_roundw
      case rel =>
        have hX2 := HX.out
        refine ⟨Q + 1, by omega, by omega, ⟨by omega, by omega, by omega⟩, ?_, ?_, ?_⟩
        · rw [hnew, show 8 * (Q + 1) - a = X + 8 by have := HX.out; omega, HS.out]
          rfl
        · rw [upd3_other hne]; exact K1.out
        · exact upd3_below HB.out _ (Nat.le_refl _) _ _ _
      case measure =>
        rw [(cells4 hnew).2.1, c1]
        simp [intOf]
        omega
    · obtain rfl : Q = N := by omega
      have g1 := hstep.2 rfl
      obtain ⟨f0, f1, f2, f3⟩ := frozen4 k1
      obtain ⟨d0, d1, d2, d3⟩ := cells4 k1
      obtain ⟨v, hvd⟩ : ∃ v, v = rdN s a X := ⟨_, rfl⟩
      rw [← hvd] at c2 k0
      have HX := Lib.hid hX; have HV := Lib.hid hvd
      obtain ⟨w3, hw3, e0, e1, e2, e3, hb3⟩ := out4 s (Q : Int) (v : Int) (X : Int) k1 (Nat.le_succ _) hb
      have HW := Lib.hid hw3; have HB := Lib.hid hb3; have E0 := Lib.hid e0; have E1 := Lib.hid e1; have E2 := Lib.hid e2; have E3 := Lib.hid e3
      clear hw3 hb3 e0 e1 e2 e3 hb k0 k1 hstep hX hvd
      by_cases hx : X ≤ 48
      · have g2 : (s.size : Int) ≤ (Q : Int) := by have := g1 hx; omega
        clear g1
        go_wp2
        rw [← HW.out]
        have e0 := E0.out; have e1 := E1.out; have e2 := E2.out; have e3 := E3.out
        exact bodyPost_ret (v := .agg #[.string s, .int .i64 Q, .int .i64 v, .int .i64 X]) (by simp [results, Try.results33, go_sem, e0, e1, e2, e3]) rfl ⟨by rw [← HX.out, ← HV.out], HB.out⟩
      · have hx' : (48 : Int) < (X : Int) := by omega
        clear g1
        go_wp2
        rw [← HW.out]
        have e0 := E0.out; have e1 := E1.out; have e2 := E2.out; have e3 := E3.out
        exact bodyPost_ret (v := .agg #[.string s, .int .i64 Q, .int .i64 v, .int .i64 X]) (by simp [results, Try.results33, go_sem, e0, e1, e2, e3]) rfl ⟨by rw [← HX.out, ← HV.out], HB.out⟩
end Go.Proofs.Ythiplncceglnhaa
