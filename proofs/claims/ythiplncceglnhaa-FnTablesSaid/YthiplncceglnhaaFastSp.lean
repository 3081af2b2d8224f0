/-
  Contracts of the model's FastUe. Condition: the string is no longer than 1048576 bytes (the laws ask no more).
-/
import Derived.Test.YthiplncceglnhaaFastUe
namespace Go.Proofs.Ythiplncceglnhaa
open Go.RowKit
set_option linter.unusedVariables false

set_option maxRecDepth 100000 in
set_option maxHeartbeats 1000000 in
theorem l7reader_any (s : ByteArray) (a P : Nat) (hs : s.size ≤ 1048576) (hA : At s a P) (w : World) :
    Calls Try.prog 48 #[cw s a P] w fun e w' => e = .returned (.agg #[.string s, .int .i64 a]) ∧ Below w.heap.size w w' := by
  have HP := Lib.hid (spec_placein_in s a P hs hA)
  clear hA
  unfold cw cv at *
  obtain ⟨X, hX⟩ : ∃ X : Int, X = ((8 * P - a : Nat) : Int) := ⟨_, rfl⟩
  obtain ⟨v, hv⟩ : ∃ v : Int, v = (rdN s a (8 * P - a) : Int) := ⟨_, rfl⟩
  rw [← hX, ← hv] at HP
  rw [← hX, ← hv]
  clear hX hv
  have k0 : ((w.alloc (.cells #[.string s, .int .i64 P, .int .i64 v, .int .i64 X] 25)).alloc (.cells #[.string ⟨#[]⟩, .int .i64 0] 35)).heap[w.heap.size]? = some (.cells #[.string s, .int .i64 P, .int .i64 v, .int .i64 X] 25 (0, 0)) := by
    rw [Below.heap_alloc _ _ _ (by simp)]; exact heap_alloc_new w _
  have k1 : ((w.alloc (.cells #[.string s, .int .i64 P, .int .i64 v, .int .i64 X] 25)).alloc (.cells #[.string ⟨#[]⟩, .int .i64 0] 35)).heap[w.heap.size + 1]? = some (.cells #[.string ⟨#[]⟩, .int .i64 0] 35 (0, 0)) := by
    have := heap_alloc_new (w.alloc (.cells #[.string s, .int .i64 P, .int .i64 v, .int .i64 X] 25)) (.cells #[.string ⟨#[]⟩, .int .i64 0] 35)
    simpa using this
  obtain ⟨c0, c1, c2, c3⟩ := cells4 k0
  have B0 := Lib.hid ((below_new w (.cells #[.string s, .int .i64 P, .int .i64 v, .int .i64 X] 25)).alloc (below_new w _).size (.cells #[.string ⟨#[]⟩, .int .i64 0] 35))
  have HS0 := Lib.hid (held4k_drew (And.intro c0 (And.intro c1 (And.intro c2 (And.intro c3 (And.intro k1 (And.intro B0.out B0.out.size)))))))
  clear k0 k1
  go_enter Try.func48, Try.ntmps48
  go_wp2_with fail
  go_region_with (go_at_call 16; with_reducible refine (HP.out _).mono ?_; rintro e w1 ⟨rfl, hb'⟩; have HS1 := Lib.hid (held4k HS0.out hb'); obtain ⟨p0, p1, p2, p3, p4, p5, -⟩ := HS1.out; have K1 := Lib.hid p4; have B1 := Lib.hid p5; have d := cells2 p4; obtain ⟨d0, d1⟩ := d; have f0 := frozen_of_row _ _ 0 _ _ p4; have f1 := frozen_of_row _ _ 1 _ _ p4; clear p4 p5 hb')
  all_goals
    obtain ⟨w3, hw3, e0, e1, hb3⟩ := copy_out s (a : Int) K1.out B1.out
    have HW := Lib.hid hw3; have HB := Lib.hid hb3; have E0 := Lib.hid e0; have E1 := Lib.hid e1
    clear hw3 hb3 e0 e1
    go_wp2
    rw [← HW.out]
    have e0 := E0.out; have e1 := E1.out
    exact bodyPost_ret (v := .agg #[.string s, .int .i64 a]) (by simp [results, Try.results48, go_sem, e0, e1]) rfl ⟨rfl, HB.out⟩

set_option maxRecDepth 100000 in
set_option maxHeartbeats 1000000 in
theorem spec_fast_out (s : ByteArray) (p wd h : Int) (A : Option Addr) (len ca : Nat) (hs : s.size ≤ 1048576) (hno : ckOk s p wd h = false) (w : World) :
    Calls Try.prog 14 #[cv s p wd h, .slice A len ca] w fun e w' => e = .returned (.tuple #[cv s p wd h, .int .i64 0, .int .i64 1]) ∧ Below w.heap.size w w' := by
  have HO := Lib.hid (spec_cacheok_any s p wd h hs)
  rw [hno] at HO
  clear hno
  unfold cv at *
  go_enter Try.func14, Try.ntmps14
  go_wp2_with fail
  refine (HO.out _).mono ?_
  rintro e w1 ⟨rfl, hb1⟩
  obtain ⟨k0, k1⟩ := boxes_kept hb1
  obtain ⟨c0, c1, c2, c3⟩ := cells4 k0
  obtain ⟨d0, d1, d2, d3⟩ := cells4 k1
  obtain ⟨g0, g1, g2, g3⟩ := frozen4 k1
  obtain ⟨w3, hw3, e0, e1, e2, e3, hb3⟩ := out4 s p wd h k1 (Nat.le_succ _) (below_step ((below_new w _).alloc (below_new w _).size _) hb1)
  have HW := Lib.hid hw3; have HB := Lib.hid hb3; have E0 := Lib.hid e0; have E1 := Lib.hid e1; have E2 := Lib.hid e2; have E3 := Lib.hid e3
  clear hw3 hb3 e0 e1 e2 e3 hb1 k0 k1
  go_wp2
  rw [← HW.out]
  have e0 := E0.out; have e1 := E1.out; have e2 := E2.out; have e3 := E3.out
  exact bodyPost_ret (v := .tuple #[.agg #[.string s, .int .i64 p, .int .i64 wd, .int .i64 h], .int .i64 0, .int .i64 1]) (by simp [results, Try.results14, go_sem, e0, e1, e2, e3]) rfl ⟨rfl, HB.out⟩

end Go.Proofs.Ythiplncceglnhaa
