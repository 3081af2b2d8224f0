/-
  Contracts of ReadUe, in both texts, and the walk of its law. Condition: the string is no longer than 1048576 bytes (the laws ask no more).
-/
import Derived.Test.YtgacldhpohnpaaaRead
namespace Go.Proofs.Ytgacldhpohnpaaa
open Go.RowKit
set_option linter.unusedVariables false

/-- What ReadUe answers: the place, the number, the fault. -/
def ruPlace (s : ByteArray) (a : Int) : Int := if 15 < zaV s a then a else if rbOk s a (2 * zaV s a + 1) = true then rbPlace s a (2 * zaV s a + 1) else a
def ruNum (s : ByteArray) (a : Int) : Int := if 15 < zaV s a then 0 else if rbOk s a (2 * zaV s a + 1) = true then rbNum s a (2 * zaV s a + 1) - 1 else 0
def ruEr (s : ByteArray) (a : Int) : Int := if 15 < zaV s a then 4 else if rbOk s a (2 * zaV s a + 1) = true then 0 else 1

theorem zaV_range (s : ByteArray) (a : Int) (hs : s.size ≤ 1048576) : 0 ≤ zaV s a ∧ zaV s a ≤ 8388608 := by
  unfold zaV
  split
  · have := (zrun_spec s (8 * s.size - a.toNat) a.toNat).1
    omega
  · omega
theorem rbNum_range (s : ByteArray) (a n : Int) (hn : n ≤ 31) : 0 ≤ rbNum s a n ∧ rbNum s a n ≤ 2147483648 := by
  unfold rbNum
  split
  · have h1 := rdN_lt s a.toNat n.toNat
    have h2 := Nat.pow_le_pow_right (n := 2) (by decide) (show n.toNat ≤ 31 by omega)
    omega
  · omega

set_option maxRecDepth 100000 in
set_option maxHeartbeats 400000 in
theorem impl_readue_code (s : ByteArray) (a : Int) (hs : s.size ≤ 1048576) (h : 15 < zaV s a) (w : World) :
    Calls Try.prog 100 #[.agg #[.string s, .int .i64 a]] w fun e w' => e = .returned (.tuple #[.agg #[.string s, .int .i64 a], .int .i64 0, .int .i64 4]) ∧ Below w.heap.size w w' := by
  have HZ := Lib.hid (impl_zeros_any s a hs)
  obtain ⟨z, hz⟩ : ∃ z, z = zaV s a := ⟨_, rfl⟩
  rw [← hz] at HZ h
  have q1 : decide (15 < z) = true := by simpa using h
  clear hz h
  go_enter Try.func100, Try.ntmps100
  go_wp2_with fail
  refine (HZ.out _).mono ?_
  rintro e w1 ⟨rfl, hb1⟩
  obtain ⟨k0, k1⟩ := box22_kept hb1
  obtain ⟨c0, c1⟩ := cells2 k0
  have f1 := frozen_of_row w1 _ 0 _ _ k1
  have f2 := frozen_of_row w1 _ 1 _ _ k1
  obtain ⟨d0, d1⟩ := cells2 k1
  obtain ⟨w3, hw3, e0, e1, hb3⟩ := copy_out s a k1 (below_step ((below_new w _).alloc (below_new w _).size _) hb1)
  have HW := Lib.hid hw3; have HB := Lib.hid hb3; have E0 := Lib.hid e0; have E1 := Lib.hid e1
  clear hw3 hb3 e0 e1 hb1 k0 k1
  go_wp2
  rw [← HW.out]
  have e0 := E0.out; have e1 := E1.out
  exact bodyPost_ret (v := .tuple #[.agg #[.string s, .int .i64 a], .int .i64 0, .int .i64 4]) (by simp [results, Try.results100, go_sem, e0, e1]) rfl ⟨rfl, HB.out⟩

set_option maxRecDepth 100000 in
set_option maxHeartbeats 400000 in
theorem impl_readue_short (s : ByteArray) (a : Int) (hs : s.size ≤ 1048576) (h : ¬ 15 < zaV s a) (ho : rbOk s a (2 * zaV s a + 1) = false) (w : World) :
    Calls Try.prog 100 #[.agg #[.string s, .int .i64 a]] w fun e w' => e = .returned (.tuple #[.agg #[.string s, .int .i64 a], .int .i64 0, .int .i64 1]) ∧ Below w.heap.size w w' := by
  have HZ := Lib.hid (impl_zeros_any s a hs)
  have HR := Lib.hid (impl_readbits_any s a (2 * zaV s a + 1) hs)
  rw [ho] at HR
  have hz0 := (zaV_range s a hs).1
  obtain ⟨v0, v1⟩ := rbNum_range s a (2 * zaV s a + 1) (by omega)
  obtain ⟨z, hz⟩ : ∃ z, z = zaV s a := ⟨_, rfl⟩
  rw [← hz] at HZ HR h hz0 v0 v1
  obtain ⟨p, hp⟩ : ∃ p, p = rbPlace s a (2 * z + 1) := ⟨_, rfl⟩
  obtain ⟨v, hv⟩ : ∃ v, v = rbNum s a (2 * z + 1) := ⟨_, rfl⟩
  rw [← hp, ← hv] at HR
  rw [← hv] at v0 v1
  have q1 : decide (15 < z) = false := by simpa using h
  clear hz hp hv ho
  go_enter Try.func100, Try.ntmps100
  go_wp2_with fail
  refine (HZ.out _).mono ?_
  rintro e w1 ⟨rfl, hb1⟩
  obtain ⟨k0, k1⟩ := box22_kept hb1
  obtain ⟨c0, c1⟩ := cells2 k0
  have B1 := Lib.hid (below_step ((below_new w _).alloc (below_new w _).size _) hb1); clear hb1
  have K0 := Lib.hid k0; have K1 := Lib.hid k1; clear k0 k1
  go_wp2_with fail
  refine (HR.out _).mono ?_
  rintro e w2 ⟨rfl, hb2⟩
  clear c0 c1
  have K0' := Lib.hid (cell_kept K0.out hb2)
  have K1' := Lib.hid (cell_kept K1.out hb2)
  have B2 := Lib.hid (below_step B1.out hb2)
  clear hb2 K0 K1 B1
  have lt0 := heap_lt K0'.out
  have lt1 := heap_lt K1'.out
  obtain ⟨c0, c1⟩ := cells2 K0'.out
  obtain ⟨d0, d1⟩ := cells2 K1'.out
  have f1 := frozen_of_row w2 _ 0 _ _ K1'.out
  have f2 := frozen_of_row w2 _ 1 _ _ K1'.out
  go_wp2
  have hout := heap_keep (block_set2 K1'.out (.string s) (.int .i64 a)) (.cells #[.string s, .int .i64 p] 35)
  obtain ⟨e0, e1⟩ := cells2 hout
  have B3 := below_set2 B2.out (w.heap.size + 1) (Nat.le_succ _) (.string s) (.int .i64 a)
  have B4 := B3.alloc B3.size (.cells #[.string s, .int .i64 p] 35)
  exact bodyPost_ret (v := .tuple #[.agg #[.string s, .int .i64 a], .int .i64 0, .int .i64 1]) (by simp [results, Try.results100, go_sem, e0, e1]) rfl ⟨rfl, B4⟩

set_option maxRecDepth 100000 in
set_option maxHeartbeats 400000 in
theorem impl_readue_read (s : ByteArray) (a : Int) (hs : s.size ≤ 1048576) (h : ¬ 15 < zaV s a) (ho : rbOk s a (2 * zaV s a + 1) = true) (w : World) :
    Calls Try.prog 100 #[.agg #[.string s, .int .i64 a]] w fun e w' => e = .returned (.tuple #[.agg #[.string s, .int .i64 (rbPlace s a (2 * zaV s a + 1))], .int .i64 (rbNum s a (2 * zaV s a + 1) - 1), .int .i64 0]) ∧ Below w.heap.size w w' := by
  have HZ := Lib.hid (impl_zeros_any s a hs)
  have HR := Lib.hid (impl_readbits_any s a (2 * zaV s a + 1) hs)
  rw [ho] at HR
  have hz0 := (zaV_range s a hs).1
  obtain ⟨v0, v1⟩ := rbNum_range s a (2 * zaV s a + 1) (by omega)
  obtain ⟨z, hz⟩ : ∃ z, z = zaV s a := ⟨_, rfl⟩
  rw [← hz] at HZ HR h hz0 v0 v1 ⊢
  obtain ⟨p, hp⟩ : ∃ p, p = rbPlace s a (2 * z + 1) := ⟨_, rfl⟩
  obtain ⟨v, hv⟩ : ∃ v, v = rbNum s a (2 * z + 1) := ⟨_, rfl⟩
  rw [← hp, ← hv] at HR ⊢
  rw [← hv] at v0 v1
  have q1 : decide (15 < z) = false := by simpa using h
  clear hz hp hv ho
  go_enter Try.func100, Try.ntmps100
  go_wp2_with fail
  refine (HZ.out _).mono ?_
  rintro e w1 ⟨rfl, hb1⟩
  obtain ⟨k0, k1⟩ := box22_kept hb1
  obtain ⟨c0, c1⟩ := cells2 k0
  have B1 := Lib.hid (below_step ((below_new w _).alloc (below_new w _).size _) hb1); clear hb1
  have K0 := Lib.hid k0; have K1 := Lib.hid k1; clear k0 k1
  go_wp2_with fail
  refine (HR.out _).mono ?_
  rintro e w2 ⟨rfl, hb2⟩
  clear c0 c1
  have K0' := Lib.hid (cell_kept K0.out hb2)
  have K1' := Lib.hid (cell_kept K1.out hb2)
  have B2 := Lib.hid (below_step B1.out hb2)
  clear hb2 K0 K1 B1
  have lt0 := heap_lt K0'.out
  have lt1 := heap_lt K1'.out
  obtain ⟨c0, c1⟩ := cells2 K0'.out
  obtain ⟨d0, d1⟩ := cells2 K1'.out
  have f1 := frozen_of_row w2 _ 0 _ _ K1'.out
  have f2 := frozen_of_row w2 _ 1 _ _ K1'.out
  go_wp2
  have hout := heap_keep (block_set2 K1'.out (.string s) (.int .i64 p)) (.cells #[.string s, .int .i64 p] 35)
  obtain ⟨e0, e1⟩ := cells2 hout
  have B3 := below_set2 B2.out (w.heap.size + 1) (Nat.le_succ _) (.string s) (.int .i64 p)
  have B4 := B3.alloc B3.size (.cells #[.string s, .int .i64 p] 35)
  exact bodyPost_ret (v := .tuple #[.agg #[.string s, .int .i64 p], .int .i64 (v - 1), .int .i64 0]) (by simp [results, Try.results100, go_sem, e0, e1]) rfl ⟨rfl, B4⟩

theorem impl_readue_any (s : ByteArray) (a : Int) (hs : s.size ≤ 1048576) (w : World) :
    Calls Try.prog 100 #[.agg #[.string s, .int .i64 a]] w fun e w' => e = .returned (.tuple #[.agg #[.string s, .int .i64 (ruPlace s a)], .int .i64 (ruNum s a), .int .i64 (ruEr s a)]) ∧ Below w.heap.size w w' := by
  unfold ruPlace ruNum ruEr
  by_cases h : 15 < zaV s a
  · rw [if_pos h, if_pos h, if_pos h]
    exact impl_readue_code s a hs h w
  · rw [if_neg h, if_neg h, if_neg h]
    cases ho : rbOk s a (2 * zaV s a + 1) with
    | true =>
      rw [if_pos rfl, if_pos rfl, if_pos rfl]
      exact impl_readue_read s a hs h ho w
    | false =>
      rw [if_neg (by decide), if_neg (by decide), if_neg (by decide)]
      exact impl_readue_short s a hs h ho w

set_option maxRecDepth 100000 in
set_option maxHeartbeats 400000 in
theorem spec_readue_code (s : ByteArray) (a : Int) (hs : s.size ≤ 1048576) (h : 15 < zaV s a) (w : World) :
    Calls Try.prog 21 #[.agg #[.string s, .int .i64 a]] w fun e w' => e = .returned (.tuple #[.agg #[.string s, .int .i64 a], .int .i64 0, .int .i64 4]) ∧ Below w.heap.size w w' := by
  have HZ := Lib.hid (spec_zeros_any s a hs)
  obtain ⟨z, hz⟩ : ∃ z, z = zaV s a := ⟨_, rfl⟩
  rw [← hz] at HZ h
  have q1 : decide (15 < z) = true := by simpa using h
  clear hz h
  go_enter Try.func21, Try.ntmps21
  go_wp2_with fail
  refine (HZ.out _).mono ?_
  rintro e w1 ⟨rfl, hb1⟩
  obtain ⟨k0, k1⟩ := box22_kept hb1
  obtain ⟨c0, c1⟩ := cells2 k0
  have f1 := frozen_of_row w1 _ 0 _ _ k1
  have f2 := frozen_of_row w1 _ 1 _ _ k1
  obtain ⟨d0, d1⟩ := cells2 k1
  obtain ⟨w3, hw3, e0, e1, hb3⟩ := copy_out s a k1 (below_step ((below_new w _).alloc (below_new w _).size _) hb1)
  have HW := Lib.hid hw3; have HB := Lib.hid hb3; have E0 := Lib.hid e0; have E1 := Lib.hid e1
  clear hw3 hb3 e0 e1 hb1 k0 k1
  go_wp2
  rw [← HW.out]
  have e0 := E0.out; have e1 := E1.out
  exact bodyPost_ret (v := .tuple #[.agg #[.string s, .int .i64 a], .int .i64 0, .int .i64 4]) (by simp [results, Try.results21, go_sem, e0, e1]) rfl ⟨rfl, HB.out⟩

set_option maxRecDepth 100000 in
set_option maxHeartbeats 400000 in
theorem spec_readue_short (s : ByteArray) (a : Int) (hs : s.size ≤ 1048576) (h : ¬ 15 < zaV s a) (ho : rbOk s a (2 * zaV s a + 1) = false) (w : World) :
    Calls Try.prog 21 #[.agg #[.string s, .int .i64 a]] w fun e w' => e = .returned (.tuple #[.agg #[.string s, .int .i64 a], .int .i64 0, .int .i64 1]) ∧ Below w.heap.size w w' := by
  have HZ := Lib.hid (spec_zeros_any s a hs)
  have HR := Lib.hid (spec_readbits_any s a (2 * zaV s a + 1) hs)
  rw [ho] at HR
  have hz0 := (zaV_range s a hs).1
  obtain ⟨v0, v1⟩ := rbNum_range s a (2 * zaV s a + 1) (by omega)
  obtain ⟨z, hz⟩ : ∃ z, z = zaV s a := ⟨_, rfl⟩
  rw [← hz] at HZ HR h hz0 v0 v1
  obtain ⟨p, hp⟩ : ∃ p, p = rbPlace s a (2 * z + 1) := ⟨_, rfl⟩
  obtain ⟨v, hv⟩ : ∃ v, v = rbNum s a (2 * z + 1) := ⟨_, rfl⟩
  rw [← hp, ← hv] at HR
  rw [← hv] at v0 v1
  have q1 : decide (15 < z) = false := by simpa using h
  clear hz hp hv ho
  go_enter Try.func21, Try.ntmps21
  go_wp2_with fail
  refine (HZ.out _).mono ?_
  rintro e w1 ⟨rfl, hb1⟩
  obtain ⟨k0, k1⟩ := box22_kept hb1
  obtain ⟨c0, c1⟩ := cells2 k0
  have B1 := Lib.hid (below_step ((below_new w _).alloc (below_new w _).size _) hb1); clear hb1
  have K0 := Lib.hid k0; have K1 := Lib.hid k1; clear k0 k1
  go_wp2_with fail
  refine (HR.out _).mono ?_
  rintro e w2 ⟨rfl, hb2⟩
  clear c0 c1
  have K0' := Lib.hid (cell_kept K0.out hb2)
  have K1' := Lib.hid (cell_kept K1.out hb2)
  have B2 := Lib.hid (below_step B1.out hb2)
  clear hb2 K0 K1 B1
  have lt0 := heap_lt K0'.out
  have lt1 := heap_lt K1'.out
  obtain ⟨c0, c1⟩ := cells2 K0'.out
  obtain ⟨d0, d1⟩ := cells2 K1'.out
  have f1 := frozen_of_row w2 _ 0 _ _ K1'.out
  have f2 := frozen_of_row w2 _ 1 _ _ K1'.out
  go_wp2
  have hout := heap_keep (block_set2 K1'.out (.string s) (.int .i64 a)) (.cells #[.string s, .int .i64 p] 35)
  obtain ⟨e0, e1⟩ := cells2 hout
  have B3 := below_set2 B2.out (w.heap.size + 1) (Nat.le_succ _) (.string s) (.int .i64 a)
  have B4 := B3.alloc B3.size (.cells #[.string s, .int .i64 p] 35)
  exact bodyPost_ret (v := .tuple #[.agg #[.string s, .int .i64 a], .int .i64 0, .int .i64 1]) (by simp [results, Try.results21, go_sem, e0, e1]) rfl ⟨rfl, B4⟩

set_option maxRecDepth 100000 in
set_option maxHeartbeats 400000 in
theorem spec_readue_read (s : ByteArray) (a : Int) (hs : s.size ≤ 1048576) (h : ¬ 15 < zaV s a) (ho : rbOk s a (2 * zaV s a + 1) = true) (w : World) :
    Calls Try.prog 21 #[.agg #[.string s, .int .i64 a]] w fun e w' => e = .returned (.tuple #[.agg #[.string s, .int .i64 (rbPlace s a (2 * zaV s a + 1))], .int .i64 (rbNum s a (2 * zaV s a + 1) - 1), .int .i64 0]) ∧ Below w.heap.size w w' := by
  have HZ := Lib.hid (spec_zeros_any s a hs)
  have HR := Lib.hid (spec_readbits_any s a (2 * zaV s a + 1) hs)
  rw [ho] at HR
  have hz0 := (zaV_range s a hs).1
  obtain ⟨v0, v1⟩ := rbNum_range s a (2 * zaV s a + 1) (by omega)
  obtain ⟨z, hz⟩ : ∃ z, z = zaV s a := ⟨_, rfl⟩
  rw [← hz] at HZ HR h hz0 v0 v1 ⊢
  obtain ⟨p, hp⟩ : ∃ p, p = rbPlace s a (2 * z + 1) := ⟨_, rfl⟩
  obtain ⟨v, hv⟩ : ∃ v, v = rbNum s a (2 * z + 1) := ⟨_, rfl⟩
  rw [← hp, ← hv] at HR ⊢
  rw [← hv] at v0 v1
  have q1 : decide (15 < z) = false := by simpa using h
  clear hz hp hv ho
  go_enter Try.func21, Try.ntmps21
  go_wp2_with fail
  refine (HZ.out _).mono ?_
  rintro e w1 ⟨rfl, hb1⟩
  obtain ⟨k0, k1⟩ := box22_kept hb1
  obtain ⟨c0, c1⟩ := cells2 k0
  have B1 := Lib.hid (below_step ((below_new w _).alloc (below_new w _).size _) hb1); clear hb1
  have K0 := Lib.hid k0; have K1 := Lib.hid k1; clear k0 k1
  go_wp2_with fail
  refine (HR.out _).mono ?_
  rintro e w2 ⟨rfl, hb2⟩
  clear c0 c1
  have K0' := Lib.hid (cell_kept K0.out hb2)
  have K1' := Lib.hid (cell_kept K1.out hb2)
  have B2 := Lib.hid (below_step B1.out hb2)
  clear hb2 K0 K1 B1
  have lt0 := heap_lt K0'.out
  have lt1 := heap_lt K1'.out
  obtain ⟨c0, c1⟩ := cells2 K0'.out
  obtain ⟨d0, d1⟩ := cells2 K1'.out
  have f1 := frozen_of_row w2 _ 0 _ _ K1'.out
  have f2 := frozen_of_row w2 _ 1 _ _ K1'.out
  go_wp2
  have hout := heap_keep (block_set2 K1'.out (.string s) (.int .i64 p)) (.cells #[.string s, .int .i64 p] 35)
  obtain ⟨e0, e1⟩ := cells2 hout
  have B3 := below_set2 B2.out (w.heap.size + 1) (Nat.le_succ _) (.string s) (.int .i64 p)
  have B4 := B3.alloc B3.size (.cells #[.string s, .int .i64 p] 35)
  exact bodyPost_ret (v := .tuple #[.agg #[.string s, .int .i64 p], .int .i64 (v - 1), .int .i64 0]) (by simp [results, Try.results21, go_sem, e0, e1]) rfl ⟨rfl, B4⟩

theorem spec_readue_any (s : ByteArray) (a : Int) (hs : s.size ≤ 1048576) (w : World) :
    Calls Try.prog 21 #[.agg #[.string s, .int .i64 a]] w fun e w' => e = .returned (.tuple #[.agg #[.string s, .int .i64 (ruPlace s a)], .int .i64 (ruNum s a), .int .i64 (ruEr s a)]) ∧ Below w.heap.size w w' := by
  unfold ruPlace ruNum ruEr
  by_cases h : 15 < zaV s a
  · rw [if_pos h, if_pos h, if_pos h]
    exact spec_readue_code s a hs h w
  · rw [if_neg h, if_neg h, if_neg h]
    cases ho : rbOk s a (2 * zaV s a + 1) with
    | true =>
      rw [if_pos rfl, if_pos rfl, if_pos rfl]
      exact spec_readue_read s a hs h ho w
    | false =>
      rw [if_neg (by decide), if_neg (by decide), if_neg (by decide)]
      exact spec_readue_short s a hs h ho w

end Go.Proofs.Ytgacldhpohnpaaa
