/-
  Contracts of ReadBits, in both texts. Condition: the string is no longer than 1048576 bytes (the laws ask no more).
-/
import Derived.Test.YthiplncceglnhaaReader
namespace Go.Proofs.Ythiplncceglnhaa
open Go.RowKit
set_option linter.unusedVariables false

/-- The number of `k` bits from bit `a` on. -/
def rdN (s : ByteArray) (a : Nat) : Nat → Nat
  | 0 => 0
  | k + 1 => 2 * rdN s a k + bitN s (a + k)
theorem rdN_lt (s : ByteArray) (a k : Nat) : rdN s a k < 2 ^ k := by
  induction k with
  | zero => simp [rdN]
  | succ k ih =>
    have := bitN_lt s (a + k)
    rw [rdN, Nat.pow_succ]
    omega
/-- Are there `n` bits to read? -/
def rbOk (s : ByteArray) (a n : Int) : Bool := rdOk s a && (decide (0 ≤ n) && (decide (n ≤ 32) && decide (n ≤ leftV s a)))

/-- Two blocks of two cells that the call has made, behind a call. -/
theorem box22_kept {w w' : World} {u v x y : Value} {T U : TypeId} (hb : Below ((w.alloc (.cells #[u, v] T)).alloc (.cells #[x, y] U)).heap.size ((w.alloc (.cells #[u, v] T)).alloc (.cells #[x, y] U)) w') :
    w'.heap[w.heap.size]? = some (.cells #[u, v] T (0, 0)) ∧ w'.heap[w.heap.size + 1]? = some (.cells #[x, y] U (0, 0)) := by
  have h1 : ((w.alloc (.cells #[u, v] T)).alloc (.cells #[x, y] U)).heap[w.heap.size]? = some (.cells #[u, v] T (0, 0)) := by
    rw [Below.heap_alloc _ _ _ (by simp)]; exact heap_alloc_new w _
  have h2 : ((w.alloc (.cells #[u, v] T)).alloc (.cells #[x, y] U)).heap[w.heap.size + 1]? = some (.cells #[x, y] U (0, 0)) := by
    have := heap_alloc_new (w.alloc (.cells #[u, v] T)) (.cells #[x, y] U)
    simpa using this
  exact ⟨cell_kept h1 hb, cell_kept h2 hb⟩
theorem cells2 {w : World} {g : Nat} {u v : Value} {T : TypeId} {fr : Nat × Nat} (h : w.heap[g]? = some (.cells #[u, v] T fr)) : w.cell? ⟨g, 0, none⟩ = some u ∧ w.cell? ⟨g, 1, none⟩ = some v :=
  ⟨cell_of_row _ _ 0 _ _ _ h, cell_of_row _ _ 1 _ _ _ h⟩

/-- Both cells of a block written. -/
theorem block_set2 {w : World} {g : Nat} {u v : Value} {T : TypeId} (h : w.heap[g]? = some (.cells #[u, v] T (0, 0))) (x y : Value) :
    ((w.setCell ⟨g, 0, none⟩ x).setCell ⟨g, 1, none⟩ y).heap[g]? = some (.cells #[x, y] T (0, 0)) := by
  rw [heap_setCell_same _ g 1 _ _ _ (heap_setCell_same w g 0 _ _ _ h)]
  rfl
theorem below_set2 {w w' : World} (h : Below w.heap.size w w') (g : Nat) (hg : w.heap.size ≤ g) (x y : Value) : Below w.heap.size w ((w'.setCell ⟨g, 0, none⟩ x).setCell ⟨g, 1, none⟩ y) :=
  Below.setCell (Below.setCell h (p := ⟨g, 0, none⟩) hg x) (p := ⟨g, 1, none⟩) hg y

set_option maxRecDepth 100000 in
set_option maxHeartbeats 400000 in
theorem impl_readbits_in (s : ByteArray) (a n : Nat) (hs : s.size ≤ 1048576) (hn : n ≤ 32) (ha : a + n ≤ 8 * s.size) (w : World) :
    Calls Try.prog 76 #[.agg #[.string s, .int .i64 a], .int .i64 n] w fun e w' => e = .returned (.tuple #[.agg #[.string s, .int .i64 ((a + n : Nat) : Int)], .int .i64 (rdN s a n), .bool true]) ∧ Below w.heap.size w w' := by
  have HO := Lib.hid (impl_readerok_any s a hs)
  have HL := Lib.hid (impl_left_any s a hs)
  have hok : rdOk s (a : Int) = true := by rw [rdOk_true]; omega
  have hle : leftV s (a : Int) = 8 * (s.size : Int) - a := by rw [leftV, if_pos hok]
  rw [hok] at HO
  rw [hle] at HL
  clear hok hle
  have q1 : decide ((n : Int) < 0) = false := by simp
  have q2 : decide ((32 : Int) < (n : Int)) = false := by simp; omega
  have q3 : decide (8 * (s.size : Int) - (a : Int) < (n : Int)) = false := by simp; omega
  go_enter Try.func76, Try.ntmps76
  go_wp2_with fail
  refine (HO.out _).mono ?_
  rintro e w1 ⟨rfl, hb1⟩
  obtain ⟨k0, k1⟩ := box22_kept hb1
  obtain ⟨c0, c1⟩ := cells2 k0
  have B1 := Lib.hid (below_step ((below_new w _).alloc (below_new w _).size _) hb1); clear hb1
  have K0 := Lib.hid k0; have K1 := Lib.hid k1; clear k0 k1
  go_wp2_with fail
  refine (HL.out _).mono ?_
  rintro e w2 ⟨rfl, hb2⟩
  clear c0 c1
  have k0 := cell_kept K0.out hb2
  have k1 := cell_kept K1.out hb2
  obtain ⟨c0, c1⟩ := cells2 k0
  have B2 := Lib.hid (below_step B1.out hb2); clear hb2
  have L0 := Lib.hid k0; have L1 := Lib.hid k1; clear k0 k1
  go_wp2
  go_loop [7, 28] (fun v i => ∃ k : Nat, k ≤ n ∧ i = .int .i64 k ∧ v = .int .i64 (rdN s a k)) (fun _ i => n - (intOf i).toNat)
  case atStart => exact ⟨0, Nat.zero_le _, rfl, rfl⟩
  case round =>
    obtain ⟨k, hk, rfl, rfl⟩ := hrel
    by_cases hlt : k < n
    · have HB := Lib.hid (impl_bitat_in s (a + k) hs (by omega))
      simp only [Int.natCast_add] at HB
      have hv := rdN_lt s a k
      have hv2 : rdN s a k < 2147483648 := Nat.lt_of_lt_of_le hv (Nat.pow_le_pow_right (by decide) (show k ≤ 31 by omega))
      have hb := bitN_lt s (a + k)
      have hs1 : rdN s a (k + 1) = 2 * rdN s a k + bitN s (a + k) := rfl
      obtain ⟨v, hvd⟩ : ∃ v, v = rdN s a k := ⟨_, rfl⟩
      obtain ⟨b, hbd⟩ : ∃ b, b = bitN s (a + k) := ⟨_, rfl⟩
      rw [← hvd, ← hbd] at hs1
      rw [← hbd] at HB hb
      rw [← hvd] at hv2 ⊢
      have HS := Lib.hid hs1
      clear hs1 hv hvd hbd
      have hor : bits .or .i64 ((v : Int) * 2) (b : Int) = ((2 * v + b : Nat) : Int) := by
        rw [or_i64 1 _ _ (by omega) (by omega) (by omega) (by omega) (by omega) (by decide)]
        omega
      go_wp2_with fail
      refine (HB.out _).mono ?_
      rintro e w' ⟨rfl, rfl⟩
      go_wp2
      go_round
      case rel => exact ⟨k + 1, by omega, by go_num, by rw [HS.out]; congr 1⟩
      case measure => simp [intOf]; omega
    · obtain rfl : k = n := by omega
      clear hlt hk
      obtain ⟨c0, c1⟩ := cells2 L0.out
      obtain ⟨d0, d1⟩ := cells2 L1.out
      have f1 := frozen_of_row w2 _ 0 _ _ L1.out
      have f2 := frozen_of_row w2 _ 1 _ _ L1.out
      go_wp2
      have hout := block_set2 L1.out (.string s) (.int .i64 ((a : Int) + k))
      have B3 := below_set2 B2.out (w.heap.size + 1) (Nat.le_succ _) (.string s) (.int .i64 ((a : Int) + k))
      obtain ⟨e0, e1⟩ := cells2 hout
      exact bodyPost_ret (v := .tuple #[.agg #[.string s, .int .i64 ((a : Int) + k)], .int .i64 (rdN s a k), .bool true]) (by simp [results, Try.results76, go_sem, e0, e1]) rfl ⟨rfl, B3⟩

/-- The ways in which there is nothing to read. -/
theorem rbOk_ways (s : ByteArray) (a n : Int) (h : rbOk s a n = false) : rdOk s a = false ∨ (rdOk s a = true ∧ n < 0) ∨ (rdOk s a = true ∧ 0 ≤ n ∧ 32 < n) ∨ (rdOk s a = true ∧ 0 ≤ n ∧ n ≤ 32 ∧ leftV s a < n) := by
  cases hk : rdOk s a with
  | false => exact .inl rfl
  | true =>
    simp only [rbOk, hk, Bool.true_and, Bool.and_eq_false_iff, decide_eq_false_iff_not] at h
    by_cases h1 : n < 0
    · exact .inr (.inl ⟨rfl, h1⟩)
    · by_cases h2 : 32 < n
      · exact .inr (.inr (.inl ⟨rfl, by omega, h2⟩))
      · exact .inr (.inr (.inr ⟨rfl, by omega, by omega, by omega⟩))

/-- The end of a call that answers its reader, zero and false: the reader's copy in the result's block. -/
theorem copy_out {w w2 : World} {T : TypeId} {u v : Value} (s : ByteArray) (a : Int) (h : w2.heap[w.heap.size + 1]? = some (.cells #[u, v] T (0, 0))) (hb : Below w.heap.size w w2) : ∃ w3, w3 = (w2.setCell ⟨w.heap.size + 1, 0, none⟩ (.string s)).setCell ⟨w.heap.size + 1, 1, none⟩ (.int .i64 a) ∧
      w3.cell? ⟨w.heap.size + 1, 0, none⟩ = some (.string s) ∧ w3.cell? ⟨w.heap.size + 1, 1, none⟩ = some (.int .i64 a) ∧ Below w.heap.size w w3 :=
  ⟨_, rfl, (cells2 (block_set2 h _ _)).1, (cells2 (block_set2 h _ _)).2, below_set2 hb (w.heap.size + 1) (Nat.le_succ _) _ _⟩

set_option maxRecDepth 100000 in
set_option maxHeartbeats 400000 in
theorem impl_readbits_out3 (s : ByteArray) (a n : Int) (hs : s.size ≤ 1048576) (hno : rdOk s a = false ∨ (rdOk s a = true ∧ n < 0) ∨ (rdOk s a = true ∧ 0 ≤ n ∧ 32 < n)) (w : World) :
    Calls Try.prog 76 #[.agg #[.string s, .int .i64 a], .int .i64 n] w fun e w' => e = .returned (.tuple #[.agg #[.string s, .int .i64 a], .int .i64 0, .bool false]) ∧ Below w.heap.size w w' := by
  have HO := Lib.hid (impl_readerok_any s a hs)
  rcases hno with hk | ⟨hk, h1⟩ | ⟨hk, h1, h2⟩
  case' inr.inl => have q1 : decide (n < 0) = true := by simpa using h1
  case' inr.inr =>
    have q1 : decide (n < 0) = false := by simpa using h1
    have q2 : decide ((32 : Int) < n) = true := by simpa using h2
  all_goals
    rw [hk] at HO
    clear hk
    go_enter Try.func76, Try.ntmps76
    go_wp2_with fail
    refine (HO.out _).mono ?_
    rintro e w1 ⟨rfl, hb1⟩
    obtain ⟨k0, k1⟩ := box22_kept hb1
    obtain ⟨c0, c1⟩ := cells2 k0
    have f1 := frozen_of_row w1 _ 0 _ _ k1
    have f2 := frozen_of_row w1 _ 1 _ _ k1
    obtain ⟨d0, d1⟩ := cells2 k1
    obtain ⟨w3, hw3, e0, e1, hb3⟩ := copy_out s a k1 (below_step ((below_new w _).alloc (below_new w _).size _) hb1)
    have HW := Lib.hid hw3; have HB := Lib.hid hb3; have E0 := Lib.hid e0; have E1 := Lib.hid e1
    clear hw3 hb3 e0 e1 hb1 k0 k1
    go_wp2
    rw [← HW.out]
    have e0 := E0.out; have e1 := E1.out
    exact bodyPost_ret (v := .tuple #[.agg #[.string s, .int .i64 a], .int .i64 0, .bool false]) (by simp [results, Try.results76, go_sem, e0, e1]) rfl ⟨rfl, HB.out⟩

set_option maxRecDepth 100000 in
set_option maxHeartbeats 400000 in
theorem impl_readbits_out4 (s : ByteArray) (a n : Int) (hs : s.size ≤ 1048576) (hk : rdOk s a = true) (h1 : 0 ≤ n) (h2 : n ≤ 32) (h3 : leftV s a < n) (w : World) :
    Calls Try.prog 76 #[.agg #[.string s, .int .i64 a], .int .i64 n] w fun e w' => e = .returned (.tuple #[.agg #[.string s, .int .i64 a], .int .i64 0, .bool false]) ∧ Below w.heap.size w w' := by
  have HO := Lib.hid (impl_readerok_any s a hs)
  have HL := Lib.hid (impl_left_any s a hs)
  have q1 : decide (n < 0) = false := by simpa using h1
  have q2 : decide ((32 : Int) < n) = false := by simpa using h2
  have q3 : decide (leftV s a < n) = true := by simpa using h3
  obtain ⟨lv, hlv⟩ : ∃ lv, lv = leftV s a := ⟨_, rfl⟩
  rw [← hlv] at HL q3 h3
  rw [hk] at HO
  clear hlv hk
  go_enter Try.func76, Try.ntmps76
  go_wp2_with fail
  refine (HO.out _).mono ?_
  rintro e w1 ⟨rfl, hb1⟩
  obtain ⟨k0, k1⟩ := box22_kept hb1
  obtain ⟨c0, c1⟩ := cells2 k0
  have B1 := Lib.hid (below_step ((below_new w _).alloc (below_new w _).size _) hb1); clear hb1
  have K0 := Lib.hid k0; have K1 := Lib.hid k1; clear k0 k1
  go_wp2_with fail
  refine (HL.out _).mono ?_
  rintro e w2 ⟨rfl, hb2⟩
  clear c0 c1
  have k0 := cell_kept K0.out hb2
  have k1 := cell_kept K1.out hb2
  obtain ⟨c0, c1⟩ := cells2 k0
  have f1 := frozen_of_row w2 _ 0 _ _ k1
  have f2 := frozen_of_row w2 _ 1 _ _ k1
  obtain ⟨d0, d1⟩ := cells2 k1
  obtain ⟨w3, hw3, e0, e1, hb3⟩ := copy_out s a k1 (below_step B1.out hb2)
  have HW := Lib.hid hw3; have HB := Lib.hid hb3; have E0 := Lib.hid e0; have E1 := Lib.hid e1
  clear hw3 hb3 e0 e1 hb2 k0 k1
  go_wp2
  rw [← HW.out]
  have e0 := E0.out; have e1 := E1.out
  exact bodyPost_ret (v := .tuple #[.agg #[.string s, .int .i64 a], .int .i64 0, .bool false]) (by simp [results, Try.results76, go_sem, e0, e1]) rfl ⟨rfl, HB.out⟩

theorem impl_readbits_out (s : ByteArray) (a n : Int) (hs : s.size ≤ 1048576) (hno : rbOk s a n = false) (w : World) :
    Calls Try.prog 76 #[.agg #[.string s, .int .i64 a], .int .i64 n] w fun e w' => e = .returned (.tuple #[.agg #[.string s, .int .i64 a], .int .i64 0, .bool false]) ∧ Below w.heap.size w w' := by
  rcases rbOk_ways s a n hno with hk | ⟨hk, h1⟩ | ⟨hk, h1, h2⟩ | ⟨hk, h1, h2, h3⟩
  · exact impl_readbits_out3 s a n hs (.inl hk) w
  · exact impl_readbits_out3 s a n hs (.inr (.inl ⟨hk, h1⟩)) w
  · exact impl_readbits_out3 s a n hs (.inr (.inr ⟨hk, h1, h2⟩)) w
  · exact impl_readbits_out4 s a n hs hk h1 h2 h3 w

set_option maxRecDepth 100000 in
set_option maxHeartbeats 400000 in
theorem spec_readbits_out3 (s : ByteArray) (a n : Int) (hs : s.size ≤ 1048576) (hno : rdOk s a = false ∨ (rdOk s a = true ∧ n < 0) ∨ (rdOk s a = true ∧ 0 ≤ n ∧ 32 < n)) (w : World) :
    Calls Try.prog 50 #[.agg #[.string s, .int .i64 a], .int .i64 n] w fun e w' => e = .returned (.tuple #[.agg #[.string s, .int .i64 a], .int .i64 0, .bool false]) ∧ Below w.heap.size w w' := by
  have HO := Lib.hid (spec_readerok_any s a hs)
  have HI := Lib.hid (l1In_any n 0 32)
  rcases hno with hk | ⟨hk, h1⟩ | ⟨hk, h1, h2⟩
  case' inr.inl => have q1 : decide (0 ≤ n) = false := by simpa using h1
  case' inr.inr =>
    have q1 : decide (0 ≤ n) = true := by simpa using h1
    have q2 : decide (n ≤ (32 : Int)) = false := by simpa using h2
  all_goals
    rw [hk] at HO
    clear hk
    go_enter Try.func50, Try.ntmps50
    go_wp2_with fail
    refine (HO.out _).mono ?_
    rintro e w1 ⟨rfl, hb1⟩
    obtain ⟨k0, k1⟩ := box22_kept hb1
    obtain ⟨c0, c1⟩ := cells2 k0
    have f1 := frozen_of_row w1 _ 0 _ _ k1
    have f2 := frozen_of_row w1 _ 1 _ _ k1
    obtain ⟨d0, d1⟩ := cells2 k1
    obtain ⟨w3, hw3, e0, e1, hb3⟩ := copy_out s a k1 (below_step ((below_new w _).alloc (below_new w _).size _) hb1)
    have HW := Lib.hid hw3; have HB := Lib.hid hb3; have E0 := Lib.hid e0; have E1 := Lib.hid e1
    clear hw3 hb3 e0 e1 hb1 k0 k1
    go_wp2_with (refine (HI.out _).mono ?_; rintro e w' ⟨rfl, rfl⟩)
    rw [← HW.out]
    have e0 := E0.out; have e1 := E1.out
    exact bodyPost_ret (v := .tuple #[.agg #[.string s, .int .i64 a], .int .i64 0, .bool false]) (by simp [results, Try.results50, go_sem, e0, e1]) rfl ⟨rfl, HB.out⟩

set_option maxRecDepth 100000 in
set_option maxHeartbeats 400000 in
theorem spec_readbits_out4 (s : ByteArray) (a n : Int) (hs : s.size ≤ 1048576) (hk : rdOk s a = true) (h1 : 0 ≤ n) (h2 : n ≤ 32) (h3 : leftV s a < n) (w : World) :
    Calls Try.prog 50 #[.agg #[.string s, .int .i64 a], .int .i64 n] w fun e w' => e = .returned (.tuple #[.agg #[.string s, .int .i64 a], .int .i64 0, .bool false]) ∧ Below w.heap.size w w' := by
  have HO := Lib.hid (spec_readerok_any s a hs)
  have HL := Lib.hid (spec_left_any s a hs)
  have HI := Lib.hid (l1In_any n 0 32)
  have q1 : decide (0 ≤ n) = true := by simpa using h1
  have q2 : decide (n ≤ (32 : Int)) = true := by simpa using h2
  have q3 : decide (leftV s a < n) = true := by simpa using h3
  obtain ⟨lv, hlv⟩ : ∃ lv, lv = leftV s a := ⟨_, rfl⟩
  rw [← hlv] at HL q3 h3
  rw [hk] at HO
  clear hlv hk
  go_enter Try.func50, Try.ntmps50
  go_wp2_with fail
  refine (HO.out _).mono ?_
  rintro e w1 ⟨rfl, hb1⟩
  obtain ⟨k0, k1⟩ := box22_kept hb1
  obtain ⟨c0, c1⟩ := cells2 k0
  have B1 := Lib.hid (below_step ((below_new w _).alloc (below_new w _).size _) hb1); clear hb1
  have K0 := Lib.hid k0; have K1 := Lib.hid k1; clear k0 k1
  go_wp2_with fail
  refine (HI.out _).mono ?_
  rintro e w' ⟨rfl, rfl⟩
  go_wp2_with fail
  refine (HL.out _).mono ?_
  rintro e w2 ⟨rfl, hb2⟩
  clear c0 c1
  have k0 := cell_kept K0.out hb2
  have k1 := cell_kept K1.out hb2
  obtain ⟨c0, c1⟩ := cells2 k0
  have f1 := frozen_of_row w2 _ 0 _ _ k1
  have f2 := frozen_of_row w2 _ 1 _ _ k1
  obtain ⟨d0, d1⟩ := cells2 k1
  obtain ⟨w3, hw3, e0, e1, hb3⟩ := copy_out s a k1 (below_step B1.out hb2)
  have HW := Lib.hid hw3; have HB := Lib.hid hb3; have E0 := Lib.hid e0; have E1 := Lib.hid e1
  clear hw3 hb3 e0 e1 hb2 k0 k1
  go_wp2
  rw [← HW.out]
  have e0 := E0.out; have e1 := E1.out
  exact bodyPost_ret (v := .tuple #[.agg #[.string s, .int .i64 a], .int .i64 0, .bool false]) (by simp [results, Try.results50, go_sem, e0, e1]) rfl ⟨rfl, HB.out⟩

theorem spec_readbits_out (s : ByteArray) (a n : Int) (hs : s.size ≤ 1048576) (hno : rbOk s a n = false) (w : World) :
    Calls Try.prog 50 #[.agg #[.string s, .int .i64 a], .int .i64 n] w fun e w' => e = .returned (.tuple #[.agg #[.string s, .int .i64 a], .int .i64 0, .bool false]) ∧ Below w.heap.size w w' := by
  rcases rbOk_ways s a n hno with hk | ⟨hk, h1⟩ | ⟨hk, h1, h2⟩ | ⟨hk, h1, h2, h3⟩
  · exact spec_readbits_out3 s a n hs (.inl hk) w
  · exact spec_readbits_out3 s a n hs (.inr (.inl ⟨hk, h1⟩)) w
  · exact spec_readbits_out3 s a n hs (.inr (.inr ⟨hk, h1, h2⟩)) w
  · exact spec_readbits_out4 s a n hs hk h1 h2 h3 w

set_option maxRecDepth 100000 in
set_option maxHeartbeats 400000 in
theorem spec_readbits_in (s : ByteArray) (a n : Nat) (hs : s.size ≤ 1048576) (hn : n ≤ 32) (ha : a + n ≤ 8 * s.size) (w : World) :
    Calls Try.prog 50 #[.agg #[.string s, .int .i64 a], .int .i64 n] w fun e w' => e = .returned (.tuple #[.agg #[.string s, .int .i64 ((a + n : Nat) : Int)], .int .i64 (rdN s a n), .bool true]) ∧ Below w.heap.size w w' := by
  have HO := Lib.hid (spec_readerok_any s a hs)
  have HL := Lib.hid (spec_left_any s a hs)
  have hok : rdOk s (a : Int) = true := by rw [rdOk_true]; omega
  have hle : leftV s (a : Int) = 8 * (s.size : Int) - a := by rw [leftV, if_pos hok]
  have HI := Lib.hid (l1In_any (n : Int) 0 32)
  have q1 : decide (0 ≤ (n : Int)) = true := by simp
  have q2 : decide ((n : Int) ≤ 32) = true := by simp; omega
  rw [q1, q2] at HI
  rw [hok] at HO
  rw [hle] at HL
  clear hok hle q1 q2
  have q3 : decide (8 * (s.size : Int) - (a : Int) < (n : Int)) = false := by simp; omega
  go_enter Try.func50, Try.ntmps50
  go_wp2_with fail
  refine (HO.out _).mono ?_
  rintro e w1 ⟨rfl, hb1⟩
  obtain ⟨k0, k1⟩ := box22_kept hb1
  obtain ⟨c0, c1⟩ := cells2 k0
  have B1 := Lib.hid (below_step ((below_new w _).alloc (below_new w _).size _) hb1); clear hb1
  have K0 := Lib.hid k0; have K1 := Lib.hid k1; clear k0 k1
  go_wp2_with fail
  refine (HI.out _).mono ?_
  rintro e w' ⟨rfl, rfl⟩
  go_wp2_with fail
  refine (HL.out _).mono ?_
  rintro e w2 ⟨rfl, hb2⟩
  clear c0 c1
  have k0 := cell_kept K0.out hb2
  have k1 := cell_kept K1.out hb2
  obtain ⟨c0, c1⟩ := cells2 k0
  have B2 := Lib.hid (below_step B1.out hb2); clear hb2
  have L0 := Lib.hid k0; have L1 := Lib.hid k1; clear k0 k1
  go_wp2
  go_loop [7, 8] (fun v i => ∃ k : Nat, k ≤ n ∧ i = .int .i64 k ∧ v = .int .i64 (rdN s a k)) (fun _ i => n - (intOf i).toNat)
  case atStart => exact ⟨0, Nat.zero_le _, rfl, rfl⟩
  case round =>
    obtain ⟨k, hk, rfl, rfl⟩ := hrel
    by_cases hlt : k < n
    · have HB := Lib.hid (spec_bitat_in s (a + k) hs (by omega))
      simp only [Int.natCast_add] at HB
      have hv := rdN_lt s a k
      have hv2 : rdN s a k < 2147483648 := Nat.lt_of_lt_of_le hv (Nat.pow_le_pow_right (by decide) (show k ≤ 31 by omega))
      have hb := bitN_lt s (a + k)
      have hs1 : rdN s a (k + 1) = 2 * rdN s a k + bitN s (a + k) := rfl
      obtain ⟨v, hvd⟩ : ∃ v, v = rdN s a k := ⟨_, rfl⟩
      obtain ⟨b, hbd⟩ : ∃ b, b = bitN s (a + k) := ⟨_, rfl⟩
      rw [← hvd, ← hbd] at hs1
      rw [← hbd] at HB hb
      rw [← hvd] at hv2 ⊢
      have HS := Lib.hid hs1
      clear hs1 hv hvd hbd
      go_wp2_with fail
      refine (HB.out _).mono ?_
      rintro e w' ⟨rfl, rfl⟩
      go_wp2
      go_round
      case rel => exact ⟨k + 1, by omega, by go_num, by rw [HS.out]; congr 1; omega⟩
      case measure => simp [intOf]; omega
    · obtain rfl : k = n := by omega
      clear hlt hk
      obtain ⟨c0, c1⟩ := cells2 L0.out
      obtain ⟨d0, d1⟩ := cells2 L1.out
      have f1 := frozen_of_row w2 _ 0 _ _ L1.out
      have f2 := frozen_of_row w2 _ 1 _ _ L1.out
      have f3 := frozen_of_row w2 _ 1 _ _ L0.out
      go_wp2
      have hin : (w2.setCell ⟨w.heap.size, 1, none⟩ (.int .i64 ((a : Int) + k))).heap[w.heap.size + 1]? = some (.cells #[.string ⟨#[]⟩, .int .i64 0] 35 (0, 0)) := by
        rw [heap_setCell_other _ _ _ _ (by simp)]; exact L1.out
      have hout := block_set2 hin (.string s) (.int .i64 ((a : Int) + k))
      have B3 := below_set2 (Below.setCell B2.out (p := ⟨w.heap.size, 1, none⟩) (Nat.le_refl _) (.int .i64 ((a : Int) + k))) (w.heap.size + 1) (Nat.le_succ _) (.string s) (.int .i64 ((a : Int) + k))
      obtain ⟨e0, e1⟩ := cells2 hout
      exact bodyPost_ret (v := .tuple #[.agg #[.string s, .int .i64 ((a : Int) + k)], .int .i64 (rdN s a k), .bool true]) (by simp [results, Try.results50, go_sem, e0, e1]) rfl ⟨rfl, B3⟩

theorem rbOk_nat (s : ByteArray) (a n : Int) (h : rbOk s a n = true) : ∃ b m : Nat, a = b ∧ n = m ∧ m ≤ 32 ∧ b + m ≤ 8 * s.size := by
  simp only [rbOk, Bool.and_eq_true, decide_eq_true_iff, rdOk_true] at h
  obtain ⟨⟨h1, h2⟩, h3, h4, h5⟩ := h
  rw [leftV, if_pos ((rdOk_true s a).2 ⟨h1, h2⟩)] at h5
  exact ⟨a.toNat, n.toNat, by omega, by omega, by omega, by omega⟩
/-- What ReadBits answers: the place, the number, whether there was one. -/
def rbPlace (s : ByteArray) (a n : Int) : Int := if rbOk s a n = true then a + n else a
def rbNum (s : ByteArray) (a n : Int) : Int := if rbOk s a n = true then (rdN s a.toNat n.toNat : Int) else 0
theorem impl_readbits_any (s : ByteArray) (a n : Int) (hs : s.size ≤ 1048576) (w : World) :
    Calls Try.prog 76 #[.agg #[.string s, .int .i64 a], .int .i64 n] w fun e w' => e = .returned (.tuple #[.agg #[.string s, .int .i64 (rbPlace s a n)], .int .i64 (rbNum s a n), .bool (rbOk s a n)]) ∧ Below w.heap.size w w' := by
  cases h : rbOk s a n with
  | true =>
    unfold rbPlace rbNum
    rw [h, if_pos rfl, if_pos rfl]
    obtain ⟨b, m, rfl, rfl, h1, h2⟩ := rbOk_nat s a n h
    exact impl_readbits_in s b m hs h1 h2 w
  | false =>
    unfold rbPlace rbNum
    rw [h, if_neg (by decide), if_neg (by decide)]
    exact impl_readbits_out s a n hs h w
theorem spec_readbits_any (s : ByteArray) (a n : Int) (hs : s.size ≤ 1048576) (w : World) :
    Calls Try.prog 50 #[.agg #[.string s, .int .i64 a], .int .i64 n] w fun e w' => e = .returned (.tuple #[.agg #[.string s, .int .i64 (rbPlace s a n)], .int .i64 (rbNum s a n), .bool (rbOk s a n)]) ∧ Below w.heap.size w w' := by
  cases h : rbOk s a n with
  | true =>
    unfold rbPlace rbNum
    rw [h, if_pos rfl, if_pos rfl]
    obtain ⟨b, m, rfl, rfl, h1, h2⟩ := rbOk_nat s a n h
    exact spec_readbits_in s b m hs h1 h2 w
  | false =>
    unfold rbPlace rbNum
    rw [h, if_neg (by decide), if_neg (by decide)]
    exact spec_readbits_out s a n hs h w
end Go.Proofs.Ythiplncceglnhaa
