/-
  Contracts of the bit reader's functions, in both texts. Condition: the string is no longer than 1048576 bytes (the laws ask no more).
  Contracts of ReadBits, in both texts. Condition: the string is no longer than 1048576 bytes (the laws ask no more).
  Contracts of ZerosAhead, in both texts. Condition: the string is no longer than 1048576 bytes (the laws ask no more).
  The walks of the exact laws of the bit reader. No condition.
  Contracts of StopOk, in both texts, and the walk of its exact law. Condition: the string is no longer than 1048576 bytes (the law asks no more).
  Contracts of LevelOf, NumOfLevel and ErWord, in both texts, and the walks of their laws. Condition: the numbers are ints.
-/
import Derived.Test.YtgacldhpohnpaaaRows
import Derived.Test.YtgacldhpohnpaaaBase
namespace Go.Proofs.Ytgacldhpohnpaaa
open Go.RowKit
set_option linter.unusedVariables false

/-- What ReaderOk answers. -/
def rdOk (s : ByteArray) (a : Int) : Bool := decide (0 ≤ a) && decide (a ≤ 8 * (s.size : Int))
/-- What Left answers. -/
def leftV (s : ByteArray) (a : Int) : Int := if rdOk s a = true then 8 * (s.size : Int) - a else 0
theorem rdOk_true (s : ByteArray) (a : Int) : rdOk s a = true ↔ 0 ≤ a ∧ a ≤ 8 * (s.size : Int) := by simp [rdOk]
theorem rdOk_false (s : ByteArray) (a : Int) : rdOk s a = false ↔ a < 0 ∨ 8 * (s.size : Int) < a := by simp [rdOk]; omega

theorem heap_lt {w : World} {g : Nat} {o : Obj} (h : w.heap[g]? = some o) : g < w.heap.size := by
  by_cases hn : g < w.heap.size
  · exact hn
  · rw [Array.getElem?_eq_none (by omega)] at h; cases h
/-- A block made by the call, behind a call that wrote behind it: its cells. -/
theorem cell_kept {w w' : World} {g : Nat} {cs : Array Value} {T : TypeId} {fr : Nat × Nat} (h : w.heap[g]? = some (.cells cs T fr)) (hb : Below w.heap.size w w') : w'.heap[g]? = some (.cells cs T fr) := by
  by_cases hn : g < w.heap.size
  · rw [hb.block g hn]; exact h
  · rw [Array.getElem?_eq_none (by omega)] at h; cases h

/-- The cells of a value of two cells that the call has boxed, behind a call. -/
theorem box2_kept {w w' : World} {u v : Value} {T : TypeId} (hb : Below (w.alloc (.cells #[u, v] T)).heap.size (w.alloc (.cells #[u, v] T)) w') : w'.cell? ⟨w.heap.size, 0, none⟩ = some u ∧ w'.cell? ⟨w.heap.size, 1, none⟩ = some v := by
  have h := cell_kept (heap_alloc_new w _) hb
  exact ⟨cell_of_row _ _ 0 _ _ _ h, cell_of_row _ _ 1 _ _ _ h⟩
theorem below_new (w : World) (o : Obj) : Below w.heap.size w (w.alloc o) := (Below.refl _ _).alloc (Nat.le_refl _) o

set_option maxRecDepth 100000 in
set_option maxHeartbeats 400000 in
theorem impl_readerok_any (s : ByteArray) (a : Int) (hs : s.size ≤ 1048576) (w : World) :
    Calls Try.prog 109 #[.agg #[.string s, .int .i64 a]] w fun e w' => e = .returned (.bool (rdOk s a)) ∧ Below w.heap.size w w' := by
  by_cases h0 : 0 ≤ a
  · have hge : decide (0 ≤ a) = true := by simpa using h0
    have hr : decide (a ≤ 8 * (s.size : Int)) = rdOk s a := by simp [rdOk, h0]
    have HR := Lib.hid hr; clear hr
    go_enter Try.func109, Try.ntmps109
    go_wp2
    go_ret
    exact ⟨by rw [HR.out]; rfl, below_new _ _⟩
  · have hge : decide (0 ≤ a) = false := by simpa using h0
    have hr : rdOk s a = false := by rw [rdOk_false]; omega
    have HR := Lib.hid hr; clear hr
    go_enter Try.func109, Try.ntmps109
    go_wp2
    go_ret
    exact ⟨by rw [HR.out]; rfl, below_new _ _⟩

set_option maxRecDepth 100000 in
set_option maxHeartbeats 400000 in
theorem l1In_any (x l h : Int) (w : World) :
    Calls Try.prog 73 #[.int .i64 x, .int .i64 l, .int .i64 h] w fun e w' => e = .returned (.bool ((decide (l ≤ x) && decide (x ≤ h)))) ∧ w = w' := by
  by_cases h0 : l ≤ x
  · have hge : decide (l ≤ x) = true := by simpa using h0
    have hr : decide (x ≤ h) = (decide (l ≤ x) && decide (x ≤ h)) := by simp [h0]
    rw [← hr]; clear hr
    go_enter Try.func73, Try.ntmps73
    go_wp2
    go_ret
    exact ⟨rfl, rfl⟩
  · have hge : decide (l ≤ x) = false := by simpa using h0
    have hr : (decide (l ≤ x) && decide (x ≤ h)) = false := by simp [h0]
    rw [hr]; clear hr
    go_enter Try.func73, Try.ntmps73
    go_wp2
    go_ret
    exact ⟨rfl, rfl⟩

set_option maxRecDepth 100000 in
set_option maxHeartbeats 400000 in
theorem spec_readerok_any (s : ByteArray) (a : Int) (hs : s.size ≤ 1048576) (w : World) :
    Calls Try.prog 35 #[.agg #[.string s, .int .i64 a]] w fun e w' => e = .returned (.bool (rdOk s a)) ∧ Below w.heap.size w w' := by
  have HC := Lib.hid (l1In_any a 0 (8 * (s.size : Int)))
  go_enter Try.func35, Try.ntmps35
  go_wp2_with fail
  refine (HC.out _).mono ?_
  rintro e w' ⟨rfl, rfl⟩
  go_wp2
  go_ret
  exact ⟨rfl, below_new _ _⟩

set_option maxRecDepth 100000 in
set_option maxHeartbeats 400000 in
theorem impl_left_any (s : ByteArray) (a : Int) (hs : s.size ≤ 1048576) (w : World) :
    Calls Try.prog 110 #[.agg #[.string s, .int .i64 a]] w fun e w' => e = .returned (.int .i64 (leftV s a)) ∧ Below w.heap.size w w' := by
  have HC := Lib.hid (impl_readerok_any s a hs)
  cases hok : rdOk s a with
  | true =>
    rw [hok] at HC
    have hl : leftV s a = 8 * (s.size : Int) - a := by rw [leftV, if_pos hok]
    rw [hl]
    obtain ⟨h0, h1⟩ := (rdOk_true s a).1 hok
    clear hl hok
    go_enter Try.func110, Try.ntmps110
    go_wp2_with fail
    refine (HC.out _).mono ?_
    rintro e w1 ⟨rfl, hb⟩
    obtain ⟨c0, c1⟩ := box2_kept hb
    have B := Lib.hid (below_step (below_new w _) hb); clear hb
    go_wp2
    go_ret
    exact ⟨rfl, B.out⟩
  | false =>
    rw [hok] at HC
    have hl : leftV s a = 0 := by rw [leftV, hok]; rfl
    rw [hl]
    clear hl hok
    go_enter Try.func110, Try.ntmps110
    go_wp2_with fail
    refine (HC.out _).mono ?_
    rintro e w1 ⟨rfl, hb⟩
    have B := Lib.hid (below_step (below_new w _) hb); clear hb
    go_wp2
    go_ret
    exact ⟨rfl, B.out⟩
set_option maxRecDepth 100000 in
set_option maxHeartbeats 400000 in
theorem spec_left_any (s : ByteArray) (a : Int) (hs : s.size ≤ 1048576) (w : World) :
    Calls Try.prog 106 #[.agg #[.string s, .int .i64 a]] w fun e w' => e = .returned (.int .i64 (leftV s a)) ∧ Below w.heap.size w w' := by
  have HC := Lib.hid (spec_readerok_any s a hs)
  cases hok : rdOk s a with
  | true =>
    rw [hok] at HC
    have hl : leftV s a = 8 * (s.size : Int) - a := by rw [leftV, if_pos hok]
    rw [hl]
    obtain ⟨h0, h1⟩ := (rdOk_true s a).1 hok
    clear hl hok
    go_enter Try.func106, Try.ntmps106
    go_wp2_with fail
    refine (HC.out _).mono ?_
    rintro e w1 ⟨rfl, hb⟩
    obtain ⟨c0, c1⟩ := box2_kept hb
    have B := Lib.hid (below_step (below_new w _) hb); clear hb
    go_wp2
    go_ret
    exact ⟨rfl, B.out⟩
  | false =>
    rw [hok] at HC
    have hl : leftV s a = 0 := by rw [leftV, hok]; rfl
    rw [hl]
    clear hl hok
    go_enter Try.func106, Try.ntmps106
    go_wp2_with fail
    refine (HC.out _).mono ?_
    rintro e w1 ⟨rfl, hb⟩
    have B := Lib.hid (below_step (below_new w _) hb); clear hb
    go_wp2
    go_ret
    exact ⟨rfl, B.out⟩
end Go.Proofs.Ytgacldhpohnpaaa

namespace Go.Proofs.Ytgacldhpohnpaaa
open Go.RowKit
set_option linter.unusedVariables false

/-- The number of `k` bits from bit `a` on. -/
def rdN (s : ByteArray) (a : Nat) : Nat → Nat
  | 0 => 0
  | k + 1 => 2 * rdN s a k + bitN s (a + k)
theorem rdN_lt (s : ByteArray) (a k : Nat) : rdN s a k < 2 ^ k := by
  induction k with
  | zero => simp [rdN]
  | succ k ih =>
    have := bitN_lt s (a + k)
    rw [rdN, Nat.pow_succ]
    omega
/-- Are there `n` bits to read? -/
def rbOk (s : ByteArray) (a n : Int) : Bool := rdOk s a && (decide (0 ≤ n) && (decide (n ≤ 32) && decide (n ≤ leftV s a)))

/-- Two blocks of two cells that the call has made, behind a call. -/
theorem box22_kept {w w' : World} {u v x y : Value} {T U : TypeId} (hb : Below ((w.alloc (.cells #[u, v] T)).alloc (.cells #[x, y] U)).heap.size ((w.alloc (.cells #[u, v] T)).alloc (.cells #[x, y] U)) w') :
    w'.heap[w.heap.size]? = some (.cells #[u, v] T (0, 0)) ∧ w'.heap[w.heap.size + 1]? = some (.cells #[x, y] U (0, 0)) := by
  have h1 : ((w.alloc (.cells #[u, v] T)).alloc (.cells #[x, y] U)).heap[w.heap.size]? = some (.cells #[u, v] T (0, 0)) := by
    rw [Below.heap_alloc _ _ _ (by simp)]; exact heap_alloc_new w _
  have h2 : ((w.alloc (.cells #[u, v] T)).alloc (.cells #[x, y] U)).heap[w.heap.size + 1]? = some (.cells #[x, y] U (0, 0)) := by
    have := heap_alloc_new (w.alloc (.cells #[u, v] T)) (.cells #[x, y] U)
    simpa using this
  exact ⟨cell_kept h1 hb, cell_kept h2 hb⟩
theorem cells2 {w : World} {g : Nat} {u v : Value} {T : TypeId} {fr : Nat × Nat} (h : w.heap[g]? = some (.cells #[u, v] T fr)) : w.cell? ⟨g, 0, none⟩ = some u ∧ w.cell? ⟨g, 1, none⟩ = some v :=
  ⟨cell_of_row _ _ 0 _ _ _ h, cell_of_row _ _ 1 _ _ _ h⟩

/-- Both cells of a block written. -/
theorem block_set2 {w : World} {g : Nat} {u v : Value} {T : TypeId} (h : w.heap[g]? = some (.cells #[u, v] T (0, 0))) (x y : Value) :
    ((w.setCell ⟨g, 0, none⟩ x).setCell ⟨g, 1, none⟩ y).heap[g]? = some (.cells #[x, y] T (0, 0)) := by
  rw [heap_setCell_same _ g 1 _ _ _ (heap_setCell_same w g 0 _ _ _ h)]
  rfl
theorem below_set2 {w w' : World} (h : Below w.heap.size w w') (g : Nat) (hg : w.heap.size ≤ g) (x y : Value) : Below w.heap.size w ((w'.setCell ⟨g, 0, none⟩ x).setCell ⟨g, 1, none⟩ y) :=
  Below.setCell (Below.setCell h (p := ⟨g, 0, none⟩) hg x) (p := ⟨g, 1, none⟩) hg y

set_option maxRecDepth 100000 in
set_option maxHeartbeats 400000 in
theorem impl_readbits_in (s : ByteArray) (a n : Nat) (hs : s.size ≤ 1048576) (hn : n ≤ 32) (ha : a + n ≤ 8 * s.size) (w : World) :
    Calls Try.prog 85 #[.agg #[.string s, .int .i64 a], .int .i64 n] w fun e w' => e = .returned (.tuple #[.agg #[.string s, .int .i64 ((a + n : Nat) : Int)], .int .i64 (rdN s a n), .bool true]) ∧ Below w.heap.size w w' := by
  have HO := Lib.hid (impl_readerok_any s a hs)
  have HL := Lib.hid (impl_left_any s a hs)
  have hok : rdOk s (a : Int) = true := by rw [rdOk_true]; omega
  have hle : leftV s (a : Int) = 8 * (s.size : Int) - a := by rw [leftV, if_pos hok]
  rw [hok] at HO
  rw [hle] at HL
  clear hok hle
  have q1 : decide ((n : Int) < 0) = false := by simp
  have q2 : decide ((32 : Int) < (n : Int)) = false := by simp; omega
  have q3 : decide (8 * (s.size : Int) - (a : Int) < (n : Int)) = false := by simp; omega
  go_enter Try.func85, Try.ntmps85
  go_wp2_with fail
  refine (HO.out _).mono ?_
  rintro e w1 ⟨rfl, hb1⟩
  obtain ⟨k0, k1⟩ := box22_kept hb1
  obtain ⟨c0, c1⟩ := cells2 k0
  have B1 := Lib.hid (below_step ((below_new w _).alloc (below_new w _).size _) hb1); clear hb1
  have K0 := Lib.hid k0; have K1 := Lib.hid k1; clear k0 k1
  go_wp2_with fail
  refine (HL.out _).mono ?_
  rintro e w2 ⟨rfl, hb2⟩
  clear c0 c1
  have k0 := cell_kept K0.out hb2
  have k1 := cell_kept K1.out hb2
  obtain ⟨c0, c1⟩ := cells2 k0
  have B2 := Lib.hid (below_step B1.out hb2); clear hb2
  have L0 := Lib.hid k0; have L1 := Lib.hid k1; clear k0 k1
  go_wp2
  go_loop [7, 28] (fun v i => ∃ k : Nat, k ≤ n ∧ i = .int .i64 k ∧ v = .int .i64 (rdN s a k)) (fun _ i => n - (intOf i).toNat)
  case atStart => exact ⟨0, Nat.zero_le _, rfl, rfl⟩
  case round =>
    obtain ⟨k, hk, rfl, rfl⟩ := hrel
    by_cases hlt : k < n
    · have HB := Lib.hid (impl_bitat_in s (a + k) hs (by omega))
      simp only [Int.natCast_add] at HB
      have hv := rdN_lt s a k
      have hv2 : rdN s a k < 2147483648 := Nat.lt_of_lt_of_le hv (Nat.pow_le_pow_right (by decide) (show k ≤ 31 by omega))
      have hb := bitN_lt s (a + k)
      have hs1 : rdN s a (k + 1) = 2 * rdN s a k + bitN s (a + k) := rfl
      obtain ⟨v, hvd⟩ : ∃ v, v = rdN s a k := ⟨_, rfl⟩
      obtain ⟨b, hbd⟩ : ∃ b, b = bitN s (a + k) := ⟨_, rfl⟩
      rw [← hvd, ← hbd] at hs1
      rw [← hbd] at HB hb
      rw [← hvd] at hv2 ⊢
      have HS := Lib.hid hs1
      clear hs1 hv hvd hbd
      have hor : bits .or .i64 ((v : Int) * 2) (b : Int) = ((2 * v + b : Nat) : Int) := by
        rw [or_i64 1 _ _ (by omega) (by omega) (by omega) (by omega) (by omega) (by decide)]
        omega
      go_wp2_with fail
      refine (HB.out _).mono ?_
      rintro e w' ⟨rfl, rfl⟩
      go_wp2
      go_round
      case rel => exact ⟨k + 1, by omega, by go_num, by rw [HS.out]; congr 1⟩
      case measure => simp [intOf]; omega
    · obtain rfl : k = n := by omega
      clear hlt hk
      obtain ⟨c0, c1⟩ := cells2 L0.out
      obtain ⟨d0, d1⟩ := cells2 L1.out
      have f1 := frozen_of_row w2 _ 0 _ _ L1.out
      have f2 := frozen_of_row w2 _ 1 _ _ L1.out
      go_wp2
      have hout := block_set2 L1.out (.string s) (.int .i64 ((a : Int) + k))
      have B3 := below_set2 B2.out (w.heap.size + 1) (Nat.le_succ _) (.string s) (.int .i64 ((a : Int) + k))
      obtain ⟨e0, e1⟩ := cells2 hout
      exact bodyPost_ret (v := .tuple #[.agg #[.string s, .int .i64 ((a : Int) + k)], .int .i64 (rdN s a k), .bool true]) (by simp [results, Try.results85, go_sem, e0, e1]) rfl ⟨rfl, B3⟩

/-- The ways in which there is nothing to read. -/
theorem rbOk_ways (s : ByteArray) (a n : Int) (h : rbOk s a n = false) : rdOk s a = false ∨ (rdOk s a = true ∧ n < 0) ∨ (rdOk s a = true ∧ 0 ≤ n ∧ 32 < n) ∨ (rdOk s a = true ∧ 0 ≤ n ∧ n ≤ 32 ∧ leftV s a < n) := by
  cases hk : rdOk s a with
  | false => exact .inl rfl
  | true =>
    simp only [rbOk, hk, Bool.true_and, Bool.and_eq_false_iff, decide_eq_false_iff_not] at h
    by_cases h1 : n < 0
    · exact .inr (.inl ⟨rfl, h1⟩)
    · by_cases h2 : 32 < n
      · exact .inr (.inr (.inl ⟨rfl, by omega, h2⟩))
      · exact .inr (.inr (.inr ⟨rfl, by omega, by omega, by omega⟩))

/-- The end of a call that answers its reader, zero and false: the reader's copy in the result's block. -/
theorem copy_out {w w2 : World} {T : TypeId} {u v : Value} (s : ByteArray) (a : Int) (h : w2.heap[w.heap.size + 1]? = some (.cells #[u, v] T (0, 0))) (hb : Below w.heap.size w w2) : ∃ w3, w3 = (w2.setCell ⟨w.heap.size + 1, 0, none⟩ (.string s)).setCell ⟨w.heap.size + 1, 1, none⟩ (.int .i64 a) ∧
      w3.cell? ⟨w.heap.size + 1, 0, none⟩ = some (.string s) ∧ w3.cell? ⟨w.heap.size + 1, 1, none⟩ = some (.int .i64 a) ∧ Below w.heap.size w w3 :=
  ⟨_, rfl, (cells2 (block_set2 h _ _)).1, (cells2 (block_set2 h _ _)).2, below_set2 hb (w.heap.size + 1) (Nat.le_succ _) _ _⟩

set_option maxRecDepth 100000 in
set_option maxHeartbeats 400000 in
theorem impl_readbits_out3 (s : ByteArray) (a n : Int) (hs : s.size ≤ 1048576) (hno : rdOk s a = false ∨ (rdOk s a = true ∧ n < 0) ∨ (rdOk s a = true ∧ 0 ≤ n ∧ 32 < n)) (w : World) :
    Calls Try.prog 85 #[.agg #[.string s, .int .i64 a], .int .i64 n] w fun e w' => e = .returned (.tuple #[.agg #[.string s, .int .i64 a], .int .i64 0, .bool false]) ∧ Below w.heap.size w w' := by
  have HO := Lib.hid (impl_readerok_any s a hs)
  rcases hno with hk | ⟨hk, h1⟩ | ⟨hk, h1, h2⟩
  case' inr.inl => have q1 : decide (n < 0) = true := by simpa using h1
  case' inr.inr =>
    have q1 : decide (n < 0) = false := by simpa using h1
    have q2 : decide ((32 : Int) < n) = true := by simpa using h2
  all_goals
    rw [hk] at HO
    clear hk
    go_enter Try.func85, Try.ntmps85
    go_wp2_with fail
    refine (HO.out _).mono ?_
    rintro e w1 ⟨rfl, hb1⟩
    obtain ⟨k0, k1⟩ := box22_kept hb1
    obtain ⟨c0, c1⟩ := cells2 k0
    have f1 := frozen_of_row w1 _ 0 _ _ k1
    have f2 := frozen_of_row w1 _ 1 _ _ k1
    obtain ⟨d0, d1⟩ := cells2 k1
    obtain ⟨w3, hw3, e0, e1, hb3⟩ := copy_out s a k1 (below_step ((below_new w _).alloc (below_new w _).size _) hb1)
    have HW := Lib.hid hw3; have HB := Lib.hid hb3; have E0 := Lib.hid e0; have E1 := Lib.hid e1
    clear hw3 hb3 e0 e1 hb1 k0 k1
    go_wp2
    rw [← HW.out]
    have e0 := E0.out; have e1 := E1.out
    exact bodyPost_ret (v := .tuple #[.agg #[.string s, .int .i64 a], .int .i64 0, .bool false]) (by simp [results, Try.results85, go_sem, e0, e1]) rfl ⟨rfl, HB.out⟩

set_option maxRecDepth 100000 in
set_option maxHeartbeats 400000 in
theorem impl_readbits_out4 (s : ByteArray) (a n : Int) (hs : s.size ≤ 1048576) (hk : rdOk s a = true) (h1 : 0 ≤ n) (h2 : n ≤ 32) (h3 : leftV s a < n) (w : World) :
    Calls Try.prog 85 #[.agg #[.string s, .int .i64 a], .int .i64 n] w fun e w' => e = .returned (.tuple #[.agg #[.string s, .int .i64 a], .int .i64 0, .bool false]) ∧ Below w.heap.size w w' := by
  have HO := Lib.hid (impl_readerok_any s a hs)
  have HL := Lib.hid (impl_left_any s a hs)
  have q1 : decide (n < 0) = false := by simpa using h1
  have q2 : decide ((32 : Int) < n) = false := by simpa using h2
  have q3 : decide (leftV s a < n) = true := by simpa using h3
  obtain ⟨lv, hlv⟩ : ∃ lv, lv = leftV s a := ⟨_, rfl⟩
  rw [← hlv] at HL q3 h3
  rw [hk] at HO
  clear hlv hk
  go_enter Try.func85, Try.ntmps85
  go_wp2_with fail
  refine (HO.out _).mono ?_
  rintro e w1 ⟨rfl, hb1⟩
  obtain ⟨k0, k1⟩ := box22_kept hb1
  obtain ⟨c0, c1⟩ := cells2 k0
  have B1 := Lib.hid (below_step ((below_new w _).alloc (below_new w _).size _) hb1); clear hb1
  have K0 := Lib.hid k0; have K1 := Lib.hid k1; clear k0 k1
  go_wp2_with fail
  refine (HL.out _).mono ?_
  rintro e w2 ⟨rfl, hb2⟩
  clear c0 c1
  have k0 := cell_kept K0.out hb2
  have k1 := cell_kept K1.out hb2
  obtain ⟨c0, c1⟩ := cells2 k0
  have f1 := frozen_of_row w2 _ 0 _ _ k1
  have f2 := frozen_of_row w2 _ 1 _ _ k1
  obtain ⟨d0, d1⟩ := cells2 k1
  obtain ⟨w3, hw3, e0, e1, hb3⟩ := copy_out s a k1 (below_step B1.out hb2)
  have HW := Lib.hid hw3; have HB := Lib.hid hb3; have E0 := Lib.hid e0; have E1 := Lib.hid e1
  clear hw3 hb3 e0 e1 hb2 k0 k1
  go_wp2
  rw [← HW.out]
  have e0 := E0.out; have e1 := E1.out
  exact bodyPost_ret (v := .tuple #[.agg #[.string s, .int .i64 a], .int .i64 0, .bool false]) (by simp [results, Try.results85, go_sem, e0, e1]) rfl ⟨rfl, HB.out⟩

theorem impl_readbits_out (s : ByteArray) (a n : Int) (hs : s.size ≤ 1048576) (hno : rbOk s a n = false) (w : World) :
    Calls Try.prog 85 #[.agg #[.string s, .int .i64 a], .int .i64 n] w fun e w' => e = .returned (.tuple #[.agg #[.string s, .int .i64 a], .int .i64 0, .bool false]) ∧ Below w.heap.size w w' := by
  rcases rbOk_ways s a n hno with hk | ⟨hk, h1⟩ | ⟨hk, h1, h2⟩ | ⟨hk, h1, h2, h3⟩
  · exact impl_readbits_out3 s a n hs (.inl hk) w
  · exact impl_readbits_out3 s a n hs (.inr (.inl ⟨hk, h1⟩)) w
  · exact impl_readbits_out3 s a n hs (.inr (.inr ⟨hk, h1, h2⟩)) w
  · exact impl_readbits_out4 s a n hs hk h1 h2 h3 w

set_option maxRecDepth 100000 in
set_option maxHeartbeats 400000 in
theorem spec_readbits_out3 (s : ByteArray) (a n : Int) (hs : s.size ≤ 1048576) (hno : rdOk s a = false ∨ (rdOk s a = true ∧ n < 0) ∨ (rdOk s a = true ∧ 0 ≤ n ∧ 32 < n)) (w : World) :
    Calls Try.prog 79 #[.agg #[.string s, .int .i64 a], .int .i64 n] w fun e w' => e = .returned (.tuple #[.agg #[.string s, .int .i64 a], .int .i64 0, .bool false]) ∧ Below w.heap.size w w' := by
  have HO := Lib.hid (spec_readerok_any s a hs)
  have HI := Lib.hid (l1In_any n 0 32)
  rcases hno with hk | ⟨hk, h1⟩ | ⟨hk, h1, h2⟩
  case' inr.inl => have q1 : decide (0 ≤ n) = false := by simpa using h1
  case' inr.inr =>
    have q1 : decide (0 ≤ n) = true := by simpa using h1
    have q2 : decide (n ≤ (32 : Int)) = false := by simpa using h2
  all_goals
    rw [hk] at HO
    clear hk
    go_enter Try.func79, Try.ntmps79
    go_wp2_with fail
    refine (HO.out _).mono ?_
    rintro e w1 ⟨rfl, hb1⟩
    obtain ⟨k0, k1⟩ := box22_kept hb1
    obtain ⟨c0, c1⟩ := cells2 k0
    have f1 := frozen_of_row w1 _ 0 _ _ k1
    have f2 := frozen_of_row w1 _ 1 _ _ k1
    obtain ⟨d0, d1⟩ := cells2 k1
    obtain ⟨w3, hw3, e0, e1, hb3⟩ := copy_out s a k1 (below_step ((below_new w _).alloc (below_new w _).size _) hb1)
    have HW := Lib.hid hw3; have HB := Lib.hid hb3; have E0 := Lib.hid e0; have E1 := Lib.hid e1
    clear hw3 hb3 e0 e1 hb1 k0 k1
    go_wp2_with (refine (HI.out _).mono ?_; rintro e w' ⟨rfl, rfl⟩)
    rw [← HW.out]
    have e0 := E0.out; have e1 := E1.out
    exact bodyPost_ret (v := .tuple #[.agg #[.string s, .int .i64 a], .int .i64 0, .bool false]) (by simp [results, Try.results79, go_sem, e0, e1]) rfl ⟨rfl, HB.out⟩

set_option maxRecDepth 100000 in
set_option maxHeartbeats 400000 in
theorem spec_readbits_out4 (s : ByteArray) (a n : Int) (hs : s.size ≤ 1048576) (hk : rdOk s a = true) (h1 : 0 ≤ n) (h2 : n ≤ 32) (h3 : leftV s a < n) (w : World) :
    Calls Try.prog 79 #[.agg #[.string s, .int .i64 a], .int .i64 n] w fun e w' => e = .returned (.tuple #[.agg #[.string s, .int .i64 a], .int .i64 0, .bool false]) ∧ Below w.heap.size w w' := by
  have HO := Lib.hid (spec_readerok_any s a hs)
  have HL := Lib.hid (spec_left_any s a hs)
  have HI := Lib.hid (l1In_any n 0 32)
  have q1 : decide (0 ≤ n) = true := by simpa using h1
  have q2 : decide (n ≤ (32 : Int)) = true := by simpa using h2
  have q3 : decide (leftV s a < n) = true := by simpa using h3
  obtain ⟨lv, hlv⟩ : ∃ lv, lv = leftV s a := ⟨_, rfl⟩
  rw [← hlv] at HL q3 h3
  rw [hk] at HO
  clear hlv hk
  go_enter Try.func79, Try.ntmps79
  go_wp2_with fail
  refine (HO.out _).mono ?_
  rintro e w1 ⟨rfl, hb1⟩
  obtain ⟨k0, k1⟩ := box22_kept hb1
  obtain ⟨c0, c1⟩ := cells2 k0
  have B1 := Lib.hid (below_step ((below_new w _).alloc (below_new w _).size _) hb1); clear hb1
  have K0 := Lib.hid k0; have K1 := Lib.hid k1; clear k0 k1
  go_wp2_with fail
  refine (HI.out _).mono ?_
  rintro e w' ⟨rfl, rfl⟩
  go_wp2_with fail
  refine (HL.out _).mono ?_
  rintro e w2 ⟨rfl, hb2⟩
  clear c0 c1
  have k0 := cell_kept K0.out hb2
  have k1 := cell_kept K1.out hb2
  obtain ⟨c0, c1⟩ := cells2 k0
  have f1 := frozen_of_row w2 _ 0 _ _ k1
  have f2 := frozen_of_row w2 _ 1 _ _ k1
  obtain ⟨d0, d1⟩ := cells2 k1
  obtain ⟨w3, hw3, e0, e1, hb3⟩ := copy_out s a k1 (below_step B1.out hb2)
  have HW := Lib.hid hw3; have HB := Lib.hid hb3; have E0 := Lib.hid e0; have E1 := Lib.hid e1
  clear hw3 hb3 e0 e1 hb2 k0 k1
  go_wp2
  rw [← HW.out]
  have e0 := E0.out; have e1 := E1.out
  exact bodyPost_ret (v := .tuple #[.agg #[.string s, .int .i64 a], .int .i64 0, .bool false]) (by simp [results, Try.results79, go_sem, e0, e1]) rfl ⟨rfl, HB.out⟩

theorem spec_readbits_out (s : ByteArray) (a n : Int) (hs : s.size ≤ 1048576) (hno : rbOk s a n = false) (w : World) :
    Calls Try.prog 79 #[.agg #[.string s, .int .i64 a], .int .i64 n] w fun e w' => e = .returned (.tuple #[.agg #[.string s, .int .i64 a], .int .i64 0, .bool false]) ∧ Below w.heap.size w w' := by
  rcases rbOk_ways s a n hno with hk | ⟨hk, h1⟩ | ⟨hk, h1, h2⟩ | ⟨hk, h1, h2, h3⟩
  · exact spec_readbits_out3 s a n hs (.inl hk) w
  · exact spec_readbits_out3 s a n hs (.inr (.inl ⟨hk, h1⟩)) w
  · exact spec_readbits_out3 s a n hs (.inr (.inr ⟨hk, h1, h2⟩)) w
  · exact spec_readbits_out4 s a n hs hk h1 h2 h3 w

set_option maxRecDepth 100000 in
set_option maxHeartbeats 400000 in
theorem spec_readbits_in (s : ByteArray) (a n : Nat) (hs : s.size ≤ 1048576) (hn : n ≤ 32) (ha : a + n ≤ 8 * s.size) (w : World) :
    Calls Try.prog 79 #[.agg #[.string s, .int .i64 a], .int .i64 n] w fun e w' => e = .returned (.tuple #[.agg #[.string s, .int .i64 ((a + n : Nat) : Int)], .int .i64 (rdN s a n), .bool true]) ∧ Below w.heap.size w w' := by
  have HO := Lib.hid (spec_readerok_any s a hs)
  have HL := Lib.hid (spec_left_any s a hs)
  have hok : rdOk s (a : Int) = true := by rw [rdOk_true]; omega
  have hle : leftV s (a : Int) = 8 * (s.size : Int) - a := by rw [leftV, if_pos hok]
  have HI := Lib.hid (l1In_any (n : Int) 0 32)
  have q1 : decide (0 ≤ (n : Int)) = true := by simp
  have q2 : decide ((n : Int) ≤ 32) = true := by simp; omega
  rw [q1, q2] at HI
  rw [hok] at HO
  rw [hle] at HL
  clear hok hle q1 q2
  have q3 : decide (8 * (s.size : Int) - (a : Int) < (n : Int)) = false := by simp; omega
  go_enter Try.func79, Try.ntmps79
  go_wp2_with fail
  refine (HO.out _).mono ?_
  rintro e w1 ⟨rfl, hb1⟩
  obtain ⟨k0, k1⟩ := box22_kept hb1
  obtain ⟨c0, c1⟩ := cells2 k0
  have B1 := Lib.hid (below_step ((below_new w _).alloc (below_new w _).size _) hb1); clear hb1
  have K0 := Lib.hid k0; have K1 := Lib.hid k1; clear k0 k1
  go_wp2_with fail
  refine (HI.out _).mono ?_
  rintro e w' ⟨rfl, rfl⟩
  go_wp2_with fail
  refine (HL.out _).mono ?_
  rintro e w2 ⟨rfl, hb2⟩
  clear c0 c1
  have k0 := cell_kept K0.out hb2
  have k1 := cell_kept K1.out hb2
  obtain ⟨c0, c1⟩ := cells2 k0
  have B2 := Lib.hid (below_step B1.out hb2); clear hb2
  have L0 := Lib.hid k0; have L1 := Lib.hid k1; clear k0 k1
  go_wp2
  go_loop [7, 8] (fun v i => ∃ k : Nat, k ≤ n ∧ i = .int .i64 k ∧ v = .int .i64 (rdN s a k)) (fun _ i => n - (intOf i).toNat)
  case atStart => exact ⟨0, Nat.zero_le _, rfl, rfl⟩
  case round =>
    obtain ⟨k, hk, rfl, rfl⟩ := hrel
    by_cases hlt : k < n
    · have HB := Lib.hid (spec_bitat_in s (a + k) hs (by omega))
      simp only [Int.natCast_add] at HB
      have hv := rdN_lt s a k
      have hv2 : rdN s a k < 2147483648 := Nat.lt_of_lt_of_le hv (Nat.pow_le_pow_right (by decide) (show k ≤ 31 by omega))
      have hb := bitN_lt s (a + k)
      have hs1 : rdN s a (k + 1) = 2 * rdN s a k + bitN s (a + k) := rfl
      obtain ⟨v, hvd⟩ : ∃ v, v = rdN s a k := ⟨_, rfl⟩
      obtain ⟨b, hbd⟩ : ∃ b, b = bitN s (a + k) := ⟨_, rfl⟩
      rw [← hvd, ← hbd] at hs1
      rw [← hbd] at HB hb
      rw [← hvd] at hv2 ⊢
      have HS := Lib.hid hs1
      clear hs1 hv hvd hbd
      go_wp2_with fail
      refine (HB.out _).mono ?_
      rintro e w' ⟨rfl, rfl⟩
      go_wp2
      go_round
      case rel => exact ⟨k + 1, by omega, by go_num, by rw [HS.out]; congr 1; omega⟩
      case measure => simp [intOf]; omega
    · obtain rfl : k = n := by omega
      clear hlt hk
      obtain ⟨c0, c1⟩ := cells2 L0.out
      obtain ⟨d0, d1⟩ := cells2 L1.out
      have f1 := frozen_of_row w2 _ 0 _ _ L1.out
      have f2 := frozen_of_row w2 _ 1 _ _ L1.out
      have f3 := frozen_of_row w2 _ 1 _ _ L0.out
      go_wp2
      have hin : (w2.setCell ⟨w.heap.size, 1, none⟩ (.int .i64 ((a : Int) + k))).heap[w.heap.size + 1]? = some (.cells #[.string ⟨#[]⟩, .int .i64 0] 35 (0, 0)) := by
        rw [heap_setCell_other _ _ _ _ (by simp)]; exact L1.out
      have hout := block_set2 hin (.string s) (.int .i64 ((a : Int) + k))
      have B3 := below_set2 (Below.setCell B2.out (p := ⟨w.heap.size, 1, none⟩) (Nat.le_refl _) (.int .i64 ((a : Int) + k))) (w.heap.size + 1) (Nat.le_succ _) (.string s) (.int .i64 ((a : Int) + k))
      obtain ⟨e0, e1⟩ := cells2 hout
      exact bodyPost_ret (v := .tuple #[.agg #[.string s, .int .i64 ((a : Int) + k)], .int .i64 (rdN s a k), .bool true]) (by simp [results, Try.results79, go_sem, e0, e1]) rfl ⟨rfl, B3⟩

theorem rbOk_nat (s : ByteArray) (a n : Int) (h : rbOk s a n = true) : ∃ b m : Nat, a = b ∧ n = m ∧ m ≤ 32 ∧ b + m ≤ 8 * s.size := by
  simp only [rbOk, Bool.and_eq_true, decide_eq_true_iff, rdOk_true] at h
  obtain ⟨⟨h1, h2⟩, h3, h4, h5⟩ := h
  rw [leftV, if_pos ((rdOk_true s a).2 ⟨h1, h2⟩)] at h5
  exact ⟨a.toNat, n.toNat, by omega, by omega, by omega, by omega⟩
/-- What ReadBits answers: the place, the number, whether there was one. -/
def rbPlace (s : ByteArray) (a n : Int) : Int := if rbOk s a n = true then a + n else a
def rbNum (s : ByteArray) (a n : Int) : Int := if rbOk s a n = true then (rdN s a.toNat n.toNat : Int) else 0
theorem impl_readbits_any (s : ByteArray) (a n : Int) (hs : s.size ≤ 1048576) (w : World) :
    Calls Try.prog 85 #[.agg #[.string s, .int .i64 a], .int .i64 n] w fun e w' => e = .returned (.tuple #[.agg #[.string s, .int .i64 (rbPlace s a n)], .int .i64 (rbNum s a n), .bool (rbOk s a n)]) ∧ Below w.heap.size w w' := by
  cases h : rbOk s a n with
  | true =>
    unfold rbPlace rbNum
    rw [h, if_pos rfl, if_pos rfl]
    obtain ⟨b, m, rfl, rfl, h1, h2⟩ := rbOk_nat s a n h
    exact impl_readbits_in s b m hs h1 h2 w
  | false =>
    unfold rbPlace rbNum
    rw [h, if_neg (by decide), if_neg (by decide)]
    exact impl_readbits_out s a n hs h w
theorem spec_readbits_any (s : ByteArray) (a n : Int) (hs : s.size ≤ 1048576) (w : World) :
    Calls Try.prog 79 #[.agg #[.string s, .int .i64 a], .int .i64 n] w fun e w' => e = .returned (.tuple #[.agg #[.string s, .int .i64 (rbPlace s a n)], .int .i64 (rbNum s a n), .bool (rbOk s a n)]) ∧ Below w.heap.size w w' := by
  cases h : rbOk s a n with
  | true =>
    unfold rbPlace rbNum
    rw [h, if_pos rfl, if_pos rfl]
    obtain ⟨b, m, rfl, rfl, h1, h2⟩ := rbOk_nat s a n h
    exact spec_readbits_in s b m hs h1 h2 w
  | false =>
    unfold rbPlace rbNum
    rw [h, if_neg (by decide), if_neg (by decide)]
    exact spec_readbits_out s a n hs h w
end Go.Proofs.Ytgacldhpohnpaaa

namespace Go.Proofs.Ytgacldhpohnpaaa
open Go.RowKit
set_option linter.unusedVariables false

/-- How many 0 bits come from bit `a` on, of `k` bits. -/
def zrun (s : ByteArray) (a : Nat) : Nat → Nat
  | 0 => 0
  | k + 1 => if bitN s a = 0 then zrun s (a + 1) k + 1 else 0
theorem zrun_spec (s : ByteArray) : ∀ (k a : Nat), zrun s a k ≤ k ∧ (∀ j, j < zrun s a k → bitN s (a + j) = 0) ∧ (zrun s a k < k → bitN s (a + zrun s a k) = 1)
  | 0, a => ⟨Nat.le_refl _, fun j hj => absurd hj (Nat.not_lt_zero _), fun h => absurd h (Nat.not_lt_zero _)⟩
  | k + 1, a => by
    obtain ⟨i1, i2, i3⟩ := zrun_spec s k (a + 1)
    by_cases h : bitN s a = 0
    · have e : zrun s a (k + 1) = zrun s (a + 1) k + 1 := by rw [zrun, if_pos h]
      rw [e]
      refine ⟨by omega, fun j hj => ?_, fun hj => ?_⟩
      · cases j with
        | zero => exact h
        | succ j => have := i2 j (by omega); rw [show a + (j + 1) = a + 1 + j by omega]; exact this
      · have := i3 (by omega); rw [show a + (zrun s (a + 1) k + 1) = a + 1 + zrun s (a + 1) k by omega]; exact this
    · have e : zrun s a (k + 1) = 0 := by rw [zrun, if_neg h]
      rw [e]
      have := bitN_lt s a
      exact ⟨by omega, fun j hj => absurd hj (Nat.not_lt_zero _), fun _ => by rw [Nat.add_zero]; omega⟩
/-- What ZerosAhead answers. -/
def zaV (s : ByteArray) (a : Int) : Int := if rdOk s a = true then (zrun s a.toNat (8 * s.size - a.toNat) : Int) else 0

set_option maxRecDepth 100000 in
set_option maxHeartbeats 400000 in
theorem impl_zeros_in (s : ByteArray) (a : Nat) (hs : s.size ≤ 1048576) (ha : a ≤ 8 * s.size) (w : World) :
    Calls Try.prog 119 #[.agg #[.string s, .int .i64 a]] w fun e w' => e = .returned (.int .i64 (zrun s a (8 * s.size - a))) ∧ Below w.heap.size w w' := by
  have HL := Lib.hid (impl_left_any s a hs)
  have hok : rdOk s (a : Int) = true := by rw [rdOk_true]; omega
  obtain ⟨L, hL⟩ : ∃ L, L = 8 * s.size - a := ⟨_, rfl⟩
  have hle : leftV s (a : Int) = (L : Int) := by rw [leftV, if_pos hok]; omega
  rw [hle] at HL
  clear hle hok
  obtain ⟨z1, z2, z3⟩ := zrun_spec s L a
  rw [← hL]
  obtain ⟨z, hz⟩ : ∃ z, z = zrun s a L := ⟨_, rfl⟩
  rw [← hz] at z1 z2 z3 ⊢
  have hLs : a + L ≤ 8 * s.size := by omega
  have Z2 := Lib.hid z2; have Z3 := Lib.hid z3
  clear hz hL z2 z3
  go_enter Try.func119, Try.ntmps119
  go_wp2_with fail
  refine (HL.out _).mono ?_
  rintro e w1 ⟨rfl, hb⟩
  obtain ⟨c0, c1⟩ := box2_kept hb
  have B := Lib.hid (below_step (below_new w _) hb); clear hb
  go_wp2
  go_loop [8] (fun i => ∃ k : Nat, k ≤ z ∧ i = .int .i64 k) (fun i => L - (intOf i).toNat)
  case atStart => exact ⟨0, Nat.zero_le _, rfl⟩
  case round =>
    obtain ⟨k, hk, rfl⟩ := hrel
    by_cases hlt : k < L
    · have HB := Lib.hid (impl_bitat_in s (a + k) hs (by omega))
      simp only [Int.natCast_add] at HB
      by_cases hz : k < z
      · have hbit := Z2.out k hz
        rw [hbit] at HB
        clear hbit
        go_wp2_with fail
        refine (HB.out _).mono ?_
        rintro e w' ⟨rfl, rfl⟩
        go_wp2
        go_round
        case rel => exact ⟨k + 1, by omega, by go_num⟩
        case measure => simp [intOf]; omega
      · obtain rfl : k = z := by omega
        have hbit := Z3.out hlt
        rw [hbit] at HB
        clear hbit
        go_wp2_with fail
        refine (HB.out _).mono ?_
        rintro e w' ⟨rfl, rfl⟩
        go_wp2
        go_ret
        exact ⟨rfl, B.out⟩
    · obtain rfl : k = L := by omega
      obtain rfl : k = z := by omega
      go_wp2
      go_ret
      exact ⟨rfl, B.out⟩

set_option maxRecDepth 100000 in
set_option maxHeartbeats 400000 in
theorem impl_zeros_out (s : ByteArray) (a : Int) (hs : s.size ≤ 1048576) (ha : rdOk s a = false) (w : World) :
    Calls Try.prog 119 #[.agg #[.string s, .int .i64 a]] w fun e w' => e = .returned (.int .i64 0) ∧ Below w.heap.size w w' := by
  have HL := Lib.hid (impl_left_any s a hs)
  have hle : leftV s a = 0 := by rw [leftV, ha]; rfl
  rw [hle] at HL
  clear hle ha
  go_enter Try.func119, Try.ntmps119
  go_wp2_with fail
  refine (HL.out _).mono ?_
  rintro e w1 ⟨rfl, hb⟩
  obtain ⟨c0, c1⟩ := box2_kept hb
  have B := Lib.hid (below_step (below_new w _) hb); clear hb
  go_wp2
  go_loop [8] (fun i => i = .int .i64 0) (fun i => 0)
  case atStart => exact rfl
  case round =>
    obtain rfl := hrel
    go_wp2
    go_ret
    exact ⟨rfl, B.out⟩

set_option maxRecDepth 100000 in
set_option maxHeartbeats 400000 in
theorem spec_zeros_in (s : ByteArray) (a : Nat) (hs : s.size ≤ 1048576) (ha : a ≤ 8 * s.size) (w : World) :
    Calls Try.prog 78 #[.agg #[.string s, .int .i64 a]] w fun e w' => e = .returned (.int .i64 (zrun s a (8 * s.size - a))) ∧ Below w.heap.size w w' := by
  have HL := Lib.hid (spec_left_any s a hs)
  have hok : rdOk s (a : Int) = true := by rw [rdOk_true]; omega
  obtain ⟨L, hL⟩ : ∃ L, L = 8 * s.size - a := ⟨_, rfl⟩
  have hle : leftV s (a : Int) = (L : Int) := by rw [leftV, if_pos hok]; omega
  rw [hle] at HL
  clear hle hok
  obtain ⟨z1, z2, z3⟩ := zrun_spec s L a
  rw [← hL]
  obtain ⟨z, hz⟩ : ∃ z, z = zrun s a L := ⟨_, rfl⟩
  rw [← hz] at z1 z2 z3 ⊢
  have hLs : a + L ≤ 8 * s.size := by omega
  have Z2 := Lib.hid z2; have Z3 := Lib.hid z3
  clear hz hL z2 z3
  go_enter Try.func78, Try.ntmps78
  go_wp2
  go_loopw [3] (fun i wr => ∃ k : Nat, k ≤ z ∧ i = .int .i64 k ∧ wr.heap[w.heap.size]? = some (.cells #[.string s, .int .i64 a] 35 (0, 0)) ∧ Below w.heap.size w wr) (fun i _ => z + 1 - (intOf i).toNat)
  case atStart => exact ⟨0, Nat.zero_le _, rfl, heap_alloc_new w _, below_new w _⟩
  case round =>
    obtain ⟨k, hk, rfl, hh, hbel⟩ := hrel
    obtain ⟨c0, c1⟩ := cells2 hh
    have HH := Lib.hid hh; have BE := Lib.hid hbel; clear hh hbel
    by_cases hlt : k < L
    · have HB := Lib.hid (spec_bitat_in s (a + k) hs (by omega))
      simp only [Int.natCast_add] at HB
      by_cases hz : k < z
      · have hbit := Z2.out k hz
        rw [hbit] at HB
        clear hbit
        go_wp2_with fail
        refine (HL.out _).mono ?_
        rintro e w2 ⟨rfl, hb2⟩
        clear c0 c1
        have hh2 := cell_kept HH.out hb2
        obtain ⟨c0, c1⟩ := cells2 hh2
        have H2 := Lib.hid hh2; clear hh2
        have B2 := Lib.hid (below_step BE.out hb2); clear hb2
        go_wp2_with fail
        refine (HB.out _).mono ?_
        rintro e w' ⟨rfl, rfl⟩
        go_wp2
        go_roundw
        case rel => exact ⟨k + 1, by omega, by go_num, H2.out, B2.out⟩
        case measure => simp [intOf]; omega
      · obtain rfl : k = z := by omega
        have hbit := Z3.out hlt
        rw [hbit] at HB
        clear hbit
        go_wp2_with fail
        refine (HL.out _).mono ?_
        rintro e w2 ⟨rfl, hb2⟩
        clear c0 c1
        have hh2 := cell_kept HH.out hb2
        obtain ⟨c0, c1⟩ := cells2 hh2
        have H2 := Lib.hid hh2; clear hh2
        have B2 := Lib.hid (below_step BE.out hb2); clear hb2
        go_wp2_with fail
        refine (HB.out _).mono ?_
        rintro e w' ⟨rfl, rfl⟩
        go_wp2
        go_ret
        exact ⟨rfl, B2.out⟩
    · obtain rfl : k = L := by omega
      obtain rfl : k = z := by omega
      go_wp2_with fail
      refine (HL.out _).mono ?_
      rintro e w2 ⟨rfl, hb2⟩
      clear c0 c1
      have B2 := Lib.hid (below_step BE.out hb2); clear hb2
      go_wp2
      go_ret
      exact ⟨rfl, B2.out⟩

set_option maxRecDepth 100000 in
set_option maxHeartbeats 400000 in
theorem spec_zeros_out (s : ByteArray) (a : Int) (hs : s.size ≤ 1048576) (ha : rdOk s a = false) (w : World) :
    Calls Try.prog 78 #[.agg #[.string s, .int .i64 a]] w fun e w' => e = .returned (.int .i64 0) ∧ Below w.heap.size w w' := by
  have HL := Lib.hid (spec_left_any s a hs)
  have hle : leftV s a = 0 := by rw [leftV, ha]; rfl
  rw [hle] at HL
  clear hle ha
  go_enter Try.func78, Try.ntmps78
  go_wp2
  go_loopw [3] (fun i wr => i = .int .i64 0 ∧ wr.heap[w.heap.size]? = some (.cells #[.string s, .int .i64 a] 35 (0, 0)) ∧ Below w.heap.size w wr) (fun i _ => 0)
  case atStart => exact ⟨rfl, heap_alloc_new w _, below_new w _⟩
  case round =>
    obtain ⟨rfl, hh, hbel⟩ := hrel
    obtain ⟨c0, c1⟩ := cells2 hh
    have BE := Lib.hid hbel; clear hh hbel
    go_wp2_with fail
    refine (HL.out _).mono ?_
    rintro e w2 ⟨rfl, hb2⟩
    clear c0 c1
    have B2 := Lib.hid (below_step BE.out hb2); clear hb2
    go_wp2
    go_ret
    exact ⟨rfl, B2.out⟩

theorem impl_zeros_any (s : ByteArray) (a : Int) (hs : s.size ≤ 1048576) (w : World) :
    Calls Try.prog 119 #[.agg #[.string s, .int .i64 a]] w fun e w' => e = .returned (.int .i64 (zaV s a)) ∧ Below w.heap.size w w' := by
  cases h : rdOk s a with
  | true =>
    rw [zaV, if_pos h]
    obtain ⟨h0, h1⟩ := (rdOk_true s a).1 h
    obtain ⟨a, rfl⟩ := Int.eq_ofNat_of_zero_le h0
    exact impl_zeros_in s a hs (by omega) w
  | false =>
    rw [zaV, if_neg (by rw [h]; decide)]
    exact impl_zeros_out s a hs h w
theorem spec_zeros_any (s : ByteArray) (a : Int) (hs : s.size ≤ 1048576) (w : World) :
    Calls Try.prog 78 #[.agg #[.string s, .int .i64 a]] w fun e w' => e = .returned (.int .i64 (zaV s a)) ∧ Below w.heap.size w w' := by
  cases h : rdOk s a with
  | true =>
    rw [zaV, if_pos h]
    obtain ⟨h0, h1⟩ := (rdOk_true s a).1 h
    obtain ⟨a, rfl⟩ := Int.eq_ofNat_of_zero_le h0
    exact spec_zeros_in s a hs (by omega) w
  | false =>
    rw [zaV, if_neg (by rw [h]; decide)]
    exact spec_zeros_out s a hs h w
end Go.Proofs.Ytgacldhpohnpaaa

namespace Go.Proofs.Ytgacldhpohnpaaa
open Go.RowKit
set_option linter.unusedVariables false

set_option maxRecDepth 100000 in
set_option maxHeartbeats 400000 in
theorem szreader_any (s : ByteArray) (a : Int) (hm : s.size ≤ 9223372036854775807) (w : World) :
    Calls Try.prog 50 #[.agg #[.string s, .int .i64 a], .int .i64 1048576] w fun e w' => e = .returned (.int .i64 (if 1048576 < s.size then -1 else 1048576 - (s.size : Int))) ∧ Below w.heap.size w w' := by
  by_cases h : 1048576 < s.size
  · rw [if_pos h]
    go_enter Try.func50, Try.ntmps50
    go_wp2
    go_ret
    exact ⟨rfl, below_new _ _⟩
  · rw [if_neg h]
    go_enter Try.func50, Try.ntmps50
    go_wp2
    go_ret
    exact ⟨rfl, below_new _ _⟩

set_option maxRecDepth 100000 in
set_option maxHeartbeats 400000 in
theorem toreader_any (s : ByteArray) (a : Int) (w : World) :
    Calls Try.prog 51 #[.agg #[.string s, .int .i64 a]] w fun e w' => e = .returned (.agg #[.string s, .int .i64 a]) ∧ Below w.heap.size w w' := by
  go_enter Try.func51, Try.ntmps51
  go_wp2
  have e0 : (((w.alloc (.cells #[.string s, .int .i64 a] 67)).alloc (.cells #[.string s, .int .i64 a] 35)).alloc (.cells #[.string s, .int .i64 a] 35)).heap[w.heap.size + 1]? = some (.cells #[.string s, .int .i64 a] 35 (0, 0)) := by
    rw [Below.heap_alloc _ _ _ (by simp)]
    have := heap_alloc_new (w.alloc (.cells #[.string s, .int .i64 a] 67)) (.cells #[.string s, .int .i64 a] 35)
    simpa using this
  obtain ⟨c0, c1⟩ := cells2 e0
  exact bodyPost_ret (v := .agg #[.string s, .int .i64 a]) (by simp [results, Try.results51, go_sem]) rfl ⟨rfl, ((below_new w _).alloc (by simp) _).alloc (by simp; omega) _⟩

set_option maxRecDepth 100000 in
set_option maxHeartbeats 400000 in
theorem eqreader_same (s : ByteArray) (a : Int) (w : World) :
    Calls Try.prog 52 #[.agg #[.string s, .int .i64 a], .agg #[.string s, .int .i64 a]] w fun e w' => e = .returned (.bool true) ∧ Below w.heap.size w w' := by
  have q1 : (s.toList != s.toList) = false := by simp
  have q2 : (a != a) = false := by simp
  go_enter Try.func52, Try.ntmps52
  go_wp2
  go_ret
  exact ⟨rfl, (below_new w _).alloc (by simp) _⟩

/-- A block behind an allocation; it lies before the heap's end. -/
theorem heap_keep {w : World} {g : Nat} {o : Obj} (h : w.heap[g]? = some o) (x : Obj) : (w.alloc x).heap[g]? = some o := by
  rw [Below.heap_alloc _ _ _ (heap_lt h)]; exact h

end Go.Proofs.Ytgacldhpohnpaaa

namespace Go.Proofs.Ytgacldhpohnpaaa
open Go.RowKit
set_option linter.unusedVariables false

/-- What StopOk answers. -/
def soV (s : ByteArray) (a : Int) : Int :=
  if leftV s a = 0 then 1 else if leftV s a ≤ 8 ∧ bitV s a = 1 ∧ zaV s (a + 1) = leftV s a - 1 then 0 else 6

theorem leftV_range (s : ByteArray) (a : Int) (hs : s.size ≤ 1048576) : 0 ≤ leftV s a ∧ leftV s a ≤ 8388608 := by
  unfold leftV
  cases h : rdOk s a with
  | true => have := (rdOk_true s a).1 h; simp; omega
  | false => simp
theorem leftV_pos (s : ByteArray) (a : Int) (h : leftV s a ≠ 0) : 0 ≤ a ∧ a < 8 * (s.size : Int) ∧ leftV s a = 8 * (s.size : Int) - a ∧ leftV s (a + 1) = leftV s a - 1 ∧ rdOk s a = true := by
  unfold leftV at h
  cases hk : rdOk s a with
  | false => rw [hk] at h; simp at h
  | true =>
    rw [hk] at h
    have h1 := (rdOk_true s a).1 hk
    have h2 : a < 8 * (s.size : Int) := by simp at h; omega
    have h3 : rdOk s (a + 1) = true := (rdOk_true s (a + 1)).2 (by omega)
    refine ⟨h1.1, h2, by rw [leftV, if_pos hk], ?_, rfl⟩
    rw [leftV, if_pos h3, leftV, if_pos hk]
    omega

theorem frozen2 {w : World} {g : Nat} {u v : Value} {T : TypeId} (h : w.heap[g]? = some (.cells #[u, v] T (0, 0))) : w.frozen? ⟨g, 0, none⟩ = false ∧ w.frozen? ⟨g, 1, none⟩ = false :=
  ⟨frozen_of_row w g 0 _ _ h, frozen_of_row w g 1 _ _ h⟩
theorem held2_drew {w w1 : World} {g : Nat} {u v : Value} (h : w1.cell? ⟨g, 0, none⟩ = some u ∧ w1.cell? ⟨g, 1, none⟩ = some v ∧ Below w.heap.size w w1) : w1.drew.cell? ⟨g, 0, none⟩ = some u ∧ w1.drew.cell? ⟨g, 1, none⟩ = some v ∧ Below w.heap.size w w1.drew :=
  ⟨h.1, h.2.1, h.2.2.drew⟩
theorem held2_below {w w1 : World} {g : Nat} {u v : Value} (h : w1.cell? ⟨g, 0, none⟩ = some u ∧ w1.cell? ⟨g, 1, none⟩ = some v ∧ Below w.heap.size w w1) : Below w.heap.size w w1 := h.2.2
theorem held2 {w w1 w2 : World} {g : Nat} {u v : Value} (h : w1.cell? ⟨g, 0, none⟩ = some u ∧ w1.cell? ⟨g, 1, none⟩ = some v ∧ Below w.heap.size w w1) (hb : Below w1.heap.size w1 w2) :
    w2.cell? ⟨g, 0, none⟩ = some u ∧ w2.cell? ⟨g, 1, none⟩ = some v ∧ Below w.heap.size w w2 := by
  have h0 := World.block_lt_of_cell? w1 _ h.1
  exact ⟨(hb.cell (p := ⟨g, 0, none⟩) h0).trans h.1, (hb.cell (p := ⟨g, 1, none⟩) h0).trans h.2.1, below_step h.2.2 hb⟩

end Go.Proofs.Ytgacldhpohnpaaa

namespace Go.Proofs.Ytgacldhpohnpaaa
open Go.RowKit
set_option linter.unusedVariables false

/-- What LevelOf gives. -/
def levV (n : Int) : Int := if n < 0 then 0 else if n % 2 = 0 then n / 2 + 1 else -(n / 2 + 1)
/-- What NumOfLevel gives. -/
def numV (v : Int) : Int := if 0 < v then wrap64 (wrap64 (2 * v) - 2) else if v < 0 then wrap64 (wrap64 (-2 * v) - 1) else -1

/-- What ErWord gives. -/
def erV (e : Int) : ByteArray := if e = 0 then ⟨#[110, 111, 110, 101]⟩ else if e = 1 then ⟨#[115, 104, 111, 114, 116]⟩ else if e = 2 then ⟨#[104, 101, 97, 100, 101, 114]⟩ else if e = 3 then ⟨#[108, 105, 109, 105, 116]⟩ else if e = 4 then ⟨#[99, 111, 100, 101]⟩ else if e = 5 then ⟨#[99, 111, 101, 102]⟩ else if e = 6 then ⟨#[116, 97, 105, 108]⟩ else ⟨#[]⟩

end Go.Proofs.Ytgacldhpohnpaaa
