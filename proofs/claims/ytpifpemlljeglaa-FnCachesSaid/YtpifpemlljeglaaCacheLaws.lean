/-
  The walks of the exact laws of the bit cache. No condition.
-/
import Derived.Test.YtpifpemlljeglaaCacheTake
namespace Go.Proofs.Ytpifpemlljeglaa
open Go.RowKit
set_option linter.unusedVariables false

set_option maxRecDepth 100000 in
set_option maxHeartbeats 400000 in
theorem szcache_any (s : ByteArray) (p wd h : Int) (hm : s.size ≤ 9223372036854775807) (w : World) :
    Calls Try.prog 32 #[.agg #[.string s, .int .i64 p, .int .i64 wd, .int .i64 h], .int .i64 1048576] w fun e w' => e = .returned (.int .i64 (if 1048576 < s.size then -1 else 1048576 - (s.size : Int))) ∧ Below w.heap.size w w' := by
  by_cases hb : 1048576 < s.size
  · rw [if_pos hb]
    go_enter Try.func32, Try.ntmps32
    go_wp2
    go_ret
    exact ⟨rfl, below_new _ _⟩
  · rw [if_neg hb]
    go_enter Try.func32, Try.ntmps32
    go_wp2
    go_ret
    exact ⟨rfl, below_new _ _⟩

set_option maxRecDepth 100000 in
set_option maxHeartbeats 400000 in
theorem tocache_any (s : ByteArray) (p wd h : Int) (w : World) :
    Calls Try.prog 33 #[.agg #[.string s, .int .i64 p, .int .i64 wd, .int .i64 h]] w fun e w' => e = .returned (.agg #[.string s, .int .i64 p, .int .i64 wd, .int .i64 h]) ∧ Below w.heap.size w w' := by
  go_enter Try.func33, Try.ntmps33
  go_wp2
  have e : (((w.alloc (.cells #[.string s, .int .i64 p, .int .i64 wd, .int .i64 h] 49)).alloc (.cells #[.string s, .int .i64 p, .int .i64 wd, .int .i64 h] 25)).alloc (.cells #[.string s, .int .i64 p, .int .i64 wd, .int .i64 h] 25)).heap[w.heap.size + 1]? = some (.cells #[.string s, .int .i64 p, .int .i64 wd, .int .i64 h] 25 (0, 0)) := by
    rw [Below.heap_alloc _ _ _ (by simp)]
    have := heap_alloc_new (w.alloc (.cells #[.string s, .int .i64 p, .int .i64 wd, .int .i64 h] 49)) (.cells #[.string s, .int .i64 p, .int .i64 wd, .int .i64 h] 25)
    simpa using this
  obtain ⟨e0, e1, e2, e3⟩ := cells4 e
  exact bodyPost_ret (v := .agg #[.string s, .int .i64 p, .int .i64 wd, .int .i64 h]) (by simp [results, Try.results33, go_sem, e0, e1, e2, e3]) rfl ⟨rfl, ((below_new w _).alloc (by simp) _).alloc (by simp; omega) _⟩

set_option maxRecDepth 100000 in
set_option maxHeartbeats 400000 in
theorem eqcache_same (s : ByteArray) (q y x : Int) (w : World) :
    Calls Try.prog 31 #[.agg #[.string s, .int .i64 q, .int .i64 y, .int .i64 x], .agg #[.string s, .int .i64 q, .int .i64 y, .int .i64 x]] w fun e w' => e = .returned (.bool true) ∧ Below w.heap.size w w' := by
  have q1 : (s.toList != s.toList) = false := by simp
  have q2 : (q != q) = false := by simp
  have q3 : (y != y) = false := by simp
  have q4 : (x != x) = false := by simp
  go_enter Try.func31, Try.ntmps31
  go_wp2
  go_ret
  exact ⟨rfl, (below_new w _).alloc (by simp) _⟩

/-- Both texts answer alike. -/
theorem refill_both (s : ByteArray) (p wd h : Int) (hs : s.size ≤ 1048576) : ∃ q y x : Int,
    (∀ w, Calls Try.prog 34 #[.agg #[.string s, .int .i64 p, .int .i64 wd, .int .i64 h]] w fun e w' => e = .returned (.agg #[.string s, .int .i64 q, .int .i64 y, .int .i64 x]) ∧ Below w.heap.size w w') ∧
    (∀ w, Calls Try.prog 20 #[.agg #[.string s, .int .i64 p, .int .i64 wd, .int .i64 h]] w fun e w' => e = .returned (.agg #[.string s, .int .i64 q, .int .i64 y, .int .i64 x]) ∧ Below w.heap.size w w') := by
  cases hk : ckOk s p wd h with
  | false => exact ⟨p, wd, h, spec_refill_out s p wd h hs hk, impl_refill_out s p wd h hs hk⟩
  | true =>
    obtain ⟨a, P, hA, rfl, rfl, rfl⟩ := ckOk_at s p wd h hk
    exact ⟨_, _, _, spec_refill_in s a P hs hA, impl_refill_in s a P hs hA⟩
theorem settle_both (s : ByteArray) (p wd h : Int) (hs : s.size ≤ 1048576) : ∃ q y x : Int,
    (∀ w, Calls Try.prog 36 #[.agg #[.string s, .int .i64 p, .int .i64 wd, .int .i64 h]] w fun e w' => e = .returned (.agg #[.string s, .int .i64 q, .int .i64 y, .int .i64 x]) ∧ Below w.heap.size w w') ∧
    (∀ w, Calls Try.prog 21 #[.agg #[.string s, .int .i64 p, .int .i64 wd, .int .i64 h]] w fun e w' => e = .returned (.agg #[.string s, .int .i64 q, .int .i64 y, .int .i64 x]) ∧ Below w.heap.size w w') := by
  cases hk : ckOk s p wd h with
  | false => exact ⟨p, wd, h, spec_settle_out s p wd h hs hk, impl_settle_out s p wd h hs hk⟩
  | true =>
    obtain ⟨a, P, hA, rfl, rfl, rfl⟩ := ckOk_at s p wd h hk
    exact ⟨_, _, _, spec_settle_in s a P hs hA, impl_settle_in s a P hs hA⟩
theorem cacheok_both (s : ByteArray) (p wd h : Int) (hs : s.size ≤ 1048576) : ∃ v : Bool,
    (∀ w, Calls Try.prog 16 #[.agg #[.string s, .int .i64 p, .int .i64 wd, .int .i64 h]] w fun e w' => e = .returned (.bool v) ∧ Below w.heap.size w w') ∧
    (∀ w, Calls Try.prog 22 #[.agg #[.string s, .int .i64 p, .int .i64 wd, .int .i64 h]] w fun e w' => e = .returned (.bool v) ∧ Below w.heap.size w w') :=
  ⟨_, spec_cacheok_any s p wd h hs, impl_cacheok_any s p wd h hs⟩
theorem placein_both (s : ByteArray) (p wd h : Int) (hs : s.size ≤ 1048576) : ∃ v : Int,
    (∀ w, Calls Try.prog 35 #[.agg #[.string s, .int .i64 p, .int .i64 wd, .int .i64 h]] w fun e w' => e = .returned (.int .i64 v) ∧ Below w.heap.size w w') ∧
    (∀ w, Calls Try.prog 17 #[.agg #[.string s, .int .i64 p, .int .i64 wd, .int .i64 h]] w fun e w' => e = .returned (.int .i64 v) ∧ Below w.heap.size w w') := by
  cases hk : ckOk s p wd h with
  | false => exact ⟨-1, spec_placein_out s p wd h hs hk, impl_placein_out s p wd h hs hk⟩
  | true =>
    obtain ⟨a, P, hA, rfl, rfl, rfl⟩ := ckOk_at s p wd h hk
    exact ⟨_, spec_placein_in s a P hs hA, impl_placein_in s a P hs hA⟩
theorem pkOk_nat (n : Int) (h : pkOk n = true) : ∃ m : Nat, n = m ∧ m ≤ 16 := by
  simp only [pkOk, Bool.and_eq_true, decide_eq_true_iff] at h
  exact ⟨n.toNat, by omega, by omega⟩
theorem peek_both (s : ByteArray) (p wd h n : Int) (hs : s.size ≤ 1048576) : ∃ q y x v : Int,
    (∀ w, Calls Try.prog 37 #[.agg #[.string s, .int .i64 p, .int .i64 wd, .int .i64 h], .int .i64 n] w fun e w' => e = .returned (.tuple #[.agg #[.string s, .int .i64 q, .int .i64 y, .int .i64 x], .int .i64 v]) ∧ Below w.heap.size w w') ∧
    (∀ w, Calls Try.prog 19 #[.agg #[.string s, .int .i64 p, .int .i64 wd, .int .i64 h], .int .i64 n] w fun e w' => e = .returned (.tuple #[.agg #[.string s, .int .i64 q, .int .i64 y, .int .i64 x], .int .i64 v]) ∧ Below w.heap.size w w') := by
  cases hk : ckOk s p wd h with
  | false => exact ⟨p, wd, h, 0, spec_peek_out s p wd h n hs (.inl hk), impl_peek_out s p wd h n hs (.inl hk)⟩
  | true =>
    cases hn : pkOk n with
    | false => exact ⟨p, wd, h, 0, spec_peek_out s p wd h n hs (.inr ⟨hk, hn⟩), impl_peek_out s p wd h n hs (.inr ⟨hk, hn⟩)⟩
    | true =>
      obtain ⟨a, P, hA, rfl, rfl, rfl⟩ := ckOk_at s p wd h hk
      obtain ⟨m, rfl, hm⟩ := pkOk_nat n hn
      exact ⟨_, _, _, _, spec_peek_in s a P m hs hA hm, impl_peek_in s a P m hs hA hm⟩
theorem skip_both (s : ByteArray) (p wd h n : Int) (hs : s.size ≤ 1048576) : ∃ (q y x : Int) (o : Bool),
    (∀ w, Calls Try.prog 38 #[.agg #[.string s, .int .i64 p, .int .i64 wd, .int .i64 h], .int .i64 n] w fun e w' => e = .returned (.tuple #[.agg #[.string s, .int .i64 q, .int .i64 y, .int .i64 x], .bool o]) ∧ Below w.heap.size w w') ∧
    (∀ w, Calls Try.prog 23 #[.agg #[.string s, .int .i64 p, .int .i64 wd, .int .i64 h], .int .i64 n] w fun e w' => e = .returned (.tuple #[.agg #[.string s, .int .i64 q, .int .i64 y, .int .i64 x], .bool o]) ∧ Below w.heap.size w w') := by
  cases hk : ckOk s p wd h with
  | false => exact ⟨p, wd, h, false, spec_skip_out s p wd h n hs (.inl hk), impl_skip_out s p wd h n hs (.inl hk)⟩
  | true =>
    cases hn : pkOk n with
    | false => exact ⟨p, wd, h, false, spec_skip_out s p wd h n hs (.inr ⟨hk, hn⟩), impl_skip_out s p wd h n hs (.inr ⟨hk, hn⟩)⟩
    | true =>
      obtain ⟨a, P, hA, rfl, rfl, rfl⟩ := ckOk_at s p wd h hk
      obtain ⟨m, rfl, hm⟩ := pkOk_nat n hn
      exact ⟨_, _, _, _, spec_skip_in s a P m hs hA hm, impl_skip_in s a P m hs hA hm⟩
theorem take_both (s : ByteArray) (p wd h n : Int) (hs : s.size ≤ 1048576) : ∃ (q y x v : Int) (o : Bool),
    (∀ w, Calls Try.prog 39 #[.agg #[.string s, .int .i64 p, .int .i64 wd, .int .i64 h], .int .i64 n] w fun e w' => e = .returned (.tuple #[.agg #[.string s, .int .i64 q, .int .i64 y, .int .i64 x], .int .i64 v, .bool o]) ∧ Below w.heap.size w w') ∧
    (∀ w, Calls Try.prog 15 #[.agg #[.string s, .int .i64 p, .int .i64 wd, .int .i64 h], .int .i64 n] w fun e w' => e = .returned (.tuple #[.agg #[.string s, .int .i64 q, .int .i64 y, .int .i64 x], .int .i64 v, .bool o]) ∧ Below w.heap.size w w') := by
  cases hk : ckOk s p wd h with
  | false => exact ⟨p, wd, h, 0, false, spec_take_out s p wd h n hs (.inl hk), impl_take_out s p wd h n hs (.inl hk)⟩
  | true =>
    cases hn : pkOk n with
    | false => exact ⟨p, wd, h, 0, false, spec_take_out s p wd h n hs (.inr ⟨hk, hn⟩), impl_take_out s p wd h n hs (.inr ⟨hk, hn⟩)⟩
    | true =>
      obtain ⟨a, P, hA, rfl, rfl, rfl⟩ := ckOk_at s p wd h hk
      obtain ⟨m, rfl, hm⟩ := pkOk_nat n hn
      have A := spec_take_in s a P m hs hA hm
      have B := impl_take_in s a P m hs hA hm
      unfold tkR at A B
      by_cases hh : m ≤ 8 * pkP s a P m - a
      · simp only [if_pos hh] at A B
        exact ⟨_, _, _, _, _, A, B⟩
      · simp only [if_neg hh] at A B
        exact ⟨_, _, _, _, _, A, B⟩

set_option maxRecDepth 100000 in
set_option maxHeartbeats 400000 in
/-- The law's own walk. -/
theorem fnExactCacheOk_walk (s : ByteArray) (p wd h : Int) (hm : s.size ≤ maxLen) (wp : (Lit.int .i64 p).wf = true) (wwd : (Lit.int .i64 wd).wf = true) (wh : (Lit.int .i64 h).wf = true) (w : World) :
    Calls Try.prog 6 #[.agg #[.string s, .int .i64 p, .int .i64 wd, .int .i64 h]] w fun e w' => e = .returned (.bool true) ∧ Below w.heap.size w w' := by
  have HZ := Lib.hid (szcache_any s p wd h (by unfold maxLen at hm; omega))
  have HT := Lib.hid (tocache_any s p wd h)
  clear hm wp wwd wh
  by_cases hbig : 1048576 < s.size
  · rw [if_pos hbig] at HZ
    go_enter Try.func6, Try.ntmps6
    go_wp2_with fail
    refine (HZ.out _).mono ?_
    rintro e w1 ⟨rfl, hb⟩
    have B := Lib.hid (below_step (below_new w _) hb); clear hb
    go_wp2
    go_ret
    exact ⟨rfl, B.out⟩
  · rw [if_neg hbig] at HZ
    obtain ⟨v, SA, IA⟩ := cacheok_both s p wd h (by omega)
    have SA := Lib.hid SA
    have IA := Lib.hid IA
    have q1 : (v != v) = false := by simp
    go_enter Try.func6, Try.ntmps6
    go_wp2_with fail
    refine (HZ.out _).mono ?_
    rintro e w1 ⟨rfl, hb⟩
    have H1 := Lib.hid (cell_kept (heap_alloc_new w _) hb)
    have B1 := Lib.hid (below_step (below_new w _) hb); clear hb
    obtain ⟨c0, c1, c2, c3⟩ := cells4 H1.out
    go_wp2_with fail
    refine (HT.out _).mono ?_
    rintro e w2 ⟨rfl, hb⟩
    have H2 := Lib.hid (cell_kept H1.out hb)
    have B2 := Lib.hid (below_step B1.out hb)
    clear hb c0 c1 c2 c3 H1 B1
    go_wp2_with fail
    refine (SA.out _).mono ?_
    rintro e w3 ⟨rfl, hb⟩
    have H3 := Lib.hid (cell_kept H2.out hb)
    have B3 := Lib.hid (below_step B2.out hb)
    clear hb H2 B2
    obtain ⟨c0, c1, c2, c3⟩ := cells4 H3.out
    have lt := heap_lt H3.out
    go_wp2_with fail
    refine (HT.out _).mono ?_
    rintro e w4 ⟨rfl, hb⟩
    have B4 := Lib.hid (below_step B3.out hb)
    clear hb c0 c1 c2 c3 H3 B3 lt
    go_wp2_with fail
    refine (IA.out _).mono ?_
    rintro e w5 ⟨rfl, hb⟩
    have B5 := Lib.hid (below_step B4.out hb)
    clear hb B4
    go_wp2
    go_ret
    exact ⟨rfl, B5.out⟩

set_option maxRecDepth 100000 in
set_option maxHeartbeats 400000 in
/-- The law's own walk. -/
theorem fnExactPlaceIn_walk (s : ByteArray) (p wd h : Int) (hm : s.size ≤ maxLen) (wp : (Lit.int .i64 p).wf = true) (wwd : (Lit.int .i64 wd).wf = true) (wh : (Lit.int .i64 h).wf = true) (w : World) :
    Calls Try.prog 8 #[.agg #[.string s, .int .i64 p, .int .i64 wd, .int .i64 h]] w fun e w' => e = .returned (.bool true) ∧ Below w.heap.size w w' := by
  have HZ := Lib.hid (szcache_any s p wd h (by unfold maxLen at hm; omega))
  have HT := Lib.hid (tocache_any s p wd h)
  clear hm wp wwd wh
  by_cases hbig : 1048576 < s.size
  · rw [if_pos hbig] at HZ
    go_enter Try.func8, Try.ntmps8
    go_wp2_with fail
    refine (HZ.out _).mono ?_
    rintro e w1 ⟨rfl, hb⟩
    have B := Lib.hid (below_step (below_new w _) hb); clear hb
    go_wp2
    go_ret
    exact ⟨rfl, B.out⟩
  · rw [if_neg hbig] at HZ
    obtain ⟨v, SA, IA⟩ := placein_both s p wd h (by omega)
    have SA := Lib.hid SA
    have IA := Lib.hid IA
    have q1 : (v != v) = false := by simp
    go_enter Try.func8, Try.ntmps8
    go_wp2_with fail
    refine (HZ.out _).mono ?_
    rintro e w1 ⟨rfl, hb⟩
    have H1 := Lib.hid (cell_kept (heap_alloc_new w _) hb)
    have B1 := Lib.hid (below_step (below_new w _) hb); clear hb
    obtain ⟨c0, c1, c2, c3⟩ := cells4 H1.out
    go_wp2_with fail
    refine (HT.out _).mono ?_
    rintro e w2 ⟨rfl, hb⟩
    have H2 := Lib.hid (cell_kept H1.out hb)
    have B2 := Lib.hid (below_step B1.out hb)
    clear hb c0 c1 c2 c3 H1 B1
    go_wp2_with fail
    refine (SA.out _).mono ?_
    rintro e w3 ⟨rfl, hb⟩
    have H3 := Lib.hid (cell_kept H2.out hb)
    have B3 := Lib.hid (below_step B2.out hb)
    clear hb H2 B2
    obtain ⟨c0, c1, c2, c3⟩ := cells4 H3.out
    have lt := heap_lt H3.out
    go_wp2_with fail
    refine (HT.out _).mono ?_
    rintro e w4 ⟨rfl, hb⟩
    have B4 := Lib.hid (below_step B3.out hb)
    clear hb c0 c1 c2 c3 H3 B3 lt
    go_wp2_with fail
    refine (IA.out _).mono ?_
    rintro e w5 ⟨rfl, hb⟩
    have B5 := Lib.hid (below_step B4.out hb)
    clear hb B4
    go_wp2
    go_ret
    exact ⟨rfl, B5.out⟩

set_option maxRecDepth 100000 in
set_option maxHeartbeats 400000 in
/-- The law's own walk. -/
theorem fnExactRefill_walk (s : ByteArray) (p wd h : Int) (hm : s.size ≤ maxLen) (wp : (Lit.int .i64 p).wf = true) (wwd : (Lit.int .i64 wd).wf = true) (wh : (Lit.int .i64 h).wf = true) (w : World) :
    Calls Try.prog 7 #[.agg #[.string s, .int .i64 p, .int .i64 wd, .int .i64 h]] w fun e w' => e = .returned (.bool true) ∧ Below w.heap.size w w' := by
  have HZ := Lib.hid (szcache_any s p wd h (by unfold maxLen at hm; omega))
  have HT := Lib.hid (tocache_any s p wd h)
  clear hm wp wwd wh
  by_cases hbig : 1048576 < s.size
  · rw [if_pos hbig] at HZ
    go_enter Try.func7, Try.ntmps7
    go_wp2_with fail
    refine (HZ.out _).mono ?_
    rintro e w1 ⟨rfl, hb⟩
    have B := Lib.hid (below_step (below_new w _) hb); clear hb
    go_wp2
    go_ret
    exact ⟨rfl, B.out⟩
  · rw [if_neg hbig] at HZ
    obtain ⟨q, y, x, SA, IA⟩ := refill_both s p wd h (by omega)
    have SA := Lib.hid SA
    have IA := Lib.hid IA
    have EQ := Lib.hid (eqcache_same s q y x)
    go_enter Try.func7, Try.ntmps7
    go_wp2_with fail
    refine (HZ.out _).mono ?_
    rintro e w1 ⟨rfl, hb⟩
    have H1 := Lib.hid (cell_kept (heap_alloc_new w _) hb)
    have B1 := Lib.hid (below_step (below_new w _) hb); clear hb
    obtain ⟨c0, c1, c2, c3⟩ := cells4 H1.out
    go_wp2_with fail
    refine (HT.out _).mono ?_
    rintro e w2 ⟨rfl, hb⟩
    have H2 := Lib.hid (cell_kept H1.out hb)
    have B2 := Lib.hid (below_step B1.out hb)
    clear hb c0 c1 c2 c3 H1 B1
    go_wp2_with fail
    refine (SA.out _).mono ?_
    rintro e w3 ⟨rfl, hb⟩
    have H3 := Lib.hid (cell_kept H2.out hb)
    have B3 := Lib.hid (below_step B2.out hb)
    clear hb H2 B2
    obtain ⟨c0, c1, c2, c3⟩ := cells4 H3.out
    have lt := heap_lt H3.out
    go_wp2_with fail
    refine (HT.out _).mono ?_
    rintro e w4 ⟨rfl, hb⟩
    have R4 := Lib.hid (cell_kept (heap_alloc_new w3 _) hb)
    have B4 := Lib.hid (below_step (B3.out.alloc B3.out.size _) hb)
    clear hb c0 c1 c2 c3 H3 B3 lt
    go_wp2_with fail
    refine (IA.out _).mono ?_
    rintro e w5 ⟨rfl, hb⟩
    have R5 := Lib.hid (cell_kept R4.out hb)
    have B5 := Lib.hid (below_step B4.out hb)
    clear hb B4 R4
    obtain ⟨c0, c1, c2, c3⟩ := cells4 R5.out
    have lt := heap_lt R5.out
    go_wp2_with fail
    refine (EQ.out _).mono ?_
    rintro e w6 ⟨rfl, hb⟩
    have B6 := Lib.hid (below_step (B5.out.alloc B5.out.size _) hb)
    clear hb c0 c1 c2 c3 B5 lt
    go_wp2
    go_ret
    exact ⟨rfl, B6.out⟩

set_option maxRecDepth 100000 in
set_option maxHeartbeats 400000 in
/-- The law's own walk. -/
theorem fnExactSettle_walk (s : ByteArray) (p wd h : Int) (hm : s.size ≤ maxLen) (wp : (Lit.int .i64 p).wf = true) (wwd : (Lit.int .i64 wd).wf = true) (wh : (Lit.int .i64 h).wf = true) (w : World) :
    Calls Try.prog 9 #[.agg #[.string s, .int .i64 p, .int .i64 wd, .int .i64 h]] w fun e w' => e = .returned (.bool true) ∧ Below w.heap.size w w' := by
  have HZ := Lib.hid (szcache_any s p wd h (by unfold maxLen at hm; omega))
  have HT := Lib.hid (tocache_any s p wd h)
  clear hm wp wwd wh
  by_cases hbig : 1048576 < s.size
  · rw [if_pos hbig] at HZ
    go_enter Try.func9, Try.ntmps9
    go_wp2_with fail
    refine (HZ.out _).mono ?_
    rintro e w1 ⟨rfl, hb⟩
    have B := Lib.hid (below_step (below_new w _) hb); clear hb
    go_wp2
    go_ret
    exact ⟨rfl, B.out⟩
  · rw [if_neg hbig] at HZ
    obtain ⟨q, y, x, SA, IA⟩ := settle_both s p wd h (by omega)
    have SA := Lib.hid SA
    have IA := Lib.hid IA
    have EQ := Lib.hid (eqcache_same s q y x)
    go_enter Try.func9, Try.ntmps9
    go_wp2_with fail
    refine (HZ.out _).mono ?_
    rintro e w1 ⟨rfl, hb⟩
    have H1 := Lib.hid (cell_kept (heap_alloc_new w _) hb)
    have B1 := Lib.hid (below_step (below_new w _) hb); clear hb
    obtain ⟨c0, c1, c2, c3⟩ := cells4 H1.out
    go_wp2_with fail
    refine (HT.out _).mono ?_
    rintro e w2 ⟨rfl, hb⟩
    have H2 := Lib.hid (cell_kept H1.out hb)
    have B2 := Lib.hid (below_step B1.out hb)
    clear hb c0 c1 c2 c3 H1 B1
    go_wp2_with fail
    refine (SA.out _).mono ?_
    rintro e w3 ⟨rfl, hb⟩
    have H3 := Lib.hid (cell_kept H2.out hb)
    have B3 := Lib.hid (below_step B2.out hb)
    clear hb H2 B2
    obtain ⟨c0, c1, c2, c3⟩ := cells4 H3.out
    have lt := heap_lt H3.out
    go_wp2_with fail
    refine (HT.out _).mono ?_
    rintro e w4 ⟨rfl, hb⟩
    have R4 := Lib.hid (cell_kept (heap_alloc_new w3 _) hb)
    have B4 := Lib.hid (below_step (B3.out.alloc B3.out.size _) hb)
    clear hb c0 c1 c2 c3 H3 B3 lt
    go_wp2_with fail
    refine (IA.out _).mono ?_
    rintro e w5 ⟨rfl, hb⟩
    have R5 := Lib.hid (cell_kept R4.out hb)
    have B5 := Lib.hid (below_step B4.out hb)
    clear hb B4 R4
    obtain ⟨c0, c1, c2, c3⟩ := cells4 R5.out
    have lt := heap_lt R5.out
    go_wp2_with fail
    refine (EQ.out _).mono ?_
    rintro e w6 ⟨rfl, hb⟩
    have B6 := Lib.hid (below_step (B5.out.alloc B5.out.size _) hb)
    clear hb c0 c1 c2 c3 B5 lt
    go_wp2
    go_ret
    exact ⟨rfl, B6.out⟩

set_option maxRecDepth 100000 in
set_option maxHeartbeats 400000 in
/-- The law's own walk. -/
theorem fnExactPeek_walk (s : ByteArray) (p wd h : Int) (n : Int) (hm : s.size ≤ maxLen) (wp : (Lit.int .i64 p).wf = true) (wwd : (Lit.int .i64 wd).wf = true) (wh : (Lit.int .i64 h).wf = true) (hwn : (Lit.int .i64 n).wf = true) (w : World) :
    Calls Try.prog 10 #[.agg #[.string s, .int .i64 p, .int .i64 wd, .int .i64 h], .int .i64 n] w fun e w' => e = .returned (.bool true) ∧ Below w.heap.size w w' := by
  have HZ := Lib.hid (szcache_any s p wd h (by unfold maxLen at hm; omega))
  have HT := Lib.hid (tocache_any s p wd h)
  clear hm wp wwd wh hwn
  by_cases hbig : 1048576 < s.size
  · rw [if_pos hbig] at HZ
    go_enter Try.func10, Try.ntmps10
    go_wp2_with fail
    refine (HZ.out _).mono ?_
    rintro e w1 ⟨rfl, hb⟩
    have B := Lib.hid (below_step (below_new w _) hb); clear hb
    go_wp2
    go_ret
    exact ⟨rfl, B.out⟩
  · rw [if_neg hbig] at HZ
    obtain ⟨q, y, x, v, SA, IA⟩ := peek_both s p wd h n (by omega)
    have SA := Lib.hid SA
    have IA := Lib.hid IA
    have q1 : (v != v) = false := by simp
    have EQ := Lib.hid (eqcache_same s q y x)
    go_enter Try.func10, Try.ntmps10
    go_wp2_with fail
    refine (HZ.out _).mono ?_
    rintro e w1 ⟨rfl, hb⟩
    have H1 := Lib.hid (cell_kept (heap_alloc_new w _) hb)
    have B1 := Lib.hid (below_step (below_new w _) hb); clear hb
    obtain ⟨c0, c1, c2, c3⟩ := cells4 H1.out
    go_wp2_with fail
    refine (HT.out _).mono ?_
    rintro e w2 ⟨rfl, hb⟩
    have H2 := Lib.hid (cell_kept H1.out hb)
    have B2 := Lib.hid (below_step B1.out hb)
    clear hb c0 c1 c2 c3 H1 B1
    go_wp2_with fail
    refine (SA.out _).mono ?_
    rintro e w3 ⟨rfl, hb⟩
    have H3 := Lib.hid (cell_kept H2.out hb)
    have B3 := Lib.hid (below_step B2.out hb)
    clear hb H2 B2
    obtain ⟨c0, c1, c2, c3⟩ := cells4 H3.out
    have lt := heap_lt H3.out
    go_wp2_with fail
    refine (HT.out _).mono ?_
    rintro e w4 ⟨rfl, hb⟩
    have R4 := Lib.hid (cell_kept (heap_alloc_new w3 _) hb)
    have B4 := Lib.hid (below_step (B3.out.alloc B3.out.size _) hb)
    clear hb c0 c1 c2 c3 H3 B3 lt
    go_wp2_with fail
    refine (IA.out _).mono ?_
    rintro e w5 ⟨rfl, hb⟩
    have R5 := Lib.hid (cell_kept R4.out hb)
    have B5 := Lib.hid (below_step B4.out hb)
    clear hb B4 R4
    obtain ⟨c0, c1, c2, c3⟩ := cells4 R5.out
    have lt := heap_lt R5.out
    go_wp2_with fail
    refine (EQ.out _).mono ?_
    rintro e w6 ⟨rfl, hb⟩
    have B6 := Lib.hid (below_step (B5.out.alloc B5.out.size _) hb)
    clear hb c0 c1 c2 c3 B5 lt
    go_wp2
    go_ret
    exact ⟨rfl, B6.out⟩

set_option maxRecDepth 100000 in
set_option maxHeartbeats 400000 in
/-- The law's own walk. -/
theorem fnExactSkip_walk (s : ByteArray) (p wd h : Int) (n : Int) (hm : s.size ≤ maxLen) (wp : (Lit.int .i64 p).wf = true) (wwd : (Lit.int .i64 wd).wf = true) (wh : (Lit.int .i64 h).wf = true) (hwn : (Lit.int .i64 n).wf = true) (w : World) :
    Calls Try.prog 11 #[.agg #[.string s, .int .i64 p, .int .i64 wd, .int .i64 h], .int .i64 n] w fun e w' => e = .returned (.bool true) ∧ Below w.heap.size w w' := by
  have HZ := Lib.hid (szcache_any s p wd h (by unfold maxLen at hm; omega))
  have HT := Lib.hid (tocache_any s p wd h)
  clear hm wp wwd wh hwn
  by_cases hbig : 1048576 < s.size
  · rw [if_pos hbig] at HZ
    go_enter Try.func11, Try.ntmps11
    go_wp2_with fail
    refine (HZ.out _).mono ?_
    rintro e w1 ⟨rfl, hb⟩
    have B := Lib.hid (below_step (below_new w _) hb); clear hb
    go_wp2
    go_ret
    exact ⟨rfl, B.out⟩
  · rw [if_neg hbig] at HZ
    obtain ⟨q, y, x, o, SA, IA⟩ := skip_both s p wd h n (by omega)
    have SA := Lib.hid SA
    have IA := Lib.hid IA
    have q2 : (o != o) = false := by simp
    have EQ := Lib.hid (eqcache_same s q y x)
    go_enter Try.func11, Try.ntmps11
    go_wp2_with fail
    refine (HZ.out _).mono ?_
    rintro e w1 ⟨rfl, hb⟩
    have H1 := Lib.hid (cell_kept (heap_alloc_new w _) hb)
    have B1 := Lib.hid (below_step (below_new w _) hb); clear hb
    obtain ⟨c0, c1, c2, c3⟩ := cells4 H1.out
    go_wp2_with fail
    refine (HT.out _).mono ?_
    rintro e w2 ⟨rfl, hb⟩
    have H2 := Lib.hid (cell_kept H1.out hb)
    have B2 := Lib.hid (below_step B1.out hb)
    clear hb c0 c1 c2 c3 H1 B1
    go_wp2_with fail
    refine (SA.out _).mono ?_
    rintro e w3 ⟨rfl, hb⟩
    have H3 := Lib.hid (cell_kept H2.out hb)
    have B3 := Lib.hid (below_step B2.out hb)
    clear hb H2 B2
    obtain ⟨c0, c1, c2, c3⟩ := cells4 H3.out
    have lt := heap_lt H3.out
    go_wp2_with fail
    refine (HT.out _).mono ?_
    rintro e w4 ⟨rfl, hb⟩
    have R4 := Lib.hid (cell_kept (heap_alloc_new w3 _) hb)
    have B4 := Lib.hid (below_step (B3.out.alloc B3.out.size _) hb)
    clear hb c0 c1 c2 c3 H3 B3 lt
    go_wp2_with fail
    refine (IA.out _).mono ?_
    rintro e w5 ⟨rfl, hb⟩
    have R5 := Lib.hid (cell_kept R4.out hb)
    have B5 := Lib.hid (below_step B4.out hb)
    clear hb B4 R4
    obtain ⟨c0, c1, c2, c3⟩ := cells4 R5.out
    have lt := heap_lt R5.out
    go_wp2_with fail
    refine (EQ.out _).mono ?_
    rintro e w6 ⟨rfl, hb⟩
    have B6 := Lib.hid (below_step (B5.out.alloc B5.out.size _) hb)
    clear hb c0 c1 c2 c3 B5 lt
    go_wp2
    go_ret
    exact ⟨rfl, B6.out⟩

set_option maxRecDepth 100000 in
set_option maxHeartbeats 400000 in
/-- The law's own walk. -/
theorem fnExactTakeBits_walk (s : ByteArray) (p wd h : Int) (n : Int) (hm : s.size ≤ maxLen) (wp : (Lit.int .i64 p).wf = true) (wwd : (Lit.int .i64 wd).wf = true) (wh : (Lit.int .i64 h).wf = true) (hwn : (Lit.int .i64 n).wf = true) (w : World) :
    Calls Try.prog 12 #[.agg #[.string s, .int .i64 p, .int .i64 wd, .int .i64 h], .int .i64 n] w fun e w' => e = .returned (.bool true) ∧ Below w.heap.size w w' := by
  have HZ := Lib.hid (szcache_any s p wd h (by unfold maxLen at hm; omega))
  have HT := Lib.hid (tocache_any s p wd h)
  clear hm wp wwd wh hwn
  by_cases hbig : 1048576 < s.size
  · rw [if_pos hbig] at HZ
    go_enter Try.func12, Try.ntmps12
    go_wp2_with fail
    refine (HZ.out _).mono ?_
    rintro e w1 ⟨rfl, hb⟩
    have B := Lib.hid (below_step (below_new w _) hb); clear hb
    go_wp2
    go_ret
    exact ⟨rfl, B.out⟩
  · rw [if_neg hbig] at HZ
    obtain ⟨q, y, x, v, o, SA, IA⟩ := take_both s p wd h n (by omega)
    have SA := Lib.hid SA
    have IA := Lib.hid IA
    have q1 : (v != v) = false := by simp
    have q2 : (o != o) = false := by simp
    have EQ := Lib.hid (eqcache_same s q y x)
    go_enter Try.func12, Try.ntmps12
    go_wp2_with fail
    refine (HZ.out _).mono ?_
    rintro e w1 ⟨rfl, hb⟩
    have H1 := Lib.hid (cell_kept (heap_alloc_new w _) hb)
    have B1 := Lib.hid (below_step (below_new w _) hb); clear hb
    obtain ⟨c0, c1, c2, c3⟩ := cells4 H1.out
    go_wp2_with fail
    refine (HT.out _).mono ?_
    rintro e w2 ⟨rfl, hb⟩
    have H2 := Lib.hid (cell_kept H1.out hb)
    have B2 := Lib.hid (below_step B1.out hb)
    clear hb c0 c1 c2 c3 H1 B1
    go_wp2_with fail
    refine (SA.out _).mono ?_
    rintro e w3 ⟨rfl, hb⟩
    have H3 := Lib.hid (cell_kept H2.out hb)
    have B3 := Lib.hid (below_step B2.out hb)
    clear hb H2 B2
    obtain ⟨c0, c1, c2, c3⟩ := cells4 H3.out
    have lt := heap_lt H3.out
    go_wp2_with fail
    refine (HT.out _).mono ?_
    rintro e w4 ⟨rfl, hb⟩
    have R4 := Lib.hid (cell_kept (heap_alloc_new w3 _) hb)
    have B4 := Lib.hid (below_step (B3.out.alloc B3.out.size _) hb)
    clear hb c0 c1 c2 c3 H3 B3 lt
    go_wp2_with fail
    refine (IA.out _).mono ?_
    rintro e w5 ⟨rfl, hb⟩
    have R5 := Lib.hid (cell_kept R4.out hb)
    have B5 := Lib.hid (below_step B4.out hb)
    clear hb B4 R4
    obtain ⟨c0, c1, c2, c3⟩ := cells4 R5.out
    have lt := heap_lt R5.out
    go_wp2_with fail
    refine (EQ.out _).mono ?_
    rintro e w6 ⟨rfl, hb⟩
    have B6 := Lib.hid (below_step (B5.out.alloc B5.out.size _) hb)
    clear hb c0 c1 c2 c3 B5 lt
    go_wp2
    go_ret
    exact ⟨rfl, B6.out⟩

set_option maxRecDepth 100000 in
set_option maxHeartbeats 400000 in
/-- The law's own walk. -/
theorem fnExactCacheNew_walk (s : ByteArray) (hm : s.size ≤ maxLen) (w : World) :
    Calls Try.prog 5 #[.string s] w fun e w' => e = .returned (.bool true) ∧ Below w.heap.size w w' := by
  unfold maxLen at hm
  have SA := Lib.hid (spec_new_any s)
  have IA := Lib.hid (impl_new_any s)
  have EQ := Lib.hid (eqcache_same s 0 0 0)
  unfold cv at *
  by_cases hbig : 1048576 < s.size
  · go_enter Try.func5, Try.ntmps5
    go_wp2
    go_ret
    exact ⟨rfl, Below.refl _ _⟩
  · go_enter Try.func5, Try.ntmps5
    go_wp2_with fail
    refine (SA.out _).mono ?_
    rintro e w1 ⟨rfl, hb⟩
    have B1 := Lib.hid hb; clear hb
    go_wp2_with fail
    refine (IA.out _).mono ?_
    rintro e w2 ⟨rfl, hb⟩
    have R2 := Lib.hid (cell_kept (heap_alloc_new w1 _) hb)
    have B2 := Lib.hid (below_step (B1.out.alloc B1.out.size _) hb)
    clear hb B1
    obtain ⟨c0, c1, c2, c3⟩ := cells4 R2.out
    have lt := heap_lt R2.out
    go_wp2_with fail
    refine (EQ.out _).mono ?_
    rintro e w3 ⟨rfl, hb⟩
    have B3 := Lib.hid (below_step (B2.out.alloc B2.out.size _) hb)
    clear hb c0 c1 c2 c3 B2 lt
    go_wp2
    go_ret
    exact ⟨rfl, B3.out⟩
end Go.Proofs.Ytpifpemlljeglaa
