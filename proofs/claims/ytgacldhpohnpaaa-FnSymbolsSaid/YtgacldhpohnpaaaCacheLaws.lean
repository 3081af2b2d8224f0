/-
  The walks of the exact laws of the bit cache. No condition.
-/
import Derived.Test.YtgacldhpohnpaaaCacheB
namespace Go.Proofs.Ytgacldhpohnpaaa
open Go.RowKit
set_option linter.unusedVariables false

set_option maxRecDepth 100000 in
set_option maxHeartbeats 400000 in
theorem szcache_any (s : ByteArray) (p wd h : Int) (hm : s.size ≤ 9223372036854775807) (w : World) :
    Calls Try.prog 39 #[.agg #[.string s, .int .i64 p, .int .i64 wd, .int .i64 h], .int .i64 1048576] w fun e w' => e = .returned (.int .i64 (if 1048576 < s.size then -1 else 1048576 - (s.size : Int))) ∧ Below w.heap.size w w' := by
  by_cases hb : 1048576 < s.size
  · rw [if_pos hb]
    go_enter Try.func39, Try.ntmps39
    go_wp2
    go_ret
    exact ⟨rfl, below_new _ _⟩
  · rw [if_neg hb]
    go_enter Try.func39, Try.ntmps39
    go_wp2
    go_ret
    exact ⟨rfl, below_new _ _⟩

set_option maxRecDepth 100000 in
set_option maxHeartbeats 400000 in
theorem tocache_any (s : ByteArray) (p wd h : Int) (w : World) :
    Calls Try.prog 41 #[.agg #[.string s, .int .i64 p, .int .i64 wd, .int .i64 h]] w fun e w' => e = .returned (.agg #[.string s, .int .i64 p, .int .i64 wd, .int .i64 h]) ∧ Below w.heap.size w w' := by
  go_enter Try.func41, Try.ntmps41
  go_wp2
  have e : (((w.alloc (.cells #[.string s, .int .i64 p, .int .i64 wd, .int .i64 h] 56)).alloc (.cells #[.string s, .int .i64 p, .int .i64 wd, .int .i64 h] 25)).alloc (.cells #[.string s, .int .i64 p, .int .i64 wd, .int .i64 h] 25)).heap[w.heap.size + 1]? = some (.cells #[.string s, .int .i64 p, .int .i64 wd, .int .i64 h] 25 (0, 0)) := by
    rw [Below.heap_alloc _ _ _ (by simp)]
    have := heap_alloc_new (w.alloc (.cells #[.string s, .int .i64 p, .int .i64 wd, .int .i64 h] 56)) (.cells #[.string s, .int .i64 p, .int .i64 wd, .int .i64 h] 25)
    simpa using this
  obtain ⟨e0, e1, e2, e3⟩ := cells4 e
  exact bodyPost_ret (v := .agg #[.string s, .int .i64 p, .int .i64 wd, .int .i64 h]) (by simp [results, Try.results41, go_sem, e0, e1, e2, e3]) rfl ⟨rfl, ((below_new w _).alloc (by simp) _).alloc (by simp; omega) _⟩

set_option maxRecDepth 100000 in
set_option maxHeartbeats 400000 in
theorem eqcache_same (s : ByteArray) (q y x : Int) (w : World) :
    Calls Try.prog 43 #[.agg #[.string s, .int .i64 q, .int .i64 y, .int .i64 x], .agg #[.string s, .int .i64 q, .int .i64 y, .int .i64 x]] w fun e w' => e = .returned (.bool true) ∧ Below w.heap.size w w' := by
  have q1 : (s.toList != s.toList) = false := by simp
  have q2 : (q != q) = false := by simp
  have q3 : (y != y) = false := by simp
  have q4 : (x != x) = false := by simp
  go_enter Try.func43, Try.ntmps43
  go_wp2
  go_ret
  exact ⟨rfl, (below_new w _).alloc (by simp) _⟩

/-- Both texts answer alike. -/
theorem refill_both (s : ByteArray) (p wd h : Int) (hs : s.size ≤ 1048576) : ∃ q y x : Int,
    (∀ w, Calls Try.prog 63 #[.agg #[.string s, .int .i64 p, .int .i64 wd, .int .i64 h]] w fun e w' => e = .returned (.agg #[.string s, .int .i64 q, .int .i64 y, .int .i64 x]) ∧ Below w.heap.size w w') ∧
    (∀ w, Calls Try.prog 125 #[.agg #[.string s, .int .i64 p, .int .i64 wd, .int .i64 h]] w fun e w' => e = .returned (.agg #[.string s, .int .i64 q, .int .i64 y, .int .i64 x]) ∧ Below w.heap.size w w') := by
  cases hk : ckOk s p wd h with
  | false => exact ⟨p, wd, h, spec_refill_out s p wd h hs hk, impl_refill_out s p wd h hs hk⟩
  | true =>
    obtain ⟨a, P, hA, rfl, rfl, rfl⟩ := ckOk_at s p wd h hk
    exact ⟨_, _, _, spec_refill_in s a P hs hA, impl_refill_in s a P hs hA⟩
theorem settle_both (s : ByteArray) (p wd h : Int) (hs : s.size ≤ 1048576) : ∃ q y x : Int,
    (∀ w, Calls Try.prog 76 #[.agg #[.string s, .int .i64 p, .int .i64 wd, .int .i64 h]] w fun e w' => e = .returned (.agg #[.string s, .int .i64 q, .int .i64 y, .int .i64 x]) ∧ Below w.heap.size w w') ∧
    (∀ w, Calls Try.prog 103 #[.agg #[.string s, .int .i64 p, .int .i64 wd, .int .i64 h]] w fun e w' => e = .returned (.agg #[.string s, .int .i64 q, .int .i64 y, .int .i64 x]) ∧ Below w.heap.size w w') := by
  cases hk : ckOk s p wd h with
  | false => exact ⟨p, wd, h, spec_settle_out s p wd h hs hk, impl_settle_out s p wd h hs hk⟩
  | true =>
    obtain ⟨a, P, hA, rfl, rfl, rfl⟩ := ckOk_at s p wd h hk
    exact ⟨_, _, _, spec_settle_in s a P hs hA, impl_settle_in s a P hs hA⟩
theorem cacheok_both (s : ByteArray) (p wd h : Int) (hs : s.size ≤ 1048576) : ∃ v : Bool,
    (∀ w, Calls Try.prog 19 #[.agg #[.string s, .int .i64 p, .int .i64 wd, .int .i64 h]] w fun e w' => e = .returned (.bool v) ∧ Below w.heap.size w w') ∧
    (∀ w, Calls Try.prog 65 #[.agg #[.string s, .int .i64 p, .int .i64 wd, .int .i64 h]] w fun e w' => e = .returned (.bool v) ∧ Below w.heap.size w w') :=
  ⟨_, spec_cacheok_any s p wd h hs, impl_cacheok_any s p wd h hs⟩
theorem placein_both (s : ByteArray) (p wd h : Int) (hs : s.size ≤ 1048576) : ∃ v : Int,
    (∀ w, Calls Try.prog 22 #[.agg #[.string s, .int .i64 p, .int .i64 wd, .int .i64 h]] w fun e w' => e = .returned (.int .i64 v) ∧ Below w.heap.size w w') ∧
    (∀ w, Calls Try.prog 23 #[.agg #[.string s, .int .i64 p, .int .i64 wd, .int .i64 h]] w fun e w' => e = .returned (.int .i64 v) ∧ Below w.heap.size w w') := by
  cases hk : ckOk s p wd h with
  | false => exact ⟨-1, spec_placein_out s p wd h hs hk, impl_placein_out s p wd h hs hk⟩
  | true =>
    obtain ⟨a, P, hA, rfl, rfl, rfl⟩ := ckOk_at s p wd h hk
    exact ⟨_, spec_placein_in s a P hs hA, impl_placein_in s a P hs hA⟩
theorem pkOk_nat (n : Int) (h : pkOk n = true) : ∃ m : Nat, n = m ∧ m ≤ 16 := by
  simp only [pkOk, Bool.and_eq_true, decide_eq_true_iff] at h
  exact ⟨n.toNat, by omega, by omega⟩
theorem peek_both (s : ByteArray) (p wd h n : Int) (hs : s.size ≤ 1048576) : ∃ q y x v : Int,
    (∀ w, Calls Try.prog 75 #[.agg #[.string s, .int .i64 p, .int .i64 wd, .int .i64 h], .int .i64 n] w fun e w' => e = .returned (.tuple #[.agg #[.string s, .int .i64 q, .int .i64 y, .int .i64 x], .int .i64 v]) ∧ Below w.heap.size w w') ∧
    (∀ w, Calls Try.prog 99 #[.agg #[.string s, .int .i64 p, .int .i64 wd, .int .i64 h], .int .i64 n] w fun e w' => e = .returned (.tuple #[.agg #[.string s, .int .i64 q, .int .i64 y, .int .i64 x], .int .i64 v]) ∧ Below w.heap.size w w') := by
  cases hk : ckOk s p wd h with
  | false => exact ⟨p, wd, h, 0, spec_peek_out s p wd h n hs (.inl hk), impl_peek_out s p wd h n hs (.inl hk)⟩
  | true =>
    cases hn : pkOk n with
    | false => exact ⟨p, wd, h, 0, spec_peek_out s p wd h n hs (.inr ⟨hk, hn⟩), impl_peek_out s p wd h n hs (.inr ⟨hk, hn⟩)⟩
    | true =>
      obtain ⟨a, P, hA, rfl, rfl, rfl⟩ := ckOk_at s p wd h hk
      obtain ⟨m, rfl, hm⟩ := pkOk_nat n hn
      exact ⟨_, _, _, _, spec_peek_in s a P m hs hA hm, impl_peek_in s a P m hs hA hm⟩
theorem skip_both (s : ByteArray) (p wd h n : Int) (hs : s.size ≤ 1048576) : ∃ (q y x : Int) (o : Bool),
    (∀ w, Calls Try.prog 37 #[.agg #[.string s, .int .i64 p, .int .i64 wd, .int .i64 h], .int .i64 n] w fun e w' => e = .returned (.tuple #[.agg #[.string s, .int .i64 q, .int .i64 y, .int .i64 x], .bool o]) ∧ Below w.heap.size w w') ∧
    (∀ w, Calls Try.prog 102 #[.agg #[.string s, .int .i64 p, .int .i64 wd, .int .i64 h], .int .i64 n] w fun e w' => e = .returned (.tuple #[.agg #[.string s, .int .i64 q, .int .i64 y, .int .i64 x], .bool o]) ∧ Below w.heap.size w w') := by
  cases hk : ckOk s p wd h with
  | false => exact ⟨p, wd, h, false, spec_skip_out s p wd h n hs (.inl hk), impl_skip_out s p wd h n hs (.inl hk)⟩
  | true =>
    cases hn : pkOk n with
    | false => exact ⟨p, wd, h, false, spec_skip_out s p wd h n hs (.inr ⟨hk, hn⟩), impl_skip_out s p wd h n hs (.inr ⟨hk, hn⟩)⟩
    | true =>
      obtain ⟨a, P, hA, rfl, rfl, rfl⟩ := ckOk_at s p wd h hk
      obtain ⟨m, rfl, hm⟩ := pkOk_nat n hn
      exact ⟨_, _, _, _, spec_skip_in s a P m hs hA hm, impl_skip_in s a P m hs hA hm⟩
end Go.Proofs.Ytgacldhpohnpaaa
