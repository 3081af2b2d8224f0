/-
  The walks of the exact laws of the bit reader. No condition.
-/
import Derived.Test.YthgddekklpojmaaZeros
namespace Go.Proofs.Ythgddekklpojmaa
open Go.RowKit
set_option linter.unusedVariables false

set_option maxRecDepth 100000 in
set_option maxHeartbeats 400000 in
theorem szreader_any (s : ByteArray) (a : Int) (hm : s.size ≤ 9223372036854775807) (w : World) :
    Calls Try.prog 24 #[.agg #[.string s, .int .i64 a], .int .i64 1048576] w fun e w' => e = .returned (.int .i64 (if 1048576 < s.size then -1 else 1048576 - (s.size : Int))) ∧ Below w.heap.size w w' := by
  by_cases h : 1048576 < s.size
  · rw [if_pos h]
    go_enter Try.func24, Try.ntmps24
    go_wp2
    go_ret
    exact ⟨rfl, below_new _ _⟩
  · rw [if_neg h]
    go_enter Try.func24, Try.ntmps24
    go_wp2
    go_ret
    exact ⟨rfl, below_new _ _⟩

set_option maxRecDepth 100000 in
set_option maxHeartbeats 400000 in
theorem toreader_any (s : ByteArray) (a : Int) (w : World) :
    Calls Try.prog 26 #[.agg #[.string s, .int .i64 a]] w fun e w' => e = .returned (.agg #[.string s, .int .i64 a]) ∧ Below w.heap.size w w' := by
  go_enter Try.func26, Try.ntmps26
  go_wp2
  have e0 : (((w.alloc (.cells #[.string s, .int .i64 a] 37)).alloc (.cells #[.string s, .int .i64 a] 30)).alloc (.cells #[.string s, .int .i64 a] 30)).heap[w.heap.size + 1]? = some (.cells #[.string s, .int .i64 a] 30 (0, 0)) := by
    rw [Below.heap_alloc _ _ _ (by simp)]
    have := heap_alloc_new (w.alloc (.cells #[.string s, .int .i64 a] 37)) (.cells #[.string s, .int .i64 a] 30)
    simpa using this
  obtain ⟨c0, c1⟩ := cells2 e0
  exact bodyPost_ret (v := .agg #[.string s, .int .i64 a]) (by simp [results, Try.results26, go_sem]) rfl ⟨rfl, ((below_new w _).alloc (by simp) _).alloc (by simp; omega) _⟩

set_option maxRecDepth 100000 in
set_option maxHeartbeats 400000 in
theorem eqreader_same (s : ByteArray) (a : Int) (w : World) :
    Calls Try.prog 27 #[.agg #[.string s, .int .i64 a], .agg #[.string s, .int .i64 a]] w fun e w' => e = .returned (.bool true) ∧ Below w.heap.size w w' := by
  have q1 : (s.toList != s.toList) = false := by simp
  have q2 : (a != a) = false := by simp
  go_enter Try.func27, Try.ntmps27
  go_wp2
  go_ret
  exact ⟨rfl, (below_new w _).alloc (by simp) _⟩

/-- A block behind an allocation; it lies before the heap's end. -/
theorem heap_keep {w : World} {g : Nat} {o : Obj} (h : w.heap[g]? = some o) (x : Obj) : (w.alloc x).heap[g]? = some o := by
  rw [Below.heap_alloc _ _ _ (heap_lt h)]; exact h

end Go.Proofs.Ythgddekklpojmaa
