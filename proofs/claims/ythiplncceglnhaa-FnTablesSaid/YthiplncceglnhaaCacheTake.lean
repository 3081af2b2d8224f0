/-
  Contracts of TakeBits and CacheNew, in both texts. Condition: the string is no longer than 1048576 bytes (the laws ask no more).
-/
import Derived.Test.YthiplncceglnhaaCacheSkip
namespace Go.Proofs.Ythiplncceglnhaa
open Go.RowKit
set_option linter.unusedVariables false

theorem heap_keep {w : World} {g : Nat} {o : Obj} (h : w.heap[g]? = some o) (x : Obj) : (w.alloc x).heap[g]? = some o := by
  rw [Below.heap_alloc _ _ _ (heap_lt h)]; exact h
/-- The end of a call that answers a cache out of its result's block, behind an allocation. -/
theorem out4a {w w2 : World} {T : TypeId} {g : Nat} {u v x y : Value} (s : ByteArray) (p wd k : Int) (h : w2.heap[g]? = some (.cells #[u, v, x, y] T (0, 0))) (hg : w.heap.size ≤ g) (hb : Below w.heap.size w w2) (o : Obj) : ∃ w3, w3 = (((w2.setCell ⟨g, 0, none⟩ (.string s)).setCell ⟨g, 1, none⟩ (.int .i64 p)).setCell ⟨g, 2, none⟩ (.int .i64 wd)).setCell ⟨g, 3, none⟩ (.int .i64 k) ∧
      (w3.alloc o).cell? ⟨g, 0, none⟩ = some (.string s) ∧ (w3.alloc o).cell? ⟨g, 1, none⟩ = some (.int .i64 p) ∧ (w3.alloc o).cell? ⟨g, 2, none⟩ = some (.int .i64 wd) ∧ (w3.alloc o).cell? ⟨g, 3, none⟩ = some (.int .i64 k) ∧ Below w.heap.size w (w3.alloc o) := by
  obtain ⟨a0, a1, a2, a3⟩ := cells4 (heap_keep (put4_block h s p wd k) o)
  have b := put4_below hb g hg s p wd k
  exact ⟨_, rfl, a0, a1, a2, a3, b.alloc b.size o⟩
/-- A second Peek of as many bits reads no more. -/
theorem pkP_again (s : ByteArray) (a P n : Nat) (hA : At s a P) (hn : n ≤ 16) : pkP s a (pkP s a P n) n = pkP s a P n := by
  obtain ⟨h1, h2, h3⟩ := hA
  unfold pkP
  by_cases h : 8 * P - a < n
  · rw [if_pos h]
    have e : rfP s a P = min s.size ((a + 48) / 8 + 1) := by rw [rfP, if_pos (by omega)]
    by_cases h4 : 8 * rfP s a P - a < n
    · rw [if_pos h4]
      have e2 : rfP s a (rfP s a P) = min s.size ((a + 48) / 8 + 1) := by rw [rfP, if_pos (by omega)]
      rw [e2, e]
    · rw [if_neg h4]
  · rw [if_neg h, if_neg h]
/-- What TakeBits answers where `Q` bytes are read behind Refill. -/
def tkR (s : ByteArray) (a Q n : Nat) : Value := if n ≤ 8 * Q - a then .tuple #[cw s (a + n) Q, .int .i64 (pkV s a Q n), .bool true] else .tuple #[cw s a Q, .int .i64 0, .bool false]

set_option maxRecDepth 100000 in
set_option maxHeartbeats 800000 in
theorem spec_new_any (s : ByteArray) (w : World) :
    Calls Try.prog 60 #[.string s] w fun e w' => e = .returned (cv s 0 0 0) ∧ Below w.heap.size w w' := by
  unfold cv
  go_enter Try.func60, Try.ntmps60
  go_wp2
  obtain ⟨e0, e1, e2, e3⟩ := cells4 (heap_alloc_new w (.cells #[.string s, .int .i64 0, .int .i64 0, .int .i64 0] 25))
  exact bodyPost_ret (v := .agg #[.string s, .int .i64 0, .int .i64 0, .int .i64 0]) (by simp [results, Try.results60, go_sem, e0, e1, e2, e3]) rfl ⟨rfl, below_new _ _⟩
end Go.Proofs.Ythiplncceglnhaa
