/-
  Contracts of the bit reader's functions, in both texts. Condition: the string is no longer than 1048576 bytes (the laws ask no more).
-/
import Derived.Test.YthiplncceglnhaaRows
import Derived.Test.YthiplncceglnhaaKit
import Derived.Test.YthiplncceglnhaaBitAt
namespace Go.Proofs.Ythiplncceglnhaa
open Go.RowKit
set_option linter.unusedVariables false

/-- What ReaderOk answers. -/
def rdOk (s : ByteArray) (a : Int) : Bool := decide (0 ≤ a) && decide (a ≤ 8 * (s.size : Int))
/-- What Left answers. -/
def leftV (s : ByteArray) (a : Int) : Int := if rdOk s a = true then 8 * (s.size : Int) - a else 0
theorem rdOk_true (s : ByteArray) (a : Int) : rdOk s a = true ↔ 0 ≤ a ∧ a ≤ 8 * (s.size : Int) := by simp [rdOk]
theorem rdOk_false (s : ByteArray) (a : Int) : rdOk s a = false ↔ a < 0 ∨ 8 * (s.size : Int) < a := by simp [rdOk]; omega

theorem heap_lt {w : World} {g : Nat} {o : Obj} (h : w.heap[g]? = some o) : g < w.heap.size := by
  by_cases hn : g < w.heap.size
  · exact hn
  · rw [Array.getElem?_eq_none (by omega)] at h; cases h
/-- A block made by the call, behind a call that wrote behind it: its cells. -/
theorem cell_kept {w w' : World} {g : Nat} {cs : Array Value} {T : TypeId} {fr : Nat × Nat} (h : w.heap[g]? = some (.cells cs T fr)) (hb : Below w.heap.size w w') : w'.heap[g]? = some (.cells cs T fr) := by
  by_cases hn : g < w.heap.size
  · rw [hb.block g hn]; exact h
  · rw [Array.getElem?_eq_none (by omega)] at h; cases h

/-- The cells of a value of two cells that the call has boxed, behind a call. -/
theorem box2_kept {w w' : World} {u v : Value} {T : TypeId} (hb : Below (w.alloc (.cells #[u, v] T)).heap.size (w.alloc (.cells #[u, v] T)) w') : w'.cell? ⟨w.heap.size, 0, none⟩ = some u ∧ w'.cell? ⟨w.heap.size, 1, none⟩ = some v := by
  have h := cell_kept (heap_alloc_new w _) hb
  exact ⟨cell_of_row _ _ 0 _ _ _ h, cell_of_row _ _ 1 _ _ _ h⟩
theorem below_new (w : World) (o : Obj) : Below w.heap.size w (w.alloc o) := (Below.refl _ _).alloc (Nat.le_refl _) o

set_option maxRecDepth 100000 in
set_option maxHeartbeats 400000 in
theorem impl_readerok_any (s : ByteArray) (a : Int) (hs : s.size ≤ 1048576) (w : World) :
    Calls Try.prog 82 #[.agg #[.string s, .int .i64 a]] w fun e w' => e = .returned (.bool (rdOk s a)) ∧ Below w.heap.size w w' := by
  by_cases h0 : 0 ≤ a
  · have hge : decide (0 ≤ a) = true := by simpa using h0
    have hr : decide (a ≤ 8 * (s.size : Int)) = rdOk s a := by simp [rdOk, h0]
    have HR := Lib.hid hr; clear hr
    go_enter Try.func82, Try.ntmps82
    go_wp2
    go_ret
    exact ⟨by rw [HR.out]; rfl, below_new _ _⟩
  · have hge : decide (0 ≤ a) = false := by simpa using h0
    have hr : rdOk s a = false := by rw [rdOk_false]; omega
    have HR := Lib.hid hr; clear hr
    go_enter Try.func82, Try.ntmps82
    go_wp2
    go_ret
    exact ⟨by rw [HR.out]; rfl, below_new _ _⟩

set_option maxRecDepth 100000 in
set_option maxHeartbeats 400000 in
theorem l1In_any (x l h : Int) (w : World) :
    Calls Try.prog 43 #[.int .i64 x, .int .i64 l, .int .i64 h] w fun e w' => e = .returned (.bool ((decide (l ≤ x) && decide (x ≤ h)))) ∧ w = w' := by
  by_cases h0 : l ≤ x
  · have hge : decide (l ≤ x) = true := by simpa using h0
    have hr : decide (x ≤ h) = (decide (l ≤ x) && decide (x ≤ h)) := by simp [h0]
    rw [← hr]; clear hr
    go_enter Try.func43, Try.ntmps43
    go_wp2
    go_ret
    exact ⟨rfl, rfl⟩
  · have hge : decide (l ≤ x) = false := by simpa using h0
    have hr : (decide (l ≤ x) && decide (x ≤ h)) = false := by simp [h0]
    rw [hr]; clear hr
    go_enter Try.func43, Try.ntmps43
    go_wp2
    go_ret
    exact ⟨rfl, rfl⟩

set_option maxRecDepth 100000 in
set_option maxHeartbeats 400000 in
theorem spec_readerok_any (s : ByteArray) (a : Int) (hs : s.size ≤ 1048576) (w : World) :
    Calls Try.prog 30 #[.agg #[.string s, .int .i64 a]] w fun e w' => e = .returned (.bool (rdOk s a)) ∧ Below w.heap.size w w' := by
  have HC := Lib.hid (l1In_any a 0 (8 * (s.size : Int)))
  go_enter Try.func30, Try.ntmps30
  go_wp2_with fail
  refine (HC.out _).mono ?_
  rintro e w' ⟨rfl, rfl⟩
  go_wp2
  go_ret
  exact ⟨rfl, below_new _ _⟩

set_option maxRecDepth 100000 in
set_option maxHeartbeats 400000 in
theorem impl_left_any (s : ByteArray) (a : Int) (hs : s.size ≤ 1048576) (w : World) :
    Calls Try.prog 80 #[.agg #[.string s, .int .i64 a]] w fun e w' => e = .returned (.int .i64 (leftV s a)) ∧ Below w.heap.size w w' := by
  have HC := Lib.hid (impl_readerok_any s a hs)
  cases hok : rdOk s a with
  | true =>
    rw [hok] at HC
    have hl : leftV s a = 8 * (s.size : Int) - a := by rw [leftV, if_pos hok]
    rw [hl]
    obtain ⟨h0, h1⟩ := (rdOk_true s a).1 hok
    clear hl hok
    go_enter Try.func80, Try.ntmps80
    go_wp2_with fail
    refine (HC.out _).mono ?_
    rintro e w1 ⟨rfl, hb⟩
    obtain ⟨c0, c1⟩ := box2_kept hb
    have B := Lib.hid (below_step (below_new w _) hb); clear hb
    go_wp2
    go_ret
    exact ⟨rfl, B.out⟩
  | false =>
    rw [hok] at HC
    have hl : leftV s a = 0 := by rw [leftV, hok]; rfl
    rw [hl]
    clear hl hok
    go_enter Try.func80, Try.ntmps80
    go_wp2_with fail
    refine (HC.out _).mono ?_
    rintro e w1 ⟨rfl, hb⟩
    have B := Lib.hid (below_step (below_new w _) hb); clear hb
    go_wp2
    go_ret
    exact ⟨rfl, B.out⟩
set_option maxRecDepth 100000 in
set_option maxHeartbeats 400000 in
theorem spec_left_any (s : ByteArray) (a : Int) (hs : s.size ≤ 1048576) (w : World) :
    Calls Try.prog 69 #[.agg #[.string s, .int .i64 a]] w fun e w' => e = .returned (.int .i64 (leftV s a)) ∧ Below w.heap.size w w' := by
  have HC := Lib.hid (spec_readerok_any s a hs)
  cases hok : rdOk s a with
  | true =>
    rw [hok] at HC
    have hl : leftV s a = 8 * (s.size : Int) - a := by rw [leftV, if_pos hok]
    rw [hl]
    obtain ⟨h0, h1⟩ := (rdOk_true s a).1 hok
    clear hl hok
    go_enter Try.func69, Try.ntmps69
    go_wp2_with fail
    refine (HC.out _).mono ?_
    rintro e w1 ⟨rfl, hb⟩
    obtain ⟨c0, c1⟩ := box2_kept hb
    have B := Lib.hid (below_step (below_new w _) hb); clear hb
    go_wp2
    go_ret
    exact ⟨rfl, B.out⟩
  | false =>
    rw [hok] at HC
    have hl : leftV s a = 0 := by rw [leftV, hok]; rfl
    rw [hl]
    clear hl hok
    go_enter Try.func69, Try.ntmps69
    go_wp2_with fail
    refine (HC.out _).mono ?_
    rintro e w1 ⟨rfl, hb⟩
    have B := Lib.hid (below_step (below_new w _) hb); clear hb
    go_wp2
    go_ret
    exact ⟨rfl, B.out⟩
end Go.Proofs.Ythiplncceglnhaa
