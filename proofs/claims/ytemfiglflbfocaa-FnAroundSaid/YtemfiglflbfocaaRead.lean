/-
  Contracts of the bit reader's functions, in both texts. Condition: the string is no longer than 1048576 bytes (the laws ask no more).
  Contracts of ReadBits, in both texts. Condition: the string is no longer than 1048576 bytes (the laws ask no more).
  Contracts of ZerosAhead, in both texts. Condition: the string is no longer than 1048576 bytes (the laws ask no more).
  The walks of the exact laws of the bit reader. No condition.
  Contracts of StopOk, in both texts, and the walk of its exact law. Condition: the string is no longer than 1048576 bytes (the law asks no more).
  Contracts of LevelOf, NumOfLevel and ErWord, in both texts, and the walks of their laws. Condition: the numbers are ints.
-/
import Derived.Test.YtemfiglflbfocaaRows
import Derived.Test.YtemfiglflbfocaaBase
namespace Go.Proofs.Ytemfiglflbfocaa
open Go.RowKit
set_option linter.unusedVariables false

/-- What ReaderOk answers. -/
def rdOk (s : ByteArray) (a : Int) : Bool := decide (0 ≤ a) && decide (a ≤ 8 * (s.size : Int))
/-- What Left answers. -/
def leftV (s : ByteArray) (a : Int) : Int := if rdOk s a = true then 8 * (s.size : Int) - a else 0
theorem rdOk_true (s : ByteArray) (a : Int) : rdOk s a = true ↔ 0 ≤ a ∧ a ≤ 8 * (s.size : Int) := by simp [rdOk]
theorem rdOk_false (s : ByteArray) (a : Int) : rdOk s a = false ↔ a < 0 ∨ 8 * (s.size : Int) < a := by simp [rdOk]; omega

theorem heap_lt {w : World} {g : Nat} {o : Obj} (h : w.heap[g]? = some o) : g < w.heap.size := by
  by_cases hn : g < w.heap.size
  · exact hn
  · rw [Array.getElem?_eq_none (by omega)] at h; cases h
/-- A block made by the call, behind a call that wrote behind it: its cells. -/
theorem cell_kept {w w' : World} {g : Nat} {cs : Array Value} {T : TypeId} {fr : Nat × Nat} (h : w.heap[g]? = some (.cells cs T fr)) (hb : Below w.heap.size w w') : w'.heap[g]? = some (.cells cs T fr) := by
  by_cases hn : g < w.heap.size
  · rw [hb.block g hn]; exact h
  · rw [Array.getElem?_eq_none (by omega)] at h; cases h

/-- The cells of a value of two cells that the call has boxed, behind a call. -/
theorem box2_kept {w w' : World} {u v : Value} {T : TypeId} (hb : Below (w.alloc (.cells #[u, v] T)).heap.size (w.alloc (.cells #[u, v] T)) w') : w'.cell? ⟨w.heap.size, 0, none⟩ = some u ∧ w'.cell? ⟨w.heap.size, 1, none⟩ = some v := by
  have h := cell_kept (heap_alloc_new w _) hb
  exact ⟨cell_of_row _ _ 0 _ _ _ h, cell_of_row _ _ 1 _ _ _ h⟩
theorem below_new (w : World) (o : Obj) : Below w.heap.size w (w.alloc o) := (Below.refl _ _).alloc (Nat.le_refl _) o

set_option maxRecDepth 100000 in
set_option maxHeartbeats 400000 in
theorem l1In_any (x l h : Int) (w : World) :
    Calls Try.prog 63 #[.int .i64 x, .int .i64 l, .int .i64 h] w fun e w' => e = .returned (.bool ((decide (l ≤ x) && decide (x ≤ h)))) ∧ w = w' := by
  by_cases h0 : l ≤ x
  · have hge : decide (l ≤ x) = true := by simpa using h0
    have hr : decide (x ≤ h) = (decide (l ≤ x) && decide (x ≤ h)) := by simp [h0]
    rw [← hr]; clear hr
    go_enter Try.func63, Try.ntmps63
    go_wp2
    go_ret
    exact ⟨rfl, rfl⟩
  · have hge : decide (l ≤ x) = false := by simpa using h0
    have hr : (decide (l ≤ x) && decide (x ≤ h)) = false := by simp [h0]
    rw [hr]; clear hr
    go_enter Try.func63, Try.ntmps63
    go_wp2
    go_ret
    exact ⟨rfl, rfl⟩

end Go.Proofs.Ytemfiglflbfocaa

namespace Go.Proofs.Ytemfiglflbfocaa
open Go.RowKit
set_option linter.unusedVariables false

/-- The number of `k` bits from bit `a` on. -/
def rdN (s : ByteArray) (a : Nat) : Nat → Nat
  | 0 => 0
  | k + 1 => 2 * rdN s a k + bitN s (a + k)
theorem rdN_lt (s : ByteArray) (a k : Nat) : rdN s a k < 2 ^ k := by
  induction k with
  | zero => simp [rdN]
  | succ k ih =>
    have := bitN_lt s (a + k)
    rw [rdN, Nat.pow_succ]
    omega
/-- Are there `n` bits to read? -/
def rbOk (s : ByteArray) (a n : Int) : Bool := rdOk s a && (decide (0 ≤ n) && (decide (n ≤ 32) && decide (n ≤ leftV s a)))

/-- Two blocks of two cells that the call has made, behind a call. -/
theorem box22_kept {w w' : World} {u v x y : Value} {T U : TypeId} (hb : Below ((w.alloc (.cells #[u, v] T)).alloc (.cells #[x, y] U)).heap.size ((w.alloc (.cells #[u, v] T)).alloc (.cells #[x, y] U)) w') :
    w'.heap[w.heap.size]? = some (.cells #[u, v] T (0, 0)) ∧ w'.heap[w.heap.size + 1]? = some (.cells #[x, y] U (0, 0)) := by
  have h1 : ((w.alloc (.cells #[u, v] T)).alloc (.cells #[x, y] U)).heap[w.heap.size]? = some (.cells #[u, v] T (0, 0)) := by
    rw [Below.heap_alloc _ _ _ (by simp)]; exact heap_alloc_new w _
  have h2 : ((w.alloc (.cells #[u, v] T)).alloc (.cells #[x, y] U)).heap[w.heap.size + 1]? = some (.cells #[x, y] U (0, 0)) := by
    have := heap_alloc_new (w.alloc (.cells #[u, v] T)) (.cells #[x, y] U)
    simpa using this
  exact ⟨cell_kept h1 hb, cell_kept h2 hb⟩
theorem cells2 {w : World} {g : Nat} {u v : Value} {T : TypeId} {fr : Nat × Nat} (h : w.heap[g]? = some (.cells #[u, v] T fr)) : w.cell? ⟨g, 0, none⟩ = some u ∧ w.cell? ⟨g, 1, none⟩ = some v :=
  ⟨cell_of_row _ _ 0 _ _ _ h, cell_of_row _ _ 1 _ _ _ h⟩

/-- Both cells of a block written. -/
theorem block_set2 {w : World} {g : Nat} {u v : Value} {T : TypeId} (h : w.heap[g]? = some (.cells #[u, v] T (0, 0))) (x y : Value) :
    ((w.setCell ⟨g, 0, none⟩ x).setCell ⟨g, 1, none⟩ y).heap[g]? = some (.cells #[x, y] T (0, 0)) := by
  rw [heap_setCell_same _ g 1 _ _ _ (heap_setCell_same w g 0 _ _ _ h)]
  rfl
theorem below_set2 {w w' : World} (h : Below w.heap.size w w') (g : Nat) (hg : w.heap.size ≤ g) (x y : Value) : Below w.heap.size w ((w'.setCell ⟨g, 0, none⟩ x).setCell ⟨g, 1, none⟩ y) :=
  Below.setCell (Below.setCell h (p := ⟨g, 0, none⟩) hg x) (p := ⟨g, 1, none⟩) hg y

/-- The ways in which there is nothing to read. -/
theorem rbOk_ways (s : ByteArray) (a n : Int) (h : rbOk s a n = false) : rdOk s a = false ∨ (rdOk s a = true ∧ n < 0) ∨ (rdOk s a = true ∧ 0 ≤ n ∧ 32 < n) ∨ (rdOk s a = true ∧ 0 ≤ n ∧ n ≤ 32 ∧ leftV s a < n) := by
  cases hk : rdOk s a with
  | false => exact .inl rfl
  | true =>
    simp only [rbOk, hk, Bool.true_and, Bool.and_eq_false_iff, decide_eq_false_iff_not] at h
    by_cases h1 : n < 0
    · exact .inr (.inl ⟨rfl, h1⟩)
    · by_cases h2 : 32 < n
      · exact .inr (.inr (.inl ⟨rfl, by omega, h2⟩))
      · exact .inr (.inr (.inr ⟨rfl, by omega, by omega, by omega⟩))

/-- The end of a call that answers its reader, zero and false: the reader's copy in the result's block. -/
theorem copy_out {w w2 : World} {T : TypeId} {u v : Value} (s : ByteArray) (a : Int) (h : w2.heap[w.heap.size + 1]? = some (.cells #[u, v] T (0, 0))) (hb : Below w.heap.size w w2) : ∃ w3, w3 = (w2.setCell ⟨w.heap.size + 1, 0, none⟩ (.string s)).setCell ⟨w.heap.size + 1, 1, none⟩ (.int .i64 a) ∧
      w3.cell? ⟨w.heap.size + 1, 0, none⟩ = some (.string s) ∧ w3.cell? ⟨w.heap.size + 1, 1, none⟩ = some (.int .i64 a) ∧ Below w.heap.size w w3 :=
  ⟨_, rfl, (cells2 (block_set2 h _ _)).1, (cells2 (block_set2 h _ _)).2, below_set2 hb (w.heap.size + 1) (Nat.le_succ _) _ _⟩

theorem rbOk_nat (s : ByteArray) (a n : Int) (h : rbOk s a n = true) : ∃ b m : Nat, a = b ∧ n = m ∧ m ≤ 32 ∧ b + m ≤ 8 * s.size := by
  simp only [rbOk, Bool.and_eq_true, decide_eq_true_iff, rdOk_true] at h
  obtain ⟨⟨h1, h2⟩, h3, h4, h5⟩ := h
  rw [leftV, if_pos ((rdOk_true s a).2 ⟨h1, h2⟩)] at h5
  exact ⟨a.toNat, n.toNat, by omega, by omega, by omega, by omega⟩
/-- What ReadBits answers: the place, the number, whether there was one. -/
def rbPlace (s : ByteArray) (a n : Int) : Int := if rbOk s a n = true then a + n else a
def rbNum (s : ByteArray) (a n : Int) : Int := if rbOk s a n = true then (rdN s a.toNat n.toNat : Int) else 0
end Go.Proofs.Ytemfiglflbfocaa

namespace Go.Proofs.Ytemfiglflbfocaa
open Go.RowKit
set_option linter.unusedVariables false

/-- How many 0 bits come from bit `a` on, of `k` bits. -/
def zrun (s : ByteArray) (a : Nat) : Nat → Nat
  | 0 => 0
  | k + 1 => if bitN s a = 0 then zrun s (a + 1) k + 1 else 0
theorem zrun_spec (s : ByteArray) : ∀ (k a : Nat), zrun s a k ≤ k ∧ (∀ j, j < zrun s a k → bitN s (a + j) = 0) ∧ (zrun s a k < k → bitN s (a + zrun s a k) = 1)
  | 0, a => ⟨Nat.le_refl _, fun j hj => absurd hj (Nat.not_lt_zero _), fun h => absurd h (Nat.not_lt_zero _)⟩
  | k + 1, a => by
    obtain ⟨i1, i2, i3⟩ := zrun_spec s k (a + 1)
    by_cases h : bitN s a = 0
    · have e : zrun s a (k + 1) = zrun s (a + 1) k + 1 := by rw [zrun, if_pos h]
      rw [e]
      refine ⟨by omega, fun j hj => ?_, fun hj => ?_⟩
      · cases j with
        | zero => exact h
        | succ j => have := i2 j (by omega); rw [show a + (j + 1) = a + 1 + j by omega]; exact this
      · have := i3 (by omega); rw [show a + (zrun s (a + 1) k + 1) = a + 1 + zrun s (a + 1) k by omega]; exact this
    · have e : zrun s a (k + 1) = 0 := by rw [zrun, if_neg h]
      rw [e]
      have := bitN_lt s a
      exact ⟨by omega, fun j hj => absurd hj (Nat.not_lt_zero _), fun _ => by rw [Nat.add_zero]; omega⟩
/-- What ZerosAhead answers. -/
def zaV (s : ByteArray) (a : Int) : Int := if rdOk s a = true then (zrun s a.toNat (8 * s.size - a.toNat) : Int) else 0

end Go.Proofs.Ytemfiglflbfocaa

namespace Go.Proofs.Ytemfiglflbfocaa
open Go.RowKit
set_option linter.unusedVariables false

/-- A block behind an allocation; it lies before the heap's end. -/
theorem heap_keep {w : World} {g : Nat} {o : Obj} (h : w.heap[g]? = some o) (x : Obj) : (w.alloc x).heap[g]? = some o := by
  rw [Below.heap_alloc _ _ _ (heap_lt h)]; exact h

end Go.Proofs.Ytemfiglflbfocaa

namespace Go.Proofs.Ytemfiglflbfocaa
open Go.RowKit
set_option linter.unusedVariables false

/-- What StopOk answers. -/
def soV (s : ByteArray) (a : Int) : Int :=
  if leftV s a = 0 then 1 else if leftV s a ≤ 8 ∧ bitV s a = 1 ∧ zaV s (a + 1) = leftV s a - 1 then 0 else 6

theorem leftV_range (s : ByteArray) (a : Int) (hs : s.size ≤ 1048576) : 0 ≤ leftV s a ∧ leftV s a ≤ 8388608 := by
  unfold leftV
  cases h : rdOk s a with
  | true => have := (rdOk_true s a).1 h; simp; omega
  | false => simp
theorem leftV_pos (s : ByteArray) (a : Int) (h : leftV s a ≠ 0) : 0 ≤ a ∧ a < 8 * (s.size : Int) ∧ leftV s a = 8 * (s.size : Int) - a ∧ leftV s (a + 1) = leftV s a - 1 ∧ rdOk s a = true := by
  unfold leftV at h
  cases hk : rdOk s a with
  | false => rw [hk] at h; simp at h
  | true =>
    rw [hk] at h
    have h1 := (rdOk_true s a).1 hk
    have h2 : a < 8 * (s.size : Int) := by simp at h; omega
    have h3 : rdOk s (a + 1) = true := (rdOk_true s (a + 1)).2 (by omega)
    refine ⟨h1.1, h2, by rw [leftV, if_pos hk], ?_, rfl⟩
    rw [leftV, if_pos h3, leftV, if_pos hk]
    omega

theorem frozen2 {w : World} {g : Nat} {u v : Value} {T : TypeId} (h : w.heap[g]? = some (.cells #[u, v] T (0, 0))) : w.frozen? ⟨g, 0, none⟩ = false ∧ w.frozen? ⟨g, 1, none⟩ = false :=
  ⟨frozen_of_row w g 0 _ _ h, frozen_of_row w g 1 _ _ h⟩
theorem held2_drew {w w1 : World} {g : Nat} {u v : Value} (h : w1.cell? ⟨g, 0, none⟩ = some u ∧ w1.cell? ⟨g, 1, none⟩ = some v ∧ Below w.heap.size w w1) : w1.drew.cell? ⟨g, 0, none⟩ = some u ∧ w1.drew.cell? ⟨g, 1, none⟩ = some v ∧ Below w.heap.size w w1.drew :=
  ⟨h.1, h.2.1, h.2.2.drew⟩
theorem held2_below {w w1 : World} {g : Nat} {u v : Value} (h : w1.cell? ⟨g, 0, none⟩ = some u ∧ w1.cell? ⟨g, 1, none⟩ = some v ∧ Below w.heap.size w w1) : Below w.heap.size w w1 := h.2.2
theorem held2 {w w1 w2 : World} {g : Nat} {u v : Value} (h : w1.cell? ⟨g, 0, none⟩ = some u ∧ w1.cell? ⟨g, 1, none⟩ = some v ∧ Below w.heap.size w w1) (hb : Below w1.heap.size w1 w2) :
    w2.cell? ⟨g, 0, none⟩ = some u ∧ w2.cell? ⟨g, 1, none⟩ = some v ∧ Below w.heap.size w w2 := by
  have h0 := World.block_lt_of_cell? w1 _ h.1
  exact ⟨(hb.cell (p := ⟨g, 0, none⟩) h0).trans h.1, (hb.cell (p := ⟨g, 1, none⟩) h0).trans h.2.1, below_step h.2.2 hb⟩

end Go.Proofs.Ytemfiglflbfocaa

namespace Go.Proofs.Ytemfiglflbfocaa
open Go.RowKit
set_option linter.unusedVariables false

/-- What LevelOf gives. -/
def levV (n : Int) : Int := if n < 0 then 0 else if n % 2 = 0 then n / 2 + 1 else -(n / 2 + 1)
/-- What NumOfLevel gives. -/
def numV (v : Int) : Int := if 0 < v then wrap64 (wrap64 (2 * v) - 2) else if v < 0 then wrap64 (wrap64 (-2 * v) - 1) else -1

/-- What ErWord gives. -/
def erV (e : Int) : ByteArray := if e = 0 then ⟨#[110, 111, 110, 101]⟩ else if e = 1 then ⟨#[115, 104, 111, 114, 116]⟩ else if e = 2 then ⟨#[104, 101, 97, 100, 101, 114]⟩ else if e = 3 then ⟨#[108, 105, 109, 105, 116]⟩ else if e = 4 then ⟨#[99, 111, 100, 101]⟩ else if e = 5 then ⟨#[99, 111, 101, 102]⟩ else if e = 6 then ⟨#[116, 97, 105, 108]⟩ else ⟨#[]⟩

end Go.Proofs.Ytemfiglflbfocaa
