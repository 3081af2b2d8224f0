/-
  Plain helpers: bytes and strings as lists, rows of bytes that a call owns, and what the conversions between them give. No condition but those that each lemma states.
  Plain helpers: rows of integers, those that came in and those that a call owns; contracts of what the laws do with them (compare, mark, look again, copy). No condition but those that each lemma states.
  Contracts of Var, in both texts: both give the same bytes for every number. Condition: the number is an int.
  Contracts of BitAt, in both texts, and the law of BitAt. Condition: the string is no longer than 1048576 bytes (the law asks no more).
-/
import Derived.WalkKit
import Derived.WalkSpells
import Derived.WalkLawsBesides
import Derived.Lib.Hide
import Derived.Laws.IdiomStrings
import Derived.Laws.OwnMore
import Derived.Laws.BitsLemmas
import Derived.RegionTactic
import Derived.Deep.RegionHeld3
import Derived.Test.YtgccphidnbfcaaaRows
namespace Go.Proofs.Ytgccphidnbfcaaa
open Go.RowKit

end Go.Proofs.Ytgccphidnbfcaaa

namespace Go.Proofs.Ytgccphidnbfcaaa
open Go.RowKit
set_option linter.unusedVariables false

/-- An integer as a cell; a list of integers as cells. -/
def iv (x : Int) : Value := .int .i64 x
def ivs (l : List Int) : List Value := l.map iv
theorem ivs_at (l : List Int) (j : Nat) (h : j < l.length) : (ivs l)[j]? = some (.int .i64 (l.getD j 0)) := by
  rw [List.getD_eq_getElem?_getD]
  simp [ivs, h, iv]
/-- `A`'s elements read as `l`, and lie in blocks below `g`. -/
def Ints (w : World) (g : Nat) (A : Option Addr) (l : List Int) : Prop :=
  l.length ≤ 281474976710656 ∧ (l = [] ∨ ∃ b off, A = some ⟨b, off, none⟩ ∧ b < g ∧ ∀ j, j < l.length → w.cell? ⟨b, off + j, none⟩ = some (.int .i64 (l.getD j 0)))
theorem Ints.kept {w w' : World} {g : Nat} {A : Option Addr} {l : List Int} (h : Ints w g A l) (hb : ∀ k, k < g → w'.heap[k]? = w.heap[k]?) : Ints w' g A l := by
  obtain ⟨hm, h0 | ⟨b, off, hA, hbg, hc⟩⟩ := h
  · exact ⟨hm, .inl h0⟩
  · refine ⟨hm, .inr ⟨b, off, hA, hbg, fun i hi => ?_⟩⟩
    rw [World.cell?_of_block (w := w) (w' := w') (a := ⟨b, off + i, none⟩) (hb b hbg)]
    exact hc i hi
theorem Ints.below {w w' : World} {g B : Nat} {A : Option Addr} {l : List Int} (h : Ints w g A l) (hb : Below B w w') (hg : g ≤ B) : Ints w' g A l := h.kept fun k hk => hb.block k (Nat.lt_of_lt_of_le hk hg)
theorem Ints.mono {w : World} {g g' : Nat} {A : Option Addr} {l : List Int} (h : Ints w g A l) (hg : g ≤ g') : Ints w g' A l := by
  obtain ⟨hm, h0 | ⟨b, off, hA, hbg, hc⟩⟩ := h
  · exact ⟨hm, .inl h0⟩
  · exact ⟨hm, .inr ⟨b, off, hA, Nat.lt_of_lt_of_le hbg hg, hc⟩⟩
theorem Ints.at {w : World} {g : Nat} {A : Option Addr} {l : List Int} (h : Ints w g A l) (j : Nat) (hj : j < l.length) : ∃ b off, A = some ⟨b, off, none⟩ ∧ b < g ∧ ∀ j, j < l.length → w.cell? ⟨b, off + j, none⟩ = some (.int .i64 (l.getD j 0)) := by
  obtain ⟨_, rfl | h⟩ := h
  · exact absurd hj (by simp)
  · exact h

/-- A row of integers that the call owns. -/
def OwnI (w : World) (base : Nat) (A : Option Addr) (cap : Nat) (l : List Int) : Prop := w.ownsRow base 3 1 (.slice A l.length cap) l.length (ivs l)
theorem OwnI.ints {w : World} {base : Nat} {A : Option Addr} {cap : Nat} {l : List Int} (h : OwnI w base A cap l) (hm : l.length ≤ 281474976710656) : Ints w w.heap.size A l := by
  refine ⟨hm, ?_⟩
  have h0 := h
  rcases h.2 with ⟨h1, h2⟩ | ⟨g, cap, cur, h1, h2, h3, _⟩
  · exact .inl (List.eq_nil_of_length_eq_zero h2)
  · simp only [Value.slice.injEq] at h1
    obtain ⟨rfl, _, rfl⟩ := h1
    refine .inr ⟨g, 0, rfl, (Array.getElem?_eq_some_iff.1 h3).1, fun j hj => ?_⟩
    rw [Nat.zero_add, World.ownsRow.cellAt h0 j (by omega)]
    exact ivs_at l j hj
/-- A view of a row that the call owns at another state: the row is where it was. -/
theorem OwnI.kept {w w' : World} {base B : Nat} {A : Option Addr} {cap : Nat} {l : List Int} (h : OwnI w base A cap l) (hb : Below B w w') (hB : w.heap.size ≤ B) : OwnI w' base A cap l := by
  unfold OwnI at h ⊢
  have hl := World.ownsRow.lt h
  refine World.ownsRow.kept (row := none) h ⟨hb.os, hb.tape, hb.output, hb.size, fun k hk _ => hb.block k (by omega)⟩ ?_
  cases hv : (Value.slice A l.length cap).ownBlock <;> simp

/-- Steps joined. -/
theorem below_up {B : Nat} {a b c : World} (h : Below B a b) (k : Below b.heap.size b c) (hB : B ≤ b.heap.size) : Below B a c := h.trans (k.mono hB)
end Go.Proofs.Ytgccphidnbfcaaa

namespace Go.Proofs.Ytgccphidnbfcaaa
open Go.RowKit
set_option linter.unusedVariables false

set_option maxHeartbeats 400000 in
theorem l1in_t (a b c : Int) (h1 : b ≤ a) (h2 : a ≤ c) (w : World) :
    Calls Try.prog 7 #[.int .i64 a, .int .i64 b, .int .i64 c] w fun e w' => e = .returned (.bool true) ∧ w = w' := by
  have h3 : decide (a ≤ c) = true := by simpa using h2
  go_enter Try.func7, Try.ntmps7
  go_wp2
  go_ret
  exact ⟨rfl, rfl⟩
set_option maxHeartbeats 400000 in
theorem l1in_f (a b c : Int) (h : a < b ∨ c < a) (w : World) :
    Calls Try.prog 7 #[.int .i64 a, .int .i64 b, .int .i64 c] w fun e w' => e = .returned (.bool false) ∧ w = w' := by
  by_cases h1 : a < b
  · go_enter Try.func7, Try.ntmps7
    go_wp2
    go_ret
    exact ⟨rfl, rfl⟩
  · have h2 : decide (a ≤ c) = false := by simp; omega
    go_enter Try.func7, Try.ntmps7
    go_wp2
    go_ret
    exact ⟨rfl, rfl⟩

end Go.Proofs.Ytgccphidnbfcaaa

namespace Go.Proofs.Ytgccphidnbfcaaa
open Go.RowKit
set_option linter.unusedVariables false

end Go.Proofs.Ytgccphidnbfcaaa
