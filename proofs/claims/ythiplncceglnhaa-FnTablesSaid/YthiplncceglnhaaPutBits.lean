/-
  Contracts of PutBits, in both texts, and the walk of its exact law. Condition: no more than 1048576 bits (the law asks no more).
-/
import Derived.Test.YthiplncceglnhaaBitsIn
import Derived.Test.YthiplncceglnhaaBytesOf
import Derived.Test.YthiplncceglnhaaConcat
import Derived.Test.YthiplncceglnhaaReader
namespace Go.Proofs.Ythiplncceglnhaa
open Go.RowKit
set_option linter.unusedVariables false

theorem OwnI.low {w : World} {base base' : Nat} {A : Option Addr} {cap : Nat} {l : List Int} (h : OwnI w base A cap l) (hb : base' ≤ base) : OwnI w base' A cap l := by
  refine ⟨h.1, ?_⟩
  rcases h.2 with h1 | ⟨g, c, cur, h1, h2, h3⟩
  · exact .inl h1
  · exact .inr ⟨g, c, cur, h1, Nat.le_trans hb h2, h3⟩

/-- The bits are appended. -/
def putOk (l : List Int) (n k : Int) : Bool := decide (0 ≤ k) && decide (k ≤ 32) && decide (0 ≤ n) && decide (n < 2 ^ k.toNat) && decide ((l.length : Int) + k ≤ 200000)
/-- What PutBits gives. -/
def putR (l : List Int) (n k : Int) : List Int := if putOk l n k then l ++ inL n.toNat k.toNat k.toNat else l

theorem putOk_nat (l : List Int) (n k : Int) (h : putOk l n k = true) : ∃ a b : Nat, n = (a : Int) ∧ k = (b : Int) ∧ b ≤ 32 ∧ a < 2 ^ b ∧ l.length + b ≤ 200000 := by
  simp only [putOk, Bool.and_eq_true, decide_eq_true_eq] at h
  obtain ⟨⟨⟨⟨h1, h2⟩, h3⟩, h4⟩, h5⟩ := h
  obtain ⟨a, rfl⟩ := Int.eq_ofNat_of_zero_le h3
  obtain ⟨b, rfl⟩ := Int.eq_ofNat_of_zero_le h1
  rw [Int.toNat_natCast] at h4
  exact ⟨a, b, rfl, rfl, by omega, by exact_mod_cast h4, by omega⟩
/-- The ways in which they are not. -/
theorem putOk_ways (l : List Int) (n k : Int) (h : putOk l n k = false) : k < 0 ∨ (0 ≤ k ∧ 32 < k) ∨ (0 ≤ k ∧ k ≤ 32 ∧ n < 0) ∨ ∃ a b : Nat, n = (a : Int) ∧ k = (b : Int) ∧ b ≤ 32 ∧ (2 ^ b ≤ a ∨ a < 2 ^ b ∧ 200000 < l.length + b) := by
  by_cases h1 : k < 0
  · exact .inl h1
  · by_cases h2 : 32 < k
    · exact .inr (.inl ⟨by omega, h2⟩)
    · by_cases h3 : n < 0
      · exact .inr (.inr (.inl ⟨by omega, by omega, h3⟩))
      · obtain ⟨a, rfl⟩ := Int.eq_ofNat_of_zero_le (show 0 ≤ n by omega)
        obtain ⟨b, rfl⟩ := Int.eq_ofNat_of_zero_le (show 0 ≤ k by omega)
        refine .inr (.inr (.inr ⟨a, b, rfl, rfl, by omega, ?_⟩))
        by_cases h4 : 2 ^ b ≤ a
        · exact .inl h4
        · refine .inr ⟨by omega, Nat.lt_of_not_le fun h5 => ?_⟩
          have h6 : ((a : Int) < 2 ^ (b : Int).toNat) := by
            rw [Int.toNat_natCast]
            exact_mod_cast Nat.lt_of_not_le h4
          rw [putOk, decide_eq_true (by omega), decide_eq_true (by omega), decide_eq_true (by omega), decide_eq_true h6, decide_eq_true (by omega)] at h
          exact absurd h (by decide)

theorem putR_len (l : List Int) (n k : Int) (hl : l.length ≤ 1048576) : (putR l n k).length ≤ 1048576 := by
  cases h : putOk l n k with
  | true =>
    obtain ⟨a, b, rfl, rfl, hb, ha, hlb⟩ := putOk_nat l n k h
    have e : putR l a b = l ++ inL a b b := by rw [putR, h]; rfl
    rw [e, List.length_append, inL_len]
    omega
  | false =>
    have e : putR l n k = l := by rw [putR, h]; rfl
    rw [e]
    exact hl

/-- A row of one's own while another row is written that is older. -/
theorem OwnI.other {w w' : World} {base : Nat} {A : Option Addr} {cap : Nat} {l : List Int} {r : Option Nat} (h : OwnI w base A cap l) (hg : w.grownBy w' r) (hr : ∀ k, r = some k → k < base) : OwnI w' base A cap l := by
  refine World.ownsRow.kept (row := r) h hg ?_
  cases hv : (Value.slice A l.length cap).ownBlock with
  | none => simp
  | some b =>
    have h1 := (World.ownsRow.lt h b hv).1
    cases r with
    | none => simp
    | some k =>
      have h2 := hr k rfl
      simp
      omega
theorem OwnI.block {w : World} {base : Nat} {A : Option Addr} {cap : Nat} {l : List Int} (h : OwnI w base A cap l) : ∀ k, (Value.slice A l.length cap).ownBlock = some k → base ≤ k ∧ k < w.heap.size := World.ownsRow.lt h

end Go.Proofs.Ythiplncceglnhaa
