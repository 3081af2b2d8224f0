/-
  Rows written and read side by side; a matrix that is filled place by place. No condition.
-/
import Derived.Test.YtcmijednpnabmaaFormD
namespace Go.Proofs.Ytcmijednpnabmaa
open Go.RowKit
set_option linter.unusedVariables false

theorem zeros_at (n : Nat) (hn : n ≤ 1000000) (w : World) (k : Nat) (hk : w.heap.size = k) : (w.alloc (.cells (ivs (List.replicate n 0)).toArray 3)).ownsRow k 3 1 (.slice (some ⟨k, 0, none⟩) n n) n (ivs (List.replicate n 0)) := by
  subst hk
  have := own_ints w w.heap.size (List.replicate n 0) (Nat.le_refl _) (by simp [maxLen]; omega)
  unfold OwnI at this
  simpa using this
theorem own_end {w : World} {base : Nat} {A : Option Addr} {c n : Nat} {l : List Int} (h : w.ownsRow base 3 1 (.slice A n c) n (ivs l)) (hl : l.length = n) : OwnI w base A c l := by
  subst hl
  exact h
/-- A row of one's own while an older row is written. -/
theorem own_other {w w' : World} {base b : Nat} {n cap : Nat} {xs : List Value} {r : Nat} (h : w.ownsRow base 3 1 (.slice (some ⟨b, 0, none⟩) n cap) n xs) (hg : w.grownBy w' (some r)) (hr : r < base) : w'.ownsRow base 3 1 (.slice (some ⟨b, 0, none⟩) n cap) n xs := by
  refine World.ownsRow.kept (row := some r) h hg ?_
  cases hv : (Value.slice (some ⟨b, 0, none⟩) n cap).ownBlock with
  | none => simp
  | some k =>
    have h1 := (World.ownsRow.lt h k hv).1
    simp
    omega
theorem ints_away {w w' : World} {G g : Nat} {A : Option Addr} {l : List Int} (h : Ints w G A l) (hf : ∀ b off, A = some ⟨b, off, none⟩ → b ≠ g) (hg : w.grownBy w' (some g)) (hG : G ≤ w.heap.size) : Ints w' G A l := by
  obtain ⟨hm, h0 | ⟨b, off, hA, hbg, hc⟩⟩ := h
  · exact ⟨hm, .inl h0⟩
  · have hb := hg.block b (Nat.lt_of_lt_of_le hbg hG) (fun e => hf b off hA (Option.some.inj e))
    refine ⟨hm, .inr ⟨b, off, hA, hbg, fun i hi => ?_⟩⟩
    rw [World.cell?_of_block (w := w) (w' := w') (a := ⟨b, off + i, none⟩) hb]
    exact hc i hi
/-- What a row of one's own reads. -/
theorem own_cells {w : World} {base g n cap : Nat} {l : List Int} (h : w.ownsRow base 3 1 (.slice (some ⟨g, 0, none⟩) n cap) n (ivs l)) (hl : l.length = n) (j : Nat) (hj : j < n) : w.cell? ⟨g, j, none⟩ = some (.int .i64 (l.getD j 0)) :=
  (World.ownsRow.cellAt h j (by omega)).trans (ivs_at l j (by omega))
theorem own_blk {w : World} {base g n cap : Nat} {xs : List Value} (h : w.ownsRow base 3 1 (.slice (some ⟨g, 0, none⟩) n cap) n xs) : base ≤ g ∧ g < w.heap.size := World.ownsRow.lt h g rfl
/-- A matrix that is filled place by place, forth or back. -/
def FillAt (N : Nat) (back : Bool) (p : List Int) (r i : Nat) : Prop :=
  p.length = N * N ∧ ∀ a b, a < N → b < N → (a < r ∨ (a = r ∧ b < i)) → p.getD (if back then b * N + a else a * N + b) 0 = matE N false a b
theorem fill_start (N : Nat) (back : Bool) : FillAt N back (List.replicate (N * N) 0) 0 0 := ⟨List.length_replicate, fun a b _ _ h => absurd h (by omega)⟩
theorem fill_row {N : Nat} {back : Bool} {p : List Int} {r : Nat} (h : FillAt N back p r N) : FillAt N back p (r + 1) 0 :=
  ⟨h.1, fun a b ha hb hab => h.2 a b ha hb (by omega)⟩
theorem fill_forth {N : Nat} {p : List Int} {r i : Nat} (h : FillAt N false p r i) (hr : r < N) (hi : i < N) : FillAt N false (p.set (r * N + i) (matE N false r i)) r (i + 1) := by
  refine ⟨by rw [List.length_set]; exact h.1, fun a b ha hb hab => ?_⟩
  show (p.set (r * N + i) (matE N false r i)).getD (a * N + b) 0 = _
  by_cases e : a * N + b = r * N + i
  · obtain ⟨rfl, rfl⟩ := place_two hb hi e
    rw [List.getD_eq_getElem?_getD, List.getElem?_set_self (by rw [h.1]; exact place_lt hr hi)]
    rfl
  · rw [List.getD_eq_getElem?_getD, List.getElem?_set_ne (fun e' => e e'.symm), ← List.getD_eq_getElem?_getD]
    have hne : ¬ (a = r ∧ b = i) := by rintro ⟨rfl, rfl⟩; exact e rfl
    exact h.2 a b ha hb (by omega)
theorem fill_back {N : Nat} {p : List Int} {r i : Nat} (h : FillAt N true p r i) (hr : r < N) (hi : i < N) : FillAt N true (p.set (i * N + r) (matE N false r i)) r (i + 1) := by
  refine ⟨by rw [List.length_set]; exact h.1, fun a b ha hb hab => ?_⟩
  show (p.set (i * N + r) (matE N false r i)).getD (b * N + a) 0 = _
  by_cases e : b * N + a = i * N + r
  · obtain ⟨rfl, rfl⟩ := place_two ha hr e
    rw [List.getD_eq_getElem?_getD, List.getElem?_set_self (by rw [h.1]; exact place_lt hi hr)]
    rfl
  · rw [List.getD_eq_getElem?_getD, List.getElem?_set_ne (fun e' => e e'.symm), ← List.getD_eq_getElem?_getD]
    have hne : ¬ (a = r ∧ b = i) := by rintro ⟨rfl, rfl⟩; exact e rfl
    exact h.2 a b ha hb (by omega)
theorem fill_end {N : Nat} {back : Bool} {p : List Int} (hN : N = 4 ∨ N = 8) (h : FillAt N back p N 0) : p = matL N back := by
  refine lsq_of h.1 fun a b ha hb => ?_
  cases back with
  | false => exact h.2 a b ha hb (by omega)
  | true => rw [mat_turn hN b a hb ha]; exact h.2 b a hb ha (by omega)
end Go.Proofs.Ytcmijednpnabmaa
