/-
  Contracts of chapter 3's draws: a reader, a reader with a number of bits: each returns, and its answer depends on the input's bytes alone. Condition: the input is no longer than 1048576 bytes.
  Contracts of chapter 2's draws as wholes: a text, a number with a width: each returns, and its answer depends on the input's bytes alone. Condition: the input is no longer than 1048576 bytes.
  Contracts of chapter 6's draw of a number. Condition: the input is no longer than 1048576 bytes.
-/
import Derived.Test.YtemfiglflbfocaaDrawA
import Derived.Test.YtemfiglflbfocaaRead
namespace Go.Proofs.Ytemfiglflbfocaa
open Go.RowKit
set_option linter.unusedVariables false

/-- A sequence out of a step. -/
theorem seq_from {σ : Type} (P : σ → Prop) (R : σ → σ → Prop) (s0 : σ) (h0 : P s0) (step : ∀ s, P s → ∃ s', P s' ∧ R s s') : ∃ f : Nat → σ, f 0 = s0 ∧ (∀ n, P (f n)) ∧ ∀ n, R (f n) (f (n + 1)) := by
  have hs : ∀ s : { s // P s }, ∃ s' : { s // P s }, R s.1 s'.1 := fun s => by
    obtain ⟨s', h1, h2⟩ := step s.1 s.2
    exact ⟨⟨s', h1⟩, h2⟩
  obtain ⟨F, hF⟩ := Classical.axiomOfChoice hs
  refine ⟨fun n => (Nat.rec (motive := fun _ => { s // P s }) ⟨s0, h0⟩ (fun _ s => F s) n).1, rfl, fun n => Subtype.property _, fun n => hF _⟩

/-- A block of the call's own stands behind what writes to the cursor and to new memory alone. -/
theorem grown_at {w w' : World} {g b : Nat} {o : Obj} (h : w.heap[b]? = some o) (hg : w.grownBy w' (some g)) (hne : b ≠ g) : w'.heap[b]? = some o := by
  rw [hg.block b (heap_lt h) (by simp; omega)]; exact h
/-- A write to a block that is newer than the world at the call. -/
theorem grown_new {w w' : World} {g b : Nat} (h : w.grownBy w' (some g)) (hb : w.heap.size ≤ b) (i : Nat) (u : Value) : w.grownBy (w'.setCell ⟨b, i, none⟩ u) (some g) :=
  ⟨h.os, h.tape, h.output, by simpa [World.setCell] using h.size, fun k hk hne => by
    rw [heap_setCell_other _ _ _ _ (by simp; omega)]
    exact h.block k hk hne⟩
theorem cursor_new {w : World} {g b : Nat} {A : Option Addr} {cap : Nat} {zs : List Int} {i : Nat} {h : Int} (hC : Cursor w g A cap zs i h) (hb : g < b) (j : Nat) (u : Value) : Cursor (w.setCell ⟨b, j, none⟩ u) g A cap zs i h :=
  hC.kept fun k hk => heap_setCell_other _ _ _ _ (by simp; omega)

theorem heap_keep' {w : World} {g : Nat} {o : Obj} (h : w.heap[g]? = some o) (x : Obj) : (w.alloc x).heap[g]? = some o := by
  rw [Below.heap_alloc _ _ _ (heap_lt h)]; exact h
/-- The byte that a step of the draw adds. -/
def stepB (x : Int) (k : Nat) : Int := [0, 1, 255, 128, x].getD k 0
theorem stepB_range (x : Int) (k : Nat) (h0 : 0 ≤ x) (h1 : x < 256) : 0 ≤ stepB x k ∧ stepB x k < 256 := by
  match k with
  | 0 => exact ⟨(by decide : (0 : Int) ≤ 0), (by decide : (0 : Int) < 256)⟩
  | 1 => exact ⟨(by decide : (0 : Int) ≤ 1), (by decide : (1 : Int) < 256)⟩
  | 2 => exact ⟨(by decide : (0 : Int) ≤ 255), (by decide : (255 : Int) < 256)⟩
  | 3 => exact ⟨(by decide : (0 : Int) ≤ 128), (by decide : (128 : Int) < 256)⟩
  | 4 => exact ⟨h0, h1⟩
  | k + 5 => exact ⟨by simp [stepB], by simp [stepB]⟩

theorem nth_range (x : Int) (h0 : 0 ≤ x) (h1 : x < 20) (k : Nat) : -1 ≤ [0, 1, 3, 8, 9, 17, 32, 33, -1, x].getD k 0 ∧ [0, 1, 3, 8, 9, 17, 32, 33, -1, x].getD k 0 ≤ 33 := by
  match k with
  | 0 => simp
  | 1 => simp
  | 2 => simp
  | 3 => simp
  | 4 => simp
  | 5 => simp
  | 6 => simp
  | 7 => simp
  | 8 => simp
  | 9 => simp; omega
  | k + 10 => simp

/-- A byte of the input, or one that follows from it. -/
theorem at_det (A : Option Addr) (cap : Nat) (zs : List Int) (hz : zs.length ≤ 1048576) (i : Nat) (hi : i ≤ 1000) : ∃ x : Int, 0 ≤ x ∧ x < 256 ∧ ∀ w : World, Code w A zs →
    Calls Try.prog 26 #[.slice A zs.length cap, .int .i64 i] w fun e w' => e = .returned (.int .i64 x) ∧ w = w' := by
  by_cases h : i < zs.length
  · refine ⟨if 0 ≤ zs.getD i 0 ∧ zs.getD i 0 < 256 then zs.getD i 0 else 0, by split <;> omega, by split <;> omega, fun w hW => ?_⟩
    rw [if_pos (hW.bytes i h)]
    rcases hW.lies with h0 | ⟨b, off, rfl, _, hc⟩
    · rw [h0] at h; simp at h
    · have c0 := hc i h
      obtain ⟨v0, v9⟩ := hW.bytes i h
      clear hc hW
      obtain ⟨v, hv⟩ : ∃ v, v = zs.getD i 0 := ⟨_, rfl⟩
      obtain ⟨n, hn⟩ : ∃ n, n = zs.length := ⟨_, rfl⟩
      rw [← hv] at c0 v0 v9 ⊢
      rw [← hn] at h hz ⊢
      clear hv hn
      have hlt : (i : Int) < (n : Int) := by omega
      go_enter Try.func26, Try.ntmps26
      go_wp2
      go_ret
      exact ⟨rfl, rfl⟩
  · refine ⟨((i : Int) * 37 + (zs.length : Int) * 11) % 256, by omega, by omega, fun w hW => ?_⟩
    obtain ⟨n, hn⟩ : ∃ n, n = zs.length := ⟨_, rfl⟩
    rw [← hn] at h hz ⊢
    clear hn hW
    have hge : (n : Int) ≤ (i : Int) := by omega
    have ht : Int.tmod ((i : Int) * 37 + (n : Int) * 11) 256 = ((i : Int) * 37 + (n : Int) * 11) % 256 := Int.tmod_eq_emod_of_nonneg (by omega)
    go_enter Try.func26, Try.ntmps26
    go_wp2
    go_ret
    exact ⟨rfl, rfl⟩

end Go.Proofs.Ytemfiglflbfocaa

namespace Go.Proofs.Ytemfiglflbfocaa
open Go.RowKit
set_option linter.unusedVariables false

theorem pow_mono_i (k m : Nat) (h : k ≤ m) : (2 : Int) ^ k ≤ 2 ^ m := by have := Nat.pow_le_pow_right (n := 2) (by decide) h; exact_mod_cast this
theorem pow_pos_i (k : Nat) : (0 : Int) < 2 ^ k := by have := Nat.pow_pos (n := k) (show 0 < 2 by decide); exact_mod_cast this

end Go.Proofs.Ytemfiglflbfocaa

namespace Go.Proofs.Ytemfiglflbfocaa
open Go.RowKit
set_option linter.unusedVariables false

/-- The numbers that the draw picks from. -/
def num6 (x y : Int) : List Int := [0, 1, 2, 3, 6, 7, 14, 30, 31, 65534, 65535, -1, x, y]
theorem num6_bound (x y : Int) (hx0 : 0 ≤ x) (hx1 : x < 500) (hy0 : 0 ≤ y) (hy1 : y < 65535) (k : Nat) (hk : k < 14) : -1 ≤ (num6 x y).getD k 0 ∧ (num6 x y).getD k 0 ≤ 65535 := by
  unfold num6
  rcases (show k = 0 ∨ k = 1 ∨ k = 2 ∨ k = 3 ∨ k = 4 ∨ k = 5 ∨ k = 6 ∨ k = 7 ∨ k = 8 ∨ k = 9 ∨ k = 10 ∨ k = 11 ∨ k = 12 ∨ k = 13 by omega) with rfl | rfl | rfl | rfl | rfl | rfl | rfl | rfl | rfl | rfl | rfl | rfl | rfl | rfl
  all_goals (simp; try omega)

end Go.Proofs.Ytemfiglflbfocaa
