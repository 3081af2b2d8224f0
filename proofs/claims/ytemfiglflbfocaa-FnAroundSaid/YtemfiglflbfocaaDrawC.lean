/-
  Contracts of chapter 3's draws: a reader, a reader with a number of bits: each returns, and its answer depends on the input's bytes alone. Condition: the input is no longer than 1048576 bytes.
  Contracts of chapter 2's draws as wholes: a text, a number with a width: each returns, and its answer depends on the input's bytes alone. Condition: the input is no longer than 1048576 bytes.
  Contracts of chapter 6's draw of a number. Condition: the input is no longer than 1048576 bytes.
  Draws of one use: the cursor is somewhere, and only it and new memory were written. Contracts of the small draws in that form. No condition but those that each lemma states.
-/
import Derived.Test.YtemfiglflbfocaaDrawA
import Derived.Test.YtemfiglflbfocaaRead
namespace Go.Proofs.Ytemfiglflbfocaa
open Go.RowKit
set_option linter.unusedVariables false

/-- A sequence out of a step. -/
theorem seq_from {σ : Type} (P : σ → Prop) (R : σ → σ → Prop) (s0 : σ) (h0 : P s0) (step : ∀ s, P s → ∃ s', P s' ∧ R s s') : ∃ f : Nat → σ, f 0 = s0 ∧ (∀ n, P (f n)) ∧ ∀ n, R (f n) (f (n + 1)) := by
  have hs : ∀ s : { s // P s }, ∃ s' : { s // P s }, R s.1 s'.1 := fun s => by
    obtain ⟨s', h1, h2⟩ := step s.1 s.2
    exact ⟨⟨s', h1⟩, h2⟩
  obtain ⟨F, hF⟩ := Classical.axiomOfChoice hs
  refine ⟨fun n => (Nat.rec (motive := fun _ => { s // P s }) ⟨s0, h0⟩ (fun _ s => F s) n).1, rfl, fun n => Subtype.property _, fun n => hF _⟩

/-- A block of the call's own stands behind what writes to the cursor and to new memory alone. -/
theorem grown_at {w w' : World} {g b : Nat} {o : Obj} (h : w.heap[b]? = some o) (hg : w.grownBy w' (some g)) (hne : b ≠ g) : w'.heap[b]? = some o := by
  rw [hg.block b (heap_lt h) (by simp; omega)]; exact h
/-- A write to a block that is newer than the world at the call. -/
theorem grown_new {w w' : World} {g b : Nat} (h : w.grownBy w' (some g)) (hb : w.heap.size ≤ b) (i : Nat) (u : Value) : w.grownBy (w'.setCell ⟨b, i, none⟩ u) (some g) :=
  ⟨h.os, h.tape, h.output, by simpa [World.setCell] using h.size, fun k hk hne => by
    rw [heap_setCell_other _ _ _ _ (by simp; omega)]
    exact h.block k hk hne⟩
theorem cursor_new {w : World} {g b : Nat} {A : Option Addr} {cap : Nat} {zs : List Int} {i : Nat} {h : Int} (hC : Cursor w g A cap zs i h) (hb : g < b) (j : Nat) (u : Value) : Cursor (w.setCell ⟨b, j, none⟩ u) g A cap zs i h :=
  hC.kept fun k hk => heap_setCell_other _ _ _ _ (by simp; omega)

theorem heap_keep' {w : World} {g : Nat} {o : Obj} (h : w.heap[g]? = some o) (x : Obj) : (w.alloc x).heap[g]? = some o := by
  rw [Below.heap_alloc _ _ _ (heap_lt h)]; exact h
/-- The byte that a step of the draw adds. -/
def stepB (x : Int) (k : Nat) : Int := [0, 1, 255, 128, x].getD k 0
theorem stepB_range (x : Int) (k : Nat) (h0 : 0 ≤ x) (h1 : x < 256) : 0 ≤ stepB x k ∧ stepB x k < 256 := by
  match k with
  | 0 => exact ⟨(by decide : (0 : Int) ≤ 0), (by decide : (0 : Int) < 256)⟩
  | 1 => exact ⟨(by decide : (0 : Int) ≤ 1), (by decide : (1 : Int) < 256)⟩
  | 2 => exact ⟨(by decide : (0 : Int) ≤ 255), (by decide : (255 : Int) < 256)⟩
  | 3 => exact ⟨(by decide : (0 : Int) ≤ 128), (by decide : (128 : Int) < 256)⟩
  | 4 => exact ⟨h0, h1⟩
  | k + 5 => exact ⟨by simp [stepB], by simp [stepB]⟩

theorem nth_range (x : Int) (h0 : 0 ≤ x) (h1 : x < 20) (k : Nat) : -1 ≤ [0, 1, 3, 8, 9, 17, 32, 33, -1, x].getD k 0 ∧ [0, 1, 3, 8, 9, 17, 32, 33, -1, x].getD k 0 ≤ 33 := by
  match k with
  | 0 => simp
  | 1 => simp
  | 2 => simp
  | 3 => simp
  | 4 => simp
  | 5 => simp
  | 6 => simp
  | 7 => simp
  | 8 => simp
  | 9 => simp; omega
  | k + 10 => simp

/-- A byte of the input, or one that follows from it. -/
theorem at_det (A : Option Addr) (cap : Nat) (zs : List Int) (hz : zs.length ≤ 1048576) (i : Nat) (hi : i ≤ 1000) : ∃ x : Int, 0 ≤ x ∧ x < 256 ∧ ∀ w : World, Code w A zs →
    Calls Try.prog 26 #[.slice A zs.length cap, .int .i64 i] w fun e w' => e = .returned (.int .i64 x) ∧ w = w' := by
  by_cases h : i < zs.length
  · refine ⟨if 0 ≤ zs.getD i 0 ∧ zs.getD i 0 < 256 then zs.getD i 0 else 0, by split <;> omega, by split <;> omega, fun w hW => ?_⟩
    rw [if_pos (hW.bytes i h)]
    rcases hW.lies with h0 | ⟨b, off, rfl, _, hc⟩
    · rw [h0] at h; simp at h
    · have c0 := hc i h
      obtain ⟨v0, v9⟩ := hW.bytes i h
      clear hc hW
      obtain ⟨v, hv⟩ : ∃ v, v = zs.getD i 0 := ⟨_, rfl⟩
      obtain ⟨n, hn⟩ : ∃ n, n = zs.length := ⟨_, rfl⟩
      rw [← hv] at c0 v0 v9 ⊢
      rw [← hn] at h hz ⊢
      clear hv hn
      have hlt : (i : Int) < (n : Int) := by omega
      go_enter Try.func26, Try.ntmps26
      go_wp2
      go_ret
      exact ⟨rfl, rfl⟩
  · refine ⟨((i : Int) * 37 + (zs.length : Int) * 11) % 256, by omega, by omega, fun w hW => ?_⟩
    obtain ⟨n, hn⟩ : ∃ n, n = zs.length := ⟨_, rfl⟩
    rw [← hn] at h hz ⊢
    clear hn hW
    have hge : (n : Int) ≤ (i : Int) := by omega
    have ht : Int.tmod ((i : Int) * 37 + (n : Int) * 11) 256 = ((i : Int) * 37 + (n : Int) * 11) % 256 := Int.tmod_eq_emod_of_nonneg (by omega)
    go_enter Try.func26, Try.ntmps26
    go_wp2
    go_ret
    exact ⟨rfl, rfl⟩

end Go.Proofs.Ytemfiglflbfocaa

namespace Go.Proofs.Ytemfiglflbfocaa
open Go.RowKit
set_option linter.unusedVariables false

theorem pow_mono_i (k m : Nat) (h : k ≤ m) : (2 : Int) ^ k ≤ 2 ^ m := by have := Nat.pow_le_pow_right (n := 2) (by decide) h; exact_mod_cast this
theorem pow_pos_i (k : Nat) : (0 : Int) < 2 ^ k := by have := Nat.pow_pos (n := k) (show 0 < 2 by decide); exact_mod_cast this

end Go.Proofs.Ytemfiglflbfocaa

namespace Go.Proofs.Ytemfiglflbfocaa
open Go.RowKit
set_option linter.unusedVariables false

/-- The numbers that the draw picks from. -/
def num6 (x y : Int) : List Int := [0, 1, 2, 3, 6, 7, 14, 30, 31, 65534, 65535, -1, x, y]
theorem num6_bound (x y : Int) (hx0 : 0 ≤ x) (hx1 : x < 500) (hy0 : 0 ≤ y) (hy1 : y < 65535) (k : Nat) (hk : k < 14) : -1 ≤ (num6 x y).getD k 0 ∧ (num6 x y).getD k 0 ≤ 65535 := by
  unfold num6
  rcases (show k = 0 ∨ k = 1 ∨ k = 2 ∨ k = 3 ∨ k = 4 ∨ k = 5 ∨ k = 6 ∨ k = 7 ∨ k = 8 ∨ k = 9 ∨ k = 10 ∨ k = 11 ∨ k = 12 ∨ k = 13 by omega) with rfl | rfl | rfl | rfl | rfl | rfl | rfl | rfl | rfl | rfl | rfl | rfl | rfl | rfl
  all_goals (simp; try omega)

end Go.Proofs.Ytemfiglflbfocaa

namespace Go.Proofs.Ytemfiglflbfocaa
open Go.RowKit
set_option linter.unusedVariables false

/-- The second of two new blocks. -/
theorem heap_alloc_second (w : World) (o p : Obj) : ((w.alloc o).alloc p).heap[w.heap.size + 1]? = some p := by
  have h := heap_alloc_new (w.alloc o) p
  have e : (w.alloc o).heap.size = w.heap.size + 1 := by simp
  rw [e] at h
  exact h
/-- The cursor lies at `g`, somewhere in the input; since `w0` only it and new memory were written. -/
def Dw (g : Nat) (A : Option Addr) (cap : Nat) (zs : List Int) (w0 w : World) : Prop := ∃ i h, Cursor w g A cap zs i h ∧ w0.grownBy w (some g)
section
variable {g : Nat} {A : Option Addr} {cap : Nat} {zs : List Int} {w0 w w' : World}
theorem Dw.start {i : Nat} {h : Int} (hC : Cursor w g A cap zs i h) : Dw g A cap zs w w := ⟨i, h, hC, grown_refl _ _⟩
theorem Dw.lt (h : Dw g A cap zs w0 w) : g < w.heap.size := by obtain ⟨i, h, hC, _⟩ := h; exact hC.lt
theorem Dw.size (h : Dw g A cap zs w0 w) : w0.heap.size ≤ w.heap.size := by obtain ⟨i, h, _, hg⟩ := h; exact hg.size
theorem Dw.few (h : Dw g A cap zs w0 w) : zs.length ≤ 1048576 := by obtain ⟨i, h, hC, _⟩ := h; exact hC.few
theorem Dw.grown0 (h : Dw g A cap zs w0 w) : w0.grownBy w (some g) := by obtain ⟨i, h, _, hg⟩ := h; exact hg
theorem Dw.drew (h : Dw g A cap zs w0 w) : Dw g A cap zs w0 w.drew := by obtain ⟨i, h, hC, hg⟩ := h; exact ⟨i, h, hC.drew, grown_drew hg⟩
theorem Dw.alloc (h : Dw g A cap zs w0 w) (o : Obj) : Dw g A cap zs w0 (w.alloc o) := by obtain ⟨i, h, hC, hg⟩ := h; exact ⟨i, h, hC.alloc o, grown_alloc hg o⟩
theorem Dw.set (h : Dw g A cap zs w0 w) {b : Nat} (hb : w0.heap.size ≤ b) (hgb : g < b) (j : Nat) (u : Value) : Dw g A cap zs w0 (w.setCell ⟨b, j, none⟩ u) := by
  obtain ⟨i, h, hC, hg⟩ := h
  exact ⟨i, h, cursor_new hC hgb j u, grown_new hg hb j u⟩
/-- A row of one's own, or new memory, was written. -/
theorem Dw.grown (h : Dw g A cap zs w0 w) {row : Option Nat} (hg : w.grownBy w' row) (hr : ∀ k, row = some k → w0.heap.size ≤ k ∧ g < k) : Dw g A cap zs w0 w' := by
  obtain ⟨i, h, hC, hg0⟩ := h
  exact ⟨i, h, hC.grown hg fun k hk => (hr k hk).2, grown_own hg0 hg fun k hk => (hr k hk).1⟩
theorem Dw.below (h : Dw g A cap zs w0 w) (hb : Below w.heap.size w w') : Dw g A cap zs w0 w' :=
  h.grown (row := none) ⟨hb.os, hb.tape, hb.output, hb.size, fun k hk _ => hb.block k hk⟩ fun k hk => by cases hk
theorem Dw.trans {w1 : World} (h : Dw g A cap zs w0 w1) (k : Dw g A cap zs w1 w) : Dw g A cap zs w0 w := by
  obtain ⟨i, x, hC, hg⟩ := k
  exact ⟨i, x, hC, h.grown0.trans hg⟩
theorem Dw.again (h : Dw g A cap zs w0 w) : Dw g A cap zs w w := by obtain ⟨i, h, hC, _⟩ := h; exact Dw.start hC
theorem Dw.call {i : Nat} {x : Int} (h : Dw g A cap zs w0 w) (hC : Cursor w' g A cap zs i x) (hg : w.grownBy w' (some g)) : Dw g A cap zs w0 w' := ⟨i, x, hC, h.grown0.trans hg⟩
theorem Dw.belowOf (h : Dw g A cap zs w0 w) {B : Nat} (hg : B ≤ g) (hB : B ≤ w0.heap.size) : Below B w0 w := grown_below h.grown0 hg hB
end
/-- A row of one's own, behind what writes to the cursor and to new memory. -/
theorem own_dw {w w' : World} {base g : Nat} {e : TypeId} {size : Nat} {v : Value} {n : Nat} {xs : List Value} (h : w.ownsRow base e size v n xs) (hg : w.grownBy w' (some g)) (hb : g < base) : w'.ownsRow base e size v n xs :=
  World.ownsRow.kept h hg (own_far h hb)

theorem once_ex (m : Int) (g : Nat) (A : Option Addr) (cap : Nat) (zs : List Int) (w0 w : World) (h : Dw g A cap zs w0 w) :
    Calls Try.prog 47 #[.pointer (some ⟨g, 0, none⟩), .int .i64 m] w fun e w' => ∃ b : Bool, e = .returned (.bool b) ∧ Dw g A cap zs w0 w' ∧ w.grownBy w' (some g) := by
  obtain ⟨i, x, hC, hg⟩ := h
  obtain ⟨b, i1, h1, l1, C1⟩ := once_det A cap zs i x hC.le m
  refine (C1 w g hC).mono ?_
  rintro e w' ⟨rfl, hC1, hg1⟩
  exact ⟨b, rfl, ⟨_, _, hC1, hg.trans hg1⟩, hg1⟩
theorem below_ex (m : Int) (g : Nat) (A : Option Addr) (cap : Nat) (zs : List Int) (w0 w : World) (h : Dw g A cap zs w0 w) :
    Calls Try.prog 68 #[.pointer (some ⟨g, 0, none⟩), .int .i64 m] w fun e w' => ∃ x : Nat, e = .returned (.int .i64 (x : Int)) ∧ (0 < m → (x : Int) < m) ∧ (m ≤ 0 → x = 0) ∧ Dw g A cap zs w0 w' ∧ w.grownBy w' (some g) := by
  obtain ⟨i, x, hC, hg⟩ := h
  obtain ⟨y, i1, h1, y0, y1, y2, l1, C1⟩ := below_det A cap zs i x hC.le m
  obtain ⟨k, rfl⟩ := Int.eq_ofNat_of_zero_le y0
  refine (C1 w g hC).mono ?_
  rintro e w' ⟨rfl, hC1, hg1⟩
  exact ⟨k, rfl, y1, fun h => by have := y2 h; omega, ⟨_, _, hC1, hg.trans hg1⟩, hg1⟩
theorem byte_ex (g : Nat) (A : Option Addr) (cap : Nat) (zs : List Int) (w0 w : World) (h : Dw g A cap zs w0 w) :
    Calls Try.prog 74 #[.pointer (some ⟨g, 0, none⟩)] w fun e w' => ∃ x : Nat, e = .returned (.int .i64 (x : Int)) ∧ x ≤ 255 ∧ Dw g A cap zs w0 w' ∧ w.grownBy w' (some g) := by
  obtain ⟨i, x, hC, hg⟩ := h
  obtain ⟨y, i1, h1, y0, y1, l1, C1⟩ := byte_det A cap zs i x hC.le
  obtain ⟨k, rfl⟩ := Int.eq_ofNat_of_zero_le y0
  refine (C1 w g hC).mono ?_
  rintro e w' ⟨rfl, hC1, hg1⟩
  exact ⟨k, rfl, by omega, ⟨_, _, hC1, hg.trans hg1⟩, hg1⟩
theorem pick_ex (vs : List Int) (hvs : 0 < vs.length) (hv9 : vs.length ≤ 1000) (g : Nat) (A : Option Addr) (cap : Nat) (zs : List Int) (w0 w : World) (gl : Nat) (h : Dw g A cap zs w0 w)
    (hgl : w.heap[gl]? = some (.cells (vs.map (Value.int .i64)).toArray 3 (0, 0))) (hne : gl ≠ g) :
    Calls Try.prog 67 #[.pointer (some ⟨g, 0, none⟩), .slice (some ⟨gl, 0, none⟩) vs.length vs.length] w fun e w' => ∃ x : Int, e = .returned (.int .i64 x) ∧ x ∈ vs ∧ Dw g A cap zs w0 w' ∧ w.grownBy w' (some g) := by
  obtain ⟨i, x, hC, hg⟩ := h
  obtain ⟨k, i1, h1, hk, l1, C1⟩ := pickint_det A cap zs i x hC.le vs hvs hv9
  refine (C1 w g gl hC hgl hne).mono ?_
  rintro e w' ⟨rfl, hC1, hg1⟩
  refine ⟨_, rfl, ?_, ⟨_, _, hC1, hg.trans hg1⟩, hg1⟩
  rw [List.getD_eq_getElem?_getD, List.getElem?_eq_getElem hk]
  exact List.getElem_mem hk
theorem new_ex (A : Option Addr) (cap : Nat) (zs : List Int) (w : World) (hW : Code w A zs) :
    Calls Try.prog 44 #[.slice A zs.length cap] w fun e w' => e = .returned (.pointer (some ⟨w.heap.size, 0, none⟩)) ∧ Dw w.heap.size A cap zs w' w' ∧ Below w.heap.size w w' :=
  (new_any A cap zs hW.few hW.bytes w hW.lies).mono fun e w' ⟨h1, h2, h3⟩ => ⟨h1, Dw.start h2, h3⟩
end Go.Proofs.Ytemfiglflbfocaa
