/-
  Contracts of the statements' own draws (a cursor over the bytes of the input): each returns, its answer depends on the cursor's state alone and lies within its range, and it writes to the cursor alone. Condition: the input is no longer than 1048576 bytes.
-/
import Derived.Test.YthiplncceglnhaaRows
import Derived.Test.YthiplncceglnhaaKit
import Derived.Deep.QuietTactic
import Derived.BigQuiet
import Derived.Maps.AppendAt
namespace Go.Proofs.Ythiplncceglnhaa
open Go.RowKit
set_option linter.unusedVariables false

/-- A mask of one byte: the result is a byte, whatever is masked. -/
theorem and255 (x : Int) : 0 ≤ bits .and .i64 x 255 ∧ bits .and .i64 x 255 ≤ 255 := by
  have h : (BitVec.ofInt 64 x &&& BitVec.ofInt 64 255).toNat ≤ 255 := by
    rw [BitVec.toNat_and]
    exact Nat.and_le_right
  have e : bits .and .i64 x 255 = ((BitVec.ofInt 64 x &&& BitVec.ofInt 64 255).toNat : Int) := wraps_i64 ((BitVec.ofInt 64 x &&& BitVec.ofInt 64 255).toNat : Int) (by omega) (by omega)
  omega

/-- The bytes `zs` lie at `A`, in blocks before number `g`. -/
def Lies (w : World) (g : Nat) (A : Option Addr) (zs : List Int) : Prop :=
  zs = [] ∨ ∃ b off, A = some ⟨b, off, none⟩ ∧ b < g ∧ ∀ j, j < zs.length → w.cell? ⟨b, off + j, none⟩ = some (.int .u8 (zs.getD j 0))
theorem Lies.kept {w w' : World} {g : Nat} {A : Option Addr} {zs : List Int} (h : Lies w g A zs) (hb : ∀ k, k < g → w'.heap[k]? = w.heap[k]?) : Lies w' g A zs := by
  rcases h with h0 | ⟨b, off, hA, hbg, hc⟩
  · exact .inl h0
  · refine .inr ⟨b, off, hA, hbg, fun i hi => ?_⟩
    rw [World.cell?_of_block (w := w) (w' := w') (a := ⟨b, off + i, none⟩) (hb b hbg)]
    exact hc i hi

/-- The cursor in block `g`: over the bytes `zs` that lie before it, at place `i`, with the mixed number `h`. -/
structure Cursor (w : World) (g : Nat) (A : Option Addr) (cap : Nat) (zs : List Int) (i : Nat) (h : Int) : Prop where
  few : zs.length ≤ 1048576
  le : i ≤ zs.length
  cur : w.heap[g]? = some (.cells #[.slice A zs.length cap, .int .i64 (i : Int), .int .i64 h] 81 (0, 0))
  lies : Lies w g A zs
section
variable {w w' : World} {g : Nat} {A : Option Addr} {cap : Nat} {zs : List Int} {i : Nat} {h : Int}
theorem Cursor.lt (hC : Cursor w g A cap zs i h) : g < w.heap.size := by
  by_cases hn : g < w.heap.size
  · exact hn
  · have := hC.cur
    rw [Array.getElem?_eq_none (by omega)] at this
    cases this
/-- It stays behind what writes neither to it nor before it. -/
theorem Cursor.kept (hC : Cursor w g A cap zs i h) (hb : ∀ k, k ≤ g → w'.heap[k]? = w.heap[k]?) : Cursor w' g A cap zs i h :=
  ⟨hC.few, hC.le, by rw [hb g (Nat.le_refl _)]; exact hC.cur, hC.lies.kept fun k hk => hb k (by omega)⟩
theorem Cursor.drewN (hC : Cursor w g A cap zs i h) (k : Nat) : Cursor (w.drewN k) g A cap zs i h := ⟨hC.few, hC.le, hC.cur, hC.lies⟩
theorem Cursor.drew (hC : Cursor w g A cap zs i h) : Cursor w.drew g A cap zs i h := ⟨hC.few, hC.le, hC.cur, hC.lies⟩
theorem Cursor.alloc (hC : Cursor w g A cap zs i h) (o : Obj) : Cursor (w.alloc o) g A cap zs i h := hC.kept fun k hk => Below.heap_alloc _ _ _ (by have := hC.lt; omega)
theorem Cursor.grown (hC : Cursor w g A cap zs i h) {row : Option Nat} (hg : w.grownBy w' row) (hr : ∀ k, row = some k → g < k) : Cursor w' g A cap zs i h :=
  hC.kept fun k hk => hg.block k (by have := hC.lt; omega) (fun e => by have := hr k e.symm; omega)
theorem Cursor.set2 (hC : Cursor w g A cap zs i h) (k : Int) : Cursor (w.setCell ⟨g, 2, none⟩ (.int .i64 k)) g A cap zs i k := by
  refine ⟨hC.few, hC.le, ?_, hC.lies.kept fun j hj => heap_setCell_other _ _ _ _ (by simp; omega)⟩
  rw [heap_setCell_same w g 2 _ _ _ hC.cur]
  rfl
theorem Cursor.set1 (hC : Cursor w g A cap zs i h) (i' : Nat) (x : Int) (hx : x = (i' : Int)) (hi' : i' ≤ zs.length) : Cursor (w.setCell ⟨g, 1, none⟩ (.int .i64 x)) g A cap zs i' h := by
  subst hx
  refine ⟨hC.few, hi', ?_, hC.lies.kept fun j hj => heap_setCell_other _ _ _ _ (by simp; omega)⟩
  rw [heap_setCell_same w g 1 _ _ _ hC.cur]
  rfl
end
theorem grown_refl (w : World) (row : Option Nat) : w.grownBy w row := ⟨rfl, rfl, rfl, Nat.le_refl _, fun _ _ _ => rfl⟩
theorem grown_drewN {w w' : World} {row : Option Nat} (h : w.grownBy w' row) (k : Nat) : w.grownBy (w'.drewN k) row := ⟨h.os, h.tape, h.output, h.size, h.block⟩
theorem grown_drew {w w' : World} {row : Option Nat} (h : w.grownBy w' row) : w.grownBy w'.drew row := ⟨h.os, h.tape, h.output, h.size, h.block⟩
theorem grown_set {w w' : World} {g : Nat} (h : w.grownBy w' (some g)) (i : Nat) (u : Value) : w.grownBy (w'.setCell ⟨g, i, none⟩ u) (some g) :=
  ⟨h.os, h.tape, h.output, by simpa [World.setCell] using h.size, fun k hk hne => by
    rw [heap_setCell_other _ _ _ _ (fun e => hne (by rw [e]))]
    exact h.block k hk hne⟩
theorem grown_alloc {w w' : World} {row : Option Nat} (h : w.grownBy w' row) (o : Obj) : w.grownBy (w'.alloc o) row :=
  ⟨h.os, h.tape, h.output, Nat.le_trans h.size (by simp), fun k hk hne => by
    rw [Below.heap_alloc _ _ _ (Nat.lt_of_lt_of_le hk h.size)]
    exact h.block k hk hne⟩
/-- Behind a write to a row of the call's own. -/
theorem grown_own {w w1 w2 : World} {g : Nat} {row : Option Nat} (h : w.grownBy w1 (some g)) (k : w1.grownBy w2 row) (hr : ∀ j, row = some j → w.heap.size ≤ j) : w.grownBy w2 (some g) :=
  ⟨k.os.trans h.os, k.tape.trans h.tape, k.output.trans h.output, Nat.le_trans h.size k.size, fun j hj hne => by
    rw [k.block j (Nat.lt_of_lt_of_le hj h.size) (fun e => by have := hr j e.symm; omega)]
    exact h.block j hj hne⟩
theorem grown_below {w w1 : World} {g : Nat} {B : Nat} (h : w.grownBy w1 (some g)) (hg : B ≤ g) (hB : B ≤ w.heap.size) : Below B w w1 :=
  (Below.refl B w).grown h hB (fun k e => by cases e; exact hg)

/-- The mixed number's next value. -/
def mixH (h : Int) : Int := wrap64 (wrap64 (h * 6364136223846793005) + 1442695040888963407)

set_option maxRecDepth 100000 in
set_option maxHeartbeats 1000000 in
theorem byte_det (A : Option Addr) (cap : Nat) (zs : List Int) (i : Nat) (h : Int) (hi : i ≤ zs.length) : ∃ (x : Int) (i' : Nat) (h' : Int), 0 ≤ x ∧ x ≤ 255 ∧ i' ≤ zs.length ∧ ∀ (w : World) (g : Nat), Cursor w g A cap zs i h →
    Calls Try.prog 71 #[.pointer (some ⟨g, 0, none⟩)] w fun e w' => e = .returned (.int .i64 x) ∧ Cursor w' g A cap zs i' h' ∧ w.grownBy w' (some g) := by
  by_cases hlt : i < zs.length
  · refine ⟨bits .and .i64 (wrap64 (bits .and .i64 (bits .xor .i64 (wrap64 (wrap64 (h * 6364136223846793005) + 1442695040888963407) / 8589934592) (wrap64 (wrap64 (h * 6364136223846793005) + 1442695040888963407) / 35184372088832)) 255 + wrap64 (zs.getD i 0))) 255, i + 1, mixH h, (and255 _).1, (and255 _).2, hlt, fun w g hC => ?_⟩
    have hg := hC.cur
    have c0 := cell_of_row w g 0 _ _ _ hg
    have c1 := cell_of_row w g 1 _ _ _ hg
    have c2 := cell_of_row w g 2 _ _ _ hg
    have f1 := frozen_of_row w g 1 _ _ hg
    have f2 := frozen_of_row w g 2 _ _ hg
    have hfew := hC.few
    simp only [List.getElem?_toArray, List.getElem?_cons_zero, List.getElem?_cons_succ] at c0 c1 c2
    have HC := Lib.hid hC; clear hC
    have HG := Lib.hid hg; clear hg
    have hlI : (i : Int) < (zs.length : Int) := by omega
    rcases HC.out.lies with h0 | ⟨b, off, rfl, hbg, hrow⟩
    · rw [h0] at hlt; simp at hlt
    have hv := hrow i hlt
    obtain ⟨v, hvd⟩ : ∃ v, v = zs.getD i 0 := ⟨_, rfl⟩
    rw [← hvd] at hv ⊢
    have HVD := Lib.hid hvd; clear hvd
    obtain ⟨n, hn⟩ : ∃ n, n = zs.length := ⟨_, rfl⟩
    rw [← hn] at c0 hlI hfew hi hlt
    have HN := Lib.hid hn; clear hn
    clear hrow
    have hne : ¬ b = g := by omega
    go_enter Try.func71, Try.ntmps71
    go_wp2
    go_quiet (fail)
    go_wp2
    go_quiet (fail)
    go_wp2
    go_quiet (fail)
    go_wp2
    go_ret
    exact ⟨rfl, ((HC.out.set2 _).drewN _).set1 (i + 1) _ (by omega) (by rw [← HN.out]; omega), grown_set (grown_drewN (grown_set (grown_refl _ _) 2 _) _) 1 _⟩
  · refine ⟨bits .and .i64 (bits .xor .i64 (wrap64 (wrap64 (h * 6364136223846793005) + 1442695040888963407) / 8589934592) (wrap64 (wrap64 (h * 6364136223846793005) + 1442695040888963407) / 35184372088832)) 255, i, mixH h, (and255 _).1, (and255 _).2, hi, fun w g hC => ?_⟩
    have hg := hC.cur
    have c0 := cell_of_row w g 0 _ _ _ hg
    have c1 := cell_of_row w g 1 _ _ _ hg
    have c2 := cell_of_row w g 2 _ _ _ hg
    have f1 := frozen_of_row w g 1 _ _ hg
    have f2 := frozen_of_row w g 2 _ _ hg
    have hfew := hC.few
    simp only [List.getElem?_toArray, List.getElem?_cons_zero, List.getElem?_cons_succ] at c0 c1 c2
    have HC := Lib.hid hC; clear hC
    have HG := Lib.hid hg; clear hg
    obtain ⟨n, hn⟩ : ∃ n, n = zs.length := ⟨_, rfl⟩
    rw [← hn] at c0 hfew hi hlt
    have HN := Lib.hid hn; clear hn
    have hlI : (n : Int) ≤ (i : Int) := by omega
    go_enter Try.func71, Try.ntmps71
    go_wp2
    go_quiet (fail)
    go_wp2
    go_quiet (fail)
    go_wp2
    go_ret
    exact ⟨rfl, ((HC.out.set2 _).drewN _).drewN _, grown_drewN (grown_drewN (grown_set (grown_refl _ _) 2 _) _) _⟩

set_option maxRecDepth 100000 in
set_option maxHeartbeats 1000000 in
theorem below_det (A : Option Addr) (cap : Nat) (zs : List Int) (i : Nat) (h : Int) (hi : i ≤ zs.length) (m : Int) : ∃ (x : Int) (i' : Nat) (h' : Int), 0 ≤ x ∧ (0 < m → x < m) ∧ (m ≤ 0 → x = 0) ∧ i' ≤ zs.length ∧ ∀ (w : World) (g : Nat), Cursor w g A cap zs i h →
    Calls Try.prog 55 #[.pointer (some ⟨g, 0, none⟩), .int .i64 m] w fun e w' => e = .returned (.int .i64 x) ∧ Cursor w' g A cap zs i' h' ∧ w.grownBy w' (some g) := by
  by_cases hm : m ≤ 0
  · refine ⟨0, i, h, Int.le_refl _, fun e => by omega, fun _ => rfl, hi, fun w g hC => ?_⟩
    have HC := Lib.hid hC; clear hC hi
    go_enter Try.func55, Try.ntmps55
    go_wp2
    go_ret
    exact ⟨rfl, HC.out, grown_refl _ _⟩
  · obtain ⟨x1, i1, h1, a1, b1, l1, C1⟩ := byte_det A cap zs i h hi
    have HC1 := Lib.hid C1; clear C1
    by_cases hs : m ≤ 256
    · refine ⟨x1 % m, i1, h1, Int.emod_nonneg _ (by omega), fun _ => Int.emod_lt_of_pos _ (by omega), fun e => by omega, l1, fun w g hC => ?_⟩
      have HC := Lib.hid hC; clear hC hi l1
      have hm1 : 1 ≤ m := by omega
      go_enter Try.func55, Try.ntmps55
      go_wp2_with fail
      refine (HC1.out _ _ HC.out).mono ?_
      rintro e w1 ⟨rfl, hC1, hg1⟩
      have HC2 := Lib.hid hC1; clear hC1
      go_wp2
      go_ret
      exact ⟨rfl, HC2.out, hg1⟩
    · obtain ⟨x2, i2, h2, a2, b2, l2, C2⟩ := byte_det A cap zs i1 h1 l1
      obtain ⟨x3, i3, h3, a3, b3, l3, C3⟩ := byte_det A cap zs i2 h2 l2
      obtain ⟨x4, i4, h4, a4, b4, l4, C4⟩ := byte_det A cap zs i3 h3 l3
      have HC2 := Lib.hid C2; clear C2
      have HC3 := Lib.hid C3; clear C3
      have HC4 := Lib.hid C4; clear C4
      refine ⟨(x1 * 16777216 + x2 * 65536 + x3 * 256 + x4) % m, i4, h4, Int.emod_nonneg _ (by omega), fun _ => Int.emod_lt_of_pos _ (by omega), fun e => by omega, l4, fun w g hC => ?_⟩
      have HC := Lib.hid hC; clear hC hi l1 l2 l3 l4
      have hm1 : 1 ≤ m := by omega
      go_enter Try.func55, Try.ntmps55
      go_wp2_with fail
      refine (HC1.out _ _ HC.out).mono ?_
      rintro e w1 ⟨rfl, hC1, hg1⟩
      have G1 := Lib.hid hC1; clear hC1
      go_wp2_with fail
      refine (HC2.out _ _ G1.out).mono ?_
      rintro e w2 ⟨rfl, hC2, hg2⟩
      have G2 := Lib.hid hC2; clear hC2
      go_wp2_with fail
      refine (HC3.out _ _ G2.out).mono ?_
      rintro e w3 ⟨rfl, hC3, hg3⟩
      have G3 := Lib.hid hC3; clear hC3
      go_wp2_with fail
      refine (HC4.out _ _ G3.out).mono ?_
      rintro e w4 ⟨rfl, hC4, hg4⟩
      have G4 := Lib.hid hC4; clear hC4
      go_wp2
      go_ret
      exact ⟨rfl, G4.out, ((hg1.trans hg2).trans hg3).trans hg4⟩

set_option maxHeartbeats 400000 in
theorem once_det (A : Option Addr) (cap : Nat) (zs : List Int) (i : Nat) (h : Int) (hi : i ≤ zs.length) (m : Int) : ∃ (b : Bool) (i' : Nat) (h' : Int), i' ≤ zs.length ∧ ∀ (w : World) (g : Nat), Cursor w g A cap zs i h →
    Calls Try.prog 31 #[.pointer (some ⟨g, 0, none⟩), .int .i64 m] w fun e w' => e = .returned (.bool b) ∧ Cursor w' g A cap zs i' h' ∧ w.grownBy w' (some g) := by
  obtain ⟨x, i1, h1, a1, b1, c1, l1, C1⟩ := below_det A cap zs i h hi m
  have HC1 := Lib.hid C1; clear C1
  refine ⟨x == 0, i1, h1, l1, fun w g hC => ?_⟩
  have HC := Lib.hid hC; clear hC hi l1 b1 c1
  go_enter Try.func31, Try.ntmps31
  go_wp2_with fail
  refine (HC1.out _ _ HC.out).mono ?_
  rintro e w1 ⟨rfl, hC1, hg1⟩
  have G1 := Lib.hid hC1; clear hC1
  go_wp2
  go_ret
  exact ⟨rfl, G1.out, hg1⟩
end Go.Proofs.Ythiplncceglnhaa
