/-
  Contracts of the statements' own draws (a cursor over the bytes of the input): each returns, its answer depends on the cursor's state alone and lies within its range, and it writes to the cursor alone. Condition: the input is no longer than 1048576 bytes.
  Contracts of chapter 1's draws: each returns, its answer depends on the cursor's state alone, and it writes to the cursor and to new memory alone. Condition: the input is no longer than 1048576 bytes.
  Contracts of chapter 1's draws of texts: each returns, its answer depends on the cursor's state alone, and it writes to the cursor and to new memory alone. Condition: the input is no longer than 1048576 bytes.
  The contract of the cursor's making. Condition: the input is no longer than 1048576 bytes.
  The input of a law, as the draws take it: the bytes that it holds, and the test that it is not too long. No condition but those that each lemma states.
-/
import Derived.Test.YtemfiglflbfocaaRows
import Derived.Test.YtemfiglflbfocaaBase
import Derived.Deep.QuietTactic
import Derived.BigQuiet
import Derived.Maps.AppendAt
namespace Go.Proofs.Ytemfiglflbfocaa
open Go.RowKit
set_option linter.unusedVariables false

/-- A mask of one byte: the result is a byte, whatever is masked. -/
theorem and255 (x : Int) : 0 ≤ bits .and .i64 x 255 ∧ bits .and .i64 x 255 ≤ 255 := by
  have h : (BitVec.ofInt 64 x &&& BitVec.ofInt 64 255).toNat ≤ 255 := by
    rw [BitVec.toNat_and]
    exact Nat.and_le_right
  have e : bits .and .i64 x 255 = ((BitVec.ofInt 64 x &&& BitVec.ofInt 64 255).toNat : Int) := wraps_i64 ((BitVec.ofInt 64 x &&& BitVec.ofInt 64 255).toNat : Int) (by omega) (by omega)
  omega

/-- The bytes `zs` lie at `A`, in blocks before number `g`. -/
def Lies (w : World) (g : Nat) (A : Option Addr) (zs : List Int) : Prop :=
  zs = [] ∨ ∃ b off, A = some ⟨b, off, none⟩ ∧ b < g ∧ ∀ j, j < zs.length → w.cell? ⟨b, off + j, none⟩ = some (.int .u8 (zs.getD j 0))
theorem Lies.kept {w w' : World} {g : Nat} {A : Option Addr} {zs : List Int} (h : Lies w g A zs) (hb : ∀ k, k < g → w'.heap[k]? = w.heap[k]?) : Lies w' g A zs := by
  rcases h with h0 | ⟨b, off, hA, hbg, hc⟩
  · exact .inl h0
  · refine .inr ⟨b, off, hA, hbg, fun i hi => ?_⟩
    rw [World.cell?_of_block (w := w) (w' := w') (a := ⟨b, off + i, none⟩) (hb b hbg)]
    exact hc i hi

/-- The cursor in block `g`: over the bytes `zs` that lie before it, at place `i`, with the mixed number `h`. -/
structure Cursor (w : World) (g : Nat) (A : Option Addr) (cap : Nat) (zs : List Int) (i : Nat) (h : Int) : Prop where
  few : zs.length ≤ 1048576
  le : i ≤ zs.length
  cur : w.heap[g]? = some (.cells #[.slice A zs.length cap, .int .i64 (i : Int), .int .i64 h] 71 (0, 0))
  lies : Lies w g A zs
section
variable {w w' : World} {g : Nat} {A : Option Addr} {cap : Nat} {zs : List Int} {i : Nat} {h : Int}
theorem Cursor.lt (hC : Cursor w g A cap zs i h) : g < w.heap.size := by
  by_cases hn : g < w.heap.size
  · exact hn
  · have := hC.cur
    rw [Array.getElem?_eq_none (by omega)] at this
    cases this
/-- It stays behind what writes neither to it nor before it. -/
theorem Cursor.kept (hC : Cursor w g A cap zs i h) (hb : ∀ k, k ≤ g → w'.heap[k]? = w.heap[k]?) : Cursor w' g A cap zs i h :=
  ⟨hC.few, hC.le, by rw [hb g (Nat.le_refl _)]; exact hC.cur, hC.lies.kept fun k hk => hb k (by omega)⟩
theorem Cursor.drewN (hC : Cursor w g A cap zs i h) (k : Nat) : Cursor (w.drewN k) g A cap zs i h := ⟨hC.few, hC.le, hC.cur, hC.lies⟩
theorem Cursor.drew (hC : Cursor w g A cap zs i h) : Cursor w.drew g A cap zs i h := ⟨hC.few, hC.le, hC.cur, hC.lies⟩
theorem Cursor.alloc (hC : Cursor w g A cap zs i h) (o : Obj) : Cursor (w.alloc o) g A cap zs i h := hC.kept fun k hk => Below.heap_alloc _ _ _ (by have := hC.lt; omega)
theorem Cursor.grown (hC : Cursor w g A cap zs i h) {row : Option Nat} (hg : w.grownBy w' row) (hr : ∀ k, row = some k → g < k) : Cursor w' g A cap zs i h :=
  hC.kept fun k hk => hg.block k (by have := hC.lt; omega) (fun e => by have := hr k e.symm; omega)
theorem Cursor.set2 (hC : Cursor w g A cap zs i h) (k : Int) : Cursor (w.setCell ⟨g, 2, none⟩ (.int .i64 k)) g A cap zs i k := by
  refine ⟨hC.few, hC.le, ?_, hC.lies.kept fun j hj => heap_setCell_other _ _ _ _ (by simp; omega)⟩
  rw [heap_setCell_same w g 2 _ _ _ hC.cur]
  rfl
theorem Cursor.set1 (hC : Cursor w g A cap zs i h) (i' : Nat) (x : Int) (hx : x = (i' : Int)) (hi' : i' ≤ zs.length) : Cursor (w.setCell ⟨g, 1, none⟩ (.int .i64 x)) g A cap zs i' h := by
  subst hx
  refine ⟨hC.few, hi', ?_, hC.lies.kept fun j hj => heap_setCell_other _ _ _ _ (by simp; omega)⟩
  rw [heap_setCell_same w g 1 _ _ _ hC.cur]
  rfl
end
theorem grown_refl (w : World) (row : Option Nat) : w.grownBy w row := ⟨rfl, rfl, rfl, Nat.le_refl _, fun _ _ _ => rfl⟩
theorem grown_drewN {w w' : World} {row : Option Nat} (h : w.grownBy w' row) (k : Nat) : w.grownBy (w'.drewN k) row := ⟨h.os, h.tape, h.output, h.size, h.block⟩
theorem grown_drew {w w' : World} {row : Option Nat} (h : w.grownBy w' row) : w.grownBy w'.drew row := ⟨h.os, h.tape, h.output, h.size, h.block⟩
theorem grown_set {w w' : World} {g : Nat} (h : w.grownBy w' (some g)) (i : Nat) (u : Value) : w.grownBy (w'.setCell ⟨g, i, none⟩ u) (some g) :=
  ⟨h.os, h.tape, h.output, by simpa [World.setCell] using h.size, fun k hk hne => by
    rw [heap_setCell_other _ _ _ _ (fun e => hne (by rw [e]))]
    exact h.block k hk hne⟩
theorem grown_alloc {w w' : World} {row : Option Nat} (h : w.grownBy w' row) (o : Obj) : w.grownBy (w'.alloc o) row :=
  ⟨h.os, h.tape, h.output, Nat.le_trans h.size (by simp), fun k hk hne => by
    rw [Below.heap_alloc _ _ _ (Nat.lt_of_lt_of_le hk h.size)]
    exact h.block k hk hne⟩
/-- Behind a write to a row of the call's own. -/
theorem grown_own {w w1 w2 : World} {g : Nat} {row : Option Nat} (h : w.grownBy w1 (some g)) (k : w1.grownBy w2 row) (hr : ∀ j, row = some j → w.heap.size ≤ j) : w.grownBy w2 (some g) :=
  ⟨k.os.trans h.os, k.tape.trans h.tape, k.output.trans h.output, Nat.le_trans h.size k.size, fun j hj hne => by
    rw [k.block j (Nat.lt_of_lt_of_le hj h.size) (fun e => by have := hr j e.symm; omega)]
    exact h.block j hj hne⟩
theorem grown_below {w w1 : World} {g : Nat} {B : Nat} (h : w.grownBy w1 (some g)) (hg : B ≤ g) (hB : B ≤ w.heap.size) : Below B w w1 :=
  (Below.refl B w).grown h hB (fun k e => by cases e; exact hg)

/-- The mixed number's next value. -/
def mixH (h : Int) : Int := wrap64 (wrap64 (h * 6364136223846793005) + 1442695040888963407)

set_option maxRecDepth 100000 in
set_option maxHeartbeats 1000000 in
theorem byte_det (A : Option Addr) (cap : Nat) (zs : List Int) (i : Nat) (h : Int) (hi : i ≤ zs.length) : ∃ (x : Int) (i' : Nat) (h' : Int), 0 ≤ x ∧ x ≤ 255 ∧ i' ≤ zs.length ∧ ∀ (w : World) (g : Nat), Cursor w g A cap zs i h →
    Calls Try.prog 74 #[.pointer (some ⟨g, 0, none⟩)] w fun e w' => e = .returned (.int .i64 x) ∧ Cursor w' g A cap zs i' h' ∧ w.grownBy w' (some g) := by
  by_cases hlt : i < zs.length
  · refine ⟨bits .and .i64 (wrap64 (bits .and .i64 (bits .xor .i64 (wrap64 (wrap64 (h * 6364136223846793005) + 1442695040888963407) / 8589934592) (wrap64 (wrap64 (h * 6364136223846793005) + 1442695040888963407) / 35184372088832)) 255 + wrap64 (zs.getD i 0))) 255, i + 1, mixH h, (and255 _).1, (and255 _).2, hlt, fun w g hC => ?_⟩
    have hg := hC.cur
    have c0 := cell_of_row w g 0 _ _ _ hg
    have c1 := cell_of_row w g 1 _ _ _ hg
    have c2 := cell_of_row w g 2 _ _ _ hg
    have f1 := frozen_of_row w g 1 _ _ hg
    have f2 := frozen_of_row w g 2 _ _ hg
    have hfew := hC.few
    simp only [List.getElem?_toArray, List.getElem?_cons_zero, List.getElem?_cons_succ] at c0 c1 c2
    have HC := Lib.hid hC; clear hC
    have HG := Lib.hid hg; clear hg
    have hlI : (i : Int) < (zs.length : Int) := by omega
    rcases HC.out.lies with h0 | ⟨b, off, rfl, hbg, hrow⟩
    · rw [h0] at hlt; simp at hlt
    have hv := hrow i hlt
    obtain ⟨v, hvd⟩ : ∃ v, v = zs.getD i 0 := ⟨_, rfl⟩
    rw [← hvd] at hv ⊢
    have HVD := Lib.hid hvd; clear hvd
    obtain ⟨n, hn⟩ : ∃ n, n = zs.length := ⟨_, rfl⟩
    rw [← hn] at c0 hlI hfew hi hlt
    have HN := Lib.hid hn; clear hn
    clear hrow
    have hne : ¬ b = g := by omega
    go_enter Try.func74, Try.ntmps74
    go_wp2
    go_quiet (fail)
    go_wp2
    go_quiet (fail)
    go_wp2
    go_quiet (fail)
    go_wp2
    go_ret
    exact ⟨rfl, ((HC.out.set2 _).drewN _).set1 (i + 1) _ (by omega) (by rw [← HN.out]; omega), grown_set (grown_drewN (grown_set (grown_refl _ _) 2 _) _) 1 _⟩
  · refine ⟨bits .and .i64 (bits .xor .i64 (wrap64 (wrap64 (h * 6364136223846793005) + 1442695040888963407) / 8589934592) (wrap64 (wrap64 (h * 6364136223846793005) + 1442695040888963407) / 35184372088832)) 255, i, mixH h, (and255 _).1, (and255 _).2, hi, fun w g hC => ?_⟩
    have hg := hC.cur
    have c0 := cell_of_row w g 0 _ _ _ hg
    have c1 := cell_of_row w g 1 _ _ _ hg
    have c2 := cell_of_row w g 2 _ _ _ hg
    have f1 := frozen_of_row w g 1 _ _ hg
    have f2 := frozen_of_row w g 2 _ _ hg
    have hfew := hC.few
    simp only [List.getElem?_toArray, List.getElem?_cons_zero, List.getElem?_cons_succ] at c0 c1 c2
    have HC := Lib.hid hC; clear hC
    have HG := Lib.hid hg; clear hg
    obtain ⟨n, hn⟩ : ∃ n, n = zs.length := ⟨_, rfl⟩
    rw [← hn] at c0 hfew hi hlt
    have HN := Lib.hid hn; clear hn
    have hlI : (n : Int) ≤ (i : Int) := by omega
    go_enter Try.func74, Try.ntmps74
    go_wp2
    go_quiet (fail)
    go_wp2
    go_quiet (fail)
    go_wp2
    go_ret
    exact ⟨rfl, ((HC.out.set2 _).drewN _).drewN _, grown_drewN (grown_drewN (grown_set (grown_refl _ _) 2 _) _) _⟩

set_option maxRecDepth 100000 in
set_option maxHeartbeats 1000000 in
theorem below_det (A : Option Addr) (cap : Nat) (zs : List Int) (i : Nat) (h : Int) (hi : i ≤ zs.length) (m : Int) : ∃ (x : Int) (i' : Nat) (h' : Int), 0 ≤ x ∧ (0 < m → x < m) ∧ (m ≤ 0 → x = 0) ∧ i' ≤ zs.length ∧ ∀ (w : World) (g : Nat), Cursor w g A cap zs i h →
    Calls Try.prog 68 #[.pointer (some ⟨g, 0, none⟩), .int .i64 m] w fun e w' => e = .returned (.int .i64 x) ∧ Cursor w' g A cap zs i' h' ∧ w.grownBy w' (some g) := by
  by_cases hm : m ≤ 0
  · refine ⟨0, i, h, Int.le_refl _, fun e => by omega, fun _ => rfl, hi, fun w g hC => ?_⟩
    have HC := Lib.hid hC; clear hC hi
    go_enter Try.func68, Try.ntmps68
    go_wp2
    go_ret
    exact ⟨rfl, HC.out, grown_refl _ _⟩
  · obtain ⟨x1, i1, h1, a1, b1, l1, C1⟩ := byte_det A cap zs i h hi
    have HC1 := Lib.hid C1; clear C1
    by_cases hs : m ≤ 256
    · refine ⟨x1 % m, i1, h1, Int.emod_nonneg _ (by omega), fun _ => Int.emod_lt_of_pos _ (by omega), fun e => by omega, l1, fun w g hC => ?_⟩
      have HC := Lib.hid hC; clear hC hi l1
      have hm1 : 1 ≤ m := by omega
      go_enter Try.func68, Try.ntmps68
      go_wp2_with fail
      refine (HC1.out _ _ HC.out).mono ?_
      rintro e w1 ⟨rfl, hC1, hg1⟩
      have HC2 := Lib.hid hC1; clear hC1
      go_wp2
      go_ret
      exact ⟨rfl, HC2.out, hg1⟩
    · obtain ⟨x2, i2, h2, a2, b2, l2, C2⟩ := byte_det A cap zs i1 h1 l1
      obtain ⟨x3, i3, h3, a3, b3, l3, C3⟩ := byte_det A cap zs i2 h2 l2
      obtain ⟨x4, i4, h4, a4, b4, l4, C4⟩ := byte_det A cap zs i3 h3 l3
      have HC2 := Lib.hid C2; clear C2
      have HC3 := Lib.hid C3; clear C3
      have HC4 := Lib.hid C4; clear C4
      refine ⟨(x1 * 16777216 + x2 * 65536 + x3 * 256 + x4) % m, i4, h4, Int.emod_nonneg _ (by omega), fun _ => Int.emod_lt_of_pos _ (by omega), fun e => by omega, l4, fun w g hC => ?_⟩
      have HC := Lib.hid hC; clear hC hi l1 l2 l3 l4
      have hm1 : 1 ≤ m := by omega
      go_enter Try.func68, Try.ntmps68
      go_wp2_with fail
      refine (HC1.out _ _ HC.out).mono ?_
      rintro e w1 ⟨rfl, hC1, hg1⟩
      have G1 := Lib.hid hC1; clear hC1
      go_wp2_with fail
      refine (HC2.out _ _ G1.out).mono ?_
      rintro e w2 ⟨rfl, hC2, hg2⟩
      have G2 := Lib.hid hC2; clear hC2
      go_wp2_with fail
      refine (HC3.out _ _ G2.out).mono ?_
      rintro e w3 ⟨rfl, hC3, hg3⟩
      have G3 := Lib.hid hC3; clear hC3
      go_wp2_with fail
      refine (HC4.out _ _ G3.out).mono ?_
      rintro e w4 ⟨rfl, hC4, hg4⟩
      have G4 := Lib.hid hC4; clear hC4
      go_wp2
      go_ret
      exact ⟨rfl, G4.out, ((hg1.trans hg2).trans hg3).trans hg4⟩

set_option maxHeartbeats 400000 in
theorem once_det (A : Option Addr) (cap : Nat) (zs : List Int) (i : Nat) (h : Int) (hi : i ≤ zs.length) (m : Int) : ∃ (b : Bool) (i' : Nat) (h' : Int), i' ≤ zs.length ∧ ∀ (w : World) (g : Nat), Cursor w g A cap zs i h →
    Calls Try.prog 47 #[.pointer (some ⟨g, 0, none⟩), .int .i64 m] w fun e w' => e = .returned (.bool b) ∧ Cursor w' g A cap zs i' h' ∧ w.grownBy w' (some g) := by
  obtain ⟨x, i1, h1, a1, b1, c1, l1, C1⟩ := below_det A cap zs i h hi m
  have HC1 := Lib.hid C1; clear C1
  refine ⟨x == 0, i1, h1, l1, fun w g hC => ?_⟩
  have HC := Lib.hid hC; clear hC hi l1 b1 c1
  go_enter Try.func47, Try.ntmps47
  go_wp2_with fail
  refine (HC1.out _ _ HC.out).mono ?_
  rintro e w1 ⟨rfl, hC1, hg1⟩
  have G1 := Lib.hid hC1; clear hC1
  go_wp2
  go_ret
  exact ⟨rfl, G1.out, hg1⟩
end Go.Proofs.Ytemfiglflbfocaa

namespace Go.Proofs.Ytemfiglflbfocaa
open Go.RowKit
set_option linter.unusedVariables false

set_option maxHeartbeats 400000 in
theorem pickint_det (A : Option Addr) (cap : Nat) (zs : List Int) (i : Nat) (h : Int) (hi : i ≤ zs.length) (vs : List Int) (hvs : 0 < vs.length) (hv9 : vs.length ≤ 1000) : ∃ (k : Nat) (i' : Nat) (h' : Int), k < vs.length ∧ i' ≤ zs.length ∧ ∀ (w : World) (g gl : Nat), Cursor w g A cap zs i h →
    w.heap[gl]? = some (.cells (vs.map (Value.int .i64)).toArray 3 (0, 0)) → gl ≠ g →
    Calls Try.prog 67 #[.pointer (some ⟨g, 0, none⟩), .slice (some ⟨gl, 0, none⟩) vs.length vs.length] w fun e w' => e = .returned (.int .i64 (vs.getD k 0)) ∧ Cursor w' g A cap zs i' h' ∧ w.grownBy w' (some g) := by
  obtain ⟨x, i1, h1, a1, b1, c1, l1, C1⟩ := below_det A cap zs i h hi (vs.length : Int)
  have b2 := b1 (by omega)
  obtain ⟨k, rfl⟩ := Int.eq_ofNat_of_zero_le a1
  refine ⟨k, i1, h1, by omega, l1, fun w g gl hC hgl hne => ?_⟩
  have hc : w.cell? ⟨gl, k, none⟩ = some (.int .i64 (vs.getD k 0)) := by
    rw [cell_of_row w gl k _ _ _ hgl]
    have hk : k < vs.length := by omega
    simp [List.getD_eq_getElem?_getD, List.getElem?_eq_getElem hk]
  have HC1 := Lib.hid C1
  have HC := Lib.hid hC
  have HL := Lib.hid hc
  obtain ⟨v, hv⟩ : ∃ v, v = vs.getD k 0 := ⟨_, rfl⟩
  rw [← hv]
  have HV := Lib.hid hv
  obtain ⟨n, hn⟩ : ∃ n, n = vs.length := ⟨_, rfl⟩
  rw [← hn] at b2 HC1 hv9 hvs ⊢
  clear hC C1 hc hgl hi l1 a1 b1 c1 hn hv
  have hkn : k < n := by omega
  go_enter Try.func67, Try.ntmps67
  go_wp2_with fail
  refine (HC1.out _ _ HC.out).mono ?_
  rintro e w1 ⟨rfl, hC1, hg1⟩
  have G1 := Lib.hid hC1; clear hC1
  have hcell : w1.cell? ⟨gl, k, none⟩ = some (.int .i64 v) := by
    rw [HV.out]
    exact hg1.cell HL.out (by simpa using hne)
  go_wp2
  go_ret
  exact ⟨rfl, G1.out, hg1⟩

/-- The limits that Num picks from. -/
def numL : List Int := [-1, 0, 127, 128, 255, 256, 16383, 16384, 65535, 65536, 562949953421311, 562949953421312, 999999999, 1000000000, -999999999, 9223372036854775807, -9223372036854775808]
theorem numL_bound : ∀ k, k < 17 → -9223372036854775808 ≤ numL.getD k 0 ∧ numL.getD k 0 ≤ 9223372036854775807 := by decide

end Go.Proofs.Ytemfiglflbfocaa

namespace Go.Proofs.Ytemfiglflbfocaa
open Go.RowKit
set_option linter.unusedVariables false

/-- A sequence out of a step. -/
theorem seq_of {σ : Type} (P : σ → Prop) (R : σ → σ → Prop) (s0 : σ) (h0 : P s0) (step : ∀ s, P s → ∃ s', P s' ∧ R s s') : ∃ f : Nat → σ, f 0 = s0 ∧ (∀ n, P (f n)) ∧ ∀ n, R (f n) (f (n + 1)) := by
  have hs : ∀ s : { s // P s }, ∃ s' : { s // P s }, R s.1 s'.1 := fun s => by
    obtain ⟨s', h1, h2⟩ := step s.1 s.2
    exact ⟨⟨s', h1⟩, h2⟩
  obtain ⟨F, hF⟩ := Classical.axiomOfChoice hs
  refine ⟨fun n => (Nat.rec (motive := fun _ => { s // P s }) ⟨s0, h0⟩ (fun _ s => F s) n).1, rfl, fun n => Subtype.property _, fun n => hF _⟩

/-- `append` of one byte, with what it writes to. -/
theorem append_byte {P : Program} {w : World} (w0 : World) {ops : Array Oper} {rest : List Oper} {o : Oper} {a : Act} {Q : Exit → Act → World → Prop} (hgd : o.guard = none) (s x : Operand) (t : TypeId)
    (ho : o.op = .call { callee := .builtin .append, args := #[s, x], argTypes := #[t, t] })
    (base : Nat) (e : TypeId) (i : TypeInfo) (z : Value) (ht : P.underlying t = some (.slice e)) (hi : P.info? e = some i) (hz : i.zero = some z)
    (hsize : i.size = 1) (hby : i.bytes = 1) (hzs : z.cells.size = 1)
    (v : Value) (n : Nat) (xs : List Value) (hs : a.eval s = v) (hown : w0.ownsRow base e 1 v n xs)
    (u : Value) (hw : w = w0.alloc (.cells #[u] e)) (h1 : u.oneCell' = true) (hx : a.eval x = .slice (some ⟨w0.heap.size, 0, none⟩) 1 1)
    (hbytes : (n + 1) * 1 ≤ 140737488355328) (h63 : n + 1 ≤ maxLen) (hb : base ≤ w0.heap.size)
    (h : ∀ v' w', w'.ownsRow base e 1 v' (n + 1) (xs ++ [u]) → (w0.alloc (.cells #[u] e)).grownBy w' v.ownBlock → wpList P ops Q rest (a.put o.dst v') w') :
    wpList P ops Q (o :: rest) a w := by
  subst hw
  refine wpList_append_own (w0.alloc (.cells #[u] e)) hgd s x t ho base e i z 1 1 ht hi hz hsize hby hzs (by decide) v n xs hs (hown.alloc _)
    ⟨w0.heap.size, 0, none⟩ 1 1 [u] hx rfl ?_ ?_ h63 hbytes (by simp; omega) ?_
  · intro j y hj
    match j, hj with
    | 0, hj =>
      simp at hj
      subst hj
      simp [Addr.add, World.cell?_alloc_mark]
  · intro y hy
    simp at hy
    subst hy
    exact h1
  · intro v' w' hown' hg _
    exact h v' w' hown' hg

/-- A row of the call's own lies in another block than one before it. -/
theorem own_far {w : World} {base : Nat} {e : TypeId} {size : Nat} {v : Value} {n : Nat} {xs : List Value} (h : w.ownsRow base e size v n xs) {g : Nat} (hg : g < base) : v.ownBlock = none ∨ v.ownBlock ≠ some g := by
  cases hob : v.ownBlock with
  | none => exact .inl rfl
  | some b => exact .inr (by have := (h.lt b hob).1; simp; omega)

/-- The styles of a text. -/
def sty (S x : Int) : Int := if S = 1 then x % 2 else if S = 2 then 97 + x % 4 else x
theorem sty_range (S x : Int) (h0 : 0 ≤ x) (h1 : x ≤ 255) : 0 ≤ sty S x ∧ sty S x < 256 := by unfold sty; split <;> (try split) <;> omega

theorem Try.dinfoU8 : (Try.prog.info? 5).map (fun i => (i.zero, i.size, i.bytes)) = some (some (.int .u8 0), 1, 1) := by kernel_rfl

end Go.Proofs.Ytemfiglflbfocaa

namespace Go.Proofs.Ytemfiglflbfocaa
open Go.RowKit
set_option linter.unusedVariables false

/-- The first mixed number, byte by byte. -/
def hashF (zs : List Int) : Nat → Int
  | 0 => 10101 + zs.length
  | k + 1 => (hashF zs k * 131 + zs.getD k 0 + 7) % 1073741824
theorem hashF_range (zs : List Int) (h : zs.length ≤ 1048576) (k : Nat) : 0 ≤ hashF zs k ∧ hashF zs k < 1073741824 := by
  cases k with
  | zero => unfold hashF; omega
  | succ k => unfold hashF; omega

set_option maxRecDepth 100000 in
set_option maxHeartbeats 1000000 in
theorem new_any (A : Option Addr) (cap : Nat) (zs : List Int) (hfew : zs.length ≤ 1048576) (hz : ∀ j, j < zs.length → 0 ≤ zs.getD j 0 ∧ zs.getD j 0 < 256) (w : World) (hL : Lies w w.heap.size A zs) :
    Calls Try.prog 44 #[.slice A zs.length cap] w fun e w' => e = .returned (.pointer (some ⟨w.heap.size, 0, none⟩)) ∧ Cursor w' w.heap.size A cap zs 0 (hashF zs (min zs.length 4000)) ∧ Below w.heap.size w w' := by
  obtain ⟨n, hn⟩ : ∃ n, n = zs.length := ⟨_, rfl⟩
  obtain ⟨M, hM⟩ : ∃ M : Nat, M = min zs.length 4000 := ⟨_, rfl⟩
  rw [← hM]
  have hMn : M ≤ n := by omega
  have hM4 : M ≤ 4000 := by omega
  have hMe : M < 4000 → n ≤ M := by omega
  have HR := Lib.hid (hashF_range zs hfew)
  have HF := Lib.hid hfew
  have h00 : hashF zs 0 = 10101 + (n : Int) := by rw [hn]; rfl
  have H00 := Lib.hid h00; clear h00
  have HZ := Lib.hid hz; clear hz
  have HL := Lib.hid hL; clear hL
  rw [← hn] at hfew ⊢
  have HN := Lib.hid hn
  clear hM hn
  go_enter Try.func44, Try.ntmps44
  go_wp2
  go_loop [3, 4] (fun hh i => ∃ k : Nat, k ≤ M ∧ i = .int .i64 k ∧ hh = .int .i64 (hashF zs k)) (fun _ i => M - (intOf i).toNat)
  case atStart => exact ⟨0, Nat.zero_le _, rfl, by rw [H00.out]⟩
  case round =>
    obtain ⟨k, hk, rfl, rfl⟩ := hrel
    obtain ⟨r0, r1⟩ := HR.out k
    by_cases hlt : k < M
    · have hkn : k < n := by omega
      rcases HL.out with h0 | ⟨b, off, rfl, hbg, hrow⟩
      · have := HN.out; rw [h0] at this; simp at this; omega
      have hv := hrow k (by rw [← HN.out]; exact hkn)
      obtain ⟨v0, v9⟩ := HZ.out k (by rw [← HN.out]; exact hkn)
      have hs : hashF zs (k + 1) = (hashF zs k * 131 + zs.getD k 0 + 7) % 1073741824 := rfl
      obtain ⟨v, hvd⟩ : ∃ v, v = zs.getD k 0 := ⟨_, rfl⟩
      obtain ⟨c, hcd⟩ : ∃ c, c = hashF zs k := ⟨_, rfl⟩
      rw [← hvd] at hv v0 v9 hs
      rw [← hcd] at hs r0 r1
      have hand : bits .and .i64 (c * 131 + v + 7) 1073741823 = (c * 131 + v + 7) % 1073741824 := and_i64 30 _ _ rfl (by omega) (by omega) (by omega)
      have HS := Lib.hid hs; clear hs hrow
      have HCD := Lib.hid hcd
      rw [← hcd]
      clear hcd hvd
      have hk4 : decide ((k : Int) < 4000) = true := by simp; omega
      have hkI : (k : Int) < (n : Int) := by omega
      go_wp2
      go_round
      case rel => exact ⟨k + 1, by omega, by go_num, by rw [HS.out]⟩
      case measure => simp [intOf]; omega
    · obtain rfl : k = M := by omega
      obtain ⟨c, hcd⟩ : ∃ c, c = hashF zs k := ⟨_, rfl⟩
      rw [← hcd] at r0 r1 ⊢
      have HCD := Lib.hid hcd; clear hcd
      have hex : ((k : Int) < (n : Int) ∧ decide ((k : Int) < 4000) = false) ∨ (n : Int) ≤ (k : Int) := by
        by_cases h : k < n
        · left; exact ⟨by omega, by simp; omega⟩
        · right; omega
      have fin : ∀ h : Int, Cursor (w.alloc (.cells #[.slice A n cap, .int .i64 0, .int .i64 h] 71)) w.heap.size A cap zs 0 h := fun h =>
        ⟨HF.out, Nat.zero_le _, by rw [← HN.out]; exact heap_alloc_new w _, HL.out.kept fun j hj => Below.heap_alloc _ _ _ hj⟩
      have FIN := Lib.hid fin; clear fin
      clear hMe hM4 hlt hMn
      rcases hex with ⟨hx1, hx2⟩ | hx1
      all_goals
        go_wp2
        go_ret
        exact ⟨rfl, by rw [← HCD.out]; exact FIN.out _, (Below.refl _ _).alloc (Nat.le_refl _) _⟩
end Go.Proofs.Ytemfiglflbfocaa

namespace Go.Proofs.Ytemfiglflbfocaa
open Go.RowKit
set_option linter.unusedVariables false

/-- The input: its bytes lie before the heap's end. -/
structure Code (w : World) (A : Option Addr) (zs : List Int) : Prop where
  few : zs.length ≤ 1048576
  bytes : ∀ j, j < zs.length → 0 ≤ zs.getD j 0 ∧ zs.getD j 0 < 256
  lies : Lies w w.heap.size A zs
theorem Lies.mono {w : World} {g g' : Nat} {A : Option Addr} {zs : List Int} (h : Lies w g A zs) (hg : g ≤ g') : Lies w g' A zs := by
  rcases h with h0 | ⟨b, off, hA, hbg, hc⟩
  · exact .inl h0
  · exact .inr ⟨b, off, hA, Nat.lt_of_lt_of_le hbg hg, hc⟩
theorem Code.below {w w' : World} {A : Option Addr} {zs : List Int} (h : Code w A zs) (hb : Below w.heap.size w w') : Code w' A zs :=
  ⟨h.few, h.bytes, (h.lies.kept fun k hk => hb.block k hk).mono hb.size⟩

/-- The input as the draws take it. -/
theorem code_of {w : World} {a : Option Addr} {len cap : Nat} {zs : List Int} (h : IsRow .u8 w a len cap zs) (hb : len ≤ 1048576) : ∃ ys : List Int, ys.length = len ∧ Code w a ys := by
  rcases h with ⟨rfl, rfl, rfl, rfl⟩ | ⟨x, rfl, hl, hm, hz, hcell, hwf⟩
  · exact ⟨[], rfl, by simp, fun j hj => absurd hj (by simp), .inl rfl⟩
  · have hlen : (zs.take len).length = len := by rw [List.length_take]; omega
    have hg : ∀ j, j < len → (zs.take len).getD j 0 = zs.getD j 0 := fun j hj => by
      rw [List.getD_eq_getElem?_getD, List.getElem?_take, if_pos hj, ← List.getD_eq_getElem?_getD]
    refine ⟨zs.take len, hlen, by omega, fun j hj => ?_, ?_⟩
    · rw [hlen] at hj
      rw [hg j hj, List.getD_eq_getElem?_getD, List.getElem?_eq_getElem (by omega)]
      have := hwf _ (List.getElem_mem (show j < zs.length by omega))
      have e1 : IntKind.u8.min = 0 := rfl
      have e2 : IntKind.u8.max = 255 := rfl
      simp [Lit.wf, e1, e2] at this
      simp
      omega
    · by_cases h0 : len = 0
      · left
        exact List.eq_nil_of_length_eq_zero (by omega)
      · right
        obtain ⟨b, off, spot⟩ := x
        have hc := hcell 0 (by omega)
        have hspot : spot = none := by simpa [Addr.add] using World.cell?_spot hc
        subst hspot
        have hadd : ∀ j, (⟨b, off, none⟩ : Addr).add j = ⟨b, off + j, none⟩ := fun j => by unfold Addr.add; split <;> simp_all
        refine ⟨b, off, rfl, ?_, fun j hj => ?_⟩
        · exact World.block_lt_of_cell? w _ hc
        · rw [hlen] at hj
          have := hcell j (by omega)
          rw [hadd] at this
          rw [hg j hj]
          exact this

set_option maxHeartbeats 400000 in
theorem big_any (a : Option Addr) (n cap : Nat) (hn : n ≤ 9223372036854775807) (w : World) :
    Calls Try.prog 12 #[.slice a n cap] w fun e w' => e = .returned (.bool (decide (1048576 < (n : Int)))) ∧ w = w' := by
  go_enter Try.func12, Try.ntmps12
  go_wp2
  go_ret
  exact ⟨rfl, rfl⟩

end Go.Proofs.Ytemfiglflbfocaa
