/-
  Plain helpers: rows of integers, those that came in and those that a call owns; contracts of what the laws do with them (compare, mark, look again, copy). No condition but those that each lemma states.
-/
import Derived.Test.YthiplncceglnhaaRows
import Derived.Test.YthiplncceglnhaaKit
namespace Go.Proofs.Ythiplncceglnhaa
open Go.RowKit
set_option linter.unusedVariables false

/-- An integer as a cell; a list of integers as cells. -/
def iv (x : Int) : Value := .int .i64 x
def ivs (l : List Int) : List Value := l.map iv
theorem ivs_len (l : List Int) : (ivs l).length = l.length := by simp [ivs]
theorem ivs_append (a b : List Int) : ivs (a ++ b) = ivs a ++ ivs b := by simp [ivs]
theorem ivs_at (l : List Int) (j : Nat) (h : j < l.length) : (ivs l)[j]? = some (.int .i64 (l.getD j 0)) := by
  rw [List.getD_eq_getElem?_getD]
  simp [ivs, h, iv]
theorem ivs_set (l : List Int) (j : Nat) (x : Int) : (ivs l).set j (.int .i64 x) = ivs (l.set j x) := by
  show (ivs l).set j (iv x) = _
  simp [ivs, List.map_set]

/-- `A`'s elements read as `l`, and lie in blocks below `g`. -/
def Ints (w : World) (g : Nat) (A : Option Addr) (l : List Int) : Prop :=
  l.length ≤ 281474976710656 ∧ (l = [] ∨ ∃ b off, A = some ⟨b, off, none⟩ ∧ b < g ∧ ∀ j, j < l.length → w.cell? ⟨b, off + j, none⟩ = some (.int .i64 (l.getD j 0)))
theorem Ints.kept {w w' : World} {g : Nat} {A : Option Addr} {l : List Int} (h : Ints w g A l) (hb : ∀ k, k < g → w'.heap[k]? = w.heap[k]?) : Ints w' g A l := by
  obtain ⟨hm, h0 | ⟨b, off, hA, hbg, hc⟩⟩ := h
  · exact ⟨hm, .inl h0⟩
  · refine ⟨hm, .inr ⟨b, off, hA, hbg, fun i hi => ?_⟩⟩
    rw [World.cell?_of_block (w := w) (w' := w') (a := ⟨b, off + i, none⟩) (hb b hbg)]
    exact hc i hi
theorem Ints.below {w w' : World} {g B : Nat} {A : Option Addr} {l : List Int} (h : Ints w g A l) (hb : Below B w w') (hg : g ≤ B) : Ints w' g A l := h.kept fun k hk => hb.block k (Nat.lt_of_lt_of_le hk hg)
theorem Ints.mono {w : World} {g g' : Nat} {A : Option Addr} {l : List Int} (h : Ints w g A l) (hg : g ≤ g') : Ints w g' A l := by
  obtain ⟨hm, h0 | ⟨b, off, hA, hbg, hc⟩⟩ := h
  · exact ⟨hm, .inl h0⟩
  · exact ⟨hm, .inr ⟨b, off, hA, Nat.lt_of_lt_of_le hbg hg, hc⟩⟩
theorem Ints.grown {w w' : World} {g : Nat} {A : Option Addr} {l : List Int} {row : Option Nat} (h : Ints w g A l) (hg : w.grownBy w' row) (hl : g ≤ w.heap.size) (hr : ∀ k, row = some k → g ≤ k) : Ints w' g A l :=
  h.kept fun k hk => hg.block k (Nat.lt_of_lt_of_le hk hl) fun e => by have := hr k e.symm; omega
theorem Ints.at {w : World} {g : Nat} {A : Option Addr} {l : List Int} (h : Ints w g A l) (j : Nat) (hj : j < l.length) : ∃ b off, A = some ⟨b, off, none⟩ ∧ b < g ∧ ∀ j, j < l.length → w.cell? ⟨b, off + j, none⟩ = some (.int .i64 (l.getD j 0)) := by
  obtain ⟨_, rfl | h⟩ := h
  · exact absurd hj (by simp)
  · exact h

/-- A row of integers that the call owns. -/
def OwnI (w : World) (base : Nat) (A : Option Addr) (cap : Nat) (l : List Int) : Prop := w.ownsRow base 3 1 (.slice A l.length cap) l.length (ivs l)
theorem OwnI.ints {w : World} {base : Nat} {A : Option Addr} {cap : Nat} {l : List Int} (h : OwnI w base A cap l) (hm : l.length ≤ 281474976710656) : Ints w w.heap.size A l := by
  refine ⟨hm, ?_⟩
  have h0 := h
  rcases h.2 with ⟨h1, h2⟩ | ⟨g, cap, cur, h1, h2, h3, _⟩
  · exact .inl (List.eq_nil_of_length_eq_zero h2)
  · simp only [Value.slice.injEq] at h1
    obtain ⟨rfl, _, rfl⟩ := h1
    refine .inr ⟨g, 0, rfl, (Array.getElem?_eq_some_iff.1 h3).1, fun j hj => ?_⟩
    rw [Nat.zero_add, World.ownsRow.cellAt h0 j (by omega)]
    exact ivs_at l j hj
/-- A view of a row that the call owns at another state: the row is where it was. -/
theorem OwnI.kept {w w' : World} {base B : Nat} {A : Option Addr} {cap : Nat} {l : List Int} (h : OwnI w base A cap l) (hb : Below B w w') (hB : w.heap.size ≤ B) : OwnI w' base A cap l := by
  unfold OwnI at h ⊢
  have hl := World.ownsRow.lt h
  refine World.ownsRow.kept (row := none) h ⟨hb.os, hb.tape, hb.output, hb.size, fun k hk _ => hb.block k (by omega)⟩ ?_
  cases hv : (Value.slice A l.length cap).ownBlock <;> simp

theorem Try.iinfo : (Try.prog.info? 3).map (fun i => (i.zero, i.size, i.bytes)) = some (some (.int .i64 0), 1, 8) := by kernel_rfl

/-- `make([]int, n)`: the row of zeros. -/
theorem make_ints (n : Nat) (x : Int) (hx : x = (n : Int)) (hn : n ≤ 1000000000000) (w : World) :
    (Instr.makeSlice 82 (.int .i64 x) (.int .i64 x)).run Try.prog w =
      .ok (.slice (some ⟨w.heap.size, 0, none⟩) n n) (w.alloc (.cells (ivs (List.replicate n 0)).toArray 3)) := by
  subst hx
  obtain ⟨i, hi, hz, h1, hb⟩ := info_parts Try.iinfo
  have h := run_make (P := Try.prog) w 82 3 i (.int .i64 0) Try.underlying82 hi hz .i64 .i64 (n : Int) (n : Int) (by omega) (by omega) (by rw [hb]; omega) (by omega)
  rw [h]
  have hc : madeCells (Value.int .i64 0).cells ((n : Int).toNat * i.size) = (ivs (List.replicate n 0)).toArray := by
    rw [h1, Int.toNat_natCast, Nat.mul_one]
    have := toList_madeCells_one (.int .i64 0) n
    show madeCells #[Value.int .i64 0] n = _
    apply Array.ext'
    rw [this]
    simp [ivs, iv]
  rw [hc]
  simp
/-- A row that is the last block is owned. -/
theorem own_ints (w : World) (base : Nat) (l : List Int) (hb : base ≤ w.heap.size) (hm : l.length ≤ maxLen) : OwnI (w.alloc (.cells (ivs l).toArray 3)) base (some ⟨w.heap.size, 0, none⟩) l.length l := by
  have h := World.ownsRow_lit (base := base) (e := 3) (size := 1) w (ivs l).toArray l.length hb hm (by simp [ivs])
  unfold OwnI
  simpa using h

/-- What a row reads after it was marked. -/
def markL (k : Int) (n : Nat) : List Int := (List.range n).map fun (i : Nat) => k + (i : Int)
theorem markL_len (k : Int) (n : Nat) : (markL k n).length = n := by simp [markL]
theorem markL_at (k : Int) (n j : Nat) (h : j < n) : (markL k n).getD j 0 = k + (j : Int) := by
  rw [List.getD_eq_getElem?_getD]
  simp [markL, h]

theorem OwnI.cap_le {w : World} {base : Nat} {A : Option Addr} {cap : Nat} {l : List Int} (h : OwnI w base A cap l) : l.length ≤ cap := by
  rcases h.2 with ⟨h1, h2⟩ | ⟨g, cap', cur, h1, _, _, h4, _⟩
  · omega
  · simp only [Value.slice.injEq] at h1
    omega
/-- Steps joined. -/
theorem below_up {B : Nat} {a b c : World} (h : Below B a b) (k : Below b.heap.size b c) (hB : B ≤ b.heap.size) : Below B a c := h.trans (k.mono hB)
/-- Marking one's own row leaves what lies before the row. -/
theorem OwnI.marked {w w' : World} {base : Nat} {A : Option Addr} {cap : Nat} {l : List Int} (h : OwnI w base A cap l) (hg : w.grownBy w' (Value.slice A l.length cap).ownBlock) {B : Nat} (hB : B ≤ base) (hw : B ≤ w.heap.size) : Below B w w' := by
  have hl := World.ownsRow.lt h
  exact (Below.refl B w).grown hg hw fun k hk => by have := hl k hk; omega

/-- A slice of integers that came in, as a view. -/
theorem ints_of {w : World} {a : Option Addr} {len cap : Nat} {zs : List Int} (h : IsRow .i64 w a len cap zs) (hb : len ≤ 1048576) : ∃ ys : List Int, ys.length = len ∧ Ints w w.heap.size a ys ∧ (∀ y ∈ ys, (Lit.int .i64 y).wf = true) ∧ len ≤ cap := by
  rcases h with ⟨rfl, rfl, rfl, rfl⟩ | ⟨x, rfl, hl, hm, hz, hcell, hwf⟩
  · exact ⟨[], rfl, ⟨by simp, .inl rfl⟩, by simp, Nat.le_refl _⟩
  · have hlen : (zs.take len).length = len := by rw [List.length_take]; omega
    have hg : ∀ j, j < len → (zs.take len).getD j 0 = zs.getD j 0 := fun j hj => by
      rw [List.getD_eq_getElem?_getD, List.getElem?_take, if_pos hj, ← List.getD_eq_getElem?_getD]
    refine ⟨zs.take len, hlen, ⟨by omega, ?_⟩, fun y hy => hwf y (List.mem_of_mem_take hy), hl⟩
    by_cases h0 : len = 0
    · exact .inl (List.eq_nil_of_length_eq_zero (by omega))
    · right
      obtain ⟨b, off, spot⟩ := x
      have hc := hcell 0 (by omega)
      have hspot : spot = none := by simpa [Addr.add] using World.cell?_spot hc
      subst hspot
      refine ⟨b, off, rfl, World.block_lt_of_cell? w _ hc, fun j hj => ?_⟩
      rw [hlen] at hj
      rw [hg j hj]
      have := hcell j (by omega)
      by_cases hj0 : j = 0
      · subst hj0; simpa [Addr.add] using this
      · simpa [Addr.add, hj0] using this
end Go.Proofs.Ythiplncceglnhaa
