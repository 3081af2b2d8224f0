/-
  Rows of blocks (each with a row of levels) and rows of macroblocks (each with a row of blocks) in memory: what is read, what a call owns, which blocks of memory they lie in. No condition.
-/
import Derived.Test.YtemfiglflbfocaaNbA
import Derived.Test.YtemfiglflbfocaaScanC
namespace Go.Proofs.Ytemfiglflbfocaa
open Go.RowKit
set_option linter.unusedVariables false

/-- A block as it lies in memory: its mode, its levels, where the row of levels lies. -/
structure BlkC where
  m : Int
  l : List Int
  a : Option Addr
  c : Nat
/-- A macroblock as it lies in memory. -/
structure MbC where
  e : Bool
  xs : List BlkC
  a : Option Addr
  c : Nat
def BlkC.two (x : BlkC) : List Value := [.int .i64 x.m, .slice x.a x.l.length x.c]
def MbC.two (x : MbC) : List Value := [.bool x.e, .slice x.a x.xs.length x.c]
/-- What is read of it. -/
def BlkC.is (x : BlkC) : Int × List Int := (x.m, x.l)
def MbC.is (x : MbC) : Bool × List (Int × List Int) := (x.e, x.xs.map BlkC.is)
def two {α : Type} (f : α → List Value) (xs : List α) : List Value := xs.flatMap f
/-- The block of memory that a row lies in. -/
def obk (A : Option Addr) : List Nat := (A.map fun a => a.block).toList
theorem obk_own {A : Option Addr} {n c k : Nat} : (Value.slice A n c).ownBlock = some k ↔ k ∈ obk A := by
  cases A <;> simp [Value.ownBlock, obk, eq_comm]

/-- What a call that writes the blocks of memory of fp alone leaves. -/
structure Wrote (w w' : World) (fp : List Nat) : Prop where
  os : w'.os = w.os
  tape : w'.tape = w.tape
  output : w'.output = w.output
  size : w.heap.size ≤ w'.heap.size
  block : ∀ k, k < w.heap.size → k ∉ fp → w'.heap[k]? = w.heap[k]?
theorem Wrote.refl (w : World) (fp : List Nat) : Wrote w w fp := ⟨rfl, rfl, rfl, Nat.le_refl _, fun _ _ _ => rfl⟩
theorem Wrote.trans {a b c : World} {fp : List Nat} (h : Wrote a b fp) (k : Wrote b c fp) : Wrote a c fp :=
  ⟨k.os.trans h.os, k.tape.trans h.tape, k.output.trans h.output, Nat.le_trans h.size k.size, fun i hi hn => (k.block i (Nat.lt_of_lt_of_le hi h.size) hn).trans (h.block i hi hn)⟩
theorem Wrote.mono {w w' : World} {fp fq : List Nat} (h : Wrote w w' fp) (hs : ∀ k, k ∈ fp → k ∈ fq) : Wrote w w' fq :=
  ⟨h.os, h.tape, h.output, h.size, fun k hk hn => h.block k hk fun hm => hn (hs k hm)⟩
theorem Wrote.of_grown {w w' : World} {A : Option Addr} {n c : Nat} (h : w.grownBy w' (Value.slice A n c).ownBlock) : Wrote w w' (obk A) :=
  ⟨h.os, h.tape, h.output, h.size, fun k hk hn => h.block k hk fun e => hn (obk_own.1 e.symm)⟩
theorem Wrote.of_below {w w' : World} (fp : List Nat) (h : Below w.heap.size w w') : Wrote w w' fp := ⟨h.os, h.tape, h.output, h.size, fun k hk _ => h.block k hk⟩
theorem Wrote.below {w0 w w' : World} {fp : List Nat} {B : Nat} (h : Wrote w w' fp) (hb : Below B w0 w) (hB : B ≤ w.heap.size) (hfp : ∀ k, k ∈ fp → B ≤ k) : Below B w0 w' :=
  hb.trans ⟨h.os, h.tape, h.output, h.size, fun k hk => h.block k (Nat.lt_of_lt_of_le hk hB) fun hm => by have := hfp k hm; omega⟩
theorem Wrote.heap {w w' : World} {fp : List Nat} {k : Nat} {o : Obj} (h : Wrote w w' fp) (hk : w.heap[k]? = some o) (hn : k ∉ fp) : w'.heap[k]? = some o := (h.block k (heap_lt hk) hn).trans hk
theorem Wrote.set {w w' : World} {fp : List Nat} {g : Nat} (h : Wrote w w' fp) (hg : g ∈ fp) (i : Nat) (u : Value) : Wrote w (w'.setCell ⟨g, i, none⟩ u) fp :=
  ⟨h.os, h.tape, h.output, by simpa using h.size, fun k hk hn => by rw [heap_setCell_other _ _ _ _ (fun e => hn (by rw [e]; exact hg))]; exact h.block k hk hn⟩
theorem Wrote.drew {w w' : World} {fp : List Nat} (h : Wrote w w' fp) : Wrote w w'.drew fp := ⟨h.os, h.tape, h.output, h.size, h.block⟩

/-- A row that one owns depends on its own block of memory alone. -/
theorem row_same {w w' : World} {base : Nat} {e : TypeId} {size : Nat} {A : Option Addr} {n c : Nat} {xs : List Value} (h : w.ownsRow base e size (.slice A n c) n xs) (hs : ∀ k, k ∈ obk A → w'.heap[k]? = w.heap[k]?) : w'.ownsRow base e size (.slice A n c) n xs := by
  obtain ⟨h1, h2⟩ := h
  refine ⟨h1, ?_⟩
  rcases h2 with h0 | ⟨g, cap, cur, hv, hb, hg, rest⟩
  · exact .inl h0
  · refine .inr ⟨g, cap, cur, hv, hb, ?_, rest⟩
    simp only [Value.slice.injEq] at hv
    rw [hs g (by rw [hv.1]; simp [obk])]
    exact hg
theorem row_lt {w : World} {base : Nat} {e : TypeId} {size : Nat} {A : Option Addr} {n c : Nat} {xs : List Value} (h : w.ownsRow base e size (.slice A n c) n xs) : ∀ k, k ∈ obk A → base ≤ k ∧ k < w.heap.size := fun k hk => World.ownsRow.lt h k (obk_own.2 hk)
theorem row_cap {w : World} {base : Nat} {e : TypeId} {size : Nat} {A : Option Addr} {n c : Nat} {xs : List Value} (h : w.ownsRow base e size (.slice A n c) n xs) : n ≤ c := by
  rcases h.2 with ⟨h1, h2⟩ | ⟨g, cap, cur, h1, _, _, h4, _⟩
  · simp only [Value.slice.injEq] at h1; omega
  · simp only [Value.slice.injEq] at h1; omega
theorem row_some {w : World} {base : Nat} {e : TypeId} {size : Nat} {A : Option Addr} {n c : Nat} {xs : List Value} (h : w.ownsRow base e size (.slice A n c) n xs) (hn : 0 < n) : ∃ g, A = some ⟨g, 0, none⟩ ∧ base ≤ g ∧ g < w.heap.size := by
  rcases h.2 with ⟨h1, h2⟩ | ⟨g, cap, cur, h1, hb, hg, _⟩
  · omega
  · simp only [Value.slice.injEq] at h1
    exact ⟨g, h1.1, hb, (Array.getElem?_eq_some_iff.1 hg).1⟩

theorem two_len {α : Type} {f : α → List Value} (hf : ∀ x, (f x).length = 2) : ∀ xs : List α, (two f xs).length = xs.length * 2
  | [] => rfl
  | x :: xs => by rw [two, List.flatMap_cons, List.length_append, hf]; have := two_len hf xs; rw [two] at this; rw [this, List.length_cons]; omega
theorem two_at {α : Type} {f : α → List Value} (hf : ∀ x, (f x).length = 2) : ∀ (xs : List α) (j : Nat) (x : α), xs[j]? = some x → (two f xs)[j * 2]? = (f x)[0]? ∧ (two f xs)[j * 2 + 1]? = (f x)[1]?
  | [], j, x, h => by simp at h
  | y :: xs, 0, x, h => by
    simp only [List.getElem?_cons_zero, Option.some.injEq] at h
    subst h
    rw [two, List.flatMap_cons]
    exact ⟨List.getElem?_append_left (by rw [hf]; omega), List.getElem?_append_left (by rw [hf]; omega)⟩
  | y :: xs, j + 1, x, h => by
    rw [List.getElem?_cons_succ] at h
    have ih := two_at hf xs j x h
    rw [two] at ih
    rw [two, List.flatMap_cons]
    refine ⟨?_, ?_⟩
    · rw [List.getElem?_append_right (by rw [hf]; omega), hf, show (j + 1) * 2 - 2 = j * 2 by omega]; exact ih.1
    · rw [List.getElem?_append_right (by rw [hf]; omega), hf, show (j + 1) * 2 + 1 - 2 = j * 2 + 1 by omega]; exact ih.2
theorem two_append {α : Type} (f : α → List Value) (xs ys : List α) : two f (xs ++ ys) = two f xs ++ two f ys := by simp [two]
theorem two_set {α : Type} {f : α → List Value} {x : α} {u v : Value} (hf : ∀ x, (f x).length = 2) (hx : f x = [u, v]) : ∀ (xs : List α) (j : Nat), j < xs.length → ((two f xs).set (j * 2) u).set (j * 2 + 1) v = two f (xs.set j x)
  | [], j, h => absurd h (by simp)
  | y :: xs, 0, _ => by
    have h2 := hf y
    match hy : f y, h2 with
    | [p, q], _ => simp [two, List.flatMap_cons, hy, hx]
  | y :: xs, j + 1, h => by
    have h2 := hf y
    have ih := two_set hf hx xs j (by simpa using h)
    rw [two] at ih
    match hy : f y, h2 with
    | [p, q], _ =>
      rw [two, List.flatMap_cons, hy, List.set_cons_succ, two, List.flatMap_cons, hy, ← two, ← two, ← ih, show (j + 1) * 2 = j * 2 + 1 + 1 by omega]
      simp [two]
theorem BlkC.two_len (x : BlkC) : x.two.length = 2 := rfl
theorem MbC.two_len (x : MbC) : x.two.length = 2 := rfl

/-- Rows that are read, however long. -/
def IntsR (w : World) (g : Nat) (A : Option Addr) (l : List Int) : Prop := l = [] ∨ ∃ b off, A = some ⟨b, off, none⟩ ∧ b < g ∧ ∀ j, j < l.length → w.cell? ⟨b, off + j, none⟩ = some (.int .i64 (l.getD j 0))
theorem IntsR.kept {w w' : World} {g : Nat} {A : Option Addr} {l : List Int} (h : IntsR w g A l) (hb : ∀ k, k < g → w'.heap[k]? = w.heap[k]?) : IntsR w' g A l := by
  rcases h with h0 | ⟨b, off, hA, hbg, hc⟩
  · exact .inl h0
  · refine .inr ⟨b, off, hA, hbg, fun i hi => ?_⟩
    rw [World.cell?_of_block (w := w) (w' := w') (a := ⟨b, off + i, none⟩) (hb b hbg)]
    exact hc i hi
theorem IntsR.mono {w : World} {g g' : Nat} {A : Option Addr} {l : List Int} (h : IntsR w g A l) (hg : g ≤ g') : IntsR w g' A l := by
  rcases h with h0 | ⟨b, off, hA, hbg, hc⟩
  · exact .inl h0
  · exact .inr ⟨b, off, hA, Nat.lt_of_lt_of_le hbg hg, hc⟩
def BlksR (w : World) (g : Nat) (A : Option Addr) (xs : List BlkC) : Prop :=
  xs.length ≤ 9223372036854775807 ∧ (xs = [] ∨ ∃ b off, A = some ⟨b, off, none⟩ ∧ b < g ∧ ∀ j x, xs[j]? = some x → w.cell? ⟨b, off + j * 2, none⟩ = some (.int .i64 x.m) ∧ w.cell? ⟨b, off + j * 2 + 1, none⟩ = some (.slice x.a x.l.length x.c)) ∧
    ∀ x, x ∈ xs → (IntsR w g x.a x.l ∧ x.l.length ≤ 9223372036854775807) ∧ x.l.length ≤ x.c
theorem BlksR.kept {w w' : World} {g : Nat} {A : Option Addr} {xs : List BlkC} (h : BlksR w g A xs) (hb : ∀ k, k < g → w'.heap[k]? = w.heap[k]?) : BlksR w' g A xs := by
  obtain ⟨h1, h2, h3⟩ := h
  refine ⟨h1, ?_, fun x hx => ⟨⟨(h3 x hx).1.1.kept hb, (h3 x hx).1.2⟩, (h3 x hx).2⟩⟩
  rcases h2 with h0 | ⟨b, off, hA, hbg, hc⟩
  · exact .inl h0
  · refine .inr ⟨b, off, hA, hbg, fun j x hx => ?_⟩
    rw [World.cell?_of_block (w := w) (w' := w') (a := ⟨b, off + j * 2, none⟩) (hb b hbg), World.cell?_of_block (w := w) (w' := w') (a := ⟨b, off + j * 2 + 1, none⟩) (hb b hbg)]
    exact hc j x hx
theorem BlksR.below {w w' : World} {g B : Nat} {A : Option Addr} {xs : List BlkC} (h : BlksR w g A xs) (hb : Below B w w') (hg : g ≤ B) : BlksR w' g A xs := h.kept fun k hk => hb.block k (Nat.lt_of_lt_of_le hk hg)
theorem BlksR.mono {w : World} {g g' : Nat} {A : Option Addr} {xs : List BlkC} (h : BlksR w g A xs) (hg : g ≤ g') : BlksR w g' A xs := by
  obtain ⟨h1, h2, h3⟩ := h
  refine ⟨h1, ?_, fun x hx => ⟨⟨(h3 x hx).1.1.mono hg, (h3 x hx).1.2⟩, (h3 x hx).2⟩⟩
  rcases h2 with h0 | ⟨b, off, hA, hbg, hc⟩
  · exact .inl h0
  · exact .inr ⟨b, off, hA, Nat.lt_of_lt_of_le hbg hg, hc⟩
theorem BlksR.at {w : World} {g : Nat} {A : Option Addr} {xs : List BlkC} (h : BlksR w g A xs) (j : Nat) (hj : j < xs.length) : ∃ b off, A = some ⟨b, off, none⟩ ∧ b < g ∧ ∀ j x, xs[j]? = some x → w.cell? ⟨b, off + j * 2, none⟩ = some (.int .i64 x.m) ∧ w.cell? ⟨b, off + j * 2 + 1, none⟩ = some (.slice x.a x.l.length x.c) := by
  obtain ⟨_, rfl | h, _⟩ := h
  · exact absurd hj (by simp)
  · exact h
def MbsR (w : World) (g : Nat) (A : Option Addr) (ms : List MbC) : Prop :=
  ms.length ≤ 9223372036854775807 ∧ (ms = [] ∨ ∃ b off, A = some ⟨b, off, none⟩ ∧ b < g ∧ ∀ j x, ms[j]? = some x → w.cell? ⟨b, off + j * 2, none⟩ = some (.bool x.e) ∧ w.cell? ⟨b, off + j * 2 + 1, none⟩ = some (.slice x.a x.xs.length x.c)) ∧
    ∀ x, x ∈ ms → BlksR w g x.a x.xs ∧ x.xs.length ≤ x.c
theorem MbsR.kept {w w' : World} {g : Nat} {A : Option Addr} {ms : List MbC} (h : MbsR w g A ms) (hb : ∀ k, k < g → w'.heap[k]? = w.heap[k]?) : MbsR w' g A ms := by
  obtain ⟨h1, h2, h3⟩ := h
  refine ⟨h1, ?_, fun x hx => ⟨(h3 x hx).1.kept hb, (h3 x hx).2⟩⟩
  rcases h2 with h0 | ⟨b, off, hA, hbg, hc⟩
  · exact .inl h0
  · refine .inr ⟨b, off, hA, hbg, fun j x hx => ?_⟩
    rw [World.cell?_of_block (w := w) (w' := w') (a := ⟨b, off + j * 2, none⟩) (hb b hbg), World.cell?_of_block (w := w) (w' := w') (a := ⟨b, off + j * 2 + 1, none⟩) (hb b hbg)]
    exact hc j x hx
theorem MbsR.below {w w' : World} {g B : Nat} {A : Option Addr} {ms : List MbC} (h : MbsR w g A ms) (hb : Below B w w') (hg : g ≤ B) : MbsR w' g A ms := h.kept fun k hk => hb.block k (Nat.lt_of_lt_of_le hk hg)
theorem MbsR.mono {w : World} {g g' : Nat} {A : Option Addr} {ms : List MbC} (h : MbsR w g A ms) (hg : g ≤ g') : MbsR w g' A ms := by
  obtain ⟨h1, h2, h3⟩ := h
  refine ⟨h1, ?_, fun x hx => ⟨(h3 x hx).1.mono hg, (h3 x hx).2⟩⟩
  rcases h2 with h0 | ⟨b, off, hA, hbg, hc⟩
  · exact .inl h0
  · exact .inr ⟨b, off, hA, Nat.lt_of_lt_of_le hbg hg, hc⟩
theorem MbsR.at {w : World} {g : Nat} {A : Option Addr} {ms : List MbC} (h : MbsR w g A ms) (j : Nat) (hj : j < ms.length) : ∃ b off, A = some ⟨b, off, none⟩ ∧ b < g ∧ ∀ j x, ms[j]? = some x → w.cell? ⟨b, off + j * 2, none⟩ = some (.bool x.e) ∧ w.cell? ⟨b, off + j * 2 + 1, none⟩ = some (.slice x.a x.xs.length x.c) := by
  obtain ⟨_, rfl | h, _⟩ := h
  · exact absurd hj (by simp)
  · exact h

/-- A row of blocks that is read: it lies below g. -/
def BlksV (w : World) (g : Nat) (A : Option Addr) (xs : List BlkC) : Prop :=
  xs.length ≤ 281474976710656 ∧ (xs = [] ∨ ∃ b off, A = some ⟨b, off, none⟩ ∧ b < g ∧ ∀ j x, xs[j]? = some x → w.cell? ⟨b, off + j * 2, none⟩ = some (.int .i64 x.m) ∧ w.cell? ⟨b, off + j * 2 + 1, none⟩ = some (.slice x.a x.l.length x.c)) ∧
    ∀ x, x ∈ xs → Ints w g x.a x.l ∧ x.l.length ≤ x.c
theorem BlksV.kept {w w' : World} {g : Nat} {A : Option Addr} {xs : List BlkC} (h : BlksV w g A xs) (hb : ∀ k, k < g → w'.heap[k]? = w.heap[k]?) : BlksV w' g A xs := by
  obtain ⟨h1, h2, h3⟩ := h
  refine ⟨h1, ?_, fun x hx => ⟨(h3 x hx).1.kept hb, (h3 x hx).2⟩⟩
  rcases h2 with h0 | ⟨b, off, hA, hbg, hc⟩
  · exact .inl h0
  · refine .inr ⟨b, off, hA, hbg, fun j x hx => ?_⟩
    rw [World.cell?_of_block (w := w) (w' := w') (a := ⟨b, off + j * 2, none⟩) (hb b hbg), World.cell?_of_block (w := w) (w' := w') (a := ⟨b, off + j * 2 + 1, none⟩) (hb b hbg)]
    exact hc j x hx
theorem BlksV.below {w w' : World} {g B : Nat} {A : Option Addr} {xs : List BlkC} (h : BlksV w g A xs) (hb : Below B w w') (hg : g ≤ B) : BlksV w' g A xs := h.kept fun k hk => hb.block k (Nat.lt_of_lt_of_le hk hg)
theorem BlksV.mono {w : World} {g g' : Nat} {A : Option Addr} {xs : List BlkC} (h : BlksV w g A xs) (hg : g ≤ g') : BlksV w g' A xs := by
  obtain ⟨h1, h2, h3⟩ := h
  refine ⟨h1, ?_, fun x hx => ⟨(h3 x hx).1.mono hg, (h3 x hx).2⟩⟩
  rcases h2 with h0 | ⟨b, off, hA, hbg, hc⟩
  · exact .inl h0
  · exact .inr ⟨b, off, hA, Nat.lt_of_lt_of_le hbg hg, hc⟩
theorem BlksV.wrote {w w' : World} {g : Nat} {A : Option Addr} {xs : List BlkC} {fp : List Nat} (h : BlksV w g A xs) (hw : Wrote w w' fp) (hl : g ≤ w.heap.size) (hr : ∀ k, k ∈ fp → g ≤ k) : BlksV w' g A xs :=
  h.kept fun k hk => hw.block k (Nat.lt_of_lt_of_le hk hl) fun hm => by have := hr k hm; omega
/-- Up to the row's place: what is read at a place. -/
theorem BlksV.at {w : World} {g : Nat} {A : Option Addr} {xs : List BlkC} (h : BlksV w g A xs) (j : Nat) (hj : j < xs.length) : ∃ b off, A = some ⟨b, off, none⟩ ∧ b < g ∧ ∀ j x, xs[j]? = some x → w.cell? ⟨b, off + j * 2, none⟩ = some (.int .i64 x.m) ∧ w.cell? ⟨b, off + j * 2 + 1, none⟩ = some (.slice x.a x.l.length x.c) := by
  obtain ⟨_, rfl | h, _⟩ := h
  · exact absurd hj (by simp)
  · exact h
/-- A row of macroblocks that is read. -/
def MbsV (w : World) (g : Nat) (A : Option Addr) (ms : List MbC) : Prop :=
  ms.length ≤ 281474976710656 ∧ (ms = [] ∨ ∃ b off, A = some ⟨b, off, none⟩ ∧ b < g ∧ ∀ j x, ms[j]? = some x → w.cell? ⟨b, off + j * 2, none⟩ = some (.bool x.e) ∧ w.cell? ⟨b, off + j * 2 + 1, none⟩ = some (.slice x.a x.xs.length x.c)) ∧
    ∀ x, x ∈ ms → BlksV w g x.a x.xs ∧ x.xs.length ≤ x.c
theorem MbsV.kept {w w' : World} {g : Nat} {A : Option Addr} {ms : List MbC} (h : MbsV w g A ms) (hb : ∀ k, k < g → w'.heap[k]? = w.heap[k]?) : MbsV w' g A ms := by
  obtain ⟨h1, h2, h3⟩ := h
  refine ⟨h1, ?_, fun x hx => ⟨(h3 x hx).1.kept hb, (h3 x hx).2⟩⟩
  rcases h2 with h0 | ⟨b, off, hA, hbg, hc⟩
  · exact .inl h0
  · refine .inr ⟨b, off, hA, hbg, fun j x hx => ?_⟩
    rw [World.cell?_of_block (w := w) (w' := w') (a := ⟨b, off + j * 2, none⟩) (hb b hbg), World.cell?_of_block (w := w) (w' := w') (a := ⟨b, off + j * 2 + 1, none⟩) (hb b hbg)]
    exact hc j x hx
theorem MbsV.below {w w' : World} {g B : Nat} {A : Option Addr} {ms : List MbC} (h : MbsV w g A ms) (hb : Below B w w') (hg : g ≤ B) : MbsV w' g A ms := h.kept fun k hk => hb.block k (Nat.lt_of_lt_of_le hk hg)
theorem MbsV.mono {w : World} {g g' : Nat} {A : Option Addr} {ms : List MbC} (h : MbsV w g A ms) (hg : g ≤ g') : MbsV w g' A ms := by
  obtain ⟨h1, h2, h3⟩ := h
  refine ⟨h1, ?_, fun x hx => ⟨(h3 x hx).1.mono hg, (h3 x hx).2⟩⟩
  rcases h2 with h0 | ⟨b, off, hA, hbg, hc⟩
  · exact .inl h0
  · exact .inr ⟨b, off, hA, Nat.lt_of_lt_of_le hbg hg, hc⟩
theorem MbsV.wrote {w w' : World} {g : Nat} {A : Option Addr} {ms : List MbC} {fp : List Nat} (h : MbsV w g A ms) (hw : Wrote w w' fp) (hl : g ≤ w.heap.size) (hr : ∀ k, k ∈ fp → g ≤ k) : MbsV w' g A ms :=
  h.kept fun k hk => hw.block k (Nat.lt_of_lt_of_le hk hl) fun hm => by have := hr k hm; omega
theorem MbsV.at {w : World} {g : Nat} {A : Option Addr} {ms : List MbC} (h : MbsV w g A ms) (j : Nat) (hj : j < ms.length) : ∃ b off, A = some ⟨b, off, none⟩ ∧ b < g ∧ ∀ j x, ms[j]? = some x → w.cell? ⟨b, off + j * 2, none⟩ = some (.bool x.e) ∧ w.cell? ⟨b, off + j * 2 + 1, none⟩ = some (.slice x.a x.xs.length x.c) := by
  obtain ⟨_, rfl | h, _⟩ := h
  · exact absurd hj (by simp)
  · exact h

/-- The blocks of memory that the levels of a row of blocks lie in. -/
def fpIn (xs : List BlkC) : List Nat := xs.flatMap fun x => obk x.a
def fpBs (A : Option Addr) (xs : List BlkC) : List Nat := obk A ++ fpIn xs
def fpMIn (ms : List MbC) : List Nat := ms.flatMap fun x => fpBs x.a x.xs
def fpMs (A : Option Addr) (ms : List MbC) : List Nat := obk A ++ fpMIn ms
theorem OwnI.same {w w' : World} {base : Nat} {A : Option Addr} {c : Nat} {l : List Int} (h : OwnI w base A c l) (hs : ∀ k, k ∈ obk A → w'.heap[k]? = w.heap[k]?) : OwnI w' base A c l := row_same h hs
theorem OwnI.fp {w : World} {base : Nat} {A : Option Addr} {c : Nat} {l : List Int} (h : OwnI w base A c l) : ∀ k, k ∈ obk A → base ≤ k ∧ k < w.heap.size := row_lt h
theorem mem_fpIn {xs : List BlkC} {x : BlkC} (hx : x ∈ xs) {k : Nat} (hk : k ∈ obk x.a) : k ∈ fpIn xs := List.mem_flatMap.2 ⟨x, hx, hk⟩
theorem mem_fpMIn {ms : List MbC} {x : MbC} (hx : x ∈ ms) {k : Nat} (hk : k ∈ fpBs x.a x.xs) : k ∈ fpMIn ms := List.mem_flatMap.2 ⟨x, hx, hk⟩
theorem row_cells {w : World} {base : Nat} {e : TypeId} {A : Option Addr} {n c : Nat} {α : Type} {f : α → List Value} (hf : ∀ x, (f x).length = 2) {xs : List α} (hn : n = xs.length) (h : w.ownsRow base e 2 (.slice A n c) n (two f xs)) (hpos : 0 < n) :
    ∃ g, A = some ⟨g, 0, none⟩ ∧ g < w.heap.size ∧ ∀ j x, xs[j]? = some x → w.cell? ⟨g, 0 + j * 2, none⟩ = (f x)[0]? ∧ w.cell? ⟨g, 0 + j * 2 + 1, none⟩ = (f x)[1]? := by
  obtain ⟨g, rfl, _, hg⟩ := row_some h hpos
  refine ⟨g, rfl, hg, fun j x hx => ?_⟩
  have hj : j < xs.length := (List.getElem?_eq_some_iff.1 hx).1
  obtain ⟨e1, e2⟩ := two_at hf xs j x hx
  rw [Nat.zero_add, ← e1, ← e2]
  exact ⟨h.cellAt (j * 2) (by omega), h.cellAt (j * 2 + 1) (by omega)⟩
/-- A weight of a list. -/
def sumW {α : Type} (f : α → Nat) : List α → Nat
  | [] => 0
  | x :: xs => f x + sumW f xs
theorem sumW_take {α : Type} (f : α → Nat) : ∀ (xs : List α) (j : Nat) (x : α), xs[j]? = some x → sumW f (xs.take (j + 1)) = sumW f (xs.take j) + f x
  | [], j, x, h => by simp at h
  | y :: xs, 0, x, h => by
    simp only [List.getElem?_cons_zero, Option.some.injEq] at h
    subst h
    simp [sumW]
  | y :: xs, j + 1, x, h => by
    rw [List.getElem?_cons_succ] at h
    rw [List.take_succ_cons, List.take_succ_cons, sumW, sumW, sumW_take f xs j x h, Nat.add_assoc]
theorem sumW_le {α : Type} (f : α → Nat) : ∀ (xs : List α) (j : Nat), sumW f (xs.take j) ≤ sumW f xs
  | [], j => by simp
  | y :: xs, 0 => by simp [sumW]
  | y :: xs, j + 1 => by rw [List.take_succ_cons, sumW, sumW]; have := sumW_le f xs j; omega
theorem sumW_all {α : Type} (f : α → Nat) (xs : List α) : sumW f (xs.take xs.length) = sumW f xs := by rw [List.take_length]
theorem sumW_mem {α : Type} (f : α → Nat) : ∀ (xs : List α) (x : α), x ∈ xs → f x ≤ sumW f xs
  | y :: xs, x, h => by
    rw [sumW]
    rcases List.mem_cons.1 h with rfl | h1
    · omega
    · have := sumW_mem f xs x h1; omega
theorem sumW_map {α β : Type} (f : α → Nat) (p : α → β) (q : β → Nat) (h : ∀ x, f x = q (p x)) : ∀ xs : List α, sumW f xs = sumW q (xs.map p)
  | [] => rfl
  | x :: xs => by rw [List.map_cons, sumW, sumW, h, sumW_map f p q h xs]
def lenB (xs : List BlkC) : Nat := sumW (fun x => x.l.length) xs
def sumB (xs : List BlkC) : Nat := xs.length + lenB xs
def lenM (ms : List MbC) : Nat := sumW (fun x => sumB x.xs) ms
def sumM (ms : List MbC) : Nat := ms.length + lenM ms
theorem get_of_lt {α : Type} {xs : List α} {j : Nat} (h : j < xs.length) : ∃ x, xs[j]? = some x ∧ x ∈ xs := ⟨xs[j], List.getElem?_eq_getElem h, List.getElem_mem h⟩

/-- A row that is filled from the front. -/
theorem fill_step {α : Type} {ys z : List α} {j : Nat} (hy : ys.length = j) (hj : j < z.length) (y : α) : (ys ++ z.drop j).set j y = (ys ++ [y]) ++ z.drop (j + 1) := by
  rw [List.set_append_right _ _ (by omega), hy, Nat.sub_self, List.drop_eq_getElem_cons hj, List.set_cons_zero, List.append_assoc]
  rfl
theorem fill_at {α : Type} {ys z : List α} {j : Nat} (hy : ys.length = j) : (ys ++ z.drop j)[j]? = z[j]? := by
  rw [List.getElem?_append_right (by omega), hy, Nat.sub_self, List.getElem?_drop, Nat.add_zero]
theorem fill_len {α : Type} {ys z : List α} {j : Nat} (hy : ys.length = j) (hj : j ≤ z.length) : (ys ++ z.drop j).length = z.length := by
  rw [List.length_append, List.length_drop]; omega
theorem set2_heap (w : World) {g i j k : Nat} {u v : Value} (hk : k ≠ g) : ((w.setCell ⟨g, i, none⟩ u).setCell ⟨g, j, none⟩ v).heap[k]? = w.heap[k]? := by
  rw [heap_setCell_other _ _ _ _ hk, heap_setCell_other _ _ _ _ hk]
theorem tr_snoc {α : Type} {xs : List α} {j : Nat} {x : α} (h : xs[j]? = some x) : xs.take (j + 1) = xs.take j ++ [x] := by rw [List.take_add_one, h]; rfl
theorem set_same {α : Type} {xs : List α} {j : Nat} {x y : α} (h : xs[j]? = some x) : ∀ z, z ∈ xs.set j y → z = y ∨ ∃ i, i ≠ j ∧ xs[i]? = some z := by
  intro z hz
  obtain ⟨i, hi⟩ := List.mem_iff_getElem?.1 hz
  by_cases hij : i = j
  · subst hij
    have hl : i < xs.length := (List.getElem?_eq_some_iff.1 h).1
    rw [List.getElem?_set_self hl] at hi
    exact .inl (Option.some.inj hi).symm
  · rw [List.getElem?_set_ne (fun e => hij e.symm)] at hi
    exact .inr ⟨i, hij, hi⟩
theorem flat_apart {α : Type} {f : α → List Nat} : ∀ {xs : List α}, (xs.flatMap f).Nodup → ∀ {i j : Nat} {x y : α}, xs[i]? = some x → xs[j]? = some y → i ≠ j → ∀ k, k ∈ f x → k ∉ f y
  | [], _, i, j, x, y, hx, _, _, _, _ => by simp at hx
  | z :: xs, hn, i, j, x, y, hx, hy, hij, k, hk => by
    rw [List.flatMap_cons, List.nodup_append] at hn
    obtain ⟨h1, h2, h3⟩ := hn
    cases i with
    | zero =>
      cases j with
      | zero => exact absurd rfl hij
      | succ j =>
        simp only [List.getElem?_cons_zero, Option.some.injEq] at hx
        rw [List.getElem?_cons_succ] at hy
        subst hx
        exact fun hm => h3 k hk k (List.mem_flatMap.2 ⟨y, List.mem_of_getElem? hy, hm⟩) rfl
    | succ i =>
      rw [List.getElem?_cons_succ] at hx
      cases j with
      | zero =>
        simp only [List.getElem?_cons_zero, Option.some.injEq] at hy
        subst hy
        exact fun hm => h3 k hm k (List.mem_flatMap.2 ⟨x, List.mem_of_getElem? hx, hk⟩) rfl
      | succ j =>
        rw [List.getElem?_cons_succ] at hy
        exact flat_apart h2 hx hy (fun e => hij (by rw [e])) k hk
theorem flat_set {α : Type} {f : α → List Nat} {y : α} : ∀ {xs : List α} {j : Nat} {x : α}, xs[j]? = some x → f y = f x → (xs.set j y).flatMap f = xs.flatMap f
  | [], j, x, h, _ => by simp at h
  | z :: xs, 0, x, h, e => by
    simp only [List.getElem?_cons_zero, Option.some.injEq] at h
    subst h
    rw [List.set_cons_zero, List.flatMap_cons, List.flatMap_cons, e]
  | z :: xs, j + 1, x, h, e => by
    rw [List.getElem?_cons_succ] at h
    rw [List.set_cons_succ, List.flatMap_cons, List.flatMap_cons, flat_set h e]
theorem flat_snoc {α : Type} {f : α → List Nat} {xs : List α} {y : α} {B : Nat} (h : (xs.flatMap f).Nodup) (hy : (f y).Nodup) (h1 : ∀ k, k ∈ xs.flatMap f → k < B) (h2 : ∀ k, k ∈ f y → B ≤ k) : ((xs ++ [y]).flatMap f).Nodup := by
  rw [List.flatMap_append, List.flatMap_cons, List.flatMap_nil, List.append_nil, List.nodup_append]
  refine ⟨h, hy, fun a ha b hb e => ?_⟩
  have e1 := h1 a ha
  have e2 := h2 b hb
  omega
theorem List.set_getElem?_self_tr {α : Type} {xs : List α} {i : Nat} {u : α} (h : xs[i]? = some u) : xs.set i u = xs := by
  obtain ⟨hi, e⟩ := List.getElem?_eq_some_iff.1 h
  subst e
  exact List.set_getElem_self hi
theorem obk_nodup (A : Option Addr) : (obk A).Nodup := by cases A <;> simp [obk]
theorem BlksR.view {w : World} {g : Nat} {A : Option Addr} {xs : List BlkC} (h : BlksR w g A xs) (hs : sumB xs ≤ 1048576) : BlksV w g A xs ∧ xs.length ≤ 1048576 ∧ ∀ x, x ∈ xs → x.l.length ≤ 1048576 := by
  have hl : sumB xs = xs.length + lenB xs := rfl
  have hx1 : ∀ x, x ∈ xs → x.l.length ≤ 1048576 := fun x hx => by
    have h1 : x.l.length ≤ lenB xs := sumW_mem (fun x : BlkC => x.l.length) xs x hx
    omega
  exact ⟨⟨by omega, h.2.1, fun x hx => ⟨⟨by have := hx1 x hx; omega, (h.2.2 x hx).1.1⟩, (h.2.2 x hx).2⟩⟩, by omega, hx1⟩
theorem MbsR.view {w : World} {g : Nat} {A : Option Addr} {ms : List MbC} (h : MbsR w g A ms) (hs : sumM ms ≤ 1048576) : MbsV w g A ms ∧ ms.length ≤ 1048576 ∧ ∀ x, x ∈ ms → x.xs.length ≤ 1048576 ∧ ∀ y, y ∈ x.xs → y.l.length ≤ 1048576 := by
  have hl : sumM ms = ms.length + lenM ms := rfl
  have hx1 : ∀ x, x ∈ ms → sumB x.xs ≤ 1048576 := fun x hx => by
    have h1 : sumB x.xs ≤ lenM ms := sumW_mem (fun x : MbC => sumB x.xs) ms x hx
    omega
  exact ⟨⟨by omega, h.2.1, fun x hx => ⟨((h.2.2 x hx).1.view (hx1 x hx)).1, (h.2.2 x hx).2⟩⟩, by omega, fun x hx => ((h.2.2 x hx).1.view (hx1 x hx)).2⟩
end Go.Proofs.Ytemfiglflbfocaa
