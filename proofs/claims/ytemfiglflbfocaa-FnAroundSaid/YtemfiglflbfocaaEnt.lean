/-
  Plain helpers: rows of entries (two integers each), those that came in and those that a call owns; contracts of what the laws do with them (compare, mark, look again, copy). No condition but those that each lemma states.
  Contracts of what the laws do with rows of entries. No condition but those that each lemma states.
-/
import Derived.Test.YtemfiglflbfocaaRows
import Derived.Test.YtemfiglflbfocaaBase
import Derived.Test.YtemfiglflbfocaaCacheA
import Derived.Deep.RegionHeld3
import Derived.Maps.AppendAt
import Derived.Deep.SlicePairs
namespace Go.Proofs.Ytemfiglflbfocaa
open Go.RowKit
set_option linter.unusedVariables false

/-- A list of entries, and its integers one behind the other. -/
abbrev EntL : Type := List (Int × Int)
def els (l : EntL) : List Int := l.flatMap fun p => [p.1, p.2]
theorem els_cons (p : Int × Int) (l : EntL) : els (p :: l) = p.1 :: p.2 :: els l := by simp [els]
theorem els_len : ∀ l : EntL, (els l).length = l.length * 2
  | [] => rfl
  | p :: l => by rw [els_cons, List.length_cons, List.length_cons, List.length_cons, els_len l]; omega
/-- The entry at a place. -/
def entAt (l : EntL) (j : Nat) : Int × Int := l.getD j (0, 0)
theorem els_fst : ∀ (l : EntL) (j : Nat), (els l).getD (j * 2) 0 = (entAt l j).1
  | [], j => by simp [els, entAt]
  | p :: l, 0 => by simp [els_cons, entAt]
  | p :: l, j + 1 => by
    have h := els_fst l j
    rw [els_cons, show (j + 1) * 2 = j * 2 + 1 + 1 by omega, List.getD_cons_succ, List.getD_cons_succ, h]
    rfl
theorem els_snd : ∀ (l : EntL) (j : Nat), (els l).getD (j * 2 + 1) 0 = (entAt l j).2
  | [], j => by simp [els, entAt]
  | p :: l, 0 => by simp [els_cons, entAt]
  | p :: l, j + 1 => by
    have h := els_snd l j
    rw [els_cons, show (j + 1) * 2 + 1 = j * 2 + 1 + 1 + 1 by omega, List.getD_cons_succ, List.getD_cons_succ, h]
    rfl
theorem els_set : ∀ (l : EntL) (j : Nat) (x y : Int), ((els l).set (j * 2) x).set (j * 2 + 1) y = els (l.set j (x, y))
  | [], j, x, y => by simp [els]
  | p :: l, 0, x, y => by simp [els_cons]
  | p :: l, j + 1, x, y => by
    have h := els_set l j x y
    rw [els_cons, show (j + 1) * 2 = j * 2 + 1 + 1 by omega, List.set_cons_succ, List.set_cons_succ, List.set_cons_succ, List.set_cons_succ, h, List.set_cons_succ, els_cons]
theorem els_set1 (l : EntL) (j : Nat) (x : Int) : (els l).set (j * 2) x = els (l.set j (x, (entAt l j).2)) := by
  rw [← els_set]
  apply List.ext_getElem?
  intro i
  by_cases h : i = j * 2 + 1
  · subst h
    have h2 := els_snd l j
    rw [List.getElem?_set_ne (by omega)]
    by_cases hl : j * 2 + 1 < (els l).length
    · rw [List.getElem?_set_self (by simpa using hl), ← h2, List.getD_eq_getElem?_getD, List.getElem?_eq_getElem hl]
      rfl
    · rw [List.getElem?_eq_none (by omega), List.getElem?_eq_none (by simp; omega)]
  · rw [List.getElem?_set_ne (fun e => h e.symm)]
theorem els_set2 (l : EntL) (j : Nat) (y : Int) : (els l).set (j * 2 + 1) y = els (l.set j ((entAt l j).1, y)) := by
  rw [← els_set]
  apply List.ext_getElem?
  intro i
  by_cases h : i = j * 2 + 1
  · subst h
    by_cases hl : j * 2 + 1 < (els l).length
    · rw [List.getElem?_set_self (by simpa using hl), List.getElem?_set_self (by simpa using hl)]
    · rw [List.getElem?_eq_none (by simp; omega), List.getElem?_eq_none (by simp; omega)]
  · rw [List.getElem?_set_ne (fun e => h e.symm), List.getElem?_set_ne (fun e => h e.symm)]
    by_cases h0 : i = j * 2
    · subst h0
      have h1 := els_fst l j
      by_cases hl : j * 2 < (els l).length
      · rw [List.getElem?_set_self (by simpa using hl), ← h1, List.getD_eq_getElem?_getD, List.getElem?_eq_getElem hl]
        rfl
      · rw [List.getElem?_eq_none (by omega), List.getElem?_eq_none (by simp; omega)]
    · rw [List.getElem?_set_ne (fun e => h0 e.symm)]
theorem entAt_set_same (l : EntL) (j : Nat) (x : Int × Int) (h : j < l.length) : entAt (l.set j x) j = x := by
  unfold entAt
  rw [List.getD_eq_getElem?_getD, List.getElem?_set_self h]
  rfl
theorem entAt_set_other (l : EntL) (i j : Nat) (x : Int × Int) (h : i ≠ j) : entAt (l.set j x) i = entAt l i := by
  unfold entAt
  rw [List.getD_eq_getElem?_getD, List.getElem?_set_ne (fun e => h e.symm), ← List.getD_eq_getElem?_getD]
theorem ents_ext (l m : EntL) (h : l.length = m.length) (he : ∀ j, j < l.length → entAt l j = entAt m j) : l = m := by
  refine List.ext_getElem h fun i h1 h2 => ?_
  have := he i h1
  unfold entAt at this
  rw [List.getD_eq_getElem?_getD, List.getD_eq_getElem?_getD, List.getElem?_eq_getElem h1, List.getElem?_eq_getElem h2] at this
  exact this

/-- `A`'s entries read as `l`, and lie in blocks below `g`. -/
def Ents (w : World) (g : Nat) (A : Option Addr) (l : EntL) : Prop :=
  l.length ≤ 281474976710656 ∧ (l = [] ∨ ∃ b off, A = some ⟨b, off, none⟩ ∧ b < g ∧ ∀ j, j < l.length → w.cell? ⟨b, off + j * 2, none⟩ = some (.int .i64 (entAt l j).1) ∧ w.cell? ⟨b, off + j * 2 + 1, none⟩ = some (.int .i64 (entAt l j).2))
theorem Ents.kept {w w' : World} {g : Nat} {A : Option Addr} {l : EntL} (h : Ents w g A l) (hb : ∀ k, k < g → w'.heap[k]? = w.heap[k]?) : Ents w' g A l := by
  obtain ⟨hm, h0 | ⟨b, off, hA, hbg, hc⟩⟩ := h
  · exact ⟨hm, .inl h0⟩
  · refine ⟨hm, .inr ⟨b, off, hA, hbg, fun i hi => ?_⟩⟩
    rw [World.cell?_of_block (w := w) (w' := w') (a := ⟨b, off + i * 2, none⟩) (hb b hbg), World.cell?_of_block (w := w) (w' := w') (a := ⟨b, off + i * 2 + 1, none⟩) (hb b hbg)]
    exact hc i hi
theorem Ents.below {w w' : World} {g B : Nat} {A : Option Addr} {l : EntL} (h : Ents w g A l) (hb : Below B w w') (hg : g ≤ B) : Ents w' g A l := h.kept fun k hk => hb.block k (Nat.lt_of_lt_of_le hk hg)
theorem Ents.mono {w : World} {g g' : Nat} {A : Option Addr} {l : EntL} (h : Ents w g A l) (hg : g ≤ g') : Ents w g' A l := by
  obtain ⟨hm, h0 | ⟨b, off, hA, hbg, hc⟩⟩ := h
  · exact ⟨hm, .inl h0⟩
  · exact ⟨hm, .inr ⟨b, off, hA, Nat.lt_of_lt_of_le hbg hg, hc⟩⟩
theorem Ents.grown {w w' : World} {g : Nat} {A : Option Addr} {l : EntL} {row : Option Nat} (h : Ents w g A l) (hg : w.grownBy w' row) (hl : g ≤ w.heap.size) (hr : ∀ k, row = some k → g ≤ k) : Ents w' g A l :=
  h.kept fun k hk => hg.block k (Nat.lt_of_lt_of_le hk hl) fun e => by have := hr k e.symm; omega
theorem Ents.at {w : World} {g : Nat} {A : Option Addr} {l : EntL} (h : Ents w g A l) (j : Nat) (hj : j < l.length) : ∃ b off, A = some ⟨b, off, none⟩ ∧ b < g ∧ ∀ j, j < l.length → w.cell? ⟨b, off + j * 2, none⟩ = some (.int .i64 (entAt l j).1) ∧ w.cell? ⟨b, off + j * 2 + 1, none⟩ = some (.int .i64 (entAt l j).2) := by
  obtain ⟨_, rfl | h⟩ := h
  · exact absurd hj (by simp)
  · exact h

theorem els_zero (n : Nat) : els (List.replicate n (0, 0)) = List.replicate (n * 2) 0 := by
  induction n with
  | zero => rfl
  | succ n ih => rw [List.replicate_succ, els_cons, ih, show (n + 1) * 2 = n * 2 + 1 + 1 by omega, List.replicate_succ, List.replicate_succ]
end Go.Proofs.Ytemfiglflbfocaa

namespace Go.Proofs.Ytemfiglflbfocaa
open Go.RowKit
set_option linter.unusedVariables false

/-- What a row reads after it was marked. -/
def markE (k : Int) (n : Nat) : EntL := (List.range n).map fun (i : Nat) => (k + 2 * (i : Int), k + 2 * (i : Int) + 1)
theorem markE_len (k : Int) (n : Nat) : (markE k n).length = n := by simp [markE]
theorem markE_at (k : Int) (n j : Nat) (h : j < n) : entAt (markE k n) j = (k + 2 * (j : Int), k + 2 * (j : Int) + 1) := by
  unfold entAt
  rw [List.getD_eq_getElem?_getD]
  simp [markE, h]

theorem els_append (a b : EntL) : els (a ++ b) = els a ++ els b := by simp [els]
/-- One entry more. -/
theorem append_ent {P : Program} {w : World} (w0 : World) {ops : Array Oper} {rest : List Oper} {o : Oper} {a : Act} {Q : Exit → Act → World → Prop} (hgd : o.guard = none) (s x : Operand) (t : TypeId)
    (ho : o.op = .call { callee := .builtin .append, args := #[s, x], argTypes := #[t, t] })
    (base : Nat) (e : TypeId) (i : TypeInfo) (z : Value) (ht : P.underlying t = some (.slice e)) (hi : P.info? e = some i) (hz : i.zero = some z)
    (hsize : i.size = 2) (hby : i.bytes = 16) (hzs : z.cells.size = 2)
    (v : Value) (n : Nat) (l : EntL) (hs : a.eval s = v) (hown : w0.ownsRow base e 2 v n (ivs (els l)))
    (p q : Int) (hw : w = w0.alloc (.cells #[.int .i64 p, .int .i64 q] e)) (hx : a.eval x = .slice (some ⟨w0.heap.size, 0, none⟩) 1 1) (hn : n ≤ 100000) (hb : base ≤ w0.heap.size)
    (h : ∀ v' w', w'.ownsRow base e 2 v' (n + 1) (ivs (els (l ++ [(p, q)]))) → (w0.alloc (.cells #[.int .i64 p, .int .i64 q] e)).grownBy w' v.ownBlock → (v'.ownBlock = v.ownBlock ∨ v'.ownBlock = some (w0.heap.size + 1)) → wpList P ops Q rest (a.put o.dst v') w') :
    wpList P ops Q (o :: rest) a w := by
  subst hw
  refine wpList_append_own_at (w0.alloc (.cells #[.int .i64 p, .int .i64 q] e)) hgd s x t ho base e i z 2 16 ht hi hz hsize hby hzs (by decide) v n (ivs (els l)) hs (hown.alloc _)
    ⟨w0.heap.size, 0, none⟩ 1 1 [.int .i64 p, .int .i64 q] hx rfl ?_ ?_ (by unfold maxLen; omega) (by omega) (by simp; omega) ?_
  · intro j y hj
    have e : (⟨w0.heap.size, 0, none⟩ : Addr).add j = ⟨w0.heap.size, j, none⟩ := by unfold Addr.add; split <;> simp_all
    rw [e, World.cell?_alloc_mark]
    simpa using hj
  · intro y hy
    simp at hy
    rcases hy with rfl | rfl <;> rfl
  · intro v' w' hown' hg _ hb'
    refine h v' w' ?_ hg (by simpa using hb')
    rw [els_append, ivs_append]
    exact hown'
/-- A slice of entries that came in: the cells of its entries. -/
def IsEnts (w : World) (a : Option Addr) (len cap : Nat) (l : EntL) : Prop :=
  len ≤ cap ∧ cap ≤ maxLen ∧ l.length = len ∧ (l = [] ∨ ∃ b off, a = some ⟨b, off, none⟩ ∧ b < w.heap.size ∧ ∀ j, j < l.length → w.cell? ⟨b, off + j * 2, none⟩ = some (.int .i64 (entAt l j).1) ∧ w.cell? ⟨b, off + j * 2 + 1, none⟩ = some (.int .i64 (entAt l j).2))
section
open Go.ChangeShapes Go.WideShapes Go.Deep
/-- A slice of two integers each, out of the frame's reading. -/
theorem isents_of {H : Type} {enc : TypeId × Value → H} {P : Program} {w : World} {base : Nat} {spare : Nat → Bool} {held : Bool} {t e : TypeId} {f0 f1 : Field} {fuel : Nat} {x : DataW H × List MemPlace} {a : Option Addr} {len cap : Nat}
    (ht : P.underlying t = some (.slice e)) (he : P.underlying e = some (.struct #[f0, f1])) (ce : P.cellsOf e = 2) (o0 : f0.offset = 0) (o1 : f1.offset = 1) (c0 : P.cellsOf f0.type = 1) (c1 : P.cellsOf f1.type = 1)
    (u0 : P.underlying f0.type = some (.int .i64)) (u1 : P.underlying f1.type = some (.int .i64)) (h : DataW.trod enc P w base spare held fuel t (Value.slice a len cap).cells.toList = some x) : ∃ l, IsEnts w a len cap l := by
  rcases open_slice_pairs ht he ce o0 o1 c0 c1 h with ⟨hcs, _⟩ | ⟨b, l', c', m, n, V0, V1, D0, D1, P0, P1, hcs, _, hl, hm, hmm, _, hx⟩
  · simp [Value.cells] at hcs
    obtain ⟨rfl, rfl, rfl⟩ := hcs
    exact ⟨[], Nat.le_refl _, Nat.zero_le _, rfl, .inl rfl⟩
  · simp [Value.cells] at hcs
    obtain ⟨rfl, rfl, rfl⟩ := hcs
    have hlm : len ≤ m := by rw [hmm]; split <;> omega
    refine ⟨(List.range len).map fun i => (intOf (V0 i), intOf (V1 i)), hl, hm, by simp, ?_⟩
    by_cases h0 : len = 0
    · left; subst h0; rfl
    · right
      obtain ⟨blk, off, spot⟩ := b
      have hc := (hx 0 (by omega)).1
      have hspot : spot = none := by simpa [Addr.add] using World.cell?_spot hc
      subst hspot
      refine ⟨blk, off, rfl, World.block_lt_of_cell? w _ hc, fun j hj => ?_⟩
      simp only [List.length_map, List.length_range] at hj
      have hat : entAt ((List.range len).map fun i => (intOf (V0 i), intOf (V1 i))) j = (intOf (V0 j), intOf (V1 j)) := by
        unfold entAt
        rw [List.getD_eq_getElem?_getD]
        simp [hj]
      rw [hat]
      obtain ⟨k0, k1, k2, k3⟩ := hx j (by omega)
      obtain ⟨y0, e0, _⟩ := DataW.trod_int u0 k2
      obtain ⟨y1, e1, _⟩ := DataW.trod_int u1 k3
      simp only [List.cons.injEq, and_true] at e0 e1
      rw [e0] at k0 ⊢
      rw [e1] at k1 ⊢
      refine ⟨?_, ?_⟩
      · by_cases hj0 : j = 0
        · subst hj0; simpa [Addr.add, intOf] using k0
        · have hj2 : ¬ j * 2 = 0 := by omega
          simpa [Addr.add, hj2, intOf] using k0
      · simpa [Addr.add, intOf, Nat.add_assoc] using k1
end
theorem IsEnts.ents {w : World} {a : Option Addr} {len cap : Nat} {l : EntL} (h : IsEnts w a len cap l) (hm : len ≤ 281474976710656) : Ents w w.heap.size a l := ⟨by have := h.2.2.1; omega, h.2.2.2⟩
end Go.Proofs.Ytemfiglflbfocaa
