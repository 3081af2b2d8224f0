/-
  Plain helpers: rows of entries (two integers each), those that came in and those that a call owns; contracts of what the laws do with them (compare, mark, look again, copy). No condition but those that each lemma states.
-/
import Derived.Test.YthiplncceglnhaaRows
import Derived.Test.YthiplncceglnhaaInts
namespace Go.Proofs.Ythiplncceglnhaa
open Go.RowKit
set_option linter.unusedVariables false

/-- A list of entries, and its integers one behind the other. -/
abbrev EntL : Type := List (Int × Int)
def els (l : EntL) : List Int := l.flatMap fun p => [p.1, p.2]
theorem els_cons (p : Int × Int) (l : EntL) : els (p :: l) = p.1 :: p.2 :: els l := by simp [els]
theorem els_len : ∀ l : EntL, (els l).length = l.length * 2
  | [] => rfl
  | p :: l => by rw [els_cons, List.length_cons, List.length_cons, List.length_cons, els_len l]; omega
/-- The entry at a place. -/
def entAt (l : EntL) (j : Nat) : Int × Int := l.getD j (0, 0)
theorem els_fst : ∀ (l : EntL) (j : Nat), (els l).getD (j * 2) 0 = (entAt l j).1
  | [], j => by simp [els, entAt]
  | p :: l, 0 => by simp [els_cons, entAt]
  | p :: l, j + 1 => by
    have h := els_fst l j
    rw [els_cons, show (j + 1) * 2 = j * 2 + 1 + 1 by omega, List.getD_cons_succ, List.getD_cons_succ, h]
    rfl
theorem els_snd : ∀ (l : EntL) (j : Nat), (els l).getD (j * 2 + 1) 0 = (entAt l j).2
  | [], j => by simp [els, entAt]
  | p :: l, 0 => by simp [els_cons, entAt]
  | p :: l, j + 1 => by
    have h := els_snd l j
    rw [els_cons, show (j + 1) * 2 + 1 = j * 2 + 1 + 1 + 1 by omega, List.getD_cons_succ, List.getD_cons_succ, h]
    rfl
theorem els_set : ∀ (l : EntL) (j : Nat) (x y : Int), ((els l).set (j * 2) x).set (j * 2 + 1) y = els (l.set j (x, y))
  | [], j, x, y => by simp [els]
  | p :: l, 0, x, y => by simp [els_cons]
  | p :: l, j + 1, x, y => by
    have h := els_set l j x y
    rw [els_cons, show (j + 1) * 2 = j * 2 + 1 + 1 by omega, List.set_cons_succ, List.set_cons_succ, List.set_cons_succ, List.set_cons_succ, h, List.set_cons_succ, els_cons]
theorem els_set1 (l : EntL) (j : Nat) (x : Int) : (els l).set (j * 2) x = els (l.set j (x, (entAt l j).2)) := by
  rw [← els_set]
  apply List.ext_getElem?
  intro i
  by_cases h : i = j * 2 + 1
  · subst h
    have h2 := els_snd l j
    rw [List.getElem?_set_ne (by omega)]
    by_cases hl : j * 2 + 1 < (els l).length
    · rw [List.getElem?_set_self (by simpa using hl), ← h2, List.getD_eq_getElem?_getD, List.getElem?_eq_getElem hl]
      rfl
    · rw [List.getElem?_eq_none (by omega), List.getElem?_eq_none (by simp; omega)]
  · rw [List.getElem?_set_ne (fun e => h e.symm)]
theorem els_set2 (l : EntL) (j : Nat) (y : Int) : (els l).set (j * 2 + 1) y = els (l.set j ((entAt l j).1, y)) := by
  rw [← els_set]
  apply List.ext_getElem?
  intro i
  by_cases h : i = j * 2 + 1
  · subst h
    by_cases hl : j * 2 + 1 < (els l).length
    · rw [List.getElem?_set_self (by simpa using hl), List.getElem?_set_self (by simpa using hl)]
    · rw [List.getElem?_eq_none (by simp; omega), List.getElem?_eq_none (by simp; omega)]
  · rw [List.getElem?_set_ne (fun e => h e.symm), List.getElem?_set_ne (fun e => h e.symm)]
    by_cases h0 : i = j * 2
    · subst h0
      have h1 := els_fst l j
      by_cases hl : j * 2 < (els l).length
      · rw [List.getElem?_set_self (by simpa using hl), ← h1, List.getD_eq_getElem?_getD, List.getElem?_eq_getElem hl]
        rfl
      · rw [List.getElem?_eq_none (by omega), List.getElem?_eq_none (by simp; omega)]
    · rw [List.getElem?_set_ne (fun e => h0 e.symm)]
theorem entAt_set_same (l : EntL) (j : Nat) (x : Int × Int) (h : j < l.length) : entAt (l.set j x) j = x := by
  unfold entAt
  rw [List.getD_eq_getElem?_getD, List.getElem?_set_self h]
  rfl
theorem entAt_set_other (l : EntL) (i j : Nat) (x : Int × Int) (h : i ≠ j) : entAt (l.set j x) i = entAt l i := by
  unfold entAt
  rw [List.getD_eq_getElem?_getD, List.getElem?_set_ne (fun e => h e.symm), ← List.getD_eq_getElem?_getD]
theorem ents_ext (l m : EntL) (h : l.length = m.length) (he : ∀ j, j < l.length → entAt l j = entAt m j) : l = m := by
  refine List.ext_getElem h fun i h1 h2 => ?_
  have := he i h1
  unfold entAt at this
  rw [List.getD_eq_getElem?_getD, List.getD_eq_getElem?_getD, List.getElem?_eq_getElem h1, List.getElem?_eq_getElem h2] at this
  exact this

/-- `A`'s entries read as `l`, and lie in blocks below `g`. -/
def Ents (w : World) (g : Nat) (A : Option Addr) (l : EntL) : Prop :=
  l.length ≤ 281474976710656 ∧ (l = [] ∨ ∃ b off, A = some ⟨b, off, none⟩ ∧ b < g ∧ ∀ j, j < l.length → w.cell? ⟨b, off + j * 2, none⟩ = some (.int .i64 (entAt l j).1) ∧ w.cell? ⟨b, off + j * 2 + 1, none⟩ = some (.int .i64 (entAt l j).2))
theorem Ents.kept {w w' : World} {g : Nat} {A : Option Addr} {l : EntL} (h : Ents w g A l) (hb : ∀ k, k < g → w'.heap[k]? = w.heap[k]?) : Ents w' g A l := by
  obtain ⟨hm, h0 | ⟨b, off, hA, hbg, hc⟩⟩ := h
  · exact ⟨hm, .inl h0⟩
  · refine ⟨hm, .inr ⟨b, off, hA, hbg, fun i hi => ?_⟩⟩
    rw [World.cell?_of_block (w := w) (w' := w') (a := ⟨b, off + i * 2, none⟩) (hb b hbg), World.cell?_of_block (w := w) (w' := w') (a := ⟨b, off + i * 2 + 1, none⟩) (hb b hbg)]
    exact hc i hi
theorem Ents.below {w w' : World} {g B : Nat} {A : Option Addr} {l : EntL} (h : Ents w g A l) (hb : Below B w w') (hg : g ≤ B) : Ents w' g A l := h.kept fun k hk => hb.block k (Nat.lt_of_lt_of_le hk hg)
theorem Ents.mono {w : World} {g g' : Nat} {A : Option Addr} {l : EntL} (h : Ents w g A l) (hg : g ≤ g') : Ents w g' A l := by
  obtain ⟨hm, h0 | ⟨b, off, hA, hbg, hc⟩⟩ := h
  · exact ⟨hm, .inl h0⟩
  · exact ⟨hm, .inr ⟨b, off, hA, Nat.lt_of_lt_of_le hbg hg, hc⟩⟩
theorem Ents.grown {w w' : World} {g : Nat} {A : Option Addr} {l : EntL} {row : Option Nat} (h : Ents w g A l) (hg : w.grownBy w' row) (hl : g ≤ w.heap.size) (hr : ∀ k, row = some k → g ≤ k) : Ents w' g A l :=
  h.kept fun k hk => hg.block k (Nat.lt_of_lt_of_le hk hl) fun e => by have := hr k e.symm; omega
theorem Ents.at {w : World} {g : Nat} {A : Option Addr} {l : EntL} (h : Ents w g A l) (j : Nat) (hj : j < l.length) : ∃ b off, A = some ⟨b, off, none⟩ ∧ b < g ∧ ∀ j, j < l.length → w.cell? ⟨b, off + j * 2, none⟩ = some (.int .i64 (entAt l j).1) ∧ w.cell? ⟨b, off + j * 2 + 1, none⟩ = some (.int .i64 (entAt l j).2) := by
  obtain ⟨_, rfl | h⟩ := h
  · exact absurd hj (by simp)
  · exact h

/-- A row of entries that the call owns. -/
def OwnE (w : World) (base : Nat) (A : Option Addr) (cap : Nat) (l : EntL) : Prop := w.ownsRow base 63 2 (.slice A l.length cap) l.length (ivs (els l))
theorem OwnE.ents {w : World} {base : Nat} {A : Option Addr} {cap : Nat} {l : EntL} (h : OwnE w base A cap l) (hm : l.length ≤ 281474976710656) : Ents w w.heap.size A l := by
  refine ⟨hm, ?_⟩
  have h0 := h
  rcases h.2 with ⟨h1, h2⟩ | ⟨g, cap, cur, h1, h2, h3, _⟩
  · exact .inl (List.eq_nil_of_length_eq_zero h2)
  · simp only [Value.slice.injEq] at h1
    obtain ⟨rfl, _, rfl⟩ := h1
    refine .inr ⟨g, 0, rfl, (Array.getElem?_eq_some_iff.1 h3).1, fun j hj => ?_⟩
    have hl := els_len l
    have e1 := ivs_at (els l) (j * 2) (by omega)
    have e2 := ivs_at (els l) (j * 2 + 1) (by omega)
    rw [els_fst] at e1
    rw [els_snd] at e2
    rw [Nat.zero_add, ← e1, ← e2]
    exact ⟨World.ownsRow.cellAt h0 (j * 2) (by omega), World.ownsRow.cellAt h0 (j * 2 + 1) (by omega)⟩
theorem OwnE.kept {w w' : World} {base B : Nat} {A : Option Addr} {cap : Nat} {l : EntL} (h : OwnE w base A cap l) (hb : Below B w w') (hB : w.heap.size ≤ B) : OwnE w' base A cap l := by
  unfold OwnE at h ⊢
  have hl := World.ownsRow.lt h
  refine World.ownsRow.kept (row := none) h ⟨hb.os, hb.tape, hb.output, hb.size, fun k hk _ => hb.block k (by omega)⟩ ?_
  cases hv : (Value.slice A l.length cap).ownBlock <;> simp
theorem OwnE.cap_le {w : World} {base : Nat} {A : Option Addr} {cap : Nat} {l : EntL} (h : OwnE w base A cap l) : l.length ≤ cap := by
  rcases h.2 with ⟨h1, h2⟩ | ⟨g, cap', cur, h1, _, _, h4, _⟩
  · omega
  · simp only [Value.slice.injEq] at h1
    omega
/-- Marking one's own row leaves what lies before the row. -/
theorem OwnE.marked {w w' : World} {base : Nat} {A : Option Addr} {cap : Nat} {l : EntL} (h : OwnE w base A cap l) (hg : w.grownBy w' (Value.slice A l.length cap).ownBlock) {B : Nat} (hB : B ≤ base) (hw : B ≤ w.heap.size) : Below B w w' := by
  have hl := World.ownsRow.lt h
  exact (Below.refl B w).grown hg hw fun k hk => by have := hl k hk; omega

theorem Try.einfo : (Try.prog.info? 63).map (fun i => (i.zero, i.size, i.bytes)) = some (some (.agg #[.int .i64 0, .int .i64 0]), 2, 16) := by kernel_rfl

theorem els_zero (n : Nat) : els (List.replicate n (0, 0)) = List.replicate (n * 2) 0 := by
  induction n with
  | zero => rfl
  | succ n ih => rw [List.replicate_succ, els_cons, ih, show (n + 1) * 2 = n * 2 + 1 + 1 by omega, List.replicate_succ, List.replicate_succ]
/-- `make([]Entry, n)`: the row of zeros. -/
theorem make_ents (n : Nat) (x : Int) (hx : x = (n : Int)) (hn : n ≤ 1000000000000) (w : World) :
    (Instr.makeSlice 26 (.int .i64 x) (.int .i64 x)).run Try.prog w =
      .ok (.slice (some ⟨w.heap.size, 0, none⟩) n n) (w.alloc (.cells (ivs (els (List.replicate n (0, 0)))).toArray 63)) := by
  subst hx
  obtain ⟨i, hi, hz, h1, hb⟩ := info_parts Try.einfo
  have h := run_make (P := Try.prog) w 26 63 i (.agg #[.int .i64 0, .int .i64 0]) Try.underlying26 hi hz .i64 .i64 (n : Int) (n : Int) (by omega) (by omega) (by rw [hb]; omega) (by omega)
  rw [h]
  have hc : madeCells (Value.agg #[.int .i64 0, .int .i64 0]).cells ((n : Int).toNat * i.size) = (ivs (els (List.replicate n (0, 0)))).toArray := by
    rw [h1, Int.toNat_natCast, els_zero]
    apply Array.ext
    · simp [madeCells, ivs]
    · intro k hk1 hk2
      have : k % 2 = 0 ∨ k % 2 = 1 := by omega
      rcases this with e | e <;> simp [madeCells, ivs, iv, Value.cells, e]
  rw [hc]
  simp
/-- A row that is the last block is owned. -/
theorem own_ents (w : World) (base : Nat) (l : EntL) (hb : base ≤ w.heap.size) (hm : l.length ≤ maxLen) : OwnE (w.alloc (.cells (ivs (els l)).toArray 63)) base (some ⟨w.heap.size, 0, none⟩) l.length l := by
  have h := World.ownsRow_lit (base := base) (e := 63) (size := 2) w (ivs (els l)).toArray l.length hb hm (by simp [ivs, els_len])
  unfold OwnE
  simpa using h

set_option maxRecDepth 100000 in
set_option maxHeartbeats 1000000 in
theorem eqentry_any (a b c d : Int) (w : World) :
    Calls Try.prog 52 #[.agg #[.int .i64 a, .int .i64 b], .agg #[.int .i64 c, .int .i64 d]] w fun e w' => e = .returned (.bool (decide (a = c ∧ b = d))) ∧ Below w.heap.size w w' := by
  by_cases h1 : a = c
  · subst h1
    have q1 : (a != a) = false := by simp
    by_cases h2 : b = d
    · subst h2
      have q2 : (b != b) = false := by simp
      go_enter Try.func52, Try.ntmps52
      go_wp2
      go_ret
      refine ⟨by simp, (((Below.refl _ _).alloc (Nat.le_refl _) _).alloc (by simp) _)⟩
    · have q2 : (b != d) = true := by rw [bne_iff_ne]; exact h2
      have HH := Lib.hid h2; clear h2
      go_enter Try.func52, Try.ntmps52
      go_wp2
      go_ret
      refine ⟨by simp [HH.out], (((Below.refl _ _).alloc (Nat.le_refl _) _).alloc (by simp) _)⟩
  · have q1 : (a != c) = true := by rw [bne_iff_ne]; exact h1
    have HH := Lib.hid h1; clear h1
    go_enter Try.func52, Try.ntmps52
    go_wp2
    go_ret
    refine ⟨by simp [HH.out], (((Below.refl _ _).alloc (Nat.le_refl _) _).alloc (by simp) _)⟩
end Go.Proofs.Ythiplncceglnhaa
