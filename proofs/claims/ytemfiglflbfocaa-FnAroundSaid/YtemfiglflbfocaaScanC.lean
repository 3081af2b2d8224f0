/-
  Contracts of Scanned and Placed, in both texts. Condition: the list is no longer than 1048576 (the laws ask no more).
-/
import Derived.Test.YtemfiglflbfocaaScanB
import Derived.Maps.AppendAt
namespace Go.Proofs.Ytemfiglflbfocaa
open Go.RowKit
set_option linter.unusedVariables false

/-! ### A row that grows beside another that is read -/
/-- The row `v` lies in the block `lo`, or in one from `hi` on, or nowhere. -/
def FarOf (v : Value) (lo hi : Nat) : Prop := v.ownBlock = none ∨ v.ownBlock = some lo ∨ ∃ k, v.ownBlock = some k ∧ hi ≤ k
theorem FarOf.grew {v v' : Value} {lo hi k : Nat} (h : FarOf v lo hi) (h2 : v'.ownBlock = v.ownBlock ∨ v'.ownBlock = some k) (hk : hi ≤ k) : FarOf v' lo hi := by
  rcases h2 with h2 | h2
  · unfold FarOf; rw [h2]; exact h
  · exact .inr (.inr ⟨k, h2, hk⟩)
/-- What is read is no part of the row. -/
theorem Ints.past {w w' : World} {hi lo : Nat} {A : Option Addr} {l : List Int} {v : Value} (h : Ints w hi A l) (hne : ∀ b off, A = some ⟨b, off, none⟩ → b ≠ lo) (hF : FarOf v lo hi) (hg : w.grownBy w' v.ownBlock) (hs : hi ≤ w.heap.size) : Ints w' hi A l := by
  obtain ⟨hm, h0 | ⟨b, off, hA, hbg, hc⟩⟩ := h
  · exact ⟨hm, .inl h0⟩
  · have hb := hg.block b (Nat.lt_of_lt_of_le hbg hs) (fun e => by
      rcases hF with h | h | ⟨k, h, hk⟩
      · rw [h] at e; exact absurd e (by simp)
      · rw [h] at e; exact hne b off hA (Option.some.inj e)
      · rw [h] at e; have := Option.some.inj e; omega)
    refine ⟨hm, .inr ⟨b, off, hA, hbg, fun i hi => ?_⟩⟩
    rw [World.cell?_of_block (w := w) (w' := w') (a := ⟨b, off + i, none⟩) hb]
    exact hc i hi
theorem OwnI.not_lo {w : World} {base lo : Nat} {A : Option Addr} {cap : Nat} {l : List Int} (h : OwnI w base A cap l) (hlo : lo < base) : ∀ b off, A = some ⟨b, off, none⟩ → b ≠ lo := by
  intro b off hA
  subst hA
  rcases h.2 with ⟨h1, _⟩ | ⟨g, cap', cur, h1, hb, _⟩
  · simp at h1
  · simp only [Value.slice.injEq, Option.some.injEq, Addr.mk.injEq] at h1
    omega
/-- `append(v, x)` of one integer, the row `v` one's own: where the row lies then. -/
theorem append_int {P : Program} {w : World} (w0 : World) {ops : Array Oper} {rest : List Oper} {o : Oper} {a : Act} {Q : Exit → Act → World → Prop} (hgd : o.guard = none) (s x : Operand) (t : TypeId)
    (ho : o.op = .call { callee := .builtin .append, args := #[s, x], argTypes := #[t, t] })
    (base : Nat) (e : TypeId) (i : TypeInfo) (ht : P.underlying t = some (.slice e)) (hi : P.info? e = some i) (hz : i.zero = some (.int .i64 0))
    (hsize : i.size = 1) (hby : i.bytes = 8)
    (v : Value) (n : Nat) (l : List Int) (hs : a.eval s = v) (hown : w0.ownsRow base e 1 v n (ivs l))
    (y : Int) (hw : w = w0.alloc (.cells #[.int .i64 y] e)) (hx : a.eval x = .slice (some ⟨w0.heap.size, 0, none⟩) 1 1) (hn : n ≤ 4000000) (hb : base ≤ w0.heap.size)
    (h : ∀ v' w', w'.ownsRow base e 1 v' (n + 1) (ivs (l ++ [y])) → w0.grownBy w' v.ownBlock → (v'.ownBlock = v.ownBlock ∨ v'.ownBlock = some (w0.heap.size + 1)) → wpList P ops Q rest (a.put o.dst v') w') :
    wpList P ops Q (o :: rest) a w := by
  subst hw
  refine wpList_append_own_at (w0.alloc (.cells #[.int .i64 y] e)) hgd s x t ho base e i (.int .i64 0) 1 8 ht hi hz hsize hby rfl (by decide) v n (ivs l) hs (hown.alloc _)
    ⟨w0.heap.size, 0, none⟩ 1 1 [.int .i64 y] hx rfl ?_ ?_ (by unfold maxLen; omega) (by omega) (by simp; omega) ?_
  · intro j u hj
    match j, hj with
    | 0, hj =>
      simp at hj
      subst hj
      simp [Addr.add, World.cell?_alloc_mark]
  · intro u hu
    simp at hu
    subst hu
    rfl
  · intro v' w' hown' hg _ hb'
    refine h v' w' ?_ ?_ (by simpa using hb')
    · rw [ivs_append]
      exact hown'
    · refine ⟨hg.os, hg.tape, hg.output, by have := hg.size; simp at this; omega, fun k hk hne => ?_⟩
      rw [hg.block k (by simp; omega) hne]
      exact Below.heap_alloc _ _ _ hk

theorem own_lower {w : World} {base base' : Nat} {e : TypeId} {size : Nat} {v : Value} {n : Nat} {xs : List Value} (h : w.ownsRow base e size v n xs) (hb : base' ≤ base) : w.ownsRow base' e size v n xs := by
  refine ⟨h.1, ?_⟩
  rcases h.2 with h2 | ⟨g, cap, cur, h1, h2, h3⟩
  · exact .inl h2
  · exact .inr ⟨g, cap, cur, h1, Nat.le_trans hb h2, h3⟩
/-! ### Scanned and Placed -/
/-- Every place of the scan is a place of the block. -/
theorem scan_places : ∀ (n : Int) (j : Nat), j < (scanL n).length → ∃ q : Nat, (scanL n).getD j 0 = (q : Int) ∧ q < (scanL n).length := by
  intro n j hj
  have h4 : (scTab 4 7).all (fun p => decide (0 ≤ p) && decide (p < 16)) = true := by decide +kernel
  have h8 : (scTab 8 15).all (fun p => decide (0 ≤ p) && decide (p < 64)) = true := by decide +kernel
  have key : ∀ (T : List Int) (N : Nat), T.length = N → T.all (fun p => decide (0 ≤ p) && decide (p < (N : Int))) = true → j < T.length → ∃ q : Nat, T.getD j 0 = (q : Int) ∧ q < T.length := by
    intro T N hT hall hj
    rw [List.all_eq_true] at hall
    have h := hall (T.getD j 0) (by rw [List.getD_eq_getElem?_getD, List.getElem?_eq_getElem hj]; exact List.getElem_mem _)
    rw [Bool.and_eq_true, decide_eq_true_eq, decide_eq_true_eq] at h
    exact ⟨(T.getD j 0).toNat, by omega, by omega⟩
  unfold scanL at hj ⊢
  split at hj
  · rename_i h; rw [if_pos h]; exact key _ 16 scTab4_len h4 hj
  · split at hj
    · rename_i h1 h; rw [if_neg h1, if_pos h]; exact key _ 64 scTab8_len h8 hj
    · simp at hj
theorem scan_side (n : Nat) : (scanL (sideN n)).length = if n = 16 then 16 else if n = 64 then 64 else 0 := by
  unfold sideN
  split
  · exact scTab4_len
  · split
    · exact scTab8_len
    · rfl
/-- What is known of the scan of a list of so many numbers. -/
theorem side_scan (n : Nat) : ∃ (K : Nat) (o : List Int), o = scanL (sideN n) ∧ o.length = K ∧ K ≤ n ∧ K ≤ 64 ∧ ∀ j, j < K → ∃ q : Nat, o.getD j 0 = (q : Int) ∧ q < K := by
  refine ⟨_, _, rfl, rfl, ?_, scanL_len _, fun j hj => scan_places _ j hj⟩
  rw [scan_side]
  split
  · omega
  · split <;> omega
/-- What Scanned and Placed answer. -/
def scR (l : List Int) : List Int := (scanL (sideN l.length)).map fun p => l.getD p.toNat 0
def plN (o l : List Int) : Nat → List Int
  | 0 => List.replicate o.length 0
  | k + 1 => (plN o l k).set (o.getD k 0).toNat (l.getD k 0)
def plR (l : List Int) : List Int := plN (scanL (sideN l.length)) l (scanL (sideN l.length)).length
theorem plN_len (o l : List Int) : ∀ k, (plN o l k).length = o.length
  | 0 => by simp [plN]
  | k + 1 => by rw [plN, List.length_set, plN_len o l k]
theorem scR_len (l : List Int) : (scR l).length ≤ 64 := by unfold scR; rw [List.length_map]; exact scanL_len _
theorem plR_len (l : List Int) : (plR l).length ≤ 64 := by unfold plR; rw [plN_len]; exact scanL_len _

theorem sideN_wf (n : Nat) : (Lit.int .i64 (sideN n)).wf = true := by
  unfold sideN
  split
  · decide
  · split <;> decide

end Go.Proofs.Ytemfiglflbfocaa
