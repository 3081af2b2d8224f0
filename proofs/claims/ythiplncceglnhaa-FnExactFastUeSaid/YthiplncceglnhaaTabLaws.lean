/-
  The walks of the laws of UeTable and TableOk. No condition.
-/
import Derived.Test.YthiplncceglnhaaTabOk
import Derived.Deep.SlicePairs
namespace Go.Proofs.Ythiplncceglnhaa
open Go.RowKit
set_option linter.unusedVariables false

set_option maxRecDepth 100000 in
set_option maxHeartbeats 1000000 in
/-- The law's own walk. -/
theorem fnExactUeTable_walk (w : World) :
    Calls Try.prog 4 #[] w fun e w' => e = .returned (.bool true) ∧ Below w.heap.size w w' := by
  have SP := Lib.hid spec_uetable_any
  have IM := Lib.hid impl_uetable_any
  obtain ⟨l, hl⟩ : ∃ l, l = ueT := ⟨_, rfl⟩
  have hlen : l.length ≤ 512 := by rw [hl, ueT_len]; decide
  rw [← hl] at SP IM
  clear hl
  have EQ := Lib.hid @eqents_any
  have MK := Lib.hid @markents_any
  have HE := Lib.hid @heldents_any
  have hm0 : decide ((1 : Int) + 2 * (l.length : Int) < 0) = false := by simp; omega
  have hq : ((1 : Int) + 2 * (l.length : Int) != 1 + 2 * (l.length : Int)) = false := by simp
  go_enter Try.func4, Try.ntmps4
  go_wp2_with fail
  refine (SP.out _).mono ?_
  rintro e w1 ⟨A0, c0, rfl, ho0, hb1⟩
  have R0 := Lib.hid (ho0.ents (by omega)); clear ho0
  have B1 := Lib.hid hb1; clear hb1
  go_wp2_with fail
  refine (IM.out _).mono ?_
  rintro e w2 ⟨A1, c1, rfl, ho1, hb2⟩
  have O1 := Lib.hid ho1; clear ho1
  have B2 := Lib.hid hb2; clear hb2
  go_wp2_with fail
  refine (EQ.out _ _ _ _ _ _ _ (O1.out.ents (by omega)) ((R0.out.below B2.out (Nat.le_refl _)).mono B2.out.size)).mono ?_
  rintro e w3 ⟨rfl, hb3⟩
  have B3 := Lib.hid hb3; clear hb3
  have O3 := Lib.hid (O1.out.kept B3.out (Nat.le_refl _))
  go_wp2_with fail
  refine (MK.out _ _ _ _ _ (by omega) (by omega) (by omega) _ O3.out).mono ?_
  rintro e w4 ⟨rfl, ho4, hg4⟩
  have B4 := Lib.hid (O3.out.marked hg4 (B := w1.heap.size) (Nat.le_refl _) (Nat.le_trans B2.out.size B3.out.size)); clear hg4
  have M4 := Lib.hid (ho4.ents (by rw [markE_len]; omega)); clear ho4
  go_wp2_with fail
  refine (HE.out _ _ _ _ (by omega) (by omega) _ M4.out).mono ?_
  rintro e w5 ⟨rfl, hb5⟩
  have B5 := Lib.hid hb5; clear hb5
  go_wp2_with fail
  refine (IM.out _).mono ?_
  rintro e w6 ⟨A2, c2, rfl, ho6, hb6⟩
  have R6 := Lib.hid (ho6.ents (by omega)); clear ho6
  have B6 := Lib.hid hb6; clear hb6
  have C4 := Lib.hid ((B2.out.trans (B3.out.mono B2.out.size)).trans B4.out)
  have C6 := Lib.hid (below_up B5.out B6.out B5.out.size)
  have E6 := Lib.hid (((R0.out.below C4.out (Nat.le_refl _)).below C6.out C4.out.size).mono (Nat.le_trans C4.out.size C6.out.size))
  go_wp2_with fail
  refine (EQ.out _ _ _ _ _ _ _ R6.out E6.out).mono ?_
  rintro e w7 ⟨rfl, hb7⟩
  have B7 := Lib.hid hb7; clear hb7
  have C7 := Lib.hid (below_up C6.out B7.out C6.out.size)
  have M7 := Lib.hid ((M4.out.below C7.out (Nat.le_refl _)).mono C7.out.size)
  go_wp2_with fail
  refine (HE.out _ _ _ _ (by omega) (by omega) _ M7.out).mono ?_
  rintro e w8 ⟨rfl, hb8⟩
  go_wp2
  go_ret
  refine ⟨rfl, ?_⟩
  have D4 := below_up B1.out C4.out B1.out.size
  have D7 := below_up D4 C7.out D4.size
  exact below_up D7 hb8 D7.size

/-- A slice of entries that came in: the cells of its entries. -/
def IsEnts (w : World) (a : Option Addr) (len cap : Nat) (l : EntL) : Prop :=
  len ≤ cap ∧ cap ≤ maxLen ∧ l.length = len ∧ (l = [] ∨ ∃ b off, a = some ⟨b, off, none⟩ ∧ b < w.heap.size ∧ ∀ j, j < l.length → w.cell? ⟨b, off + j * 2, none⟩ = some (.int .i64 (entAt l j).1) ∧ w.cell? ⟨b, off + j * 2 + 1, none⟩ = some (.int .i64 (entAt l j).2))
section
open Go.ChangeShapes Go.WideShapes Go.Deep
/-- A slice of two integers each, out of the frame's reading. -/
theorem isents_of {H : Type} {enc : TypeId × Value → H} {P : Program} {w : World} {base : Nat} {spare : Nat → Bool} {held : Bool} {t e : TypeId} {f0 f1 : Field} {fuel : Nat} {x : DataW H × List MemPlace} {a : Option Addr} {len cap : Nat}
    (ht : P.underlying t = some (.slice e)) (he : P.underlying e = some (.struct #[f0, f1])) (ce : P.cellsOf e = 2) (o0 : f0.offset = 0) (o1 : f1.offset = 1) (c0 : P.cellsOf f0.type = 1) (c1 : P.cellsOf f1.type = 1)
    (u0 : P.underlying f0.type = some (.int .i64)) (u1 : P.underlying f1.type = some (.int .i64)) (h : DataW.trod enc P w base spare held fuel t (Value.slice a len cap).cells.toList = some x) : ∃ l, IsEnts w a len cap l := by
  rcases open_slice_pairs ht he ce o0 o1 c0 c1 h with ⟨hcs, _⟩ | ⟨b, l', c', m, n, V0, V1, D0, D1, P0, P1, hcs, _, hl, hm, hmm, _, hx⟩
  · simp [Value.cells] at hcs
    obtain ⟨rfl, rfl, rfl⟩ := hcs
    exact ⟨[], Nat.le_refl _, Nat.zero_le _, rfl, .inl rfl⟩
  · simp [Value.cells] at hcs
    obtain ⟨rfl, rfl, rfl⟩ := hcs
    have hlm : len ≤ m := by rw [hmm]; split <;> omega
    refine ⟨(List.range len).map fun i => (intOf (V0 i), intOf (V1 i)), hl, hm, by simp, ?_⟩
    by_cases h0 : len = 0
    · left; subst h0; rfl
    · right
      obtain ⟨blk, off, spot⟩ := b
      have hc := (hx 0 (by omega)).1
      have hspot : spot = none := by simpa [Addr.add] using World.cell?_spot hc
      subst hspot
      refine ⟨blk, off, rfl, World.block_lt_of_cell? w _ hc, fun j hj => ?_⟩
      simp only [List.length_map, List.length_range] at hj
      have hat : entAt ((List.range len).map fun i => (intOf (V0 i), intOf (V1 i))) j = (intOf (V0 j), intOf (V1 j)) := by
        unfold entAt
        rw [List.getD_eq_getElem?_getD]
        simp [hj]
      rw [hat]
      obtain ⟨k0, k1, k2, k3⟩ := hx j (by omega)
      obtain ⟨y0, e0, _⟩ := DataW.trod_int u0 k2
      obtain ⟨y1, e1, _⟩ := DataW.trod_int u1 k3
      simp only [List.cons.injEq, and_true] at e0 e1
      rw [e0] at k0 ⊢
      rw [e1] at k1 ⊢
      refine ⟨?_, ?_⟩
      · by_cases hj0 : j = 0
        · subst hj0; simpa [Addr.add, intOf] using k0
        · have hj2 : ¬ j * 2 = 0 := by omega
          simpa [Addr.add, hj2, intOf] using k0
      · simpa [Addr.add, intOf, Nat.add_assoc] using k1
end
theorem IsEnts.ents {w : World} {a : Option Addr} {len cap : Nat} {l : EntL} (h : IsEnts w a len cap l) (hm : len ≤ 281474976710656) : Ents w w.heap.size a l := ⟨by have := h.2.2.1; omega, h.2.2.2⟩

set_option maxRecDepth 100000 in
set_option maxHeartbeats 1000000 in
/-- The law's own walk. -/
theorem fnExactTableOk_walk (a : Option Addr) (len cap : Nat) (l : EntL) (w : World) (hr : IsEnts w a len cap l) :
    Calls Try.prog 6 #[.slice a len cap] w fun e w' => e = .returned (.bool true) ∧ Below w.heap.size w w' := by
  have hlen := hr.2.2.1
  have hcap := Nat.le_trans hr.1 hr.2.1
  unfold maxLen at hcap
  have SZ := Lib.hid (szents_any a cap len 1048576 (by omega) (by decide) (by decide))
  by_cases hb : len ≤ 1048576
  · rw [if_pos (by omega)] at SZ
    have R := Lib.hid (hr.ents (by omega))
    subst hlen
    clear hr
    have TO := Lib.hid @toents_any
    have SP := Lib.hid @spec_tableok_any
    have IM := Lib.hid @impl_tableok_any
    have EQ := Lib.hid @eqents_any
    obtain ⟨q, hq⟩ : ∃ q, q = decide (l = ueT) := ⟨_, rfl⟩
    have hqq : (q != q) = false := by simp
    have HQ := Lib.hid hq; clear hq
    go_enter Try.func6, Try.ntmps6
    go_wp2_with fail
    refine (SZ.out _).mono ?_
    rintro e w' ⟨rfl, rfl⟩
    go_wp2_with fail
    refine (TO.out _ _ _ (by omega) _ R.out).mono ?_
    rintro e w1 ⟨A1, c1, rfl, ho1, hb1⟩
    have R1 := Lib.hid (ho1.ents (by omega)); clear ho1
    have B1 := Lib.hid hb1; clear hb1
    go_wp2_with fail
    refine (SP.out _ _ _ _ R1.out).mono ?_
    rw [← HQ.out]
    rintro e w2 ⟨rfl, hb2⟩
    have B2 := Lib.hid (below_up B1.out hb2 B1.out.size); clear hb2
    have R2 := Lib.hid ((R.out.below B2.out (Nat.le_refl _)).mono B2.out.size)
    go_wp2_with fail
    refine (TO.out _ _ _ (by omega) _ R2.out).mono ?_
    rintro e w3 ⟨A3, c3, rfl, ho3, hb3⟩
    have R3 := Lib.hid (ho3.ents (by omega)); clear ho3
    have B3 := Lib.hid (below_up B2.out hb3 B2.out.size); clear hb3
    go_wp2_with fail
    refine (IM.out _ _ _ _ R3.out).mono ?_
    rw [← HQ.out]
    rintro e w4 ⟨rfl, hb4⟩
    have R4 := Lib.hid ((R3.out.below hb4 (Nat.le_refl _)).mono hb4.size)
    have B4 := Lib.hid (below_up B3.out hb4 B3.out.size); clear hb4
    have R40 := Lib.hid ((R.out.below B4.out (Nat.le_refl _)).mono B4.out.size)
    go_wp2_with fail
    refine (TO.out _ _ _ (by omega) _ R40.out).mono ?_
    rintro e w5 ⟨A5, c5, rfl, ho5, hb5⟩
    have R5 := Lib.hid (ho5.ents (by omega)); clear ho5
    have R45 := Lib.hid ((R4.out.below hb5 (Nat.le_refl _)).mono hb5.size)
    have B5 := Lib.hid (below_up B4.out hb5 B4.out.size); clear hb5
    go_wp2_with fail
    refine (EQ.out _ _ _ _ _ _ _ R45.out R5.out).mono ?_
    rintro e w6 ⟨rfl, hb6⟩
    have B6 := Lib.hid (below_up B5.out hb6 B5.out.size); clear hb6
    go_wp2
    go_ret
    exact ⟨rfl, B6.out⟩
  · rw [if_neg (by omega)] at SZ
    clear hr hlen
    go_enter Try.func6, Try.ntmps6
    go_wp2_with fail
    refine (SZ.out _).mono ?_
    rintro e w' ⟨rfl, rfl⟩
    go_wp2
    go_ret
    exact ⟨rfl, Below.refl _ _⟩
end Go.Proofs.Ythiplncceglnhaa
