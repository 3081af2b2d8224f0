/-
  Contracts of the program's liftFour, which writes into its row. Conditions: the row is a part of a row that one owns; its numbers are any.
-/
import Derived.Test.YtcmijednpnabmaaLiftA
import Derived.Test.YtcmijednpnabmaaFormA
import Derived.BigRegion
namespace Go.Proofs.Ytcmijednpnabmaa
open Go.RowKit
set_option linter.unusedVariables false

/-- A row with a part put in. -/
def putP (L : List Int) (o : Nat) (q : List Int) : List Int := L.take o ++ q ++ L.drop (o + q.length)
theorem putP_len {L q : List Int} {o : Nat} (h : o + q.length ≤ L.length) : (putP L o q).length = L.length := by
  simp only [putP, List.length_append, List.length_take, List.length_drop]
  omega
theorem putP_at {L q : List Int} {o i : Nat} (h : o + q.length ≤ L.length) (hi : i < q.length) : (putP L o q).getD (o + i) 0 = q.getD i 0 := by
  have e : (L.take o).length = o := by rw [List.length_take]; omega
  simp only [putP, List.getD_eq_getElem?_getD]
  rw [List.append_assoc, List.getElem?_append_right (by omega), e, show o + i - o = i by omega, List.getElem?_append_left hi]
theorem putP_set {L q : List Int} {o i : Nat} (x : Int) (h : o + q.length ≤ L.length) (hi : i < q.length) : (putP L o q).set (o + i) x = putP L o (q.set i x) := by
  have e : (L.take o).length = o := by rw [List.length_take]; omega
  simp only [putP, List.length_set]
  rw [List.append_assoc, List.set_append_right _ _ (by omega), e, show o + i - o = i by omega, List.set_append_left _ _ hi, List.append_assoc]
theorem putP_same {L : List Int} (o k : Nat) (h : o + k ≤ L.length) : putP L o ((L.drop o).take k) = L := by
  have e : ((L.drop o).take k).length = k := by rw [List.length_take, List.length_drop]; omega
  rw [putP, e, List.append_assoc, ← List.drop_drop, List.take_append_drop, List.take_append_drop]
theorem putP_all (q L : List Int) (h : q.length = L.length) : putP L 0 q = q := by
  rw [putP, h]
  simp
theorem grown_trans {a b c : World} {r : Option Nat} (h : a.grownBy b r) (k : b.grownBy c r) : a.grownBy c r :=
  ⟨k.os.trans h.os, k.tape.trans h.tape, k.output.trans h.output, Nat.le_trans h.size k.size, fun i hi hne => (k.block i (Nat.lt_of_lt_of_le hi h.size) hne).trans (h.block i hi hne)⟩
theorem part_drew (w : World) (r : Option Nat) : w.grownBy w.drew r := ⟨rfl, rfl, rfl, Nat.le_refl _, fun _ _ _ => rfl⟩
/-- One's own row as a part of which is written. -/
def PartI (w : World) (base g n cap : Nat) (L : List Int) (o : Nat) (q : List Int) : Prop := w.ownsRow base 3 1 (.slice (some ⟨g, 0, none⟩) n cap) n (ivs (putP L o q))
theorem PartI.cell {w : World} {base g n cap o : Nat} {L q : List Int} (h : PartI w base g n cap L o q) (hL : L.length = n) (ho : o + q.length ≤ n) (i : Nat) (hi : i < q.length) : w.cell? ⟨g, o + i, none⟩ = some (.int .i64 (q.getD i 0)) := by
  have e := own_cells' h (by rw [putP_len (by omega), hL]) (o + i) (by omega)
  rw [putP_at (by omega) hi] at e
  exact e
theorem PartI.store {w : World} {base g n cap o : Nat} {L q : List Int} (h : PartI w base g n cap L o q) (hL : L.length = n) (ho : o + q.length ≤ n) (i : Nat) (hi : i < q.length) (x : Int) :
    PartI (w.setCell ⟨g, o + i, none⟩ (.int .i64 x)) base g n cap L o (q.set i x) ∧ w.grownBy (w.setCell ⟨g, o + i, none⟩ (.int .i64 x)) (some g) := by
  have s := World.ownsRow.stored h (o + i) (.int .i64 x)
  rw [ivs_set, putP_set _ (by omega) hi] at s
  exact s
theorem PartI.frozen {w : World} {base g n cap o : Nat} {L q : List Int} (h : PartI w base g n cap L o q) (i : Nat) : w.frozen? ⟨g, o + i, none⟩ = false := World.ownsRow.frozenAt h (o + i)
theorem PartI.drew {w : World} {base g n cap o : Nat} {L q : List Int} (h : PartI w base g n cap L o q) : PartI w.drew base g n cap L o q := World.ownsRow.drew h

set_option maxRecDepth 100000 in
set_option maxHeartbeats 4000000 in
theorem lift_four_part (base g n cap o c : Nat) (L q : List Int) (hq : q.length = 4) (hL : L.length = n) (ho : o + 4 ≤ n) (hn : n ≤ 1000) (w : World) (hO : PartI w base g n cap L o q) :
    Calls Try.prog 39 #[.slice (some ⟨g, o, none⟩) 4 c] w fun e w' => e = .returned (.tuple #[]) ∧ PartI w' base g n cap L o (liR 4 q) ∧ w.grownBy w' (some g) := by
  have c0 := hO.cell hL (by omega) 0 (by omega); have c1 := hO.cell hL (by omega) 1 (by omega); have c2 := hO.cell hL (by omega) 2 (by omega); have c3 := hO.cell hL (by omega) 3 (by omega)
  rw [Nat.add_zero] at c0
  have hres := liR_four q hq
  obtain ⟨a0, h0⟩ : ∃ x, x = q.getD 0 0 := ⟨_, rfl⟩
  obtain ⟨a1, h1⟩ : ∃ x, x = q.getD 1 0 := ⟨_, rfl⟩
  obtain ⟨a2, h2⟩ : ∃ x, x = q.getD 2 0 := ⟨_, rfl⟩
  obtain ⟨a3, h3⟩ : ∃ x, x = q.getD 3 0 := ⟨_, rfl⟩
  rw [← h0] at c0 hres
  rw [← h1] at c1 hres
  rw [← h2] at c2 hres
  rw [← h3] at c3 hres
  have hw := wr_lift a0 a1 a2 a3
  obtain ⟨e, he⟩ : ∃ e, wrap64 (a0 + a2) = e := ⟨_, rfl⟩
  obtain ⟨f, hf⟩ : ∃ e, wrap64 (a0 - a2) = e := ⟨_, rfl⟩
  obtain ⟨g1, hg1⟩ : ∃ e, wrap64 (2 * a1) = e := ⟨_, rfl⟩
  obtain ⟨gg, hg⟩ : ∃ e, wrap64 (g1 + a3) = e := ⟨_, rfl⟩
  obtain ⟨h31, hh31⟩ : ∃ e, wrap64 (2 * a3) = e := ⟨_, rfl⟩
  obtain ⟨h, hh⟩ : ∃ e, wrap64 (a1 - h31) = e := ⟨_, rfl⟩
  have k0 : wrap64 (e + gg) = wrap64 (a0 + a2 + (2 * a1 + a3)) := by rw [← he, ← hg, ← hg1]; exact hw.1
  have k1 : wrap64 (f + h) = wrap64 (a0 - a2 + (a1 - 2 * a3)) := by rw [← hf, ← hh, ← hh31]; exact hw.2.1
  have k2 : wrap64 (f - h) = wrap64 (a0 - a2 - (a1 - 2 * a3)) := by rw [← hf, ← hh, ← hh31]; exact hw.2.2.1
  have k3 : wrap64 (e - gg) = wrap64 (a0 + a2 - (2 * a1 + a3)) := by rw [← he, ← hg, ← hg1]; exact hw.2.2.2
  obtain ⟨z0, hz0⟩ : ∃ z, z = wrap64 (a0 + a2 + (2 * a1 + a3)) := ⟨_, rfl⟩
  obtain ⟨z1, hz1⟩ : ∃ z, z = wrap64 (a0 - a2 + (a1 - 2 * a3)) := ⟨_, rfl⟩
  obtain ⟨z2, hz2⟩ : ∃ z, z = wrap64 (a0 - a2 - (a1 - 2 * a3)) := ⟨_, rfl⟩
  obtain ⟨z3, hz3⟩ : ∃ z, z = wrap64 (a0 + a2 - (2 * a1 + a3)) := ⟨_, rfl⟩
  rw [← hz0] at k0 hres
  rw [← hz1] at k1 hres
  rw [← hz2] at k2 hres
  rw [← hz3] at k3 hres
  have p0 := hO.drew.drew
  have f0 := hO.frozen 0; have f1 := hO.frozen 1; have f2 := hO.frozen 2; have f3 := hO.frozen 3
  have s0 := p0.store hL (by omega) 0 (by omega) z0
  rw [Nat.add_zero] at f0 s0
  have l1 : (q.set 0 z0).length = 4 := by rw [List.length_set]; exact hq
  have s1 := s0.1.store hL (by omega) 1 (by omega) z1
  have l2 : ((q.set 0 z0).set 1 z1).length = 4 := by rw [List.length_set]; exact l1
  have s2 := s1.1.store hL (by omega) 2 (by omega) z2
  have l3 : (((q.set 0 z0).set 1 z1).set 2 z2).length = 4 := by rw [List.length_set]; exact l2
  have s3 := s2.1.store hL (by omega) 3 (by omega) z3
  have el : (((q.set 0 z0).set 1 z1).set 2 z2).set 3 z3 = liR 4 q := by
    rw [hres]
    match q, hq with
    | [x0, x1, x2, x3], _ => rfl
  rw [el] at s3
  have G : Hid (w.grownBy _ (some g)) := Lib.hid (grown_trans (grown_trans (grown_trans (grown_trans (grown_trans (part_drew w (some g)) (part_drew w.drew (some g))) s0.2) s1.2) s2.2) s3.2)
  have S := Lib.hid s3.1
  clear hw hz0 hz1 hz2 hz3 h0 h1 h2 h3 hO hq hL s0 s1 s2 s3 el hres p0 l1 l2 l3
  go_enter Try.func39, Try.ntmps39
  go_wp2
  go_region
  go_wp2
  go_region
  go_wp2
  go_end0
  exact ⟨rfl, S.out, G.out⟩
end Go.Proofs.Ytcmijednpnabmaa
