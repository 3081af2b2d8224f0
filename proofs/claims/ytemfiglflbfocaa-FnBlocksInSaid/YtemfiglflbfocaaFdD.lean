/-
  Contracts of chapter 18's draws of the laws' arguments. Condition: the input is no longer than 1048576 bytes.
-/
import Derived.Test.YtemfiglflbfocaaFdC
namespace Go.Proofs.Ytemfiglflbfocaa
open Go.RowKit
set_option linter.unusedVariables false

theorem row_up {B : Nat} {w : World} {X : Option Addr} {x : List Int} (h : RowOff B w X x) : x = [] ∨ ∀ b off, X = some ⟨b, off, none⟩ → b < w.heap.size := by
  obtain ⟨⟨h1, h2⟩, h3⟩ := h
  rcases h2 with h2 | ⟨b, off, hX, hb, hc⟩
  · exact .inl h2
  · refine .inr fun b' off' e => ?_
    rw [hX] at e
    simp only [Option.some.injEq, Addr.mk.injEq] at e
    exact e.1 ▸ hb
theorem row_apart {B r : Nat} {w w' : World} {X : Option Addr} {x : List Int} (h : RowOff B w X x) (hg : w.grownBy w' (some r)) (hr : x = [] ∨ ∀ b off, X = some ⟨b, off, none⟩ → b ≠ r) : RowOff B w' X x := by
  obtain ⟨⟨h1, h2⟩, h3⟩ := h
  refine ⟨⟨h1, ?_⟩, h3⟩
  rcases h2 with h2 | ⟨b, off, hX, hb, hc⟩
  · exact .inl h2
  · rcases hr with hr | hr
    · exact .inl hr
    · have hbr := hr b off hX
      refine .inr ⟨b, off, hX, Nat.lt_of_lt_of_le hb hg.size, fun j hj => ?_⟩
      rw [World.cell?_of_block (a := ⟨b, off + j, none⟩) (hg.block b hb (by simp; exact hbr))]
      exact hc j hj

set_option maxRecDepth 100000 in
set_option maxHeartbeats 8000000 in
theorem drawnbat_ex (A : Option Addr) (cap : Nat) (zs : List Int) (w : World) (hW : Code w A zs) :
    Calls Try.prog 21 #[.slice A zs.length cap] w fun e w' => ∃ (a b : Int) (l : List Int) (TA : Option Addr) (c : Nat) (x y n : Int), e = .returned (.tuple #[.agg #[.int .i64 a, .int .i64 b, .slice TA l.length c], .int .i64 x, .int .i64 y, .int .i64 n]) ∧ (0 ≤ a ∧ a ≤ 40) ∧ (0 ≤ b ∧ b ≤ 40) ∧ (0 ≤ n ∧ n ≤ 16) ∧ (-1000 ≤ x ∧ x ≤ 1000) ∧ (-1000 ≤ y ∧ y ≤ 1000) ∧ Ints w' w'.heap.size TA l ∧ l.length ≤ c ∧ (0 < l.length ∧ l.length ≤ 384) ∧ Below w.heap.size w w' := by
  have hz : (w.alloc (.cells #[.int .i64 0, .int .i64 0, .slice none 0 0] 26)).heap.size = w.heap.size + 1 := by simp
  have hn := new_ex A cap zs (w.alloc (.cells #[.int .i64 0, .int .i64 0, .slice none 0 0] 26)) (hW.below (below_new w _))
  rw [hz] at hn
  have HN := Lib.hid hn
  have OC := Lib.hid once_ex; have LC := Lib.hid l14line_ex
  have SP := Lib.hid fun w0 w g h => l18spot_ex A cap zs w0 w g h
  have R0 := Lib.hid (heap_alloc_new w (.cells #[.int .i64 0, .int .i64 0, .slice none 0 0] 26))
  have B0 := Lib.hid (below_new w (.cells #[.int .i64 0, .int .i64 0, .slice none 0 0] 26))
  clear hW hn
  go_enter Try.func21, Try.ntmps21
  go_wp2_with fail
  refine HN.out.mono ?_
  rintro e w1 ⟨rfl, hD1, hb1⟩
  obtain ⟨g, hg⟩ : ∃ g, g = w.heap.size + 1 := ⟨_, rfl⟩
  rw [← hg] at hD1 hb1 hz
  have hbw : Below w.heap.size w w1 := below_up B0.out (by rw [hz]; exact hb1) B0.out.size
  have D1 := Lib.hid hD1; have BW := Lib.hid hbw
  have R1 := Lib.hid ((hb1.block w.heap.size (by omega)).trans R0.out)
  have hg1 : g < w1.heap.size := hD1.lt
  have hgR : w.heap.size < g := by omega
  clear hD1 hb1 hbw hz R0 B0
  rw [← hg]
  clear hg
  go_wp2_with fail
  refine (SP.out _ _ _ D1.out).mono ?_
  rintro e w2 ⟨a, b, l, TA, c, x, y, n, rfl, ha, hb, hn, hx, hy, hRow, hc, hl, hD2⟩
  have HA := Lib.hid ha; have HB := Lib.hid hb; have HNn := Lib.hid hn; have HX := Lib.hid hx; have HY := Lib.hid hy; have HC := Lib.hid hc; have HL := Lib.hid hl
  have hg2 := hD2.grown0
  have R2 := Lib.hid ((hg2.block w.heap.size (by omega) (by simp; omega)).trans R1.out)
  have RW2 := Lib.hid hRow; have D2 := Lib.hid hD2
  have hs2 := hg2.size
  clear hRow hc hl hD2 hg2 R1 ha hb hx hy
  obtain ⟨r0, r1, r2⟩ := cells3 R2.out
  obtain ⟨z0, z1, z2⟩ := frozen3 R2.out
  obtain ⟨e0, e1, e2⟩ := cells3 (put_three R2.out (.int .i64 a) (.int .i64 b) (.slice TA l.length c))
  have og := Lib.hid ((RW2.out.grown (grown_three w2 w.heap.size (.int .i64 a) (.int .i64 b) (.slice TA l.length c)) (show w.heap.size < w1.heap.size by omega)).1)
  have dz := Lib.hid ((Below.setCell (Below.setCell (Below.setCell (BW.out.trans (D2.out.belowOf (Nat.le_of_lt hgR) BW.out.size)) (p := ⟨w.heap.size, 0, none⟩) (Nat.le_refl _) (.int .i64 a)) (p := ⟨w.heap.size, 1, none⟩) (Nat.le_refl _) (.int .i64 b)) (p := ⟨w.heap.size, 2, none⟩) (Nat.le_refl _) (.slice TA l.length c)))
  go_wp2
  exact bodyPost_ret (v := .tuple #[.agg #[.int .i64 a, .int .i64 b, .slice TA l.length c], .int .i64 x, .int .i64 y, .int .i64 n]) (by simp [results, Try.results21, go_sem, e0, e1, e2]) rfl ⟨a, b, l, TA, c, x, y, n, rfl, HA.out, HB.out, HNn.out, HX.out, HY.out, og.out, HC.out, HL.out, dz.out⟩

set_option maxRecDepth 100000 in
set_option maxHeartbeats 8000000 in
theorem drawsetblock_ex (A : Option Addr) (cap : Nat) (zs : List Int) (w : World) (hW : Code w A zs) :
    Calls Try.prog 13 #[.slice A zs.length cap] w fun e w' => ∃ (a b : Int) (l : List Int) (TA : Option Addr) (c : Nat) (x y : Int) (m : List Int) (MA : Option Addr) (cm : Nat), e = .returned (.tuple #[.agg #[.int .i64 a, .int .i64 b, .slice TA l.length c], .int .i64 x, .int .i64 y, .slice MA m.length cm]) ∧ (0 ≤ a ∧ a ≤ 40) ∧ (0 ≤ b ∧ b ≤ 40) ∧ (-1000 ≤ x ∧ x ≤ 1000) ∧ (-1000 ≤ y ∧ y ≤ 1000) ∧ Ints w' w'.heap.size TA l ∧ l.length ≤ c ∧ (0 < l.length ∧ l.length ≤ 384) ∧ Ints w' w'.heap.size MA m ∧ m.length ≤ cm ∧ m.length ≤ 256 ∧ Below w.heap.size w w' := by
  have hz : (w.alloc (.cells #[.int .i64 0, .int .i64 0, .slice none 0 0] 26)).heap.size = w.heap.size + 1 := by simp
  have hn := new_ex A cap zs (w.alloc (.cells #[.int .i64 0, .int .i64 0, .slice none 0 0] 26)) (hW.below (below_new w _))
  rw [hz] at hn
  have HN := Lib.hid hn
  have OC := Lib.hid once_ex; have LC := Lib.hid l14line_ex
  have SP := Lib.hid fun w0 w g h => l18spot_ex A cap zs w0 w g h
  have R0 := Lib.hid (heap_alloc_new w (.cells #[.int .i64 0, .int .i64 0, .slice none 0 0] 26))
  have B0 := Lib.hid (below_new w (.cells #[.int .i64 0, .int .i64 0, .slice none 0 0] 26))
  clear hW hn
  go_enter Try.func13, Try.ntmps13
  go_wp2_with fail
  refine HN.out.mono ?_
  rintro e w1 ⟨rfl, hD1, hb1⟩
  obtain ⟨g, hg⟩ : ∃ g, g = w.heap.size + 1 := ⟨_, rfl⟩
  rw [← hg] at hD1 hb1 hz
  have hbw : Below w.heap.size w w1 := below_up B0.out (by rw [hz]; exact hb1) B0.out.size
  have D1 := Lib.hid hD1; have BW := Lib.hid hbw
  have R1 := Lib.hid ((hb1.block w.heap.size (by omega)).trans R0.out)
  have hg1 : g < w1.heap.size := hD1.lt
  have hgR : w.heap.size < g := by omega
  clear hD1 hb1 hbw hz R0 B0
  rw [← hg]
  clear hg
  go_wp2_with fail
  refine (SP.out _ _ _ D1.out).mono ?_
  rintro e w2 ⟨a, b, l, TA, c, x, y, n, rfl, ha, hb, hn, hx, hy, hRow, hc, hl, hD2⟩
  have HA := Lib.hid ha; have HB := Lib.hid hb; have HNn := Lib.hid hn; have HX := Lib.hid hx; have HY := Lib.hid hy; have HC := Lib.hid hc; have HL := Lib.hid hl
  have hg2 := hD2.grown0
  have R2 := Lib.hid ((hg2.block w.heap.size (by omega) (by simp; omega)).trans R1.out)
  have RW2 := Lib.hid hRow; have D2 := Lib.hid hD2
  have hs2 := hg2.size
  clear hRow hc hl hD2 hg2 R1 ha hb hx hy
  obtain ⟨m, hm⟩ : ∃ m : Nat, n * n = (m : Int) := ⟨(n * n).toNat, by have := Int.mul_nonneg hn.1 hn.1; omega⟩
  have hm256 : m ≤ 256 := by
    have : n * n ≤ 16 * 16 := Int.mul_le_mul hn.2 hn.2 hn.1 (by decide)
    omega
  have hmx : max (0 : Int) (m : Int) = (m : Int) := by omega
  have hmx2 : (if (0 : Int) < (m : Int) then (m : Int) else 0) = (m : Int) := by split <;> omega
  have hmw : IntKind.i64.wrap (m : Int) = (m : Int) := IntWalk.i64_in _ (by omega)
  have D3 := Lib.hid (D2.out.alloc (.cells #[.int .i64 a, .int .i64 b, .slice TA l.length c] 26))
  obtain ⟨bb, hbb⟩ : ∃ bb, bb = w2.heap.size := ⟨_, rfl⟩
  have hz3 : (w2.alloc (.cells #[.int .i64 a, .int .i64 b, .slice TA l.length c] 26)).heap.size = bb + 1 := by rw [hbb]; simp
  have K3 : Hid ((w2.alloc (.cells #[.int .i64 a, .int .i64 b, .slice TA l.length c] 26)).heap[bb]? = some (.cells #[.int .i64 a, .int .i64 b, .slice TA l.length c] 26 (0, 0))) := Lib.hid (by rw [hbb]; exact heap_alloc_new w2 _)
  have R3 := Lib.hid ((Below.heap_alloc w2 (.cells #[.int .i64 a, .int .i64 b, .slice TA l.length c] 26) w.heap.size (by omega)).trans R2.out)
  have RW3 := Lib.hid (RW2.out.alloc (.cells #[.int .i64 a, .int .i64 b, .slice TA l.length c] 26))
  have hb1 : w1.heap.size ≤ bb := by omega
  have UB := Lib.hid (row_up RW2.out)
  have HBB := Lib.hid hbb
  clear hn R2 RW2 hs2 hbb D2
  by_cases hm0 : m = 0
  · subst hm0
    go_wp2_with fail
    rw [← HBB.out]
    refine (LC.out 0 (by omega) _ _ _ _ _ _ D3.out).mono ?_
    rintro e w4 ⟨q, MA, cm, rfl, hq, hO, hD4, hg4⟩
    rw [hz3] at hO
    have K4 := Lib.hid ((hg4.block bb (by omega) (by simp; omega)).trans K3.out)
    have R4 := Lib.hid ((hg4.block w.heap.size (by omega) (by simp; omega)).trans R3.out)
    have RW4 := Lib.hid (RW3.out.grown hg4 (show g < w1.heap.size from hg1))
    have hs4 : bb + 1 ≤ w4.heap.size := by rw [← hz3]; exact hg4.size
    have D4 := Lib.hid hD4; have QL := Lib.hid hq; have O4 := Lib.hid hO
    have HCM : Hid (0 ≤ cm) := Lib.hid (by have := hO.cap_le; rw [hq] at this; exact this)
    clear hD4 hg4 hO hq K3 R3 RW3 D3
    have hq0 : q = [] := List.eq_nil_of_length_eq_zero QL.out
    have QR : Hid (RowOff w1.heap.size w4 MA ([] : List Int)) := Lib.hid ⟨⟨by simp, .inl rfl⟩, fun b' off e => by
      have hO := O4.out
      rw [hq0] at hO
      subst e
      rcases hO.2 with ⟨h1, _⟩ | ⟨g', c', cur, h1, hb', _⟩
      · cases h1
      · simp only [Value.slice.injEq, Option.some.injEq, Addr.mk.injEq] at h1
        obtain ⟨⟨rfl, _⟩, _⟩ := h1
        omega⟩
    have QN : Hid (([] : List Int).length = 0) := Lib.hid rfl
    obtain ⟨c0, c1, c2⟩ := cells3 K4.out
    have MG := Lib.hid ((QR.out.grown (grown_three w4 w.heap.size (.int .i64 a) (.int .i64 b) (.slice TA l.length c)) (show w.heap.size < w1.heap.size by omega)).1)
    obtain ⟨r0, r1, r2⟩ := cells3 R4.out
    obtain ⟨z0, z1, z2⟩ := frozen3 R4.out
    obtain ⟨e0, e1, e2⟩ := cells3 (put_three R4.out (.int .i64 a) (.int .i64 b) (.slice TA l.length c))
    have og := Lib.hid ((RW4.out.grown (grown_three w4 w.heap.size (.int .i64 a) (.int .i64 b) (.slice TA l.length c)) (show w.heap.size < w1.heap.size by omega)).1)
    have dz := Lib.hid ((Below.setCell (Below.setCell (Below.setCell (BW.out.trans (D4.out.belowOf (Nat.le_of_lt hgR) BW.out.size)) (p := ⟨w.heap.size, 0, none⟩) (Nat.le_refl _) (.int .i64 a)) (p := ⟨w.heap.size, 1, none⟩) (Nat.le_refl _) (.int .i64 b)) (p := ⟨w.heap.size, 2, none⟩) (Nat.le_refl _) (.slice TA l.length c)))
    go_wp2
    exact bodyPost_ret (v := .tuple #[.agg #[.int .i64 a, .int .i64 b, .slice TA l.length c], .int .i64 x, .int .i64 y, .slice MA 0 cm]) (by simp [results, Try.results13, go_sem, e0, e1, e2]) rfl ⟨a, b, l, TA, c, x, y, [], MA, cm, by rw [QN.out], HA.out, HB.out, HX.out, HY.out, og.out, HC.out, HL.out, MG.out, by rw [QN.out]; exact HCM.out, by rw [QN.out]; omega, dz.out⟩
  · have d1 : decide ((0 : Int) < (m : Int)) = true := by simp; omega
    have hm1 : 0 < m := by omega
    go_wp2_with fail
    rw [← HBB.out]
    refine (LC.out m (by omega) _ _ _ _ _ _ D3.out).mono ?_
    rintro e w4 ⟨q, MA, cm, rfl, hq, hO, hD4, hg4⟩
    rw [hz3] at hO
    have K4 := Lib.hid ((hg4.block bb (by omega) (by simp; omega)).trans K3.out)
    have R4 := Lib.hid ((hg4.block w.heap.size (by omega) (by simp; omega)).trans R3.out)
    have RW4 := Lib.hid (RW3.out.grown hg4 (show g < w1.heap.size from hg1))
    have hs4 : bb + 1 ≤ w4.heap.size := by rw [← hz3]; exact hg4.size
    have D4 := Lib.hid hD4; have QL := Lib.hid hq; have O4 := Lib.hid hO
    have HCM : Hid (m ≤ cm) := Lib.hid (by have := hO.cap_le; rw [hq] at this; exact this)
    clear hD4 hg4 hO hq K3 R3 RW3 D3
    go_wp2_with fail
    refine (OC.out 10 _ _ _ _ _ _ D4.out).mono ?_
    rintro e w5 ⟨u, rfl, hD5, hg5⟩
    have K5 := Lib.hid ((hg5.block bb (by omega) (by simp; omega)).trans K4.out)
    have R5 := Lib.hid ((hg5.block w.heap.size (by omega) (by simp; omega)).trans R4.out)
    have RW5 := Lib.hid (RW4.out.grown hg5 (show g < w1.heap.size from hg1))
    have o5 := own_back6 (own_dw O4.out hg5 (by omega)) rfl
    have D5 := Lib.hid hD5
    have hs5 : bb + 1 ≤ w5.heap.size := Nat.le_trans hs4 hg5.size
    obtain ⟨tb, rfl, htb, htw, -⟩ := own_whereO o5 rfl (by rw [QL.out]; exact hm1)
    cases u with
    | false =>
      have QR := Lib.hid ((RowOff.own o5 (by rw [QL.out]; omega) (by rw [QL.out]; exact hm1)).low (show w1.heap.size ≤ bb + 1 by omega))
      clear o5 hD5 hg5
      obtain ⟨c0, c1, c2⟩ := cells3 K5.out
      have MG := Lib.hid ((QR.out.grown (grown_three w5 w.heap.size (.int .i64 a) (.int .i64 b) (.slice TA l.length c)) (show w.heap.size < w1.heap.size by omega)).1)
      obtain ⟨r0, r1, r2⟩ := cells3 R5.out
      obtain ⟨z0, z1, z2⟩ := frozen3 R5.out
      obtain ⟨e0, e1, e2⟩ := cells3 (put_three R5.out (.int .i64 a) (.int .i64 b) (.slice TA l.length c))
      have og := Lib.hid ((RW5.out.grown (grown_three w5 w.heap.size (.int .i64 a) (.int .i64 b) (.slice TA l.length c)) (show w.heap.size < w1.heap.size by omega)).1)
      have dz := Lib.hid ((Below.setCell (Below.setCell (Below.setCell (BW.out.trans (D5.out.belowOf (Nat.le_of_lt hgR) BW.out.size)) (p := ⟨w.heap.size, 0, none⟩) (Nat.le_refl _) (.int .i64 a)) (p := ⟨w.heap.size, 1, none⟩) (Nat.le_refl _) (.int .i64 b)) (p := ⟨w.heap.size, 2, none⟩) (Nat.le_refl _) (.slice TA l.length c)))
      go_wp2
      exact bodyPost_ret (v := .tuple #[.agg #[.int .i64 a, .int .i64 b, .slice TA l.length c], .int .i64 x, .int .i64 y, .slice (some ⟨tb, 0, none⟩) m cm]) (by simp [results, Try.results13, go_sem, e0, e1, e2]) rfl ⟨a, b, l, TA, c, x, y, q, (some ⟨tb, 0, none⟩), cm, by rw [QL.out], HA.out, HB.out, HX.out, HY.out, og.out, HC.out, HL.out, MG.out, by rw [QL.out]; exact HCM.out, by rw [QL.out]; omega, dz.out⟩
    | true =>
      have hz := World.ownsRow.frozenAt o5 0
      obtain ⟨v0, hcell⟩ : ∃ b0 : Int, w5.cell? ⟨tb, 0, none⟩ = some (.int .i64 b0) := ⟨_, (World.ownsRow.cellAt o5 0 (by rw [QL.out]; omega)).trans (ivs_at q 0 (by rw [QL.out]; omega))⟩
      have s1 := (World.ownsRow.stored o5 0 (.int .i64 256)).1
      rw [ivs_set] at s1
      have hl2 : (q.set 0 256).length = q.length := List.length_set
      have O6 := own_back6 s1 hl2
      have QS : Hid ((q.set 0 256).length = m) := Lib.hid (by rw [hl2]; exact QL.out)
      have hb6 : Below (bb + 1) w5 (w5.setCell ⟨tb, 0, none⟩ (.int .i64 256)) := (Below.refl (bb + 1) w5).setCell (p := ⟨tb, 0, none⟩) htb _
      have K6 := Lib.hid ((hb6.block bb (by omega)).trans K5.out)
      have R6 := Lib.hid ((hb6.block w.heap.size (by omega)).trans R5.out)
      have D6 := Lib.hid (hD5.set (show w1.heap.size ≤ tb by omega) (show g < tb by omega) 0 (.int .i64 256))
      have RTB : Hid (l = [] ∨ ∀ b off, TA = some ⟨b, off, none⟩ → b ≠ tb) := Lib.hid (UB.out.imp id fun h b' off' e => by have := h b' off' e; have := HBB.out; omega)
      have RW6 := Lib.hid (row_apart RW5.out (grown_cell w5 tb 0 (.int .i64 256)) RTB.out)
      have QR := Lib.hid ((RowOff.own O6 (by rw [QS.out]; omega) (by rw [QS.out]; exact hm1)).low (show w1.heap.size ≤ bb + 1 by omega))
      clear o5 s1 hl2 O6 hb6 hD5 hg5
      obtain ⟨c0, c1, c2⟩ := cells3 K6.out
      have MG := Lib.hid ((QR.out.grown (grown_three (w5.setCell ⟨tb, 0, none⟩ (.int .i64 256)) w.heap.size (.int .i64 a) (.int .i64 b) (.slice TA l.length c)) (show w.heap.size < w1.heap.size by omega)).1)
      obtain ⟨r0, r1, r2⟩ := cells3 R6.out
      obtain ⟨z0, z1, z2⟩ := frozen3 R6.out
      obtain ⟨e0, e1, e2⟩ := cells3 (put_three R6.out (.int .i64 a) (.int .i64 b) (.slice TA l.length c))
      have og := Lib.hid ((RW6.out.grown (grown_three (w5.setCell ⟨tb, 0, none⟩ (.int .i64 256)) w.heap.size (.int .i64 a) (.int .i64 b) (.slice TA l.length c)) (show w.heap.size < w1.heap.size by omega)).1)
      have dz := Lib.hid ((Below.setCell (Below.setCell (Below.setCell (BW.out.trans (D6.out.belowOf (Nat.le_of_lt hgR) BW.out.size)) (p := ⟨w.heap.size, 0, none⟩) (Nat.le_refl _) (.int .i64 a)) (p := ⟨w.heap.size, 1, none⟩) (Nat.le_refl _) (.int .i64 b)) (p := ⟨w.heap.size, 2, none⟩) (Nat.le_refl _) (.slice TA l.length c)))
      go_wp2
      exact bodyPost_ret (v := .tuple #[.agg #[.int .i64 a, .int .i64 b, .slice TA l.length c], .int .i64 x, .int .i64 y, .slice (some ⟨tb, 0, none⟩) m cm]) (by simp [results, Try.results13, go_sem, e0, e1, e2]) rfl ⟨a, b, l, TA, c, x, y, q.set 0 256, (some ⟨tb, 0, none⟩), cm, by rw [QS.out], HA.out, HB.out, HX.out, HY.out, og.out, HC.out, HL.out, MG.out, by rw [QS.out]; exact HCM.out, by rw [QS.out]; omega, dz.out⟩
end Go.Proofs.Ytemfiglflbfocaa
