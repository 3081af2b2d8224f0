/-
  Contracts of chapter 11's draws. Condition: the input is no longer than 1048576 bytes.
-/
import Derived.Test.YtgccphidnbfcaaaDoorRunE
import Derived.Test.YtgccphidnbfcaaaDoorQuantA
namespace Go.Proofs.YtgccphidnbfcaaaDoor
open Go.RowKit
set_option linter.unusedVariables false

set_option maxRecDepth 100000 in
set_option maxHeartbeats 1000000 in
theorem l11q_dw (A : Option Addr) (cap : Nat) (zs : List Int) (w0 w : World) (g : Nat) (h : Dw g A cap zs w0 w) :
    Calls Tryd.prog 28 #[.pointer (some ⟨g, 0, none⟩)] w fun e w' => ∃ q : Int, e = .returned (.int .i64 q) ∧ -1 ≤ q ∧ q ≤ 52 ∧ Dw g A cap zs w0 w' ∧ w.grownBy w' (some g) := by
  have BC := Lib.hid (below_ex 52 g A cap zs)
  have HD := Lib.hid h
  clear h
  go_enter Tryd.func28, Tryd.ntmps28
  go_wp2_with fail
  refine (BC.out _ _ HD.out).mono ?_
  rintro e w1 ⟨x, rfl, hx, -, hD1, hg1⟩
  have hx52 := hx (by decide)
  have D1 := Lib.hid hD1; have G1 := Lib.hid hg1; clear hx hD1 hg1
  have hvs : 0 < [0, 5, 6, 12, 20, 30, 51, 52, -1, (x : Int)].length := by simp
  have hv9 : [0, 5, 6, 12, 20, 30, 51, 52, -1, (x : Int)].length ≤ 1000 := by simp
  have PC := Lib.hid (pick_ex [0, 5, 6, 12, 20, 30, 51, 52, -1, (x : Int)] hvs hv9 g A cap zs)
  clear hvs hv9
  have D1a := Lib.hid (D1.out.alloc (.cells #[.int .i64 0, .int .i64 5, .int .i64 6, .int .i64 12, .int .i64 20, .int .i64 30, .int .i64 51, .int .i64 52, .int .i64 (-1), .int .i64 (x : Int)] 3))
  have G1a := Lib.hid (grown_alloc G1.out (.cells #[.int .i64 0, .int .i64 5, .int .i64 6, .int .i64 12, .int .i64 20, .int .i64 30, .int .i64 51, .int .i64 52, .int .i64 (-1), .int .i64 (x : Int)] 3))
  have hne : w1.heap.size ≠ g := by have := D1.out.lt; omega
  go_wp2_with fail
  refine (PC.out _ _ w1.heap.size D1a.out (heap_alloc_new w1 _) hne).mono ?_
  rintro e w2 ⟨y, rfl, hy, hD2, hg2⟩
  have hyr : -1 ≤ y ∧ y ≤ 52 := by simp at hy; omega
  have D2 := Lib.hid hD2; have G2 := Lib.hid (G1a.out.trans hg2); clear hy hD2 hg2
  go_wp2
  go_ret
  exact ⟨y, rfl, hyr.1, hyr.2, D2.out, G2.out⟩

set_option maxRecDepth 100000 in
set_option maxHeartbeats 1000000 in
theorem drawstepof_ex (A : Option Addr) (cap : Nat) (zs : List Int) (w : World) (hW : Code w A zs) :
    Calls Tryd.prog 8 #[.slice A zs.length cap] w fun e w' => ∃ q : Int, e = .returned (.int .i64 q) ∧ -1 ≤ q ∧ q ≤ 52 ∧ Below w.heap.size w w' := by
  have HN := Lib.hid (new_ex A cap zs w hW)
  have BC := Lib.hid (below_ex 54 w.heap.size A cap zs)
  clear hW
  go_enter Tryd.func8, Tryd.ntmps8
  go_wp2_with fail
  refine HN.out.mono ?_
  rintro e w1 ⟨rfl, hD1, hb1⟩
  have B1 := Lib.hid hb1; have D1 := Lib.hid hD1; clear hb1 hD1
  go_wp2_with fail
  refine (BC.out _ _ D1.out).mono ?_
  rintro e w2 ⟨x, rfl, hx, -, hD2, -⟩
  have hx54 := hx (by decide)
  have B2 := Lib.hid (B1.out.trans (hD2.belowOf (Nat.le_refl _) B1.out.size))
  clear hx hD2
  go_wp2
  go_ret
  exact ⟨(x : Int) - 1, rfl, by omega, by omega, B2.out⟩

set_option maxRecDepth 100000 in
set_option maxHeartbeats 1000000 in
theorem drawscaled_ex (A : Option Addr) (cap : Nat) (zs : List Int) (w : World) (hW : Code w A zs) :
    Calls Tryd.prog 14 #[.slice A zs.length cap] w fun e w' => ∃ (l : List Int) (A' : Option Addr) (c : Nat) (q : Int), e = .returned (.tuple #[.slice A' l.length c, .int .i64 q]) ∧ l.length ≤ 64 ∧ -1 ≤ q ∧ q ≤ 52 ∧ Ints w' w'.heap.size A' l ∧ Below w.heap.size w w' := by
  have HN := Lib.hid (new_ex A cap zs w hW)
  have HL := Lib.hid fun w0 w g h => l10levels_dw A cap zs w0 w g h
  have HQ := Lib.hid fun w0 w g h => l11q_dw A cap zs w0 w g h
  clear hW
  go_enter Tryd.func14, Tryd.ntmps14
  go_wp2_with fail
  refine HN.out.mono ?_
  rintro e w1 ⟨rfl, hD1, hb1⟩
  have hgw : w.heap.size < w1.heap.size := hD1.lt
  have B1 := Lib.hid hb1; have D1 := Lib.hid hD1; clear hb1 hD1
  go_wp2_with fail
  refine (HL.out _ _ _ D1.out).mono ?_
  rintro e w2 ⟨l, A2, c2, rfl, hl, hO, hD2, -⟩
  have O2 := Lib.hid hO; have D2 := Lib.hid hD2; clear hO hD2
  go_wp2_with fail
  refine (HQ.out _ _ _ D2.out).mono ?_
  rintro e w3 ⟨q, rfl, hq1, hq2, hD3, hg3⟩
  have O3 : Hid (OwnI w3 w1.heap.size A2 c2 l) := Lib.hid (own_dw O2.out hg3 hgw)
  have I3 := Lib.hid (O3.out.ints (by omega))
  have B3 := Lib.hid (B1.out.trans (hD3.belowOf (Nat.le_refl _) B1.out.size))
  clear hD3 hg3
  go_wp2
  go_ret2
  exact ⟨l, A2, c2, q, rfl, hl, hq1, hq2, I3.out, B3.out⟩

theorem set_range {l : List Int} {x B : Int} (hl : ∀ t, t < l.length → -B ≤ l.getD t 0 ∧ l.getD t 0 ≤ B) (hx : -B ≤ x ∧ x ≤ B) (k : Nat) : ∀ t, t < (l.set k x).length → -B ≤ (l.set k x).getD t 0 ∧ (l.set k x).getD t 0 ≤ B := by
  intro t ht
  rw [List.length_set] at ht
  by_cases htk : t = k
  · subst htk
    rw [List.getD_eq_getElem?_getD, List.getElem?_set_self ht]
    exact hx
  · rw [List.getD_eq_getElem?_getD, List.getElem?_set_ne (fun e => htk e.symm), ← List.getD_eq_getElem?_getD]
    exact hl t ht

set_option maxRecDepth 100000 in
set_option maxHeartbeats 2000000 in
theorem drawquantized_ex (A : Option Addr) (cap : Nat) (zs : List Int) (w : World) (hW : Code w A zs) :
    Calls Tryd.prog 11 #[.slice A zs.length cap] w fun e w' => ∃ (l : List Int) (A' : Option Addr) (c : Nat) (q : Int), e = .returned (.tuple #[.slice A' l.length c, .int .i64 q]) ∧ l.length ≤ 64 ∧ (∀ t, t < l.length → -1000001 ≤ l.getD t 0 ∧ l.getD t 0 ≤ 1000001) ∧ -1 ≤ q ∧ q ≤ 52 ∧ Ints w' w'.heap.size A' l ∧ Below w.heap.size w w' := by
  have HN := Lib.hid (new_ex A cap zs w hW)
  have SQ := Lib.hid fun i x hi w g => l9square_ex 9000 (by decide) A cap zs i x hi w g
  have OC := Lib.hid (once_ex 6 w.heap.size A cap zs)
  have PC := Lib.hid (pick_ex [1000001, -1000001, 999999, 16384, -16384] (by decide) (by decide) w.heap.size A cap zs)
  have HQ := Lib.hid fun w0 w g h => l11q_dw A cap zs w0 w g h
  clear hW
  go_enter Tryd.func11, Tryd.ntmps11
  go_wp2_with fail
  refine HN.out.mono ?_
  rintro e w1 ⟨rfl, hD1, hb1⟩
  have hgw : w.heap.size < w1.heap.size := hD1.lt
  have B1 := Lib.hid hb1
  obtain ⟨i1, x1, hC1, _⟩ := hD1
  have C1 := Lib.hid hC1
  have hi1 := hC1.le
  clear hb1 hC1
  go_wp2_with fail
  refine (SQ.out i1 x1 hi1 _ _ C1.out).mono ?_
  rintro e w2 ⟨l, A2, c2, i2, x2, rfl, hl6, hlr, hO2, hi2, hC2, hg2⟩
  have D2 : Hid (Dw w.heap.size A cap zs w1 w2) := Lib.hid ⟨i2, x2, hC2, hg2⟩
  have LR : Hid (∀ t, t < l.length → -1000001 ≤ l.getD t 0 ∧ l.getD t 0 ≤ 1000001) := Lib.hid fun t ht => by have := hlr t ht; omega
  obtain ⟨n, hn⟩ : ∃ n, n = l.length := ⟨_, rfl⟩
  have O2 : Hid (w2.ownsRow w1.heap.size 3 1 (.slice A2 n c2) n (ivs l)) := Lib.hid (by rw [hn]; exact hO2)
  have hn64 : n ≤ 64 := by omega
  rw [← hn]
  have HN2 := Lib.hid hn.symm
  clear hl6 hlr hO2 hi2 hC2 hg2 hn
  by_cases h0 : n = 0
  · have hpos : ¬ 0 < n := by omega
    clear h0
    go_wp2_with fail
    refine (HQ.out _ _ _ D2.out).mono ?_
    rintro e w3 ⟨q, rfl, hq1, hq2, hD3, hg3⟩
    have O3 := Lib.hid (own_dw O2.out hg3 hgw)
    obtain ⟨A9, c9, hv9, ho9⟩ := own_slice O3.out
    rw [HN2.out] at hv9
    obtain ⟨rfl, -, rfl⟩ := Value.slice.inj hv9
    have I3 := Lib.hid (ho9.ints (by rw [HN2.out]; omega))
    have B3 := Lib.hid (B1.out.trans (hD3.belowOf (Nat.le_refl _) B1.out.size))
    clear hD3 hg3 ho9 hv9
    go_wp2
    go_ret2
    exact ⟨l, _, _, q, congrArg Ending.returned (congrArg (fun n => Value.tuple #[Value.slice _ n _, _]) HN2.out.symm), by rw [HN2.out]; exact hn64, LR.out, hq1, hq2, I3.out, B3.out⟩
  · have hpos : 0 < n := by omega
    obtain ⟨b, rfl, hbw, hb2⟩ := own_block O2.out (by omega)
    clear h0
    go_wp2_with fail
    refine (OC.out _ _ D2.out).mono ?_
    rintro e w3 ⟨bo, rfl, hD3, hg3⟩
    have O3 := Lib.hid (own_dw O2.out hg3 hgw); have D3 := Lib.hid hD3; clear hD3 hg3
    cases bo with
    | false =>
      go_wp2_with fail
      refine (HQ.out _ _ _ D3.out).mono ?_
      rintro e w4 ⟨q, rfl, hq1, hq2, hD4, hg4⟩
      have O4 := Lib.hid (own_dw O3.out hg4 hgw)
      obtain ⟨A9, c9, hv9, ho9⟩ := own_slice O4.out
      rw [HN2.out] at hv9
      obtain ⟨rfl, -, rfl⟩ := Value.slice.inj hv9
      have I4 := Lib.hid (ho9.ints (by rw [HN2.out]; omega))
      have B4 := Lib.hid (B1.out.trans (hD4.belowOf (Nat.le_refl _) B1.out.size))
      clear hD4 hg4 ho9 hv9
      go_wp2
      go_ret2
      exact ⟨l, _, _, q, congrArg Ending.returned (congrArg (fun n => Value.tuple #[Value.slice _ n _, _]) HN2.out.symm), by rw [HN2.out]; exact hn64, LR.out, hq1, hq2, I4.out, B4.out⟩
    | true =>
      have D3a := Lib.hid (D3.out.alloc (.cells #[.int .i64 1000001, .int .i64 (-1000001), .int .i64 999999, .int .i64 16384, .int .i64 (-16384)] 3))
      have O3a := Lib.hid (O3.out.alloc (.cells #[.int .i64 1000001, .int .i64 (-1000001), .int .i64 999999, .int .i64 16384, .int .i64 (-16384)] 3))
      have hne : w3.heap.size ≠ w.heap.size := by have := D3.out.lt; omega
      go_wp2_with fail
      refine (PC.out _ _ w3.heap.size D3a.out (heap_alloc_new w3 _) hne).mono ?_
      rintro e w4 ⟨y, rfl, hy, hD4, hg4⟩
      have hyr : -1000001 ≤ y ∧ y ≤ 1000001 := by simp at hy; omega
      have o4 := own_dw O3a.out hg4 hgw
      obtain ⟨v0, hcell⟩ : ∃ b0 : Int, w4.cell? ⟨b, 0, none⟩ = some (.int .i64 b0) := ⟨_, (o4.cellAt 0 (by omega)).trans (ivs_at l 0 (by rw [HN2.out]; exact hpos))⟩
      have hz := o4.frozenAt 0
      have s1 := o4.stored 0 (.int .i64 y)
      rw [ivs_set] at s1
      have O4 := Lib.hid s1.1
      have D4 := Lib.hid (hD4.set hbw (Nat.lt_of_lt_of_le hgw hbw) 0 (.int .i64 y))
      have HN4 : Hid ((l.set 0 y).length = n) := Lib.hid (by rw [List.length_set]; exact HN2.out)
      have LR4 := Lib.hid (set_range (B := 1000001) LR.out hyr 0)
      clear hy hyr hD4 hg4 s1 o4
      go_wp2_with fail
      refine (HQ.out _ _ _ D4.out).mono ?_
      rintro e w5 ⟨q, rfl, hq1, hq2, hD5, hg5⟩
      have O5 := Lib.hid (own_dw O4.out hg5 hgw)
      obtain ⟨A9, c9, hv9, ho9⟩ := own_slice O5.out
      rw [HN4.out] at hv9
      obtain ⟨rfl, -, rfl⟩ := Value.slice.inj hv9
      have I5 := Lib.hid (ho9.ints (by rw [HN4.out]; omega))
      have B5 := Lib.hid (B1.out.trans (hD5.belowOf (Nat.le_refl _) B1.out.size))
      clear hD5 hg5 ho9 hv9 hcell
      go_wp2
      go_ret2
      exact ⟨l.set 0 y, _, _, q, congrArg Ending.returned (congrArg (fun n => Value.tuple #[Value.slice _ n _, _]) HN4.out.symm), by rw [HN4.out]; exact hn64, LR4.out, hq1, hq2, I5.out, B5.out⟩
end Go.Proofs.YtgccphidnbfcaaaDoor
