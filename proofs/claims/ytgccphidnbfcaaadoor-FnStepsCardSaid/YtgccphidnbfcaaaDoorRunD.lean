/-
  Contracts of chapter 10's draws: the levels of a block, and pairs. Condition: the input is no longer than 1048576 bytes.
-/
import Derived.Test.YtgccphidnbfcaaaDoorRunC
import Derived.Test.YtgccphidnbfcaaaDoorScanD
namespace Go.Proofs.YtgccphidnbfcaaaDoor
open Go.RowKit
set_option linter.unusedVariables false

/-- What the draw of levels leaves. -/
def LvOut (w : World) (g : Nat) (A : Option Addr) (cap : Nat) (zs : List Int) (e : Ending) (w' : World) : Prop :=
  ∃ (l : List Int) (A' : Option Addr) (c : Nat) (i' : Nat) (h' : Int), e = .returned (.slice A' l.length c) ∧ l.length ≤ 64 ∧ OwnI w' w.heap.size A' c l ∧ i' ≤ zs.length ∧ Cursor w' g A cap zs i' h' ∧ w.grownBy w' (some g)
theorem own_block {w : World} {base : Nat} {A : Option Addr} {n c : Nat} {xs : List Value} {e : TypeId} {size : Nat} (h : w.ownsRow base e size (.slice A n c) n xs) (hn : 0 < n) : ∃ b, A = some ⟨b, 0, none⟩ ∧ base ≤ b ∧ b < w.heap.size := by
  have hl := h.lt
  rcases h.2 with ⟨h1, h2⟩ | ⟨g, cap, cur, h1, _⟩
  · omega
  · simp only [Value.slice.injEq] at h1
    obtain ⟨rfl, _, rfl⟩ := h1
    exact ⟨g, rfl, hl g rfl⟩

set_option maxRecDepth 100000 in
set_option maxHeartbeats 4000000 in
theorem l10levels_ex (A : Option Addr) (cap : Nat) (zs : List Int) (i : Nat) (h : Int) (hi : i ≤ zs.length) (w : World) (g : Nat) (hC : Cursor w g A cap zs i h) :
    Calls Tryd.prog 34 #[.pointer (some ⟨g, 0, none⟩)] w (LvOut w g A cap zs) := by
  have hgw := hC.lt
  have SQ := Lib.hid fun w g => l9square_ex 30 (by decide) A cap zs i h hi w g
  have HC := Lib.hid hC
  clear hC

  go_enter Tryd.func34, Tryd.ntmps34
  go_wp2_with fail
  refine (SQ.out _ _ HC.out).mono ?_
  rintro e w1 ⟨l, A1, c1, i1, h1, rfl, hl6, -, hI1, li1, hC1, hg1⟩
  have G1 := Lib.hid hC1; have Q1 := Lib.hid hg1
  obtain ⟨n, hn⟩ : ∃ n, n = l.length := ⟨_, rfl⟩
  have O1 : Hid (w1.ownsRow w.heap.size 3 1 (.slice A1 n c1) n (ivs l)) := Lib.hid (by rw [hn]; exact hI1)
  have hn64 : n ≤ 64 := by omega
  rw [← hn]
  have HN := Lib.hid hn.symm; clear hl6 hC1 hg1 hI1 hn
  by_cases h0 : n = 0
  · have hpos : decide ((0 : Int) < (n : Int)) = false := by simp; omega
    have hpos2 : ¬ 0 < n := by omega
    have H0 := Lib.hid h0; clear h0
    have HN1 := HN
    obtain ⟨bz, j1, e1, l1z, CZ⟩ := once_det A cap zs i1 h1 li1 4
    have HCZ := Lib.hid CZ; clear CZ
    go_wp2_with fail
    refine (HCZ.out _ _ G1.out).mono ?_
    rintro e wz ⟨rfl, hCz, hgz⟩
    have OZ := Lib.hid (World.ownsRow.kept O1.out hgz (own_far O1.out hgw))
    have GZ := Lib.hid hCz; have QZ := Lib.hid (Q1.out.trans hgz); clear hCz hgz
    cases bz with
    | false =>
      obtain ⟨A3, c3, hv3, ho3⟩ := own_slice OZ.out
      rw [HN1.out] at hv3
      obtain ⟨rfl, -, rfl⟩ := Value.slice.inj hv3
      have O3 := Lib.hid ho3
      clear ho3 hv3
      go_wp2
      go_ret
      exact ⟨l, _, _, j1, e1, congrArg Ending.returned (congrArg (fun n => Value.slice _ n _) HN1.out.symm), by rw [HN1.out]; omega, O3.out, l1z, GZ.out, QZ.out⟩
    | true =>
      go_wp2
      go_loopw [4] (fun i wr => ∃ (j : Nat) (p : List Int), 3 ≤ j ∧ i = .int .i64 j ∧ p.length = n ∧ j ≤ 67 ∧ wr.ownsRow w.heap.size 3 1 (.slice A1 n c1) n (ivs p) ∧ Cursor wr g A cap zs j1 e1 ∧ w.grownBy wr (some g))
        (fun i _ => 68 - (intOf i).toNat)
      case atStart => exact ⟨3, l, Nat.le_refl _, rfl, HN1.out, by omega, OZ.out, GZ.out, QZ.out⟩
      case round =>
        obtain ⟨j, p, hj3, rfl, hp, hj67, hown, hC, hg⟩ := hrel
        have HP := Lib.hid hp; have HO := Lib.hid hown; have HCC := Lib.hid hC; have HG := Lib.hid hg
        clear hp hC hg
        by_cases hlt : j < n
        · exact absurd hlt (by have := H0.out; omega)
        · have hf : decide ((j : Int) < (n : Int)) = false := by simp; omega
          obtain ⟨A3, c3, hv3, ho3⟩ := own_slice HO.out
          rw [HP.out] at hv3
          obtain ⟨rfl, -, rfl⟩ := Value.slice.inj hv3
          have O3 := Lib.hid ho3
          clear ho3 hv3 hown
          go_wp2
          go_ret
          exact ⟨p, _, _, j1, e1, congrArg Ending.returned (congrArg (fun n => Value.slice _ n _) HP.out.symm), by rw [HP.out]; omega, O3.out, l1z, HCC.out, HG.out⟩
  · obtain ⟨b, rfl, hbw, hb1⟩ := own_block O1.out (by omega)
    have hpos : decide ((0 : Int) < (n : Int)) = true := by simp; omega
    have hpos2 : 0 < n := by omega
    obtain ⟨bs, i2, h2, li2, CS⟩ := once_det A cap zs i1 h1 li1 6
    have HCS := Lib.hid CS; clear CS
    go_wp2_with fail
    refine (HCS.out _ _ G1.out).mono ?_
    rintro e w2 ⟨rfl, hC2, hg2⟩
    have O2 := Lib.hid (World.ownsRow.kept O1.out hg2 (own_far O1.out hgw))
    have G2 := Lib.hid hC2; have Q2 := Lib.hid (Q1.out.trans hg2); clear hC2 hg2
    have HN2 := HN
    cases bs with
    | false =>
      obtain ⟨bz, j2, e2, l2z, CZ⟩ := once_det A cap zs i2 h2 li2 4
      have HCZ := Lib.hid CZ; clear CZ
      go_wp2_with fail
      refine (HCZ.out _ _ G2.out).mono ?_
      rintro e wz ⟨rfl, hCz, hgz⟩
      have OZ := Lib.hid (World.ownsRow.kept O2.out hgz (own_far O2.out hgw))
      have GZ := Lib.hid hCz; have QZ := Lib.hid (Q2.out.trans hgz); clear hCz hgz
      cases bz with
      | false =>
        obtain ⟨A3, c3, hv3, ho3⟩ := own_slice OZ.out
        rw [HN2.out] at hv3
        obtain ⟨rfl, -, rfl⟩ := Value.slice.inj hv3
        have O3 := Lib.hid ho3
        clear ho3 hv3
        go_wp2
        go_ret
        exact ⟨l, _, _, j2, e2, congrArg Ending.returned (congrArg (fun n => Value.slice _ n _) HN2.out.symm), by rw [HN2.out]; omega, O3.out, l2z, GZ.out, QZ.out⟩
      | true =>
        go_wp2
        go_loopw [4] (fun i wr => ∃ (j : Nat) (p : List Int), 3 ≤ j ∧ i = .int .i64 j ∧ p.length = n ∧ j ≤ 67 ∧ wr.ownsRow w.heap.size 3 1 (.slice (some ⟨b, 0, none⟩) n c1) n (ivs p) ∧ Cursor wr g A cap zs j2 e2 ∧ w.grownBy wr (some g))
          (fun i _ => 68 - (intOf i).toNat)
        case atStart => exact ⟨3, l, Nat.le_refl _, rfl, HN2.out, by omega, OZ.out, GZ.out, QZ.out⟩
        case round =>
          obtain ⟨j, p, hj3, rfl, hp, hj67, hown, hC, hg⟩ := hrel
          have HP := Lib.hid hp; have HO := Lib.hid hown; have HCC := Lib.hid hC; have HG := Lib.hid hg
          clear hp hC hg
          by_cases hlt : j < n
          · obtain ⟨v0, hcell⟩ : ∃ b0 : Int, wr.cell? ⟨b, j, none⟩ = some (.int .i64 b0) := ⟨_, (hown.cellAt j (by omega)).trans (ivs_at p j (by rw [HP.out]; exact hlt))⟩
            have hz := hown.frozenAt j
            have s1 := hown.stored j (.int .i64 0)
            rw [ivs_set] at s1
            have S1 := Lib.hid s1.1
            have S2 := Lib.hid (grown_new HG.out hbw j (.int .i64 0))
            have S3 := Lib.hid (cursor_new HCC.out (Nat.lt_of_lt_of_le hgw hbw) j (.int .i64 0))
            clear s1 hown
            go_wp2
            go_roundw
            case rel => exact ⟨j + 1, p.set j 0, by omega, by go_num, by rw [List.length_set]; exact HP.out, by omega, S1.out, S3.out, S2.out⟩
            case measure => simp [intOf]; omega
          · have hf : decide ((j : Int) < (n : Int)) = false := by simp; omega
            obtain ⟨A3, c3, hv3, ho3⟩ := own_slice HO.out
            rw [HP.out] at hv3
            obtain ⟨rfl, -, rfl⟩ := Value.slice.inj hv3
            have O3 := Lib.hid ho3
            clear ho3 hv3 hown
            go_wp2
            go_ret
            exact ⟨p, _, _, j2, e2, congrArg Ending.returned (congrArg (fun n => Value.slice _ n _) HP.out.symm), by rw [HP.out]; omega, O3.out, l2z, HCC.out, HG.out⟩
    | true =>
      obtain ⟨x, i3, h3, x0, x9, _, li3, CB⟩ := below_det A cap zs i2 h2 li2 (n : Int)
      have x9 := x9 (by omega)
      have HCB := Lib.hid CB; clear CB
      obtain ⟨q, rfl⟩ := Int.eq_ofNat_of_zero_le x0
      have hqn : q < n := by omega
      obtain ⟨pk, i4, h4, hpk, li4, CP⟩ := pickint_det A cap zs i3 h3 li3 [16383, -16383, 16384, 5000] (by decide) (by decide)
      have HCP := Lib.hid CP; clear CP
      go_wp2_with fail
      refine (HCB.out _ _ G2.out).mono ?_
      rintro e w3 ⟨rfl, hC3, hg3⟩
      have O3 := Lib.hid (World.ownsRow.kept O2.out hg3 (own_far O2.out hgw))
      have G3 := Lib.hid hC3; have Q3 := Lib.hid (Q2.out.trans hg3); clear hC3 hg3
      have G3a := Lib.hid (G3.out.alloc (.cells #[.int .i64 16383, .int .i64 (-16383), .int .i64 16384, .int .i64 5000] 3))
      have Q3a := Lib.hid (grown_alloc Q3.out (.cells #[.int .i64 16383, .int .i64 (-16383), .int .i64 16384, .int .i64 5000] 3))
      have O3a := Lib.hid (O3.out.alloc (.cells #[.int .i64 16383, .int .i64 (-16383), .int .i64 16384, .int .i64 5000] 3))
      have hne : w3.heap.size ≠ g := by have := G3.out.lt; omega
      go_wp2_with fail
      refine (HCP.out _ _ w3.heap.size G3a.out (heap_alloc_new w3 _) hne).mono ?_
      rintro e w4 ⟨rfl, hC4, hg4⟩
      have o4 := World.ownsRow.kept O3a.out hg4 (own_far O3a.out hgw)
      have O4a := Lib.hid o4
      have G4a := Lib.hid hC4; have Q4a := Lib.hid (Q3a.out.trans hg4); clear hC4 hg4
      obtain ⟨y, hy⟩ : ∃ y, y = [16383, -16383, 16384, (5000 : Int)].getD pk 0 := ⟨_, rfl⟩
      rw [← hy]
      clear hy
      obtain ⟨v0, hcell⟩ : ∃ b0 : Int, w4.cell? ⟨b, q, none⟩ = some (.int .i64 b0) := ⟨_, (o4.cellAt q (by omega)).trans (ivs_at l q (by rw [HN.out]; exact hqn))⟩
      have hz := o4.frozenAt q
      have s1 := o4.stored q (.int .i64 y)
      rw [ivs_set] at s1
      have O4 := Lib.hid s1.1
      have Q4 := Lib.hid (grown_new Q4a.out hbw q (.int .i64 y))
      have G4 := Lib.hid (cursor_new G4a.out (Nat.lt_of_lt_of_le hgw hbw) q (.int .i64 y))
      have HN4 : Hid ((l.set q y).length = n) := Lib.hid (by rw [List.length_set]; exact HN.out)
      clear s1 o4
      obtain ⟨bz, j4, e4, l4z, CZ⟩ := once_det A cap zs i4 h4 li4 4
      have HCZ := Lib.hid CZ; clear CZ
      go_wp2_with fail
      refine (HCZ.out _ _ G4.out).mono ?_
      rintro e wz ⟨rfl, hCz, hgz⟩
      have OZ := Lib.hid (World.ownsRow.kept O4.out hgz (own_far O4.out hgw))
      have GZ := Lib.hid hCz; have QZ := Lib.hid (Q4.out.trans hgz); clear hCz hgz
      cases bz with
      | false =>
        obtain ⟨A3, c3, hv3, ho3⟩ := own_slice OZ.out
        rw [HN4.out] at hv3
        obtain ⟨rfl, -, rfl⟩ := Value.slice.inj hv3
        have O3 := Lib.hid ho3
        clear ho3 hv3
        go_wp2
        go_ret
        exact ⟨l.set q y, _, _, j4, e4, congrArg Ending.returned (congrArg (fun n => Value.slice _ n _) HN4.out.symm), by rw [HN4.out]; omega, O3.out, l4z, GZ.out, QZ.out⟩
      | true =>
        go_wp2
        go_loopw [4] (fun i wr => ∃ (j : Nat) (p : List Int), 3 ≤ j ∧ i = .int .i64 j ∧ p.length = n ∧ j ≤ 67 ∧ wr.ownsRow w.heap.size 3 1 (.slice (some ⟨b, 0, none⟩) n c1) n (ivs p) ∧ Cursor wr g A cap zs j4 e4 ∧ w.grownBy wr (some g))
          (fun i _ => 68 - (intOf i).toNat)
        case atStart => exact ⟨3, l.set q y, Nat.le_refl _, rfl, HN4.out, by omega, OZ.out, GZ.out, QZ.out⟩
        case round =>
          obtain ⟨j, p, hj3, rfl, hp, hj67, hown, hC, hg⟩ := hrel
          have HP := Lib.hid hp; have HO := Lib.hid hown; have HCC := Lib.hid hC; have HG := Lib.hid hg
          clear hp hC hg
          by_cases hlt : j < n
          · obtain ⟨v0, hcell⟩ : ∃ b0 : Int, wr.cell? ⟨b, j, none⟩ = some (.int .i64 b0) := ⟨_, (hown.cellAt j (by omega)).trans (ivs_at p j (by rw [HP.out]; exact hlt))⟩
            have hz := hown.frozenAt j
            have s1 := hown.stored j (.int .i64 0)
            rw [ivs_set] at s1
            have S1 := Lib.hid s1.1
            have S2 := Lib.hid (grown_new HG.out hbw j (.int .i64 0))
            have S3 := Lib.hid (cursor_new HCC.out (Nat.lt_of_lt_of_le hgw hbw) j (.int .i64 0))
            clear s1 hown
            go_wp2
            go_roundw
            case rel => exact ⟨j + 1, p.set j 0, by omega, by go_num, by rw [List.length_set]; exact HP.out, by omega, S1.out, S3.out, S2.out⟩
            case measure => simp [intOf]; omega
          · have hf : decide ((j : Int) < (n : Int)) = false := by simp; omega
            obtain ⟨A3, c3, hv3, ho3⟩ := own_slice HO.out
            rw [HP.out] at hv3
            obtain ⟨rfl, -, rfl⟩ := Value.slice.inj hv3
            have O3 := Lib.hid ho3
            clear ho3 hv3 hown
            go_wp2
            go_ret
            exact ⟨p, _, _, j4, e4, congrArg Ending.returned (congrArg (fun n => Value.slice _ n _) HP.out.symm), by rw [HP.out]; omega, O3.out, l4z, HCC.out, HG.out⟩
end Go.Proofs.YtgccphidnbfcaaaDoor
