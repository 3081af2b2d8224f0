/-
  Contracts of chapter 10's draws. Condition: the input is no longer than 1048576 bytes.
-/
import Derived.Test.YtgihpckibdnghaaRunD
import Derived.Test.YtgihpckibdnghaaDw
import Derived.Deep.Cut
import Derived.Deep.DeepCutAuto
import Derived.Deep.RegionLaw
namespace Go.Proofs.Ytgihpckibdnghaa
open Go.RowKit
set_option linter.unusedVariables false

theorem l10levels_dw (A : Option Addr) (cap : Nat) (zs : List Int) (w0 w : World) (g : Nat) (h : Dw g A cap zs w0 w) :
    Calls Try.prog 39 #[.pointer (some ⟨g, 0, none⟩)] w fun e w' => ∃ (l : List Int) (A' : Option Addr) (c : Nat), e = .returned (.slice A' l.length c) ∧ l.length ≤ 64 ∧ OwnI w' w.heap.size A' c l ∧ Dw g A cap zs w0 w' ∧ w.grownBy w' (some g) := by
  obtain ⟨i, x, hC, hg⟩ := h
  refine (l10levels_ex A cap zs i x hC.le w g hC).mono ?_
  rintro e w' ⟨l, A', c, i', h', rfl, hl, hO, li, hC', hg'⟩
  exact ⟨l, A', c, rfl, hl, hO, ⟨_, _, hC', hg.trans hg'⟩, hg'⟩

set_option maxRecDepth 100000 in
set_option maxHeartbeats 1000000 in
theorem drawpairsof_ex (A : Option Addr) (cap : Nat) (zs : List Int) (w : World) (hW : Code w A zs) :
    Calls Try.prog 11 #[.slice A zs.length cap] w fun e w' => ∃ (l : List Int) (A' : Option Addr) (c : Nat), e = .returned (.slice A' l.length c) ∧ l.length ≤ 64 ∧ Ints w' w'.heap.size A' l ∧ Below w.heap.size w w' := by
  have HN := Lib.hid (new_ex A cap zs w hW)
  have HL := Lib.hid fun w0 w g h => l10levels_dw A cap zs w0 w g h
  clear hW
  go_enter Try.func11, Try.ntmps11
  go_wp2_with fail
  refine HN.out.mono ?_
  rintro e w1 ⟨rfl, hD1, hb1⟩
  have B1 := Lib.hid hb1; have D1 := Lib.hid hD1; clear hb1 hD1
  go_wp2_with fail
  refine (HL.out _ _ _ D1.out).mono ?_
  rintro e w2 ⟨l, A2, c2, rfl, hl, hO, hD2, hg2⟩
  have B2 := Lib.hid (B1.out.trans (hD2.belowOf (Nat.le_refl _) B1.out.size))
  have I2 := Lib.hid (hO.ints (by omega))
  clear hO hD2 hg2
  go_wp2
  go_ret
  exact ⟨l, A2, c2, rfl, hl, I2.out, B2.out⟩

theorem own_pair_cells {w : World} {base b m c : Nat} {ps : EntL} (h : w.ownsRow base 50 2 (.slice (some ⟨b, 0, none⟩) m c) m (ivs (els ps))) (hm : ps.length = m) (k : Nat) (hk : k < m) :
    w.cell? ⟨b, k * 2, none⟩ = some (.int .i64 (entAt ps k).1) ∧ w.cell? ⟨b, k * 2 + 1, none⟩ = some (.int .i64 (entAt ps k).2) ∧ w.frozen? ⟨b, k * 2, none⟩ = false ∧ w.frozen? ⟨b, k * 2 + 1, none⟩ = false := by
  have hl := els_len ps
  have e1 := ivs_at (els ps) (k * 2) (by omega)
  have e2 := ivs_at (els ps) (k * 2 + 1) (by omega)
  rw [els_fst] at e1
  rw [els_snd] at e2
  exact ⟨(h.cellAt (k * 2) (by omega)).trans e1, (h.cellAt (k * 2 + 1) (by omega)).trans e2, h.frozenAt _, h.frozenAt _⟩
theorem own_pair_set {w : World} {base b m c : Nat} {ps : EntL} (h : w.ownsRow base 50 2 (.slice (some ⟨b, 0, none⟩) m c) m (ivs (els ps))) (k : Nat) (x y : Int) :
    ((w.setCell ⟨b, k * 2, none⟩ (.int .i64 x)).setCell ⟨b, k * 2 + 1, none⟩ (.int .i64 y)).ownsRow base 50 2 (.slice (some ⟨b, 0, none⟩) m c) m (ivs (els (ps.set k (x, y)))) := by
  have s2 := ((h.stored (k * 2) (.int .i64 x)).1.stored (k * 2 + 1) (.int .i64 y)).1
  rw [ivs_set, ivs_set, els_set] at s2
  exact s2

set_option maxRecDepth 100000 in
set_option maxHeartbeats 4000000 in
theorem drawlevelsfrom_ex (A : Option Addr) (cap : Nat) (zs : List Int) (w : World) (hW : Code w A zs) :
    Calls Try.prog 16 #[.slice A zs.length cap] w fun e w' => ∃ (y : EntL) (A' : Option Addr) (c : Nat) (n : Int), e = .returned (.tuple #[.slice A' y.length c, .int .i64 n]) ∧ y.length ≤ 64 ∧ Ents w' w'.heap.size A' y ∧ Below w.heap.size w w' := by
  have HN := Lib.hid (new_ex A cap zs w hW)
  have HL := Lib.hid fun w0 w g h => l10levels_dw A cap zs w0 w g h
  have OC := Lib.hid once_ex; have BC := Lib.hid below_ex
  have PN := Lib.hid (pick_ex [0, 15, 64, 16] (by decide) (by decide))
  have SP := Lib.hid @spec_pairsof_any
  clear hW
  go_enter Try.func16, Try.ntmps16
  go_wp2_with fail
  refine HN.out.mono ?_
  rintro e w1 ⟨rfl, hD1, hb1⟩
  have hgw : w.heap.size < w1.heap.size := hD1.lt
  have B1 := Lib.hid hb1; have D1 := Lib.hid hD1; clear hb1 hD1
  go_wp2_with fail
  refine (HL.out _ _ _ D1.out).mono ?_
  rintro e w2 ⟨l, A2, c2, rfl, hl64, hO, hD2, hg2⟩
  have I2 := Lib.hid (hO.ints (by omega)); have D2 := Lib.hid hD2; clear hO hD2 hg2
  go_wp2_with fail
  refine (SP.out _ _ _ _ I2.out).mono ?_
  rintro e w3 ⟨A3, c3, rfl, ho3, hb3⟩
  have D3 := Lib.hid (D2.out.below hb3)
  have hp64 := prR_len l
  obtain ⟨ps, hps⟩ : ∃ ps, ps = prR l := ⟨_, rfl⟩
  rw [← hps] at ho3 hp64 ⊢
  obtain ⟨m, hm⟩ : ∃ m, m = ps.length := ⟨_, rfl⟩
  have O3 : Hid (w3.ownsRow w1.heap.size 50 2 (.slice A3 m c3) m (ivs (els ps))) := Lib.hid (by rw [hm]; exact own_lower ho3 D2.out.size)
  rw [← hm] at hp64 ⊢
  have hm64 := hp64
  have HM3 := Lib.hid hm.symm
  clear ho3 hb3 hps hm hp64
  by_cases h0 : m = 0
  · have hpos : decide ((0 : Int) < (m : Int)) = false := by simp; omega
    have hpos2 : ¬ 0 < m := by omega
    clear h0
    go_wp2_with fail
    refine (OC.out 12 _ _ _ _ _ _ D3.out).mono ?_
    rintro e wz ⟨bz, rfl, hDz, hgz⟩
    have OZ := Lib.hid (own_dw O3.out hgz hgw)
    have DZ := Lib.hid hDz; clear hDz hgz
    cases bz with
    | false =>
      obtain ⟨A9, c9, hv9, ho9⟩ := own_slice_pairs OZ.out HM3.out.symm
      rw [HM3.out] at hv9
      obtain ⟨rfl, -, rfl⟩ := Value.slice.inj hv9
      have E9 := Lib.hid (ho9.ents (by rw [HM3.out]; omega))
      have B9 := Lib.hid (B1.out.trans (DZ.out.belowOf (Nat.le_refl _) B1.out.size))
      clear ho9 hv9
      go_wp2
      go_ret2
      exact ⟨_, _, _, _, congrArg Ending.returned (congrArg (fun n => Value.tuple #[Value.slice _ n _, _]) HM3.out.symm), by rw [HM3.out]; exact hm64, E9.out, B9.out⟩
    | true =>
      have DZa := Lib.hid (DZ.out.alloc (.cells #[.int .i64 0, .int .i64 15, .int .i64 64, .int .i64 16] 3))
      have OZa := Lib.hid (OZ.out.alloc (.cells #[.int .i64 0, .int .i64 15, .int .i64 64, .int .i64 16] 3))
      have hnez : wz.heap.size ≠ w.heap.size := by have := DZ.out.lt; omega
      go_wp2_with fail
      refine (PN.out _ _ _ _ _ _ wz.heap.size DZa.out (heap_alloc_new wz _) hnez).mono ?_
      rintro e wy ⟨x, rfl, -, hDy, hgy⟩
      have OY := Lib.hid (own_dw OZa.out hgy hgw)
      have DY := Lib.hid hDy; clear hDy hgy
      obtain ⟨A9, c9, hv9, ho9⟩ := own_slice_pairs OY.out HM3.out.symm
      rw [HM3.out] at hv9
      obtain ⟨rfl, -, rfl⟩ := Value.slice.inj hv9
      have E9 := Lib.hid (ho9.ents (by rw [HM3.out]; omega))
      have B9 := Lib.hid (B1.out.trans (DY.out.belowOf (Nat.le_refl _) B1.out.size))
      clear ho9 hv9
      go_wp2
      go_ret2
      exact ⟨_, _, _, _, congrArg Ending.returned (congrArg (fun n => Value.tuple #[Value.slice _ n _, _]) HM3.out.symm), by rw [HM3.out]; exact hm64, E9.out, B9.out⟩
  · have hpos : decide ((0 : Int) < (m : Int)) = true := by simp; omega
    have hpos2 : 0 < m := by omega
    clear h0
    go_wp2_with fail
    refine (OC.out 4 _ _ _ _ _ _ D3.out).mono ?_
    rintro e w4 ⟨b4, rfl, hD4, hg4⟩
    have O4 := Lib.hid (own_dw O3.out hg4 hgw); have D4 := Lib.hid hD4; clear hD4 hg4
    have HM4 := HM3
    cases b4 with
    | false =>
      go_wp2_with fail
      refine (OC.out 12 _ _ _ _ _ _ D4.out).mono ?_
      rintro e wz ⟨bz, rfl, hDz, hgz⟩
      have OZ := Lib.hid (own_dw O4.out hgz hgw)
      have DZ := Lib.hid hDz; clear hDz hgz
      cases bz with
      | false =>
        obtain ⟨A9, c9, hv9, ho9⟩ := own_slice_pairs OZ.out HM4.out.symm
        rw [HM4.out] at hv9
        obtain ⟨rfl, -, rfl⟩ := Value.slice.inj hv9
        have E9 := Lib.hid (ho9.ents (by rw [HM4.out]; omega))
        have B9 := Lib.hid (B1.out.trans (DZ.out.belowOf (Nat.le_refl _) B1.out.size))
        clear ho9 hv9
        go_wp2
        go_ret2
        exact ⟨_, _, _, _, congrArg Ending.returned (congrArg (fun n => Value.tuple #[Value.slice _ n _, _]) HM4.out.symm), by rw [HM4.out]; exact hm64, E9.out, B9.out⟩
      | true =>
        have DZa := Lib.hid (DZ.out.alloc (.cells #[.int .i64 0, .int .i64 15, .int .i64 64, .int .i64 16] 3))
        have OZa := Lib.hid (OZ.out.alloc (.cells #[.int .i64 0, .int .i64 15, .int .i64 64, .int .i64 16] 3))
        have hnez : wz.heap.size ≠ w.heap.size := by have := DZ.out.lt; omega
        go_wp2_with fail
        refine (PN.out _ _ _ _ _ _ wz.heap.size DZa.out (heap_alloc_new wz _) hnez).mono ?_
        rintro e wy ⟨x, rfl, -, hDy, hgy⟩
        have OY := Lib.hid (own_dw OZa.out hgy hgw)
        have DY := Lib.hid hDy; clear hDy hgy
        obtain ⟨A9, c9, hv9, ho9⟩ := own_slice_pairs OY.out HM4.out.symm
        rw [HM4.out] at hv9
        obtain ⟨rfl, -, rfl⟩ := Value.slice.inj hv9
        have E9 := Lib.hid (ho9.ents (by rw [HM4.out]; omega))
        have B9 := Lib.hid (B1.out.trans (DY.out.belowOf (Nat.le_refl _) B1.out.size))
        clear ho9 hv9
        go_wp2
        go_ret2
        exact ⟨_, _, _, _, congrArg Ending.returned (congrArg (fun n => Value.tuple #[Value.slice _ n _, _]) HM4.out.symm), by rw [HM4.out]; exact hm64, E9.out, B9.out⟩
    | true =>
      obtain ⟨b, rfl, hbw, hb4⟩ := own_block O4.out (by omega)
      go_wp2_with fail
      refine (BC.out (m : Int) _ _ _ _ _ _ D4.out).mono ?_
      rintro e w5 ⟨k, rfl, hk1, -, hD5, hg5⟩
      have hkm : k < m := by have := hk1 (by omega); omega
      have O5 := Lib.hid (own_dw O4.out hg5 hgw); have D5 := Lib.hid hD5; clear hD5 hg5 hk1
      obtain ⟨c1, c2, -, -⟩ := own_pair_cells O5.out HM4.out k hkm
      obtain ⟨r, hr⟩ : ∃ r, r = (entAt ps k).1 := ⟨_, rfl⟩
      obtain ⟨v, hv⟩ : ∃ v, v = (entAt ps k).2 := ⟨_, rfl⟩
      rw [← hr] at c1
      rw [← hv] at c2
      have CC : Hid (∀ wx : World, wx.ownsRow w1.heap.size 50 2 (.slice (some ⟨b, 0, none⟩) m c3) m (ivs (els ps)) → wx.cell? ⟨b, k * 2, none⟩ = some (.int .i64 r) ∧ wx.cell? ⟨b, k * 2 + 1, none⟩ = some (.int .i64 v) ∧ wx.frozen? ⟨b, k * 2, none⟩ = false ∧ wx.frozen? ⟨b, k * 2 + 1, none⟩ = false) := Lib.hid (fun wx h => by rw [hr, hv]; exact own_pair_cells h HM4.out k hkm)
      obtain ⟨r1, hr1⟩ : ∃ r1, IntKind.i64.wrap (r + 1) = r1 := ⟨_, rfl⟩
      have P5 := Lib.hid (pick_ex [-1, 0, 15, 63, r1] (by simp) (by simp))
      have P4 := Lib.hid (pick_ex [0, 1, 16384, v] (by simp) (by simp))
      simp only [List.length_cons, List.length_nil, Nat.zero_add, Nat.reduceAdd] at P5 P4
      have n5 : w5.heap.size ≠ w.heap.size := by have := D5.out.lt; omega
      have HLT := Lib.hid D5.out.lt
      have hk0 : (0 : Int) ≤ (k : Int) := by omega
      have hk1 : (k : Int) < (m : Int) := by omega
      have hkt : (k : Int).toNat = k := Int.toNat_natCast k
      clear hr hv
      obtain ⟨d1, d2, -, -⟩ := CC.out _ (O5.out.alloc (.cells #[.int .i64 (-1), .int .i64 0, .int .i64 15, .int .i64 63, .int .i64 r1] 3))
      obtain ⟨d3, d4, -, -⟩ := CC.out _ (O5.out.alloc (.cells #[.int .i64 (-1), .int .i64 0, .int .i64 15, .int .i64 63, .int .i64 r1] 3)).drew
      obtain ⟨d5, d6, -, -⟩ := CC.out _ (O5.out.alloc (.cells #[.int .i64 0, .int .i64 1, .int .i64 16384, .int .i64 v] 3))
      obtain ⟨d7, d8, -, -⟩ := CC.out _ (O5.out.alloc (.cells #[.int .i64 0, .int .i64 1, .int .i64 16384, .int .i64 v] 3)).drew
      go_upto_region 6 with fail
      go_cut [44] (fun _ wx => ∃ ps' : EntL, ps'.length = m ∧ wx.ownsRow w1.heap.size 50 2 (.slice (some ⟨b, 0, none⟩) m c3) m (ivs (els ps')) ∧ Dw w.heap.size A cap zs w1 wx)
      case first =>
        go_region_law (first
          | (go_simp; go_at_call 48; (with_reducible refine (P5.out _ A cap zs w1 _ _ ?_ ?_ ?_).mono ?_); (focus (first | (with_reducible exact (D5.out.alloc _).drew) | (with_reducible exact ((D5.out.alloc _).alloc _).drew)));  (focus (first | (exact heap_alloc_new w5 (.cells #[.int .i64 (-1), .int .i64 0, .int .i64 15, .int .i64 63, .int .i64 r1] 3)) | (exact heap_keep' (heap_alloc_new w5 (.cells #[.int .i64 (-1), .int .i64 0, .int .i64 15, .int .i64 63, .int .i64 r1] 3)) (.cells #[.int .i64 0, .int .i64 1, .int .i64 16384, .int .i64 v] 3)) | (exact heap_alloc_second w5 (.cells #[.int .i64 0, .int .i64 1, .int .i64 16384, .int .i64 v] 3) (.cells #[.int .i64 (-1), .int .i64 0, .int .i64 15, .int .i64 63, .int .i64 r1] 3))));  (focus (first | (with_reducible exact n5) | (have := HLT.out; omega) | (have := HLT.out; simp; omega))); rintro e w6 ⟨x1, rfl, -, hD6, hg6⟩; have D6 := Lib.hid hD6; have O6 : Hid (w6.ownsRow w1.heap.size 50 2 (.slice (some ⟨b, 0, none⟩) m c3) m (ivs (els ps))) := Lib.hid (by first | (with_reducible exact own_dw (O5.out.alloc _).drew hg6 hgw) | (with_reducible exact own_dw ((O5.out.alloc _).alloc _).drew hg6 hgw)); obtain ⟨k1, k2, -, -⟩ := CC.out _ O6.out; have n6 : w6.heap.size ≠ w.heap.size := Nat.ne_of_gt hD6.lt; (try have K6 := Lib.hid (grown_at (w := ((w5.alloc (.cells #[.int .i64 (-1), .int .i64 0, .int .i64 15, .int .i64 63, .int .i64 r1] 3)).alloc (.cells #[.int .i64 0, .int .i64 1, .int .i64 16384, .int .i64 v] 3)).drew) (b := w5.heap.size + 1) (o := .cells #[.int .i64 0, .int .i64 1, .int .i64 16384, .int .i64 v] 3) (heap_alloc_second w5 (.cells #[.int .i64 (-1), .int .i64 0, .int .i64 15, .int .i64 63, .int .i64 r1] 3) (.cells #[.int .i64 0, .int .i64 1, .int .i64 16384, .int .i64 v] 3)) hg6 (by have := HLT.out; omega))); (try have K6 := Lib.hid (grown_at (w := ((w5.alloc (.cells #[.int .i64 0, .int .i64 1, .int .i64 16384, .int .i64 v] 3)).alloc (.cells #[.int .i64 (-1), .int .i64 0, .int .i64 15, .int .i64 63, .int .i64 r1] 3)).drew) (b := w5.heap.size) (o := .cells #[.int .i64 0, .int .i64 1, .int .i64 16384, .int .i64 v] 3) (heap_keep' (heap_alloc_new w5 (.cells #[.int .i64 0, .int .i64 1, .int .i64 16384, .int .i64 v] 3)) (.cells #[.int .i64 (-1), .int .i64 0, .int .i64 15, .int .i64 63, .int .i64 r1] 3)) hg6 n5)); clear hD6 hg6)
          | (go_simp; go_at_call 48; (with_reducible refine (P4.out _ A cap zs w1 _ _ ?_ ?_ ?_).mono ?_); (focus (first | (with_reducible exact D6.out) | (with_reducible exact D6.out.alloc _)));  (focus (first | (exact K6.out) | (exact heap_alloc_new w6 (.cells #[.int .i64 0, .int .i64 1, .int .i64 16384, .int .i64 v] 3))));  (focus (first | (with_reducible exact n6) | (with_reducible exact n5) | (have := HLT.out; omega) | (have := HLT.out; simp; omega))); rintro e w7 ⟨x2, rfl, -, hD7, hg7⟩; have D7 := Lib.hid hD7; have O7 : Hid (w7.ownsRow w1.heap.size 50 2 (.slice (some ⟨b, 0, none⟩) m c3) m (ivs (els ps))) := Lib.hid (by first | (with_reducible exact own_dw O6.out hg7 hgw) | (with_reducible exact own_dw (O6.out.alloc _) hg7 hgw)); obtain ⟨q1, q2, q3, q4⟩ := CC.out _ O7.out; clear hD7 hg7)
          | fail)
        all_goals go_wp2_with fail
        all_goals go_meet
        all_goals exact ⟨ps.set k (x1, x2), by rw [List.length_set]; exact HM4.out, own_pair_set O7.out k x1 x2, (D7.out.set hbw (Nat.lt_of_lt_of_le hgw hbw) _ _).set hbw (Nat.lt_of_lt_of_le hgw hbw) _ _⟩
      case rest =>
        obtain ⟨ps', hpl', hown', hD8⟩ := hcut
        have O8 := Lib.hid hown'; have D8 := Lib.hid hD8; have HM8 := Lib.hid hpl'; clear hpl' hown' hD8 c1 c2 d1 d2 d3 d4 d5 d6 d7 d8
        go_wp2_with fail
        refine (OC.out 12 _ _ _ _ _ _ D8.out).mono ?_
        rintro e wz ⟨bz, rfl, hDz, hgz⟩
        have OZ := Lib.hid (own_dw O8.out hgz hgw)
        have DZ := Lib.hid hDz; clear hDz hgz
        cases bz with
        | false =>
          obtain ⟨A9, c9, hv9, ho9⟩ := own_slice_pairs OZ.out HM8.out.symm
          rw [HM8.out] at hv9
          obtain ⟨rfl, -, rfl⟩ := Value.slice.inj hv9
          have E9 := Lib.hid (ho9.ents (by rw [HM8.out]; omega))
          have B9 := Lib.hid (B1.out.trans (DZ.out.belowOf (Nat.le_refl _) B1.out.size))
          clear ho9 hv9
          go_wp2
          go_ret2
          exact ⟨_, _, _, _, congrArg Ending.returned (congrArg (fun n => Value.tuple #[Value.slice _ n _, _]) HM8.out.symm), by rw [HM8.out]; exact hm64, E9.out, B9.out⟩
        | true =>
          have DZa := Lib.hid (DZ.out.alloc (.cells #[.int .i64 0, .int .i64 15, .int .i64 64, .int .i64 16] 3))
          have OZa := Lib.hid (OZ.out.alloc (.cells #[.int .i64 0, .int .i64 15, .int .i64 64, .int .i64 16] 3))
          have hnez : wz.heap.size ≠ w.heap.size := by have := DZ.out.lt; omega
          go_wp2_with fail
          refine (PN.out _ _ _ _ _ _ wz.heap.size DZa.out (heap_alloc_new wz _) hnez).mono ?_
          rintro e wy ⟨x, rfl, -, hDy, hgy⟩
          have OY := Lib.hid (own_dw OZa.out hgy hgw)
          have DY := Lib.hid hDy; clear hDy hgy
          obtain ⟨A9, c9, hv9, ho9⟩ := own_slice_pairs OY.out HM8.out.symm
          rw [HM8.out] at hv9
          obtain ⟨rfl, -, rfl⟩ := Value.slice.inj hv9
          have E9 := Lib.hid (ho9.ents (by rw [HM8.out]; omega))
          have B9 := Lib.hid (B1.out.trans (DY.out.belowOf (Nat.le_refl _) B1.out.size))
          clear ho9 hv9
          go_wp2
          go_ret2
          exact ⟨_, _, _, _, congrArg Ending.returned (congrArg (fun n => Value.tuple #[Value.slice _ n _, _]) HM8.out.symm), by rw [HM8.out]; exact hm64, E9.out, B9.out⟩
end Go.Proofs.Ytgihpckibdnghaa
