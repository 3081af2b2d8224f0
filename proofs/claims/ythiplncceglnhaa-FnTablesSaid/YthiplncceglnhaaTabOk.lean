/-
  Contracts of TableOk in both texts. No condition but those that each lemma states.
-/
import Derived.Test.YthiplncceglnhaaUeTab2
namespace Go.Proofs.Ythiplncceglnhaa
open Go.RowKit
set_option linter.unusedVariables false

set_option maxRecDepth 100000 in
set_option maxHeartbeats 1000000 in
/-- slices.Equal over entries. -/
theorem equal_ents (A B : Option Addr) (ca cb : Nat) (la lb : EntL) (w : World) (hA : Ents w w.heap.size A la) (hB : Ents w w.heap.size B lb) :
    Calls Try.prog 42 #[.slice A la.length ca, .slice B lb.length cb] w fun e w' => e = .returned (.bool (decide (la = lb))) ∧ Below w.heap.size w w' := by
  by_cases hne : la.length = lb.length
  · obtain ⟨n, hn⟩ : ∃ n, n = la.length := ⟨_, rfl⟩
    have hn2 : lb.length = n := by omega
    have hnm := hA.1
    rw [← hn] at hnm
    rw [hn2, ← hn]
    have HN := Lib.hid hn; clear hn hne
    have HN2 := Lib.hid hn2; clear hn2
    have HA := Lib.hid hA; clear hA
    have HB := Lib.hid hB; clear hB
    go_enter Try.func42, Try.ntmps42
    go_wp2
    go_loopw [13] (fun i wr => ∃ j : Nat, j ≤ n ∧ (∀ t, t < j → entAt la t = entAt lb t) ∧ i = .int .i64 j ∧ Below w.heap.size w wr)
      (fun i _ => n - (intOf i).toNat)
    case atStart => exact ⟨0, Nat.zero_le _, fun t ht => absurd ht (by omega), rfl, Below.refl _ _⟩
    case round =>
      obtain ⟨j, hj, hpre, rfl, hbel⟩ := hrel
      have HE := Lib.hid hpre; clear hpre
      by_cases hlt : j < n
      · obtain ⟨ba, oa, rfl, ha1, ha2⟩ := HA.out.at j (by rw [← HN.out]; exact hlt)
        obtain ⟨bb, ob, rfl, hb1, hb2⟩ := HB.out.at j (by rw [HN2.out]; exact hlt)
        obtain ⟨c1, c2⟩ := ha2 j (by rw [← HN.out]; exact hlt)
        obtain ⟨c3, c4⟩ := hb2 j (by rw [HN2.out]; exact hlt)
        rw [← hbel.cell (p := ⟨ba, oa + j * 2, none⟩) ha1] at c1
        rw [← hbel.cell (p := ⟨ba, oa + j * 2 + 1, none⟩) ha1] at c2
        rw [← hbel.cell (p := ⟨bb, ob + j * 2, none⟩) hb1] at c3
        rw [← hbel.cell (p := ⟨bb, ob + j * 2 + 1, none⟩) hb1] at c4
        clear ha2 hb2
        obtain ⟨x, hx⟩ : ∃ x, x = entAt la j := ⟨_, rfl⟩
        obtain ⟨y, hy⟩ : ∃ y, y = entAt lb j := ⟨_, rfl⟩
        rw [← hx] at c1 c2
        rw [← hy] at c3 c4
        obtain ⟨x1, x2⟩ := x
        obtain ⟨y1, y2⟩ := y
        have HX := Lib.hid hx; clear hx
        have HY := Lib.hid hy; clear hy
        by_cases hxy : x1 = y1 ∧ x2 = y2
        · obtain ⟨rfl, rfl⟩ := hxy
          go_wp2
          go_region
          go_wp2
          go_roundw
          case rel =>
            refine ⟨j + 1, by omega, fun t ht => ?_, by go_num, hbel.drew⟩
            by_cases htj : t = j
            · subst htj; rw [← HX.out, ← HY.out]
            · exact HE.out t (by omega)
          case measure => simp [intOf]; omega
        · have HNE := Lib.hid hxy
          by_cases h1 : x1 = y1
          · subst h1
            have h2 : ¬ x2 = y2 := fun e => hxy ⟨rfl, e⟩
            have HNX := Lib.hid h2
            clear hxy
            go_wp2
            go_region
            go_wp2
            go_ret
            refine ⟨?_, hbel.drew⟩
            rw [decide_eq_false (fun e => HNX.out (Prod.mk.inj (HX.out.trans ((congrArg (fun l => entAt l j) e).trans HY.out.symm))).2)]
            rfl
          · clear hxy
            go_wp2
            go_region
            go_wp2
            go_ret
            refine ⟨?_, hbel.drew⟩
            rw [decide_eq_false (fun e => HNE.out (Prod.mk.inj (HX.out.trans ((congrArg (fun l => entAt l j) e).trans HY.out.symm))))]
            rfl
      · obtain rfl : j = n := by omega
        go_wp2
        go_ret
        refine ⟨?_, hbel⟩
        have e : la = lb := ents_ext _ _ (by rw [HN2.out, ← HN.out]) fun t h1 => HE.out t (by have := HN.out; omega)
        rw [decide_eq_true e]
        rfl
  · have hq : ((la.length : Int) != (lb.length : Int)) = true := by rw [bne_iff_ne]; omega
    have HNE := Lib.hid hne; clear hne
    go_enter Try.func42, Try.ntmps42
    go_wp2
    go_ret
    refine ⟨?_, Below.refl _ _⟩
    rw [decide_eq_false (fun e => HNE.out (by rw [e]))]
    rfl

set_option maxRecDepth 100000 in
set_option maxHeartbeats 1000000 in
theorem impl_tableok_any (A : Option Addr) (ca : Nat) (la : EntL) (w : World) (hA : Ents w w.heap.size A la) :
    Calls Try.prog 11 #[.slice A la.length ca] w fun e w' => e = .returned (.bool (decide (la = ueT))) ∧ Below w.heap.size w w' := by
  have HU := Lib.hid impl_uetable_any
  have HA := Lib.hid hA; clear hA
  go_enter Try.func11, Try.ntmps11
  go_wp2_with fail
  refine (HU.out _).mono ?_
  rintro e w1 ⟨A', cap', rfl, ho, hb⟩
  have hb0 := hb
  have hu := ho.ents (by rw [ueT_len]; decide)
  have HQ := Lib.hid (equal_ents A A' ca cap' la ueT w1 ((HA.out.below hb (Nat.le_refl _)).mono hb.size) hu)
  have HB := Lib.hid hb; clear hb hb0 ho hu
  go_wp2_with fail
  refine HQ.out.mono ?_
  rintro e w2 ⟨rfl, hb2⟩
  have HB2 := Lib.hid (below_up HB.out hb2 HB.out.size); clear hb2
  go_wp2
  go_ret
  exact ⟨rfl, HB2.out⟩

set_option maxRecDepth 100000 in
set_option maxHeartbeats 1000000 in
theorem spec_tableok_any (A : Option Addr) (ca : Nat) (la : EntL) (w : World) (hA : Ents w w.heap.size A la) :
    Calls Try.prog 12 #[.slice A la.length ca] w fun e w' => e = .returned (.bool (decide (la = ueT))) ∧ Below w.heap.size w w' := by
  have HU := Lib.hid spec_uetable_any
  obtain ⟨n, hn⟩ : ∃ n, n = la.length := ⟨_, rfl⟩
  have hnm := hA.1
  rw [← hn] at hnm ⊢
  have HN := Lib.hid hn; clear hn
  have HA := Lib.hid hA; clear hA
  obtain ⟨u, hu⟩ : ∃ u, u = ueT := ⟨_, rfl⟩
  have hul : u.length = 512 := by rw [hu, ueT_len]
  rw [← hu] at HU ⊢
  clear hu
  have HUL := Lib.hid hul; clear hul
  go_enter Try.func12, Try.ntmps12
  go_wp2_with fail
  refine (HU.out _).mono ?_
  rintro e w1 ⟨A', cap', rfl, ho, hb⟩
  rw [HUL.out]
  have HB := Lib.hid (ho.ents (by rw [HUL.out]; decide)); clear ho
  have HA1 := Lib.hid ((HA.out.below hb (Nat.le_refl _)).mono hb.size)
  have HW := Lib.hid hb; clear hb
  go_wp2
  go_loopw [4] (fun i wr => ∃ j : Nat, j ≤ n ∧ j ≤ 512 ∧ (∀ t, t < j → entAt la t = entAt u t) ∧ i = .int .i64 j ∧ Below w1.heap.size w1 wr)
    (fun i _ => 512 - (intOf i).toNat)
  case atStart => exact ⟨0, Nat.zero_le _, Nat.zero_le _, fun t ht => absurd ht (by omega), rfl, Below.refl _ _⟩
  case round =>
    obtain ⟨j, hj, hj2, hpre, rfl, hbel⟩ := hrel
    have HE := Lib.hid hpre; clear hpre
    by_cases hlt : j < n
    · by_cases hlt2 : j < 512
      · obtain ⟨ba, oa, rfl, ha1, ha2⟩ := HA1.out.at j (by rw [← HN.out]; exact hlt)
        obtain ⟨bb, ob, rfl, hb1, hb2⟩ := HB.out.at j (by rw [HUL.out]; exact hlt2)
        obtain ⟨c1, c2⟩ := ha2 j (by rw [← HN.out]; exact hlt)
        obtain ⟨c3, c4⟩ := hb2 j (by rw [HUL.out]; exact hlt2)
        rw [← hbel.cell (p := ⟨ba, oa + j * 2, none⟩) ha1] at c1
        rw [← hbel.cell (p := ⟨ba, oa + j * 2 + 1, none⟩) ha1] at c2
        rw [← hbel.cell (p := ⟨bb, ob + j * 2, none⟩) hb1] at c3
        rw [← hbel.cell (p := ⟨bb, ob + j * 2 + 1, none⟩) hb1] at c4
        clear ha2 hb2
        obtain ⟨x, hx⟩ : ∃ x, x = entAt la j := ⟨_, rfl⟩
        obtain ⟨y, hy⟩ : ∃ y, y = entAt u j := ⟨_, rfl⟩
        rw [← hx] at c1 c2
        rw [← hy] at c3 c4
        obtain ⟨x1, x2⟩ := x
        obtain ⟨y1, y2⟩ := y
        have HX := Lib.hid hx; clear hx
        have HY := Lib.hid hy; clear hy
        by_cases hxy : x1 = y1 ∧ x2 = y2
        · obtain ⟨rfl, rfl⟩ := hxy
          go_wp2
          go_region
          go_wp2
          go_roundw
          case rel =>
            refine ⟨j + 1, by omega, by omega, fun t ht => ?_, by go_num, hbel.drew⟩
            by_cases htj : t = j
            · subst htj; rw [← HX.out, ← HY.out]
            · exact HE.out t (by omega)
          case measure => simp [intOf]; omega
        · have HNE := Lib.hid hxy
          by_cases h1 : x1 = y1
          · subst h1
            have h2 : ¬ x2 = y2 := fun e => hxy ⟨rfl, e⟩
            have HNX := Lib.hid h2
            clear hxy
            go_wp2
            go_region
            go_wp2
            go_ret
            refine ⟨?_, below_up HW.out hbel.drew HW.out.size⟩
            rw [decide_eq_false (fun e => HNX.out (Prod.mk.inj (HX.out.trans ((congrArg (fun l => entAt l j) e).trans HY.out.symm))).2)]
            rfl
          · clear hxy
            go_wp2
            go_region
            go_wp2
            go_ret
            refine ⟨?_, below_up HW.out hbel.drew HW.out.size⟩
            rw [decide_eq_false (fun e => HNE.out (Prod.mk.inj (HX.out.trans ((congrArg (fun l => entAt l j) e).trans HY.out.symm))))]
            rfl
      · obtain rfl : j = 512 := by omega
        have hq : ((n : Int) == 512) = false := by rw [beq_eq_false_iff_ne]; omega
        have HW2 := Lib.hid (below_up HW.out hbel HW.out.size); clear hbel
        have HLT := Lib.hid hlt
        go_wp2
        go_ret
        refine ⟨?_, HW2.out⟩
        rw [decide_eq_false (fun e => by have h1 := HUL.out; have h2 := HN.out; have h3 := HLT.out; rw [← e] at h1; omega)]
        rfl
    · obtain rfl : j = n := by omega
      have HW2 := Lib.hid (below_up HW.out hbel HW.out.size); clear hbel
      by_cases h5 : j = 512
      · subst h5
        go_wp2
        go_ret
        refine ⟨?_, HW2.out⟩
        rw [decide_eq_true (ents_ext _ _ (by rw [← HN.out, HUL.out]) fun t h1 => HE.out t (by have := HN.out; omega))]
        rfl
      · have hq : ((j : Int) == 512) = false := by rw [beq_eq_false_iff_ne]; omega
        have H5 := Lib.hid h5; clear h5
        go_wp2
        go_ret
        refine ⟨?_, HW2.out⟩
        rw [decide_eq_false (fun e => by have h1 := HUL.out; have h2 := HN.out; have h3 := H5.out; rw [← e] at h1; omega)]
        rfl
end Go.Proofs.Ythiplncceglnhaa
