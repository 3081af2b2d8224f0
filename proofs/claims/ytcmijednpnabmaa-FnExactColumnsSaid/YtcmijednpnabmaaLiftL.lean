/-
  The walks of the laws of Lift4, Lift8, Columns, Fast4 and Fast8. No condition.
-/
import Derived.Test.YtcmijednpnabmaaLiftB
import Derived.Test.YtcmijednpnabmaaLiftE
import Derived.Test.YtcmijednpnabmaaLiftG
import Derived.Test.YtcmijednpnabmaaPut
namespace Go.Proofs.Ytcmijednpnabmaa
open Go.RowKit
set_option linter.unusedVariables false

set_option maxRecDepth 100000 in
set_option maxHeartbeats 2000000 in
/-- The law's own walk, by contracts of the two texts. -/
theorem fnExactLift4_walk (a_A : Option Addr) (len_A cap_A : Nat) (zs_A : List Int) (w : World) (hr_A : IsRow .i64 w a_A len_A cap_A zs_A) :
    Calls Try.prog 3 #[.slice a_A len_A cap_A] w fun e w' => e = .returned (.bool true) ∧ Below w.heap.size w w' := by
  have hlm_A := hr_A.len_le
  unfold maxLen at hlm_A
  by_cases hbig_A : 1048576 < len_A
  · go_enter Try.func3, Try.ntmps3
    go_wp2
    go_ret
    exact ⟨rfl, Below.refl _ _⟩
  · have hqb_A : decide (1048576 < (len_A : Int)) = false := by simp; omega
    obtain ⟨l_A, rfl, hI_A, _, _⟩ := ints_of hr_A (by omega)
    have R_A := Lib.hid hI_A; clear hI_A hr_A
    have hll_A : l_A.length ≤ 1048576 := by omega
    have hmk_A : decide ((1 : Int) + (l_A.length : Int) < 0) = false := by simp; omega
    clear hbig_A hlm_A
    have TO_ints := Lib.hid @toints_any
    have EQ_ints := Lib.hid @eqints_any
    have MARK_ints := Lib.hid @markints_any
    have HELD_ints := Lib.hid @heldints_any
    have SP := Lib.hid (fun A c w h => spec_lift4_any A c l_A w h)
    have IM := Lib.hid (fun A c w h => impl_lift4_any A c l_A w h)
    have hx0l := liR_len (n := 4) l_A (by decide)
    obtain ⟨x0, hx0⟩ : ∃ x, x = liR 4 l_A := ⟨_, rfl⟩
    rw [← hx0] at SP IM
    rw [← hx0] at hx0l
    have hm0 : decide ((1 : Int) + (x0.length : Int) < 0) = false := by simp; omega
    have hq0 : ((1 : Int) + (x0.length : Int) != 1 + (x0.length : Int)) = false := by simp
    clear hx0
    go_enter Try.func3, Try.ntmps3
    go_wp2_with fail
    refine (TO_ints.out _ _ _ (by omega) _ R_A.out).mono ?_
    rintro e w1 ⟨APA, cPA, rfl, ho, hb⟩
    have SPA_1 := Lib.hid hb.size
    have DPA : Hid (w.heap.size ≤ w.heap.size) := Lib.hid ((Below.refl w.heap.size w).size)
    have B1 := Lib.hid hb
    clear hb
    have PA_1 := Lib.hid ho; clear ho
    go_wp2_with fail
    refine (SP.out _ _ _ (PA_1.out.ints (by omega))).mono ?_
    rintro e w2 ⟨AY, cY, rfl, ho, hb⟩
    have SY_2 := Lib.hid (Nat.le_refl w2.heap.size)
    have PA_2 := Lib.hid (PA_1.out.kept hb (Nat.le_refl _))
    have SPA_2 := Lib.hid (Nat.le_trans SPA_1.out hb.size)
    have B2 := Lib.hid (below_up B1.out hb B1.out.size)
    clear hb PA_1 SPA_1
    have Y_2 := Lib.hid (ho.ints (by omega)); clear ho
    clear PA_2 SPA_2
    go_wp2_with fail
    refine (TO_ints.out _ _ _ (by omega) _ ((R_A.out.below B2.out (Nat.le_refl _)).mono B2.out.size)).mono ?_
    rintro e w3 ⟨AXA, cXA, rfl, ho, hb⟩
    have T_Y_XA := SY_2
    have SXA_3 := Lib.hid hb.size
    have DXA : Hid (w.heap.size ≤ w2.heap.size) := Lib.hid (B2.out.size)
    have Y_3 := Lib.hid (Y_2.out.below hb SY_2.out)
    have SY_3 := Lib.hid (Nat.le_trans SY_2.out hb.size)
    have B3 := Lib.hid (below_up B2.out hb B2.out.size)
    clear hb Y_2 SY_2
    have XA_3 := Lib.hid ho; clear ho
    go_wp2_with fail
    refine (IM.out _ _ _ (XA_3.out.ints (by omega))).mono ?_
    rintro e w4 ⟨AG, cG, rfl, ho, hb⟩
    have U_XA_G := Lib.hid (fun j hj => (XA_3.out.block j hj).2)
    have T_Y_G := SY_3
    have V_XA_G := SXA_3
    have DG : Hid (w.heap.size ≤ w3.heap.size) := Lib.hid (B3.out.size)
    have SG_4 := Lib.hid hb.size
    have XA_4 := Lib.hid (XA_3.out.kept hb (Nat.le_refl _))
    have SXA_4 := Lib.hid (Nat.le_trans SXA_3.out hb.size)
    have Y_4 := Lib.hid (Y_3.out.below hb SY_3.out)
    have SY_4 := Lib.hid (Nat.le_trans SY_3.out hb.size)
    have B4 := Lib.hid (below_up B3.out hb B3.out.size)
    clear hb XA_3 SXA_3 Y_3 SY_3
    have G_4 := Lib.hid ho; clear ho
    go_wp2_with fail
    refine (EQ_ints.out _ _ _ _ _ _ _ (G_4.out.ints (by omega)) (Y_4.out.mono SY_4.out)).mono ?_
    rintro e w5 ⟨rfl, hb⟩
    have XA_5 := Lib.hid (XA_4.out.kept hb (Nat.le_refl _))
    have SXA_5 := Lib.hid (Nat.le_trans SXA_4.out hb.size)
    have G_5 := Lib.hid (G_4.out.kept hb (Nat.le_refl _))
    have SG_5 := Lib.hid (Nat.le_trans SG_4.out hb.size)
    have Y_5 := Lib.hid (Y_4.out.below hb SY_4.out)
    have SY_5 := Lib.hid (Nat.le_trans SY_4.out hb.size)
    have B5 := Lib.hid (below_up B4.out hb B4.out.size)
    clear hb XA_4 SXA_4 G_4 SG_4 Y_4 SY_4
    go_wp2_with fail
    refine (TO_ints.out _ _ _ (by omega) _ ((R_A.out.below B5.out (Nat.le_refl _)).mono B5.out.size)).mono ?_
    rintro e w6 ⟨AQA, cQA, rfl, ho, hb⟩
    have U_XA_QA := Lib.hid (fun j hj => (XA_5.out.block j hj).2)
    have U_G_QA := Lib.hid (fun j hj => (G_5.out.block j hj).2)
    have T_Y_QA := SY_5
    have V_XA_QA := SXA_5
    have V_G_QA := SG_5
    have SQA_6 := Lib.hid hb.size
    have DQA : Hid (w.heap.size ≤ w5.heap.size) := Lib.hid (B5.out.size)
    have XA_6 := Lib.hid (XA_5.out.kept hb (Nat.le_refl _))
    have SXA_6 := Lib.hid (Nat.le_trans SXA_5.out hb.size)
    have G_6 := Lib.hid (G_5.out.kept hb (Nat.le_refl _))
    have SG_6 := Lib.hid (Nat.le_trans SG_5.out hb.size)
    have Y_6 := Lib.hid (Y_5.out.below hb SY_5.out)
    have SY_6 := Lib.hid (Nat.le_trans SY_5.out hb.size)
    have B6 := Lib.hid (below_up B5.out hb B5.out.size)
    clear hb XA_5 SXA_5 G_5 SG_5 Y_5 SY_5
    have QA_6 := Lib.hid ho; clear ho
    go_wp2_with fail
    refine (EQ_ints.out _ _ _ _ _ _ _ (XA_6.out.ints (by omega)) (QA_6.out.ints (by omega))).mono ?_
    rintro e w7 ⟨rfl, hb⟩
    have XA_7 := Lib.hid (XA_6.out.kept hb (Nat.le_refl _))
    have SXA_7 := Lib.hid (Nat.le_trans SXA_6.out hb.size)
    have G_7 := Lib.hid (G_6.out.kept hb (Nat.le_refl _))
    have SG_7 := Lib.hid (Nat.le_trans SG_6.out hb.size)
    have QA_7 := Lib.hid (QA_6.out.kept hb (Nat.le_refl _))
    have SQA_7 := Lib.hid (Nat.le_trans SQA_6.out hb.size)
    have Y_7 := Lib.hid (Y_6.out.below hb SY_6.out)
    have SY_7 := Lib.hid (Nat.le_trans SY_6.out hb.size)
    have B7 := Lib.hid (below_up B6.out hb B6.out.size)
    clear hb XA_6 SXA_6 G_6 SG_6 QA_6 SQA_6 Y_6 SY_6
    clear QA_7 SQA_7
    go_wp2_with fail
    refine (MARK_ints.out _ _ _ _ _ (by omega) (by omega) (by omega) _ XA_7.out).mono ?_
    rintro e w8 ⟨rfl, ho, hg⟩
    have G_8 := Lib.hid (G_7.out.other hg U_XA_G.out)
    have SG_8 := Lib.hid (Nat.le_trans SG_7.out hg.size)
    have Y_8 := Lib.hid (Y_7.out.grown hg SY_7.out fun j hj => Nat.le_trans T_Y_XA.out (XA_7.out.block j hj).1)
    have SY_8 := Lib.hid (Nat.le_trans SY_7.out hg.size)
    have B8 := Lib.hid (B7.out.trans (XA_7.out.marked hg (B := w.heap.size) DXA.out B7.out.size))
    clear ho hg XA_7 SXA_7 G_7 SG_7 Y_7 SY_7
    go_wp2_with fail
    refine (EQ_ints.out _ _ _ _ _ _ _ (G_8.out.ints (by omega)) (Y_8.out.mono SY_8.out)).mono ?_
    rintro e w9 ⟨rfl, hb⟩
    have G_9 := Lib.hid (G_8.out.kept hb (Nat.le_refl _))
    have SG_9 := Lib.hid (Nat.le_trans SG_8.out hb.size)
    have Y_9 := Lib.hid (Y_8.out.below hb SY_8.out)
    have SY_9 := Lib.hid (Nat.le_trans SY_8.out hb.size)
    have B9 := Lib.hid (below_up B8.out hb B8.out.size)
    clear hb G_8 SG_8 Y_8 SY_8
    go_wp2_with fail
    refine (MARK_ints.out _ _ _ _ _ (by omega) (by omega) (by omega) _ G_9.out).mono ?_
    rintro e w10 ⟨rfl, ho, hg⟩
    have Y_10 := Lib.hid (Y_9.out.grown hg SY_9.out fun j hj => Nat.le_trans T_Y_G.out (G_9.out.block j hj).1)
    have SY_10 := Lib.hid (Nat.le_trans SY_9.out hg.size)
    have B10 := Lib.hid (B9.out.trans (G_9.out.marked hg (B := w.heap.size) DG.out B9.out.size))
    have Gm_10 := Lib.hid (ho.ints (by rw [markL_len]; omega))
    have SGm_10 := Lib.hid (Nat.le_refl w10.heap.size)
    clear ho hg G_9 SG_9 Y_9 SY_9
    go_wp2_with fail
    refine (HELD_ints.out _ _ _ _ (by omega) (by omega) _ (Gm_10.out.mono SGm_10.out)).mono ?_
    rintro e w11 ⟨rfl, hb⟩
    have Y_11 := Lib.hid (Y_10.out.below hb SY_10.out)
    have SY_11 := Lib.hid (Nat.le_trans SY_10.out hb.size)
    have Gm_11 := Lib.hid (Gm_10.out.below hb SGm_10.out)
    have SGm_11 := Lib.hid (Nat.le_trans SGm_10.out hb.size)
    have B11 := Lib.hid (below_up B10.out hb B10.out.size)
    clear hb Y_10 SY_10 Gm_10 SGm_10
    go_wp2_with fail
    refine (TO_ints.out _ _ _ (by omega) _ ((R_A.out.below B11.out (Nat.le_refl _)).mono B11.out.size)).mono ?_
    rintro e w12 ⟨AZA, cZA, rfl, ho, hb⟩
    have T_Y_ZA := SY_11
    have T_Gm_ZA := SGm_11
    have SZA_12 := Lib.hid hb.size
    have DZA : Hid (w.heap.size ≤ w11.heap.size) := Lib.hid (B11.out.size)
    have Y_12 := Lib.hid (Y_11.out.below hb SY_11.out)
    have SY_12 := Lib.hid (Nat.le_trans SY_11.out hb.size)
    have Gm_12 := Lib.hid (Gm_11.out.below hb SGm_11.out)
    have SGm_12 := Lib.hid (Nat.le_trans SGm_11.out hb.size)
    have B12 := Lib.hid (below_up B11.out hb B11.out.size)
    clear hb Y_11 SY_11 Gm_11 SGm_11
    have ZA_12 := Lib.hid ho; clear ho
    go_wp2_with fail
    refine (IM.out _ _ _ (ZA_12.out.ints (by omega))).mono ?_
    rintro e w13 ⟨AH, cH, rfl, ho, hb⟩
    have SH_13 := Lib.hid (Nat.le_refl w13.heap.size)
    have ZA_13 := Lib.hid (ZA_12.out.kept hb (Nat.le_refl _))
    have SZA_13 := Lib.hid (Nat.le_trans SZA_12.out hb.size)
    have Y_13 := Lib.hid (Y_12.out.below hb SY_12.out)
    have SY_13 := Lib.hid (Nat.le_trans SY_12.out hb.size)
    have Gm_13 := Lib.hid (Gm_12.out.below hb SGm_12.out)
    have SGm_13 := Lib.hid (Nat.le_trans SGm_12.out hb.size)
    have B13 := Lib.hid (below_up B12.out hb B12.out.size)
    clear hb ZA_12 SZA_12 Y_12 SY_12 Gm_12 SGm_12
    have H_13 := Lib.hid (ho.ints (by omega)); clear ho
    clear ZA_13 SZA_13
    go_wp2_with fail
    refine (EQ_ints.out _ _ _ _ _ _ _ (H_13.out.mono SH_13.out) (Y_13.out.mono SY_13.out)).mono ?_
    rintro e w14 ⟨rfl, hb⟩
    have Y_14 := Lib.hid (Y_13.out.below hb SY_13.out)
    have SY_14 := Lib.hid (Nat.le_trans SY_13.out hb.size)
    have Gm_14 := Lib.hid (Gm_13.out.below hb SGm_13.out)
    have SGm_14 := Lib.hid (Nat.le_trans SGm_13.out hb.size)
    have H_14 := Lib.hid (H_13.out.below hb SH_13.out)
    have SH_14 := Lib.hid (Nat.le_trans SH_13.out hb.size)
    have B14 := Lib.hid (below_up B13.out hb B13.out.size)
    clear hb Y_13 SY_13 Gm_13 SGm_13 H_13 SH_13
    clear H_14 SH_14
    clear Y_14 SY_14
    go_wp2_with fail
    refine (HELD_ints.out _ _ _ _ (by omega) (by omega) _ (Gm_14.out.mono SGm_14.out)).mono ?_
    rintro e w15 ⟨rfl, hb⟩
    have Gm_15 := Lib.hid (Gm_14.out.below hb SGm_14.out)
    have SGm_15 := Lib.hid (Nat.le_trans SGm_14.out hb.size)
    have B15 := Lib.hid (below_up B14.out hb B14.out.size)
    clear hb Gm_14 SGm_14
    go_wp2
    go_ret
    exact ⟨rfl, B15.out⟩


set_option maxRecDepth 100000 in
set_option maxHeartbeats 2000000 in
/-- The law's own walk, by contracts of the two texts. -/
theorem fnExactLift8_walk (a_A : Option Addr) (len_A cap_A : Nat) (zs_A : List Int) (w : World) (hr_A : IsRow .i64 w a_A len_A cap_A zs_A) :
    Calls Try.prog 4 #[.slice a_A len_A cap_A] w fun e w' => e = .returned (.bool true) ∧ Below w.heap.size w w' := by
  have hlm_A := hr_A.len_le
  unfold maxLen at hlm_A
  by_cases hbig_A : 1048576 < len_A
  · go_enter Try.func4, Try.ntmps4
    go_wp2
    go_ret
    exact ⟨rfl, Below.refl _ _⟩
  · have hqb_A : decide (1048576 < (len_A : Int)) = false := by simp; omega
    obtain ⟨l_A, rfl, hI_A, _, _⟩ := ints_of hr_A (by omega)
    have R_A := Lib.hid hI_A; clear hI_A hr_A
    have hll_A : l_A.length ≤ 1048576 := by omega
    have hmk_A : decide ((1 : Int) + (l_A.length : Int) < 0) = false := by simp; omega
    clear hbig_A hlm_A
    have TO_ints := Lib.hid @toints_any
    have EQ_ints := Lib.hid @eqints_any
    have MARK_ints := Lib.hid @markints_any
    have HELD_ints := Lib.hid @heldints_any
    have SP := Lib.hid (fun A c w h => spec_lift8_any A c l_A w h)
    have IM := Lib.hid (fun A c w h => impl_lift8_any A c l_A w h)
    have hx0l := liR_len (n := 8) l_A (by decide)
    obtain ⟨x0, hx0⟩ : ∃ x, x = liR 8 l_A := ⟨_, rfl⟩
    rw [← hx0] at SP IM
    rw [← hx0] at hx0l
    have hm0 : decide ((1 : Int) + (x0.length : Int) < 0) = false := by simp; omega
    have hq0 : ((1 : Int) + (x0.length : Int) != 1 + (x0.length : Int)) = false := by simp
    clear hx0
    go_enter Try.func4, Try.ntmps4
    go_wp2_with fail
    refine (TO_ints.out _ _ _ (by omega) _ R_A.out).mono ?_
    rintro e w1 ⟨APA, cPA, rfl, ho, hb⟩
    have SPA_1 := Lib.hid hb.size
    have DPA : Hid (w.heap.size ≤ w.heap.size) := Lib.hid ((Below.refl w.heap.size w).size)
    have B1 := Lib.hid hb
    clear hb
    have PA_1 := Lib.hid ho; clear ho
    go_wp2_with fail
    refine (SP.out _ _ _ (PA_1.out.ints (by omega))).mono ?_
    rintro e w2 ⟨AY, cY, rfl, ho, hb⟩
    have SY_2 := Lib.hid (Nat.le_refl w2.heap.size)
    have PA_2 := Lib.hid (PA_1.out.kept hb (Nat.le_refl _))
    have SPA_2 := Lib.hid (Nat.le_trans SPA_1.out hb.size)
    have B2 := Lib.hid (below_up B1.out hb B1.out.size)
    clear hb PA_1 SPA_1
    have Y_2 := Lib.hid (ho.ints (by omega)); clear ho
    clear PA_2 SPA_2
    go_wp2_with fail
    refine (TO_ints.out _ _ _ (by omega) _ ((R_A.out.below B2.out (Nat.le_refl _)).mono B2.out.size)).mono ?_
    rintro e w3 ⟨AXA, cXA, rfl, ho, hb⟩
    have T_Y_XA := SY_2
    have SXA_3 := Lib.hid hb.size
    have DXA : Hid (w.heap.size ≤ w2.heap.size) := Lib.hid (B2.out.size)
    have Y_3 := Lib.hid (Y_2.out.below hb SY_2.out)
    have SY_3 := Lib.hid (Nat.le_trans SY_2.out hb.size)
    have B3 := Lib.hid (below_up B2.out hb B2.out.size)
    clear hb Y_2 SY_2
    have XA_3 := Lib.hid ho; clear ho
    go_wp2_with fail
    refine (IM.out _ _ _ (XA_3.out.ints (by omega))).mono ?_
    rintro e w4 ⟨AG, cG, rfl, ho, hb⟩
    have U_XA_G := Lib.hid (fun j hj => (XA_3.out.block j hj).2)
    have T_Y_G := SY_3
    have V_XA_G := SXA_3
    have DG : Hid (w.heap.size ≤ w3.heap.size) := Lib.hid (B3.out.size)
    have SG_4 := Lib.hid hb.size
    have XA_4 := Lib.hid (XA_3.out.kept hb (Nat.le_refl _))
    have SXA_4 := Lib.hid (Nat.le_trans SXA_3.out hb.size)
    have Y_4 := Lib.hid (Y_3.out.below hb SY_3.out)
    have SY_4 := Lib.hid (Nat.le_trans SY_3.out hb.size)
    have B4 := Lib.hid (below_up B3.out hb B3.out.size)
    clear hb XA_3 SXA_3 Y_3 SY_3
    have G_4 := Lib.hid ho; clear ho
    go_wp2_with fail
    refine (EQ_ints.out _ _ _ _ _ _ _ (G_4.out.ints (by omega)) (Y_4.out.mono SY_4.out)).mono ?_
    rintro e w5 ⟨rfl, hb⟩
    have XA_5 := Lib.hid (XA_4.out.kept hb (Nat.le_refl _))
    have SXA_5 := Lib.hid (Nat.le_trans SXA_4.out hb.size)
    have G_5 := Lib.hid (G_4.out.kept hb (Nat.le_refl _))
    have SG_5 := Lib.hid (Nat.le_trans SG_4.out hb.size)
    have Y_5 := Lib.hid (Y_4.out.below hb SY_4.out)
    have SY_5 := Lib.hid (Nat.le_trans SY_4.out hb.size)
    have B5 := Lib.hid (below_up B4.out hb B4.out.size)
    clear hb XA_4 SXA_4 G_4 SG_4 Y_4 SY_4
    go_wp2_with fail
    refine (TO_ints.out _ _ _ (by omega) _ ((R_A.out.below B5.out (Nat.le_refl _)).mono B5.out.size)).mono ?_
    rintro e w6 ⟨AQA, cQA, rfl, ho, hb⟩
    have U_XA_QA := Lib.hid (fun j hj => (XA_5.out.block j hj).2)
    have U_G_QA := Lib.hid (fun j hj => (G_5.out.block j hj).2)
    have T_Y_QA := SY_5
    have V_XA_QA := SXA_5
    have V_G_QA := SG_5
    have SQA_6 := Lib.hid hb.size
    have DQA : Hid (w.heap.size ≤ w5.heap.size) := Lib.hid (B5.out.size)
    have XA_6 := Lib.hid (XA_5.out.kept hb (Nat.le_refl _))
    have SXA_6 := Lib.hid (Nat.le_trans SXA_5.out hb.size)
    have G_6 := Lib.hid (G_5.out.kept hb (Nat.le_refl _))
    have SG_6 := Lib.hid (Nat.le_trans SG_5.out hb.size)
    have Y_6 := Lib.hid (Y_5.out.below hb SY_5.out)
    have SY_6 := Lib.hid (Nat.le_trans SY_5.out hb.size)
    have B6 := Lib.hid (below_up B5.out hb B5.out.size)
    clear hb XA_5 SXA_5 G_5 SG_5 Y_5 SY_5
    have QA_6 := Lib.hid ho; clear ho
    go_wp2_with fail
    refine (EQ_ints.out _ _ _ _ _ _ _ (XA_6.out.ints (by omega)) (QA_6.out.ints (by omega))).mono ?_
    rintro e w7 ⟨rfl, hb⟩
    have XA_7 := Lib.hid (XA_6.out.kept hb (Nat.le_refl _))
    have SXA_7 := Lib.hid (Nat.le_trans SXA_6.out hb.size)
    have G_7 := Lib.hid (G_6.out.kept hb (Nat.le_refl _))
    have SG_7 := Lib.hid (Nat.le_trans SG_6.out hb.size)
    have QA_7 := Lib.hid (QA_6.out.kept hb (Nat.le_refl _))
    have SQA_7 := Lib.hid (Nat.le_trans SQA_6.out hb.size)
    have Y_7 := Lib.hid (Y_6.out.below hb SY_6.out)
    have SY_7 := Lib.hid (Nat.le_trans SY_6.out hb.size)
    have B7 := Lib.hid (below_up B6.out hb B6.out.size)
    clear hb XA_6 SXA_6 G_6 SG_6 QA_6 SQA_6 Y_6 SY_6
    clear QA_7 SQA_7
    go_wp2_with fail
    refine (MARK_ints.out _ _ _ _ _ (by omega) (by omega) (by omega) _ XA_7.out).mono ?_
    rintro e w8 ⟨rfl, ho, hg⟩
    have G_8 := Lib.hid (G_7.out.other hg U_XA_G.out)
    have SG_8 := Lib.hid (Nat.le_trans SG_7.out hg.size)
    have Y_8 := Lib.hid (Y_7.out.grown hg SY_7.out fun j hj => Nat.le_trans T_Y_XA.out (XA_7.out.block j hj).1)
    have SY_8 := Lib.hid (Nat.le_trans SY_7.out hg.size)
    have B8 := Lib.hid (B7.out.trans (XA_7.out.marked hg (B := w.heap.size) DXA.out B7.out.size))
    clear ho hg XA_7 SXA_7 G_7 SG_7 Y_7 SY_7
    go_wp2_with fail
    refine (EQ_ints.out _ _ _ _ _ _ _ (G_8.out.ints (by omega)) (Y_8.out.mono SY_8.out)).mono ?_
    rintro e w9 ⟨rfl, hb⟩
    have G_9 := Lib.hid (G_8.out.kept hb (Nat.le_refl _))
    have SG_9 := Lib.hid (Nat.le_trans SG_8.out hb.size)
    have Y_9 := Lib.hid (Y_8.out.below hb SY_8.out)
    have SY_9 := Lib.hid (Nat.le_trans SY_8.out hb.size)
    have B9 := Lib.hid (below_up B8.out hb B8.out.size)
    clear hb G_8 SG_8 Y_8 SY_8
    go_wp2_with fail
    refine (MARK_ints.out _ _ _ _ _ (by omega) (by omega) (by omega) _ G_9.out).mono ?_
    rintro e w10 ⟨rfl, ho, hg⟩
    have Y_10 := Lib.hid (Y_9.out.grown hg SY_9.out fun j hj => Nat.le_trans T_Y_G.out (G_9.out.block j hj).1)
    have SY_10 := Lib.hid (Nat.le_trans SY_9.out hg.size)
    have B10 := Lib.hid (B9.out.trans (G_9.out.marked hg (B := w.heap.size) DG.out B9.out.size))
    have Gm_10 := Lib.hid (ho.ints (by rw [markL_len]; omega))
    have SGm_10 := Lib.hid (Nat.le_refl w10.heap.size)
    clear ho hg G_9 SG_9 Y_9 SY_9
    go_wp2_with fail
    refine (HELD_ints.out _ _ _ _ (by omega) (by omega) _ (Gm_10.out.mono SGm_10.out)).mono ?_
    rintro e w11 ⟨rfl, hb⟩
    have Y_11 := Lib.hid (Y_10.out.below hb SY_10.out)
    have SY_11 := Lib.hid (Nat.le_trans SY_10.out hb.size)
    have Gm_11 := Lib.hid (Gm_10.out.below hb SGm_10.out)
    have SGm_11 := Lib.hid (Nat.le_trans SGm_10.out hb.size)
    have B11 := Lib.hid (below_up B10.out hb B10.out.size)
    clear hb Y_10 SY_10 Gm_10 SGm_10
    go_wp2_with fail
    refine (TO_ints.out _ _ _ (by omega) _ ((R_A.out.below B11.out (Nat.le_refl _)).mono B11.out.size)).mono ?_
    rintro e w12 ⟨AZA, cZA, rfl, ho, hb⟩
    have T_Y_ZA := SY_11
    have T_Gm_ZA := SGm_11
    have SZA_12 := Lib.hid hb.size
    have DZA : Hid (w.heap.size ≤ w11.heap.size) := Lib.hid (B11.out.size)
    have Y_12 := Lib.hid (Y_11.out.below hb SY_11.out)
    have SY_12 := Lib.hid (Nat.le_trans SY_11.out hb.size)
    have Gm_12 := Lib.hid (Gm_11.out.below hb SGm_11.out)
    have SGm_12 := Lib.hid (Nat.le_trans SGm_11.out hb.size)
    have B12 := Lib.hid (below_up B11.out hb B11.out.size)
    clear hb Y_11 SY_11 Gm_11 SGm_11
    have ZA_12 := Lib.hid ho; clear ho
    go_wp2_with fail
    refine (IM.out _ _ _ (ZA_12.out.ints (by omega))).mono ?_
    rintro e w13 ⟨AH, cH, rfl, ho, hb⟩
    have SH_13 := Lib.hid (Nat.le_refl w13.heap.size)
    have ZA_13 := Lib.hid (ZA_12.out.kept hb (Nat.le_refl _))
    have SZA_13 := Lib.hid (Nat.le_trans SZA_12.out hb.size)
    have Y_13 := Lib.hid (Y_12.out.below hb SY_12.out)
    have SY_13 := Lib.hid (Nat.le_trans SY_12.out hb.size)
    have Gm_13 := Lib.hid (Gm_12.out.below hb SGm_12.out)
    have SGm_13 := Lib.hid (Nat.le_trans SGm_12.out hb.size)
    have B13 := Lib.hid (below_up B12.out hb B12.out.size)
    clear hb ZA_12 SZA_12 Y_12 SY_12 Gm_12 SGm_12
    have H_13 := Lib.hid (ho.ints (by omega)); clear ho
    clear ZA_13 SZA_13
    go_wp2_with fail
    refine (EQ_ints.out _ _ _ _ _ _ _ (H_13.out.mono SH_13.out) (Y_13.out.mono SY_13.out)).mono ?_
    rintro e w14 ⟨rfl, hb⟩
    have Y_14 := Lib.hid (Y_13.out.below hb SY_13.out)
    have SY_14 := Lib.hid (Nat.le_trans SY_13.out hb.size)
    have Gm_14 := Lib.hid (Gm_13.out.below hb SGm_13.out)
    have SGm_14 := Lib.hid (Nat.le_trans SGm_13.out hb.size)
    have H_14 := Lib.hid (H_13.out.below hb SH_13.out)
    have SH_14 := Lib.hid (Nat.le_trans SH_13.out hb.size)
    have B14 := Lib.hid (below_up B13.out hb B13.out.size)
    clear hb Y_13 SY_13 Gm_13 SGm_13 H_13 SH_13
    clear H_14 SH_14
    clear Y_14 SY_14
    go_wp2_with fail
    refine (HELD_ints.out _ _ _ _ (by omega) (by omega) _ (Gm_14.out.mono SGm_14.out)).mono ?_
    rintro e w15 ⟨rfl, hb⟩
    have Gm_15 := Lib.hid (Gm_14.out.below hb SGm_14.out)
    have SGm_15 := Lib.hid (Nat.le_trans SGm_14.out hb.size)
    have B15 := Lib.hid (below_up B14.out hb B14.out.size)
    clear hb Gm_14 SGm_14
    go_wp2
    go_ret
    exact ⟨rfl, B15.out⟩


set_option maxRecDepth 100000 in
set_option maxHeartbeats 2000000 in
/-- The law's own walk, by contracts of the two texts. -/
theorem fnExactColumns_walk (a_L : Option Addr) (len_L cap_L : Nat) (zs_L : List Int) (w : World) (hr_L : IsRow .i64 w a_L len_L cap_L zs_L) :
    Calls Try.prog 5 #[.slice a_L len_L cap_L] w fun e w' => e = .returned (.bool true) ∧ Below w.heap.size w w' := by
  have hlm_L := hr_L.len_le
  unfold maxLen at hlm_L
  by_cases hbig_L : 1048576 < len_L
  · go_enter Try.func5, Try.ntmps5
    go_wp2
    go_ret
    exact ⟨rfl, Below.refl _ _⟩
  · have hqb_L : decide (1048576 < (len_L : Int)) = false := by simp; omega
    obtain ⟨l_L, rfl, hI_L, _, _⟩ := ints_of hr_L (by omega)
    have R_L := Lib.hid hI_L; clear hI_L hr_L
    have hll_L : l_L.length ≤ 1048576 := by omega
    have hmk_L : decide ((1 : Int) + (l_L.length : Int) < 0) = false := by simp; omega
    clear hbig_L hlm_L
    have TO_ints := Lib.hid @toints_any
    have EQ_ints := Lib.hid @eqints_any
    have MARK_ints := Lib.hid @markints_any
    have HELD_ints := Lib.hid @heldints_any
    have SP := Lib.hid (fun A c w h => spec_columns_any A c l_L w h)
    have IM := Lib.hid (fun A c w h => impl_columns_any A c l_L w h)
    have hx0l := clR_len l_L
    obtain ⟨x0, hx0⟩ : ∃ x, x = clR l_L := ⟨_, rfl⟩
    rw [← hx0] at SP IM
    rw [← hx0] at hx0l
    have hm0 : decide ((1 : Int) + (x0.length : Int) < 0) = false := by simp; omega
    have hq0 : ((1 : Int) + (x0.length : Int) != 1 + (x0.length : Int)) = false := by simp
    clear hx0
    go_enter Try.func5, Try.ntmps5
    go_wp2_with fail
    refine (TO_ints.out _ _ _ (by omega) _ R_L.out).mono ?_
    rintro e w1 ⟨APL, cPL, rfl, ho, hb⟩
    have SPL_1 := Lib.hid hb.size
    have DPL : Hid (w.heap.size ≤ w.heap.size) := Lib.hid ((Below.refl w.heap.size w).size)
    have B1 := Lib.hid hb
    clear hb
    have PL_1 := Lib.hid ho; clear ho
    go_wp2_with fail
    refine (SP.out _ _ _ (PL_1.out.ints (by omega))).mono ?_
    rintro e w2 ⟨AY, cY, rfl, ho, hb⟩
    have SY_2 := Lib.hid (Nat.le_refl w2.heap.size)
    have PL_2 := Lib.hid (PL_1.out.kept hb (Nat.le_refl _))
    have SPL_2 := Lib.hid (Nat.le_trans SPL_1.out hb.size)
    have B2 := Lib.hid (below_up B1.out hb B1.out.size)
    clear hb PL_1 SPL_1
    have Y_2 := Lib.hid (ho.ints (by omega)); clear ho
    clear PL_2 SPL_2
    go_wp2_with fail
    refine (TO_ints.out _ _ _ (by omega) _ ((R_L.out.below B2.out (Nat.le_refl _)).mono B2.out.size)).mono ?_
    rintro e w3 ⟨AXL, cXL, rfl, ho, hb⟩
    have T_Y_XL := SY_2
    have SXL_3 := Lib.hid hb.size
    have DXL : Hid (w.heap.size ≤ w2.heap.size) := Lib.hid (B2.out.size)
    have Y_3 := Lib.hid (Y_2.out.below hb SY_2.out)
    have SY_3 := Lib.hid (Nat.le_trans SY_2.out hb.size)
    have B3 := Lib.hid (below_up B2.out hb B2.out.size)
    clear hb Y_2 SY_2
    have XL_3 := Lib.hid ho; clear ho
    go_wp2_with fail
    refine (IM.out _ _ _ (XL_3.out.ints (by omega))).mono ?_
    rintro e w4 ⟨AG, cG, rfl, ho, hb⟩
    have U_XL_G := Lib.hid (fun j hj => (XL_3.out.block j hj).2)
    have T_Y_G := SY_3
    have V_XL_G := SXL_3
    have DG : Hid (w.heap.size ≤ w3.heap.size) := Lib.hid (B3.out.size)
    have SG_4 := Lib.hid hb.size
    have XL_4 := Lib.hid (XL_3.out.kept hb (Nat.le_refl _))
    have SXL_4 := Lib.hid (Nat.le_trans SXL_3.out hb.size)
    have Y_4 := Lib.hid (Y_3.out.below hb SY_3.out)
    have SY_4 := Lib.hid (Nat.le_trans SY_3.out hb.size)
    have B4 := Lib.hid (below_up B3.out hb B3.out.size)
    clear hb XL_3 SXL_3 Y_3 SY_3
    have G_4 := Lib.hid ho; clear ho
    go_wp2_with fail
    refine (EQ_ints.out _ _ _ _ _ _ _ (G_4.out.ints (by omega)) (Y_4.out.mono SY_4.out)).mono ?_
    rintro e w5 ⟨rfl, hb⟩
    have XL_5 := Lib.hid (XL_4.out.kept hb (Nat.le_refl _))
    have SXL_5 := Lib.hid (Nat.le_trans SXL_4.out hb.size)
    have G_5 := Lib.hid (G_4.out.kept hb (Nat.le_refl _))
    have SG_5 := Lib.hid (Nat.le_trans SG_4.out hb.size)
    have Y_5 := Lib.hid (Y_4.out.below hb SY_4.out)
    have SY_5 := Lib.hid (Nat.le_trans SY_4.out hb.size)
    have B5 := Lib.hid (below_up B4.out hb B4.out.size)
    clear hb XL_4 SXL_4 G_4 SG_4 Y_4 SY_4
    go_wp2_with fail
    refine (TO_ints.out _ _ _ (by omega) _ ((R_L.out.below B5.out (Nat.le_refl _)).mono B5.out.size)).mono ?_
    rintro e w6 ⟨AQL, cQL, rfl, ho, hb⟩
    have U_XL_QL := Lib.hid (fun j hj => (XL_5.out.block j hj).2)
    have U_G_QL := Lib.hid (fun j hj => (G_5.out.block j hj).2)
    have T_Y_QL := SY_5
    have V_XL_QL := SXL_5
    have V_G_QL := SG_5
    have SQL_6 := Lib.hid hb.size
    have DQL : Hid (w.heap.size ≤ w5.heap.size) := Lib.hid (B5.out.size)
    have XL_6 := Lib.hid (XL_5.out.kept hb (Nat.le_refl _))
    have SXL_6 := Lib.hid (Nat.le_trans SXL_5.out hb.size)
    have G_6 := Lib.hid (G_5.out.kept hb (Nat.le_refl _))
    have SG_6 := Lib.hid (Nat.le_trans SG_5.out hb.size)
    have Y_6 := Lib.hid (Y_5.out.below hb SY_5.out)
    have SY_6 := Lib.hid (Nat.le_trans SY_5.out hb.size)
    have B6 := Lib.hid (below_up B5.out hb B5.out.size)
    clear hb XL_5 SXL_5 G_5 SG_5 Y_5 SY_5
    have QL_6 := Lib.hid ho; clear ho
    go_wp2_with fail
    refine (EQ_ints.out _ _ _ _ _ _ _ (XL_6.out.ints (by omega)) (QL_6.out.ints (by omega))).mono ?_
    rintro e w7 ⟨rfl, hb⟩
    have XL_7 := Lib.hid (XL_6.out.kept hb (Nat.le_refl _))
    have SXL_7 := Lib.hid (Nat.le_trans SXL_6.out hb.size)
    have G_7 := Lib.hid (G_6.out.kept hb (Nat.le_refl _))
    have SG_7 := Lib.hid (Nat.le_trans SG_6.out hb.size)
    have QL_7 := Lib.hid (QL_6.out.kept hb (Nat.le_refl _))
    have SQL_7 := Lib.hid (Nat.le_trans SQL_6.out hb.size)
    have Y_7 := Lib.hid (Y_6.out.below hb SY_6.out)
    have SY_7 := Lib.hid (Nat.le_trans SY_6.out hb.size)
    have B7 := Lib.hid (below_up B6.out hb B6.out.size)
    clear hb XL_6 SXL_6 G_6 SG_6 QL_6 SQL_6 Y_6 SY_6
    clear QL_7 SQL_7
    go_wp2_with fail
    refine (MARK_ints.out _ _ _ _ _ (by omega) (by omega) (by omega) _ XL_7.out).mono ?_
    rintro e w8 ⟨rfl, ho, hg⟩
    have G_8 := Lib.hid (G_7.out.other hg U_XL_G.out)
    have SG_8 := Lib.hid (Nat.le_trans SG_7.out hg.size)
    have Y_8 := Lib.hid (Y_7.out.grown hg SY_7.out fun j hj => Nat.le_trans T_Y_XL.out (XL_7.out.block j hj).1)
    have SY_8 := Lib.hid (Nat.le_trans SY_7.out hg.size)
    have B8 := Lib.hid (B7.out.trans (XL_7.out.marked hg (B := w.heap.size) DXL.out B7.out.size))
    clear ho hg XL_7 SXL_7 G_7 SG_7 Y_7 SY_7
    go_wp2_with fail
    refine (EQ_ints.out _ _ _ _ _ _ _ (G_8.out.ints (by omega)) (Y_8.out.mono SY_8.out)).mono ?_
    rintro e w9 ⟨rfl, hb⟩
    have G_9 := Lib.hid (G_8.out.kept hb (Nat.le_refl _))
    have SG_9 := Lib.hid (Nat.le_trans SG_8.out hb.size)
    have Y_9 := Lib.hid (Y_8.out.below hb SY_8.out)
    have SY_9 := Lib.hid (Nat.le_trans SY_8.out hb.size)
    have B9 := Lib.hid (below_up B8.out hb B8.out.size)
    clear hb G_8 SG_8 Y_8 SY_8
    go_wp2_with fail
    refine (MARK_ints.out _ _ _ _ _ (by omega) (by omega) (by omega) _ G_9.out).mono ?_
    rintro e w10 ⟨rfl, ho, hg⟩
    have Y_10 := Lib.hid (Y_9.out.grown hg SY_9.out fun j hj => Nat.le_trans T_Y_G.out (G_9.out.block j hj).1)
    have SY_10 := Lib.hid (Nat.le_trans SY_9.out hg.size)
    have B10 := Lib.hid (B9.out.trans (G_9.out.marked hg (B := w.heap.size) DG.out B9.out.size))
    have Gm_10 := Lib.hid (ho.ints (by rw [markL_len]; omega))
    have SGm_10 := Lib.hid (Nat.le_refl w10.heap.size)
    clear ho hg G_9 SG_9 Y_9 SY_9
    go_wp2_with fail
    refine (HELD_ints.out _ _ _ _ (by omega) (by omega) _ (Gm_10.out.mono SGm_10.out)).mono ?_
    rintro e w11 ⟨rfl, hb⟩
    have Y_11 := Lib.hid (Y_10.out.below hb SY_10.out)
    have SY_11 := Lib.hid (Nat.le_trans SY_10.out hb.size)
    have Gm_11 := Lib.hid (Gm_10.out.below hb SGm_10.out)
    have SGm_11 := Lib.hid (Nat.le_trans SGm_10.out hb.size)
    have B11 := Lib.hid (below_up B10.out hb B10.out.size)
    clear hb Y_10 SY_10 Gm_10 SGm_10
    go_wp2_with fail
    refine (TO_ints.out _ _ _ (by omega) _ ((R_L.out.below B11.out (Nat.le_refl _)).mono B11.out.size)).mono ?_
    rintro e w12 ⟨AZL, cZL, rfl, ho, hb⟩
    have T_Y_ZL := SY_11
    have T_Gm_ZL := SGm_11
    have SZL_12 := Lib.hid hb.size
    have DZL : Hid (w.heap.size ≤ w11.heap.size) := Lib.hid (B11.out.size)
    have Y_12 := Lib.hid (Y_11.out.below hb SY_11.out)
    have SY_12 := Lib.hid (Nat.le_trans SY_11.out hb.size)
    have Gm_12 := Lib.hid (Gm_11.out.below hb SGm_11.out)
    have SGm_12 := Lib.hid (Nat.le_trans SGm_11.out hb.size)
    have B12 := Lib.hid (below_up B11.out hb B11.out.size)
    clear hb Y_11 SY_11 Gm_11 SGm_11
    have ZL_12 := Lib.hid ho; clear ho
    go_wp2_with fail
    refine (IM.out _ _ _ (ZL_12.out.ints (by omega))).mono ?_
    rintro e w13 ⟨AH, cH, rfl, ho, hb⟩
    have SH_13 := Lib.hid (Nat.le_refl w13.heap.size)
    have ZL_13 := Lib.hid (ZL_12.out.kept hb (Nat.le_refl _))
    have SZL_13 := Lib.hid (Nat.le_trans SZL_12.out hb.size)
    have Y_13 := Lib.hid (Y_12.out.below hb SY_12.out)
    have SY_13 := Lib.hid (Nat.le_trans SY_12.out hb.size)
    have Gm_13 := Lib.hid (Gm_12.out.below hb SGm_12.out)
    have SGm_13 := Lib.hid (Nat.le_trans SGm_12.out hb.size)
    have B13 := Lib.hid (below_up B12.out hb B12.out.size)
    clear hb ZL_12 SZL_12 Y_12 SY_12 Gm_12 SGm_12
    have H_13 := Lib.hid (ho.ints (by omega)); clear ho
    clear ZL_13 SZL_13
    go_wp2_with fail
    refine (EQ_ints.out _ _ _ _ _ _ _ (H_13.out.mono SH_13.out) (Y_13.out.mono SY_13.out)).mono ?_
    rintro e w14 ⟨rfl, hb⟩
    have Y_14 := Lib.hid (Y_13.out.below hb SY_13.out)
    have SY_14 := Lib.hid (Nat.le_trans SY_13.out hb.size)
    have Gm_14 := Lib.hid (Gm_13.out.below hb SGm_13.out)
    have SGm_14 := Lib.hid (Nat.le_trans SGm_13.out hb.size)
    have H_14 := Lib.hid (H_13.out.below hb SH_13.out)
    have SH_14 := Lib.hid (Nat.le_trans SH_13.out hb.size)
    have B14 := Lib.hid (below_up B13.out hb B13.out.size)
    clear hb Y_13 SY_13 Gm_13 SGm_13 H_13 SH_13
    clear H_14 SH_14
    clear Y_14 SY_14
    go_wp2_with fail
    refine (HELD_ints.out _ _ _ _ (by omega) (by omega) _ (Gm_14.out.mono SGm_14.out)).mono ?_
    rintro e w15 ⟨rfl, hb⟩
    have Gm_15 := Lib.hid (Gm_14.out.below hb SGm_14.out)
    have SGm_15 := Lib.hid (Nat.le_trans SGm_14.out hb.size)
    have B15 := Lib.hid (below_up B14.out hb B14.out.size)
    clear hb Gm_14 SGm_14
    go_wp2
    go_ret
    exact ⟨rfl, B15.out⟩


set_option maxRecDepth 100000 in
set_option maxHeartbeats 2000000 in
/-- The law's own walk, by contracts of the two texts. -/
theorem fnExactFast4_walk (a_L : Option Addr) (len_L cap_L : Nat) (zs_L : List Int) (w : World) (hr_L : IsRow .i64 w a_L len_L cap_L zs_L) :
    Calls Try.prog 6 #[.slice a_L len_L cap_L] w fun e w' => e = .returned (.bool true) ∧ Below w.heap.size w w' := by
  have hlm_L := hr_L.len_le
  unfold maxLen at hlm_L
  by_cases hbig_L : 1048576 < len_L
  · go_enter Try.func6, Try.ntmps6
    go_wp2
    go_ret
    exact ⟨rfl, Below.refl _ _⟩
  · have hqb_L : decide (1048576 < (len_L : Int)) = false := by simp; omega
    obtain ⟨l_L, rfl, hI_L, _, _⟩ := ints_of hr_L (by omega)
    have R_L := Lib.hid hI_L; clear hI_L hr_L
    have hll_L : l_L.length ≤ 1048576 := by omega
    have hmk_L : decide ((1 : Int) + (l_L.length : Int) < 0) = false := by simp; omega
    clear hbig_L hlm_L
    have TO_ints := Lib.hid @toints_any
    have EQ_ints := Lib.hid @eqints_any
    have MARK_ints := Lib.hid @markints_any
    have HELD_ints := Lib.hid @heldints_any
    have SP := Lib.hid (fun A c w h hc => spec_fast4_any A c l_L w h hc)
    have IM := Lib.hid (fun A c w h (hc : l_L.length ≤ c) => impl_fast4_any A c l_L w h)
    have hx0l := xfR_len (n := 4) true l_L (by decide)
    obtain ⟨x0, hx0⟩ : ∃ x, x = xfR 4 true l_L := ⟨_, rfl⟩
    rw [← hx0] at SP IM
    rw [← hx0] at hx0l
    have hm0 : decide ((1 : Int) + (x0.length : Int) < 0) = false := by simp; omega
    have hq0 : ((1 : Int) + (x0.length : Int) != 1 + (x0.length : Int)) = false := by simp
    clear hx0
    go_enter Try.func6, Try.ntmps6
    go_wp2_with fail
    refine (TO_ints.out _ _ _ (by omega) _ R_L.out).mono ?_
    rintro e w1 ⟨APL, cPL, rfl, ho, hb⟩
    have SPL_1 := Lib.hid hb.size
    have DPL : Hid (w.heap.size ≤ w.heap.size) := Lib.hid ((Below.refl w.heap.size w).size)
    have B1 := Lib.hid hb
    clear hb
    have PL_1 := Lib.hid ho; clear ho
    go_wp2_with fail
    refine (SP.out _ _ _ (PL_1.out.ints (by omega)) PL_1.out.cap_le).mono ?_
    rintro e w2 ⟨AY, cY, rfl, ho, hb⟩
    have SY_2 := Lib.hid (Nat.le_refl w2.heap.size)
    have PL_2 := Lib.hid (PL_1.out.kept hb (Nat.le_refl _))
    have SPL_2 := Lib.hid (Nat.le_trans SPL_1.out hb.size)
    have B2 := Lib.hid (below_up B1.out hb B1.out.size)
    clear hb PL_1 SPL_1
    have Y_2 := Lib.hid (ho.ints (by omega)); clear ho
    clear PL_2 SPL_2
    go_wp2_with fail
    refine (TO_ints.out _ _ _ (by omega) _ ((R_L.out.below B2.out (Nat.le_refl _)).mono B2.out.size)).mono ?_
    rintro e w3 ⟨AXL, cXL, rfl, ho, hb⟩
    have T_Y_XL := SY_2
    have SXL_3 := Lib.hid hb.size
    have DXL : Hid (w.heap.size ≤ w2.heap.size) := Lib.hid (B2.out.size)
    have Y_3 := Lib.hid (Y_2.out.below hb SY_2.out)
    have SY_3 := Lib.hid (Nat.le_trans SY_2.out hb.size)
    have B3 := Lib.hid (below_up B2.out hb B2.out.size)
    clear hb Y_2 SY_2
    have XL_3 := Lib.hid ho; clear ho
    go_wp2_with fail
    refine (IM.out _ _ _ (XL_3.out.ints (by omega)) XL_3.out.cap_le).mono ?_
    rintro e w4 ⟨AG, cG, rfl, ho, hb⟩
    have U_XL_G := Lib.hid (fun j hj => (XL_3.out.block j hj).2)
    have T_Y_G := SY_3
    have V_XL_G := SXL_3
    have DG : Hid (w.heap.size ≤ w3.heap.size) := Lib.hid (B3.out.size)
    have SG_4 := Lib.hid hb.size
    have XL_4 := Lib.hid (XL_3.out.kept hb (Nat.le_refl _))
    have SXL_4 := Lib.hid (Nat.le_trans SXL_3.out hb.size)
    have Y_4 := Lib.hid (Y_3.out.below hb SY_3.out)
    have SY_4 := Lib.hid (Nat.le_trans SY_3.out hb.size)
    have B4 := Lib.hid (below_up B3.out hb B3.out.size)
    clear hb XL_3 SXL_3 Y_3 SY_3
    have G_4 := Lib.hid ho; clear ho
    go_wp2_with fail
    refine (EQ_ints.out _ _ _ _ _ _ _ (G_4.out.ints (by omega)) (Y_4.out.mono SY_4.out)).mono ?_
    rintro e w5 ⟨rfl, hb⟩
    have XL_5 := Lib.hid (XL_4.out.kept hb (Nat.le_refl _))
    have SXL_5 := Lib.hid (Nat.le_trans SXL_4.out hb.size)
    have G_5 := Lib.hid (G_4.out.kept hb (Nat.le_refl _))
    have SG_5 := Lib.hid (Nat.le_trans SG_4.out hb.size)
    have Y_5 := Lib.hid (Y_4.out.below hb SY_4.out)
    have SY_5 := Lib.hid (Nat.le_trans SY_4.out hb.size)
    have B5 := Lib.hid (below_up B4.out hb B4.out.size)
    clear hb XL_4 SXL_4 G_4 SG_4 Y_4 SY_4
    go_wp2_with fail
    refine (TO_ints.out _ _ _ (by omega) _ ((R_L.out.below B5.out (Nat.le_refl _)).mono B5.out.size)).mono ?_
    rintro e w6 ⟨AQL, cQL, rfl, ho, hb⟩
    have U_XL_QL := Lib.hid (fun j hj => (XL_5.out.block j hj).2)
    have U_G_QL := Lib.hid (fun j hj => (G_5.out.block j hj).2)
    have T_Y_QL := SY_5
    have V_XL_QL := SXL_5
    have V_G_QL := SG_5
    have SQL_6 := Lib.hid hb.size
    have DQL : Hid (w.heap.size ≤ w5.heap.size) := Lib.hid (B5.out.size)
    have XL_6 := Lib.hid (XL_5.out.kept hb (Nat.le_refl _))
    have SXL_6 := Lib.hid (Nat.le_trans SXL_5.out hb.size)
    have G_6 := Lib.hid (G_5.out.kept hb (Nat.le_refl _))
    have SG_6 := Lib.hid (Nat.le_trans SG_5.out hb.size)
    have Y_6 := Lib.hid (Y_5.out.below hb SY_5.out)
    have SY_6 := Lib.hid (Nat.le_trans SY_5.out hb.size)
    have B6 := Lib.hid (below_up B5.out hb B5.out.size)
    clear hb XL_5 SXL_5 G_5 SG_5 Y_5 SY_5
    have QL_6 := Lib.hid ho; clear ho
    go_wp2_with fail
    refine (EQ_ints.out _ _ _ _ _ _ _ (XL_6.out.ints (by omega)) (QL_6.out.ints (by omega))).mono ?_
    rintro e w7 ⟨rfl, hb⟩
    have XL_7 := Lib.hid (XL_6.out.kept hb (Nat.le_refl _))
    have SXL_7 := Lib.hid (Nat.le_trans SXL_6.out hb.size)
    have G_7 := Lib.hid (G_6.out.kept hb (Nat.le_refl _))
    have SG_7 := Lib.hid (Nat.le_trans SG_6.out hb.size)
    have QL_7 := Lib.hid (QL_6.out.kept hb (Nat.le_refl _))
    have SQL_7 := Lib.hid (Nat.le_trans SQL_6.out hb.size)
    have Y_7 := Lib.hid (Y_6.out.below hb SY_6.out)
    have SY_7 := Lib.hid (Nat.le_trans SY_6.out hb.size)
    have B7 := Lib.hid (below_up B6.out hb B6.out.size)
    clear hb XL_6 SXL_6 G_6 SG_6 QL_6 SQL_6 Y_6 SY_6
    clear QL_7 SQL_7
    go_wp2_with fail
    refine (MARK_ints.out _ _ _ _ _ (by omega) (by omega) (by omega) _ XL_7.out).mono ?_
    rintro e w8 ⟨rfl, ho, hg⟩
    have G_8 := Lib.hid (G_7.out.other hg U_XL_G.out)
    have SG_8 := Lib.hid (Nat.le_trans SG_7.out hg.size)
    have Y_8 := Lib.hid (Y_7.out.grown hg SY_7.out fun j hj => Nat.le_trans T_Y_XL.out (XL_7.out.block j hj).1)
    have SY_8 := Lib.hid (Nat.le_trans SY_7.out hg.size)
    have B8 := Lib.hid (B7.out.trans (XL_7.out.marked hg (B := w.heap.size) DXL.out B7.out.size))
    clear ho hg XL_7 SXL_7 G_7 SG_7 Y_7 SY_7
    go_wp2_with fail
    refine (EQ_ints.out _ _ _ _ _ _ _ (G_8.out.ints (by omega)) (Y_8.out.mono SY_8.out)).mono ?_
    rintro e w9 ⟨rfl, hb⟩
    have G_9 := Lib.hid (G_8.out.kept hb (Nat.le_refl _))
    have SG_9 := Lib.hid (Nat.le_trans SG_8.out hb.size)
    have Y_9 := Lib.hid (Y_8.out.below hb SY_8.out)
    have SY_9 := Lib.hid (Nat.le_trans SY_8.out hb.size)
    have B9 := Lib.hid (below_up B8.out hb B8.out.size)
    clear hb G_8 SG_8 Y_8 SY_8
    go_wp2_with fail
    refine (MARK_ints.out _ _ _ _ _ (by omega) (by omega) (by omega) _ G_9.out).mono ?_
    rintro e w10 ⟨rfl, ho, hg⟩
    have Y_10 := Lib.hid (Y_9.out.grown hg SY_9.out fun j hj => Nat.le_trans T_Y_G.out (G_9.out.block j hj).1)
    have SY_10 := Lib.hid (Nat.le_trans SY_9.out hg.size)
    have B10 := Lib.hid (B9.out.trans (G_9.out.marked hg (B := w.heap.size) DG.out B9.out.size))
    have Gm_10 := Lib.hid (ho.ints (by rw [markL_len]; omega))
    have SGm_10 := Lib.hid (Nat.le_refl w10.heap.size)
    clear ho hg G_9 SG_9 Y_9 SY_9
    go_wp2_with fail
    refine (HELD_ints.out _ _ _ _ (by omega) (by omega) _ (Gm_10.out.mono SGm_10.out)).mono ?_
    rintro e w11 ⟨rfl, hb⟩
    have Y_11 := Lib.hid (Y_10.out.below hb SY_10.out)
    have SY_11 := Lib.hid (Nat.le_trans SY_10.out hb.size)
    have Gm_11 := Lib.hid (Gm_10.out.below hb SGm_10.out)
    have SGm_11 := Lib.hid (Nat.le_trans SGm_10.out hb.size)
    have B11 := Lib.hid (below_up B10.out hb B10.out.size)
    clear hb Y_10 SY_10 Gm_10 SGm_10
    go_wp2_with fail
    refine (TO_ints.out _ _ _ (by omega) _ ((R_L.out.below B11.out (Nat.le_refl _)).mono B11.out.size)).mono ?_
    rintro e w12 ⟨AZL, cZL, rfl, ho, hb⟩
    have T_Y_ZL := SY_11
    have T_Gm_ZL := SGm_11
    have SZL_12 := Lib.hid hb.size
    have DZL : Hid (w.heap.size ≤ w11.heap.size) := Lib.hid (B11.out.size)
    have Y_12 := Lib.hid (Y_11.out.below hb SY_11.out)
    have SY_12 := Lib.hid (Nat.le_trans SY_11.out hb.size)
    have Gm_12 := Lib.hid (Gm_11.out.below hb SGm_11.out)
    have SGm_12 := Lib.hid (Nat.le_trans SGm_11.out hb.size)
    have B12 := Lib.hid (below_up B11.out hb B11.out.size)
    clear hb Y_11 SY_11 Gm_11 SGm_11
    have ZL_12 := Lib.hid ho; clear ho
    go_wp2_with fail
    refine (IM.out _ _ _ (ZL_12.out.ints (by omega)) ZL_12.out.cap_le).mono ?_
    rintro e w13 ⟨AH, cH, rfl, ho, hb⟩
    have SH_13 := Lib.hid (Nat.le_refl w13.heap.size)
    have ZL_13 := Lib.hid (ZL_12.out.kept hb (Nat.le_refl _))
    have SZL_13 := Lib.hid (Nat.le_trans SZL_12.out hb.size)
    have Y_13 := Lib.hid (Y_12.out.below hb SY_12.out)
    have SY_13 := Lib.hid (Nat.le_trans SY_12.out hb.size)
    have Gm_13 := Lib.hid (Gm_12.out.below hb SGm_12.out)
    have SGm_13 := Lib.hid (Nat.le_trans SGm_12.out hb.size)
    have B13 := Lib.hid (below_up B12.out hb B12.out.size)
    clear hb ZL_12 SZL_12 Y_12 SY_12 Gm_12 SGm_12
    have H_13 := Lib.hid (ho.ints (by omega)); clear ho
    clear ZL_13 SZL_13
    go_wp2_with fail
    refine (EQ_ints.out _ _ _ _ _ _ _ (H_13.out.mono SH_13.out) (Y_13.out.mono SY_13.out)).mono ?_
    rintro e w14 ⟨rfl, hb⟩
    have Y_14 := Lib.hid (Y_13.out.below hb SY_13.out)
    have SY_14 := Lib.hid (Nat.le_trans SY_13.out hb.size)
    have Gm_14 := Lib.hid (Gm_13.out.below hb SGm_13.out)
    have SGm_14 := Lib.hid (Nat.le_trans SGm_13.out hb.size)
    have H_14 := Lib.hid (H_13.out.below hb SH_13.out)
    have SH_14 := Lib.hid (Nat.le_trans SH_13.out hb.size)
    have B14 := Lib.hid (below_up B13.out hb B13.out.size)
    clear hb Y_13 SY_13 Gm_13 SGm_13 H_13 SH_13
    clear H_14 SH_14
    clear Y_14 SY_14
    go_wp2_with fail
    refine (HELD_ints.out _ _ _ _ (by omega) (by omega) _ (Gm_14.out.mono SGm_14.out)).mono ?_
    rintro e w15 ⟨rfl, hb⟩
    have Gm_15 := Lib.hid (Gm_14.out.below hb SGm_14.out)
    have SGm_15 := Lib.hid (Nat.le_trans SGm_14.out hb.size)
    have B15 := Lib.hid (below_up B14.out hb B14.out.size)
    clear hb Gm_14 SGm_14
    go_wp2
    go_ret
    exact ⟨rfl, B15.out⟩


set_option maxRecDepth 100000 in
set_option maxHeartbeats 2000000 in
/-- The law's own walk, by contracts of the two texts. -/
theorem fnExactFast8_walk (a_L : Option Addr) (len_L cap_L : Nat) (zs_L : List Int) (w : World) (hr_L : IsRow .i64 w a_L len_L cap_L zs_L) :
    Calls Try.prog 7 #[.slice a_L len_L cap_L] w fun e w' => e = .returned (.bool true) ∧ Below w.heap.size w w' := by
  have hlm_L := hr_L.len_le
  unfold maxLen at hlm_L
  by_cases hbig_L : 1048576 < len_L
  · go_enter Try.func7, Try.ntmps7
    go_wp2
    go_ret
    exact ⟨rfl, Below.refl _ _⟩
  · have hqb_L : decide (1048576 < (len_L : Int)) = false := by simp; omega
    obtain ⟨l_L, rfl, hI_L, _, _⟩ := ints_of hr_L (by omega)
    have R_L := Lib.hid hI_L; clear hI_L hr_L
    have hll_L : l_L.length ≤ 1048576 := by omega
    have hmk_L : decide ((1 : Int) + (l_L.length : Int) < 0) = false := by simp; omega
    clear hbig_L hlm_L
    have TO_ints := Lib.hid @toints_any
    have EQ_ints := Lib.hid @eqints_any
    have MARK_ints := Lib.hid @markints_any
    have HELD_ints := Lib.hid @heldints_any
    have SP := Lib.hid (fun A c w h hc => spec_fast8_any A c l_L w h hc)
    have IM := Lib.hid (fun A c w h (hc : l_L.length ≤ c) => impl_fast8_any A c l_L w h)
    have hx0l := xfR_len (n := 8) true l_L (by decide)
    obtain ⟨x0, hx0⟩ : ∃ x, x = xfR 8 true l_L := ⟨_, rfl⟩
    rw [← hx0] at SP IM
    rw [← hx0] at hx0l
    have hm0 : decide ((1 : Int) + (x0.length : Int) < 0) = false := by simp; omega
    have hq0 : ((1 : Int) + (x0.length : Int) != 1 + (x0.length : Int)) = false := by simp
    clear hx0
    go_enter Try.func7, Try.ntmps7
    go_wp2_with fail
    refine (TO_ints.out _ _ _ (by omega) _ R_L.out).mono ?_
    rintro e w1 ⟨APL, cPL, rfl, ho, hb⟩
    have SPL_1 := Lib.hid hb.size
    have DPL : Hid (w.heap.size ≤ w.heap.size) := Lib.hid ((Below.refl w.heap.size w).size)
    have B1 := Lib.hid hb
    clear hb
    have PL_1 := Lib.hid ho; clear ho
    go_wp2_with fail
    refine (SP.out _ _ _ (PL_1.out.ints (by omega)) PL_1.out.cap_le).mono ?_
    rintro e w2 ⟨AY, cY, rfl, ho, hb⟩
    have SY_2 := Lib.hid (Nat.le_refl w2.heap.size)
    have PL_2 := Lib.hid (PL_1.out.kept hb (Nat.le_refl _))
    have SPL_2 := Lib.hid (Nat.le_trans SPL_1.out hb.size)
    have B2 := Lib.hid (below_up B1.out hb B1.out.size)
    clear hb PL_1 SPL_1
    have Y_2 := Lib.hid (ho.ints (by omega)); clear ho
    clear PL_2 SPL_2
    go_wp2_with fail
    refine (TO_ints.out _ _ _ (by omega) _ ((R_L.out.below B2.out (Nat.le_refl _)).mono B2.out.size)).mono ?_
    rintro e w3 ⟨AXL, cXL, rfl, ho, hb⟩
    have T_Y_XL := SY_2
    have SXL_3 := Lib.hid hb.size
    have DXL : Hid (w.heap.size ≤ w2.heap.size) := Lib.hid (B2.out.size)
    have Y_3 := Lib.hid (Y_2.out.below hb SY_2.out)
    have SY_3 := Lib.hid (Nat.le_trans SY_2.out hb.size)
    have B3 := Lib.hid (below_up B2.out hb B2.out.size)
    clear hb Y_2 SY_2
    have XL_3 := Lib.hid ho; clear ho
    go_wp2_with fail
    refine (IM.out _ _ _ (XL_3.out.ints (by omega)) XL_3.out.cap_le).mono ?_
    rintro e w4 ⟨AG, cG, rfl, ho, hb⟩
    have U_XL_G := Lib.hid (fun j hj => (XL_3.out.block j hj).2)
    have T_Y_G := SY_3
    have V_XL_G := SXL_3
    have DG : Hid (w.heap.size ≤ w3.heap.size) := Lib.hid (B3.out.size)
    have SG_4 := Lib.hid hb.size
    have XL_4 := Lib.hid (XL_3.out.kept hb (Nat.le_refl _))
    have SXL_4 := Lib.hid (Nat.le_trans SXL_3.out hb.size)
    have Y_4 := Lib.hid (Y_3.out.below hb SY_3.out)
    have SY_4 := Lib.hid (Nat.le_trans SY_3.out hb.size)
    have B4 := Lib.hid (below_up B3.out hb B3.out.size)
    clear hb XL_3 SXL_3 Y_3 SY_3
    have G_4 := Lib.hid ho; clear ho
    go_wp2_with fail
    refine (EQ_ints.out _ _ _ _ _ _ _ (G_4.out.ints (by omega)) (Y_4.out.mono SY_4.out)).mono ?_
    rintro e w5 ⟨rfl, hb⟩
    have XL_5 := Lib.hid (XL_4.out.kept hb (Nat.le_refl _))
    have SXL_5 := Lib.hid (Nat.le_trans SXL_4.out hb.size)
    have G_5 := Lib.hid (G_4.out.kept hb (Nat.le_refl _))
    have SG_5 := Lib.hid (Nat.le_trans SG_4.out hb.size)
    have Y_5 := Lib.hid (Y_4.out.below hb SY_4.out)
    have SY_5 := Lib.hid (Nat.le_trans SY_4.out hb.size)
    have B5 := Lib.hid (below_up B4.out hb B4.out.size)
    clear hb XL_4 SXL_4 G_4 SG_4 Y_4 SY_4
    go_wp2_with fail
    refine (TO_ints.out _ _ _ (by omega) _ ((R_L.out.below B5.out (Nat.le_refl _)).mono B5.out.size)).mono ?_
    rintro e w6 ⟨AQL, cQL, rfl, ho, hb⟩
    have U_XL_QL := Lib.hid (fun j hj => (XL_5.out.block j hj).2)
    have U_G_QL := Lib.hid (fun j hj => (G_5.out.block j hj).2)
    have T_Y_QL := SY_5
    have V_XL_QL := SXL_5
    have V_G_QL := SG_5
    have SQL_6 := Lib.hid hb.size
    have DQL : Hid (w.heap.size ≤ w5.heap.size) := Lib.hid (B5.out.size)
    have XL_6 := Lib.hid (XL_5.out.kept hb (Nat.le_refl _))
    have SXL_6 := Lib.hid (Nat.le_trans SXL_5.out hb.size)
    have G_6 := Lib.hid (G_5.out.kept hb (Nat.le_refl _))
    have SG_6 := Lib.hid (Nat.le_trans SG_5.out hb.size)
    have Y_6 := Lib.hid (Y_5.out.below hb SY_5.out)
    have SY_6 := Lib.hid (Nat.le_trans SY_5.out hb.size)
    have B6 := Lib.hid (below_up B5.out hb B5.out.size)
    clear hb XL_5 SXL_5 G_5 SG_5 Y_5 SY_5
    have QL_6 := Lib.hid ho; clear ho
    go_wp2_with fail
    refine (EQ_ints.out _ _ _ _ _ _ _ (XL_6.out.ints (by omega)) (QL_6.out.ints (by omega))).mono ?_
    rintro e w7 ⟨rfl, hb⟩
    have XL_7 := Lib.hid (XL_6.out.kept hb (Nat.le_refl _))
    have SXL_7 := Lib.hid (Nat.le_trans SXL_6.out hb.size)
    have G_7 := Lib.hid (G_6.out.kept hb (Nat.le_refl _))
    have SG_7 := Lib.hid (Nat.le_trans SG_6.out hb.size)
    have QL_7 := Lib.hid (QL_6.out.kept hb (Nat.le_refl _))
    have SQL_7 := Lib.hid (Nat.le_trans SQL_6.out hb.size)
    have Y_7 := Lib.hid (Y_6.out.below hb SY_6.out)
    have SY_7 := Lib.hid (Nat.le_trans SY_6.out hb.size)
    have B7 := Lib.hid (below_up B6.out hb B6.out.size)
    clear hb XL_6 SXL_6 G_6 SG_6 QL_6 SQL_6 Y_6 SY_6
    clear QL_7 SQL_7
    go_wp2_with fail
    refine (MARK_ints.out _ _ _ _ _ (by omega) (by omega) (by omega) _ XL_7.out).mono ?_
    rintro e w8 ⟨rfl, ho, hg⟩
    have G_8 := Lib.hid (G_7.out.other hg U_XL_G.out)
    have SG_8 := Lib.hid (Nat.le_trans SG_7.out hg.size)
    have Y_8 := Lib.hid (Y_7.out.grown hg SY_7.out fun j hj => Nat.le_trans T_Y_XL.out (XL_7.out.block j hj).1)
    have SY_8 := Lib.hid (Nat.le_trans SY_7.out hg.size)
    have B8 := Lib.hid (B7.out.trans (XL_7.out.marked hg (B := w.heap.size) DXL.out B7.out.size))
    clear ho hg XL_7 SXL_7 G_7 SG_7 Y_7 SY_7
    go_wp2_with fail
    refine (EQ_ints.out _ _ _ _ _ _ _ (G_8.out.ints (by omega)) (Y_8.out.mono SY_8.out)).mono ?_
    rintro e w9 ⟨rfl, hb⟩
    have G_9 := Lib.hid (G_8.out.kept hb (Nat.le_refl _))
    have SG_9 := Lib.hid (Nat.le_trans SG_8.out hb.size)
    have Y_9 := Lib.hid (Y_8.out.below hb SY_8.out)
    have SY_9 := Lib.hid (Nat.le_trans SY_8.out hb.size)
    have B9 := Lib.hid (below_up B8.out hb B8.out.size)
    clear hb G_8 SG_8 Y_8 SY_8
    go_wp2_with fail
    refine (MARK_ints.out _ _ _ _ _ (by omega) (by omega) (by omega) _ G_9.out).mono ?_
    rintro e w10 ⟨rfl, ho, hg⟩
    have Y_10 := Lib.hid (Y_9.out.grown hg SY_9.out fun j hj => Nat.le_trans T_Y_G.out (G_9.out.block j hj).1)
    have SY_10 := Lib.hid (Nat.le_trans SY_9.out hg.size)
    have B10 := Lib.hid (B9.out.trans (G_9.out.marked hg (B := w.heap.size) DG.out B9.out.size))
    have Gm_10 := Lib.hid (ho.ints (by rw [markL_len]; omega))
    have SGm_10 := Lib.hid (Nat.le_refl w10.heap.size)
    clear ho hg G_9 SG_9 Y_9 SY_9
    go_wp2_with fail
    refine (HELD_ints.out _ _ _ _ (by omega) (by omega) _ (Gm_10.out.mono SGm_10.out)).mono ?_
    rintro e w11 ⟨rfl, hb⟩
    have Y_11 := Lib.hid (Y_10.out.below hb SY_10.out)
    have SY_11 := Lib.hid (Nat.le_trans SY_10.out hb.size)
    have Gm_11 := Lib.hid (Gm_10.out.below hb SGm_10.out)
    have SGm_11 := Lib.hid (Nat.le_trans SGm_10.out hb.size)
    have B11 := Lib.hid (below_up B10.out hb B10.out.size)
    clear hb Y_10 SY_10 Gm_10 SGm_10
    go_wp2_with fail
    refine (TO_ints.out _ _ _ (by omega) _ ((R_L.out.below B11.out (Nat.le_refl _)).mono B11.out.size)).mono ?_
    rintro e w12 ⟨AZL, cZL, rfl, ho, hb⟩
    have T_Y_ZL := SY_11
    have T_Gm_ZL := SGm_11
    have SZL_12 := Lib.hid hb.size
    have DZL : Hid (w.heap.size ≤ w11.heap.size) := Lib.hid (B11.out.size)
    have Y_12 := Lib.hid (Y_11.out.below hb SY_11.out)
    have SY_12 := Lib.hid (Nat.le_trans SY_11.out hb.size)
    have Gm_12 := Lib.hid (Gm_11.out.below hb SGm_11.out)
    have SGm_12 := Lib.hid (Nat.le_trans SGm_11.out hb.size)
    have B12 := Lib.hid (below_up B11.out hb B11.out.size)
    clear hb Y_11 SY_11 Gm_11 SGm_11
    have ZL_12 := Lib.hid ho; clear ho
    go_wp2_with fail
    refine (IM.out _ _ _ (ZL_12.out.ints (by omega)) ZL_12.out.cap_le).mono ?_
    rintro e w13 ⟨AH, cH, rfl, ho, hb⟩
    have SH_13 := Lib.hid (Nat.le_refl w13.heap.size)
    have ZL_13 := Lib.hid (ZL_12.out.kept hb (Nat.le_refl _))
    have SZL_13 := Lib.hid (Nat.le_trans SZL_12.out hb.size)
    have Y_13 := Lib.hid (Y_12.out.below hb SY_12.out)
    have SY_13 := Lib.hid (Nat.le_trans SY_12.out hb.size)
    have Gm_13 := Lib.hid (Gm_12.out.below hb SGm_12.out)
    have SGm_13 := Lib.hid (Nat.le_trans SGm_12.out hb.size)
    have B13 := Lib.hid (below_up B12.out hb B12.out.size)
    clear hb ZL_12 SZL_12 Y_12 SY_12 Gm_12 SGm_12
    have H_13 := Lib.hid (ho.ints (by omega)); clear ho
    clear ZL_13 SZL_13
    go_wp2_with fail
    refine (EQ_ints.out _ _ _ _ _ _ _ (H_13.out.mono SH_13.out) (Y_13.out.mono SY_13.out)).mono ?_
    rintro e w14 ⟨rfl, hb⟩
    have Y_14 := Lib.hid (Y_13.out.below hb SY_13.out)
    have SY_14 := Lib.hid (Nat.le_trans SY_13.out hb.size)
    have Gm_14 := Lib.hid (Gm_13.out.below hb SGm_13.out)
    have SGm_14 := Lib.hid (Nat.le_trans SGm_13.out hb.size)
    have H_14 := Lib.hid (H_13.out.below hb SH_13.out)
    have SH_14 := Lib.hid (Nat.le_trans SH_13.out hb.size)
    have B14 := Lib.hid (below_up B13.out hb B13.out.size)
    clear hb Y_13 SY_13 Gm_13 SGm_13 H_13 SH_13
    clear H_14 SH_14
    clear Y_14 SY_14
    go_wp2_with fail
    refine (HELD_ints.out _ _ _ _ (by omega) (by omega) _ (Gm_14.out.mono SGm_14.out)).mono ?_
    rintro e w15 ⟨rfl, hb⟩
    have Gm_15 := Lib.hid (Gm_14.out.below hb SGm_14.out)
    have SGm_15 := Lib.hid (Nat.le_trans SGm_14.out hb.size)
    have B15 := Lib.hid (below_up B14.out hb B14.out.size)
    clear hb Gm_14 SGm_14
    go_wp2
    go_ret
    exact ⟨rfl, B15.out⟩


end Go.Proofs.Ytcmijednpnabmaa
