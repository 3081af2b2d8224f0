/-
  The laws' own walks of chapter 17, by the contracts of the two texts. No condition.
-/
import Derived.Test.YtjgbenhjafgimaaNbB
import Derived.Test.YtjgbenhjafgimaaRunA
import Derived.Test.YtjgbenhjafgimaaSlA
import Derived.Test.YtjgbenhjafgimaaFpM
import Derived.Test.YtjgbenhjafgimaaSoB
import Derived.Test.YtjgbenhjafgimaaFpI
import Derived.Lib.RowBridge
namespace Go.Proofs.Ytjgbenhjafgimaa
open Go.RowKit
set_option linter.unusedVariables false

theorem soL_le (l : List Int) : (soL l).length ≤ l.length := by rw [soL_len]; exact Nat.sub_le _ _
set_option maxRecDepth 100000 in
set_option maxHeartbeats 2000000 in
/-- The law's own walk, by contracts of the two texts. -/
theorem fnExactSoftened_walk (a_L : Option Addr) (len_L cap_L : Nat) (zs_L : List Int) (w : World) (hr_L : IsRow .i64 w a_L len_L cap_L zs_L) :
    Calls Try.prog 6 #[.slice a_L len_L cap_L] w fun e w' => e = .returned (.bool true) ∧ Below w.heap.size w w' := by
  have hlm_L := hr_L.len_le
  unfold maxLen at hlm_L
  by_cases hbig_L : 1048576 < len_L
  · go_enter Try.func6, Try.ntmps6
    go_wp2
    go_ret
    exact ⟨rfl, Below.refl _ _⟩
  · have hqb_L : decide (1048576 < (len_L : Int)) = false := by simp; omega
    obtain ⟨l_L, rfl, hI_L, _, _⟩ := ints_of hr_L (by omega)
    have R_L := Lib.hid hI_L; clear hI_L hr_L
    have hll_L : l_L.length ≤ 1048576 := by omega
    have hmk_L : decide ((1 : Int) + (l_L.length : Int) < 0) = false := by simp; omega
    clear hbig_L hlm_L
    have TO_ints := Lib.hid @toints_any
    have EQ_ints := Lib.hid @eqints_any
    have MARK_ints := Lib.hid @markints_any
    have HELD_ints := Lib.hid @heldints_any
    have SP := Lib.hid (fun A c w h => spec_softened_any A c l_L (by omega) w h)
    have IM := Lib.hid (fun A c w h => impl_softened_any A c l_L (by omega) w h)
    have hx0l := soL_le l_L
    obtain ⟨x0, hx0⟩ : ∃ x, x = soL l_L := ⟨_, rfl⟩
    rw [← hx0] at SP IM
    rw [← hx0] at hx0l
    have hm0 : decide ((1 : Int) + (x0.length : Int) < 0) = false := by simp; omega
    have hq0 : ((1 : Int) + (x0.length : Int) != 1 + (x0.length : Int)) = false := by simp
    clear hx0
    go_enter Try.func6, Try.ntmps6
    go_wp2_with fail
    refine (TO_ints.out _ _ _ (by omega) _ R_L.out).mono ?_
    rintro e w1 ⟨APL, cPL, rfl, ho, hb⟩
    have SPL_1 := Lib.hid hb.size
    have DPL : Hid (w.heap.size ≤ w.heap.size) := Lib.hid ((Below.refl w.heap.size w).size)
    have B1 := Lib.hid hb
    clear hb
    have PL_1 := Lib.hid ho; clear ho
    go_wp2_with fail
    refine (SP.out _ _ _ (PL_1.out.ints (by omega))).mono ?_
    rintro e w2 ⟨AY, cY, rfl, ho, hb⟩
    have SY_2 := Lib.hid (Nat.le_refl w2.heap.size)
    have PL_2 := Lib.hid (PL_1.out.kept hb (Nat.le_refl _))
    have SPL_2 := Lib.hid (Nat.le_trans SPL_1.out hb.size)
    have B2 := Lib.hid (below_up B1.out hb B1.out.size)
    clear hb PL_1 SPL_1
    have Y_2 := Lib.hid (ho.ints (by omega)); clear ho
    clear PL_2 SPL_2
    go_wp2_with fail
    refine (TO_ints.out _ _ _ (by omega) _ ((R_L.out.below B2.out (Nat.le_refl _)).mono B2.out.size)).mono ?_
    rintro e w3 ⟨AXL, cXL, rfl, ho, hb⟩
    have T_Y_XL := SY_2
    have SXL_3 := Lib.hid hb.size
    have DXL : Hid (w.heap.size ≤ w2.heap.size) := Lib.hid (B2.out.size)
    have Y_3 := Lib.hid (Y_2.out.below hb SY_2.out)
    have SY_3 := Lib.hid (Nat.le_trans SY_2.out hb.size)
    have B3 := Lib.hid (below_up B2.out hb B2.out.size)
    clear hb Y_2 SY_2
    have XL_3 := Lib.hid ho; clear ho
    go_wp2_with fail
    refine (IM.out _ _ _ (XL_3.out.ints (by omega))).mono ?_
    rintro e w4 ⟨AG, cG, rfl, ho, hb⟩
    have U_XL_G := Lib.hid (fun j hj => (XL_3.out.block j hj).2)
    have T_Y_G := SY_3
    have V_XL_G := SXL_3
    have DG : Hid (w.heap.size ≤ w3.heap.size) := Lib.hid (B3.out.size)
    have SG_4 := Lib.hid hb.size
    have XL_4 := Lib.hid (XL_3.out.kept hb (Nat.le_refl _))
    have SXL_4 := Lib.hid (Nat.le_trans SXL_3.out hb.size)
    have Y_4 := Lib.hid (Y_3.out.below hb SY_3.out)
    have SY_4 := Lib.hid (Nat.le_trans SY_3.out hb.size)
    have B4 := Lib.hid (below_up B3.out hb B3.out.size)
    clear hb XL_3 SXL_3 Y_3 SY_3
    have G_4 := Lib.hid ho; clear ho
    go_wp2_with fail
    refine (EQ_ints.out _ _ _ _ _ _ _ (G_4.out.ints (by omega)) (Y_4.out.mono SY_4.out)).mono ?_
    rintro e w5 ⟨rfl, hb⟩
    have XL_5 := Lib.hid (XL_4.out.kept hb (Nat.le_refl _))
    have SXL_5 := Lib.hid (Nat.le_trans SXL_4.out hb.size)
    have G_5 := Lib.hid (G_4.out.kept hb (Nat.le_refl _))
    have SG_5 := Lib.hid (Nat.le_trans SG_4.out hb.size)
    have Y_5 := Lib.hid (Y_4.out.below hb SY_4.out)
    have SY_5 := Lib.hid (Nat.le_trans SY_4.out hb.size)
    have B5 := Lib.hid (below_up B4.out hb B4.out.size)
    clear hb XL_4 SXL_4 G_4 SG_4 Y_4 SY_4
    go_wp2_with fail
    refine (TO_ints.out _ _ _ (by omega) _ ((R_L.out.below B5.out (Nat.le_refl _)).mono B5.out.size)).mono ?_
    rintro e w6 ⟨AQL, cQL, rfl, ho, hb⟩
    have U_XL_QL := Lib.hid (fun j hj => (XL_5.out.block j hj).2)
    have U_G_QL := Lib.hid (fun j hj => (G_5.out.block j hj).2)
    have T_Y_QL := SY_5
    have V_XL_QL := SXL_5
    have V_G_QL := SG_5
    have SQL_6 := Lib.hid hb.size
    have DQL : Hid (w.heap.size ≤ w5.heap.size) := Lib.hid (B5.out.size)
    have XL_6 := Lib.hid (XL_5.out.kept hb (Nat.le_refl _))
    have SXL_6 := Lib.hid (Nat.le_trans SXL_5.out hb.size)
    have G_6 := Lib.hid (G_5.out.kept hb (Nat.le_refl _))
    have SG_6 := Lib.hid (Nat.le_trans SG_5.out hb.size)
    have Y_6 := Lib.hid (Y_5.out.below hb SY_5.out)
    have SY_6 := Lib.hid (Nat.le_trans SY_5.out hb.size)
    have B6 := Lib.hid (below_up B5.out hb B5.out.size)
    clear hb XL_5 SXL_5 G_5 SG_5 Y_5 SY_5
    have QL_6 := Lib.hid ho; clear ho
    go_wp2_with fail
    refine (EQ_ints.out _ _ _ _ _ _ _ (XL_6.out.ints (by omega)) (QL_6.out.ints (by omega))).mono ?_
    rintro e w7 ⟨rfl, hb⟩
    have XL_7 := Lib.hid (XL_6.out.kept hb (Nat.le_refl _))
    have SXL_7 := Lib.hid (Nat.le_trans SXL_6.out hb.size)
    have G_7 := Lib.hid (G_6.out.kept hb (Nat.le_refl _))
    have SG_7 := Lib.hid (Nat.le_trans SG_6.out hb.size)
    have QL_7 := Lib.hid (QL_6.out.kept hb (Nat.le_refl _))
    have SQL_7 := Lib.hid (Nat.le_trans SQL_6.out hb.size)
    have Y_7 := Lib.hid (Y_6.out.below hb SY_6.out)
    have SY_7 := Lib.hid (Nat.le_trans SY_6.out hb.size)
    have B7 := Lib.hid (below_up B6.out hb B6.out.size)
    clear hb XL_6 SXL_6 G_6 SG_6 QL_6 SQL_6 Y_6 SY_6
    clear QL_7 SQL_7
    go_wp2_with fail
    refine (MARK_ints.out _ _ _ _ _ (by omega) (by omega) (by omega) _ XL_7.out).mono ?_
    rintro e w8 ⟨rfl, ho, hg⟩
    have G_8 := Lib.hid (G_7.out.other hg U_XL_G.out)
    have SG_8 := Lib.hid (Nat.le_trans SG_7.out hg.size)
    have Y_8 := Lib.hid (Y_7.out.grown hg SY_7.out fun j hj => Nat.le_trans T_Y_XL.out (XL_7.out.block j hj).1)
    have SY_8 := Lib.hid (Nat.le_trans SY_7.out hg.size)
    have B8 := Lib.hid (B7.out.trans (XL_7.out.marked hg (B := w.heap.size) DXL.out B7.out.size))
    clear ho hg XL_7 SXL_7 G_7 SG_7 Y_7 SY_7
    go_wp2_with fail
    refine (EQ_ints.out _ _ _ _ _ _ _ (G_8.out.ints (by omega)) (Y_8.out.mono SY_8.out)).mono ?_
    rintro e w9 ⟨rfl, hb⟩
    have G_9 := Lib.hid (G_8.out.kept hb (Nat.le_refl _))
    have SG_9 := Lib.hid (Nat.le_trans SG_8.out hb.size)
    have Y_9 := Lib.hid (Y_8.out.below hb SY_8.out)
    have SY_9 := Lib.hid (Nat.le_trans SY_8.out hb.size)
    have B9 := Lib.hid (below_up B8.out hb B8.out.size)
    clear hb G_8 SG_8 Y_8 SY_8
    go_wp2_with fail
    refine (MARK_ints.out _ _ _ _ _ (by omega) (by omega) (by omega) _ G_9.out).mono ?_
    rintro e w10 ⟨rfl, ho, hg⟩
    have Y_10 := Lib.hid (Y_9.out.grown hg SY_9.out fun j hj => Nat.le_trans T_Y_G.out (G_9.out.block j hj).1)
    have SY_10 := Lib.hid (Nat.le_trans SY_9.out hg.size)
    have B10 := Lib.hid (B9.out.trans (G_9.out.marked hg (B := w.heap.size) DG.out B9.out.size))
    have Gm_10 := Lib.hid (ho.ints (by rw [markL_len]; omega))
    have SGm_10 := Lib.hid (Nat.le_refl w10.heap.size)
    clear ho hg G_9 SG_9 Y_9 SY_9
    go_wp2_with fail
    refine (HELD_ints.out _ _ _ _ (by omega) (by omega) _ (Gm_10.out.mono SGm_10.out)).mono ?_
    rintro e w11 ⟨rfl, hb⟩
    have Y_11 := Lib.hid (Y_10.out.below hb SY_10.out)
    have SY_11 := Lib.hid (Nat.le_trans SY_10.out hb.size)
    have Gm_11 := Lib.hid (Gm_10.out.below hb SGm_10.out)
    have SGm_11 := Lib.hid (Nat.le_trans SGm_10.out hb.size)
    have B11 := Lib.hid (below_up B10.out hb B10.out.size)
    clear hb Y_10 SY_10 Gm_10 SGm_10
    go_wp2_with fail
    refine (TO_ints.out _ _ _ (by omega) _ ((R_L.out.below B11.out (Nat.le_refl _)).mono B11.out.size)).mono ?_
    rintro e w12 ⟨AZL, cZL, rfl, ho, hb⟩
    have T_Y_ZL := SY_11
    have T_Gm_ZL := SGm_11
    have SZL_12 := Lib.hid hb.size
    have DZL : Hid (w.heap.size ≤ w11.heap.size) := Lib.hid (B11.out.size)
    have Y_12 := Lib.hid (Y_11.out.below hb SY_11.out)
    have SY_12 := Lib.hid (Nat.le_trans SY_11.out hb.size)
    have Gm_12 := Lib.hid (Gm_11.out.below hb SGm_11.out)
    have SGm_12 := Lib.hid (Nat.le_trans SGm_11.out hb.size)
    have B12 := Lib.hid (below_up B11.out hb B11.out.size)
    clear hb Y_11 SY_11 Gm_11 SGm_11
    have ZL_12 := Lib.hid ho; clear ho
    go_wp2_with fail
    refine (IM.out _ _ _ (ZL_12.out.ints (by omega))).mono ?_
    rintro e w13 ⟨AH, cH, rfl, ho, hb⟩
    have SH_13 := Lib.hid (Nat.le_refl w13.heap.size)
    have ZL_13 := Lib.hid (ZL_12.out.kept hb (Nat.le_refl _))
    have SZL_13 := Lib.hid (Nat.le_trans SZL_12.out hb.size)
    have Y_13 := Lib.hid (Y_12.out.below hb SY_12.out)
    have SY_13 := Lib.hid (Nat.le_trans SY_12.out hb.size)
    have Gm_13 := Lib.hid (Gm_12.out.below hb SGm_12.out)
    have SGm_13 := Lib.hid (Nat.le_trans SGm_12.out hb.size)
    have B13 := Lib.hid (below_up B12.out hb B12.out.size)
    clear hb ZL_12 SZL_12 Y_12 SY_12 Gm_12 SGm_12
    have H_13 := Lib.hid (ho.ints (by omega)); clear ho
    clear ZL_13 SZL_13
    go_wp2_with fail
    refine (EQ_ints.out _ _ _ _ _ _ _ (H_13.out.mono SH_13.out) (Y_13.out.mono SY_13.out)).mono ?_
    rintro e w14 ⟨rfl, hb⟩
    have Y_14 := Lib.hid (Y_13.out.below hb SY_13.out)
    have SY_14 := Lib.hid (Nat.le_trans SY_13.out hb.size)
    have Gm_14 := Lib.hid (Gm_13.out.below hb SGm_13.out)
    have SGm_14 := Lib.hid (Nat.le_trans SGm_13.out hb.size)
    have H_14 := Lib.hid (H_13.out.below hb SH_13.out)
    have SH_14 := Lib.hid (Nat.le_trans SH_13.out hb.size)
    have B14 := Lib.hid (below_up B13.out hb B13.out.size)
    clear hb Y_13 SY_13 Gm_13 SGm_13 H_13 SH_13
    clear H_14 SH_14
    clear Y_14 SY_14
    go_wp2_with fail
    refine (HELD_ints.out _ _ _ _ (by omega) (by omega) _ (Gm_14.out.mono SGm_14.out)).mono ?_
    rintro e w15 ⟨rfl, hb⟩
    have Gm_15 := Lib.hid (Gm_14.out.below hb SGm_14.out)
    have SGm_15 := Lib.hid (Nat.le_trans SGm_14.out hb.size)
    have B15 := Lib.hid (below_up B14.out hb B14.out.size)
    clear hb Gm_14 SGm_14
    go_wp2
    go_ret
    exact ⟨rfl, B15.out⟩

set_option maxRecDepth 100000 in
set_option maxHeartbeats 4000000 in
/-- The law's own walk, by contracts of the two texts. -/
theorem fnExactSlopeRow_walk (a1 : Option Addr) (n1 c1 : Nat) (z1 : List Int) (a2 : Option Addr) (n2 c2 : Nat) (z2 : List Int) (k : Int) (b1 b2 : Bool) (n : Int) (y0 : Int) (wf_k : (Lit.int .i64 k).wf = true) (wf_n : (Lit.int .i64 n).wf = true) (wf_y0 : (Lit.int .i64 y0).wf = true) (w : World) (h1 : IsRow .i64 w a1 n1 c1 z1) (h2 : IsRow .i64 w a2 n2 c2 z2) :
    Calls Try.prog 7 #[.agg #[.slice a1 n1 c1, .slice a2 n2 c2, .int .i64 k, .bool b1, .bool b2], .int .i64 n, .int .i64 y0] w fun e w' => e = .returned (.bool true) ∧ Below w.heap.size w w' := by
  have hl1 := h1.len_le; have hl2 := h2.len_le
  unfold maxLen at hl1 hl2
  have SZ := Lib.hid (sznb_any a1 a2 n1 c1 n2 c2 k b1 b2 (by omega) (by omega))
  by_cases hbig : ¬ n1 + n2 ≤ 1048576
  · rw [if_neg hbig] at SZ
    clear h1 h2 hl1 hl2 hbig
    go_enter Try.func7, Try.ntmps7
    go_wp2_with fail
    refine (SZ.out _).mono ?_
    rintro e w1 ⟨rfl, hb⟩
    have B := Lib.hid (below_up (below_new w _) hb (below_new w _).size); clear hb
    go_wp2
    go_ret
    exact ⟨rfl, B.out⟩
  · rw [if_pos (by omega)] at SZ
    have hq : decide (1048576 - (n1 : Int) - (n2 : Int) < 0) = false := by simp; omega
    obtain ⟨t, rfl, hT, _, hc1⟩ := ints_of h1 (by omega)
    obtain ⟨l, rfl, hL, _, hc2⟩ := ints_of h2 (by omega)
    have ht : t.length ≤ 1048576 := by omega
    have hl : l.length ≤ 1048576 := by omega
    have R1 := Lib.hid hT; have R2 := Lib.hid hL
    have TO := Lib.hid fun w hA hB => tonb_any a1 a2 c1 c2 t l k b1 b2 ht hl w hA hB
    have EQ := Lib.hid fun A B C D cA cB cC cD w hA hB hC hD => eqnb_same A B C D cA cB cC cD t l k b1 b2 ht hl w hA hB hC hD
    have MK := Lib.hid fun base A B cA cB w hO => marknb_any base A B cA cB t l k b1 b2 ht hl w hO
    have EI := Lib.hid @eqints_any; have MI := Lib.hid @markints_any; have HI := Lib.hid @heldints_any
    have SP := Lib.hid (fun A cA B cB w hT hL (hc : t.length ≤ cA) (hd : l.length ≤ cB) => spec_sloperow_any A cA B cB t l k b1 b2 n y0 w hT hL hc)
    have IM := Lib.hid (fun A cA B cB w hT hL (hc : t.length ≤ cA) (hd : l.length ≤ cB) => impl_sloperow_any A cA B cB t l k b1 b2 n y0 w hT hL)
    have hxl := slL_len t l k n y0
    obtain ⟨x, hx⟩ : ∃ x, x = slL t l k n y0 := ⟨_, rfl⟩
    rw [← hx] at SP IM hxl
    clear hx
    have hm0 : decide ((1 : Int) + (x.length : Int) < 0) = false := by simp; omega
    have hq0 : ((1 : Int) + (x.length : Int) != 1 + (x.length : Int)) = false := by simp
    have hmk : decide ((1 : Int) + (t.length : Int) + (l.length : Int) < 0) = false := by simp; omega
    clear h1 h2 hT hL hl1 hl2 hbig
    go_enter Try.func7, Try.ntmps7
    go_wp2_with fail
    refine (SZ.out _).mono ?_
    rintro e w1 ⟨rfl, hb⟩
    have H1 := Lib.hid (cell_kept (heap_alloc_new w (.cells #[.slice a1 t.length c1, .slice a2 l.length c2, .int .i64 k, .bool b1, .bool b2] 44)) hb)
    have B1 := Lib.hid (below_up (below_new w (.cells #[.slice a1 t.length c1, .slice a2 l.length c2, .int .i64 k, .bool b1, .bool b2] 44)) hb (below_new w (.cells #[.slice a1 t.length c1, .slice a2 l.length c2, .int .i64 k, .bool b1, .bool b2] 44)).size)
    obtain ⟨c0, c1', c2', c3, c4⟩ := cells5 H1.out
    clear hb SZ
    go_wp2_with fail
    refine (TO.out _ ((R1.out.below B1.out (Nat.le_refl _)).mono B1.out.size) ((R2.out.below B1.out (Nat.le_refl _)).mono B1.out.size)).mono ?_
    rintro e w2 ⟨A0, cA0, B0, cB0, rfl, ho, hb⟩
    have P2 := Lib.hid ho; have H2 := Lib.hid (cell_kept H1.out hb); have B2 := Lib.hid (below_up B1.out hb B1.out.size)
    have hcp := ho.caps
    clear ho hb H1 B1 c0 c1' c2' c3 c4
    go_wp2_with fail
    refine (SP.out A0 cA0 B0 cB0 _ (P2.out.top ht) (P2.out.left hl) hcp.1 hcp.2).mono ?_
    rintro e w3 ⟨AY, cY, rfl, hoy, hb⟩
    have Y3 := Lib.hid (hoy.ints (by omega)); have SY3 := Lib.hid (Nat.le_refl w3.heap.size); clear hoy
    have H3 := Lib.hid (cell_kept H2.out hb); have B3 := Lib.hid (below_up B2.out hb B2.out.size)
    obtain ⟨c0, c1', c2', c3, c4⟩ := cells5 H3.out
    clear hb H2 B2 P2 hcp
    go_wp2_with fail
    refine (TO.out _ ((R1.out.below B3.out (Nat.le_refl _)).mono B3.out.size) ((R2.out.below B3.out (Nat.le_refl _)).mono B3.out.size)).mono ?_
    rintro e w4 ⟨A, cA, B, cB, rfl, ho, hb⟩
    have nb := below_new w4 (.cells #[.slice A t.length cA, .slice B l.length cB, .int .i64 k, .bool b1, .bool b2] 26)
    have hcp := ho.caps
    have X5 := Lib.hid (ho.kept nb (Nat.le_refl _)); have H4 := Lib.hid (cell_kept H3.out hb); have B4 := Lib.hid (below_up B3.out hb B3.out.size)
    have Y4 := Lib.hid (Y3.out.below hb SY3.out); have SY4 := Lib.hid (Nat.le_trans SY3.out hb.size); clear Y3 SY3
    have H5 := Lib.hid (cell_kept H4.out nb); have B5 := Lib.hid (below_up B4.out nb B4.out.size); have K5 := Lib.hid (heap_alloc_new w4 (.cells #[.slice A t.length cA, .slice B l.length cB, .int .i64 k, .bool b1, .bool b2] 26))
    have Y5 := Lib.hid (Y4.out.below nb SY4.out); have SY5 := Lib.hid (Nat.le_trans SY4.out nb.size); clear Y4 SY4
    have XB := Lib.hid ho.blocks; have SX := Lib.hid (heap_lt H3.out); have Y4s := Lib.hid hb.size; have B4s := Lib.hid (heap_lt H4.out)
    clear ho hb nb H3 B3 H4 B4 c0 c1' c2' c3 c4
    go_wp2_with fail
    refine (IM.out A cA B cB _ (X5.out.top ht) (X5.out.left hl) hcp.1 hcp.2).mono ?_
    rintro e w6 ⟨AG, cG, rfl, hog, hb⟩
    have G6 := Lib.hid hog; have SG6 := Lib.hid hb.size; clear hog
    have X6 := Lib.hid (X5.out.kept hb (Nat.le_refl _)); have H6 := Lib.hid (cell_kept H5.out hb); have K6 := Lib.hid (cell_kept K5.out hb); have B6 := Lib.hid (below_up B5.out hb B5.out.size)
    have Y6 := Lib.hid (Y5.out.below hb SY5.out); have SY6 := Lib.hid (Nat.le_trans SY5.out hb.size); clear Y5 SY5
    clear hb X5 H5 K5 B5 hcp
    go_wp2_with fail
    refine (EI.out AG AY cG cY x x _ (G6.out.ints (by omega)) (Y6.out.mono SY6.out)).mono ?_
    rintro e w7 ⟨rfl, hb⟩
    have G7 := Lib.hid (G6.out.kept hb (Nat.le_refl _)); have X7 := Lib.hid (X6.out.kept hb (Nat.le_refl _)); have H7 := Lib.hid (cell_kept H6.out hb); have K7 := Lib.hid (cell_kept K6.out hb); have B7 := Lib.hid (below_up B6.out hb B6.out.size); have SG7 := Lib.hid (Nat.le_trans SG6.out hb.size)
    have Y7 := Lib.hid (Y6.out.below hb SY6.out); have SY7 := Lib.hid (Nat.le_trans SY6.out hb.size); clear Y6 SY6
    clear hb G6 SG6 X6 H6 K6 B6
    obtain ⟨c0, c1', c2', c3, c4⟩ := cells5 H7.out
    obtain ⟨d0, d1, d2, d3, d4⟩ := cells5 K7.out
    have hS : w7.cell? ⟨w.heap.size, 0, none⟩ = some (.slice a1 t.length c1) ∧ w7.cell? ⟨w.heap.size, 1, none⟩ = some (.slice a2 l.length c2) ∧ w7.cell? ⟨w.heap.size, 2, none⟩ = some (.int .i64 k) ∧ w7.cell? ⟨w.heap.size, 3, none⟩ = some (.bool b1) ∧ w7.cell? ⟨w.heap.size, 4, none⟩ = some (.bool b2) ∧ w7.cell? ⟨w4.heap.size, 0, none⟩ = some (.slice A t.length cA) ∧ w7.cell? ⟨w4.heap.size, 1, none⟩ = some (.slice B l.length cB) ∧ w7.cell? ⟨w4.heap.size, 2, none⟩ = some (.int .i64 k) ∧ w7.cell? ⟨w4.heap.size, 3, none⟩ = some (.bool b1) ∧ w7.cell? ⟨w4.heap.size, 4, none⟩ = some (.bool b2) ∧ NbOwn w7 w3.heap.size A cA B cB t l ∧ Below w7.heap.size w7 w7 := ⟨c0, c1', c2', c3, c4, d0, d1, d2, d3, d4, X7.out, Below.refl _ _⟩
    have TOS : Hid (∀ wr, (wr.cell? ⟨w.heap.size, 0, none⟩ = some (.slice a1 t.length c1) ∧ wr.cell? ⟨w.heap.size, 1, none⟩ = some (.slice a2 l.length c2) ∧ wr.cell? ⟨w.heap.size, 2, none⟩ = some (.int .i64 k) ∧ wr.cell? ⟨w.heap.size, 3, none⟩ = some (.bool b1) ∧ wr.cell? ⟨w.heap.size, 4, none⟩ = some (.bool b2) ∧ wr.cell? ⟨w4.heap.size, 0, none⟩ = some (.slice A t.length cA) ∧ wr.cell? ⟨w4.heap.size, 1, none⟩ = some (.slice B l.length cB) ∧ wr.cell? ⟨w4.heap.size, 2, none⟩ = some (.int .i64 k) ∧ wr.cell? ⟨w4.heap.size, 3, none⟩ = some (.bool b1) ∧ wr.cell? ⟨w4.heap.size, 4, none⟩ = some (.bool b2) ∧ NbOwn wr w3.heap.size A cA B cB t l ∧ Below w7.heap.size w7 wr) → Calls Try.prog 33 #[.agg #[.slice a1 t.length c1, .slice a2 l.length c2, .int .i64 k, .bool b1, .bool b2]] wr fun e w' => ∃ A' cA' B' cB', e = .returned (.agg #[.slice A' t.length cA', .slice B' l.length cB', .int .i64 k, .bool b1, .bool b2]) ∧ NbOwn w' wr.heap.size A' cA' B' cB' t l ∧ Below wr.heap.size wr w') := Lib.hid fun wr h => TO.out wr ((R1.out.below (below_up B7.out (nb_held_below h) B7.out.size) (Nat.le_refl _)).mono (below_up B7.out (nb_held_below h) B7.out.size).size) ((R2.out.below (below_up B7.out (nb_held_below h) B7.out.size) (Nat.le_refl _)).mono (below_up B7.out (nb_held_below h) B7.out.size).size)
    have EQS : Hid (∀ wr C cC D cD bs, (wr.cell? ⟨w.heap.size, 0, none⟩ = some (.slice a1 t.length c1) ∧ wr.cell? ⟨w.heap.size, 1, none⟩ = some (.slice a2 l.length c2) ∧ wr.cell? ⟨w.heap.size, 2, none⟩ = some (.int .i64 k) ∧ wr.cell? ⟨w.heap.size, 3, none⟩ = some (.bool b1) ∧ wr.cell? ⟨w.heap.size, 4, none⟩ = some (.bool b2) ∧ wr.cell? ⟨w4.heap.size, 0, none⟩ = some (.slice A t.length cA) ∧ wr.cell? ⟨w4.heap.size, 1, none⟩ = some (.slice B l.length cB) ∧ wr.cell? ⟨w4.heap.size, 2, none⟩ = some (.int .i64 k) ∧ wr.cell? ⟨w4.heap.size, 3, none⟩ = some (.bool b1) ∧ wr.cell? ⟨w4.heap.size, 4, none⟩ = some (.bool b2) ∧ NbOwn wr w3.heap.size A cA B cB t l ∧ Below w7.heap.size w7 wr) → NbOwn wr bs C cC D cD t l → Calls Try.prog 34 #[.agg #[.slice A t.length cA, .slice B l.length cB, .int .i64 k, .bool b1, .bool b2], .agg #[.slice C t.length cC, .slice D l.length cD, .int .i64 k, .bool b1, .bool b2]] wr fun e w' => e = .returned (.bool true) ∧ Below wr.heap.size wr w') := Lib.hid fun wr C cC D cD bs h ho => EQ.out A B C D cA cB cC cD wr (h.2.2.2.2.2.2.2.2.2.2.1.top ht) (h.2.2.2.2.2.2.2.2.2.2.1.left hl) (ho.top ht) (ho.left hl)
    clear c0 c1' c2' c3 c4 d0 d1 d2 d3 d4
    go_wp2_with fail
    go_region_held3 (fun w' => w'.cell? ⟨w.heap.size, 0, none⟩ = some (.slice a1 t.length c1) ∧ w'.cell? ⟨w.heap.size, 1, none⟩ = some (.slice a2 l.length c2) ∧ w'.cell? ⟨w.heap.size, 2, none⟩ = some (.int .i64 k) ∧ w'.cell? ⟨w.heap.size, 3, none⟩ = some (.bool b1) ∧ w'.cell? ⟨w.heap.size, 4, none⟩ = some (.bool b2) ∧ w'.cell? ⟨w4.heap.size, 0, none⟩ = some (.slice A t.length cA) ∧ w'.cell? ⟨w4.heap.size, 1, none⟩ = some (.slice B l.length cB) ∧ w'.cell? ⟨w4.heap.size, 2, none⟩ = some (.int .i64 k) ∧ w'.cell? ⟨w4.heap.size, 3, none⟩ = some (.bool b1) ∧ w'.cell? ⟨w4.heap.size, 4, none⟩ = some (.bool b2) ∧ NbOwn w' w3.heap.size A cA B cB t l ∧ Below w7.heap.size w7 w')
      (first | with_reducible assumption | (with_reducible refine nb_hold_drew ?_; with_reducible assumption) | (with_reducible refine nb_hold ?_ (by with_reducible assumption); with_reducible assumption))
      (first
        | (go_at_call 33; with_reducible refine (TOS.out _ (by with_reducible assumption)).mono ?_; rintro e w8 ⟨C, cC, D, cD, rfl, ho', hb'⟩)
        | (go_at_call 34; with_reducible refine (EQS.out _ _ _ _ _ _ (by with_reducible assumption) (by first | with_reducible assumption | (with_reducible refine NbOwn.drew ?_; with_reducible assumption))).mono ?_; rintro e w9 ⟨rfl, hb9⟩))
    all_goals
      have hb : Below w7.heap.size w7 w9 := nb_held_below (by with_reducible assumption)
      have G9 := Lib.hid (G7.out.kept hb (Nat.le_refl _)); have X9 := Lib.hid (X7.out.kept hb (Nat.le_refl _)); have H9 := Lib.hid (cell_kept H7.out hb); have K9 := Lib.hid (cell_kept K7.out hb); have B9 := Lib.hid (below_up B7.out hb B7.out.size); have SG9 := Lib.hid (Nat.le_trans SG7.out hb.size)
      have Y9 := Lib.hid (Y7.out.below hb SY7.out); have SY9 := Lib.hid (Nat.le_trans SY7.out hb.size)
      clear hb G7 X7 H7 K7 B7 SG7 Y7 SY7 TOS EQS
      obtain ⟨d0, d1, d2, d3, d4⟩ := cells5 K9.out
      go_wp2_with fail
      refine (MK.out _ _ _ _ _ _ X9.out).mono ?_
      rintro e w10 ⟨rfl, wm, hg1, hg2⟩
      obtain ⟨xb1, xb2⟩ := XB.out
      have hsx := SX.out
      have G10 := Lib.hid (own_two_marked G9.out hg1 hg2 (fun j hj => by have := (xb1 j hj).2; simp; omega) (fun j hj => by have := (xb2 j hj).2; simp; omega))
      have Y10 := Lib.hid (ints_two_marked Y9.out SY9.out hg1 hg2 (fun j hj => (xb1 j hj).1) (fun j hj => (xb2 j hj).1))
      have B10 := Lib.hid (below_two_marked B9.out B9.out.size hg1 hg2 (fun j hj => by have := (xb1 j hj).1; omega) (fun j hj => by have := (xb2 j hj).1; omega))
      have H10 := Lib.hid (heap_two_marked H9.out hg1 hg2 (fun j hj => by have := (xb1 j hj).1; omega) (fun j hj => by have := (xb2 j hj).1; omega))
      have SG10 := Lib.hid (Nat.le_trans SG9.out (Nat.le_trans hg1.size hg2.size)); have SY10 := Lib.hid (Nat.le_trans SY9.out (Nat.le_trans hg1.size hg2.size))
      clear hg1 hg2 xb1 xb2 hsx d0 d1 d2 d3 d4 G9 Y9 B9 H9 SG9 SY9 X9 K9 XB SX
      go_wp2_with fail
      refine (EI.out AG AY cG cY x x _ (G10.out.ints (by omega)) (Y10.out.mono SY10.out)).mono ?_
      rintro e w11 ⟨rfl, hb⟩
      have G11 := Lib.hid (G10.out.kept hb (Nat.le_refl _)); have Y11 := Lib.hid (Y10.out.below hb SY10.out); have SY11 := Lib.hid (Nat.le_trans SY10.out hb.size); have SG11 := Lib.hid (Nat.le_trans SG10.out hb.size); have H11 := Lib.hid (cell_kept H10.out hb); have B11 := Lib.hid (below_up B10.out hb B10.out.size)
      clear hb G10 Y10 SY10 SG10 H10 B10
      go_wp2_with fail
      refine (MI.out _ _ _ _ _ (by omega) (by omega) (by omega) _ G11.out).mono ?_
      rintro e w12 ⟨rfl, ho, hg⟩
      have hgb := G11.out.block
      have Gm12 := Lib.hid (ho.ints (by rw [markL_len]; omega)); have SGm12 := Lib.hid (Nat.le_refl w12.heap.size)
      have Y12 := Lib.hid (Y11.out.grown hg SY11.out fun j hj => by have := (hgb j hj).1; have h2 := Y4s.out; simp at this; omega); have SY12 := Lib.hid (Nat.le_trans SY11.out hg.size)
      have B12 := Lib.hid (B11.out.grown hg B11.out.size fun j hj => by have := (hgb j hj).1; have h2 := B4s.out; simp at this; omega)
      have H12 := Lib.hid ((hg.block w.heap.size (heap_lt H11.out) (fun e => by have := (hgb _ e.symm).1; have h2 := B4s.out; simp at this; omega)).trans H11.out)
      clear ho hg hgb G11 Y11 SY11 SG11 H11 B11
      go_wp2_with fail
      refine (HI.out _ _ _ _ (by omega) (by omega) _ (Gm12.out.mono SGm12.out)).mono ?_
      rintro e w13 ⟨rfl, hb⟩
      have Gm13 := Lib.hid (Gm12.out.below hb SGm12.out); have SGm13 := Lib.hid (Nat.le_trans SGm12.out hb.size); have Y13 := Lib.hid (Y12.out.below hb SY12.out); have SY13 := Lib.hid (Nat.le_trans SY12.out hb.size); have H13 := Lib.hid (cell_kept H12.out hb); have B13 := Lib.hid (below_up B12.out hb B12.out.size)
      clear hb Gm12 SGm12 Y12 SY12 H12 B12
      obtain ⟨c0, c1', c2', c3, c4⟩ := cells5 H13.out
      go_wp2_with fail
      refine (TO.out _ ((R1.out.below B13.out (Nat.le_refl _)).mono B13.out.size) ((R2.out.below B13.out (Nat.le_refl _)).mono B13.out.size)).mono ?_
      rintro e w14 ⟨C, cC, D, cD, rfl, ho, hb⟩
      have Z14 := Lib.hid ho; have hcp := ho.caps; clear ho
      clear c0 c1' c2' c3 c4
      have Gm14 := Lib.hid (Gm13.out.below hb SGm13.out); have SGm14 := Lib.hid (Nat.le_trans SGm13.out hb.size); have Y14 := Lib.hid (Y13.out.below hb SY13.out); have SY14 := Lib.hid (Nat.le_trans SY13.out hb.size); have H14 := Lib.hid (cell_kept H13.out hb); have B14 := Lib.hid (below_up B13.out hb B13.out.size)
      clear hb Gm13 SGm13 Y13 SY13 H13 B13
      go_wp2_with fail
      refine (IM.out C cC D cD _ (Z14.out.top ht) (Z14.out.left hl) hcp.1 hcp.2).mono ?_
      rintro e w15 ⟨AH, cH, rfl, hoh, hb⟩
      have Q15 := Lib.hid (hoh.ints (by omega)); clear hoh Z14 hcp
      have Gm15 := Lib.hid (Gm14.out.below hb SGm14.out); have SGm15 := Lib.hid (Nat.le_trans SGm14.out hb.size); have Y15 := Lib.hid (Y14.out.below hb SY14.out); have SY15 := Lib.hid (Nat.le_trans SY14.out hb.size); have H15 := Lib.hid (cell_kept H14.out hb); have B15 := Lib.hid (below_up B14.out hb B14.out.size)
      clear hb Gm14 SGm14 Y14 SY14 H14 B14
      go_wp2_with fail
      refine (EI.out AH AY cH cY x x _ Q15.out (Y15.out.mono SY15.out)).mono ?_
      rintro e w16 ⟨rfl, hb⟩
      clear Q15
      have Gm16 := Lib.hid (Gm15.out.below hb SGm15.out); have SGm16 := Lib.hid (Nat.le_trans SGm15.out hb.size); have Y16 := Lib.hid (Y15.out.below hb SY15.out); have SY16 := Lib.hid (Nat.le_trans SY15.out hb.size); have H16 := Lib.hid (cell_kept H15.out hb); have B16 := Lib.hid (below_up B15.out hb B15.out.size)
      clear hb Gm15 SGm15 Y15 SY15 H15 B15
      go_wp2_with fail
      refine (HI.out _ _ _ _ (by omega) (by omega) _ (Gm16.out.mono SGm16.out)).mono ?_
      rintro e w17 ⟨rfl, hb⟩
      have Gm17 := Lib.hid (Gm16.out.below hb SGm16.out); have SGm17 := Lib.hid (Nat.le_trans SGm16.out hb.size); have Y17 := Lib.hid (Y16.out.below hb SY16.out); have SY17 := Lib.hid (Nat.le_trans SY16.out hb.size); have H17 := Lib.hid (cell_kept H16.out hb); have B17 := Lib.hid (below_up B16.out hb B16.out.size)
      clear hb Gm16 SGm16 Y16 SY16 H16 B16
      go_wp2
      go_ret
      exact ⟨rfl, B17.out⟩

set_option maxRecDepth 100000 in
set_option maxHeartbeats 4000000 in
/-- The law's own walk, by contracts of the two texts. -/
theorem fnExactFastPred_walk (mode : Int) (a1 : Option Addr) (n1 c1 : Nat) (z1 : List Int) (a2 : Option Addr) (n2 c2 : Nat) (z2 : List Int) (k : Int) (b1 b2 : Bool) (n : Int) (wf_mode : (Lit.int .i64 mode).wf = true) (wf_k : (Lit.int .i64 k).wf = true) (wf_n : (Lit.int .i64 n).wf = true) (w : World) (h1 : IsRow .i64 w a1 n1 c1 z1) (h2 : IsRow .i64 w a2 n2 c2 z2) :
    Calls Try.prog 8 #[.int .i64 mode, .agg #[.slice a1 n1 c1, .slice a2 n2 c2, .int .i64 k, .bool b1, .bool b2], .int .i64 n] w fun e w' => e = .returned (.bool true) ∧ Below w.heap.size w w' := by
  have hl1 := h1.len_le; have hl2 := h2.len_le
  unfold maxLen at hl1 hl2
  have SZ := Lib.hid (sznb_any a1 a2 n1 c1 n2 c2 k b1 b2 (by omega) (by omega))
  by_cases hbig : ¬ n1 + n2 ≤ 1048576
  · rw [if_neg hbig] at SZ
    clear h1 h2 hl1 hl2 hbig
    go_enter Try.func8, Try.ntmps8
    go_wp2_with fail
    refine (SZ.out _).mono ?_
    rintro e w1 ⟨rfl, hb⟩
    have B := Lib.hid (below_up (below_new w _) hb (below_new w _).size); clear hb
    go_wp2
    go_ret
    exact ⟨rfl, B.out⟩
  · rw [if_pos (by omega)] at SZ
    have hq : decide (1048576 - (n1 : Int) - (n2 : Int) < 0) = false := by simp; omega
    obtain ⟨t, rfl, hT, _, hc1⟩ := ints_of h1 (by omega)
    obtain ⟨l, rfl, hL, _, hc2⟩ := ints_of h2 (by omega)
    have ht : t.length ≤ 1048576 := by omega
    have hl : l.length ≤ 1048576 := by omega
    have R1 := Lib.hid hT; have R2 := Lib.hid hL
    have TO := Lib.hid fun w hA hB => tonb_any a1 a2 c1 c2 t l k b1 b2 ht hl w hA hB
    have EQ := Lib.hid fun A B C D cA cB cC cD w hA hB hC hD => eqnb_same A B C D cA cB cC cD t l k b1 b2 ht hl w hA hB hC hD
    have MK := Lib.hid fun base A B cA cB w hO => marknb_any base A B cA cB t l k b1 b2 ht hl w hO
    have EI := Lib.hid @eqints_any; have MI := Lib.hid @markints_any; have HI := Lib.hid @heldints_any
    have SP := Lib.hid (fun A cA B cB w hT hL (hc : t.length ≤ cA) (hd : l.length ≤ cB) => spec_fastpred_any mode A cA B cB t l k b1 b2 n w hT hL hc)
    have IM := Lib.hid (fun A cA B cB w hT hL (hc : t.length ≤ cA) (hd : l.length ≤ cB) => impl_fastpred_any mode A cA B cB t l k b1 b2 n w hT hL hc)
    have hxl := prdL_len mode t l k b1 b2 n
    obtain ⟨x, hx⟩ : ∃ x, x = prdL mode t l k b1 b2 n := ⟨_, rfl⟩
    rw [← hx] at SP IM hxl
    clear hx
    have hm0 : decide ((1 : Int) + (x.length : Int) < 0) = false := by simp; omega
    have hq0 : ((1 : Int) + (x.length : Int) != 1 + (x.length : Int)) = false := by simp
    have hmk : decide ((1 : Int) + (t.length : Int) + (l.length : Int) < 0) = false := by simp; omega
    clear h1 h2 hT hL hl1 hl2 hbig
    go_enter Try.func8, Try.ntmps8
    go_wp2_with fail
    refine (SZ.out _).mono ?_
    rintro e w1 ⟨rfl, hb⟩
    have H1 := Lib.hid (cell_kept (heap_alloc_new w (.cells #[.slice a1 t.length c1, .slice a2 l.length c2, .int .i64 k, .bool b1, .bool b2] 44)) hb)
    have B1 := Lib.hid (below_up (below_new w (.cells #[.slice a1 t.length c1, .slice a2 l.length c2, .int .i64 k, .bool b1, .bool b2] 44)) hb (below_new w (.cells #[.slice a1 t.length c1, .slice a2 l.length c2, .int .i64 k, .bool b1, .bool b2] 44)).size)
    obtain ⟨c0, c1', c2', c3, c4⟩ := cells5 H1.out
    clear hb SZ
    go_wp2_with fail
    refine (TO.out _ ((R1.out.below B1.out (Nat.le_refl _)).mono B1.out.size) ((R2.out.below B1.out (Nat.le_refl _)).mono B1.out.size)).mono ?_
    rintro e w2 ⟨A0, cA0, B0, cB0, rfl, ho, hb⟩
    have P2 := Lib.hid ho; have H2 := Lib.hid (cell_kept H1.out hb); have B2 := Lib.hid (below_up B1.out hb B1.out.size)
    have hcp := ho.caps
    clear ho hb H1 B1 c0 c1' c2' c3 c4
    go_wp2_with fail
    refine (SP.out A0 cA0 B0 cB0 _ (P2.out.top ht) (P2.out.left hl) hcp.1 hcp.2).mono ?_
    rintro e w3 ⟨AY, cY, rfl, hoy, hb⟩
    have Y3 := Lib.hid (hoy.ints (by omega)); have SY3 := Lib.hid (Nat.le_refl w3.heap.size); clear hoy
    have H3 := Lib.hid (cell_kept H2.out hb); have B3 := Lib.hid (below_up B2.out hb B2.out.size)
    obtain ⟨c0, c1', c2', c3, c4⟩ := cells5 H3.out
    clear hb H2 B2 P2 hcp
    go_wp2_with fail
    refine (TO.out _ ((R1.out.below B3.out (Nat.le_refl _)).mono B3.out.size) ((R2.out.below B3.out (Nat.le_refl _)).mono B3.out.size)).mono ?_
    rintro e w4 ⟨A, cA, B, cB, rfl, ho, hb⟩
    have nb := below_new w4 (.cells #[.slice A t.length cA, .slice B l.length cB, .int .i64 k, .bool b1, .bool b2] 26)
    have hcp := ho.caps
    have X5 := Lib.hid (ho.kept nb (Nat.le_refl _)); have H4 := Lib.hid (cell_kept H3.out hb); have B4 := Lib.hid (below_up B3.out hb B3.out.size)
    have Y4 := Lib.hid (Y3.out.below hb SY3.out); have SY4 := Lib.hid (Nat.le_trans SY3.out hb.size); clear Y3 SY3
    have H5 := Lib.hid (cell_kept H4.out nb); have B5 := Lib.hid (below_up B4.out nb B4.out.size); have K5 := Lib.hid (heap_alloc_new w4 (.cells #[.slice A t.length cA, .slice B l.length cB, .int .i64 k, .bool b1, .bool b2] 26))
    have Y5 := Lib.hid (Y4.out.below nb SY4.out); have SY5 := Lib.hid (Nat.le_trans SY4.out nb.size); clear Y4 SY4
    have XB := Lib.hid ho.blocks; have SX := Lib.hid (heap_lt H3.out); have Y4s := Lib.hid hb.size; have B4s := Lib.hid (heap_lt H4.out)
    clear ho hb nb H3 B3 H4 B4 c0 c1' c2' c3 c4
    go_wp2_with fail
    refine (IM.out A cA B cB _ (X5.out.top ht) (X5.out.left hl) hcp.1 hcp.2).mono ?_
    rintro e w6 ⟨AG, cG, rfl, hog, hb⟩
    have G6 := Lib.hid hog; have SG6 := Lib.hid hb.size; clear hog
    have X6 := Lib.hid (X5.out.kept hb (Nat.le_refl _)); have H6 := Lib.hid (cell_kept H5.out hb); have K6 := Lib.hid (cell_kept K5.out hb); have B6 := Lib.hid (below_up B5.out hb B5.out.size)
    have Y6 := Lib.hid (Y5.out.below hb SY5.out); have SY6 := Lib.hid (Nat.le_trans SY5.out hb.size); clear Y5 SY5
    clear hb X5 H5 K5 B5 hcp
    go_wp2_with fail
    refine (EI.out AG AY cG cY x x _ (G6.out.ints (by omega)) (Y6.out.mono SY6.out)).mono ?_
    rintro e w7 ⟨rfl, hb⟩
    have G7 := Lib.hid (G6.out.kept hb (Nat.le_refl _)); have X7 := Lib.hid (X6.out.kept hb (Nat.le_refl _)); have H7 := Lib.hid (cell_kept H6.out hb); have K7 := Lib.hid (cell_kept K6.out hb); have B7 := Lib.hid (below_up B6.out hb B6.out.size); have SG7 := Lib.hid (Nat.le_trans SG6.out hb.size)
    have Y7 := Lib.hid (Y6.out.below hb SY6.out); have SY7 := Lib.hid (Nat.le_trans SY6.out hb.size); clear Y6 SY6
    clear hb G6 SG6 X6 H6 K6 B6
    obtain ⟨c0, c1', c2', c3, c4⟩ := cells5 H7.out
    obtain ⟨d0, d1, d2, d3, d4⟩ := cells5 K7.out
    have hS : w7.cell? ⟨w.heap.size, 0, none⟩ = some (.slice a1 t.length c1) ∧ w7.cell? ⟨w.heap.size, 1, none⟩ = some (.slice a2 l.length c2) ∧ w7.cell? ⟨w.heap.size, 2, none⟩ = some (.int .i64 k) ∧ w7.cell? ⟨w.heap.size, 3, none⟩ = some (.bool b1) ∧ w7.cell? ⟨w.heap.size, 4, none⟩ = some (.bool b2) ∧ w7.cell? ⟨w4.heap.size, 0, none⟩ = some (.slice A t.length cA) ∧ w7.cell? ⟨w4.heap.size, 1, none⟩ = some (.slice B l.length cB) ∧ w7.cell? ⟨w4.heap.size, 2, none⟩ = some (.int .i64 k) ∧ w7.cell? ⟨w4.heap.size, 3, none⟩ = some (.bool b1) ∧ w7.cell? ⟨w4.heap.size, 4, none⟩ = some (.bool b2) ∧ NbOwn w7 w3.heap.size A cA B cB t l ∧ Below w7.heap.size w7 w7 := ⟨c0, c1', c2', c3, c4, d0, d1, d2, d3, d4, X7.out, Below.refl _ _⟩
    have TOS : Hid (∀ wr, (wr.cell? ⟨w.heap.size, 0, none⟩ = some (.slice a1 t.length c1) ∧ wr.cell? ⟨w.heap.size, 1, none⟩ = some (.slice a2 l.length c2) ∧ wr.cell? ⟨w.heap.size, 2, none⟩ = some (.int .i64 k) ∧ wr.cell? ⟨w.heap.size, 3, none⟩ = some (.bool b1) ∧ wr.cell? ⟨w.heap.size, 4, none⟩ = some (.bool b2) ∧ wr.cell? ⟨w4.heap.size, 0, none⟩ = some (.slice A t.length cA) ∧ wr.cell? ⟨w4.heap.size, 1, none⟩ = some (.slice B l.length cB) ∧ wr.cell? ⟨w4.heap.size, 2, none⟩ = some (.int .i64 k) ∧ wr.cell? ⟨w4.heap.size, 3, none⟩ = some (.bool b1) ∧ wr.cell? ⟨w4.heap.size, 4, none⟩ = some (.bool b2) ∧ NbOwn wr w3.heap.size A cA B cB t l ∧ Below w7.heap.size w7 wr) → Calls Try.prog 33 #[.agg #[.slice a1 t.length c1, .slice a2 l.length c2, .int .i64 k, .bool b1, .bool b2]] wr fun e w' => ∃ A' cA' B' cB', e = .returned (.agg #[.slice A' t.length cA', .slice B' l.length cB', .int .i64 k, .bool b1, .bool b2]) ∧ NbOwn w' wr.heap.size A' cA' B' cB' t l ∧ Below wr.heap.size wr w') := Lib.hid fun wr h => TO.out wr ((R1.out.below (below_up B7.out (nb_held_below h) B7.out.size) (Nat.le_refl _)).mono (below_up B7.out (nb_held_below h) B7.out.size).size) ((R2.out.below (below_up B7.out (nb_held_below h) B7.out.size) (Nat.le_refl _)).mono (below_up B7.out (nb_held_below h) B7.out.size).size)
    have EQS : Hid (∀ wr C cC D cD bs, (wr.cell? ⟨w.heap.size, 0, none⟩ = some (.slice a1 t.length c1) ∧ wr.cell? ⟨w.heap.size, 1, none⟩ = some (.slice a2 l.length c2) ∧ wr.cell? ⟨w.heap.size, 2, none⟩ = some (.int .i64 k) ∧ wr.cell? ⟨w.heap.size, 3, none⟩ = some (.bool b1) ∧ wr.cell? ⟨w.heap.size, 4, none⟩ = some (.bool b2) ∧ wr.cell? ⟨w4.heap.size, 0, none⟩ = some (.slice A t.length cA) ∧ wr.cell? ⟨w4.heap.size, 1, none⟩ = some (.slice B l.length cB) ∧ wr.cell? ⟨w4.heap.size, 2, none⟩ = some (.int .i64 k) ∧ wr.cell? ⟨w4.heap.size, 3, none⟩ = some (.bool b1) ∧ wr.cell? ⟨w4.heap.size, 4, none⟩ = some (.bool b2) ∧ NbOwn wr w3.heap.size A cA B cB t l ∧ Below w7.heap.size w7 wr) → NbOwn wr bs C cC D cD t l → Calls Try.prog 34 #[.agg #[.slice A t.length cA, .slice B l.length cB, .int .i64 k, .bool b1, .bool b2], .agg #[.slice C t.length cC, .slice D l.length cD, .int .i64 k, .bool b1, .bool b2]] wr fun e w' => e = .returned (.bool true) ∧ Below wr.heap.size wr w') := Lib.hid fun wr C cC D cD bs h ho => EQ.out A B C D cA cB cC cD wr (h.2.2.2.2.2.2.2.2.2.2.1.top ht) (h.2.2.2.2.2.2.2.2.2.2.1.left hl) (ho.top ht) (ho.left hl)
    clear c0 c1' c2' c3 c4 d0 d1 d2 d3 d4
    go_wp2_with fail
    go_region_held3 (fun w' => w'.cell? ⟨w.heap.size, 0, none⟩ = some (.slice a1 t.length c1) ∧ w'.cell? ⟨w.heap.size, 1, none⟩ = some (.slice a2 l.length c2) ∧ w'.cell? ⟨w.heap.size, 2, none⟩ = some (.int .i64 k) ∧ w'.cell? ⟨w.heap.size, 3, none⟩ = some (.bool b1) ∧ w'.cell? ⟨w.heap.size, 4, none⟩ = some (.bool b2) ∧ w'.cell? ⟨w4.heap.size, 0, none⟩ = some (.slice A t.length cA) ∧ w'.cell? ⟨w4.heap.size, 1, none⟩ = some (.slice B l.length cB) ∧ w'.cell? ⟨w4.heap.size, 2, none⟩ = some (.int .i64 k) ∧ w'.cell? ⟨w4.heap.size, 3, none⟩ = some (.bool b1) ∧ w'.cell? ⟨w4.heap.size, 4, none⟩ = some (.bool b2) ∧ NbOwn w' w3.heap.size A cA B cB t l ∧ Below w7.heap.size w7 w')
      (first | with_reducible assumption | (with_reducible refine nb_hold_drew ?_; with_reducible assumption) | (with_reducible refine nb_hold ?_ (by with_reducible assumption); with_reducible assumption))
      (first
        | (go_at_call 33; with_reducible refine (TOS.out _ (by with_reducible assumption)).mono ?_; rintro e w8 ⟨C, cC, D, cD, rfl, ho', hb'⟩)
        | (go_at_call 34; with_reducible refine (EQS.out _ _ _ _ _ _ (by with_reducible assumption) (by first | with_reducible assumption | (with_reducible refine NbOwn.drew ?_; with_reducible assumption))).mono ?_; rintro e w9 ⟨rfl, hb9⟩))
    all_goals
      have hb : Below w7.heap.size w7 w9 := nb_held_below (by with_reducible assumption)
      have G9 := Lib.hid (G7.out.kept hb (Nat.le_refl _)); have X9 := Lib.hid (X7.out.kept hb (Nat.le_refl _)); have H9 := Lib.hid (cell_kept H7.out hb); have K9 := Lib.hid (cell_kept K7.out hb); have B9 := Lib.hid (below_up B7.out hb B7.out.size); have SG9 := Lib.hid (Nat.le_trans SG7.out hb.size)
      have Y9 := Lib.hid (Y7.out.below hb SY7.out); have SY9 := Lib.hid (Nat.le_trans SY7.out hb.size)
      clear hb G7 X7 H7 K7 B7 SG7 Y7 SY7 TOS EQS
      obtain ⟨d0, d1, d2, d3, d4⟩ := cells5 K9.out
      go_wp2_with fail
      refine (MK.out _ _ _ _ _ _ X9.out).mono ?_
      rintro e w10 ⟨rfl, wm, hg1, hg2⟩
      obtain ⟨xb1, xb2⟩ := XB.out
      have hsx := SX.out
      have G10 := Lib.hid (own_two_marked G9.out hg1 hg2 (fun j hj => by have := (xb1 j hj).2; simp; omega) (fun j hj => by have := (xb2 j hj).2; simp; omega))
      have Y10 := Lib.hid (ints_two_marked Y9.out SY9.out hg1 hg2 (fun j hj => (xb1 j hj).1) (fun j hj => (xb2 j hj).1))
      have B10 := Lib.hid (below_two_marked B9.out B9.out.size hg1 hg2 (fun j hj => by have := (xb1 j hj).1; omega) (fun j hj => by have := (xb2 j hj).1; omega))
      have H10 := Lib.hid (heap_two_marked H9.out hg1 hg2 (fun j hj => by have := (xb1 j hj).1; omega) (fun j hj => by have := (xb2 j hj).1; omega))
      have SG10 := Lib.hid (Nat.le_trans SG9.out (Nat.le_trans hg1.size hg2.size)); have SY10 := Lib.hid (Nat.le_trans SY9.out (Nat.le_trans hg1.size hg2.size))
      clear hg1 hg2 xb1 xb2 hsx d0 d1 d2 d3 d4 G9 Y9 B9 H9 SG9 SY9 X9 K9 XB SX
      go_wp2_with fail
      refine (EI.out AG AY cG cY x x _ (G10.out.ints (by omega)) (Y10.out.mono SY10.out)).mono ?_
      rintro e w11 ⟨rfl, hb⟩
      have G11 := Lib.hid (G10.out.kept hb (Nat.le_refl _)); have Y11 := Lib.hid (Y10.out.below hb SY10.out); have SY11 := Lib.hid (Nat.le_trans SY10.out hb.size); have SG11 := Lib.hid (Nat.le_trans SG10.out hb.size); have H11 := Lib.hid (cell_kept H10.out hb); have B11 := Lib.hid (below_up B10.out hb B10.out.size)
      clear hb G10 Y10 SY10 SG10 H10 B10
      go_wp2_with fail
      refine (MI.out _ _ _ _ _ (by omega) (by omega) (by omega) _ G11.out).mono ?_
      rintro e w12 ⟨rfl, ho, hg⟩
      have hgb := G11.out.block
      have Gm12 := Lib.hid (ho.ints (by rw [markL_len]; omega)); have SGm12 := Lib.hid (Nat.le_refl w12.heap.size)
      have Y12 := Lib.hid (Y11.out.grown hg SY11.out fun j hj => by have := (hgb j hj).1; have h2 := Y4s.out; simp at this; omega); have SY12 := Lib.hid (Nat.le_trans SY11.out hg.size)
      have B12 := Lib.hid (B11.out.grown hg B11.out.size fun j hj => by have := (hgb j hj).1; have h2 := B4s.out; simp at this; omega)
      have H12 := Lib.hid ((hg.block w.heap.size (heap_lt H11.out) (fun e => by have := (hgb _ e.symm).1; have h2 := B4s.out; simp at this; omega)).trans H11.out)
      clear ho hg hgb G11 Y11 SY11 SG11 H11 B11
      go_wp2_with fail
      refine (HI.out _ _ _ _ (by omega) (by omega) _ (Gm12.out.mono SGm12.out)).mono ?_
      rintro e w13 ⟨rfl, hb⟩
      have Gm13 := Lib.hid (Gm12.out.below hb SGm12.out); have SGm13 := Lib.hid (Nat.le_trans SGm12.out hb.size); have Y13 := Lib.hid (Y12.out.below hb SY12.out); have SY13 := Lib.hid (Nat.le_trans SY12.out hb.size); have H13 := Lib.hid (cell_kept H12.out hb); have B13 := Lib.hid (below_up B12.out hb B12.out.size)
      clear hb Gm12 SGm12 Y12 SY12 H12 B12
      obtain ⟨c0, c1', c2', c3, c4⟩ := cells5 H13.out
      go_wp2_with fail
      refine (TO.out _ ((R1.out.below B13.out (Nat.le_refl _)).mono B13.out.size) ((R2.out.below B13.out (Nat.le_refl _)).mono B13.out.size)).mono ?_
      rintro e w14 ⟨C, cC, D, cD, rfl, ho, hb⟩
      have Z14 := Lib.hid ho; have hcp := ho.caps; clear ho
      clear c0 c1' c2' c3 c4
      have Gm14 := Lib.hid (Gm13.out.below hb SGm13.out); have SGm14 := Lib.hid (Nat.le_trans SGm13.out hb.size); have Y14 := Lib.hid (Y13.out.below hb SY13.out); have SY14 := Lib.hid (Nat.le_trans SY13.out hb.size); have H14 := Lib.hid (cell_kept H13.out hb); have B14 := Lib.hid (below_up B13.out hb B13.out.size)
      clear hb Gm13 SGm13 Y13 SY13 H13 B13
      go_wp2_with fail
      refine (IM.out C cC D cD _ (Z14.out.top ht) (Z14.out.left hl) hcp.1 hcp.2).mono ?_
      rintro e w15 ⟨AH, cH, rfl, hoh, hb⟩
      have Q15 := Lib.hid (hoh.ints (by omega)); clear hoh Z14 hcp
      have Gm15 := Lib.hid (Gm14.out.below hb SGm14.out); have SGm15 := Lib.hid (Nat.le_trans SGm14.out hb.size); have Y15 := Lib.hid (Y14.out.below hb SY14.out); have SY15 := Lib.hid (Nat.le_trans SY14.out hb.size); have H15 := Lib.hid (cell_kept H14.out hb); have B15 := Lib.hid (below_up B14.out hb B14.out.size)
      clear hb Gm14 SGm14 Y14 SY14 H14 B14
      go_wp2_with fail
      refine (EI.out AH AY cH cY x x _ Q15.out (Y15.out.mono SY15.out)).mono ?_
      rintro e w16 ⟨rfl, hb⟩
      clear Q15
      have Gm16 := Lib.hid (Gm15.out.below hb SGm15.out); have SGm16 := Lib.hid (Nat.le_trans SGm15.out hb.size); have Y16 := Lib.hid (Y15.out.below hb SY15.out); have SY16 := Lib.hid (Nat.le_trans SY15.out hb.size); have H16 := Lib.hid (cell_kept H15.out hb); have B16 := Lib.hid (below_up B15.out hb B15.out.size)
      clear hb Gm15 SGm15 Y15 SY15 H15 B15
      go_wp2_with fail
      refine (HI.out _ _ _ _ (by omega) (by omega) _ (Gm16.out.mono SGm16.out)).mono ?_
      rintro e w17 ⟨rfl, hb⟩
      have Gm17 := Lib.hid (Gm16.out.below hb SGm16.out); have SGm17 := Lib.hid (Nat.le_trans SGm16.out hb.size); have Y17 := Lib.hid (Y16.out.below hb SY16.out); have SY17 := Lib.hid (Nat.le_trans SY16.out hb.size); have H17 := Lib.hid (cell_kept H16.out hb); have B17 := Lib.hid (below_up B16.out hb B16.out.size)
      clear hb Gm16 SGm16 Y16 SY16 H16 B16
      go_wp2
      go_ret
      exact ⟨rfl, B17.out⟩

end Go.Proofs.Ytjgbenhjafgimaa
