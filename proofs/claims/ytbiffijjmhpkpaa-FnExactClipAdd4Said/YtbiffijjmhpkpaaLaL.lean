/-
  The walks of the laws of Pack4, Unpack4, AddLanes, ClipLanes, ClipAdd4. No condition.
-/
import Derived.Test.YtbiffijjmhpkpaaLaJ
import Derived.Test.YtbiffijjmhpkpaaPut
namespace Go.Proofs.Ytbiffijjmhpkpaa
open Go.RowKit
set_option linter.unusedVariables false

theorem wf64 {n : Int} (h : (Lit.int .i64 n).wf = true) : -9223372036854775808 ≤ n ∧ n ≤ 9223372036854775807 := by
  simp [Lit.wf, IntKind.min, IntKind.max, IntKind.signed, IntKind.bits] at h
  omega
theorem same_below {P : Program} {f : FuncId} {args : Array Value} {w : World} {r : Ending} (h : Calls P f args w fun e w' => e = r ∧ w' = w) : Calls P f args w fun e w' => e = r ∧ Below w.heap.size w w' :=
  h.mono fun e w' k => ⟨k.1, by rw [k.2]; exact Below.refl _ _⟩
set_option maxRecDepth 100000 in
set_option maxHeartbeats 2000000 in
/-- The law's own walk, by contracts of the two texts. -/
theorem fnExactPack4_walk (a_l : Option Addr) (len_l cap_l : Nat) (zs_l : List Int) (w : World) (hr_l : IsRow .i64 w a_l len_l cap_l zs_l) :
    Calls Try.prog 4 #[.slice a_l len_l cap_l] w fun e w' => e = .returned (.bool true) ∧ Below w.heap.size w w' := by
  have hlm_l := hr_l.len_le
  unfold maxLen at hlm_l
  by_cases hbig_l : 1048576 < len_l
  · go_enter Try.func4, Try.ntmps4
    go_wp2
    go_ret
    exact ⟨rfl, Below.refl _ _⟩
  · have hqb_l : decide (1048576 < (len_l : Int)) = false := by simp; omega
    obtain ⟨l_l, rfl, hI_l, _, _⟩ := ints_of hr_l (by omega)
    have R_l := Lib.hid hI_l; clear hI_l hr_l
    have hll_l : l_l.length ≤ 1048576 := by omega
    have hmk_l : decide ((1 : Int) + (l_l.length : Int) < 0) = false := by simp; omega
    clear hbig_l hlm_l
    have TO_ints := Lib.hid @toints_any
    have EQ_ints := Lib.hid @eqints_any
    have MARK_ints := Lib.hid @markints_any
    have HELD_ints := Lib.hid @heldints_any
    have SP := Lib.hid (fun A c w h => same_below (spec_pack_any A c l_l w h))
    have IM := Lib.hid (fun A c w h => impl_pack_any A c l_l w h)
    obtain ⟨x0, hx0⟩ : ∃ x, x = paqV l_l := ⟨_, rfl⟩
    rw [← hx0] at SP IM
    have hq0 : (x0 != x0) = false := by simp
    clear hx0
    obtain ⟨x1, hx1⟩ : ∃ x, x = paqE l_l := ⟨_, rfl⟩
    rw [← hx1] at SP IM
    have hq1 : (x1 != x1) = false := by simp
    clear hx1
    go_enter Try.func4, Try.ntmps4
    go_wp2_with fail
    refine (TO_ints.out _ _ _ (by omega) _ R_l.out).mono ?_
    rintro e w1 ⟨APl, cPl, rfl, ho, hb⟩
    have SPl_1 := Lib.hid hb.size
    have DPl : Hid (w.heap.size ≤ w.heap.size) := Lib.hid ((Below.refl w.heap.size w).size)
    have B1 := Lib.hid hb
    clear hb
    have Pl_1 := Lib.hid ho; clear ho
    go_wp2_with fail
    refine (SP.out _ _ _ (Pl_1.out.ints (by omega))).mono ?_
    rintro e w2 ⟨rfl, hb⟩
    have Pl_2 := Lib.hid (Pl_1.out.kept hb (Nat.le_refl _))
    have SPl_2 := Lib.hid (Nat.le_trans SPl_1.out hb.size)
    have B2 := Lib.hid (below_up B1.out hb B1.out.size)
    clear hb Pl_1 SPl_1
    clear Pl_2 SPl_2
    go_wp2_with fail
    refine (TO_ints.out _ _ _ (by omega) _ ((R_l.out.below B2.out (Nat.le_refl _)).mono B2.out.size)).mono ?_
    rintro e w3 ⟨AXl, cXl, rfl, ho, hb⟩
    have SXl_3 := Lib.hid hb.size
    have DXl : Hid (w.heap.size ≤ w2.heap.size) := Lib.hid (B2.out.size)
    have B3 := Lib.hid (below_up B2.out hb B2.out.size)
    clear hb
    have Xl_3 := Lib.hid ho; clear ho
    go_wp2_with fail
    refine (IM.out _ _ _ (Xl_3.out.ints (by omega))).mono ?_
    rintro e w4 ⟨rfl, hb⟩
    have Xl_4 := Lib.hid (Xl_3.out.kept hb (Nat.le_refl _))
    have SXl_4 := Lib.hid (Nat.le_trans SXl_3.out hb.size)
    have B4 := Lib.hid (below_up B3.out hb B3.out.size)
    clear hb Xl_3 SXl_3
    go_wp2_with fail
    refine (TO_ints.out _ _ _ (by omega) _ ((R_l.out.below B4.out (Nat.le_refl _)).mono B4.out.size)).mono ?_
    rintro e w5 ⟨AQl, cQl, rfl, ho, hb⟩
    have U_Xl_Ql := Lib.hid (fun j hj => (Xl_4.out.block j hj).2)
    have V_Xl_Ql := SXl_4
    have SQl_5 := Lib.hid hb.size
    have DQl : Hid (w.heap.size ≤ w4.heap.size) := Lib.hid (B4.out.size)
    have Xl_5 := Lib.hid (Xl_4.out.kept hb (Nat.le_refl _))
    have SXl_5 := Lib.hid (Nat.le_trans SXl_4.out hb.size)
    have B5 := Lib.hid (below_up B4.out hb B4.out.size)
    clear hb Xl_4 SXl_4
    have Ql_5 := Lib.hid ho; clear ho
    go_wp2_with fail
    refine (EQ_ints.out _ _ _ _ _ _ _ (Xl_5.out.ints (by omega)) (Ql_5.out.ints (by omega))).mono ?_
    rintro e w6 ⟨rfl, hb⟩
    have Xl_6 := Lib.hid (Xl_5.out.kept hb (Nat.le_refl _))
    have SXl_6 := Lib.hid (Nat.le_trans SXl_5.out hb.size)
    have Ql_6 := Lib.hid (Ql_5.out.kept hb (Nat.le_refl _))
    have SQl_6 := Lib.hid (Nat.le_trans SQl_5.out hb.size)
    have B6 := Lib.hid (below_up B5.out hb B5.out.size)
    clear hb Xl_5 SXl_5 Ql_5 SQl_5
    clear Ql_6 SQl_6
    go_wp2
    go_ret
    exact ⟨rfl, B6.out⟩


set_option maxRecDepth 100000 in
set_option maxHeartbeats 2000000 in
/-- The law's own walk, by contracts of the two texts. -/
theorem fnExactUnpack4_walk (n : Int) (wf_n : (Lit.int .i64 n).wf = true) (w : World)  :
    Calls Try.prog 5 #[.int .i64 n] w fun e w' => e = .returned (.bool true) ∧ Below w.heap.size w w' := by
  have TO_ints := Lib.hid @toints_any
  have EQ_ints := Lib.hid @eqints_any
  have MARK_ints := Lib.hid @markints_any
  have HELD_ints := Lib.hid @heldints_any
  have SP := Lib.hid (fun w => spec_unpack_any n (wf64 wf_n).2 w)
  have IM := Lib.hid (fun w => impl_unpack_any n (wf64 wf_n).1 (wf64 wf_n).2 w)
  have hx0l := upL_len n
  obtain ⟨x0, hx0⟩ : ∃ x, x = upL n := ⟨_, rfl⟩
  rw [← hx0] at SP IM
  rw [← hx0] at hx0l
  have hm0 : decide ((1 : Int) + (x0.length : Int) < 0) = false := by simp; omega
  have hq0 : ((1 : Int) + (x0.length : Int) != 1 + (x0.length : Int)) = false := by simp
  clear hx0
  go_enter Try.func5, Try.ntmps5
  go_wp2_with fail
  refine (SP.out  _ ).mono ?_
  rintro e w1 ⟨AY, cY, rfl, ho, hb⟩
  have SY_1 := Lib.hid (Nat.le_refl w1.heap.size)
  have B1 := Lib.hid hb
  clear hb
  have Y_1 := Lib.hid (ho.ints (by omega)); clear ho
  go_wp2_with fail
  refine (IM.out  _ ).mono ?_
  rintro e w2 ⟨AG, cG, rfl, ho, hb⟩
  have T_Y_G := SY_1
  have DG : Hid (w.heap.size ≤ w1.heap.size) := Lib.hid (B1.out.size)
  have SG_2 := Lib.hid hb.size
  have Y_2 := Lib.hid (Y_1.out.below hb SY_1.out)
  have SY_2 := Lib.hid (Nat.le_trans SY_1.out hb.size)
  have B2 := Lib.hid (below_up B1.out hb B1.out.size)
  clear hb Y_1 SY_1
  have G_2 := Lib.hid ho; clear ho
  go_wp2_with fail
  refine (EQ_ints.out _ _ _ _ _ _ _ (G_2.out.ints (by omega)) (Y_2.out.mono SY_2.out)).mono ?_
  rintro e w3 ⟨rfl, hb⟩
  have G_3 := Lib.hid (G_2.out.kept hb (Nat.le_refl _))
  have SG_3 := Lib.hid (Nat.le_trans SG_2.out hb.size)
  have Y_3 := Lib.hid (Y_2.out.below hb SY_2.out)
  have SY_3 := Lib.hid (Nat.le_trans SY_2.out hb.size)
  have B3 := Lib.hid (below_up B2.out hb B2.out.size)
  clear hb G_2 SG_2 Y_2 SY_2
  go_wp2_with fail
  refine (MARK_ints.out _ _ _ _ _ (by omega) (by omega) (by omega) _ G_3.out).mono ?_
  rintro e w4 ⟨rfl, ho, hg⟩
  have Y_4 := Lib.hid (Y_3.out.grown hg SY_3.out fun j hj => Nat.le_trans T_Y_G.out (G_3.out.block j hj).1)
  have SY_4 := Lib.hid (Nat.le_trans SY_3.out hg.size)
  have B4 := Lib.hid (B3.out.trans (G_3.out.marked hg (B := w.heap.size) DG.out B3.out.size))
  have Gm_4 := Lib.hid (ho.ints (by rw [markL_len]; omega))
  have SGm_4 := Lib.hid (Nat.le_refl w4.heap.size)
  clear ho hg G_3 SG_3 Y_3 SY_3
  go_wp2_with fail
  refine (HELD_ints.out _ _ _ _ (by omega) (by omega) _ (Gm_4.out.mono SGm_4.out)).mono ?_
  rintro e w5 ⟨rfl, hb⟩
  have Y_5 := Lib.hid (Y_4.out.below hb SY_4.out)
  have SY_5 := Lib.hid (Nat.le_trans SY_4.out hb.size)
  have Gm_5 := Lib.hid (Gm_4.out.below hb SGm_4.out)
  have SGm_5 := Lib.hid (Nat.le_trans SGm_4.out hb.size)
  have B5 := Lib.hid (below_up B4.out hb B4.out.size)
  clear hb Y_4 SY_4 Gm_4 SGm_4
  go_wp2_with fail
  refine (IM.out  _ ).mono ?_
  rintro e w6 ⟨AH, cH, rfl, ho, hb⟩
  have SH_6 := Lib.hid (Nat.le_refl w6.heap.size)
  have Y_6 := Lib.hid (Y_5.out.below hb SY_5.out)
  have SY_6 := Lib.hid (Nat.le_trans SY_5.out hb.size)
  have Gm_6 := Lib.hid (Gm_5.out.below hb SGm_5.out)
  have SGm_6 := Lib.hid (Nat.le_trans SGm_5.out hb.size)
  have B6 := Lib.hid (below_up B5.out hb B5.out.size)
  clear hb Y_5 SY_5 Gm_5 SGm_5
  have H_6 := Lib.hid (ho.ints (by omega)); clear ho
  go_wp2_with fail
  refine (EQ_ints.out _ _ _ _ _ _ _ (H_6.out.mono SH_6.out) (Y_6.out.mono SY_6.out)).mono ?_
  rintro e w7 ⟨rfl, hb⟩
  have Y_7 := Lib.hid (Y_6.out.below hb SY_6.out)
  have SY_7 := Lib.hid (Nat.le_trans SY_6.out hb.size)
  have Gm_7 := Lib.hid (Gm_6.out.below hb SGm_6.out)
  have SGm_7 := Lib.hid (Nat.le_trans SGm_6.out hb.size)
  have H_7 := Lib.hid (H_6.out.below hb SH_6.out)
  have SH_7 := Lib.hid (Nat.le_trans SH_6.out hb.size)
  have B7 := Lib.hid (below_up B6.out hb B6.out.size)
  clear hb Y_6 SY_6 Gm_6 SGm_6 H_6 SH_6
  clear H_7 SH_7
  clear Y_7 SY_7
  go_wp2_with fail
  refine (HELD_ints.out _ _ _ _ (by omega) (by omega) _ (Gm_7.out.mono SGm_7.out)).mono ?_
  rintro e w8 ⟨rfl, hb⟩
  have Gm_8 := Lib.hid (Gm_7.out.below hb SGm_7.out)
  have SGm_8 := Lib.hid (Nat.le_trans SGm_7.out hb.size)
  have B8 := Lib.hid (below_up B7.out hb B7.out.size)
  clear hb Gm_7 SGm_7
  go_wp2
  go_ret
  exact ⟨rfl, B8.out⟩


set_option maxRecDepth 100000 in
set_option maxHeartbeats 2000000 in
/-- The law's own walk, by contracts of the two texts. -/
theorem fnExactAddLanes_walk (a : Int) (b : Int) (wf_a : (Lit.int .i64 a).wf = true) (wf_b : (Lit.int .i64 b).wf = true) (w : World)  :
    Calls Try.prog 6 #[.int .i64 a, .int .i64 b] w fun e w' => e = .returned (.bool true) ∧ Below w.heap.size w w' := by
  have SP := Lib.hid (fun w => spec_addlanes_any a b (wf64 wf_a).2 (wf64 wf_b).2 w)
  have IM := Lib.hid (fun w => same_below (impl_addlanes_any a b (wf64 wf_a).1 (wf64 wf_a).2 (wf64 wf_b).1 (wf64 wf_b).2 w))
  obtain ⟨x0, hx0⟩ : ∃ x, x = adV a b := ⟨_, rfl⟩
  rw [← hx0] at SP IM
  have hq0 : (x0 != x0) = false := by simp
  clear hx0
  obtain ⟨x1, hx1⟩ : ∃ x, x = adE a b := ⟨_, rfl⟩
  rw [← hx1] at SP IM
  have hq1 : (x1 != x1) = false := by simp
  clear hx1
  go_enter Try.func6, Try.ntmps6
  go_wp2_with fail
  refine (SP.out  _ ).mono ?_
  rintro e w1 ⟨rfl, hb⟩
  have B1 := Lib.hid hb
  clear hb
  go_wp2_with fail
  refine (IM.out  _ ).mono ?_
  rintro e w2 ⟨rfl, hb⟩
  have B2 := Lib.hid (below_up B1.out hb B1.out.size)
  clear hb
  go_wp2
  go_ret
  exact ⟨rfl, B2.out⟩


set_option maxRecDepth 100000 in
set_option maxHeartbeats 2000000 in
/-- The law's own walk, by contracts of the two texts. -/
theorem fnExactClipLanes_walk (n : Int) (wf_n : (Lit.int .i64 n).wf = true) (w : World)  :
    Calls Try.prog 7 #[.int .i64 n] w fun e w' => e = .returned (.bool true) ∧ Below w.heap.size w w' := by
  have SP := Lib.hid (fun w => spec_cliplanes_any n (wf64 wf_n).2 w)
  have IM := Lib.hid (fun w => same_below (impl_cliplanes_any n (wf64 wf_n).1 (wf64 wf_n).2 w))
  obtain ⟨x0, hx0⟩ : ∃ x, x = clV n := ⟨_, rfl⟩
  rw [← hx0] at SP IM
  have hq0 : (x0 != x0) = false := by simp
  clear hx0
  go_enter Try.func7, Try.ntmps7
  go_wp2_with fail
  refine (SP.out  _ ).mono ?_
  rintro e w1 ⟨rfl, hb⟩
  have B1 := Lib.hid hb
  clear hb
  go_wp2_with fail
  refine (IM.out  _ ).mono ?_
  rintro e w2 ⟨rfl, hb⟩
  have B2 := Lib.hid (below_up B1.out hb B1.out.size)
  clear hb
  go_wp2
  go_ret
  exact ⟨rfl, B2.out⟩


set_option maxRecDepth 100000 in
set_option maxHeartbeats 2000000 in
/-- The law's own walk, by contracts of the two texts. -/
theorem fnExactClipAdd4_walk (a_p : Option Addr) (len_p cap_p : Nat) (zs_p : List Int) (a_r : Option Addr) (len_r cap_r : Nat) (zs_r : List Int) (w : World) (hr_p : IsRow .i64 w a_p len_p cap_p zs_p) (hr_r : IsRow .i64 w a_r len_r cap_r zs_r) :
    Calls Try.prog 8 #[.slice a_p len_p cap_p, .slice a_r len_r cap_r] w fun e w' => e = .returned (.bool true) ∧ Below w.heap.size w w' := by
  have hlm_p := hr_p.len_le
  unfold maxLen at hlm_p
  have hlm_r := hr_r.len_le
  unfold maxLen at hlm_r
  by_cases hbig_p : 1048576 < len_p
  · go_enter Try.func8, Try.ntmps8
    go_wp2
    go_ret
    exact ⟨rfl, Below.refl _ _⟩
  · have hqb_p : decide (1048576 < (len_p : Int)) = false := by simp; omega
    by_cases hbig_r : 1048576 < len_r
    · go_enter Try.func8, Try.ntmps8
      go_wp2
      go_ret
      exact ⟨rfl, Below.refl _ _⟩
    · have hqb_r : decide (1048576 < (len_r : Int)) = false := by simp; omega
      obtain ⟨l_p, rfl, hI_p, _, _⟩ := ints_of hr_p (by omega)
      have R_p := Lib.hid hI_p; clear hI_p hr_p
      have hll_p : l_p.length ≤ 1048576 := by omega
      have hmk_p : decide ((1 : Int) + (l_p.length : Int) < 0) = false := by simp; omega
      clear hbig_p hlm_p
      obtain ⟨l_r, rfl, hI_r, _, _⟩ := ints_of hr_r (by omega)
      have R_r := Lib.hid hI_r; clear hI_r hr_r
      have hll_r : l_r.length ≤ 1048576 := by omega
      have hmk_r : decide ((1 : Int) + (l_r.length : Int) < 0) = false := by simp; omega
      clear hbig_r hlm_r
      have TO_ints := Lib.hid @toints_any
      have EQ_ints := Lib.hid @eqints_any
      have MARK_ints := Lib.hid @markints_any
      have HELD_ints := Lib.hid @heldints_any
      have SP := Lib.hid (fun A c B d w h k => spec_clipadd4_any A B c d l_p l_r w h k)
      have IM := Lib.hid (fun A c B d w h k => impl_clipadd4_any A B c d l_p l_r w h k)
      have hx0l := caL_len l_p l_r
      obtain ⟨x0, hx0⟩ : ∃ x, x = caL l_p l_r := ⟨_, rfl⟩
      rw [← hx0] at SP IM
      rw [← hx0] at hx0l
      have hm0 : decide ((1 : Int) + (x0.length : Int) < 0) = false := by simp; omega
      have hq0 : ((1 : Int) + (x0.length : Int) != 1 + (x0.length : Int)) = false := by simp
      clear hx0
      go_enter Try.func8, Try.ntmps8
      go_wp2_with fail
      refine (TO_ints.out _ _ _ (by omega) _ R_p.out).mono ?_
      rintro e w1 ⟨APp, cPp, rfl, ho, hb⟩
      have SPp_1 := Lib.hid hb.size
      have DPp : Hid (w.heap.size ≤ w.heap.size) := Lib.hid ((Below.refl w.heap.size w).size)
      have B1 := Lib.hid hb
      clear hb
      have Pp_1 := Lib.hid ho; clear ho
      go_wp2_with fail
      refine (TO_ints.out _ _ _ (by omega) _ ((R_r.out.below B1.out (Nat.le_refl _)).mono B1.out.size)).mono ?_
      rintro e w2 ⟨APr, cPr, rfl, ho, hb⟩
      have U_Pp_Pr := Lib.hid (fun j hj => (Pp_1.out.block j hj).2)
      have V_Pp_Pr := SPp_1
      have SPr_2 := Lib.hid hb.size
      have DPr : Hid (w.heap.size ≤ w1.heap.size) := Lib.hid (B1.out.size)
      have Pp_2 := Lib.hid (Pp_1.out.kept hb (Nat.le_refl _))
      have SPp_2 := Lib.hid (Nat.le_trans SPp_1.out hb.size)
      have B2 := Lib.hid (below_up B1.out hb B1.out.size)
      clear hb Pp_1 SPp_1
      have Pr_2 := Lib.hid ho; clear ho
      go_wp2_with fail
      refine (SP.out _ _ _ _ _ (Pp_2.out.ints (by omega)) (Pr_2.out.ints (by omega))).mono ?_
      rintro e w3 ⟨AY, cY, rfl, ho, hb⟩
      have SY_3 := Lib.hid (Nat.le_refl w3.heap.size)
      have Pp_3 := Lib.hid (Pp_2.out.kept hb (Nat.le_refl _))
      have SPp_3 := Lib.hid (Nat.le_trans SPp_2.out hb.size)
      have Pr_3 := Lib.hid (Pr_2.out.kept hb (Nat.le_refl _))
      have SPr_3 := Lib.hid (Nat.le_trans SPr_2.out hb.size)
      have B3 := Lib.hid (below_up B2.out hb B2.out.size)
      clear hb Pp_2 SPp_2 Pr_2 SPr_2
      have Y_3 := Lib.hid (ho.ints (by omega)); clear ho
      clear Pp_3 SPp_3
      clear Pr_3 SPr_3
      go_wp2_with fail
      refine (TO_ints.out _ _ _ (by omega) _ ((R_p.out.below B3.out (Nat.le_refl _)).mono B3.out.size)).mono ?_
      rintro e w4 ⟨AXp, cXp, rfl, ho, hb⟩
      have T_Y_Xp := SY_3
      have SXp_4 := Lib.hid hb.size
      have DXp : Hid (w.heap.size ≤ w3.heap.size) := Lib.hid (B3.out.size)
      have Y_4 := Lib.hid (Y_3.out.below hb SY_3.out)
      have SY_4 := Lib.hid (Nat.le_trans SY_3.out hb.size)
      have B4 := Lib.hid (below_up B3.out hb B3.out.size)
      clear hb Y_3 SY_3
      have Xp_4 := Lib.hid ho; clear ho
      go_wp2_with fail
      refine (TO_ints.out _ _ _ (by omega) _ ((R_r.out.below B4.out (Nat.le_refl _)).mono B4.out.size)).mono ?_
      rintro e w5 ⟨AXr, cXr, rfl, ho, hb⟩
      have U_Xp_Xr := Lib.hid (fun j hj => (Xp_4.out.block j hj).2)
      have T_Y_Xr := SY_4
      have V_Xp_Xr := SXp_4
      have SXr_5 := Lib.hid hb.size
      have DXr : Hid (w.heap.size ≤ w4.heap.size) := Lib.hid (B4.out.size)
      have Xp_5 := Lib.hid (Xp_4.out.kept hb (Nat.le_refl _))
      have SXp_5 := Lib.hid (Nat.le_trans SXp_4.out hb.size)
      have Y_5 := Lib.hid (Y_4.out.below hb SY_4.out)
      have SY_5 := Lib.hid (Nat.le_trans SY_4.out hb.size)
      have B5 := Lib.hid (below_up B4.out hb B4.out.size)
      clear hb Xp_4 SXp_4 Y_4 SY_4
      have Xr_5 := Lib.hid ho; clear ho
      go_wp2_with fail
      refine (IM.out _ _ _ _ _ (Xp_5.out.ints (by omega)) (Xr_5.out.ints (by omega))).mono ?_
      rintro e w6 ⟨AG, cG, rfl, ho, hb⟩
      have U_Xp_G := Lib.hid (fun j hj => (Xp_5.out.block j hj).2)
      have U_Xr_G := Lib.hid (fun j hj => (Xr_5.out.block j hj).2)
      have T_Y_G := SY_5
      have V_Xp_G := SXp_5
      have V_Xr_G := SXr_5
      have DG : Hid (w.heap.size ≤ w5.heap.size) := Lib.hid (B5.out.size)
      have SG_6 := Lib.hid hb.size
      have Xp_6 := Lib.hid (Xp_5.out.kept hb (Nat.le_refl _))
      have SXp_6 := Lib.hid (Nat.le_trans SXp_5.out hb.size)
      have Xr_6 := Lib.hid (Xr_5.out.kept hb (Nat.le_refl _))
      have SXr_6 := Lib.hid (Nat.le_trans SXr_5.out hb.size)
      have Y_6 := Lib.hid (Y_5.out.below hb SY_5.out)
      have SY_6 := Lib.hid (Nat.le_trans SY_5.out hb.size)
      have B6 := Lib.hid (below_up B5.out hb B5.out.size)
      clear hb Xp_5 SXp_5 Xr_5 SXr_5 Y_5 SY_5
      have G_6 := Lib.hid ho; clear ho
      go_wp2_with fail
      refine (EQ_ints.out _ _ _ _ _ _ _ (G_6.out.ints (by omega)) (Y_6.out.mono SY_6.out)).mono ?_
      rintro e w7 ⟨rfl, hb⟩
      have Xp_7 := Lib.hid (Xp_6.out.kept hb (Nat.le_refl _))
      have SXp_7 := Lib.hid (Nat.le_trans SXp_6.out hb.size)
      have Xr_7 := Lib.hid (Xr_6.out.kept hb (Nat.le_refl _))
      have SXr_7 := Lib.hid (Nat.le_trans SXr_6.out hb.size)
      have G_7 := Lib.hid (G_6.out.kept hb (Nat.le_refl _))
      have SG_7 := Lib.hid (Nat.le_trans SG_6.out hb.size)
      have Y_7 := Lib.hid (Y_6.out.below hb SY_6.out)
      have SY_7 := Lib.hid (Nat.le_trans SY_6.out hb.size)
      have B7 := Lib.hid (below_up B6.out hb B6.out.size)
      clear hb Xp_6 SXp_6 Xr_6 SXr_6 G_6 SG_6 Y_6 SY_6
      go_wp2_with fail
      refine (TO_ints.out _ _ _ (by omega) _ ((R_p.out.below B7.out (Nat.le_refl _)).mono B7.out.size)).mono ?_
      rintro e w8 ⟨AQp, cQp, rfl, ho, hb⟩
      have U_Xp_Qp := Lib.hid (fun j hj => (Xp_7.out.block j hj).2)
      have U_Xr_Qp := Lib.hid (fun j hj => (Xr_7.out.block j hj).2)
      have U_G_Qp := Lib.hid (fun j hj => (G_7.out.block j hj).2)
      have T_Y_Qp := SY_7
      have V_Xp_Qp := SXp_7
      have V_Xr_Qp := SXr_7
      have V_G_Qp := SG_7
      have SQp_8 := Lib.hid hb.size
      have DQp : Hid (w.heap.size ≤ w7.heap.size) := Lib.hid (B7.out.size)
      have Xp_8 := Lib.hid (Xp_7.out.kept hb (Nat.le_refl _))
      have SXp_8 := Lib.hid (Nat.le_trans SXp_7.out hb.size)
      have Xr_8 := Lib.hid (Xr_7.out.kept hb (Nat.le_refl _))
      have SXr_8 := Lib.hid (Nat.le_trans SXr_7.out hb.size)
      have G_8 := Lib.hid (G_7.out.kept hb (Nat.le_refl _))
      have SG_8 := Lib.hid (Nat.le_trans SG_7.out hb.size)
      have Y_8 := Lib.hid (Y_7.out.below hb SY_7.out)
      have SY_8 := Lib.hid (Nat.le_trans SY_7.out hb.size)
      have B8 := Lib.hid (below_up B7.out hb B7.out.size)
      clear hb Xp_7 SXp_7 Xr_7 SXr_7 G_7 SG_7 Y_7 SY_7
      have Qp_8 := Lib.hid ho; clear ho
      go_wp2_with fail
      refine (EQ_ints.out _ _ _ _ _ _ _ (Xp_8.out.ints (by omega)) (Qp_8.out.ints (by omega))).mono ?_
      rintro e w9 ⟨rfl, hb⟩
      have Xp_9 := Lib.hid (Xp_8.out.kept hb (Nat.le_refl _))
      have SXp_9 := Lib.hid (Nat.le_trans SXp_8.out hb.size)
      have Xr_9 := Lib.hid (Xr_8.out.kept hb (Nat.le_refl _))
      have SXr_9 := Lib.hid (Nat.le_trans SXr_8.out hb.size)
      have G_9 := Lib.hid (G_8.out.kept hb (Nat.le_refl _))
      have SG_9 := Lib.hid (Nat.le_trans SG_8.out hb.size)
      have Qp_9 := Lib.hid (Qp_8.out.kept hb (Nat.le_refl _))
      have SQp_9 := Lib.hid (Nat.le_trans SQp_8.out hb.size)
      have Y_9 := Lib.hid (Y_8.out.below hb SY_8.out)
      have SY_9 := Lib.hid (Nat.le_trans SY_8.out hb.size)
      have B9 := Lib.hid (below_up B8.out hb B8.out.size)
      clear hb Xp_8 SXp_8 Xr_8 SXr_8 G_8 SG_8 Qp_8 SQp_8 Y_8 SY_8
      clear Qp_9 SQp_9
      go_wp2_with fail
      refine (TO_ints.out _ _ _ (by omega) _ ((R_r.out.below B9.out (Nat.le_refl _)).mono B9.out.size)).mono ?_
      rintro e w10 ⟨AQr, cQr, rfl, ho, hb⟩
      have U_Xp_Qr := Lib.hid (fun j hj => (Xp_9.out.block j hj).2)
      have U_Xr_Qr := Lib.hid (fun j hj => (Xr_9.out.block j hj).2)
      have U_G_Qr := Lib.hid (fun j hj => (G_9.out.block j hj).2)
      have T_Y_Qr := SY_9
      have V_Xp_Qr := SXp_9
      have V_Xr_Qr := SXr_9
      have V_G_Qr := SG_9
      have SQr_10 := Lib.hid hb.size
      have DQr : Hid (w.heap.size ≤ w9.heap.size) := Lib.hid (B9.out.size)
      have Xp_10 := Lib.hid (Xp_9.out.kept hb (Nat.le_refl _))
      have SXp_10 := Lib.hid (Nat.le_trans SXp_9.out hb.size)
      have Xr_10 := Lib.hid (Xr_9.out.kept hb (Nat.le_refl _))
      have SXr_10 := Lib.hid (Nat.le_trans SXr_9.out hb.size)
      have G_10 := Lib.hid (G_9.out.kept hb (Nat.le_refl _))
      have SG_10 := Lib.hid (Nat.le_trans SG_9.out hb.size)
      have Y_10 := Lib.hid (Y_9.out.below hb SY_9.out)
      have SY_10 := Lib.hid (Nat.le_trans SY_9.out hb.size)
      have B10 := Lib.hid (below_up B9.out hb B9.out.size)
      clear hb Xp_9 SXp_9 Xr_9 SXr_9 G_9 SG_9 Y_9 SY_9
      have Qr_10 := Lib.hid ho; clear ho
      go_wp2_with fail
      refine (EQ_ints.out _ _ _ _ _ _ _ (Xr_10.out.ints (by omega)) (Qr_10.out.ints (by omega))).mono ?_
      rintro e w11 ⟨rfl, hb⟩
      have Xp_11 := Lib.hid (Xp_10.out.kept hb (Nat.le_refl _))
      have SXp_11 := Lib.hid (Nat.le_trans SXp_10.out hb.size)
      have Xr_11 := Lib.hid (Xr_10.out.kept hb (Nat.le_refl _))
      have SXr_11 := Lib.hid (Nat.le_trans SXr_10.out hb.size)
      have G_11 := Lib.hid (G_10.out.kept hb (Nat.le_refl _))
      have SG_11 := Lib.hid (Nat.le_trans SG_10.out hb.size)
      have Qr_11 := Lib.hid (Qr_10.out.kept hb (Nat.le_refl _))
      have SQr_11 := Lib.hid (Nat.le_trans SQr_10.out hb.size)
      have Y_11 := Lib.hid (Y_10.out.below hb SY_10.out)
      have SY_11 := Lib.hid (Nat.le_trans SY_10.out hb.size)
      have B11 := Lib.hid (below_up B10.out hb B10.out.size)
      clear hb Xp_10 SXp_10 Xr_10 SXr_10 G_10 SG_10 Qr_10 SQr_10 Y_10 SY_10
      clear Qr_11 SQr_11
      go_wp2_with fail
      refine (MARK_ints.out _ _ _ _ _ (by omega) (by omega) (by omega) _ Xp_11.out).mono ?_
      rintro e w12 ⟨rfl, ho, hg⟩
      have Xr_12 := Lib.hid (Xr_11.out.other hg U_Xp_Xr.out)
      have SXr_12 := Lib.hid (Nat.le_trans SXr_11.out hg.size)
      have G_12 := Lib.hid (G_11.out.other hg U_Xp_G.out)
      have SG_12 := Lib.hid (Nat.le_trans SG_11.out hg.size)
      have Y_12 := Lib.hid (Y_11.out.grown hg SY_11.out fun j hj => Nat.le_trans T_Y_Xp.out (Xp_11.out.block j hj).1)
      have SY_12 := Lib.hid (Nat.le_trans SY_11.out hg.size)
      have B12 := Lib.hid (B11.out.trans (Xp_11.out.marked hg (B := w.heap.size) DXp.out B11.out.size))
      clear ho hg Xp_11 SXp_11 Xr_11 SXr_11 G_11 SG_11 Y_11 SY_11
      go_wp2_with fail
      refine (MARK_ints.out _ _ _ _ _ (by omega) (by omega) (by omega) _ Xr_12.out).mono ?_
      rintro e w13 ⟨rfl, ho, hg⟩
      have G_13 := Lib.hid (G_12.out.other hg U_Xr_G.out)
      have SG_13 := Lib.hid (Nat.le_trans SG_12.out hg.size)
      have Y_13 := Lib.hid (Y_12.out.grown hg SY_12.out fun j hj => Nat.le_trans T_Y_Xr.out (Xr_12.out.block j hj).1)
      have SY_13 := Lib.hid (Nat.le_trans SY_12.out hg.size)
      have B13 := Lib.hid (B12.out.trans (Xr_12.out.marked hg (B := w.heap.size) DXr.out B12.out.size))
      clear ho hg Xr_12 SXr_12 G_12 SG_12 Y_12 SY_12
      go_wp2_with fail
      refine (EQ_ints.out _ _ _ _ _ _ _ (G_13.out.ints (by omega)) (Y_13.out.mono SY_13.out)).mono ?_
      rintro e w14 ⟨rfl, hb⟩
      have G_14 := Lib.hid (G_13.out.kept hb (Nat.le_refl _))
      have SG_14 := Lib.hid (Nat.le_trans SG_13.out hb.size)
      have Y_14 := Lib.hid (Y_13.out.below hb SY_13.out)
      have SY_14 := Lib.hid (Nat.le_trans SY_13.out hb.size)
      have B14 := Lib.hid (below_up B13.out hb B13.out.size)
      clear hb G_13 SG_13 Y_13 SY_13
      go_wp2_with fail
      refine (MARK_ints.out _ _ _ _ _ (by omega) (by omega) (by omega) _ G_14.out).mono ?_
      rintro e w15 ⟨rfl, ho, hg⟩
      have Y_15 := Lib.hid (Y_14.out.grown hg SY_14.out fun j hj => Nat.le_trans T_Y_G.out (G_14.out.block j hj).1)
      have SY_15 := Lib.hid (Nat.le_trans SY_14.out hg.size)
      have B15 := Lib.hid (B14.out.trans (G_14.out.marked hg (B := w.heap.size) DG.out B14.out.size))
      have Gm_15 := Lib.hid (ho.ints (by rw [markL_len]; omega))
      have SGm_15 := Lib.hid (Nat.le_refl w15.heap.size)
      clear ho hg G_14 SG_14 Y_14 SY_14
      go_wp2_with fail
      refine (HELD_ints.out _ _ _ _ (by omega) (by omega) _ (Gm_15.out.mono SGm_15.out)).mono ?_
      rintro e w16 ⟨rfl, hb⟩
      have Y_16 := Lib.hid (Y_15.out.below hb SY_15.out)
      have SY_16 := Lib.hid (Nat.le_trans SY_15.out hb.size)
      have Gm_16 := Lib.hid (Gm_15.out.below hb SGm_15.out)
      have SGm_16 := Lib.hid (Nat.le_trans SGm_15.out hb.size)
      have B16 := Lib.hid (below_up B15.out hb B15.out.size)
      clear hb Y_15 SY_15 Gm_15 SGm_15
      go_wp2_with fail
      refine (TO_ints.out _ _ _ (by omega) _ ((R_p.out.below B16.out (Nat.le_refl _)).mono B16.out.size)).mono ?_
      rintro e w17 ⟨AZp, cZp, rfl, ho, hb⟩
      have T_Y_Zp := SY_16
      have T_Gm_Zp := SGm_16
      have SZp_17 := Lib.hid hb.size
      have DZp : Hid (w.heap.size ≤ w16.heap.size) := Lib.hid (B16.out.size)
      have Y_17 := Lib.hid (Y_16.out.below hb SY_16.out)
      have SY_17 := Lib.hid (Nat.le_trans SY_16.out hb.size)
      have Gm_17 := Lib.hid (Gm_16.out.below hb SGm_16.out)
      have SGm_17 := Lib.hid (Nat.le_trans SGm_16.out hb.size)
      have B17 := Lib.hid (below_up B16.out hb B16.out.size)
      clear hb Y_16 SY_16 Gm_16 SGm_16
      have Zp_17 := Lib.hid ho; clear ho
      go_wp2_with fail
      refine (TO_ints.out _ _ _ (by omega) _ ((R_r.out.below B17.out (Nat.le_refl _)).mono B17.out.size)).mono ?_
      rintro e w18 ⟨AZr, cZr, rfl, ho, hb⟩
      have U_Zp_Zr := Lib.hid (fun j hj => (Zp_17.out.block j hj).2)
      have T_Y_Zr := SY_17
      have T_Gm_Zr := SGm_17
      have V_Zp_Zr := SZp_17
      have SZr_18 := Lib.hid hb.size
      have DZr : Hid (w.heap.size ≤ w17.heap.size) := Lib.hid (B17.out.size)
      have Zp_18 := Lib.hid (Zp_17.out.kept hb (Nat.le_refl _))
      have SZp_18 := Lib.hid (Nat.le_trans SZp_17.out hb.size)
      have Y_18 := Lib.hid (Y_17.out.below hb SY_17.out)
      have SY_18 := Lib.hid (Nat.le_trans SY_17.out hb.size)
      have Gm_18 := Lib.hid (Gm_17.out.below hb SGm_17.out)
      have SGm_18 := Lib.hid (Nat.le_trans SGm_17.out hb.size)
      have B18 := Lib.hid (below_up B17.out hb B17.out.size)
      clear hb Zp_17 SZp_17 Y_17 SY_17 Gm_17 SGm_17
      have Zr_18 := Lib.hid ho; clear ho
      go_wp2_with fail
      refine (IM.out _ _ _ _ _ (Zp_18.out.ints (by omega)) (Zr_18.out.ints (by omega))).mono ?_
      rintro e w19 ⟨AH, cH, rfl, ho, hb⟩
      have SH_19 := Lib.hid (Nat.le_refl w19.heap.size)
      have Zp_19 := Lib.hid (Zp_18.out.kept hb (Nat.le_refl _))
      have SZp_19 := Lib.hid (Nat.le_trans SZp_18.out hb.size)
      have Zr_19 := Lib.hid (Zr_18.out.kept hb (Nat.le_refl _))
      have SZr_19 := Lib.hid (Nat.le_trans SZr_18.out hb.size)
      have Y_19 := Lib.hid (Y_18.out.below hb SY_18.out)
      have SY_19 := Lib.hid (Nat.le_trans SY_18.out hb.size)
      have Gm_19 := Lib.hid (Gm_18.out.below hb SGm_18.out)
      have SGm_19 := Lib.hid (Nat.le_trans SGm_18.out hb.size)
      have B19 := Lib.hid (below_up B18.out hb B18.out.size)
      clear hb Zp_18 SZp_18 Zr_18 SZr_18 Y_18 SY_18 Gm_18 SGm_18
      have H_19 := Lib.hid (ho.ints (by omega)); clear ho
      clear Zp_19 SZp_19
      clear Zr_19 SZr_19
      go_wp2_with fail
      refine (EQ_ints.out _ _ _ _ _ _ _ (H_19.out.mono SH_19.out) (Y_19.out.mono SY_19.out)).mono ?_
      rintro e w20 ⟨rfl, hb⟩
      have Y_20 := Lib.hid (Y_19.out.below hb SY_19.out)
      have SY_20 := Lib.hid (Nat.le_trans SY_19.out hb.size)
      have Gm_20 := Lib.hid (Gm_19.out.below hb SGm_19.out)
      have SGm_20 := Lib.hid (Nat.le_trans SGm_19.out hb.size)
      have H_20 := Lib.hid (H_19.out.below hb SH_19.out)
      have SH_20 := Lib.hid (Nat.le_trans SH_19.out hb.size)
      have B20 := Lib.hid (below_up B19.out hb B19.out.size)
      clear hb Y_19 SY_19 Gm_19 SGm_19 H_19 SH_19
      clear H_20 SH_20
      clear Y_20 SY_20
      go_wp2_with fail
      refine (HELD_ints.out _ _ _ _ (by omega) (by omega) _ (Gm_20.out.mono SGm_20.out)).mono ?_
      rintro e w21 ⟨rfl, hb⟩
      have Gm_21 := Lib.hid (Gm_20.out.below hb SGm_20.out)
      have SGm_21 := Lib.hid (Nat.le_trans SGm_20.out hb.size)
      have B21 := Lib.hid (below_up B20.out hb B20.out.size)
      clear hb Gm_20 SGm_20
      go_wp2
      go_ret
      exact ⟨rfl, B21.out⟩


end Go.Proofs.Ytbiffijjmhpkpaa
