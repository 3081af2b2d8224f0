/-
  The walks of the laws of SizeOk, ScanOrder, Scanned and Placed. No condition.
-/
import Derived.Test.YtgihpckibdnghaaScanC
import Derived.Test.YtgihpckibdnghaaPut
namespace Go.Proofs.Ytgihpckibdnghaa
open Go.RowKit
set_option linter.unusedVariables false

set_option maxRecDepth 100000 in
set_option maxHeartbeats 1000000 in
/-- The law's own walk, by contracts of the two texts that answer with a row. -/
theorem fnExactScanned_walk (a : Option Addr) (len cap : Nat) (zs : List Int) (w : World) (hr : IsRow .i64 w a len cap zs) :
    Calls Try.prog 8 #[.slice a len cap] w fun e w' => e = .returned (.bool true) ∧ Below w.heap.size w w' := by
  have hlm := hr.len_le
  unfold maxLen at hlm
  by_cases hbig : 1048576 < len
  · go_enter Try.func8, Try.ntmps8
    go_wp2
    go_ret
    exact ⟨rfl, Below.refl _ _⟩
  · obtain ⟨l, rfl, hI, _, _⟩ := ints_of hr (by omega)
    have hq0 : decide (1048576 < (l.length : Int)) = false := by simp; omega
    have R := Lib.hid hI; clear hI hr
    have TI := Lib.hid (toints_any a cap l (by omega))
    have SP := Lib.hid fun A ca => spec_scanned_any A ca l (by omega)
    have IM := Lib.hid fun A ca => impl_scanned_any A ca l
    have EQ := Lib.hid @eqints_any
    have MK := Lib.hid @markints_any
    have EQR := Lib.hid @eqints_any
    have MKR := Lib.hid @markints_any
    have HE := Lib.hid @heldints_any
    have hxl := scR_len l
    obtain ⟨x, hx⟩ : ∃ x, x = scR l := ⟨_, rfl⟩
    rw [← hx] at SP IM
    rw [← hx] at hxl
    have hll : l.length ≤ 1048576 := by omega
    clear hx hbig
    have hm0 : decide ((1 : Int) + (x.length : Int) < 0) = false := by simp; omega
    have hm1 : decide ((1 : Int) + (l.length : Int) < 0) = false := by simp; omega
    have hq : ((1 : Int) + (x.length : Int) != 1 + (x.length : Int)) = false := by simp
    go_enter Try.func8, Try.ntmps8
    go_wp2_with fail
    refine (TI.out _ R.out).mono ?_
    rintro e w1 ⟨A1, c1, rfl, ho1, hb1⟩
    have R1 := Lib.hid (ho1.ints (by omega)); clear ho1
    have B1 := Lib.hid hb1; clear hb1
    go_wp2_with fail
    refine (SP.out _ _ _ R1.out).mono ?_
    rintro e w2 ⟨A2, c2, rfl, ho2, hb2⟩
    have W2 := Lib.hid (ho2.ints (by omega)); clear ho2
    have B2 := Lib.hid (below_up B1.out hb2 B1.out.size); clear hb2 R1
    go_wp2_with fail
    refine (TI.out _ ((R.out.below B2.out (Nat.le_refl _)).mono B2.out.size)).mono ?_
    rintro e w3 ⟨A3, c3, rfl, ho3, hb3⟩
    have O3 := Lib.hid ho3; clear ho3
    have W3 := Lib.hid (W2.out.below hb3 (Nat.le_refl _))
    have S3 := Lib.hid hb3.size
    have B3 := Lib.hid (below_up B2.out hb3 B2.out.size); clear hb3 W2
    go_wp2_with fail
    refine (IM.out _ _ _ (O3.out.ints (by omega))).mono ?_
    rintro e w4 ⟨A4, c4, rfl, ho4, hb4⟩
    have O4 := Lib.hid ho4; clear ho4
    have Q4 := Lib.hid (O3.out.kept hb4 (Nat.le_refl _))
    have W4 := Lib.hid (W3.out.below hb4 S3.out)
    have S4 := Lib.hid (Nat.le_trans S3.out hb4.size)
    have T4 := Lib.hid hb4.size
    have U3 := Lib.hid (fun k hk => (O3.out.block k hk).2)
    have B4 := Lib.hid (below_up B3.out hb4 B3.out.size); clear hb4 W3 O3
    go_wp2_with fail
    refine (EQR.out _ _ _ _ _ _ _ (O4.out.ints (by omega)) (W4.out.mono S4.out)).mono ?_
    rintro e w5 ⟨rfl, hb5⟩
    have O5 := Lib.hid (O4.out.kept hb5 (Nat.le_refl _))
    have Q5 := Lib.hid (Q4.out.kept hb5 (Nat.le_refl _))
    have W5 := Lib.hid (W4.out.below hb5 S4.out)
    have S5 := Lib.hid (Nat.le_trans S4.out hb5.size)
    have T5 := Lib.hid (Nat.le_trans T4.out hb5.size)
    have B5 := Lib.hid (below_up B4.out hb5 B4.out.size); clear hb5 O4 Q4 W4 S4 T4
    go_wp2_with fail
    refine (TI.out _ ((R.out.below B5.out (Nat.le_refl _)).mono B5.out.size)).mono ?_
    rintro e w6 ⟨A6, c6, rfl, ho6, hb6⟩
    have R6 := Lib.hid (ho6.ints (by omega)); clear ho6
    have O6 := Lib.hid (O5.out.kept hb6 (Nat.le_refl _))
    have Q6 := Lib.hid (Q5.out.kept hb6 (Nat.le_refl _))
    have W6 := Lib.hid (W5.out.below hb6 S5.out)
    have S6 := Lib.hid (Nat.le_trans S5.out hb6.size)
    have T6 := Lib.hid (Nat.le_trans T5.out hb6.size)
    have B6 := Lib.hid (below_up B5.out hb6 B5.out.size); clear hb6 O5 Q5 W5 S5 T5
    go_wp2_with fail
    refine (EQ.out _ _ _ _ _ _ _ (Q6.out.ints (by omega)) R6.out).mono ?_
    rintro e w7 ⟨rfl, hb7⟩
    have O7 := Lib.hid (O6.out.kept hb7 (Nat.le_refl _))
    have Q7 := Lib.hid (Q6.out.kept hb7 (Nat.le_refl _))
    have W7 := Lib.hid (W6.out.below hb7 S6.out)
    have S7 := Lib.hid (Nat.le_trans S6.out hb7.size)
    have T7 := Lib.hid (Nat.le_trans T6.out hb7.size)
    have B7 := Lib.hid (below_up B6.out hb7 B6.out.size); clear hb7 O6 Q6 W6 S6 T6 R6
    go_wp2_with fail
    refine (MK.out _ _ _ _ _ (by omega) (by omega) (by omega) _ Q7.out).mono ?_
    rintro e w8 ⟨rfl, ho8, hg8⟩
    clear ho8
    have O8 := Lib.hid (O7.out.other hg8 U3.out)
    have W8 := Lib.hid (W7.out.grown hg8 S7.out fun k hk => (Q7.out.block k hk).1)
    have S8 := Lib.hid (Nat.le_trans S7.out hg8.size)
    have T8 := Lib.hid (Nat.le_trans T7.out hg8.size)
    have B8 := Lib.hid (B7.out.trans (Q7.out.marked hg8 (B := w.heap.size) B2.out.size B7.out.size)); clear hg8 O7 Q7 W7 S7 T7 U3
    go_wp2_with fail
    refine (EQR.out _ _ _ _ _ _ _ (O8.out.ints (by omega)) (W8.out.mono S8.out)).mono ?_
    rintro e w9 ⟨rfl, hb9⟩
    have O9 := Lib.hid (O8.out.kept hb9 (Nat.le_refl _))
    have W9 := Lib.hid (W8.out.below hb9 S8.out)
    have S9 := Lib.hid (Nat.le_trans S8.out hb9.size)
    have B9 := Lib.hid (below_up B8.out hb9 B8.out.size); clear hb9 O8 W8 S8 T8
    go_wp2_with fail
    refine (MKR.out _ _ _ _ _ (by omega) (by omega) (by omega) _ O9.out).mono ?_
    rintro e w10 ⟨rfl, ho10, hg10⟩
    have M10 := Lib.hid (ho10.ints (by rw [markL_len]; omega)); clear ho10
    have W10 := Lib.hid (W9.out.grown hg10 S9.out fun k hk => Nat.le_trans S3.out (O9.out.block k hk).1)
    have S10 := Lib.hid (Nat.le_trans S9.out hg10.size)
    have B10 := Lib.hid (B9.out.trans (O9.out.marked hg10 (B := w.heap.size) B3.out.size B9.out.size)); clear hg10 O9 W9 S9
    go_wp2_with fail
    refine (HE.out _ _ _ _ (by omega) (by omega) _ M10.out).mono ?_
    rintro e w11 ⟨rfl, hb11⟩
    have M11 := Lib.hid ((M10.out.below hb11 (Nat.le_refl _)).mono hb11.size)
    have W11 := Lib.hid (W10.out.below hb11 S10.out)
    have S11 := Lib.hid (Nat.le_trans S10.out hb11.size)
    have B11 := Lib.hid (below_up B10.out hb11 B10.out.size); clear hb11 M10 W10 S10
    go_wp2_with fail
    refine (TI.out _ ((R.out.below B11.out (Nat.le_refl _)).mono B11.out.size)).mono ?_
    rintro e w12 ⟨A12, c12, rfl, ho12, hb12⟩
    have R12 := Lib.hid (ho12.ints (by omega)); clear ho12
    have M12 := Lib.hid ((M11.out.below hb12 (Nat.le_refl _)).mono hb12.size)
    have W12 := Lib.hid (W11.out.below hb12 S11.out)
    have S12 := Lib.hid (Nat.le_trans S11.out hb12.size)
    have B12 := Lib.hid (below_up B11.out hb12 B11.out.size); clear hb12 M11 W11 S11
    go_wp2_with fail
    refine (IM.out _ _ _ R12.out).mono ?_
    rintro e w13 ⟨A13, c13, rfl, ho13, hb13⟩
    have R13 := Lib.hid (ho13.ints (by omega)); clear ho13
    have M13 := Lib.hid ((M12.out.below hb13 (Nat.le_refl _)).mono hb13.size)
    have W13 := Lib.hid ((W12.out.below hb13 S12.out).mono (Nat.le_trans S12.out hb13.size))
    have B13 := Lib.hid (below_up B12.out hb13 B12.out.size); clear hb13 M12 W12 S12 R12
    go_wp2_with fail
    refine (EQR.out _ _ _ _ _ _ _ R13.out W13.out).mono ?_
    rintro e w14 ⟨rfl, hb14⟩
    have M14 := Lib.hid ((M13.out.below hb14 (Nat.le_refl _)).mono hb14.size)
    have B14 := Lib.hid (below_up B13.out hb14 B13.out.size); clear hb14 M13 W13 R13
    go_wp2_with fail
    refine (HE.out _ _ _ _ (by omega) (by omega) _ M14.out).mono ?_
    rintro e w15 ⟨rfl, hb15⟩
    have B15 := Lib.hid (below_up B14.out hb15 B14.out.size); clear hb15
    go_wp2
    go_ret
    exact ⟨rfl, B15.out⟩


set_option maxRecDepth 100000 in
set_option maxHeartbeats 1000000 in
/-- The law's own walk, by contracts of the two texts that answer with a row. -/
theorem fnExactPlaced_walk (a : Option Addr) (len cap : Nat) (zs : List Int) (w : World) (hr : IsRow .i64 w a len cap zs) :
    Calls Try.prog 9 #[.slice a len cap] w fun e w' => e = .returned (.bool true) ∧ Below w.heap.size w w' := by
  have hlm := hr.len_le
  unfold maxLen at hlm
  by_cases hbig : 1048576 < len
  · go_enter Try.func9, Try.ntmps9
    go_wp2
    go_ret
    exact ⟨rfl, Below.refl _ _⟩
  · obtain ⟨l, rfl, hI, _, _⟩ := ints_of hr (by omega)
    have hq0 : decide (1048576 < (l.length : Int)) = false := by simp; omega
    have R := Lib.hid hI; clear hI hr
    have TI := Lib.hid (toints_any a cap l (by omega))
    have SP := Lib.hid fun A ca => spec_placed_any A ca l (by omega)
    have IM := Lib.hid fun A ca => impl_placed_any A ca l
    have EQ := Lib.hid @eqints_any
    have MK := Lib.hid @markints_any
    have EQR := Lib.hid @eqints_any
    have MKR := Lib.hid @markints_any
    have HE := Lib.hid @heldints_any
    have hxl := plR_len l
    obtain ⟨x, hx⟩ : ∃ x, x = plR l := ⟨_, rfl⟩
    rw [← hx] at SP IM
    rw [← hx] at hxl
    have hll : l.length ≤ 1048576 := by omega
    clear hx hbig
    have hm0 : decide ((1 : Int) + (x.length : Int) < 0) = false := by simp; omega
    have hm1 : decide ((1 : Int) + (l.length : Int) < 0) = false := by simp; omega
    have hq : ((1 : Int) + (x.length : Int) != 1 + (x.length : Int)) = false := by simp
    go_enter Try.func9, Try.ntmps9
    go_wp2_with fail
    refine (TI.out _ R.out).mono ?_
    rintro e w1 ⟨A1, c1, rfl, ho1, hb1⟩
    have R1 := Lib.hid (ho1.ints (by omega)); clear ho1
    have B1 := Lib.hid hb1; clear hb1
    go_wp2_with fail
    refine (SP.out _ _ _ R1.out).mono ?_
    rintro e w2 ⟨A2, c2, rfl, ho2, hb2⟩
    have W2 := Lib.hid (ho2.ints (by omega)); clear ho2
    have B2 := Lib.hid (below_up B1.out hb2 B1.out.size); clear hb2 R1
    go_wp2_with fail
    refine (TI.out _ ((R.out.below B2.out (Nat.le_refl _)).mono B2.out.size)).mono ?_
    rintro e w3 ⟨A3, c3, rfl, ho3, hb3⟩
    have O3 := Lib.hid ho3; clear ho3
    have W3 := Lib.hid (W2.out.below hb3 (Nat.le_refl _))
    have S3 := Lib.hid hb3.size
    have B3 := Lib.hid (below_up B2.out hb3 B2.out.size); clear hb3 W2
    go_wp2_with fail
    refine (IM.out _ _ _ (O3.out.ints (by omega))).mono ?_
    rintro e w4 ⟨A4, c4, rfl, ho4, hb4⟩
    have O4 := Lib.hid ho4; clear ho4
    have Q4 := Lib.hid (O3.out.kept hb4 (Nat.le_refl _))
    have W4 := Lib.hid (W3.out.below hb4 S3.out)
    have S4 := Lib.hid (Nat.le_trans S3.out hb4.size)
    have T4 := Lib.hid hb4.size
    have U3 := Lib.hid (fun k hk => (O3.out.block k hk).2)
    have B4 := Lib.hid (below_up B3.out hb4 B3.out.size); clear hb4 W3 O3
    go_wp2_with fail
    refine (EQR.out _ _ _ _ _ _ _ (O4.out.ints (by omega)) (W4.out.mono S4.out)).mono ?_
    rintro e w5 ⟨rfl, hb5⟩
    have O5 := Lib.hid (O4.out.kept hb5 (Nat.le_refl _))
    have Q5 := Lib.hid (Q4.out.kept hb5 (Nat.le_refl _))
    have W5 := Lib.hid (W4.out.below hb5 S4.out)
    have S5 := Lib.hid (Nat.le_trans S4.out hb5.size)
    have T5 := Lib.hid (Nat.le_trans T4.out hb5.size)
    have B5 := Lib.hid (below_up B4.out hb5 B4.out.size); clear hb5 O4 Q4 W4 S4 T4
    go_wp2_with fail
    refine (TI.out _ ((R.out.below B5.out (Nat.le_refl _)).mono B5.out.size)).mono ?_
    rintro e w6 ⟨A6, c6, rfl, ho6, hb6⟩
    have R6 := Lib.hid (ho6.ints (by omega)); clear ho6
    have O6 := Lib.hid (O5.out.kept hb6 (Nat.le_refl _))
    have Q6 := Lib.hid (Q5.out.kept hb6 (Nat.le_refl _))
    have W6 := Lib.hid (W5.out.below hb6 S5.out)
    have S6 := Lib.hid (Nat.le_trans S5.out hb6.size)
    have T6 := Lib.hid (Nat.le_trans T5.out hb6.size)
    have B6 := Lib.hid (below_up B5.out hb6 B5.out.size); clear hb6 O5 Q5 W5 S5 T5
    go_wp2_with fail
    refine (EQ.out _ _ _ _ _ _ _ (Q6.out.ints (by omega)) R6.out).mono ?_
    rintro e w7 ⟨rfl, hb7⟩
    have O7 := Lib.hid (O6.out.kept hb7 (Nat.le_refl _))
    have Q7 := Lib.hid (Q6.out.kept hb7 (Nat.le_refl _))
    have W7 := Lib.hid (W6.out.below hb7 S6.out)
    have S7 := Lib.hid (Nat.le_trans S6.out hb7.size)
    have T7 := Lib.hid (Nat.le_trans T6.out hb7.size)
    have B7 := Lib.hid (below_up B6.out hb7 B6.out.size); clear hb7 O6 Q6 W6 S6 T6 R6
    go_wp2_with fail
    refine (MK.out _ _ _ _ _ (by omega) (by omega) (by omega) _ Q7.out).mono ?_
    rintro e w8 ⟨rfl, ho8, hg8⟩
    clear ho8
    have O8 := Lib.hid (O7.out.other hg8 U3.out)
    have W8 := Lib.hid (W7.out.grown hg8 S7.out fun k hk => (Q7.out.block k hk).1)
    have S8 := Lib.hid (Nat.le_trans S7.out hg8.size)
    have T8 := Lib.hid (Nat.le_trans T7.out hg8.size)
    have B8 := Lib.hid (B7.out.trans (Q7.out.marked hg8 (B := w.heap.size) B2.out.size B7.out.size)); clear hg8 O7 Q7 W7 S7 T7 U3
    go_wp2_with fail
    refine (EQR.out _ _ _ _ _ _ _ (O8.out.ints (by omega)) (W8.out.mono S8.out)).mono ?_
    rintro e w9 ⟨rfl, hb9⟩
    have O9 := Lib.hid (O8.out.kept hb9 (Nat.le_refl _))
    have W9 := Lib.hid (W8.out.below hb9 S8.out)
    have S9 := Lib.hid (Nat.le_trans S8.out hb9.size)
    have B9 := Lib.hid (below_up B8.out hb9 B8.out.size); clear hb9 O8 W8 S8 T8
    go_wp2_with fail
    refine (MKR.out _ _ _ _ _ (by omega) (by omega) (by omega) _ O9.out).mono ?_
    rintro e w10 ⟨rfl, ho10, hg10⟩
    have M10 := Lib.hid (ho10.ints (by rw [markL_len]; omega)); clear ho10
    have W10 := Lib.hid (W9.out.grown hg10 S9.out fun k hk => Nat.le_trans S3.out (O9.out.block k hk).1)
    have S10 := Lib.hid (Nat.le_trans S9.out hg10.size)
    have B10 := Lib.hid (B9.out.trans (O9.out.marked hg10 (B := w.heap.size) B3.out.size B9.out.size)); clear hg10 O9 W9 S9
    go_wp2_with fail
    refine (HE.out _ _ _ _ (by omega) (by omega) _ M10.out).mono ?_
    rintro e w11 ⟨rfl, hb11⟩
    have M11 := Lib.hid ((M10.out.below hb11 (Nat.le_refl _)).mono hb11.size)
    have W11 := Lib.hid (W10.out.below hb11 S10.out)
    have S11 := Lib.hid (Nat.le_trans S10.out hb11.size)
    have B11 := Lib.hid (below_up B10.out hb11 B10.out.size); clear hb11 M10 W10 S10
    go_wp2_with fail
    refine (TI.out _ ((R.out.below B11.out (Nat.le_refl _)).mono B11.out.size)).mono ?_
    rintro e w12 ⟨A12, c12, rfl, ho12, hb12⟩
    have R12 := Lib.hid (ho12.ints (by omega)); clear ho12
    have M12 := Lib.hid ((M11.out.below hb12 (Nat.le_refl _)).mono hb12.size)
    have W12 := Lib.hid (W11.out.below hb12 S11.out)
    have S12 := Lib.hid (Nat.le_trans S11.out hb12.size)
    have B12 := Lib.hid (below_up B11.out hb12 B11.out.size); clear hb12 M11 W11 S11
    go_wp2_with fail
    refine (IM.out _ _ _ R12.out).mono ?_
    rintro e w13 ⟨A13, c13, rfl, ho13, hb13⟩
    have R13 := Lib.hid (ho13.ints (by omega)); clear ho13
    have M13 := Lib.hid ((M12.out.below hb13 (Nat.le_refl _)).mono hb13.size)
    have W13 := Lib.hid ((W12.out.below hb13 S12.out).mono (Nat.le_trans S12.out hb13.size))
    have B13 := Lib.hid (below_up B12.out hb13 B12.out.size); clear hb13 M12 W12 S12 R12
    go_wp2_with fail
    refine (EQR.out _ _ _ _ _ _ _ R13.out W13.out).mono ?_
    rintro e w14 ⟨rfl, hb14⟩
    have M14 := Lib.hid ((M13.out.below hb14 (Nat.le_refl _)).mono hb14.size)
    have B14 := Lib.hid (below_up B13.out hb14 B13.out.size); clear hb14 M13 W13 R13
    go_wp2_with fail
    refine (HE.out _ _ _ _ (by omega) (by omega) _ M14.out).mono ?_
    rintro e w15 ⟨rfl, hb15⟩
    have B15 := Lib.hid (below_up B14.out hb15 B14.out.size); clear hb15
    go_wp2
    go_ret
    exact ⟨rfl, B15.out⟩


end Go.Proofs.Ytgihpckibdnghaa
