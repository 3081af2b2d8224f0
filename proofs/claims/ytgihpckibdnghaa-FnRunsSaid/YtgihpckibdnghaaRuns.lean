/-
  The law FnRuns: levels come back from their run-length pairs. No condition.
-/
import Derived.Test.YtgihpckibdnghaaRunE
import Derived.Test.YtgihpckibdnghaaRunM
namespace Go.Proofs.Ytgihpckibdnghaa
open Go.RowKit
set_option linter.unusedVariables false

set_option maxRecDepth 100000 in
set_option maxHeartbeats 2000000 in
/-- The law's own walk. -/
theorem fnRuns_walk (a : Option Addr) (len cap : Nat) (zs : List Int) (w : World) (hr : IsRow .u8 w a len cap zs) :
    Calls Try.prog 3 #[.slice a len cap] w fun e w' => e = .returned (.bool true) ∧ Below w.heap.size w w' := by
  have hlm := hr.len_le
  unfold maxLen at hlm
  by_cases hbig : 1048576 < len
  · have BG := Lib.hid (big_any a len cap hlm)
    have hb : decide (1048576 < (len : Int)) = true := decide_eq_true (by omega)
    rw [hb] at BG
    clear hr hlm hbig hb
    go_enter Try.func3, Try.ntmps3
    go_wp2_with fail
    refine (BG.out _).mono ?_
    rintro e w1 ⟨rfl, hw⟩
    subst hw
    go_wp2
    go_ret
    exact ⟨rfl, Below.refl _ _⟩
  · have hbigF : decide (1048576 < (len : Int)) = false := decide_eq_false (by omega)
    obtain ⟨ys, rfl, hW⟩ := code_of hr (by omega)
    have BG := Lib.hid (big_any a ys.length cap hlm)
    rw [hbigF] at BG
    have DP := Lib.hid (drawpairsof_ex a cap ys w hW)
    have DL := Lib.hid fun w hW => drawlevelsfrom_ex a cap ys w hW
    have IP := Lib.hid @impl_pairsof_any; have IL := Lib.hid @impl_levelsfrom_any; have SL := Lib.hid @spec_levelsfrom_any
    have IK := Lib.hid @impl_levelsok_any; have SK := Lib.hid @spec_levelsok_any
    have SI := Lib.hid @sameints_any
    have HW := Lib.hid hW
    clear hr hbig hbigF hlm hW
    go_enter Try.func3, Try.ntmps3
    go_wp2_with fail
    refine (BG.out _).mono ?_
    rintro e w1 ⟨rfl, hw⟩
    subst hw
    go_wp2_with fail
    refine DP.out.mono ?_
    rintro e w2 ⟨l, A2, c2, rfl, hl64, hI2, hb2⟩
    have I2 := Lib.hid hI2; have B2 := Lib.hid hb2; clear hI2 hb2
    go_wp2_with fail
    refine (IP.out _ _ _ _ I2.out).mono ?_
    rintro e w3 ⟨A3, c3, rfl, ho3, hb3⟩
    have hp64 := prR_len l
    have O3 := Lib.hid (ho3.ents (by omega)); have I3 := Lib.hid ((I2.out.below hb3 (Nat.le_refl _)).mono hb3.size); have B3 := Lib.hid (below_up B2.out hb3 B2.out.size)
    clear ho3 hb3
    go_wp2_with fail
    refine (IL.out _ _ _ (l.length : Int) (by omega) _ O3.out).mono ?_
    rintro e w4 ⟨A4, c4, rfl, ho4, hb4⟩
    have hx64 := lfR_len (prR l) (l.length : Int)
    have O4 := Lib.hid (ho4.ints (by omega)); have I4 := Lib.hid ((I3.out.below hb4 (Nat.le_refl _)).mono hb4.size); have B4 := Lib.hid (below_up B3.out hb4 B3.out.size)
    clear ho4 hb4
    have JK := Lib.hid (IK.out A2 c2 l w4 I4.out)
    have TK := Lib.hid (SK.out A2 c2 l w4 I4.out)
    have LB := Lib.hid (@levels_back l)
    have NB : Hid (okV l = false → prR l = []) := Lib.hid (fun h => by unfold prR; rw [h]; rfl)
    obtain ⟨p, hp⟩ : ∃ p, p = prR l := ⟨_, rfl⟩
    rw [← hp] at O4 hx64 hp64 LB NB ⊢
    obtain ⟨x, hx⟩ : ∃ x, x = lfR p (l.length : Int) := ⟨_, rfl⟩
    obtain ⟨er, her⟩ : ∃ er, er = lfE p (l.length : Int) := ⟨_, rfl⟩
    rw [← hx] at O4 hx64 LB ⊢
    rw [← her] at LB ⊢
    cases hok : okV l with
    | false =>
      have hp0 : p = [] := NB.out hok
      rw [hok] at JK TK
      clear hp hx her hok
      subst hp0
      go_wp2_with fail
      refine JK.out.mono ?_
      rintro e w5 ⟨rfl, hw⟩
      subst hw
      go_wp2_with fail
      refine TK.out.mono ?_
      rintro e w5 ⟨rfl, hw⟩
      subst hw
      go_wp2_with fail
      refine TK.out.mono ?_
      rintro e w5 ⟨rfl, hw⟩
      subst hw
      go_wp2
      go_ret
      exact ⟨rfl, B4.out⟩
    | true =>
      obtain ⟨hxl, he0⟩ := LB.out hok
      rw [hok] at JK TK
      clear hp hx her hok LB NB
      subst hxl
      subst he0
      go_wp2_with fail
      refine JK.out.mono ?_
      rintro e w5 ⟨rfl, hw⟩
      subst hw
      go_wp2_with fail
      refine TK.out.mono ?_
      rintro e w5 ⟨rfl, hw⟩
      subst hw
      go_wp2_with fail
      refine TK.out.mono ?_
      rintro e w5 ⟨rfl, hw⟩
      subst hw
      have W4 := Lib.hid (HW.out.below B4.out)
      go_wp2_with fail
      refine (DL.out _ W4.out).mono ?_
      rintro e w5 ⟨y, A5, c5, n, rfl, hy64, hE5, hb5⟩
      have E5 := Lib.hid hE5; have X5 := Lib.hid ((O4.out.below hb5 (Nat.le_refl _)).mono hb5.size); have I5 := Lib.hid ((I4.out.below hb5 (Nat.le_refl _)).mono hb5.size); have B5 := Lib.hid (below_up B4.out hb5 B4.out.size)
      clear hE5 hb5
      go_wp2_with fail
      refine (IL.out _ _ _ n (by omega) _ E5.out).mono ?_
      rintro e w6 ⟨A6, c6, rfl, ho6, hb6⟩
      have ha64 := lfR_len y n
      have E6 := Lib.hid ((E5.out.below hb6 (Nat.le_refl _)).mono hb6.size); have X6 := Lib.hid ((X5.out.below hb6 (Nat.le_refl _)).mono hb6.size); have I6 := Lib.hid ((I5.out.below hb6 (Nat.le_refl _)).mono hb6.size); have B6 := Lib.hid (below_up B5.out hb6 B5.out.size); have R6 := Lib.hid (ho6.ints (by omega))
      clear ho6 hb6
      go_wp2_with fail
      refine (SL.out _ _ _ n (by omega) _ E6.out).mono ?_
      rintro e w7 ⟨A7, c7, rfl, ho7, hb7⟩
      have X7 := Lib.hid ((X6.out.below hb7 (Nat.le_refl _)).mono hb7.size); have I7 := Lib.hid ((I6.out.below hb7 (Nat.le_refl _)).mono hb7.size); have B7 := Lib.hid (below_up B6.out hb7 B6.out.size); have R7 := Lib.hid ((R6.out.below hb7 (Nat.le_refl _)).mono hb7.size); have Q7 := Lib.hid (ho7.ints (by omega))
      clear ho7 hb7
      have PB := Lib.hid (@pairs_back y n)
      have EC := lfE_cases y n
      obtain ⟨r, hr⟩ : ∃ r, r = lfR y n := ⟨_, rfl⟩
      obtain ⟨e0, he0⟩ : ∃ e0, e0 = lfE y n := ⟨_, rfl⟩
      rw [← hr] at R7 Q7 PB ha64 ⊢
      rw [← he0] at PB EC ⊢
      clear hr he0
      go_wp2_with fail
      refine (SI.out _ _ _ _ _ _ _ X7.out I7.out).mono ?_
      rintro e w8 ⟨rfl, hb8⟩
      have B8 := Lib.hid (below_up B7.out hb8 B7.out.size); have R8 := Lib.hid ((R7.out.below hb8 (Nat.le_refl _)).mono hb8.size); have Q8 := Lib.hid ((Q7.out.below hb8 (Nat.le_refl _)).mono hb8.size)
      clear hb8
      rcases EC with rfl | rfl
      · have hyl : (prR r).length = y.length := by rw [PB.out rfl]
        go_wp2_with fail
        refine (SI.out _ _ _ _ _ _ _ R8.out Q8.out).mono ?_
        rintro e w9 ⟨rfl, hb9⟩
        have B9 := Lib.hid (below_up B8.out hb9 B8.out.size); have R9 := Lib.hid ((R8.out.below hb9 (Nat.le_refl _)).mono hb9.size); clear hb9
        go_wp2_with fail
        refine (IP.out _ _ _ _ R9.out).mono ?_
        rintro e w10 ⟨A10, c10, rfl, ho10, hb10⟩
        rw [hyl]
        have B10 := Lib.hid (below_up B9.out hb10 B9.out.size); clear ho10 hb10 hyl
        go_wp2
        go_ret
        exact ⟨rfl, B10.out⟩
      · go_wp2_with fail
        refine (SI.out _ _ _ _ _ _ _ R8.out Q8.out).mono ?_
        rintro e w9 ⟨rfl, hb9⟩
        have B9 := Lib.hid (below_up B8.out hb9 B8.out.size); clear hb9
        go_wp2
        go_ret
        exact ⟨rfl, B9.out⟩
end Go.Proofs.Ytgihpckibdnghaa
