/-
  The walk of the law FnButterflies. No condition.
-/
import Derived.Test.YtcmijednpnabmaaLiftB
import Derived.Test.YtcmijednpnabmaaLiftE
import Derived.Test.YtcmijednpnabmaaLiftG
import Derived.Test.YtcmijednpnabmaaFormB
import Derived.Test.YtcmijednpnabmaaFormF
import Derived.Test.YtcmijednpnabmaaFormG
import Derived.Test.YtcmijednpnabmaaMatS
import Derived.Deep.RegionHeld3
namespace Go.Proofs.Ytcmijednpnabmaa
open Go.RowKit
set_option linter.unusedVariables false

theorem fast_sym (m : List Int) : xfR 8 true m = xfR 8 false m := by
  cases h : fitL 8 m with
  | true => rw [xfR_fit true h, xfR_fit false h, mul_sym]
  | false => rw [xfR_unfit true h, xfR_unfit false h]

set_option maxRecDepth 100000 in
set_option maxHeartbeats 8000000 in
/-- The law's own walk. -/
theorem fnButterflies_walk (a : Option Addr) (len cap : Nat) (zs : List Int) (w : World) (hr : IsRow .u8 w a len cap zs) :
    Calls Try.prog 8 #[.slice a len cap] w fun e w' => e = .returned (.bool true) ∧ Below w.heap.size w w' := by
  have hlm := hr.len_le
  unfold maxLen at hlm
  by_cases hbig : 1048576 < len
  · have BG := Lib.hid (big_any a len cap hlm)
    have hb : decide (1048576 < (len : Int)) = true := decide_eq_true (by omega)
    rw [hb] at BG
    clear hr hlm hbig hb
    go_enter Try.func8, Try.ntmps8
    go_wp2_with fail
    refine (BG.out _).mono ?_
    rintro e w1 ⟨rfl, hw⟩
    subst hw
    go_wp2
    go_ret
    exact ⟨rfl, Below.refl _ _⟩
  · have hbigF : decide (1048576 < (len : Int)) = false := decide_eq_false (by omega)
    obtain ⟨ys, rfl, hW⟩ := code_of hr (by omega)
    have BG := Lib.hid (big_any a ys.length cap hlm)
    rw [hbigF] at BG
    have D4 := Lib.hid (drawinverse4_ex a cap ys w hW)
    have D8 := Lib.hid fun w hW => drawinverse8_ex a cap ys w hW
    have HW := Lib.hid hW
    have F4 := Lib.hid @impl_fast4_any; have G4 := Lib.hid @impl_inverse4_any; have S4 := Lib.hid @spec_inverse4_any
    have F8 := Lib.hid @impl_fast8_any; have G8 := Lib.hid @impl_inverse8_any; have S8 := Lib.hid @spec_forward8_any
    have SI := Lib.hid @sameints_any
    clear hr hbig hbigF hlm hW
    go_enter Try.func8, Try.ntmps8
    go_wp2_with fail
    refine (BG.out _).mono ?_
    rintro e w1 ⟨rfl, hw⟩
    subst hw
    go_wp2_with fail
    refine (D4.out).mono ?_
    rintro e w_1 ⟨l, A_L, c_L, rfl, hl16, hIL, hb⟩
    have BB := Lib.hid hb
    have L := Lib.hid hIL
    clear hb hIL
    go_wp2_with fail
    refine (D8.out _ (HW.out.below BB.out)).mono ?_
    rintro e w_2 ⟨m, A_M, c_M, rfl, hm64, hIM, hb⟩
    have L := Lib.hid ((L.out.below hb (Nat.le_refl _)).mono hb.size)
    have BB := Lib.hid (below_up BB.out hb BB.out.size)
    have M := Lib.hid hIM
    have F4l := Lib.hid fun A c w h => F4.out A c l w h; have G4l := Lib.hid fun A c w h => G4.out A c l w h; have S4l := Lib.hid fun A c w h => S4.out A c l w h
    have F8m := Lib.hid fun A c w h => F8.out A c m w h; have G8m := Lib.hid fun A c w h => G8.out A c m w h; have S8m := Lib.hid fun A c w h => S8.out A c m w h
    rw [← fast_sym m] at S8m
    have hx16 := xfR_len (n := 4) true l (by decide); have hy64 := xfR_len (n := 8) true m (by decide)
    obtain ⟨X, hX⟩ : ∃ X, X = xfR 4 true l := ⟨_, rfl⟩
    obtain ⟨Y, hY⟩ : ∃ Y, Y = xfR 8 true m := ⟨_, rfl⟩
    rw [← hX] at F4l G4l S4l hx16
    rw [← hY] at F8m G8m S8m hy64
    have SX := Lib.hid fun A B ca cb w hA hB => SI.out A B ca cb X X w hA hB; have SY := Lib.hid fun A B ca cb w hA hB => SI.out A B ca cb Y Y w hA hB
    rw [decide_eq_true (show X = X from rfl)] at SX
    rw [decide_eq_true (show Y = Y from rfl)] at SY
    obtain ⟨nl, hnl⟩ : ∃ n, n = l.length := ⟨_, rfl⟩
    obtain ⟨nm, hnm⟩ : ∃ n, n = m.length := ⟨_, rfl⟩
    rw [← hnl] at F4l G4l S4l ⊢
    rw [← hnm] at F8m G8m S8m ⊢
    clear hX hY hl16 hm64 hnl hnm
    clear hb hIM
    go_wp2_with fail
    refine (F4l.out _ _ _ L.out).mono ?_
    rintro e w_3 ⟨A_P0, c_P0, rfl, ho, hb⟩
    have L := Lib.hid ((L.out.below hb (Nat.le_refl _)).mono hb.size)
    have M := Lib.hid ((M.out.below hb (Nat.le_refl _)).mono hb.size)
    have BB := Lib.hid (below_up BB.out hb BB.out.size)
    have P0 := Lib.hid (ho.ints (by omega))
    clear ho hb
    go_wp2_with fail
    refine (G4l.out _ _ _ L.out).mono ?_
    rintro e w_4 ⟨A_Q0, c_Q0, rfl, ho, hb⟩
    have L := Lib.hid ((L.out.below hb (Nat.le_refl _)).mono hb.size)
    have M := Lib.hid ((M.out.below hb (Nat.le_refl _)).mono hb.size)
    have P0 := Lib.hid ((P0.out.below hb (Nat.le_refl _)).mono hb.size)
    have BB := Lib.hid (below_up BB.out hb BB.out.size)
    have Q0 := Lib.hid (ho.ints (by omega))
    clear ho hb
    go_wp2_with fail
    refine (SX.out _ _ _ _ _ P0.out Q0.out).mono ?_
    rintro e w_5 ⟨rfl, hb⟩
    have L := Lib.hid ((L.out.below hb (Nat.le_refl _)).mono hb.size)
    have M := Lib.hid ((M.out.below hb (Nat.le_refl _)).mono hb.size)
    have P0 := Lib.hid ((P0.out.below hb (Nat.le_refl _)).mono hb.size)
    have Q0 := Lib.hid ((Q0.out.below hb (Nat.le_refl _)).mono hb.size)
    have BB := Lib.hid (below_up BB.out hb BB.out.size)
    clear hb
    clear P0 Q0
    go_wp2_with fail
    refine (F8m.out _ _ _ M.out).mono ?_
    rintro e w_6 ⟨A_P1, c_P1, rfl, ho, hb⟩
    have L := Lib.hid ((L.out.below hb (Nat.le_refl _)).mono hb.size)
    have M := Lib.hid ((M.out.below hb (Nat.le_refl _)).mono hb.size)
    have BB := Lib.hid (below_up BB.out hb BB.out.size)
    have P1 := Lib.hid (ho.ints (by omega))
    clear ho hb
    go_wp2_with fail
    refine (G8m.out _ _ _ M.out).mono ?_
    rintro e w_7 ⟨A_Q1, c_Q1, rfl, ho, hb⟩
    have L := Lib.hid ((L.out.below hb (Nat.le_refl _)).mono hb.size)
    have M := Lib.hid ((M.out.below hb (Nat.le_refl _)).mono hb.size)
    have P1 := Lib.hid ((P1.out.below hb (Nat.le_refl _)).mono hb.size)
    have BB := Lib.hid (below_up BB.out hb BB.out.size)
    have Q1 := Lib.hid (ho.ints (by omega))
    clear ho hb
    go_wp2_with fail
    refine (SY.out _ _ _ _ _ P1.out Q1.out).mono ?_
    rintro e w_8 ⟨rfl, hb⟩
    have L := Lib.hid ((L.out.below hb (Nat.le_refl _)).mono hb.size)
    have M := Lib.hid ((M.out.below hb (Nat.le_refl _)).mono hb.size)
    have P1 := Lib.hid ((P1.out.below hb (Nat.le_refl _)).mono hb.size)
    have Q1 := Lib.hid ((Q1.out.below hb (Nat.le_refl _)).mono hb.size)
    have BB := Lib.hid (below_up BB.out hb BB.out.size)
    clear hb
    clear P1 Q1
    go_wp2_with fail
    refine (F4l.out _ _ _ L.out).mono ?_
    rintro e w_9 ⟨A_P2, c_P2, rfl, ho, hb⟩
    have L := Lib.hid ((L.out.below hb (Nat.le_refl _)).mono hb.size)
    have M := Lib.hid ((M.out.below hb (Nat.le_refl _)).mono hb.size)
    have BB := Lib.hid (below_up BB.out hb BB.out.size)
    have P2 := Lib.hid (ho.ints (by omega))
    clear ho hb
    go_wp2_with fail
    refine (S4l.out _ _ _ L.out).mono ?_
    rintro e w_10 ⟨A_Q2, c_Q2, rfl, ho, hb⟩
    have L := Lib.hid ((L.out.below hb (Nat.le_refl _)).mono hb.size)
    have M := Lib.hid ((M.out.below hb (Nat.le_refl _)).mono hb.size)
    have P2 := Lib.hid ((P2.out.below hb (Nat.le_refl _)).mono hb.size)
    have BB := Lib.hid (below_up BB.out hb BB.out.size)
    have Q2 := Lib.hid (ho.ints (by omega))
    clear ho hb
    go_wp2_with fail
    refine (SX.out _ _ _ _ _ P2.out Q2.out).mono ?_
    rintro e w_11 ⟨rfl, hb⟩
    have L := Lib.hid ((L.out.below hb (Nat.le_refl _)).mono hb.size)
    have M := Lib.hid ((M.out.below hb (Nat.le_refl _)).mono hb.size)
    have P2 := Lib.hid ((P2.out.below hb (Nat.le_refl _)).mono hb.size)
    have Q2 := Lib.hid ((Q2.out.below hb (Nat.le_refl _)).mono hb.size)
    have BB := Lib.hid (below_up BB.out hb BB.out.size)
    clear hb
    clear P2 Q2
    go_wp2_with fail
    refine (F8m.out _ _ _ M.out).mono ?_
    rintro e w_12 ⟨A_P3, c_P3, rfl, ho, hb⟩
    have L := Lib.hid ((L.out.below hb (Nat.le_refl _)).mono hb.size)
    have M := Lib.hid ((M.out.below hb (Nat.le_refl _)).mono hb.size)
    have BB := Lib.hid (below_up BB.out hb BB.out.size)
    have P3 := Lib.hid (ho.ints (by omega))
    clear ho hb
    go_wp2_with fail
    refine (S8m.out _ _ _ M.out).mono ?_
    rintro e w_13 ⟨A_Q3, c_Q3, rfl, ho, hb⟩
    have L := Lib.hid ((L.out.below hb (Nat.le_refl _)).mono hb.size)
    have M := Lib.hid ((M.out.below hb (Nat.le_refl _)).mono hb.size)
    have P3 := Lib.hid ((P3.out.below hb (Nat.le_refl _)).mono hb.size)
    have BB := Lib.hid (below_up BB.out hb BB.out.size)
    have Q3 := Lib.hid (ho.ints (by omega))
    clear ho hb
    go_wp2_with fail
    refine (SY.out _ _ _ _ _ P3.out Q3.out).mono ?_
    rintro e w_14 ⟨rfl, hb⟩
    have L := Lib.hid ((L.out.below hb (Nat.le_refl _)).mono hb.size)
    have M := Lib.hid ((M.out.below hb (Nat.le_refl _)).mono hb.size)
    have P3 := Lib.hid ((P3.out.below hb (Nat.le_refl _)).mono hb.size)
    have Q3 := Lib.hid ((Q3.out.below hb (Nat.le_refl _)).mono hb.size)
    have BB := Lib.hid (below_up BB.out hb BB.out.size)
    clear hb
    clear P3 Q3
    go_wp2
    go_ret
    exact ⟨rfl, BB.out⟩
end Go.Proofs.Ytcmijednpnabmaa
