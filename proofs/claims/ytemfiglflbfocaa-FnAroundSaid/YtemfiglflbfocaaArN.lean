/-
  The walk of the law FnAround. No condition.
-/
import Derived.Test.YtemfiglflbfocaaFdM
import Derived.Test.YtemfiglflbfocaaArP
import Derived.Test.YtemfiglflbfocaaIfM
import Derived.Test.YtemfiglflbfocaaK7
import Derived.RegionTactic
import Derived.BigRegion
import Derived.BigQuiet
import Derived.Deep.QuietTactic
import Derived.Deep.Cut
import Derived.Deep.DeepCutAuto
import Derived.Deep.RegionHeld3
namespace Go.Proofs.Ytemfiglflbfocaa
open Go.RowKit
set_option linter.unusedVariables false

theorem ar_drew {w W : World} {p0 p1 p2 : Addr} {v0 v1 v2 : Value} {B : Nat} (h : w.cell? p0 = some v0 ∧ w.cell? p1 = some v1 ∧ w.cell? p2 = some v2 ∧ Below B W w) : w.drew.cell? p0 = some v0 ∧ w.drew.cell? p1 = some v1 ∧ w.drew.cell? p2 = some v2 ∧ Below B W w.drew := ⟨h.1, h.2.1, h.2.2.1, h.2.2.2.drew⟩
theorem ar_set {w W : World} {g x j B : Nat} {v0 v1 v2 u : Value} (h : w.cell? ⟨g, 0, none⟩ = some v0 ∧ w.cell? ⟨g, 1, none⟩ = some v1 ∧ w.cell? ⟨g, 2, none⟩ = some v2 ∧ Below B W w) (hg : g ≠ x) (hx : B ≤ x) :
    (w.setCell ⟨x, j, none⟩ u).cell? ⟨g, 0, none⟩ = some v0 ∧ (w.setCell ⟨x, j, none⟩ u).cell? ⟨g, 1, none⟩ = some v1 ∧ (w.setCell ⟨x, j, none⟩ u).cell? ⟨g, 2, none⟩ = some v2 ∧ Below B W (w.setCell ⟨x, j, none⟩ u) := by
  have hc : ∀ i, (w.setCell ⟨x, j, none⟩ u).cell? ⟨g, i, none⟩ = w.cell? ⟨g, i, none⟩ := fun i => World.cell?_of_block (a := ⟨g, i, none⟩) (heap_setCell_other _ _ _ _ hg)
  exact ⟨(hc 0).trans h.1, (hc 1).trans h.2.1, (hc 2).trans h.2.2.1, Below.setCell h.2.2.2 (p := ⟨x, j, none⟩) hx u⟩
theorem ar_below {w W : World} {p0 p1 p2 : Addr} {v0 v1 v2 : Value} {B : Nat} (h : w.cell? p0 = some v0 ∧ w.cell? p1 = some v1 ∧ w.cell? p2 = some v2 ∧ Below B W w) : Below B W w := h.2.2.2
theorem at_all (A : Option Addr) (cap : Nat) (zs : List Int) (hz : zs.length ≤ 1048576) : ∃ AT : Nat → Int, ∀ i, i ≤ 1000 → 0 ≤ AT i ∧ AT i < 256 ∧ ∀ w : World, Code w A zs →
    Calls Try.prog 26 #[.slice A zs.length cap, .int .i64 i] w fun e w' => e = .returned (.int .i64 (AT i)) ∧ w = w' := by
  refine ⟨fun i => if h : i ≤ 1000 then Classical.choose (at_det A cap zs hz i h) else 0, fun i hi => ?_⟩
  simp only [dif_pos hi]
  exact Classical.choose_spec (at_det A cap zs hz i hi)

set_option maxRecDepth 100000 in
set_option maxHeartbeats 8000000 in
/-- The law's own walk. -/
theorem fnAround_walk (a0 : Option Addr) (len cap : Nat) (zs : List Int) (w : World) (hr : IsRow .u8 w a0 len cap zs) :
    Calls Try.prog 4 #[.slice a0 len cap] w fun e w' => e = .returned (.bool true) ∧ Below w.heap.size w w' := by
  obtain ⟨i0, hii, hz0, hz1, hz2⟩ := info_parts Try.iinfo
  have hlm := hr.len_le
  unfold maxLen at hlm
  by_cases hbig : 1048576 < len
  · have BG := Lib.hid (big_any a0 len cap (by omega))
    have hb : decide (1048576 < (len : Int)) = true := decide_eq_true (by omega)
    rw [hb] at BG
    clear hr hlm hbig hb
    go_enter Try.func4, Try.ntmps4
    go_wp2_with fail
    refine (BG.out _).mono ?_
    rintro e w1 ⟨rfl, hw⟩
    subst hw
    go_wp2
    go_ret
    exact ⟨rfl, Below.refl _ _⟩
  · have hbigF : decide (1048576 < (len : Int)) = false := decide_eq_false (by omega)
    obtain ⟨ys, rfl, hW⟩ := code_of hr (by omega)
    have BG := Lib.hid (big_any a0 ys.length cap hlm)
    rw [hbigF] at BG
    have HW := Lib.hid hW
    have DS := Lib.hid (drawnbat_ex a0 cap ys w hW)
    obtain ⟨AT, hAT⟩ := at_all a0 cap ys hW.few
    have HAT := Lib.hid hAT
    have SI := Lib.hid @sameints_any
    clear hr hbig hbigF hlm hW hAT
    go_enter Try.func4, Try.ntmps4
    go_wp2_with fail
    refine (BG.out _).mono ?_
    rintro e w1 ⟨rfl, hw⟩
    subst hw
    go_wp2_with fail
    refine DS.out.mono ?_
    rintro e w2 ⟨a, b, l, TA, c, x, y, n, rfl, ha, hb, hn, hx, hy, hI, hc, hl, hbw⟩
    have IN := Lib.hid fun w h => impl_nbat_o a b TA c l x y n w h hc
    have SN := Lib.hid fun w h => spec_nbat_o a b TA c l x y n w h
    obtain ⟨t, ht⟩ : ∃ t, t = nbTop a b l x y n := ⟨_, rfl⟩
    obtain ⟨le, hle⟩ : ∃ t, t = nbLeft a b l x y n := ⟨_, rfl⟩
    obtain ⟨co, hco⟩ : ∃ t, t = nbCo a b l x y n := ⟨_, rfl⟩
    obtain ⟨h1, hh1⟩ : ∃ t, t = nbHas a b l x y n y := ⟨_, rfl⟩
    obtain ⟨h2, hh2⟩ : ∃ t, t = nbHas a b l x y n x := ⟨_, rfl⟩
    have htl : t.length ≤ 16 := by rw [ht]; exact nbTop_len a b l x y n
    have hll : le.length ≤ 8 := by rw [hle]; exact nbLeft_len a b l x y n
    rw [← ht, ← hle, ← hco, ← hh1, ← hh2] at IN SN
    have HT := Lib.hid ht; have HLE := Lib.hid hle; have HCO := Lib.hid hco; have HH1 := Lib.hid hh1; have HH2 := Lib.hid hh2
    have NK := Lib.hid fun A cA B cB w h3 h4 => impl_nbok_any A cA B cB t le co h1 h2 n w h3 h4
    have S1 : Hid (∀ P Q ca cb w, Ints w w.heap.size P t → Ints w w.heap.size Q t → Calls Try.prog 17 #[.slice P t.length ca, .slice Q t.length cb] w fun e w' => e = .returned (.bool true) ∧ Below w.heap.size w w') := Lib.hid fun P Q ca cb w g1 g2 => by
      have := SI.out P Q ca cb t t w g1 g2
      simpa using this
    have S2 : Hid (∀ P Q ca cb w, Ints w w.heap.size P le → Ints w w.heap.size Q le → Calls Try.prog 17 #[.slice P le.length ca, .slice Q le.length cb] w fun e w' => e = .returned (.bool true) ∧ Below w.heap.size w w') := Lib.hid fun P Q ca cb w g1 g2 => by
      have := SI.out P Q ca cb le le w g1 g2
      simpa using this
    obtain ⟨n1, hn1⟩ : ∃ k, k = t.length := ⟨_, rfl⟩
    obtain ⟨n2, hn2⟩ : ∃ k, k = le.length := ⟨_, rfl⟩
    rw [← hn1] at IN SN NK S1 htl
    rw [← hn2] at IN SN NK S2 hll
    have HN1 := Lib.hid hn1; have HN2 := Lib.hid hn2
    have CD2 := Lib.hid (HW.out.below hbw)
    -- the frame's block
    have hb3 := below_new w2 (.cells #[.int .i64 a, .int .i64 b, .slice TA l.length c] 26)
    have hk3 := heap_alloc_new w2 (.cells #[.int .i64 a, .int .i64 b, .slice TA l.length c] 26)
    obtain ⟨w3, hw3⟩ : ∃ w3, w3 = w2.alloc (.cells #[.int .i64 a, .int .i64 b, .slice TA l.length c] 26) := ⟨_, rfl⟩
    obtain ⟨fb, hfb⟩ : ∃ fb, fb = w2.heap.size := ⟨_, rfl⟩
    rw [← hw3, ← hfb] at hk3
    rw [← hw3] at hb3
    obtain ⟨N, hN⟩ : ∃ N, N = l.length := ⟨_, rfl⟩
    have HN := Lib.hid hN
    have BW3 : Hid (Below w.heap.size w w3) := Lib.hid (below_up hbw hb3 hbw.size)
    have SB3 : Hid (∀ wx, Below w3.heap.size w3 wx → wx.heap[fb]? = some (.cells #[.int .i64 a, .int .i64 b, .slice TA N c] 26 (0, 0)) ∧ Ints wx wx.heap.size TA l ∧ Code wx a0 ys) := Lib.hid fun wx h => by
      have q := below_up hb3 h hb3.size
      rw [hN]
      exact ⟨(h.block fb (heap_lt hk3)).trans hk3, (hI.below q (Nat.le_refl _)).mono q.size, CD2.out.below q⟩
    have HW3 := Lib.hid hw3; have HFB := Lib.hid hfb; have HL := Lib.hid hl; have HC := Lib.hid hc
    have C3 := SB3.out w3 (Below.refl _ _)
    have J1 := Lib.hid C3.2.1; have hfbl := heap_lt C3.1
    clear hbw hI hk3 hb3 hw3 hfb C3 DS hc ht hle hco hh1 hh2 hn1 hn2 SI CD2
    rw [← hN] at IN SN hl
    rw [← hN] at HW3
    clear hN
    go_wp2_with fail
    rw [← HN.out, ← HW3.out, ← HFB.out]
    refine (IN.out _ J1.out).mono ?_
    rintro e w4 ⟨PA, cP, QA, cQ, rfl, hoN, hb4⟩
    have hk5 := heap_alloc_new w4 (.cells #[.slice PA n1 cP, .slice QA n2 cQ, .int .i64 co, .bool h1, .bool h2] 38)
    have hb5 := below_new w4 (.cells #[.slice PA n1 cP, .slice QA n2 cQ, .int .i64 co, .bool h1, .bool h2] 38)
    obtain ⟨w5, hw5⟩ : ∃ w5, w5 = w4.alloc (.cells #[.slice PA n1 cP, .slice QA n2 cQ, .int .i64 co, .bool h1, .bool h2] 38) := ⟨_, rfl⟩
    obtain ⟨bb, hbb⟩ : ∃ gb, gb = w4.heap.size := ⟨_, rfl⟩
    rw [← hw5, ← hbb] at hk5
    rw [← hw5] at hb5
    have B35 : Hid (Below w3.heap.size w3 w5) := Lib.hid (below_up hb4 hb5 hb4.size)
    have IP : Hid (Ints w5 w5.heap.size PA t) := Lib.hid (((OwnI.ints hoN.1 (by rw [← HN1.out]; omega)).below hb5 (Nat.le_refl _)).mono hb5.size)
    have IQ : Hid (Ints w5 w5.heap.size QA le) := Lib.hid (((OwnI.ints hoN.2.1 (by rw [← HN2.out]; omega)).below hb5 (Nat.le_refl _)).mono hb5.size)
    have K5 := Lib.hid hk5
    have SB5 : Hid (∀ wx, Below w5.heap.size w5 wx → (wx.heap[fb]? = some (.cells #[.int .i64 a, .int .i64 b, .slice TA N c] 26 (0, 0)) ∧ wx.heap[bb]? = some (.cells #[.slice PA n1 cP, .slice QA n2 cQ, .int .i64 co, .bool h1, .bool h2] 38 (0, 0))) ∧ (Ints wx wx.heap.size TA l ∧ Code wx a0 ys) ∧ Ints wx wx.heap.size PA t ∧ Ints wx wx.heap.size QA le) := Lib.hid fun wx h => by
      have s := SB3.out wx (below_up B35.out h B35.out.size)
      exact ⟨⟨s.1, (h.block bb (heap_lt K5.out)).trans K5.out⟩, s.2, (IP.out.below h (Nat.le_refl _)).mono h.size, (IQ.out.below h (Nat.le_refl _)).mono h.size⟩
    have HW5 := Lib.hid hw5; have HBB := Lib.hid hbb
    have C5 := SB5.out w5 (Below.refl _ _)
    have C4 := (SB3.out w4 hb4).1
    obtain ⟨c0, c1, c2⟩ := cells3 C4
    have hfb4 : fb < w4.heap.size := heap_lt C4
    clear C4
    have J3 := Lib.hid C5.2.1.1
    have hfgb : fb ≠ bb := by have := hb4.size; omega
    clear hoN hb4 hk5 hb5 hw5 hbb C5
    go_wp2_with fail
    rw [← HW5.out, ← HBB.out]
    refine (SN.out _ J3.out).mono ?_
    rintro e w6 ⟨RA, cR, UA, cU, rfl, hoM, hb6⟩
    have hk7 := heap_alloc_new w6 (.cells #[.slice RA n1 cR, .slice UA n2 cU, .int .i64 co, .bool h1, .bool h2] 38)
    have hb7 := below_new w6 (.cells #[.slice RA n1 cR, .slice UA n2 cU, .int .i64 co, .bool h1, .bool h2] 38)
    obtain ⟨w7, hw7⟩ : ∃ w7, w7 = w6.alloc (.cells #[.slice RA n1 cR, .slice UA n2 cU, .int .i64 co, .bool h1, .bool h2] 38) := ⟨_, rfl⟩
    obtain ⟨cb, hcb⟩ : ∃ gb, gb = w6.heap.size := ⟨_, rfl⟩
    rw [← hw7, ← hcb] at hk7
    rw [← hw7] at hb7
    have B57 : Hid (Below w5.heap.size w5 w7) := Lib.hid (below_up hb6 hb7 hb6.size)
    have IR : Hid (Ints w7 w7.heap.size RA t) := Lib.hid (((OwnI.ints hoM.1 (by rw [← HN1.out]; omega)).below hb7 (Nat.le_refl _)).mono hb7.size)
    have IU : Hid (Ints w7 w7.heap.size UA le) := Lib.hid (((OwnI.ints hoM.2.1 (by rw [← HN2.out]; omega)).below hb7 (Nat.le_refl _)).mono hb7.size)
    have K7 := Lib.hid hk7
    have SB7 : Hid (∀ wx, Below w7.heap.size w7 wx → ((wx.heap[fb]? = some (.cells #[.int .i64 a, .int .i64 b, .slice TA N c] 26 (0, 0)) ∧ wx.heap[bb]? = some (.cells #[.slice PA n1 cP, .slice QA n2 cQ, .int .i64 co, .bool h1, .bool h2] 38 (0, 0))) ∧ (Ints wx wx.heap.size TA l ∧ Code wx a0 ys) ∧ Ints wx wx.heap.size PA t ∧ Ints wx wx.heap.size QA le) ∧ wx.heap[cb]? = some (.cells #[.slice RA n1 cR, .slice UA n2 cU, .int .i64 co, .bool h1, .bool h2] 38 (0, 0)) ∧ Ints wx wx.heap.size RA t ∧ Ints wx wx.heap.size UA le) := Lib.hid fun wx h => by
      exact ⟨SB5.out wx (below_up B57.out h B57.out.size), (h.block cb (heap_lt K7.out)).trans K7.out, (IR.out.below h (Nat.le_refl _)).mono h.size, (IU.out.below h (Nat.le_refl _)).mono h.size⟩
    have BW7 : Hid (Below w.heap.size w w7) := Lib.hid (below_up BW3.out (below_up B35.out B57.out B35.out.size) BW3.out.size)
    have HW7 := Lib.hid hw7; have HCB := Lib.hid hcb
    have C7 := SB7.out w7 (Below.refl _ _)
    have C6 := (SB5.out w6 hb6).1
    clear c0 c1 c2
    obtain ⟨c0, c1, c2⟩ := cells3 C6.1
    obtain ⟨p0, p1, p2, p3, p4⟩ := cells5 C6.2
    have hfb6 : fb < w6.heap.size := heap_lt C6.1
    have hbb6 : bb < w6.heap.size := heap_lt C6.2
    have hbc : bb ≠ cb := by have := hb6.size; omega
    have J4 := Lib.hid C7.1.2.2.1; have J5 := Lib.hid C7.2.2.1
    have eco : (co != co) = false := by simp
    have eh1 : (h1 != h1) = false := by simp
    have eh2 : (h2 != h2) = false := by simp
    clear hoM hb6 hk7 hb7 hw7 hcb C6 C7
    go_wp2_with fail
    rw [← HW7.out, ← HCB.out]
    refine (S1.out _ _ _ _ _ J4.out J5.out).mono ?_
    rintro e w8 ⟨rfl, hb8⟩
    have B8 := Lib.hid hb8
    have C8 := SB7.out _ hb8
    clear c0 c1 c2 p0 p1 p2 p3 p4 hb8
    obtain ⟨p0, p1, p2, p3, p4⟩ := cells5 C8.1.1.2
    obtain ⟨q0, q1, q2, q3, q4⟩ := cells5 C8.2.1
    have J6 := Lib.hid C8.1.2.2.2; have J7 := Lib.hid C8.2.2.2
    clear C8
    go_wp2_with fail
    refine (S2.out _ _ _ _ _ J6.out J7.out).mono ?_
    rintro e w9 ⟨rfl, hb9⟩
    have B9 := Lib.hid (below_up B8.out hb9 B8.out.size)
    have C9 := SB7.out _ B9.out
    clear p0 p1 p2 p3 p4 q0 q1 q2 q3 q4 hb9
    obtain ⟨c0, c1, c2⟩ := cells3 C9.1.1.1
    obtain ⟨p0, p1, p2, p3, p4⟩ := cells5 C9.1.1.2
    obtain ⟨q0, q1, q2, q3, q4⟩ := cells5 C9.2.1
    have J8 := Lib.hid C9.1.2.2.1; have J9 := Lib.hid C9.1.2.2.2
    have BW9 := Lib.hid (below_up BW7.out B9.out BW7.out.size)
    clear C9
    cases hin : inE a b l x y n with
    | false =>
      have t0 : n1 = 0 := by rw [HN1.out, HT.out]; unfold nbTop; rw [if_neg (by rw [hin]; decide)]; rfl
      have d1 : ((n1 : Int) == 0) = true := by rw [t0]; rfl
      have NKX := Lib.hid fun w h3 h4 => NK.out PA cP QA cQ w h3 h4
      have hnk : nbOk t le co n = false := by rw [HT.out, HLE.out, HCO.out]; exact nb_none hin
      rw [hnk] at NKX
      clear hnk t0 hin
      go_wp2_with fail
      refine (NKX.out _ J8.out J9.out).mono ?_
      rintro e w10 ⟨rfl, hb10⟩
      have B10 := Lib.hid (below_up BW9.out hb10 BW9.out.size)
      clear hb10
      go_wp2
      go_ret
      exact ⟨rfl, B10.out⟩
    | true =>
      have hok := around_ok hin
      have hnb : nbOk t le co n = true := by
        rw [HT.out, HLE.out, HCO.out]
        unfold nbTop nbLeft nbCo
        rw [if_pos hin, if_pos hin, if_pos hin]
        exact hok
      have g1 : h1 = decide (0 < y) := by rw [HH1.out]; unfold nbHas; rw [hin, Bool.true_and]
      have g2 : h2 = decide (0 < x) := by rw [HH2.out]; unfold nbHas; rw [hin, Bool.true_and]
      have NKX := Lib.hid fun w h3 h4 => NK.out PA cP QA cQ w h3 h4
      have G1 := Lib.hid g1; have G2 := Lib.hid g2
      clear g1 g2
      rw [hnb] at NKX
      obtain ⟨A, B, X, Y, k, rfl, rfl, rfl, rfl, rfl, hk48, hXA, hYB, hA32, hB32, hA8, hB8, hlAB, -, -, hA0, hB0, hpx⟩ := inE_nat hin
      have hal : ∀ i, i < l.length → 0 ≤ AT i ∧ AT i < 256 := fun i hi => ⟨(HAT.out i (by have := HL.out; omega)).1, (HAT.out i (by have := HL.out; omega)).2.1⟩
      obtain ⟨r1, r2, r3⟩ := ar_same hin hal
      have rin := ar_in hin hal
      have t1 : n1 = 2 * k := by rw [HN1.out, HT.out]; unfold nbTop; rw [if_pos hin, tpL_len, Int.toNat_natCast]
      have d1 : ((n1 : Int) == 0) = false := by rw [beq_eq_false_iff_ne]; omega
      obtain ⟨C, hC⟩ : ∃ C, C = arL l AT A X Y k l.length := ⟨_, rfl⟩
      have hCl : C.length = N := by rw [hC, arL_len, HN.out]
      have hCv : ∀ i, i < N → C.getD i 0 = if (Y ≤ i / A ∧ X ≤ i % A) ∨ Y + k ≤ i / A then AT i else l.getD i 0 := fun i hi => by rw [hC]; exact arL_at (by rw [← HN.out]; exact hi)
      rw [← hC] at r1 r2 r3 rin
      have HCL := Lib.hid hCl; have HCV := Lib.hid hCv; have HSS := Lib.hid (And.intro r1 (And.intro r2 r3)); have HRI := Lib.hid rin
      -- the other frame
      have hs : sidesE (A : Int) (B : Int) = true := by
        simp only [inE, Bool.and_eq_true] at hin
        exact (frameE_sides hin.1.1.1.1.1).1
      have FN := Lib.hid (spec_framenew_any (A : Int) (B : Int))
      have hNab : (newL (A : Int) (B : Int)) = List.replicate N 0 := by unfold newL; rw [if_pos hs, ← Int.natCast_mul, Int.toNat_natCast, ← hlAB, HN.out]
      rw [show newW (A : Int) (B : Int) = (A : Int) by unfold newW; rw [if_pos hs], show newH (A : Int) (B : Int) = (B : Int) by unfold newH; rw [if_pos hs], hNab, List.length_replicate] at FN
      have hN384 : N ≤ 384 ∧ 0 < N := by have := HL.out; have := HN.out; omega
      have SB9 : Hid (∀ wx, Below w9.heap.size w9 wx → (wx.heap[fb]? = some (.cells #[.int .i64 (A : Int), .int .i64 (B : Int), .slice TA N c] 26 (0, 0)) ∧ wx.heap[bb]? = some (.cells #[.slice PA n1 cP, .slice QA n2 cQ, .int .i64 co, .bool h1, .bool h2] 38 (0, 0))) ∧ (Ints wx wx.heap.size TA l ∧ Code wx a0 ys) ∧ Ints wx wx.heap.size PA t ∧ Ints wx wx.heap.size QA le) := Lib.hid fun wx h => (SB7.out wx (below_up B9.out h B9.out.size)).1
      clear hok hnb hal r1 r2 r3 rin hC hCl hCv hs hNab hin hpx t1
      go_wp2_with fail
      refine (FN.out _).mono ?_
      rintro e w10 ⟨GA, cG, rfl, hoG, hb10⟩
      have hoG2 := hoG
      unfold OwnI at hoG2
      rw [List.length_replicate] at hoG2
      obtain ⟨tb, rfl, htb, htb2, hcn, hcm⟩ := own_whereO hoG2 (List.length_replicate ..) hN384.2
      unfold maxLen at hcm
      have hk11 := heap_alloc_new w10 (.cells #[.int .i64 (A : Int), .int .i64 (B : Int), .slice (some ⟨tb, 0, none⟩) N cG] 26)
      have hb11 := below_new w10 (.cells #[.int .i64 (A : Int), .int .i64 (B : Int), .slice (some ⟨tb, 0, none⟩) N cG] 26)
      have O11 := Lib.hid (own_keep hoG2 hb11)
      obtain ⟨w11, hw11⟩ : ∃ w11, w11 = w10.alloc (.cells #[.int .i64 (A : Int), .int .i64 (B : Int), .slice (some ⟨tb, 0, none⟩) N cG] 26) := ⟨_, rfl⟩
      obtain ⟨gb, hgb⟩ : ∃ gb, gb = w10.heap.size := ⟨_, rfl⟩
      rw [← hw11] at hk11 hb11 O11
      rw [← hgb] at hk11
      have K11 := Lib.hid hk11; have B11 := Lib.hid (below_up hb10 hb11 hb10.size)
      have HW11 := Lib.hid hw11; have HGB := Lib.hid hgb; have HTB := Lib.hid htb
      have hgt : gb ≠ tb := by omega
      have hg9 : w9.heap.size ≤ gb := by have := hb10.size; omega
      have C10 := (SB9.out w10 hb10).1.1
      clear c0 c1 c2 p0 p1 p2 p3 p4 q0 q1 q2 q3 q4
      obtain ⟨c0, c1, c2⟩ := cells3 C10
      have hfb10 : fb < w10.heap.size := heap_lt C10
      have C0 : Hid (colI C N 0 = List.replicate N 0) := Lib.hid (colI_zero C N)
      have hfg : fb ≠ gb := by omega
      have hft : fb < w9.heap.size := heap_lt (SB9.out w9 (Below.refl _ _)).1.1
      clear hoG hoG2 hb10 hb11 hk11 hw11 hgb C10
      go_wp2
      rw [← HW11.out, ← HGB.out]
      go_loopw [10] (fun x10 wr => ∃ i : Nat, i ≤ N ∧ x10 = .int .i64 i ∧ wr.ownsRow w9.heap.size 3 1 (.slice (some ⟨tb, 0, none⟩) N cG) N (ivs (colI C N i)) ∧ wr.heap[gb]? = some (.cells #[.int .i64 (A : Int), .int .i64 (B : Int), .slice (some ⟨tb, 0, none⟩) N cG] 26 (0, 0)) ∧ Below w9.heap.size w9 wr) (fun x10 _ => N - (intOf x10).toNat)
      case atStart => exact ⟨0, Nat.zero_le _, rfl, by rw [C0.out]; exact O11.out, K11.out, B11.out⟩
      case round =>
        obtain ⟨i, hi, rfl, hown, hkg, hbel⟩ := hrel
        clear c0 c1 c2
        have Cr := SB9.out wr hbel
        obtain ⟨c0, c1, c2⟩ := cells3 Cr.1.1
        obtain ⟨d0, d1', d2⟩ := cells3 hkg
        have HBl := Lib.hid hbel; have HO := Lib.hid hown; have HKG := Lib.hid hkg
        have JT := Lib.hid Cr.2.1.1
        clear Cr hown hkg hbel
        by_cases hlt : i < N
        · have t1 : decide ((i : Int) < (N : Int)) = true := by simp; omega
          obtain ⟨pb, po, rfl, hpb, hpc⟩ := JT.out.at i (by rw [← HN.out]; exact hlt)
          have cu := hpc i (by rw [← HN.out]; exact hlt)
          have hcv := HCV.out i hlt
          have hset := colI_set HCL.out hlt
          have ATX := Lib.hid (HAT.out i (by omega)).2.2
          obtain ⟨col, hcol⟩ : ∃ q, q = i % A := ⟨_, rfl⟩
          obtain ⟨row, hrow⟩ : ∃ q, q = i / A := ⟨_, rfl⟩
          rw [← hcol, ← hrow] at hcv
          have z1 : (i : Int) % (A : Int) = (col : Int) := by rw [hcol]; simp
          have z2 : (i : Int) / (A : Int) = (row : Int) := by rw [hrow]; simp
          have z3 : (i : Int).tmod (A : Int) = (col : Int) := by rw [Int.tmod_eq_emod_of_nonneg (by omega)]; exact z1
          have z4 : (i : Int).tdiv (A : Int) = (row : Int) := by rw [Int.tdiv_eq_ediv_of_nonneg (by omega)]; exact z2
          have hcl : col ≤ i := by rw [hcol]; exact Nat.mod_le _ _
          have hrl : row ≤ i := by rw [hrow]; exact Nat.div_le_self _ _
          have z5 : IntKind.i64.wrap (col : Int) = (col : Int) := IntWalk.i64_in _ (by omega)
          have z6 : IntKind.i64.wrap (row : Int) = (row : Int) := IntWalk.i64_in _ (by omega)
          have a0' : (A : Int) ≠ 0 := by omega
          have a1' : ((A : Int) == 0) = false := by rw [beq_eq_false_iff_ne]; exact a0'
          have a2' : ¬ A = 0 := by omega
          have w2' : IntKind.i64.wrap ((Y : Int) + (k : Int)) = (Y : Int) + (k : Int) := IntWalk.i64_in _ (by omega)
          have i0' : (0 : Int) ≤ (i : Int) := by omega
          have iN : (i : Int) < (N : Int) := by omega
          obtain ⟨u, hu⟩ : ∃ u, u = l.getD i 0 := ⟨_, rfl⟩
          obtain ⟨v, hv⟩ : ∃ v, v = AT i := ⟨_, rfl⟩
          rw [← hu] at cu hcv
          rw [← hv] at ATX hcv
          have fz := HO.out.frozenAt i
          obtain ⟨u0, cj⟩ : ∃ u, wr.cell? ⟨tb, i, none⟩ = some u := ⟨_, own_cellsO HO.out (colI_len HCL.out (by omega)) i hlt⟩
          have s1 := HO.out.stored i (.int .i64 u)
          rw [ivs_set] at s1
          have O1 := Lib.hid (World.ownsRow.drew s1.1)
          have hk1 : (wr.setCell ⟨tb, i, none⟩ (.int .i64 u)).drew.heap[gb]? = some (.cells #[.int .i64 (A : Int), .int .i64 (B : Int), .slice (some ⟨tb, 0, none⟩) N cG] 26 (0, 0)) := (heap_setCell_other wr _ _ _ hgt).trans HKG.out
          have hb1 : Below w9.heap.size w9 (wr.setCell ⟨tb, i, none⟩ (.int .i64 u)).drew := (Below.setCell HBl.out (p := ⟨tb, i, none⟩) HTB.out _).drew
          have KG1 := Lib.hid hk1; have BL1 := Lib.hid hb1
          obtain ⟨W1, hW1⟩ : ∃ W1, W1 = (wr.setCell ⟨tb, i, none⟩ (.int .i64 u)).drew := ⟨_, rfl⟩
          have HW1 := Lib.hid hW1
          have f0 := cells3 (SB9.out _ hb1).1.1
          have e0 := cells3 hk1
          obtain ⟨x0, x1, x2⟩ := f0
          obtain ⟨y0, y1, y2⟩ := e0
          have CD := Lib.hid fun wx (h : Below w9.heap.size w9 wx) => (SB9.out wx h).2.1.2
          have SX : W1.cell? ⟨gb, 0, none⟩ = some (.int .i64 (A : Int)) ∧ W1.cell? ⟨gb, 1, none⟩ = some (.int .i64 (B : Int)) ∧ W1.cell? ⟨gb, 2, none⟩ = some (.slice (some ⟨tb, 0, none⟩) N cG) ∧ Below w9.heap.size w9 W1 := by rw [hW1]; exact ⟨y0, y1, y2, hb1⟩
          rw [← hW1] at O1 KG1 BL1
          have hcl2 := colI_len (j := i) HCL.out (by omega)
          have HS := Lib.hid hset; have HCI := Lib.hid hcv; have HL2 := Lib.hid hcl2
          clear hpc hcol hrow hu hv hpb s1 hk1 hb1 hset hcv hW1 hcl2
          by_cases q1 : Y ≤ row
          · have s1 : decide ((Y : Int) ≤ (row : Int)) = true := by simp; omega
            by_cases q2 : X ≤ col
            · have s2 : decide ((X : Int) ≤ (col : Int)) = true := by simp; omega
              have HV : Hid (C.getD i 0 = v) := Lib.hid (by rw [HCI.out, if_pos (.inl ⟨q1, q2⟩)])
              go_wp2
              go_region
              go_wp2
              rw [← HW1.out]
              go_region_held3 (fun w' => w'.cell? ⟨gb, 0, none⟩ = some (.int .i64 (A : Int)) ∧ w'.cell? ⟨gb, 1, none⟩ = some (.int .i64 (B : Int)) ∧ w'.cell? ⟨gb, 2, none⟩ = some (.slice (some ⟨tb, 0, none⟩) N cG) ∧ Below w9.heap.size w9 w')
                (first | with_reducible assumption | (with_reducible exact ar_drew (by with_reducible assumption)) | (exact ar_set (by with_reducible assumption) hgt HTB.out) | fail)
                (first
                  | ((with_reducible refine (ATX.out _ (CD.out _ (ar_below (by with_reducible assumption)))).mono ?_); rintro e wa ⟨rfl, hwa⟩; subst hwa; have O2 := Lib.hid (World.ownsRow.drew O1.out); have fz := O2.out.frozenAt i; obtain ⟨u1, cj⟩ : ∃ u, W1.drew.cell? ⟨tb, i, none⟩ = some u := ⟨_, (O2.out.cellAt i (by omega)).trans (ivs_at _ i (by rw [List.length_set, HL2.out]; exact hlt))⟩)
                  | fail)
              all_goals
                have s1 := (O2.out.stored i (.int .i64 v)).1
                rw [ivs_set, List.set_set, ← HV.out, HS.out] at s1
                have S5 := Lib.hid s1
                clear s1
                go_wp2
                go_roundw
                case rel => exact ⟨i + 1, by omega, by go_num, by rw [← HV.out]; exact S5.out, (heap_setCell_other _ _ _ _ hgt).trans KG1.out, by have h := BL1.out; exact Below.setCell h.drew (p := ⟨tb, i, none⟩) HTB.out _⟩
                case measure => simp [intOf]; omega
            · have s2 : decide ((X : Int) ≤ (col : Int)) = false := by simp; omega
              by_cases q3 : Y + k ≤ row
              · have s3 : decide ((Y : Int) + (k : Int) ≤ (row : Int)) = true := by simp; omega
                have HV : Hid (C.getD i 0 = v) := Lib.hid (by rw [HCI.out, if_pos (.inr q3)])
                go_wp2
                go_region
                go_wp2
                rw [← HW1.out]
                go_region_held3 (fun w' => w'.cell? ⟨gb, 0, none⟩ = some (.int .i64 (A : Int)) ∧ w'.cell? ⟨gb, 1, none⟩ = some (.int .i64 (B : Int)) ∧ w'.cell? ⟨gb, 2, none⟩ = some (.slice (some ⟨tb, 0, none⟩) N cG) ∧ Below w9.heap.size w9 w')
                  (first | with_reducible assumption | (with_reducible exact ar_drew (by with_reducible assumption)) | (exact ar_set (by with_reducible assumption) hgt HTB.out) | fail)
                  (first
                    | ((with_reducible refine (ATX.out _ (CD.out _ (ar_below (by with_reducible assumption)))).mono ?_); rintro e wa ⟨rfl, hwa⟩; subst hwa; have O2 := Lib.hid (World.ownsRow.drew O1.out); have fz := O2.out.frozenAt i; obtain ⟨u1, cj⟩ : ∃ u, W1.drew.cell? ⟨tb, i, none⟩ = some u := ⟨_, (O2.out.cellAt i (by omega)).trans (ivs_at _ i (by rw [List.length_set, HL2.out]; exact hlt))⟩)
                    | fail)
                all_goals
                  have s1 := (O2.out.stored i (.int .i64 v)).1
                  rw [ivs_set, List.set_set, ← HV.out, HS.out] at s1
                  have S5 := Lib.hid s1
                  clear s1
                  go_wp2
                  go_roundw
                  case rel => exact ⟨i + 1, by omega, by go_num, by rw [← HV.out]; exact S5.out, (heap_setCell_other _ _ _ _ hgt).trans KG1.out, by have h := BL1.out; exact Below.setCell h.drew (p := ⟨tb, i, none⟩) HTB.out _⟩
                  case measure => simp [intOf]; omega
              · have s3 : decide ((Y : Int) + (k : Int) ≤ (row : Int)) = false := by simp; omega
                have HV : Hid (C.getD i 0 = u) := Lib.hid (by rw [HCI.out, if_neg (by omega)])
                go_wp2
                go_region
                go_wp2
                rw [← HW1.out]
                go_roundw
                case rel => exact ⟨i + 1, by omega, by go_num, by have h := O1.out; rw [← HV.out, HS.out] at h; exact h, KG1.out, BL1.out⟩
                case measure => simp [intOf]; omega
          · have s1 : decide ((Y : Int) ≤ (row : Int)) = false := by simp; omega
            have s3 : decide ((Y : Int) + (k : Int) ≤ (row : Int)) = false := by simp; omega
            have q3 : ¬ Y + k ≤ row := by omega
            have HV : Hid (C.getD i 0 = u) := Lib.hid (by rw [HCI.out, if_neg (by omega)])
            go_wp2
            go_region
            go_wp2
            rw [← HW1.out]
            go_roundw
            case rel => exact ⟨i + 1, by omega, by go_num, by have h := O1.out; rw [← HV.out, HS.out] at h; exact h, KG1.out, BL1.out⟩
            case measure => simp [intOf]; omega
        · obtain rfl : i = N := by omega
          have t1 : decide ((i : Int) < (i : Int)) = false := by simp
          have hown := HO.out
          rw [colI_full HCL.out] at hown
          have OC := Lib.hid (own_backO hown HCL.out)
          have DN := Lib.hid fun w h => impl_nbat_o (A : Int) (B : Int) (some ⟨tb, 0, none⟩) cG C (X : Int) (Y : Int) (k : Int) w h (by rw [HCL.out]; exact hcn)
          have hg1 : nbHas (A : Int) (B : Int) C (X : Int) (Y : Int) (k : Int) (Y : Int) = h1 := by rw [G1.out]; unfold nbHas; rw [HRI.out, Bool.true_and]
          have hg2 : nbHas (A : Int) (B : Int) C (X : Int) (Y : Int) (k : Int) (X : Int) = h2 := by rw [G2.out]; unfold nbHas; rw [HRI.out, Bool.true_and]
          rw [HSS.out.1, HSS.out.2.1, HSS.out.2.2, ← HT.out, ← HLE.out, ← HCO.out, ← HN1.out, ← HN2.out, hg1, hg2, HCL.out] at DN
          have IC := Lib.hid (OwnI.ints OC.out (by rw [HCL.out]; omega))
          clear hown hg1 hg2
          go_wp2_with fail
          refine (DN.out _ IC.out).mono ?_
          rintro e wa ⟨VA, cV, ZA, cZ, rfl, hoD, hba⟩
          have Ba := Lib.hid (below_up HBl.out hba HBl.out.size)
          have Ca := SB9.out wa Ba.out
          clear c0 c1 c2 d0 d1' d2
          obtain ⟨p0, p1, p2, p3, p4⟩ := cells5 Ca.1.2
          have hbb' := heap_lt Ca.1.2
          have hkb := heap_alloc_new wa (.cells #[.slice VA n1 cV, .slice ZA n2 cZ, .int .i64 co, .bool h1, .bool h2] 38)
          have hbb2 := below_new wa (.cells #[.slice VA n1 cV, .slice ZA n2 cZ, .int .i64 co, .bool h1, .bool h2] 38)
          obtain ⟨wb, hwb⟩ : ∃ wb, wb = wa.alloc (.cells #[.slice VA n1 cV, .slice ZA n2 cZ, .int .i64 co, .bool h1, .bool h2] 38) := ⟨_, rfl⟩
          obtain ⟨db, hdb⟩ : ∃ db, db = wa.heap.size := ⟨_, rfl⟩
          rw [← hwb, ← hdb] at hkb
          rw [← hwb] at hbb2
          have Bb := Lib.hid (below_up Ba.out hbb2 Ba.out.size)
          have KB := Lib.hid hkb
          have IV : Hid (Ints wb wb.heap.size VA t) := Lib.hid (((OwnI.ints hoD.1 (by rw [← HN1.out]; omega)).below hbb2 (Nat.le_refl _)).mono hbb2.size)
          have IZ : Hid (Ints wb wb.heap.size ZA le) := Lib.hid (((OwnI.ints hoD.2.1 (by rw [← HN2.out]; omega)).below hbb2 (Nat.le_refl _)).mono hbb2.size)
          have Cb := SB9.out wb Bb.out
          have J10 := Lib.hid Cb.2.2.1
          have HWB := Lib.hid hwb; have HDB := Lib.hid hdb
          have hbd : bb ≠ db := by omega
          clear hoD hba hkb hbb2 hwb hdb Ca Cb
          go_wp2_with fail
          rw [← HWB.out, ← HDB.out]
          refine (S1.out _ _ _ _ _ J10.out IV.out).mono ?_
          rintro e wc ⟨rfl, hbc'⟩
          have Bc := Lib.hid (below_up Bb.out hbc' Bb.out.size)
          have Cc := SB9.out wc Bc.out
          have KC := Lib.hid (cell_kept KB.out hbc')
          have IZ2 := Lib.hid ((IZ.out.below hbc' (Nat.le_refl _)).mono hbc'.size)
          clear p0 p1 p2 p3 p4 hbc' hbb'
          obtain ⟨p0, p1, p2, p3, p4⟩ := cells5 Cc.1.2
          obtain ⟨q0, q1, q2, q3, q4⟩ := cells5 KC.out
          have J11 := Lib.hid Cc.2.2.2
          clear Cc
          go_wp2_with fail
          refine (S2.out _ _ _ _ _ J11.out IZ2.out).mono ?_
          rintro e wd ⟨rfl, hbd'⟩
          have Bd := Lib.hid (below_up Bc.out hbd' Bc.out.size)
          have Cd := SB9.out wd Bd.out
          have KD := Lib.hid (cell_kept KC.out hbd')
          clear p0 p1 p2 p3 p4 q0 q1 q2 q3 q4 hbd'
          obtain ⟨p0, p1, p2, p3, p4⟩ := cells5 Cd.1.2
          obtain ⟨q0, q1, q2, q3, q4⟩ := cells5 KD.out
          have J12 := Lib.hid Cd.2.2.1; have J13 := Lib.hid Cd.2.2.2
          have fco : (co == co) = true := by simp
          clear Cd
          go_wp2_with fail
          refine (NKX.out _ J12.out J13.out).mono ?_
          rintro e we ⟨rfl, hbe⟩
          have Be := Lib.hid (below_up BW9.out (below_up Bd.out hbe Bd.out.size) BW9.out.size)
          have Ce := SB9.out we (below_up Bd.out hbe Bd.out.size)
          clear p0 p1 p2 p3 p4 q0 q1 q2 q3 q4 hbe
          obtain ⟨p0, p1, p2, p3, p4⟩ := cells5 Ce.1.2
          have e1' : decide (0 < (Y : Int)) = h1 := G1.out.symm
          have e2' : decide (0 < (X : Int)) = h2 := G2.out.symm
          have e3' : decide (0 < Y) = h1 := by rw [← e1']; simp
          have e4' : decide (0 < X) = h2 := by rw [← e2']; simp
          have fh1 : (h1 == h1) = true := by simp
          have fh2 : (h2 == h2) = true := by simp
          clear Ce eco eh1 eh2
          go_wp2
          go_ret
          exact ⟨rfl, Be.out⟩
end Go.Proofs.Ytemfiglflbfocaa
