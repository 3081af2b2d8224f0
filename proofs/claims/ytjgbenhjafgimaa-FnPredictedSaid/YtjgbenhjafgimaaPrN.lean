/-
  The walk of the law FnPredicted. No condition.
-/
import Derived.Test.YtjgbenhjafgimaaPdE
import Derived.Test.YtjgbenhjafgimaaFpL
import Derived.Test.YtjgbenhjafgimaaPyL
import Derived.Test.YtjgbenhjafgimaaK7
import Derived.RegionTactic
import Derived.BigRegion
import Derived.BigQuiet
import Derived.Deep.QuietTactic
import Derived.Deep.Cut
import Derived.Deep.DeepCutAuto
import Derived.Deep.RegionHeld3
namespace Go.Proofs.Ytjgbenhjafgimaa
open Go.RowKit
set_option linter.unusedVariables false

theorem predF_pos {t l : List Int} {k : Int} (b1 b2 : Bool) {n : Int} (h : nbOk t l k n = true) {m : Nat} (hm : n = (m : Int)) {mode : Int} (hmd : mdOk mode = true) (x y : Nat) (hx : x < m) (hy : y < m) : 0 ≤ predF t l k b1 b2 m mode x y ∧ predF t l k b1 b2 m mode x y ≤ 255 := by
  obtain ⟨m', hm', hm48, ht, hl, hpt, hpl, hk⟩ := nbOk_side h
  obtain rfl : m = m' := by omega
  have hmo := mdOk_cases hmd
  unfold predF
  have hbp := bordF_pix ht hl hpt hpl hk
  have hmean := meanV_pix t l k b1 b2 (m : Int)
  split
  · omega
  split
  · have := hpt x (by omega); omega
  split
  · have := hpl y (by omega); omega
  split
  · have := clipV_pix (l.getD y 0 + t.getD x 0 - k); omega
  split
  · have := softV_pix (hpt (x + y) (by omega)) (hpt (min (2 * m - 1) (x + y + 1)) (by omega)) (hpt (min (2 * m - 1) (x + y + 2)) (by omega)); omega
  split
  · have := softV_pix (hbp (x + m - y - 1) (by omega)) (hbp (x + m - y) (by omega)) (hbp (x + m - y + 1) (by omega)); omega
  · omega

theorem prdL_on {mode : Int} {t l : List Int} {k : Int} {b1 b2 : Bool} {n : Int} (h : nbOk t l k n = true) (hm : mdOk mode = true) : prdL mode t l k b1 b2 n = prdF t l k b1 b2 n.toNat mode := by unfold prdL; rw [if_pos ⟨h, hm⟩]

set_option maxRecDepth 100000 in
set_option maxHeartbeats 8000000 in
/-- The law's own walk. -/
theorem fnPredicted_walk (a : Option Addr) (len cap : Nat) (zs : List Int) (w : World) (hr : IsRow .u8 w a len cap zs) :
    Calls Try.prog 3 #[.slice a len cap] w fun e w' => e = .returned (.bool true) ∧ Below w.heap.size w w' := by
  obtain ⟨i0, hii, hz0, hz1, hz2⟩ := info_parts Try.iinfo
  have hlm := hr.len_le
  unfold maxLen at hlm
  by_cases hbig : 1048576 < len
  · have BG := Lib.hid (big_any a len cap (by omega))
    have hb : decide (1048576 < (len : Int)) = true := decide_eq_true (by omega)
    rw [hb] at BG
    clear hr hlm hbig hb
    go_enter Try.func3, Try.ntmps3
    go_wp2_with fail
    refine (BG.out _).mono ?_
    rintro e w1 ⟨rfl, hw⟩
    subst hw
    go_wp2
    go_ret
    exact ⟨rfl, Below.refl _ _⟩
  · have hbigF : decide (1048576 < (len : Int)) = false := decide_eq_false (by omega)
    obtain ⟨ys, rfl, hW⟩ := code_of hr (by omega)
    have BG := Lib.hid (big_any a ys.length cap hlm)
    rw [hbigF] at BG
    have HW := Lib.hid hW
    have DP := Lib.hid (drawpred_ex a cap ys w hW)
    have SI := Lib.hid @sameints_any
    clear hr hbig hbigF hlm hW
    go_enter Try.func3, Try.ntmps3
    go_wp2_with fail
    refine (BG.out _).mono ?_
    rintro e w1 ⟨rfl, hw⟩
    subst hw
    go_wp2_with fail
    refine DP.out.mono ?_
    rintro e w2 ⟨t, l, k, b1, b2, TA, LB, cA, cB, n, mode, rfl, hm, hT, hL, hcA, hcB, hb⟩
    have HCA := Lib.hid hcA
    have IP := Lib.hid fun w h1 h2 => impl_pred_any mode TA cA LB cB t l k b1 b2 n w h1 h2 hcA
    have IQ := Lib.hid fun w h1 h2 => impl_fastpred_any mode TA cA LB cB t l k b1 b2 n w h1 h2 hcA
    have SP := Lib.hid fun w h1 h2 => spec_pred_any mode TA cA LB cB t l k b1 b2 n w h1 h2 hcA
    have NK := Lib.hid fun w h1 h2 => spec_nbok_any TA cA LB cB t l k b1 b2 n w h1 h2
    have hxl := prdL_len mode t l k b1 b2 n
    obtain ⟨X, hX⟩ : ∃ X, X = prdL mode t l k b1 b2 n := ⟨_, rfl⟩
    rw [← hX] at IP IQ SP hxl
    have HX := Lib.hid hX; have HXL := Lib.hid hxl
    have SIX : Hid (∀ A B ca cb w, Ints w w.heap.size A X → Ints w w.heap.size B X → Calls Try.prog 13 #[.slice A X.length ca, .slice B X.length cb] w fun e w' => e = .returned (.bool true) ∧ Below w.heap.size w w') := Lib.hid fun A B ca cb w h1 h2 => by
      have := SI.out A B ca cb X X w h1 h2
      simpa using this
    obtain ⟨W2, hW2⟩ : ∃ W2, W2 = (w2.alloc (.cells #[.slice TA t.length cA, .slice LB l.length cB, .int .i64 k, .bool b1, .bool b2] 26)) := ⟨_, rfl⟩
    have hbw : Below w2.heap.size w2 W2 := by rw [hW2]; exact below_new w2 _
    have BW2 : Hid (Below w.heap.size w W2) := Lib.hid (below_up hb hbw hb.size)
    have IT : Hid (Ints W2 W2.heap.size TA t) := Lib.hid ((hT.below hbw (Nat.le_refl _)).mono hbw.size)
    have IL : Hid (Ints W2 W2.heap.size LB l) := Lib.hid ((hL.below hbw (Nat.le_refl _)).mono hbw.size)
    have SBX : Hid (∀ wx, Below W2.heap.size W2 wx → wx.cell? ⟨w2.heap.size, 0, none⟩ = some (.slice TA t.length cA) ∧ wx.cell? ⟨w2.heap.size, 1, none⟩ = some (.slice LB l.length cB) ∧ wx.cell? ⟨w2.heap.size, 2, none⟩ = some (.int .i64 k) ∧ wx.cell? ⟨w2.heap.size, 3, none⟩ = some (.bool b1) ∧ wx.cell? ⟨w2.heap.size, 4, none⟩ = some (.bool b2) ∧ Below W2.heap.size W2 wx ∧ W2.heap.size ≤ wx.heap.size) := Lib.hid fun wx h => by
      have hk : W2.heap[w2.heap.size]? = some (.cells #[.slice TA t.length cA, .slice LB l.length cB, .int .i64 k, .bool b1, .bool b2] 26 (0, 0)) := by rw [hW2]; exact heap_alloc_new w2 _
      have hk2 := (h.block w2.heap.size (heap_lt hk)).trans hk
      obtain ⟨q0, q1, q2, q3, q4⟩ := cells5 hk2
      exact ⟨q0, q1, q2, q3, q4, h, h.size⟩
    have HW2 := Lib.hid hW2
    clear hb hT hL hcA hcB hX hxl hW2 hbw DP HW
    go_wp2_with fail
    rw [← HW2.out]
    refine (IP.out _ IT.out IL.out).mono ?_
    rintro e w3 ⟨A3, c3, rfl, ho, hb3⟩
    have IX := Lib.hid (ho.ints (Nat.le_trans HXL.out (by decide)))
    have B3 := Lib.hid hb3
    obtain ⟨c0, c1, c2, c3', c4, -⟩ := SBX.out _ B3.out
    clear ho hb3
    go_wp2_with fail
    refine (IQ.out _ ((IT.out.below B3.out (Nat.le_refl _)).mono B3.out.size) ((IL.out.below B3.out (Nat.le_refl _)).mono B3.out.size)).mono ?_
    rintro e w4 ⟨A4, c4', rfl, ho, hb4⟩
    have IQ4 := Lib.hid (ho.ints (Nat.le_trans HXL.out (by decide)))
    have IX := Lib.hid ((IX.out.below hb4 (Nat.le_refl _)).mono hb4.size)
    have B4 := Lib.hid (below_up B3.out hb4 B3.out.size)
    clear ho hb4 c0 c1 c2 c3' c4
    obtain ⟨c0, c1, c2, c3', c4, -⟩ := SBX.out _ B4.out
    go_wp2_with fail
    refine (SIX.out _ _ _ _ _ IX.out IQ4.out).mono ?_
    rintro e w5 ⟨rfl, hb5⟩
    have IX := Lib.hid ((IX.out.below hb5 (Nat.le_refl _)).mono hb5.size)
    have B5 := Lib.hid (below_up B4.out hb5 B4.out.size)
    clear hb5 c0 c1 c2 c3' c4
    obtain ⟨c0, c1, c2, c3', c4, -⟩ := SBX.out _ B5.out
    go_wp2_with fail
    refine (SP.out _ ((IT.out.below B5.out (Nat.le_refl _)).mono B5.out.size) ((IL.out.below B5.out (Nat.le_refl _)).mono B5.out.size)).mono ?_
    rintro e w6 ⟨A6, c6, rfl, ho, hb6⟩
    have IQ6 := Lib.hid (ho.ints (Nat.le_trans HXL.out (by decide)))
    have IX := Lib.hid ((IX.out.below hb6 (Nat.le_refl _)).mono hb6.size)
    have B6 := Lib.hid (below_up B5.out hb6 B5.out.size)
    clear ho hb6 c0 c1 c2 c3' c4
    obtain ⟨c0, c1, c2, c3', c4, -⟩ := SBX.out _ B6.out
    go_wp2_with fail
    refine (SIX.out _ _ _ _ _ IX.out IQ6.out).mono ?_
    rintro e w7 ⟨rfl, hb7⟩
    have IX := Lib.hid ((IX.out.below hb7 (Nat.le_refl _)).mono hb7.size)
    have B7 := Lib.hid (below_up B6.out hb7 B6.out.size)
    clear hb7 c0 c1 c2 c3' c4
    obtain ⟨c0, c1, c2, c3', c4, -⟩ := SBX.out _ B7.out
    go_wp2_with fail
    refine (NK.out _ ((IT.out.below B7.out (Nat.le_refl _)).mono B7.out.size) ((IL.out.below B7.out (Nat.le_refl _)).mono B7.out.size)).mono ?_
    rintro e w8 ⟨rfl, hb8⟩
    have IX := Lib.hid ((IX.out.below hb8 (Nat.le_refl _)).mono hb8.size)
    have B8 := Lib.hid (below_up B7.out hb8 B7.out.size)
    clear hb8 c0 c1 c2 c3' c4
    have MW := Lib.hid (impl_modeword_any mode)
    have hmw := mwS_word mode
    obtain ⟨ms, hms⟩ : ∃ s, s = mwS mode := ⟨_, rfl⟩
    rw [← hms] at MW hmw
    have BE := Lib.hid (below_up BW2.out B8.out BW2.out.size)
    cases hok : nbOk t l k n with
    | false =>
      have hX0 : X.length = 0 := by rw [HX.out, prdL_off (by rw [hok]; simp)]; rfl
      rw [hX0]
      clear hms hmw hX0
      go_wp2
      go_ret
      exact ⟨rfl, BE.out⟩
    | true =>
    cases hmd : mdOk mode with
    | false =>
      have hX0 : X.length = 0 := by rw [HX.out, prdL_off (by rw [hmd]; simp)]; rfl
      rw [hX0]
      rw [hmd] at hmw
      have hmw2 : ms.toList.isEmpty = true := by simpa using hmw
      clear hms hmw hX0
      go_wp2_with fail
      refine (MW.out _).mono ?_
      rintro e w9 ⟨rfl, hw⟩
      subst hw
      go_wp2
      go_ret
      exact ⟨rfl, BE.out⟩
    | true =>
    rw [hmd] at hmw
    have hmw2 : ms.toList.isEmpty = false := by simpa using hmw
    obtain ⟨n, rfl, hn48, ht, hl, -⟩ := nbOk_side hok
    rcases hn48 with rfl | rfl
    · skip
      have hXN : X.length = 16 := by rw [HX.out, prdL_on hok hmd, Int.toNat_natCast, prdF_len]
      have hget : ∀ j, j < 16 → X.getD j 0 = predF t l k b1 b2 4 mode (j % 4) (j / 4) := fun j hj => by rw [HX.out, prdL_on hok hmd, Int.toNat_natCast]; exact prdF_get t l k b1 b2 4 mode hj
      have PV : Hid (∀ (x y : Nat) w, x < 4 → y < 4 → Ints w w.heap.size TA t → Ints w w.heap.size LB l → Calls Try.prog 17 #[.int .i64 mode, .agg #[.slice TA t.length cA, .slice LB l.length cB, .int .i64 k, .bool b1, .bool b2], .int .i64 4, .int .i64 x, .int .i64 y] w fun e w' => e = .returned (.int .i64 (predF t l k b1 b2 4 mode x y)) ∧ Below w.heap.size w w') := Lib.hid fun x y w hx hy h1 h2 => by
        have r := impl_predat_any mode TA cA LB cB t l k b1 b2 ((4 : Nat) : Int) (x : Int) (y : Int) w h1 h2 HCA.out
        have e : predV mode t l k b1 b2 ((4 : Nat) : Int) (x : Int) (y : Int) = predF t l k b1 b2 4 mode x y := by
          unfold predV
          rw [if_pos ⟨hok, by omega, by omega⟩, Int.toNat_natCast, Int.toNat_natCast, Int.toNat_natCast]
        rw [e] at r
        exact r
      have PP : Hid (∀ x y, x < 4 → y < 4 → 0 ≤ predF t l k b1 b2 4 mode x y ∧ predF t l k b1 b2 4 mode x y ≤ 255) := Lib.hid fun x y hx hy => predF_pos b1 b2 hok rfl hmd x y hx hy
      have HG := Lib.hid hget; have HXN := Lib.hid hXN
      rw [hXN]
      clear hget hXN hok hmd hms hmw hl ht
      go_wp2_with fail
      refine (MW.out _).mono ?_
      rintro e w9 ⟨rfl, hw⟩
      subst hw
      go_wp2
      go_loopw [8] (fun x8 wr => ∃ j : Nat, j ≤ 16 ∧ x8 = .int .i64 j ∧ Below w8.heap.size w8 wr) (fun x8 _ => 16 - (intOf x8).toNat)
      case atStart => exact ⟨0, Nat.zero_le _, rfl, Below.refl _ _⟩
      case round =>
        obtain ⟨j, hj, rfl, hbel⟩ := hrel
        by_cases hlt : j < 16
        · have d1 : decide ((j : Int) < 16) = true := by simp; omega
          have BB8 := Lib.hid (below_up B8.out hbel B8.out.size)
          have IXr := (IX.out.below hbel (Nat.le_refl _)).mono hbel.size
          obtain ⟨b, o, rfl, hb, hc⟩ := IXr.at j (by rw [HXN.out]; exact hlt)
          have cu := hc j (by rw [HXN.out]; exact hlt)
          have hu := HG.out j hlt
          obtain ⟨x, hx⟩ : ∃ x, x = j % 4 := ⟨_, rfl⟩
          obtain ⟨y, hy⟩ : ∃ y, y = j / 4 := ⟨_, rfl⟩
          rw [← hx, ← hy] at hu
          have hxl : x < 4 := by omega
          have hyl : y < 4 := by omega
          have PX := Lib.hid fun w h1 h2 => PV.out x y w hxl hyl h1 h2
          have hp := PP.out x y hxl hyl
          obtain ⟨u, huu⟩ : ∃ u, u = X.getD j 0 := ⟨_, rfl⟩
          rw [← huu] at cu hu
          rw [← hu] at PX hp
          have q1 : (j : Int) % 4 = (x : Int) := by omega
          have q2 : (j : Int) / 4 = (y : Int) := by omega
          have q3 : (j : Int).tmod 4 = (x : Int) := by rw [Int.tmod_eq_emod_of_nonneg (by omega)]; exact q1
          have q4 : (j : Int).tdiv 4 = (y : Int) := by rw [Int.tdiv_eq_ediv_of_nonneg (by omega)]; exact q2
          have q5 : IntKind.i64.wrap (x : Int) = (x : Int) := IntWalk.i64_in _ (by omega)
          have q6 : IntKind.i64.wrap (y : Int) = (y : Int) := IntWalk.i64_in _ (by omega)
          have e1 : decide (u < 0) = false := by simp; omega
          have e2 : decide ((255 : Int) < u) = false := by simp; omega
          have e3 : (u != u) = false := by simp
          have j0 : (0 : Int) ≤ (j : Int) := by omega
          have jN : (j : Int) < 16 := by omega
          obtain ⟨c0, c1, c2, c3, c4, -⟩ := SBX.out _ BB8.out
          obtain ⟨B0, hB0⟩ : ∃ B0, B0 = wr := ⟨_, rfl⟩
          have S0 : wr.cell? ⟨w2.heap.size, 0, none⟩ = some (.slice TA t.length cA) ∧ wr.cell? ⟨w2.heap.size, 1, none⟩ = some (.slice LB l.length cB) ∧ wr.cell? ⟨w2.heap.size, 2, none⟩ = some (.int .i64 k) ∧ wr.cell? ⟨w2.heap.size, 3, none⟩ = some (.bool b1) ∧ wr.cell? ⟨w2.heap.size, 4, none⟩ = some (.bool b2) ∧ wr.cell? ⟨b, o + j, none⟩ = some (.int .i64 u) ∧ wr.cell? ⟨b, o + j, none⟩ = some (.int .i64 u) ∧ Below B0.heap.size B0 wr ∧ B0.heap.size ≤ wr.heap.size := by rw [hB0]; exact ⟨c0, c1, c2, c3, c4, cu, cu, Below.refl _ _, Nat.le_refl _⟩
          have S1 := heldx7_drew S0
          have BR : Hid (∀ wx, Below B0.heap.size B0 wx → Below w8.heap.size w8 wx) := Lib.hid (by rw [hB0]; exact fun wx h => below_up hbel h hbel.size)
          have IR : Hid (∀ wx, Below B0.heap.size B0 wx → Ints wx wx.heap.size TA t ∧ Ints wx wx.heap.size LB l) := Lib.hid fun wx h => by
            have q := below_up B8.out (BR.out wx h) B8.out.size
            exact ⟨(IT.out.below q (Nat.le_refl _)).mono q.size, (IL.out.below q (Nat.le_refl _)).mono q.size⟩
          clear hx hy hu huu hp hbel hB0 hc IXr hb
          go_wp2_with fail
          go_region_held3 (fun w' => w'.cell? ⟨w2.heap.size, 0, none⟩ = some (.slice TA t.length cA) ∧ w'.cell? ⟨w2.heap.size, 1, none⟩ = some (.slice LB l.length cB) ∧ w'.cell? ⟨w2.heap.size, 2, none⟩ = some (.int .i64 k) ∧ w'.cell? ⟨w2.heap.size, 3, none⟩ = some (.bool b1) ∧ w'.cell? ⟨w2.heap.size, 4, none⟩ = some (.bool b2) ∧ w'.cell? ⟨b, o + j, none⟩ = some (.int .i64 u) ∧ w'.cell? ⟨b, o + j, none⟩ = some (.int .i64 u) ∧ Below B0.heap.size B0 w' ∧ B0.heap.size ≤ w'.heap.size)
            (first | with_reducible assumption | (with_reducible refine heldx7_drew ?_; with_reducible assumption) | (with_reducible refine heldx7 ?_ (by with_reducible assumption); with_reducible assumption) | fail)
            (first
              | (go_at_call 17; (refine (PX.out _ (IR.out _ (heldx7_below (by with_reducible assumption))).1 (IR.out _ (heldx7_below (by with_reducible assumption))).2).mono ?_); rintro e wz ⟨rfl, hbz⟩)
              | fail)
          all_goals
            have BRX := Lib.hid (BR.out _ (heldx7_below (by with_reducible assumption)))
            go_wp2
            go_roundw
            case rel => exact ⟨j + 1, by omega, by go_num, BRX.out⟩
            case measure => simp [intOf]; omega
        · have hjn : j = 16 := by omega
          subst hjn
          have d1 : decide (((16 : Nat) : Int) < 16) = false := by decide
          have B9 := Lib.hid (below_up BW2.out (below_up B8.out hbel B8.out.size) BW2.out.size)
          clear hbel
          go_wp2
          go_ret
          exact ⟨rfl, B9.out⟩
    · skip
      have hXN : X.length = 64 := by rw [HX.out, prdL_on hok hmd, Int.toNat_natCast, prdF_len]
      have hget : ∀ j, j < 64 → X.getD j 0 = predF t l k b1 b2 8 mode (j % 8) (j / 8) := fun j hj => by rw [HX.out, prdL_on hok hmd, Int.toNat_natCast]; exact prdF_get t l k b1 b2 8 mode hj
      have PV : Hid (∀ (x y : Nat) w, x < 8 → y < 8 → Ints w w.heap.size TA t → Ints w w.heap.size LB l → Calls Try.prog 17 #[.int .i64 mode, .agg #[.slice TA t.length cA, .slice LB l.length cB, .int .i64 k, .bool b1, .bool b2], .int .i64 8, .int .i64 x, .int .i64 y] w fun e w' => e = .returned (.int .i64 (predF t l k b1 b2 8 mode x y)) ∧ Below w.heap.size w w') := Lib.hid fun x y w hx hy h1 h2 => by
        have r := impl_predat_any mode TA cA LB cB t l k b1 b2 ((8 : Nat) : Int) (x : Int) (y : Int) w h1 h2 HCA.out
        have e : predV mode t l k b1 b2 ((8 : Nat) : Int) (x : Int) (y : Int) = predF t l k b1 b2 8 mode x y := by
          unfold predV
          rw [if_pos ⟨hok, by omega, by omega⟩, Int.toNat_natCast, Int.toNat_natCast, Int.toNat_natCast]
        rw [e] at r
        exact r
      have PP : Hid (∀ x y, x < 8 → y < 8 → 0 ≤ predF t l k b1 b2 8 mode x y ∧ predF t l k b1 b2 8 mode x y ≤ 255) := Lib.hid fun x y hx hy => predF_pos b1 b2 hok rfl hmd x y hx hy
      have HG := Lib.hid hget; have HXN := Lib.hid hXN
      rw [hXN]
      clear hget hXN hok hmd hms hmw hl ht
      go_wp2_with fail
      refine (MW.out _).mono ?_
      rintro e w9 ⟨rfl, hw⟩
      subst hw
      go_wp2
      go_loopw [8] (fun x8 wr => ∃ j : Nat, j ≤ 64 ∧ x8 = .int .i64 j ∧ Below w8.heap.size w8 wr) (fun x8 _ => 64 - (intOf x8).toNat)
      case atStart => exact ⟨0, Nat.zero_le _, rfl, Below.refl _ _⟩
      case round =>
        obtain ⟨j, hj, rfl, hbel⟩ := hrel
        by_cases hlt : j < 64
        · have d1 : decide ((j : Int) < 64) = true := by simp; omega
          have BB8 := Lib.hid (below_up B8.out hbel B8.out.size)
          have IXr := (IX.out.below hbel (Nat.le_refl _)).mono hbel.size
          obtain ⟨b, o, rfl, hb, hc⟩ := IXr.at j (by rw [HXN.out]; exact hlt)
          have cu := hc j (by rw [HXN.out]; exact hlt)
          have hu := HG.out j hlt
          obtain ⟨x, hx⟩ : ∃ x, x = j % 8 := ⟨_, rfl⟩
          obtain ⟨y, hy⟩ : ∃ y, y = j / 8 := ⟨_, rfl⟩
          rw [← hx, ← hy] at hu
          have hxl : x < 8 := by omega
          have hyl : y < 8 := by omega
          have PX := Lib.hid fun w h1 h2 => PV.out x y w hxl hyl h1 h2
          have hp := PP.out x y hxl hyl
          obtain ⟨u, huu⟩ : ∃ u, u = X.getD j 0 := ⟨_, rfl⟩
          rw [← huu] at cu hu
          rw [← hu] at PX hp
          have q1 : (j : Int) % 8 = (x : Int) := by omega
          have q2 : (j : Int) / 8 = (y : Int) := by omega
          have q3 : (j : Int).tmod 8 = (x : Int) := by rw [Int.tmod_eq_emod_of_nonneg (by omega)]; exact q1
          have q4 : (j : Int).tdiv 8 = (y : Int) := by rw [Int.tdiv_eq_ediv_of_nonneg (by omega)]; exact q2
          have q5 : IntKind.i64.wrap (x : Int) = (x : Int) := IntWalk.i64_in _ (by omega)
          have q6 : IntKind.i64.wrap (y : Int) = (y : Int) := IntWalk.i64_in _ (by omega)
          have e1 : decide (u < 0) = false := by simp; omega
          have e2 : decide ((255 : Int) < u) = false := by simp; omega
          have e3 : (u != u) = false := by simp
          have j0 : (0 : Int) ≤ (j : Int) := by omega
          have jN : (j : Int) < 64 := by omega
          obtain ⟨c0, c1, c2, c3, c4, -⟩ := SBX.out _ BB8.out
          obtain ⟨B0, hB0⟩ : ∃ B0, B0 = wr := ⟨_, rfl⟩
          have S0 : wr.cell? ⟨w2.heap.size, 0, none⟩ = some (.slice TA t.length cA) ∧ wr.cell? ⟨w2.heap.size, 1, none⟩ = some (.slice LB l.length cB) ∧ wr.cell? ⟨w2.heap.size, 2, none⟩ = some (.int .i64 k) ∧ wr.cell? ⟨w2.heap.size, 3, none⟩ = some (.bool b1) ∧ wr.cell? ⟨w2.heap.size, 4, none⟩ = some (.bool b2) ∧ wr.cell? ⟨b, o + j, none⟩ = some (.int .i64 u) ∧ wr.cell? ⟨b, o + j, none⟩ = some (.int .i64 u) ∧ Below B0.heap.size B0 wr ∧ B0.heap.size ≤ wr.heap.size := by rw [hB0]; exact ⟨c0, c1, c2, c3, c4, cu, cu, Below.refl _ _, Nat.le_refl _⟩
          have S1 := heldx7_drew S0
          have BR : Hid (∀ wx, Below B0.heap.size B0 wx → Below w8.heap.size w8 wx) := Lib.hid (by rw [hB0]; exact fun wx h => below_up hbel h hbel.size)
          have IR : Hid (∀ wx, Below B0.heap.size B0 wx → Ints wx wx.heap.size TA t ∧ Ints wx wx.heap.size LB l) := Lib.hid fun wx h => by
            have q := below_up B8.out (BR.out wx h) B8.out.size
            exact ⟨(IT.out.below q (Nat.le_refl _)).mono q.size, (IL.out.below q (Nat.le_refl _)).mono q.size⟩
          clear hx hy hu huu hp hbel hB0 hc IXr hb
          go_wp2_with fail
          go_region_held3 (fun w' => w'.cell? ⟨w2.heap.size, 0, none⟩ = some (.slice TA t.length cA) ∧ w'.cell? ⟨w2.heap.size, 1, none⟩ = some (.slice LB l.length cB) ∧ w'.cell? ⟨w2.heap.size, 2, none⟩ = some (.int .i64 k) ∧ w'.cell? ⟨w2.heap.size, 3, none⟩ = some (.bool b1) ∧ w'.cell? ⟨w2.heap.size, 4, none⟩ = some (.bool b2) ∧ w'.cell? ⟨b, o + j, none⟩ = some (.int .i64 u) ∧ w'.cell? ⟨b, o + j, none⟩ = some (.int .i64 u) ∧ Below B0.heap.size B0 w' ∧ B0.heap.size ≤ w'.heap.size)
            (first | with_reducible assumption | (with_reducible refine heldx7_drew ?_; with_reducible assumption) | (with_reducible refine heldx7 ?_ (by with_reducible assumption); with_reducible assumption) | fail)
            (first
              | (go_at_call 17; (refine (PX.out _ (IR.out _ (heldx7_below (by with_reducible assumption))).1 (IR.out _ (heldx7_below (by with_reducible assumption))).2).mono ?_); rintro e wz ⟨rfl, hbz⟩)
              | fail)
          all_goals
            have BRX := Lib.hid (BR.out _ (heldx7_below (by with_reducible assumption)))
            go_wp2
            go_roundw
            case rel => exact ⟨j + 1, by omega, by go_num, BRX.out⟩
            case measure => simp [intOf]; omega
        · have hjn : j = 64 := by omega
          subst hjn
          have d1 : decide (((64 : Nat) : Int) < 64) = false := by decide
          have B9 := Lib.hid (below_up BW2.out (below_up B8.out hbel B8.out.size) BW2.out.size)
          clear hbel
          go_wp2
          go_ret
          exact ⟨rfl, B9.out⟩
end Go.Proofs.Ytjgbenhjafgimaa
