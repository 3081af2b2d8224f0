/-
  The law FnSteps: steps never fall, and what is quantized lies within half a step. Condition: the package's table of steps reads as its text lays it.
-/
import Derived.Test.YtgccphidnbfcaaaDoorQuantE
import Derived.Test.YtgccphidnbfcaaaDoorQuantB
import Derived.Test.YtgccphidnbfcaaaDoorQuantD
import Derived.BigQuiet
namespace Go.Proofs.YtgccphidnbfcaaaDoor
open Go.RowKit
set_option linter.unusedVariables false

theorem below_draws {B : Nat} {u w : World} (h : Below B u w) (k : Nat) : Below B u (w.drewN k) := ⟨h.os, h.tape, h.output, h.size, h.block⟩
theorem stV_mono {q : Int} (h0 : 0 < q) (h1 : q ≤ 51) : decide (stV q < stV (q - 1)) = false := by
  obtain ⟨k, rfl⟩ := Int.eq_ofNat_of_zero_le (show 0 ≤ q by omega)
  obtain ⟨j, rfl⟩ : ∃ j, k = j + 1 := ⟨k - 1, by omega⟩
  have hj : j < 51 := by omega
  rw [stV_in (show j + 1 < 52 by omega), show (((j + 1 : Nat) : Int) - 1) = (j : Int) by omega, stV_in (show j < 52 by omega)]
  have := stK_mono j hj
  simp
  omega
theorem near_part (v s : Int) (hs : 0 < s) : 2 * ((v * 2 + s) / (2 * s) * s - v) ≤ s ∧ -s ≤ 2 * ((v * 2 + s) / (2 * s) * s - v) := by
  have h1 := Int.ediv_mul_le (v * 2 + s) (show (2 * s) ≠ 0 by omega)
  have h2 := Int.lt_ediv_add_one_mul_self (v * 2 + s) (show 0 < 2 * s by omega)
  generalize (v * 2 + s) / (2 * s) = n at *
  have e1 : n * (2 * s) = 2 * (n * s) := by rw [Int.mul_left_comm]
  have e2 : (n + 1) * (2 * s) = 2 * (n * s) + 2 * s := by rw [Int.add_mul, e1, Int.one_mul]
  omega
theorem near_close (v s : Int) (hs : 0 < s) : 2 * (nearV v s * s - v) ≤ s ∧ -s ≤ 2 * (nearV v s * s - v) := by
  unfold nearV
  split
  · have h := near_part (-v) s hs
    rw [Int.neg_mul]
    omega
  · exact near_part v s hs
/-- One beyond the limit of the numbers: at each step that leaves the answer below its limit the number is still near. -/
theorem edge_close : ∀ k, k < 52 → (2000000 + stK k) / (2 * stK k) < 16383 → 2 * ((2000000 + stK k) / (2 * stK k) * stK k) ≤ stK k + 2000002 ∧ 2000002 ≤ stK k + 2 * ((2000000 + stK k) / (2 * stK k) * stK k) := by decide +kernel
theorem lim_id {m v : Int} (h1 : -m < lim m v) (h2 : lim m v < m) : lim m v = v := by unfold lim at *; omega
theorem quAt_close {q v : Int} (hs : stV q ≠ 0) (h1 : -1000001 ≤ v) (h2 : v ≤ 1000001) (ha : quAt q v < 16383) (hb : -16383 < quAt q v) : 2 * (quAt q v * stV q - v) ≤ stV q ∧ -stV q ≤ 2 * (quAt q v * stV q - v) := by
  have hr := stV_range q
  have hpos : 0 < stV q := by omega
  have e : quAt q v = nearV (lim 1000000 v) (stV q) := lim_id hb ha
  rw [e] at ha hb ⊢
  by_cases hin : -1000000 ≤ v ∧ v ≤ 1000000
  · rw [show lim 1000000 v = v by unfold lim; omega]
    exact near_close v _ hpos
  · obtain ⟨k, hk, hq⟩ : ∃ k : Nat, k < 52 ∧ stV q = (stK k : Int) := by
      by_cases h : 0 ≤ q ∧ q ≤ 51
      · obtain ⟨k, rfl⟩ := Int.eq_ofNat_of_zero_le h.1
        exact ⟨k, by omega, stV_in (by omega)⟩
      · exact absurd (stV_out h) hs
    have hE := edge_close k hk
    rw [hq] at ha hb ⊢
    obtain ⟨n, hn⟩ : ∃ n : Nat, n = (2000000 + stK k) / (2 * stK k) := ⟨_, rfl⟩
    have hni : ((1000000 : Int) * 2 + (stK k : Int)) / (2 * (stK k : Int)) = (n : Int) := by
      rw [hn, show (1000000 : Int) * 2 + (stK k : Int) = ((2000000 + stK k : Nat) : Int) by omega, show 2 * (stK k : Int) = ((2 * stK k : Nat) : Int) by omega]
      exact (Int.natCast_ediv _ _).symm
    rw [← hn] at hE
    rcases (show v = 1000001 ∨ v = -1000001 by omega) with rfl | rfl
    · rw [show lim 1000000 1000001 = 1000000 by decide] at ha hb ⊢
      have en : nearV 1000000 (stK k : Int) = (n : Int) := by unfold nearV; rw [if_neg (by decide)]; exact hni
      rw [en] at ha hb ⊢
      have h3 := hE (by omega)
      have h4 : ((n * stK k : Nat) : Int) = (n : Int) * (stK k : Int) := by push_cast; rfl
      omega
    · rw [show lim 1000000 (-1000001) = -1000000 by decide] at ha hb ⊢
      have en : nearV (-1000000) (stK k : Int) = -(n : Int) := by unfold nearV; rw [if_pos (by decide)]; exact congrArg Neg.neg hni
      rw [en] at ha hb ⊢
      have h3 := hE (by omega)
      have h4 : ((n * stK k : Nat) : Int) = (n : Int) * (stK k : Int) := by push_cast; rfl
      rw [Int.neg_mul]
      omega
theorem quAt_range (q v : Int) : -16383 ≤ quAt q v ∧ quAt q v ≤ 16383 := lim_range (by decide)
theorem step_mul {a s : Int} (h1 : -16383 ≤ a) (h2 : a ≤ 16383) (h3 : 0 ≤ s) (h4 : s ≤ 352) : -6000000 ≤ a * s ∧ a * s ≤ 6000000 := by
  have a1 : a * s ≤ 16383 * s := Int.mul_le_mul_of_nonneg_right h2 h3
  have a2 : (-16383) * s ≤ a * s := Int.mul_le_mul_of_nonneg_right h1 h3
  omega
theorem mul_part {y s m : Int} (hy : y ≠ 0) (hs : s ≠ 0) (hm : m ≠ 0) : y * s * m ≠ 0 ∧ (y * s * m).tmod y = 0 := by
  refine ⟨Int.mul_ne_zero (Int.mul_ne_zero hy hs) hm, ?_⟩
  rw [Int.mul_assoc]
  exact Int.mul_tmod_right _ _
set_option maxRecDepth 100000 in
set_option maxHeartbeats 4000000 in
/-- The law's own walk. -/
theorem fnSteps_walk (a : Option Addr) (len cap : Nat) (zs : List Int) (w : World) (hr : IsRow .u8 w a len cap zs) (hS : StepsAt w) :
    Calls Tryd.prog 3 #[.slice a len cap] w fun e w' => e = .returned (.bool true) ∧ Below w.heap.size w w' := by
  have hlm := hr.len_le
  unfold maxLen at hlm
  by_cases hbig : 1048576 < len
  · have BG := Lib.hid (big_any a len cap hlm)
    have hb : decide (1048576 < (len : Int)) = true := decide_eq_true (by omega)
    rw [hb] at BG
    clear hr hlm hbig hb
    go_enter Tryd.func3, Tryd.ntmps3
    go_wp2_with fail
    refine (BG.out _).mono ?_
    rintro e w1 ⟨rfl, hw⟩
    subst hw
    go_wp2
    go_ret
    exact ⟨rfl, Below.refl _ _⟩
  · have hbigF : decide (1048576 < (len : Int)) = false := decide_eq_false (by omega)
    obtain ⟨ys, rfl, hW⟩ := code_of hr (by omega)
    have BG := Lib.hid (big_any a ys.length cap hlm)
    rw [hbigF] at BG
    have DS := Lib.hid (drawstepof_ex a cap ys w hW)
    have DQ := Lib.hid fun w hW => drawquantized_ex a cap ys w hW
    have DC := Lib.hid fun w hW => drawscaled_ex a cap ys w hW
    have IT := Lib.hid impl_stepof_any; have ST := Lib.hid spec_stepof_any
    have IQ := Lib.hid @impl_quantized_any; have SQ := Lib.hid @spec_quantized_any
    have IC := Lib.hid @impl_scaled_any; have SC := Lib.hid @spec_scaled_any
    have SI := Lib.hid @sameints_any
    have HW := Lib.hid hW; have HS := Lib.hid hS
    clear hr hbig hbigF hlm hW hS
    go_enter Tryd.func3, Tryd.ntmps3
    go_wp2_with fail
    refine (BG.out _).mono ?_
    rintro e w1 ⟨rfl, hw⟩
    subst hw
    go_wp2_with fail
    refine DS.out.mono ?_
    rintro e w2 ⟨q, rfl, hq1, hq2, hb2⟩
    have B2 := Lib.hid hb2; clear hb2
    go_upto_region 4 with fail
    go_cut [38] (fun s38 wx => s38 = .bool false ∧ Below w.heap.size w wx)
    case first =>
      have IT1 := Lib.hid (IT.out q w2 (HS.out.below B2.out HS.out.1))
      have ST1 := Lib.hid (ST.out q)
      have IT2 := Lib.hid fun w3 h => IT.out q w3 h
      have IT3 := Lib.hid fun w3 h => IT.out (q - 1) w3 h
      have MO := Lib.hid (@stV_mono q)
      obtain ⟨u, hu⟩ : ∃ u, u = stV q := ⟨_, rfl⟩
      obtain ⟨v, hv⟩ : ∃ v, v = stV (q - 1) := ⟨_, rfl⟩
      rw [← hu] at IT1 ST1 IT2 MO
      rw [← hv] at IT3 MO
      have huu : (u != u) = false := by simp
      clear hu hv
      by_cases h0 : 0 < q
      · by_cases h1 : q ≤ 51
        · have hm := MO.out h0 h1
          have b0 : decide (0 < q) = true := by simpa using h0
          have b1 : decide (q ≤ 51) = true := by simpa using h1
          go_wp2_with fail
          refine IT1.out.mono ?_
          rintro e w3 ⟨rfl, hw⟩
          subst hw
          go_wp2_with fail
          refine (ST1.out _).mono ?_
          rintro e w3 ⟨rfl, hb3⟩
          have B3 := Lib.hid (below_up B2.out hb3 B2.out.size); clear hb3
          go_wp2_with fail
          refine (IT2.out _ (HS.out.below B3.out HS.out.1)).mono ?_
          rintro e w4 ⟨rfl, hw⟩
          subst hw
          go_wp2_with fail
          refine (IT3.out _ (HS.out.below B3.out HS.out.1)).mono ?_
          rintro e w4 ⟨rfl, hw⟩
          subst hw
          go_wp2_with fail
          go_meet
          exact ⟨rfl, B3.out⟩
        · have b0 : decide (0 < q) = true := by simpa using h0
          have b1 : decide (q ≤ 51) = false := by simpa using h1
          go_wp2_with fail
          refine IT1.out.mono ?_
          rintro e w3 ⟨rfl, hw⟩
          subst hw
          go_wp2_with fail
          refine (ST1.out _).mono ?_
          rintro e w3 ⟨rfl, hb3⟩
          have B3 := Lib.hid (below_up B2.out hb3 B2.out.size); clear hb3
          go_wp2_with fail
          go_meet
          exact ⟨rfl, B3.out⟩
      · have b0 : decide (0 < q) = false := by simpa using h0
        go_wp2_with fail
        refine IT1.out.mono ?_
        rintro e w3 ⟨rfl, hw⟩
        subst hw
        go_wp2_with fail
        refine (ST1.out _).mono ?_
        rintro e w3 ⟨rfl, hb3⟩
        have B3 := Lib.hid (below_up B2.out hb3 B2.out.size); clear hb3
        go_wp2_with fail
        go_meet
        exact ⟨rfl, B3.out⟩
    case rest =>
      obtain ⟨rfl, hb⟩ := hcut
      have B3 := Lib.hid hb
      clear hb B2 DS hq1 hq2
      go_wp2_with fail
      refine (DQ.out _ (HW.out.below B3.out)).mono ?_
      rintro e w4 ⟨l, A4, c4, k, rfl, hl64, hlr, hk1, hk2, hI4, hb4⟩
      have I4 := Lib.hid hI4; have LR := Lib.hid hlr
      have B4 := Lib.hid (below_up B3.out hb4 B3.out.size); clear hb4 hI4 hlr
      go_wp2_with fail
      refine (IQ.out _ _ _ k _ I4.out (HS.out.below B4.out HS.out.1)).mono ?_
      rintro e w5 ⟨A5, c5, rfl, ho5, hb5⟩
      have hx64 := quV_len l k
      have X5 := Lib.hid (ho5.ints (by omega)); have I5 := Lib.hid ((I4.out.below hb5 (Nat.le_refl _)).mono hb5.size); have B5 := Lib.hid (below_up B4.out hb5 B4.out.size)
      clear ho5 hb5
      by_cases hR : sizeV l.length = true ∧ stV k ≠ 0
      rotate_left
      · have e0 : quV l k = [] := by unfold quV; rw [if_neg hR]
        have SQ1 := Lib.hid (fun w h => SQ.out A4 c4 l k (by omega) w h)
        rw [e0] at SQ1 ⊢
        clear hR e0 X5 hx64
        go_wp2_with fail
        refine (SQ1.out _ I5.out).mono ?_
        rintro e w6 ⟨A6, c6, rfl, -, hb6⟩
        have B6 := Lib.hid (below_up B5.out hb6 B5.out.size); clear hb6
        go_wp2
        go_ret
        exact ⟨rfl, B6.out⟩
      · have e0 : quV l k = quF l k := quV_full hR.1 hR.2
        have hn16 := sizeV_len hR.1
        have hs0 := hR.2
        rw [e0] at X5 ⊢
        have QA := Lib.hid (quF_at l k)
        have QC : Hid (∀ v, -1000001 ≤ v → v ≤ 1000001 → quAt k v < 16383 → -16383 < quAt k v → 2 * (quAt k v * stV k - v) ≤ stV k ∧ -stV k ≤ 2 * (quAt k v * stV k - v)) := Lib.hid fun v => quAt_close hs0
        have hsr := stV_range k
        have IT1 := Lib.hid fun w3 h => IT.out k w3 h
        obtain ⟨s, hs⟩ : ∃ s, s = stV k := ⟨_, rfl⟩
        rw [← hs] at QC hs0 hsr IT1
        obtain ⟨hs1, hs2⟩ := hsr
        have hqn := quF_len l k
        obtain ⟨n, hn⟩ : ∃ n, n = l.length := ⟨_, rfl⟩
        rw [← hn] at hqn hn16 hl64
        have HQN := Lib.hid hqn; have HN := Lib.hid hn; have HS0 := Lib.hid hs0
        rw [hqn, ← hn]
        have hn0 : 0 < n := by omega
        have hnn : ((n : Int) != (n : Int)) = false := by simp
        clear hR e0 hs0 hs hqn hn hx64 hn16
        go_wp2_with fail
        refine (IT1.out _ (HS.out.below B5.out HS.out.1)).mono ?_
        rintro e w6 ⟨rfl, hw⟩
        subst hw
        go_wp2
        go_loopw [8, 9] (fun i x9 wr => ∃ j : Nat, j ≤ n ∧ i = .int .i64 j ∧ Below w5.heap.size w5 wr)
          (fun i _ _ => n - (intOf i).toNat)
        case atStart => exact ⟨0, Nat.zero_le _, rfl, Below.refl _ _⟩
        case round =>
          obtain ⟨j, hj, rfl, hbel⟩ := hrel
          by_cases hlt : j < n
          · have d1 : decide ((j : Int) < (n : Int)) = true := by simp; omega
            obtain ⟨bx, ox, rfl, hbx, hcx⟩ := X5.out.at j (by rw [HQN.out]; exact hlt)
            have cx := hcx j (by rw [HQN.out]; exact hlt)
            rw [← hbel.cell (p := ⟨bx, ox + j, none⟩) hbx, QA.out j (by rw [← HN.out]; exact hlt)] at cx
            obtain ⟨bl, ol, rfl, hbl, hcl⟩ := I5.out.at j (by rw [← HN.out]; exact hlt)
            have cl := hcl j (by rw [← HN.out]; exact hlt)
            rw [← hbel.cell (p := ⟨bl, ol + j, none⟩) hbl] at cl
            have hv := LR.out j (by rw [← HN.out]; exact hlt)
            obtain ⟨v, hvv⟩ : ∃ v, v = l.getD j 0 := ⟨_, rfl⟩
            rw [← hvv] at cx cl hv
            have hcv := QC.out v hv.1 hv.2
            have hzr := quAt_range k v
            obtain ⟨z, hz⟩ : ∃ z, z = quAt k v := ⟨_, rfl⟩
            rw [← hz] at cx hcv hzr
            have hm := step_mul hzr.1 hzr.2 hs1 hs2
            obtain ⟨m1, m2⟩ := hm
            obtain ⟨v1, v2⟩ := hv
            have hp1 : IntKind.i64.wrap (z * s) = z * s := IntWalk.i64_in _ (by omega)
            have hp2 : IntKind.i64.wrap (z * s - v) = z * s - v := IntWalk.i64_in _ (by omega)
            have HB := Lib.hid hbel
            clear hbel hcx hcl hvv hz hzr
            by_cases ha : z < 16383
            · have ba : decide (z < 16383) = true := by simpa using ha
              by_cases hb : -16383 < z
              · have bb : decide (-16383 < z) = true := by simpa using hb
                obtain ⟨f1, f2⟩ := hcv ha hb
                have g1 : decide (s < 2 * (z * s - v)) = false := by simp; omega
                have g2 : decide (2 * (z * s - v) < -s) = false := by simp; omega
                clear f1 f2 hcv ha hb
                go_wp2_with fail
                go_quiet (fail)
                go_wp2
                go_roundw
                case rel => exact ⟨j + 1, by omega, by go_num, below_draws HB.out _⟩
                case measure => simp [intOf]; omega
              · have bb : decide (-16383 < z) = false := by simpa using hb
                clear hcv ha hb
                go_wp2_with fail
                go_quiet (fail)
                go_wp2
                go_roundw
                case rel => exact ⟨j + 1, by omega, by go_num, below_draws HB.out _⟩
                case measure => simp [intOf]; omega
            · have ba : decide (z < 16383) = false := by simpa using ha
              clear hcv ha
              go_wp2_with fail
              go_quiet (fail)
              go_wp2
              go_roundw
              case rel => exact ⟨j + 1, by omega, by go_num, below_draws HB.out _⟩
              case measure => simp [intOf]; omega
          · obtain rfl : j = n := by omega
            have d1 : decide ((j : Int) < (j : Int)) = false := by simp
            have B6 := Lib.hid (below_up B5.out hbel B5.out.size)
            clear hbel X5 I5
            go_wp2_with fail
            refine (DC.out _ (HW.out.below B6.out)).mono ?_
            rintro e w7 ⟨y, A7, c7, m, rfl, hy64, hm1, hm2, hI7, hb7⟩
            have I7 := Lib.hid hI7
            have B7 := Lib.hid (below_up B6.out hb7 B6.out.size); clear hb7 hI7
            go_wp2_with fail
            refine (IC.out _ _ _ m _ I7.out (HS.out.below B7.out HS.out.1)).mono ?_
            rintro e w8 ⟨A8, c8, rfl, ho8, hb8⟩
            have hz64 := scV_len y m
            have Z8 := Lib.hid (ho8.ints (by omega)); have I8 := Lib.hid ((I7.out.below hb8 (Nat.le_refl _)).mono hb8.size); have B8 := Lib.hid (below_up B7.out hb8 B7.out.size)
            clear ho8 hb8
            have SC1 := Lib.hid (fun w h => SC.out A7 c7 y m (by omega) w h)
            by_cases hR : okV y = true ∧ stV m ≠ 0
            · have e0 : scV y m = scF y m := scV_full hR.1 hR.2
              have hyl := okV_len hR.1
              have HM : Hid (∀ t, t < y.length → scAt y m t = y.getD t 0 * stV m * nmV (sideN y.length) (t : Int) ∧ nmV (sideN y.length) (t : Int) ≠ 0) := Lib.hid fun t ht => ⟨rfl, by have := nmV_pos hyl ht; omega⟩
              have hs0 := hR.2
              rw [e0] at Z8 SC1 ⊢
              have ZA := Lib.hid (scF_at y m)
              have hzn := scF_len y m
              obtain ⟨Z, hZ⟩ : ∃ Z, Z = scF y m := ⟨_, rfl⟩
              rw [← hZ] at Z8 SC1 ZA hzn ⊢
              obtain ⟨n2, hn2⟩ : ∃ n2, n2 = y.length := ⟨_, rfl⟩
              rw [← hn2] at SC1 hzn hy64 ⊢
              have HN2 := Lib.hid hn2; have HZN := Lib.hid hzn; have HS2 := Lib.hid hs0
              rw [hzn]
              have hn2n : ((n2 : Int) != (n2 : Int)) = false := by simp
              clear hR e0 hyl hs0 hZ hzn hn2 hz64
              go_wp2
              go_loopw [13] (fun i wr => ∃ t : Nat, t ≤ n2 ∧ i = .int .i64 t ∧ Below w8.heap.size w8 wr)
                (fun i _ => n2 - (intOf i).toNat)
              case atStart => exact ⟨0, Nat.zero_le _, rfl, Below.refl _ _⟩
              case round =>
                obtain ⟨t, ht, rfl, hbel⟩ := hrel
                by_cases hlt2 : t < n2
                · have d2 : decide ((t : Int) < (n2 : Int)) = true := by simp; omega
                  obtain ⟨bz, oz, rfl, hbz, hcz⟩ := Z8.out.at t (by rw [HZN.out]; exact hlt2)
                  have cz := hcz t (by rw [HZN.out]; exact hlt2)
                  rw [← hbel.cell (p := ⟨bz, oz + t, none⟩) hbz, ZA.out t (by rw [← HN2.out]; exact hlt2), (HM.out t (by rw [← HN2.out]; exact hlt2)).1] at cz
                  obtain ⟨by', oy, rfl, hby, hcy⟩ := I8.out.at t (by rw [← HN2.out]; exact hlt2)
                  have cy := hcy t (by rw [← HN2.out]; exact hlt2)
                  rw [← hbel.cell (p := ⟨by', oy + t, none⟩) hby] at cy
                  have hnz := (HM.out t (by rw [← HN2.out]; exact hlt2)).2
                  obtain ⟨v, hv⟩ : ∃ v, v = y.getD t 0 := ⟨_, rfl⟩
                  rw [← hv] at cz cy
                  have HB := Lib.hid hbel
                  by_cases hv0 : v = 0
                  · rw [hv0, Int.zero_mul, Int.zero_mul] at cz
                    rw [hv0] at cy
                    clear hbel hcz hcy hv hv0 hnz
                    go_wp2_with fail
                    go_quiet (fail)
                    go_wp2
                    go_roundw
                    case rel => exact ⟨t + 1, by omega, by go_num, below_draws HB.out _⟩
                    case measure => simp [intOf]; omega
                  · obtain ⟨hz1, hz2⟩ := mul_part hv0 HS2.out hnz
                    obtain ⟨z, hz⟩ : ∃ z, z = v * stV m * nmV (sideN y.length) (t : Int) := ⟨_, rfl⟩
                    rw [← hz] at cz hz1 hz2
                    have f1 : (z == 0) = false := by simpa using hz1
                    have f2 : (v == 0) = false := by simpa using hv0
                    have f3 : (v != 0) = true := by simpa using hv0
                    clear hbel hcz hcy hv hz hnz
                    go_wp2_with fail
                    go_quiet (fail)
                    go_wp2
                    go_roundw
                    case rel => exact ⟨t + 1, by omega, by go_num, below_draws HB.out _⟩
                    case measure => simp [intOf]; omega
                · obtain rfl : t = n2 := by omega
                  have d2 : decide ((t : Int) < (t : Int)) = false := by simp
                  have Z9 := Lib.hid ((Z8.out.below hbel (Nat.le_refl _)).mono hbel.size); have I9 := Lib.hid ((I8.out.below hbel (Nat.le_refl _)).mono hbel.size)
                  have B9 := Lib.hid (below_up B8.out hbel B8.out.size)
                  clear hbel Z8 I8
                  go_wp2_with fail
                  refine (SC1.out _ I9.out).mono ?_
                  rintro e w10 ⟨A10, c10, rfl, ho10, hb10⟩
                  have Y10 := Lib.hid (ho10.ints (by rw [HZN.out]; omega))
                  have Z10 := Lib.hid ((Z9.out.below hb10 (Nat.le_refl _)).mono hb10.size)
                  have B10 := Lib.hid (below_up B9.out hb10 B9.out.size)
                  have SX := Lib.hid (fun w h1 h2 => SI.out A8 A10 c8 c10 Z Z w h1 h2)
                  rw [decide_eq_true rfl, HZN.out] at SX
                  rw [HZN.out]
                  clear ho10 hb10
                  go_wp2_with fail
                  refine (SX.out _ Z10.out Y10.out).mono ?_
                  rintro e w11 ⟨rfl, hb11⟩
                  have B11 := Lib.hid (below_up B10.out hb11 B10.out.size); clear hb11
                  go_wp2
                  go_ret
                  exact ⟨rfl, B11.out⟩
            · have e0 : scV y m = [] := by unfold scV; rw [if_neg hR]
              rw [e0] at Z8 SC1 ⊢
              clear hR e0 hz64
              go_wp2
              go_loopw [13] (fun i wr => i = .int .i64 0 ∧ Below w8.heap.size w8 wr)
                (fun _ _ => 0)
              case atStart => exact ⟨rfl, Below.refl _ _⟩
              case round =>
                obtain ⟨rfl, hbel⟩ := hrel
                have Z9 := Lib.hid ((Z8.out.below hbel (Nat.le_refl _)).mono hbel.size); have I9 := Lib.hid ((I8.out.below hbel (Nat.le_refl _)).mono hbel.size)
                have B9 := Lib.hid (below_up B8.out hbel B8.out.size)
                clear hbel Z8 I8
                go_wp2_with fail
                refine (SC1.out _ I9.out).mono ?_
                rintro e w10 ⟨A10, c10, rfl, ho10, hb10⟩
                have Y10 := Lib.hid (ho10.ints (by simp))
                have Z10 := Lib.hid ((Z9.out.below hb10 (Nat.le_refl _)).mono hb10.size)
                have B10 := Lib.hid (below_up B9.out hb10 B9.out.size)
                have SX := Lib.hid (fun w h1 h2 => SI.out A8 A10 c8 c10 [] [] w h1 h2)
                rw [decide_eq_true rfl] at SX
                clear ho10 hb10
                go_wp2_with fail
                refine (SX.out _ Z10.out Y10.out).mono ?_
                rintro e w11 ⟨rfl, hb11⟩
                have B11 := Lib.hid (below_up B10.out hb11 B10.out.size); clear hb11
                go_wp2
                go_ret
                exact ⟨rfl, B11.out⟩
end Go.Proofs.YtgccphidnbfcaaaDoor
