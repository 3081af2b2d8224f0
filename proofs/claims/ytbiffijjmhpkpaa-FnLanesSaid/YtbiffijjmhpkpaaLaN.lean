/-
  The walk of the law FnLanes. No condition.
-/
import Derived.Test.YtbiffijjmhpkpaaLaM
import Derived.Test.YtbiffijjmhpkpaaLaL
import Derived.RegionTactic
import Derived.BigRegion
import Derived.Deep.Cut
import Derived.Deep.DeepCutAuto
import Derived.Deep.RegionHeld3
namespace Go.Proofs.Ytbiffijjmhpkpaa
open Go.RowKit
set_option linter.unusedVariables false

/-- Four sums at once, lane by lane. -/
theorem lanes_sum {a b : Int} (h1 : a ≤ 9223372036854775807) (h2 : b ≤ 9223372036854775807) (h : adE a b = true) :
    upE a = true ∧ upE b = true ∧ upE (adV a b) = true ∧ wrap64 (a + b) = adV a b ∧ (∀ j, j < 4 → (upF (adV a b)).getD j 0 = (upF a).getD j 0 + (upF b).getD j 0) ∧ adV a b ≤ 9223372036854775807 ∧ -9223372036854775808 ≤ adV a b := by
  have h' := h
  unfold adE at h'
  simp only [Bool.and_eq_true] at h'
  obtain ⟨⟨ha, hb⟩, hs⟩ := h'
  obtain ⟨q1, q2⟩ := adF_pack h1 h2 ha hb
  rw [h] at q1
  obtain ⟨u1, u2⟩ := up_pack q1
  rw [q2] at u1 u2
  rw [upE_on u1] at u2
  have t := (add_test h1 h2 ha hb).2 hs
  rw [w64] at t
  have ev : adV a b = a + b := by unfold adV; rw [if_pos h]
  have pr := pack_range (l := adF a b)
  rw [q2] at pr
  exact ⟨ha, hb, u1, by rw [t, ev], fun j hj => by rw [u2]; exact adF_at a b hj, pr.2, by omega⟩
/-- What ClipLanes answers, lane by lane. -/
theorem lanes_clip {n : Int} (h : upE n = true) : upE (clV n) = true ∧ (∀ j, j < 4 → (upF (clV n)).getD j 0 = clipV ((upF n).getD j 0 - 1024)) := by
  obtain ⟨q1, q2⟩ := clV_pack h
  obtain ⟨u1, u2⟩ := up_pack q2
  rw [← q1] at u1 u2
  rw [upE_on u1] at u2
  exact ⟨u1, fun j hj => by rw [u2]; exact clF_at n hj⟩
theorem clV_range (n : Int) : -9223372036854775808 ≤ clV n ∧ clV n ≤ 9223372036854775807 := by
  by_cases h : upE n = true
  · rw [(clV_pack h).1]
    have := pack_range (l := (upF n).map fun x => clipV (x - 1024))
    omega
  · unfold clV
    rw [if_neg h]
    omega
set_option maxRecDepth 100000 in
set_option maxHeartbeats 16000000 in
theorem fnLanes_walk (a : Option Addr) (len cap : Nat) (zs : List Int) (w : World) (hr : IsRow .u8 w a len cap zs) :
    Calls Try.prog 3 #[.slice a len cap] w fun e w' => e = .returned (.bool true) ∧ Below w.heap.size w w' := by
  have hlm := hr.len_le
  unfold maxLen at hlm
  by_cases hbig : 1048576 < len
  · have BG := Lib.hid (big_any a len cap hlm)
    have hb : decide (1048576 < (len : Int)) = true := decide_eq_true (by omega)
    rw [hb] at BG
    clear hr hlm hbig hb
    go_enter Try.func3, Try.ntmps3
    go_wp2_with fail
    refine (BG.out _).mono ?_
    rintro e w1 ⟨rfl, hw⟩
    subst hw
    go_wp2
    go_ret
    exact ⟨rfl, Below.refl _ _⟩
  · have hbigF : decide (1048576 < (len : Int)) = false := decide_eq_false (by omega)
    obtain ⟨ys, rfl, hW⟩ := code_of hr (by omega)
    have BG := Lib.hid (big_any a ys.length cap hlm)
    rw [hbigF] at BG
    have DP := Lib.hid (drawpack4_ex a cap ys w hW)
    have DAL := Lib.hid fun w hW => drawaddlanes_ex a cap ys w hW
    have DCL := Lib.hid fun w hW => drawcliplanes_ex a cap ys w hW
    have HW := Lib.hid hW
    have PI := Lib.hid @impl_pack_any; have PS := Lib.hid @spec_pack_any; have SI := Lib.hid @sameints_any
    have UP := Lib.hid impl_unpack_any; have ADI := Lib.hid impl_addlanes_any; have ADS := Lib.hid spec_addlanes_any
    have CLI : Hid (∀ n, -9223372036854775808 ≤ n → n ≤ 9223372036854775807 → ∀ w, Calls Try.prog 19 #[.int .i64 n] w fun e w' => e = .returned (.int .i64 (clV n)) ∧ Below w.heap.size w w') := Lib.hid fun n h0 h1 w => same_below (impl_cliplanes_any n h0 h1 w)
    clear hr hbig hbigF hlm hW
    go_enter Try.func3, Try.ntmps3
    go_wp2_with fail
    refine (BG.out _).mono ?_
    rintro e w1 ⟨rfl, hw⟩
    subst hw
    go_wp2_with fail
    refine (DP.out).mono ?_
    rintro e w2 ⟨l, A_L, c_L, rfl, hl4, hIL, hb⟩
    have BB := Lib.hid hb
    have IL := Lib.hid hIL
    have PIl := Lib.hid fun A c w h => PI.out A c l w h; have PSl := Lib.hid fun A c w h => PS.out A c l w h
    have UPl := Lib.hid fun w => UP.out (paqV l) (by have := (pack_range (l := l)).1; omega) (pack_range (l := l)).2 w
    have BK := Lib.hid (@up_pack l)
    have SIl := Lib.hid fun A B ca cb w hA hB => SI.out A B ca cb l l w hA hB
    rw [decide_eq_true rfl] at SIl
    obtain ⟨n, hn⟩ : ∃ n, n = l.length := ⟨_, rfl⟩
    have HNL := Lib.hid hn
    rw [← hn] at PIl PSl SIl ⊢
    obtain ⟨V, hV⟩ : ∃ n, n = paqV l := ⟨_, rfl⟩
    rw [← hV] at PIl PSl UPl BK
    obtain ⟨E, hE⟩ : ∃ n, n = paqE l := ⟨_, rfl⟩
    rw [← hE] at PIl PSl BK
    have hVV : (V != V) = false := by simp
    have hL4 := Lib.hid hl4
    clear hn hV hE hb hIL hl4
    go_wp2_with fail
    refine (PIl.out _ _ _ IL.out).mono ?_
    rintro e w3 ⟨rfl, hb⟩
    have BB := Lib.hid (below_up BB.out hb BB.out.size)
    have IL := Lib.hid ((IL.out.below hb (Nat.le_refl _)).mono hb.size)
    clear hb
    go_wp2_with fail
    refine (PSl.out _ _ _ IL.out).mono ?_
    rintro e w4 ⟨rfl, hw⟩
    subst hw
    go_upto_region 6 with fail
    go_cut [53] (fun s53 wx => s53 = .bool false ∧ Below w.heap.size w wx)
    case first =>
      cases E with
      | false =>
        go_wp2
        go_meet
        exact ⟨rfl, BB.out⟩
      | true =>
        obtain ⟨u1, u2⟩ := BK.out rfl
        rw [u2, ← HNL.out] at UPl
        clear u1 u2 BK
        go_wp2_with fail
        refine (UPl.out _).mono ?_
        rintro e w5 ⟨A5, c5, rfl, ho, hb⟩
        have BB := Lib.hid (below_up BB.out hb BB.out.size)
        have IL := Lib.hid ((IL.out.below hb (Nat.le_refl _)).mono hb.size)
        have IU := Lib.hid (ho.ints (by have := hL4.out; omega))
        clear ho hb
        go_wp2_with fail
        refine (SIl.out _ _ _ _ _ IU.out IL.out).mono ?_
        rintro e w6 ⟨rfl, hb⟩
        have BB := Lib.hid (below_up BB.out hb BB.out.size)
        clear hb
        go_wp2
        go_meet
        exact ⟨rfl, BB.out⟩
    obtain ⟨rfl, hbx⟩ := hcut
    have BB := Lib.hid hbx
    clear hbx IL BK PIl PSl UPl SIl HNL hL4
    have HWd := Lib.hid (HW.out.below BB.out)
    go_wp2_with fail
    refine (DAL.out _ HWd.out).mono ?_
    rintro e w10 ⟨a, b, rfl, ha, hb2, hb⟩
    have BB := Lib.hid (below_up BB.out hb BB.out.size)
    have AD := Lib.hid fun w => ADI.out a b ha.1 ha.2 hb2.1 hb2.2 w
    have SAD := Lib.hid fun w => ADS.out a b ha.2 hb2.2 w
    have UA := Lib.hid fun w => UP.out a ha.1 ha.2 w
    have UB := Lib.hid fun w => UP.out b hb2.1 hb2.2 w
    have LS := Lib.hid (@lanes_sum a b ha.2 hb2.2)
    have UV := Lib.hid fun h1 h2 w => UP.out (adV a b) h1 h2 w
    clear hb HWd ha hb2
    cases hE : adE a b with
    | true =>
      obtain ⟨e1, e2, e3, e4, e5, e6, e7⟩ := LS.out hE
      rw [hE] at AD SAD
      rw [upE_len e1, upE_on e1] at UA
      rw [upE_len e2, upE_on e2] at UB
      have UZ := Lib.hid fun w => UV.out e7 e6 w
      rw [upE_len e3, upE_on e3] at UZ
      have HRA : Hid (∀ j, j < 4 → 0 ≤ (upF a).getD j 0 ∧ (upF a).getD j 0 < 65536) := Lib.hid fun j hj => upF_range a hj
      have HRB : Hid (∀ j, j < 4 → 0 ≤ (upF b).getD j 0 ∧ (upF b).getD j 0 < 65536) := Lib.hid fun j hj => upF_range b hj
      have HSU := Lib.hid e5
      obtain ⟨X, hX⟩ : ∃ X, X = upF a := ⟨_, rfl⟩
      obtain ⟨Y, hY⟩ : ∃ X, X = upF b := ⟨_, rfl⟩
      obtain ⟨Z, hZ⟩ : ∃ X, X = upF (adV a b) := ⟨_, rfl⟩
      have XL : Hid (X.length = 4) := Lib.hid (by rw [hX]; rfl)
      have YL : Hid (Y.length = 4) := Lib.hid (by rw [hY]; rfl)
      have ZL : Hid (Z.length = 4) := Lib.hid (by rw [hZ]; rfl)
      rw [← hX] at UA HRA HSU
      rw [← hY] at UB HRB HSU
      rw [← hZ] at UZ HSU
      obtain ⟨V, hV⟩ : ∃ X, X = adV a b := ⟨_, rfl⟩
      rw [← hV] at AD SAD UZ e4
      have hVV : (V != V) = false := by simp
      clear hX hY hZ hV e1 e2 e3 e5 e6 e7 hE LS UV
      go_wp2_with fail
      refine (AD.out _).mono ?_
      rintro e w11 ⟨rfl, hw⟩
      subst hw
      go_wp2_with fail
      refine (UA.out _).mono ?_
      rintro e w12 ⟨A12, c12, rfl, ho, hb⟩
      have BB := Lib.hid (below_up BB.out hb BB.out.size)
      have IX := Lib.hid (ho.ints (by rw [XL.out]; decide))
      clear ho hb
      go_wp2_with fail
      refine (UB.out _).mono ?_
      rintro e w13 ⟨A13, c13, rfl, ho, hb⟩
      have BB := Lib.hid (below_up BB.out hb BB.out.size)
      have IX := Lib.hid ((IX.out.below hb (Nat.le_refl _)).mono hb.size)
      have IY := Lib.hid (ho.ints (by rw [YL.out]; decide))
      clear ho hb
      go_wp2_with fail
      refine (SAD.out _).mono ?_
      rintro e w14 ⟨rfl, hb⟩
      have BB := Lib.hid (below_up BB.out hb BB.out.size)
      have IX := Lib.hid ((IX.out.below hb (Nat.le_refl _)).mono hb.size)
      have IY := Lib.hid ((IY.out.below hb (Nat.le_refl _)).mono hb.size)
      clear hb
      go_wp2_with fail
      refine (UZ.out _).mono ?_
      rintro e w15 ⟨A15, c15, rfl, ho, hb⟩
      have BB := Lib.hid (below_up BB.out hb BB.out.size)
      have IX := Lib.hid ((IX.out.below hb (Nat.le_refl _)).mono hb.size)
      have IY := Lib.hid ((IY.out.below hb (Nat.le_refl _)).mono hb.size)
      have IZ := Lib.hid (ho.ints (by rw [ZL.out]; decide))
      clear ho hb
      go_wp2
      go_loopw [17] (fun i wr => ∃ j : Nat, j ≤ 4 ∧ i = .int .i64 j ∧ Below w15.heap.size w15 wr) (fun i _ => 4 - (intOf i).toNat)
      case atStart => exact ⟨0, Nat.zero_le _, rfl, Below.refl _ _⟩
      case round =>
        obtain ⟨j, hj, rfl, hbel⟩ := hrel
        have IX := Lib.hid ((IX.out.below hbel (Nat.le_refl _)).mono hbel.size)
        have IY := Lib.hid ((IY.out.below hbel (Nat.le_refl _)).mono hbel.size)
        have IZ := Lib.hid ((IZ.out.below hbel (Nat.le_refl _)).mono hbel.size)
        have BR := Lib.hid hbel.drew; have BE := Lib.hid (below_up BB.out hbel BB.out.size)
        clear hbel
        by_cases hlt : j < 4
        · have d1 : decide ((j : Int) < 4) = true := by simp; omega
          obtain ⟨b1, o1, rfl, hb1, hc1⟩ := IX.out.at j (by rw [XL.out]; exact hlt)
          obtain ⟨b2, o2, rfl, hb2, hc2⟩ := IY.out.at j (by rw [YL.out]; exact hlt)
          obtain ⟨b3, o3, rfl, hb3, hc3⟩ := IZ.out.at j (by rw [ZL.out]; exact hlt)
          have cx := hc1 j (by rw [XL.out]; exact hlt)
          have cy := hc2 j (by rw [YL.out]; exact hlt)
          have cz := hc3 j (by rw [ZL.out]; exact hlt)
          have hra := HRA.out j hlt; have hrb := HRB.out j hlt
          have hsu := HSU.out j hlt
          rw [hsu] at cz
          obtain ⟨x, hx⟩ : ∃ x, x = X.getD j 0 := ⟨_, rfl⟩
          obtain ⟨y, hy⟩ : ∃ x, x = Y.getD j 0 := ⟨_, rfl⟩
          rw [← hx] at cx cz hra
          rw [← hy] at cy cz hrb
          have hp1 : IntKind.i64.wrap (x + y) = x + y := IntWalk.i64_in _ (by omega)
          have hzz : (x + y != x + y) = false := by simp
          clear hc1 hc2 hc3 hx hy hsu
          go_wp2
          go_region
          go_wp2
          go_roundw
          case rel => exact ⟨j + 1, by omega, by go_num, BR.out⟩
          case measure => simp [intOf]; omega
        · obtain rfl : j = 4 := by omega
          have BB := BE
          clear IX IY IZ BR BE
          have HWk := Lib.hid (HW.out.below BB.out)
          go_wp2_with fail
          refine (DCL.out _ HWk.out).mono ?_
          rintro e w20 ⟨k, rfl, hk, hb⟩
          have BB := Lib.hid (below_up BB.out hb BB.out.size)
          have UK := Lib.hid fun w => UP.out k hk.1 hk.2 w
          have CK := Lib.hid fun w => CLI.out k hk.1 hk.2 w
          have UC := Lib.hid fun w => UP.out (clV k) (clV_range k).1 (clV_range k).2 w
          have LC := Lib.hid (@lanes_clip k)
          have OFF := Lib.hid (@upE_off k)
          clear hb hk HWk
          cases hu : upE k with
          | true =>
            obtain ⟨c1, c2⟩ := LC.out hu
            rw [upE_len hu, upE_on hu] at UK
            rw [upE_len c1, upE_on c1] at UC
            have HR : Hid (∀ j, j < 4 → 0 ≤ (upF k).getD j 0 ∧ (upF k).getD j 0 < 65536) := Lib.hid fun j hj => upF_range k hj
            have HC := Lib.hid c2
            obtain ⟨X, hX⟩ : ∃ X, X = upF k := ⟨_, rfl⟩
            obtain ⟨Y, hY⟩ : ∃ X, X = upF (clV k) := ⟨_, rfl⟩
            have XL : Hid (X.length = 4) := Lib.hid (by rw [hX]; rfl)
            have YL : Hid (Y.length = 4) := Lib.hid (by rw [hY]; rfl)
            rw [← hX] at UK HR HC
            rw [← hY] at UC HC
            obtain ⟨vk, hvk⟩ : ∃ X, X = clV k := ⟨_, rfl⟩
            rw [← hvk] at CK UC
            clear hX hY hvk c1 c2 LC OFF hu
            go_wp2_with fail
            refine (UK.out _).mono ?_
            rintro e w21 ⟨A21, c21, rfl, ho, hb⟩
            have BB := Lib.hid (below_up BB.out hb BB.out.size)
            have U := Lib.hid (ho.ints (by rw [XL.out]; decide))
            clear ho hb
            go_wp2_with fail
            refine (CK.out _).mono ?_
            rintro e w22 ⟨rfl, hb⟩
            have BB := Lib.hid (below_up BB.out hb BB.out.size)
            have U := Lib.hid ((U.out.below hb (Nat.le_refl _)).mono hb.size)
            clear hb
            go_wp2_with fail
            refine (UC.out _).mono ?_
            rintro e w23 ⟨A23, c23, rfl, ho, hb⟩
            have BB := Lib.hid (below_up BB.out hb BB.out.size)
            have U := Lib.hid ((U.out.below hb (Nat.le_refl _)).mono hb.size)
            have V := Lib.hid (ho.ints (by rw [YL.out]; decide))
            clear ho hb
            go_wp2
            go_loopw [21] (fun i wr => ∃ j : Nat, j ≤ 4 ∧ i = .int .i64 j ∧ Below w23.heap.size w23 wr) (fun i _ => 4 - (intOf i).toNat)
            case atStart => exact ⟨0, Nat.zero_le _, rfl, Below.refl _ _⟩
            case round =>
              obtain ⟨j, hj, rfl, hbel⟩ := hrel
              have U := Lib.hid ((U.out.below hbel (Nat.le_refl _)).mono hbel.size)
              have V := Lib.hid ((V.out.below hbel (Nat.le_refl _)).mono hbel.size)
              have BR := Lib.hid hbel.drew; have BE := Lib.hid (below_up BB.out hbel BB.out.size)
              clear hbel
              by_cases hlt : j < 4
              · have d1 : decide ((j : Int) < 4) = true := by simp; omega
                obtain ⟨b1, o1, rfl, hb1, hc1⟩ := U.out.at j (by rw [XL.out]; exact hlt)
                obtain ⟨b2, o2, rfl, hb2, hc2⟩ := V.out.at j (by rw [YL.out]; exact hlt)
                have cu := hc1 j (by rw [XL.out]; exact hlt)
                have cv := hc2 j (by rw [YL.out]; exact hlt)
                have hcl := HC.out j hlt
                have hrr := HR.out j hlt
                rw [hcl] at cv
                obtain ⟨x, hx⟩ : ∃ x, x = X.getD j 0 := ⟨_, rfl⟩
                rw [← hx] at cu cv hrr
                have hp1 : IntKind.i64.wrap (x - 1024) = x - 1024 := IntWalk.i64_in _ (by omega)
                obtain ⟨y, hm1⟩ : ∃ y : Int, (if x - 1024 < 255 then x - 1024 else (255 : Int)) = y := ⟨_, rfl⟩
                have hm2 : min 255 (x - 1024) = y := by rw [← hm1]; split <;> omega
                have hm3 : (if 255 < x - 1024 then (255 : Int) else x - 1024) = y := by rw [← hm1]; split <;> split <;> omega
                have hy1 : max 0 y = clipV (x - 1024) := by unfold clipV; rw [hm2]
                have hy2 : (if (0 : Int) < y then y else 0) = clipV (x - 1024) := by rw [← hy1]; split <;> omega
                have hy3 : (if y < (0 : Int) then 0 else y) = clipV (x - 1024) := by rw [← hy1]; split <;> omega
                obtain ⟨z, hz⟩ : ∃ z, z = clipV (x - 1024) := ⟨_, rfl⟩
                rw [← hz] at cv hy1 hy2 hy3
                have hzz : (z != z) = false := by simp
                clear hc1 hc2 hx hcl hz
                go_wp2
                go_region
                go_wp2
                go_roundw
                case rel => exact ⟨j + 1, by omega, by go_num, BR.out⟩
                case measure => simp [intOf]; omega
              · obtain rfl : j = 4 := by omega
                go_wp2
                go_ret
                exact ⟨rfl, BE.out⟩
          | false =>
            rw [OFF.out hu] at UK
            obtain ⟨vk, hvk⟩ : ∃ X, X = clV k := ⟨_, rfl⟩
            rw [← hvk] at CK UC
            obtain ⟨Y, hY⟩ : ∃ X, X = upL vk := ⟨_, rfl⟩
            rw [← hY] at UC
            clear hY hvk LC OFF hu
            go_wp2_with fail
            refine (UK.out _).mono ?_
            rintro e w21 ⟨A21, c21, rfl, ho, hb⟩
            have BB := Lib.hid (below_up BB.out hb BB.out.size)
            clear ho hb
            go_wp2_with fail
            refine (CK.out _).mono ?_
            rintro e w22 ⟨rfl, hb⟩
            have BB := Lib.hid (below_up BB.out hb BB.out.size)
            clear hb
            go_wp2_with fail
            refine (UC.out _).mono ?_
            rintro e w23 ⟨A23, c23, rfl, ho, hb⟩
            have BB := Lib.hid (below_up BB.out hb BB.out.size)
            clear ho hb
            go_wp2
            refine wp_loop_rounds 1 ?_
            rw [rounds_succ]
            go_wp2
            go_ret
            exact ⟨rfl, BB.out⟩
    | false =>
      rw [hE] at AD SAD
      obtain ⟨V, hV⟩ : ∃ X, X = adV a b := ⟨_, rfl⟩
      rw [← hV] at AD SAD
      obtain ⟨X, hX⟩ : ∃ X, X = upL a := ⟨_, rfl⟩
      obtain ⟨Y, hY⟩ : ∃ X, X = upL b := ⟨_, rfl⟩
      rw [← hX] at UA
      rw [← hY] at UB
      clear hX hY hV hE LS UV
      go_wp2_with fail
      refine (AD.out _).mono ?_
      rintro e w11 ⟨rfl, hw⟩
      subst hw
      go_wp2_with fail
      refine (UA.out _).mono ?_
      rintro e w12 ⟨A12, c12, rfl, ho, hb⟩
      have BB := Lib.hid (below_up BB.out hb BB.out.size)
      clear ho hb
      go_wp2_with fail
      refine (UB.out _).mono ?_
      rintro e w13 ⟨A13, c13, rfl, ho, hb⟩
      have BB := Lib.hid (below_up BB.out hb BB.out.size)
      clear ho hb
      go_wp2_with fail
      refine (SAD.out _).mono ?_
      rintro e w14 ⟨rfl, hb⟩
      have BB := Lib.hid (below_up BB.out hb BB.out.size)
      clear hb
      have HWk := Lib.hid (HW.out.below BB.out)
      go_wp2_with fail
      refine (DCL.out _ HWk.out).mono ?_
      rintro e w20 ⟨k, rfl, hk, hb⟩
      have BB := Lib.hid (below_up BB.out hb BB.out.size)
      have UK := Lib.hid fun w => UP.out k hk.1 hk.2 w
      have CK := Lib.hid fun w => CLI.out k hk.1 hk.2 w
      have UC := Lib.hid fun w => UP.out (clV k) (clV_range k).1 (clV_range k).2 w
      have LC := Lib.hid (@lanes_clip k)
      have OFF := Lib.hid (@upE_off k)
      clear hb hk HWk
      cases hu : upE k with
      | true =>
        obtain ⟨c1, c2⟩ := LC.out hu
        rw [upE_len hu, upE_on hu] at UK
        rw [upE_len c1, upE_on c1] at UC
        have HR : Hid (∀ j, j < 4 → 0 ≤ (upF k).getD j 0 ∧ (upF k).getD j 0 < 65536) := Lib.hid fun j hj => upF_range k hj
        have HC := Lib.hid c2
        obtain ⟨X, hX⟩ : ∃ X, X = upF k := ⟨_, rfl⟩
        obtain ⟨Y, hY⟩ : ∃ X, X = upF (clV k) := ⟨_, rfl⟩
        have XL : Hid (X.length = 4) := Lib.hid (by rw [hX]; rfl)
        have YL : Hid (Y.length = 4) := Lib.hid (by rw [hY]; rfl)
        rw [← hX] at UK HR HC
        rw [← hY] at UC HC
        obtain ⟨vk, hvk⟩ : ∃ X, X = clV k := ⟨_, rfl⟩
        rw [← hvk] at CK UC
        clear hX hY hvk c1 c2 LC OFF hu
        go_wp2_with fail
        refine (UK.out _).mono ?_
        rintro e w21 ⟨A21, c21, rfl, ho, hb⟩
        have BB := Lib.hid (below_up BB.out hb BB.out.size)
        have U := Lib.hid (ho.ints (by rw [XL.out]; decide))
        clear ho hb
        go_wp2_with fail
        refine (CK.out _).mono ?_
        rintro e w22 ⟨rfl, hb⟩
        have BB := Lib.hid (below_up BB.out hb BB.out.size)
        have U := Lib.hid ((U.out.below hb (Nat.le_refl _)).mono hb.size)
        clear hb
        go_wp2_with fail
        refine (UC.out _).mono ?_
        rintro e w23 ⟨A23, c23, rfl, ho, hb⟩
        have BB := Lib.hid (below_up BB.out hb BB.out.size)
        have U := Lib.hid ((U.out.below hb (Nat.le_refl _)).mono hb.size)
        have V := Lib.hid (ho.ints (by rw [YL.out]; decide))
        clear ho hb
        go_wp2
        go_loopw [21] (fun i wr => ∃ j : Nat, j ≤ 4 ∧ i = .int .i64 j ∧ Below w23.heap.size w23 wr) (fun i _ => 4 - (intOf i).toNat)
        case atStart => exact ⟨0, Nat.zero_le _, rfl, Below.refl _ _⟩
        case round =>
          obtain ⟨j, hj, rfl, hbel⟩ := hrel
          have U := Lib.hid ((U.out.below hbel (Nat.le_refl _)).mono hbel.size)
          have V := Lib.hid ((V.out.below hbel (Nat.le_refl _)).mono hbel.size)
          have BR := Lib.hid hbel.drew; have BE := Lib.hid (below_up BB.out hbel BB.out.size)
          clear hbel
          by_cases hlt : j < 4
          · have d1 : decide ((j : Int) < 4) = true := by simp; omega
            obtain ⟨b1, o1, rfl, hb1, hc1⟩ := U.out.at j (by rw [XL.out]; exact hlt)
            obtain ⟨b2, o2, rfl, hb2, hc2⟩ := V.out.at j (by rw [YL.out]; exact hlt)
            have cu := hc1 j (by rw [XL.out]; exact hlt)
            have cv := hc2 j (by rw [YL.out]; exact hlt)
            have hcl := HC.out j hlt
            have hrr := HR.out j hlt
            rw [hcl] at cv
            obtain ⟨x, hx⟩ : ∃ x, x = X.getD j 0 := ⟨_, rfl⟩
            rw [← hx] at cu cv hrr
            have hp1 : IntKind.i64.wrap (x - 1024) = x - 1024 := IntWalk.i64_in _ (by omega)
            obtain ⟨y, hm1⟩ : ∃ y : Int, (if x - 1024 < 255 then x - 1024 else (255 : Int)) = y := ⟨_, rfl⟩
            have hm2 : min 255 (x - 1024) = y := by rw [← hm1]; split <;> omega
            have hm3 : (if 255 < x - 1024 then (255 : Int) else x - 1024) = y := by rw [← hm1]; split <;> split <;> omega
            have hy1 : max 0 y = clipV (x - 1024) := by unfold clipV; rw [hm2]
            have hy2 : (if (0 : Int) < y then y else 0) = clipV (x - 1024) := by rw [← hy1]; split <;> omega
            have hy3 : (if y < (0 : Int) then 0 else y) = clipV (x - 1024) := by rw [← hy1]; split <;> omega
            obtain ⟨z, hz⟩ : ∃ z, z = clipV (x - 1024) := ⟨_, rfl⟩
            rw [← hz] at cv hy1 hy2 hy3
            have hzz : (z != z) = false := by simp
            clear hc1 hc2 hx hcl hz
            go_wp2
            go_region
            go_wp2
            go_roundw
            case rel => exact ⟨j + 1, by omega, by go_num, BR.out⟩
            case measure => simp [intOf]; omega
          · obtain rfl : j = 4 := by omega
            go_wp2
            go_ret
            exact ⟨rfl, BE.out⟩
      | false =>
        rw [OFF.out hu] at UK
        obtain ⟨vk, hvk⟩ : ∃ X, X = clV k := ⟨_, rfl⟩
        rw [← hvk] at CK UC
        obtain ⟨Y, hY⟩ : ∃ X, X = upL vk := ⟨_, rfl⟩
        rw [← hY] at UC
        clear hY hvk LC OFF hu
        go_wp2_with fail
        refine (UK.out _).mono ?_
        rintro e w21 ⟨A21, c21, rfl, ho, hb⟩
        have BB := Lib.hid (below_up BB.out hb BB.out.size)
        clear ho hb
        go_wp2_with fail
        refine (CK.out _).mono ?_
        rintro e w22 ⟨rfl, hb⟩
        have BB := Lib.hid (below_up BB.out hb BB.out.size)
        clear hb
        go_wp2_with fail
        refine (UC.out _).mono ?_
        rintro e w23 ⟨A23, c23, rfl, ho, hb⟩
        have BB := Lib.hid (below_up BB.out hb BB.out.size)
        clear ho hb
        go_wp2
        refine wp_loop_rounds 1 ?_
        rw [rounds_succ]
        go_wp2
        go_ret
        exact ⟨rfl, BB.out⟩
end Go.Proofs.Ytbiffijjmhpkpaa
