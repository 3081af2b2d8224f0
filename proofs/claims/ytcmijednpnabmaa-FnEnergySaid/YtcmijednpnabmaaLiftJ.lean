/-
  The walk of the law FnLifts. No condition.
-/
import Derived.Test.YtcmijednpnabmaaLiftB
import Derived.Test.YtcmijednpnabmaaLiftE
import Derived.Test.YtcmijednpnabmaaLiftG
import Derived.Test.YtcmijednpnabmaaFormB
import Derived.Test.YtcmijednpnabmaaFormF
import Derived.Test.YtcmijednpnabmaaFormG
import Derived.Test.YtcmijednpnabmaaMatS
import Derived.Deep.RegionHeld3
namespace Go.Proofs.Ytcmijednpnabmaa
open Go.RowKit
set_option linter.unusedVariables false

theorem snoc_bound {p : List Int} {j : Nat} {x lo hi : Int} (hp : p.length = j) (h : ∀ t, t < j → lo ≤ p.getD t 0 ∧ p.getD t 0 ≤ hi) (h1 : lo ≤ x) (h2 : x ≤ hi) : ∀ t, t < j + 1 → lo ≤ (p ++ [x]).getD t 0 ∧ (p ++ [x]).getD t 0 ≤ hi := by
  intro t ht
  by_cases e : t = j
  · subst e
    rw [List.getD_eq_getElem?_getD, List.getElem?_append_right (by omega), hp, Nat.sub_self]
    exact ⟨h1, h2⟩
  · rw [List.getD_eq_getElem?_getD, List.getElem?_append_left (by omega), ← List.getD_eq_getElem?_getD]
    exact h t (by omega)

set_option maxRecDepth 100000 in
set_option maxHeartbeats 4000000 in
theorem l13row_8 (A : Option Addr) (cap : Nat) (zs : List Int) (w0 w : World) (g : Nat) (h : Dw g A cap zs w0 w) :
    Calls Try.prog 52 #[.pointer (some ⟨g, 0, none⟩), .int .i64 8] w fun e w' => ∃ (l : List Int) (A' : Option Addr) (c : Nat), e = .returned (.slice A' l.length c) ∧ l.length ≤ 8 ∧ (∀ t, t < l.length → -1000 ≤ l.getD t 0 ∧ l.getD t 0 ≤ 1000) ∧ Ints w' w'.heap.size A' l ∧ Dw g A cap zs w0 w' := by
  obtain ⟨i0, hii, hz0, hz1, hz2⟩ := info_parts Try.iinfo
  have hgw : g < w.heap.size := h.lt
  have hs0 : w0.heap.size ≤ w.heap.size := h.size
  have BC := Lib.hid below_ex; have OC := Lib.hid once_ex
  have O0 := Lib.hid (own_ints w w.heap.size [] (Nat.le_refl _) (by simp))
  have D0 := Lib.hid (h.alloc (.cells (ivs []).toArray 3))
  clear h
  go_enter Try.func52, Try.ntmps52
  go_wp2
  go_loopw [5] (fun v wr => ∃ (j : Nat) (p : List Int), j ≤ 8 ∧ p.length = j ∧ (∀ t, t < j → -1000 ≤ p.getD t 0 ∧ p.getD t 0 ≤ 1000) ∧ wr.ownsRow w.heap.size 3 1 v j (ivs p) ∧ w.heap.size ≤ wr.heap.size ∧ Dw g A cap zs w0 wr)
    (fun v _ => 8 - lenOf v)
  case atStart => exact ⟨0, [], Nat.zero_le _, rfl, fun t ht => absurd ht (by omega), O0.out, by simp, D0.out⟩
  case round =>
    obtain ⟨j, p, hj, hpl, hpr, hown, hsz, hD⟩ := hrel
    obtain ⟨Av, cv, rfl⟩ := own_form2 hown
    have HPL := Lib.hid hpl; have HPR := Lib.hid hpr; have HD := Lib.hid hD; have HO := Lib.hid hown; have HS := Lib.hid hsz
    clear hpl hpr hown hsz hD
    by_cases hlt : j < 8
    · have d1 : decide ((j : Int) < 8) = true := by simp; omega
      go_wp2_with fail
      refine (BC.out 2001 _ _ _ _ _ _ HD.out).mono ?_
      rintro e w1 ⟨x, rfl, hx, -, hD1, hg1⟩
      have hx1 := hx (by decide)
      have D1 := Lib.hid hD1; have O1 := own_dw HO.out hg1 hgw; have S1 : w.heap.size ≤ w1.heap.size := Nat.le_trans HS.out hg1.size
      clear hx hD1 hg1
      go_wp2_with (at_builtin; refine append_int w1 rfl (.tmp 11) (.tmp 15) 22 rfl w.heap.size 3 i0 Try.underlying22 hii hz0 hz1 hz2 _ _ _ rfl O1 _ rfl rfl (by omega) S1 ?_; intro v' w' hown' hgr hvb)
      have hgr : World.grownBy w1 w' (Value.slice Av j cv).ownBlock := hgr
      have D4 := Lib.hid (D1.out.grown hgr fun k hk => by have := (O1.lt k hk).1; omega)
      have O4 := Lib.hid hown'
      have S4 := Lib.hid (Nat.le_trans S1 hgr.size)
      have R4 := Lib.hid (snoc_bound HPL.out HPR.out (show (-1000 : Int) ≤ (x : Int) - 1000 by omega) (show (x : Int) - 1000 ≤ 1000 by omega))
      obtain ⟨Av2, cv2, hv2⟩ := own_form2 hown'
      clear hvb hown' hgr O1 S1
      subst hv2
      go_roundw
      case rel => exact ⟨j + 1, p ++ [(x : Int) - 1000], by omega, by rw [List.length_append, HPL.out]; rfl, R4.out, O4.out, S4.out, D4.out⟩
      case measure => simp [lenOf]; omega
    · obtain rfl : j = 8 := by omega
      obtain ⟨b, rfl, hbw, hbs, hnc, hcm, hcells⟩ := own_where HO.out HPL.out (by decide)
      go_wp2_with fail
      refine (OC.out 12 _ _ _ _ _ _ HD.out).mono ?_
      rintro e w1 ⟨x, rfl, hD1, hg1⟩
      have D1 := Lib.hid hD1; have O1 := Lib.hid (own_dw HO.out hg1 hgw)
      clear hD1 hg1 hcells
      unfold maxLen at hcm
      obtain ⟨b2, hb2, -, hbs2, -, -, hcells⟩ := own_where O1.out HPL.out (by decide)
      obtain rfl : b = b2 := by injection hb2 with h; injection h
      have I1 := Lib.hid (ints_drop hbs2 HPL.out (by decide) hcells 1); have I0 := Lib.hid (ints_drop hbs2 HPL.out (by decide) hcells 0)
      clear hcells hb2
      cases x with
      | true =>
        go_wp2
        go_ret
        exact ⟨p.drop 1, _, _, by rw [List.length_drop, HPL.out]; rfl, by rw [List.length_drop, HPL.out]; decide, fun t ht => by rw [List.length_drop, HPL.out] at ht; rw [List.getD_eq_getElem?_getD, List.getElem?_drop, ← List.getD_eq_getElem?_getD]; exact HPR.out (1 + t) (by omega), I1.out, D1.out⟩
      | false =>
        go_wp2
        go_ret
        exact ⟨p, _, _, by rw [HPL.out]; rfl, by rw [HPL.out]; decide, fun t ht => HPR.out t (by have := HPL.out; omega), I0.out, D1.out⟩

set_option maxRecDepth 100000 in
set_option maxHeartbeats 1000000 in
theorem drawlift8_ex (A : Option Addr) (cap : Nat) (zs : List Int) (w : World) (hW : Code w A zs) :
    Calls Try.prog 34 #[.slice A zs.length cap] w fun e w' => ∃ (l : List Int) (A' : Option Addr) (c : Nat), e = .returned (.slice A' l.length c) ∧ l.length ≤ 8 ∧ (∀ t, t < l.length → -1000 ≤ l.getD t 0 ∧ l.getD t 0 ≤ 1000) ∧ Ints w' w'.heap.size A' l ∧ Below w.heap.size w w' := by
  have HN := Lib.hid (new_ex A cap zs w hW)
  have HL := Lib.hid fun w0 w g h => l13row_8 A cap zs w0 w g h
  clear hW
  go_enter Try.func34, Try.ntmps34
  go_wp2_with fail
  refine HN.out.mono ?_
  rintro e w1 ⟨rfl, hD1, hb1⟩
  have B1 := Lib.hid hb1; have D1 := Lib.hid hD1; clear hb1 hD1
  go_wp2_with fail
  refine (HL.out _ _ _ D1.out).mono ?_
  rintro e w2 ⟨l, A2, c2, rfl, hl, hlr, hI, hD2⟩
  have B2 := Lib.hid (B1.out.trans (hD2.belowOf (Nat.le_refl _) B1.out.size))
  have I2 := Lib.hid hI; have R2 := Lib.hid hlr
  clear hI hD2 hlr
  go_wp2
  go_ret
  exact ⟨l, A2, c2, rfl, hl, R2.out, I2.out, B2.out⟩

set_option maxRecDepth 100000 in
set_option maxHeartbeats 1000000 in
theorem drawcolumns_ex (A : Option Addr) (cap : Nat) (zs : List Int) (w : World) (hW : Code w A zs) :
    Calls Try.prog 35 #[.slice A zs.length cap] w fun e w' => ∃ (l : List Int) (A' : Option Addr) (c : Nat), e = .returned (.slice A' l.length c) ∧ l.length ≤ 64 ∧ Ints w' w'.heap.size A' l ∧ Below w.heap.size w w' := by
  have HN := Lib.hid (new_any A cap zs hW.few hW.bytes w hW.lies)
  clear hW
  go_enter Try.func35, Try.ntmps35
  go_wp2_with fail
  refine HN.out.mono ?_
  rintro e w1 ⟨rfl, hC1, hb1⟩
  have B1 := Lib.hid hb1; have G1 := Lib.hid hC1; clear hb1 hC1
  go_wp2_with fail
  refine (l9square_ex 90 (by decide) A cap zs 0 _ (Nat.zero_le _) _ _ G1.out).mono ?_
  rintro e w2 hout
  obtain ⟨l, A2, c2, i2, h2, rfl, hl6, -, hI2, -, -, hg2⟩ := hout
  have hl64 : l.length ≤ 64 := by omega
  have B2 := Lib.hid (B1.out.trans (grown_below hg2 (Nat.le_refl _) B1.out.size))
  have I2 := Lib.hid (hI2.ints (by omega))
  clear hg2 hI2 hl6
  go_wp2
  go_ret
  exact ⟨l, A2, c2, rfl, hl64, I2.out, B2.out⟩

/-- Lifted twice. -/
theorem twice_eight {l : List Int} (hl : l.length = 8) (h : ∀ t, t < 8 → -1000 ≤ l.getD t 0 ∧ l.getD t 0 ≤ 1000) : (liR 8 (liR 8 l)).length = 8 ∧ ∀ t, t < 8 → (liR 8 (liR 8 l)).getD t 0 = 8 * l.getD t 0 := by
  have h1 : liR 8 l = liftL 8 l := liR_small (by decide) hl fun i hi => by have := h i hi; omega
  have h2 : liR 8 (liftL 8 l) = liftL 8 (liftL 8 l) := liR_small (by decide) (liftL_len 8 l) fun i hi => by
    have := lift_bound (n := 8) (by decide) (a := l) (B := 1000) (by decide) h hi
    omega
  rw [h1, h2]
  exact ⟨liftL_len 8 _, fun t ht => lift_lift hl ht⟩
theorem twice_not {l : List Int} (hl : l.length ≠ 8) : liR 8 (liR 8 l) = [] := by rw [liR_no hl, liR_no (by decide)]
theorem clR_not {l : List Int} (h1 : l.length ≠ 16) (h2 : l.length ≠ 64) : clR (clR l) = [] := by rw [clR_no h1 h2, clR_no (by decide) (by decide)]

set_option maxRecDepth 100000 in
set_option maxHeartbeats 8000000 in
/-- The law's own walk. -/
theorem fnLifts_walk (a : Option Addr) (len cap : Nat) (zs : List Int) (w : World) (hr : IsRow .u8 w a len cap zs) :
    Calls Try.prog 9 #[.slice a len cap] w fun e w' => e = .returned (.bool true) ∧ Below w.heap.size w w' := by
  have hlm := hr.len_le
  unfold maxLen at hlm
  by_cases hbig : 1048576 < len
  · have BG := Lib.hid (big_any a len cap hlm)
    have hb : decide (1048576 < (len : Int)) = true := decide_eq_true (by omega)
    rw [hb] at BG
    clear hr hlm hbig hb
    go_enter Try.func9, Try.ntmps9
    go_wp2_with fail
    refine (BG.out _).mono ?_
    rintro e w1 ⟨rfl, hw⟩
    subst hw
    go_wp2
    go_ret
    exact ⟨rfl, Below.refl _ _⟩
  · have hbigF : decide (1048576 < (len : Int)) = false := decide_eq_false (by omega)
    obtain ⟨ys, rfl, hW⟩ := code_of hr (by omega)
    have BG := Lib.hid (big_any a ys.length cap hlm)
    rw [hbigF] at BG
    have DL := Lib.hid (drawlift8_ex a cap ys w hW)
    have DC := Lib.hid fun w hW => drawcolumns_ex a cap ys w hW
    have HW := Lib.hid hW
    have L8 := Lib.hid @impl_lift8_any; have CO := Lib.hid @impl_columns_any; have SI := Lib.hid @sameints_any
    clear hr hbig hbigF hlm hW
    go_enter Try.func9, Try.ntmps9
    go_wp2_with fail
    refine (BG.out _).mono ?_
    rintro e w1 ⟨rfl, hw⟩
    subst hw
    go_wp2_with fail
    refine (DL.out).mono ?_
    rintro e w_1 ⟨l, A_L, c_L, rfl, hl8, hlr, hIL, hb⟩
    have BB := Lib.hid hb
    have L := Lib.hid hIL
    have T1 := Lib.hid (@twice_eight l); have T2 := Lib.hid (@twice_not l)
    have L8a := Lib.hid fun A c w h => L8.out A c l w h; have L8b := Lib.hid fun A c w h => L8.out A c (liR 8 l) w h
    have hx1 := liR_len (n := 8) l (by decide); have hx2 := liR_len (n := 8) (liR 8 l) (by decide)
    obtain ⟨X2, hX2⟩ : ∃ X, X = liR 8 (liR 8 l) := ⟨_, rfl⟩
    rw [← hX2] at T1 T2 L8b hx2
    obtain ⟨X1, hX1⟩ : ∃ X, X = liR 8 l := ⟨_, rfl⟩
    rw [← hX1] at L8a L8b hx1
    have LR := Lib.hid hlr
    obtain ⟨nl, hnl⟩ : ∃ n, n = l.length := ⟨_, rfl⟩
    have HNL := Lib.hid hnl
    rw [← hnl] at L8a ⊢
    obtain ⟨n1, hn1⟩ : ∃ n, n = X1.length := ⟨_, rfl⟩
    rw [← hn1] at L8a L8b
    have HN1 := Lib.hid hn1
    obtain ⟨n2, hn2⟩ : ∃ n, n = X2.length := ⟨_, rfl⟩
    rw [← hn2] at L8b
    have HN2 := Lib.hid hn2
    clear hX1 hX2 hlr hnl hn1 hn2
    clear hb hIL
    go_wp2_with fail
    refine (L8a.out _ _ _ L.out).mono ?_
    rintro e w_2 ⟨A_X1v, c_X1v, rfl, ho, hb⟩
    have L := Lib.hid ((L.out.below hb (Nat.le_refl _)).mono hb.size)
    have BB := Lib.hid (below_up BB.out hb BB.out.size)
    have X1v := Lib.hid (ho.ints (by omega))
    clear ho hb
    go_wp2_with fail
    refine (L8b.out _ _ _ X1v.out).mono ?_
    rintro e w_3 ⟨A_X2v, c_X2v, rfl, ho, hb⟩
    have L := Lib.hid ((L.out.below hb (Nat.le_refl _)).mono hb.size)
    have X1v := Lib.hid ((X1v.out.below hb (Nat.le_refl _)).mono hb.size)
    have BB := Lib.hid (below_up BB.out hb BB.out.size)
    have X2v := Lib.hid (ho.ints (by omega))
    clear ho hb
    clear X1v
    go_wp2_with fail
    refine (DC.out _ (HW.out.below BB.out)).mono ?_
    rintro e w_4 ⟨cc, A_C, c_C, rfl, hc64, hIC, hb⟩
    have L := Lib.hid ((L.out.below hb (Nat.le_refl _)).mono hb.size)
    have X2v := Lib.hid ((X2v.out.below hb (Nat.le_refl _)).mono hb.size)
    have BB := Lib.hid (below_up BB.out hb BB.out.size)
    have C := Lib.hid hIC
    have COa := Lib.hid fun A c w h => CO.out A c cc w h; have COb := Lib.hid fun A c w h => CO.out A c (clR cc) w h
    have U1 := Lib.hid (@clR_clR cc); have U2 := Lib.hid (@clR_not cc)
    have hy1 := clR_len cc; have hy2 := clR_len (clR cc)
    obtain ⟨Y2, hY2⟩ : ∃ X, X = clR (clR cc) := ⟨_, rfl⟩
    rw [← hY2] at U1 U2 COb hy2
    obtain ⟨Y1, hY1⟩ : ∃ X, X = clR cc := ⟨_, rfl⟩
    rw [← hY1] at COa COb hy1
    have SX := Lib.hid fun A B ca cb w hA hB => SI.out A B ca cb Y2 cc w hA hB
    obtain ⟨nc, hnc⟩ : ∃ n, n = cc.length := ⟨_, rfl⟩
    have HNC := Lib.hid hnc
    rw [← hnc] at COa SX ⊢
    obtain ⟨m1, hm1⟩ : ∃ n, n = Y1.length := ⟨_, rfl⟩
    rw [← hm1] at COa COb
    have HM1 := Lib.hid hm1
    obtain ⟨m2, hm2⟩ : ∃ n, n = Y2.length := ⟨_, rfl⟩
    rw [← hm2] at COb SX
    have HM2 := Lib.hid hm2
    clear hY1 hY2 hnc hm1 hm2
    clear hb hIC
    go_wp2_with fail
    refine (COa.out _ _ _ C.out).mono ?_
    rintro e w_5 ⟨A_Y1v, c_Y1v, rfl, ho, hb⟩
    have L := Lib.hid ((L.out.below hb (Nat.le_refl _)).mono hb.size)
    have X2v := Lib.hid ((X2v.out.below hb (Nat.le_refl _)).mono hb.size)
    have C := Lib.hid ((C.out.below hb (Nat.le_refl _)).mono hb.size)
    have BB := Lib.hid (below_up BB.out hb BB.out.size)
    have Y1v := Lib.hid (ho.ints (by omega))
    clear ho hb
    go_wp2_with fail
    refine (COb.out _ _ _ Y1v.out).mono ?_
    rintro e w_6 ⟨A_Y2v, c_Y2v, rfl, ho, hb⟩
    have L := Lib.hid ((L.out.below hb (Nat.le_refl _)).mono hb.size)
    have X2v := Lib.hid ((X2v.out.below hb (Nat.le_refl _)).mono hb.size)
    have C := Lib.hid ((C.out.below hb (Nat.le_refl _)).mono hb.size)
    have Y1v := Lib.hid ((Y1v.out.below hb (Nat.le_refl _)).mono hb.size)
    have BB := Lib.hid (below_up BB.out hb BB.out.size)
    have Y2v := Lib.hid (ho.ints (by omega))
    clear ho hb
    clear Y1v
    have BL := Lib.hid BB.out
    by_cases hl : nl = 8
    · subst hl
      have T := T1.out HNL.out.symm fun t ht => LR.out t (by rw [← HNL.out]; exact ht)
      obtain rfl : n2 = 8 := HN2.out.trans T.1
      have TT := Lib.hid T.2
      have TL := Lib.hid T.1
      clear T T1 T2
      go_wp2
      go_loopw [7] (fun i wr => ∃ k : Nat, k ≤ 8 ∧ i = .int .i64 k ∧ Below w_6.heap.size w_6 wr) (fun i _ => 8 - (intOf i).toNat)
      case atStart => exact ⟨0, Nat.zero_le _, rfl, Below.refl _ _⟩
      case round =>
        obtain ⟨k, hk, rfl, hbel⟩ := hrel
        have L := Lib.hid ((L.out.below hbel (Nat.le_refl _)).mono hbel.size); have X2v := Lib.hid ((X2v.out.below hbel (Nat.le_refl _)).mono hbel.size)
        have C := Lib.hid ((C.out.below hbel (Nat.le_refl _)).mono hbel.size); have Y2v := Lib.hid ((Y2v.out.below hbel (Nat.le_refl _)).mono hbel.size)
        have BR := Lib.hid hbel.drew; have BE := Lib.hid (below_up BL.out hbel BL.out.size)
        clear hbel
        by_cases hlt : k < 8
        · have d1 : decide ((k : Int) < 8) = true := by simp; omega
          obtain ⟨b1, o1, rfl, hb1, hc1⟩ := L.out.at k (by rw [← HNL.out]; exact hlt)
          obtain ⟨b2, o2, rfl, hb2, hc2⟩ := X2v.out.at k (by rw [TL.out]; exact hlt)
          have cl := hc1 k (by rw [← HNL.out]; exact hlt)
          have cx := hc2 k (by rw [TL.out]; exact hlt)
          have ht := TT.out k hlt
          have hlr := LR.out k (by rw [← HNL.out]; exact hlt)
          obtain ⟨x, hx⟩ : ∃ x, x = l.getD k 0 := ⟨_, rfl⟩
          rw [← hx] at cl ht hlr
          rw [ht] at cx
          have hp1 : IntKind.i64.wrap (8 * x) = 8 * x := IntWalk.i64_in _ (by omega)
          clear hc1 hc2 hx ht
          go_wp2
          go_region
          go_wp2
          go_roundw
          case rel => exact ⟨k + 1, by omega, by go_num, BR.out⟩
          case measure => simp [intOf]; omega
        · obtain rfl : k = 8 := by omega
          by_cases h16 : nc = 16
          · subst h16
            have U := U1.out (.inl HNC.out.symm)
            subst U
            obtain rfl : m2 = 16 := HM2.out.trans HNC.out.symm
            have SY := SX
            rw [decide_eq_true rfl] at SY
            go_wp2_with fail
            refine (SY.out _ _ _ _ _ Y2v.out C.out).mono ?_
            rintro e w_7 ⟨rfl, hb⟩
            have BF := Lib.hid (below_up BE.out hb BE.out.size)
            clear hb
            go_wp2
            go_ret
            exact ⟨rfl, BF.out⟩
          · by_cases h64 : nc = 64
            · subst h64
              have U := U1.out (.inr HNC.out.symm)
              subst U
              obtain rfl : m2 = 64 := HM2.out.trans HNC.out.symm
              have SY := SX
              rw [decide_eq_true rfl] at SY
              go_wp2_with fail
              refine (SY.out _ _ _ _ _ Y2v.out C.out).mono ?_
              rintro e w_7 ⟨rfl, hb⟩
              have BF := Lib.hid (below_up BE.out hb BE.out.size)
              clear hb
              go_wp2
              go_ret
              exact ⟨rfl, BF.out⟩
            · have U := U2.out (by rw [← HNC.out]; exact h16) (by rw [← HNC.out]; exact h64)
              obtain rfl : m2 = 0 := by rw [HM2.out, U]; rfl
              have q16 : ((nc : Int) != 16) = true := by rw [bne_iff_ne]; omega
              have q64 : ((nc : Int) != 64) = true := by rw [bne_iff_ne]; omega
              clear U
              go_wp2
              go_ret
              exact ⟨rfl, BE.out⟩
    · have T := T2.out (by rw [← HNL.out]; exact hl)
      obtain rfl : n2 = 0 := by rw [HN2.out, T]; rfl
      have q8 : ((nl : Int) != 8) = true := by rw [bne_iff_ne]; omega
      clear T
      go_wp2
      go_ret
      exact ⟨rfl, BL.out⟩
end Go.Proofs.Ytcmijednpnabmaa
