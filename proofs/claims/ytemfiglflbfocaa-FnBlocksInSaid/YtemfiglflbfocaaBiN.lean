/-
  The walk of the law FnBlocksIn, over the contracts of the program's functions as premises. No condition.
-/
import Derived.Test.YtemfiglflbfocaaFdD
import Derived.Test.YtemfiglflbfocaaFrS
import Derived.Test.YtemfiglflbfocaaFrP
import Derived.Test.YtemfiglflbfocaaK7
import Derived.RegionTactic
import Derived.BigRegion
import Derived.BigQuiet
import Derived.Deep.QuietTactic
import Derived.Deep.Cut
import Derived.Deep.DeepCutAuto
import Derived.Deep.RegionHeld3
namespace Go.Proofs.Ytemfiglflbfocaa
open Go.RowKit
set_option linter.unusedVariables false

set_option maxRecDepth 100000 in
set_option maxHeartbeats 8000000 in
/-- The law's own walk. -/
theorem fnBlocksIn_walk_of (a0 : Option Addr) (len cap : Nat) (zs : List Int) (IS : ∀ (A : Option Addr) (cA : Nat) (l : List Int) (p0 p1 x y : Int) (M : Option Addr) (cM : Nat) (m : List Int) (hl : l.length ≤ 1048576) (hP : Placed A cA) (hcM : m.length ≤ cM) (w : World) (hA : Ints w w.heap.size A l) (hM : Ints w w.heap.size M m), Calls Try.prog 14 #[.agg #[.int .i64 p0, .int .i64 p1, .slice A l.length cA], .int .i64 x, .int .i64 y, .slice M m.length cM] w fun e w' => ∃ A' c', e = .returned (.tuple #[.agg #[.int .i64 p0, .int .i64 p1, .slice A' (sbL p0 p1 l x y m).length c'], .bool (sbE p0 p1 l x y m)]) ∧ OwnI w' w.heap.size A' c' (sbL p0 p1 l x y m) ∧ Below w.heap.size w w') (IB : ∀ (a b : Int) (A : Option Addr) (ca : Nat) (l : List Int) (x y n : Int) (w : World) (hA : Ints w w.heap.size A l) (hca : l.length ≤ ca), Calls Try.prog 18 #[.agg #[.int .i64 a, .int .i64 b, .slice A l.length ca], .int .i64 x, .int .i64 y, .int .i64 n] w fun e w' => ∃ A' c, e = .returned (.slice A' (blkL a b l x y n).length c) ∧ OwnI w' w.heap.size A' c (blkL a b l x y n) ∧ Below w.heap.size w w') (IK : ∀ (a b : Int) (A : Option Addr) (ca : Nat) (l : List Int) (w : World) (hA : Ints w w.heap.size A l), Calls Try.prog 19 #[.agg #[.int .i64 a, .int .i64 b, .slice A l.length ca]] w fun e w' => e = .returned (.bool (frameE a b l)) ∧ Below w.heap.size w w') (IF : ∀ (A : Option Addr) (cA : Nat) (l : List Int) (a b : Int) (B : Option Addr) (cB : Nat) (m : List Int) (a2 b2 : Int) (hl : l.length ≤ 1048576) (w : World) (hA : Ints w w.heap.size A l) (hB : Ints w w.heap.size B m), Calls Try.prog 20 #[.agg #[.int .i64 a, .int .i64 b, .slice A l.length cA], .agg #[.int .i64 a2, .int .i64 b2, .slice B m.length cB]] w fun e w' => e = .returned (.bool (sfE a b l a2 b2 m)) ∧ Below w.heap.size w w') (w : World) (hr : IsRow .u8 w a0 len cap zs) :
    Calls Try.prog 3 #[.slice a0 len cap] w fun e w' => e = .returned (.bool true) ∧ Below w.heap.size w w' := by
  obtain ⟨i0, hii, hz0, hz1, hz2⟩ := info_parts Try.iinfo
  have hlm := hr.len_le
  unfold maxLen at hlm
  by_cases hbig : 1048576 < len
  · have BG := Lib.hid (big_any a0 len cap (by omega))
    have hb : decide (1048576 < (len : Int)) = true := decide_eq_true (by omega)
    rw [hb] at BG
    clear hr hlm hbig hb IS IB IK IF
    go_enter Try.func3, Try.ntmps3
    go_wp2_with fail
    refine (BG.out _).mono ?_
    rintro e w1 ⟨rfl, hw⟩
    subst hw
    go_wp2
    go_ret
    exact ⟨rfl, Below.refl _ _⟩
  · have hbigF : decide (1048576 < (len : Int)) = false := decide_eq_false (by omega)
    obtain ⟨ys, rfl, hW⟩ := code_of hr (by omega)
    have BG := Lib.hid (big_any a0 ys.length cap hlm)
    rw [hbigF] at BG
    have HW := Lib.hid hW
    have DS := Lib.hid (drawsetblock_ex a0 cap ys w hW)
    have SI := Lib.hid @sameints_any; have ISH := Lib.hid IS; have IBH := Lib.hid IB; have IKH := Lib.hid IK; have IFH := Lib.hid IF
    have SSH := Lib.hid spec_setblock_any; have SFH := Lib.hid spec_sameframe_any
    clear IS IB IK IF
    clear hr hbig hbigF hlm hW
    go_enter Try.func3, Try.ntmps3
    go_wp2_with fail
    refine (BG.out _).mono ?_
    rintro e w1 ⟨rfl, hw⟩
    subst hw
    go_wp2_with fail
    refine DS.out.mono ?_
    rintro e w2 ⟨a, b, l, TA, c, x, y, m, MA, cm, rfl, ha, hb, hx, hy, hI, hc, hl, hM, hcm, hm, hbw⟩
    have hP : Placed TA c := by
      obtain ⟨q, o, rfl, _⟩ := hI.at 0 hl.1
      intro h; cases h
    have ISX := Lib.hid fun w h1 h2 => ISH.out TA c l a b x y MA cm m (by omega) hP hcm w h1 h2
    have SSX := Lib.hid fun w h1 h2 => SSH.out TA c l a b x y MA cm m (by omega) hP w h1 h2
    have hgl := sbL_len a b l x y m
    obtain ⟨G, hG⟩ : ∃ G, G = sbL a b l x y m := ⟨_, rfl⟩
    obtain ⟨ok, hok⟩ : ∃ ok, ok = sbE a b l x y m := ⟨_, rfl⟩
    rw [← hG, ← hok] at ISX SSX
    rw [← hG] at hgl
    rw [hgl] at ISX SSX
    have HG := Lib.hid hG; have HOK := Lib.hid hok; have HGL := Lib.hid hgl
    have HL := Lib.hid hl; have HMl := Lib.hid hm
    -- the frame's block
    have hb3 := below_new w2 (.cells #[.int .i64 a, .int .i64 b, .slice TA l.length c] 26)
    have hk3 := heap_alloc_new w2 (.cells #[.int .i64 a, .int .i64 b, .slice TA l.length c] 26)
    obtain ⟨w3, hw3⟩ : ∃ w3, w3 = w2.alloc (.cells #[.int .i64 a, .int .i64 b, .slice TA l.length c] 26) := ⟨_, rfl⟩
    obtain ⟨fb, hfb⟩ : ∃ fb, fb = w2.heap.size := ⟨_, rfl⟩
    rw [← hw3, ← hfb] at hk3
    rw [← hw3] at hb3
    have BW3 : Hid (Below w.heap.size w w3) := Lib.hid (below_up hbw hb3 hbw.size)
    have SB3 : Hid (∀ wx, Below w3.heap.size w3 wx → wx.heap[fb]? = some (.cells #[.int .i64 a, .int .i64 b, .slice TA l.length c] 26 (0, 0)) ∧ Ints wx wx.heap.size TA l ∧ Ints wx wx.heap.size MA m) := Lib.hid fun wx h => by
      have q := below_up hb3 h hb3.size
      exact ⟨(h.block fb (heap_lt hk3)).trans hk3, (hI.below q (Nat.le_refl _)).mono q.size, (hM.below q (Nat.le_refl _)).mono q.size⟩
    have HW3 := Lib.hid hw3; have HFB := Lib.hid hfb
    have C3 := SB3.out w3 (Below.refl _ _)
    have J1 := Lib.hid C3.2.1; have J2 := Lib.hid C3.2.2; have hfbl := heap_lt C3.1
    clear hbw hI hM hG hok hgl hk3 hb3 hw3 hfb C3 DS hP
    go_wp2_with fail
    rw [← HW3.out, ← HFB.out]
    refine (ISX.out _ J1.out J2.out).mono ?_
    rintro e w4 ⟨GA, cG, rfl, hoG, hb4⟩
    -- the block of what is answered
    obtain ⟨N, hN⟩ : ∃ N, N = l.length := ⟨_, rfl⟩
    rw [← hN] at SSX ⊢
    have HN := Lib.hid hN
    have hk5 := heap_alloc_new w4 (.cells #[.int .i64 a, .int .i64 b, .slice GA N cG] 26)
    have hb5 := below_new w4 (.cells #[.int .i64 a, .int .i64 b, .slice GA N cG] 26)
    obtain ⟨w5, hw5⟩ : ∃ w5, w5 = w4.alloc (.cells #[.int .i64 a, .int .i64 b, .slice GA N cG] 26) := ⟨_, rfl⟩
    obtain ⟨gb, hgb⟩ : ∃ gb, gb = w4.heap.size := ⟨_, rfl⟩
    rw [← hw5, ← hgb] at hk5
    rw [← hw5] at hb5
    have B35 : Hid (Below w3.heap.size w3 w5) := Lib.hid (below_up hb4 hb5 hb4.size)
    have IG : Hid (Ints w5 w5.heap.size GA G) := Lib.hid (((hoG.ints (by rw [HGL.out]; omega)).below hb5 (Nat.le_refl _)).mono hb5.size)
    have CG : Hid (N ≤ cG) := Lib.hid (by have := hoG.cap_le; rw [HGL.out, ← hN] at this; exact this)
    have K5 := Lib.hid hk5
    have SB5 : Hid (∀ wx, Below w5.heap.size w5 wx → (wx.heap[fb]? = some (.cells #[.int .i64 a, .int .i64 b, .slice TA N c] 26 (0, 0)) ∧ wx.heap[gb]? = some (.cells #[.int .i64 a, .int .i64 b, .slice GA N cG] 26 (0, 0))) ∧ Ints wx wx.heap.size TA l ∧ Ints wx wx.heap.size MA m ∧ Ints wx wx.heap.size GA G) := Lib.hid fun wx h => by
      have s := SB3.out wx (below_up B35.out h B35.out.size)
      rw [← hN] at s
      exact ⟨⟨s.1, (h.block gb (heap_lt K5.out)).trans K5.out⟩, s.2.1, s.2.2, (IG.out.below h (Nat.le_refl _)).mono h.size⟩
    have HW5 := Lib.hid hw5; have HGB := Lib.hid hgb
    have C5 := SB5.out w5 (Below.refl _ _)
    have C4 := (SB3.out w4 hb4).1
    rw [← hN] at C4
    obtain ⟨c0, c1, c2⟩ := cells3 C4
    have hfb4 : fb < w4.heap.size := heap_lt C4
    clear C4
    have J3 := Lib.hid C5.2.1; have J4 := Lib.hid C5.2.2.1
    have hfgb : fb ≠ gb := by have := hb4.size; omega
    clear hoG hb4 hk5 hb5 hw5 hgb C5 hN
    go_wp2_with fail
    rw [← HW5.out, ← HGB.out]
    refine (SSX.out _ J3.out J4.out).mono ?_
    rintro e w6 ⟨HA, cH, rfl, hoH, hb6⟩
    have hb7 := hb6.trans ((below_new w6 (.cells #[.int .i64 a, .int .i64 b, .slice HA N cH] 26)).mono hb6.size)
    obtain ⟨w7, hw7⟩ : ∃ w7, w7 = w6.alloc (.cells #[.int .i64 a, .int .i64 b, .slice HA N cH] 26) := ⟨_, rfl⟩
    rw [← hw7] at hb7
    have B7 := Lib.hid hb7
    have C7 := SB5.out _ hb7
    have J5 := Lib.hid C7.2.1; have J6 := Lib.hid C7.2.2.1; have J7 := Lib.hid C7.2.2.2
    have HW7 := Lib.hid hw7
    have BB7 : Hid (Below w.heap.size w w7) := Lib.hid (below_up BW3.out (below_up B35.out hb7 B35.out.size) BW3.out.size)
    have C6 := (SB5.out w6 hb6).1
    clear c0 c1 c2
    obtain ⟨c0, c1, c2⟩ := cells3 C6.1
    obtain ⟨d0, d1, d2⟩ := cells3 C6.2
    have hfb6 : fb < w6.heap.size := heap_lt C6.1
    have hgb6 : gb < w6.heap.size := heap_lt C6.2
    clear hoH hb6 hb7 hw7 C6 C7
    cases hk : ok with
    | false =>
      have hGl : G = l := by
        have h1 := HOK.out
        rw [hk] at h1
        rw [HG.out]
        unfold sbL
        rw [if_neg (by rw [← h1]; simp)]
      have SFX := Lib.hid fun w h1 h2 => SFH.out TA c l a b GA cG G a b (by omega) w h1 h2
      have hsf : sfE a b l a b G = true := by unfold sfE; rw [hGl]; simp
      rw [hsf, HGL.out, ← HN.out] at SFX
      clear hGl hsf
      subst hk
      go_wp2_with fail
      rw [← HW7.out]
      refine (SFX.out _ J5.out J7.out).mono ?_
      rintro e w8 ⟨rfl, hb8⟩
      have B8 := Lib.hid (below_up BB7.out hb8 BB7.out.size)
      clear hb8
      go_wp2
      go_ret
      exact ⟨rfl, B8.out⟩
    | true =>
      have hsb : sbE a b l x y m = true := by rw [← HOK.out]; exact hk
      subst hk
      have hin : inE a b l x y (sideN m.length) = true := by
        simp only [sbE, Bool.and_eq_true] at hsb
        exact hsb.1
      obtain ⟨A, B, X, Y, n, rfl, rfl, rfl, rfl, hn, hn48, hXA, hYB, hA32, hB32, hA8, hB8, hlAB, -, -, -, -, -⟩ := inE_nat hin
      have hblk : blkL (A : Int) (B : Int) G (X : Int) (Y : Int) (n : Int) = m := by rw [HG.out, ← hn]; exact set_block hsb
      have hfr : frameE (A : Int) (B : Int) G = true := by rw [HG.out]; exact set_frame hsb
      have helse : ∀ i, ¬ (X ≤ i % A ∧ i % A < X + n ∧ Y ≤ i / A ∧ i / A < Y + n) → G.getD i 0 = l.getD i 0 := fun i hi => by
        rw [HG.out]
        refine set_else hsb fun h => hi ?_
        rw [hn] at h
        simp only [Int.toNat_natCast] at h
        omega
      have hsq := side_sq hn hn48
      have hsf : sfE (A : Int) (B : Int) G (A : Int) (B : Int) G = true := by unfold sfE; simp
      have EL := Lib.hid helse
      have IBX := Lib.hid fun w h1 h2 => IBH.out (A : Int) (B : Int) GA cG G (X : Int) (Y : Int) (n : Int) w h1 h2
      rw [hblk, HGL.out, ← HN.out] at IBX
      have IKX := Lib.hid fun w h1 => IKH.out (A : Int) (B : Int) GA cG G w h1
      rw [hfr, HGL.out, ← HN.out] at IKX
      have IFX := Lib.hid fun w h1 h2 => IFH.out GA cG G (A : Int) (B : Int) GA cG G (A : Int) (B : Int) (by rw [HGL.out]; omega) w h1 h2
      rw [hsf, HGL.out, ← HN.out] at IFX
      have SIX : Hid (∀ P Q ca cb w, Ints w w.heap.size P m → Ints w w.heap.size Q m → Calls Try.prog 17 #[.slice P m.length ca, .slice Q m.length cb] w fun e w' => e = .returned (.bool true) ∧ Below w.heap.size w w') := Lib.hid fun P Q ca cb w h1 h2 => by
        have := SI.out P Q ca cb m m w h1 h2
        simpa using this
      have hmb : m.length ≤ 64 := by rcases hn48 with rfl | rfl <;> omega
      have HMB := Lib.hid hmb
      have GLN : Hid (G.length = N) := Lib.hid (by rw [HGL.out, HN.out])
      have hsq64 := hsq
      clear hin hsb hblk hfr helse hsf hn hlAB hmb
      rcases hn48 with rfl | rfl
      · have q64 : ((m.length : Int) == 64) = false := by rw [hsq64]; decide
        have IBY : Hid (∀ (w : World), Ints w w.heap.size GA G → N ≤ cG → Calls Try.prog 18 #[.agg #[.int .i64 (A : Int), .int .i64 (B : Int), .slice GA N cG], .int .i64 (X : Int), .int .i64 (Y : Int), .int .i64 4] w fun e w' => ∃ A' c, e = .returned (.slice A' m.length c) ∧ OwnI w' w.heap.size A' c m ∧ Below w.heap.size w w') := IBX
        clear hsq64 IBX hsq
        go_wp2
        go_loopw [12, 13, 14] (fun x12 x13 x14 wr => ∃ i : Nat, i ≤ N ∧ x12 = .int .i64 i ∧ Below w7.heap.size w7 wr) (fun x12 _ _ _ => N - (intOf x12).toNat)
        case atStart => exact ⟨0, Nat.zero_le _, rfl, by rw [HW7.out]; exact Below.refl _ _⟩
        case round =>
          obtain ⟨i, hi, rfl, hbel⟩ := hrel
          have HBl := Lib.hid hbel
          have B7r := Lib.hid (below_up B7.out hbel B7.out.size)
          have Cr := SB5.out _ B7r.out
          clear c0 c1 c2 d0 d1 d2
          obtain ⟨c0, c1, c2⟩ := cells3 Cr.1.1
          obtain ⟨d0, d1, d2⟩ := cells3 Cr.1.2
          have JT := Lib.hid Cr.2.1; have JM := Lib.hid Cr.2.2.1; have JG := Lib.hid Cr.2.2.2
          clear Cr hbel
          by_cases hlt : i < N
          · have t1 : decide ((i : Int) < (N : Int)) = true := by simp; omega
            obtain ⟨pb, po, rfl, hpb, hpc⟩ := JT.out.at i (by rw [← HN.out]; exact hlt)
            obtain ⟨qb, qo, rfl, hqb, hqc⟩ := JG.out.at i (by rw [GLN.out]; exact hlt)
            have cu := hpc i (by rw [← HN.out]; exact hlt)
            have cv := hqc i (by rw [GLN.out]; exact hlt)
            have hel := EL.out i
            obtain ⟨col, hcol⟩ : ∃ q, q = i % A := ⟨_, rfl⟩
            obtain ⟨row, hrow⟩ : ∃ q, q = i / A := ⟨_, rfl⟩
            rw [← hcol, ← hrow] at hel
            have z1 : (i : Int) % (A : Int) = (col : Int) := by rw [hcol]; simp
            have z2 : (i : Int) / (A : Int) = (row : Int) := by rw [hrow]; simp
            have z3 : (i : Int).tmod (A : Int) = (col : Int) := by rw [Int.tmod_eq_emod_of_nonneg (by omega)]; exact z1
            have z4 : (i : Int).tdiv (A : Int) = (row : Int) := by rw [Int.tdiv_eq_ediv_of_nonneg (by omega)]; exact z2
            have hcl : col ≤ i := by rw [hcol]; exact Nat.mod_le _ _
            have hrl : row ≤ i := by rw [hrow]; exact Nat.div_le_self _ _
            have z5 : IntKind.i64.wrap (col : Int) = (col : Int) := IntWalk.i64_in _ (by have := HL.out; have := HN.out; omega)
            have z6 : IntKind.i64.wrap (row : Int) = (row : Int) := IntWalk.i64_in _ (by have := HL.out; have := HN.out; omega)
            have a0 : (A : Int) ≠ 0 := by omega
            have a1 : ((A : Int) == 0) = false := by rw [beq_eq_false_iff_ne]; exact a0
            have a2 : ¬ A = 0 := by omega
            have w1' : IntKind.i64.wrap ((X : Int) + 4) = (X : Int) + 4 := IntWalk.i64_in _ (by omega)
            have w2' : IntKind.i64.wrap ((Y : Int) + 4) = (Y : Int) + 4 := IntWalk.i64_in _ (by omega)
            have hN384 : N ≤ 384 := by have := HL.out; have := HN.out; omega
            have i0 : (0 : Int) ≤ (i : Int) := by omega
            have iN : (i : Int) < (N : Int) := by omega
            have heq : ¬ (X ≤ col ∧ col < X + 4 ∧ Y ≤ row ∧ row < Y + 4) → G.getD i 0 = l.getD i 0 := hel
            obtain ⟨u, hu⟩ : ∃ u, u = l.getD i 0 := ⟨_, rfl⟩
            obtain ⟨v, hv⟩ : ∃ v, v = G.getD i 0 := ⟨_, rfl⟩
            rw [← hu] at cu heq
            rw [← hv] at cv heq
            clear hpc hqc hel hcol hrow hu hv hpb hqb
            by_cases p1 : col < X
            · have huv := heq (by omega)
              subst huv
              have e1 : (v != v) = false := by simp
              have s1 : decide ((col : Int) < (X : Int)) = true := by simp; omega
              clear heq
              go_wp2
              go_quiet (fail)
              go_wp2
              go_roundw
              case rel => exact ⟨i + 1, by omega, by go_num, below_drews HBl.out _⟩
              case measure => simp [intOf]; omega
            by_cases p2 : X + 4 ≤ col
            · have huv := heq (by omega)
              subst huv
              have e1 : (v != v) = false := by simp
              have s1 : decide ((col : Int) < (X : Int)) = false := by simp; omega
              have s2 : decide ((X : Int) + 4 ≤ (col : Int)) = true := by simp; omega
              clear heq
              go_wp2
              go_quiet (fail)
              go_wp2
              go_roundw
              case rel => exact ⟨i + 1, by omega, by go_num, below_drews HBl.out _⟩
              case measure => simp [intOf]; omega
            by_cases p3 : row < Y
            · have huv := heq (by omega)
              subst huv
              have e1 : (v != v) = false := by simp
              have s1 : decide ((col : Int) < (X : Int)) = false := by simp; omega
              have s2 : decide ((X : Int) + 4 ≤ (col : Int)) = false := by simp; omega
              have s3 : decide ((row : Int) < (Y : Int)) = true := by simp; omega
              clear heq
              go_wp2
              go_quiet (fail)
              go_wp2
              go_roundw
              case rel => exact ⟨i + 1, by omega, by go_num, below_drews HBl.out _⟩
              case measure => simp [intOf]; omega
            by_cases p4 : Y + 4 ≤ row
            · have huv := heq (by omega)
              subst huv
              have e1 : (v != v) = false := by simp
              have s1 : decide ((col : Int) < (X : Int)) = false := by simp; omega
              have s2 : decide ((X : Int) + 4 ≤ (col : Int)) = false := by simp; omega
              have s3 : decide ((row : Int) < (Y : Int)) = false := by simp; omega
              have s4 : decide ((Y : Int) + 4 ≤ (row : Int)) = true := by simp; omega
              clear heq
              go_wp2
              go_quiet (fail)
              go_wp2
              go_roundw
              case rel => exact ⟨i + 1, by omega, by go_num, below_drews HBl.out _⟩
              case measure => simp [intOf]; omega
            have s1 : decide ((col : Int) < (X : Int)) = false := by simp; omega
            have s2 : decide ((X : Int) + 4 ≤ (col : Int)) = false := by simp; omega
            have s3 : decide ((row : Int) < (Y : Int)) = false := by simp; omega
            have s4 : decide ((Y : Int) + 4 ≤ (row : Int)) = false := by simp; omega
            clear heq
            go_wp2
            go_quiet (fail)
            go_wp2
            go_roundw
            case rel => exact ⟨i + 1, by omega, by go_num, below_drews HBl.out _⟩
            case measure => simp [intOf]; omega
          · have t1 : decide ((i : Int) < (N : Int)) = false := by simp; omega
            go_wp2_with fail
            refine (IBY.out _ JG.out CG.out).mono ?_
            rintro e wa ⟨PA, cP, rfl, hoP, hba⟩
            have IP := Lib.hid (hoP.ints (by have := HMB.out; omega))
            have Ba := Lib.hid (below_up B7r.out hba B7r.out.size)
            have JMa := Lib.hid (SB5.out _ Ba.out).2.2.1
            clear hoP hba c0 c1 c2 d0 d1 d2
            go_wp2_with fail
            refine (SIX.out _ _ _ _ _ IP.out JMa.out).mono ?_
            rintro e wb ⟨rfl, hbb⟩
            have Bb := Lib.hid (below_up Ba.out hbb Ba.out.size)
            have Cb := SB5.out _ Bb.out
            obtain ⟨d0, d1, d2⟩ := cells3 Cb.1.2
            have JGb := Lib.hid Cb.2.2.2
            clear hbb Cb
            go_wp2_with fail
            refine (IKX.out _ JGb.out).mono ?_
            rintro e wc ⟨rfl, hbc⟩
            have Bc := Lib.hid (below_up Bb.out hbc Bb.out.size)
            clear d0 d1 d2
            have Cc := SB5.out _ Bc.out
            obtain ⟨d0, d1, d2⟩ := cells3 Cc.1.2
            have JGc := Lib.hid Cc.2.2.2
            clear hbc Cc
            go_wp2_with fail
            refine (IFX.out _ JGc.out JGc.out).mono ?_
            rintro e wd ⟨rfl, hbd⟩
            have Bd := Lib.hid (below_up BW3.out (below_up B35.out (below_up Bc.out hbd Bc.out.size) B35.out.size) BW3.out.size)
            clear hbd
            go_wp2
            go_ret
            exact ⟨rfl, Bd.out⟩
      · have q64 : ((m.length : Int) == 64) = true := by rw [hsq64]; decide
        have IBY : Hid (∀ (w : World), Ints w w.heap.size GA G → N ≤ cG → Calls Try.prog 18 #[.agg #[.int .i64 (A : Int), .int .i64 (B : Int), .slice GA N cG], .int .i64 (X : Int), .int .i64 (Y : Int), .int .i64 8] w fun e w' => ∃ A' c, e = .returned (.slice A' m.length c) ∧ OwnI w' w.heap.size A' c m ∧ Below w.heap.size w w') := IBX
        clear hsq64 IBX hsq
        go_wp2
        go_loopw [12, 13, 14] (fun x12 x13 x14 wr => ∃ i : Nat, i ≤ N ∧ x12 = .int .i64 i ∧ Below w7.heap.size w7 wr) (fun x12 _ _ _ => N - (intOf x12).toNat)
        case atStart => exact ⟨0, Nat.zero_le _, rfl, by rw [HW7.out]; exact Below.refl _ _⟩
        case round =>
          obtain ⟨i, hi, rfl, hbel⟩ := hrel
          have HBl := Lib.hid hbel
          have B7r := Lib.hid (below_up B7.out hbel B7.out.size)
          have Cr := SB5.out _ B7r.out
          clear c0 c1 c2 d0 d1 d2
          obtain ⟨c0, c1, c2⟩ := cells3 Cr.1.1
          obtain ⟨d0, d1, d2⟩ := cells3 Cr.1.2
          have JT := Lib.hid Cr.2.1; have JM := Lib.hid Cr.2.2.1; have JG := Lib.hid Cr.2.2.2
          clear Cr hbel
          by_cases hlt : i < N
          · have t1 : decide ((i : Int) < (N : Int)) = true := by simp; omega
            obtain ⟨pb, po, rfl, hpb, hpc⟩ := JT.out.at i (by rw [← HN.out]; exact hlt)
            obtain ⟨qb, qo, rfl, hqb, hqc⟩ := JG.out.at i (by rw [GLN.out]; exact hlt)
            have cu := hpc i (by rw [← HN.out]; exact hlt)
            have cv := hqc i (by rw [GLN.out]; exact hlt)
            have hel := EL.out i
            obtain ⟨col, hcol⟩ : ∃ q, q = i % A := ⟨_, rfl⟩
            obtain ⟨row, hrow⟩ : ∃ q, q = i / A := ⟨_, rfl⟩
            rw [← hcol, ← hrow] at hel
            have z1 : (i : Int) % (A : Int) = (col : Int) := by rw [hcol]; simp
            have z2 : (i : Int) / (A : Int) = (row : Int) := by rw [hrow]; simp
            have z3 : (i : Int).tmod (A : Int) = (col : Int) := by rw [Int.tmod_eq_emod_of_nonneg (by omega)]; exact z1
            have z4 : (i : Int).tdiv (A : Int) = (row : Int) := by rw [Int.tdiv_eq_ediv_of_nonneg (by omega)]; exact z2
            have hcl : col ≤ i := by rw [hcol]; exact Nat.mod_le _ _
            have hrl : row ≤ i := by rw [hrow]; exact Nat.div_le_self _ _
            have z5 : IntKind.i64.wrap (col : Int) = (col : Int) := IntWalk.i64_in _ (by have := HL.out; have := HN.out; omega)
            have z6 : IntKind.i64.wrap (row : Int) = (row : Int) := IntWalk.i64_in _ (by have := HL.out; have := HN.out; omega)
            have a0 : (A : Int) ≠ 0 := by omega
            have a1 : ((A : Int) == 0) = false := by rw [beq_eq_false_iff_ne]; exact a0
            have a2 : ¬ A = 0 := by omega
            have w1' : IntKind.i64.wrap ((X : Int) + 8) = (X : Int) + 8 := IntWalk.i64_in _ (by omega)
            have w2' : IntKind.i64.wrap ((Y : Int) + 8) = (Y : Int) + 8 := IntWalk.i64_in _ (by omega)
            have hN384 : N ≤ 384 := by have := HL.out; have := HN.out; omega
            have i0 : (0 : Int) ≤ (i : Int) := by omega
            have iN : (i : Int) < (N : Int) := by omega
            have heq : ¬ (X ≤ col ∧ col < X + 8 ∧ Y ≤ row ∧ row < Y + 8) → G.getD i 0 = l.getD i 0 := hel
            obtain ⟨u, hu⟩ : ∃ u, u = l.getD i 0 := ⟨_, rfl⟩
            obtain ⟨v, hv⟩ : ∃ v, v = G.getD i 0 := ⟨_, rfl⟩
            rw [← hu] at cu heq
            rw [← hv] at cv heq
            clear hpc hqc hel hcol hrow hu hv hpb hqb
            by_cases p1 : col < X
            · have huv := heq (by omega)
              subst huv
              have e1 : (v != v) = false := by simp
              have s1 : decide ((col : Int) < (X : Int)) = true := by simp; omega
              clear heq
              go_wp2
              go_quiet (fail)
              go_wp2
              go_roundw
              case rel => exact ⟨i + 1, by omega, by go_num, below_drews HBl.out _⟩
              case measure => simp [intOf]; omega
            by_cases p2 : X + 8 ≤ col
            · have huv := heq (by omega)
              subst huv
              have e1 : (v != v) = false := by simp
              have s1 : decide ((col : Int) < (X : Int)) = false := by simp; omega
              have s2 : decide ((X : Int) + 8 ≤ (col : Int)) = true := by simp; omega
              clear heq
              go_wp2
              go_quiet (fail)
              go_wp2
              go_roundw
              case rel => exact ⟨i + 1, by omega, by go_num, below_drews HBl.out _⟩
              case measure => simp [intOf]; omega
            by_cases p3 : row < Y
            · have huv := heq (by omega)
              subst huv
              have e1 : (v != v) = false := by simp
              have s1 : decide ((col : Int) < (X : Int)) = false := by simp; omega
              have s2 : decide ((X : Int) + 8 ≤ (col : Int)) = false := by simp; omega
              have s3 : decide ((row : Int) < (Y : Int)) = true := by simp; omega
              clear heq
              go_wp2
              go_quiet (fail)
              go_wp2
              go_roundw
              case rel => exact ⟨i + 1, by omega, by go_num, below_drews HBl.out _⟩
              case measure => simp [intOf]; omega
            by_cases p4 : Y + 8 ≤ row
            · have huv := heq (by omega)
              subst huv
              have e1 : (v != v) = false := by simp
              have s1 : decide ((col : Int) < (X : Int)) = false := by simp; omega
              have s2 : decide ((X : Int) + 8 ≤ (col : Int)) = false := by simp; omega
              have s3 : decide ((row : Int) < (Y : Int)) = false := by simp; omega
              have s4 : decide ((Y : Int) + 8 ≤ (row : Int)) = true := by simp; omega
              clear heq
              go_wp2
              go_quiet (fail)
              go_wp2
              go_roundw
              case rel => exact ⟨i + 1, by omega, by go_num, below_drews HBl.out _⟩
              case measure => simp [intOf]; omega
            have s1 : decide ((col : Int) < (X : Int)) = false := by simp; omega
            have s2 : decide ((X : Int) + 8 ≤ (col : Int)) = false := by simp; omega
            have s3 : decide ((row : Int) < (Y : Int)) = false := by simp; omega
            have s4 : decide ((Y : Int) + 8 ≤ (row : Int)) = false := by simp; omega
            clear heq
            go_wp2
            go_quiet (fail)
            go_wp2
            go_roundw
            case rel => exact ⟨i + 1, by omega, by go_num, below_drews HBl.out _⟩
            case measure => simp [intOf]; omega
          · have t1 : decide ((i : Int) < (N : Int)) = false := by simp; omega
            go_wp2_with fail
            refine (IBY.out _ JG.out CG.out).mono ?_
            rintro e wa ⟨PA, cP, rfl, hoP, hba⟩
            have IP := Lib.hid (hoP.ints (by have := HMB.out; omega))
            have Ba := Lib.hid (below_up B7r.out hba B7r.out.size)
            have JMa := Lib.hid (SB5.out _ Ba.out).2.2.1
            clear hoP hba c0 c1 c2 d0 d1 d2
            go_wp2_with fail
            refine (SIX.out _ _ _ _ _ IP.out JMa.out).mono ?_
            rintro e wb ⟨rfl, hbb⟩
            have Bb := Lib.hid (below_up Ba.out hbb Ba.out.size)
            have Cb := SB5.out _ Bb.out
            obtain ⟨d0, d1, d2⟩ := cells3 Cb.1.2
            have JGb := Lib.hid Cb.2.2.2
            clear hbb Cb
            go_wp2_with fail
            refine (IKX.out _ JGb.out).mono ?_
            rintro e wc ⟨rfl, hbc⟩
            have Bc := Lib.hid (below_up Bb.out hbc Bb.out.size)
            clear d0 d1 d2
            have Cc := SB5.out _ Bc.out
            obtain ⟨d0, d1, d2⟩ := cells3 Cc.1.2
            have JGc := Lib.hid Cc.2.2.2
            clear hbc Cc
            go_wp2_with fail
            refine (IFX.out _ JGc.out JGc.out).mono ?_
            rintro e wd ⟨rfl, hbd⟩
            have Bd := Lib.hid (below_up BW3.out (below_up B35.out (below_up Bc.out hbd Bc.out.size) B35.out.size) BW3.out.size)
            clear hbd
            go_wp2
            go_ret
            exact ⟨rfl, Bd.out⟩
end Go.Proofs.Ytemfiglflbfocaa
