/-
  The law FnInverse: there and back by the transform restores the square, times its norms. No condition.
-/
import Derived.Test.YtdocobphecllkaaFormB
import Derived.Test.YtdocobphecllkaaFormC
import Derived.Test.YtdocobphecllkaaFormF
import Derived.Test.YtdocobphecllkaaFormG
import Derived.Test.YtdocobphecllkaaQuantN
import Derived.Deep.RegionHeld3
namespace Go.Proofs.Ytdocobphecllkaa
open Go.RowKit
set_option linter.unusedVariables false

/-- Whether so many numbers are small, as the law reckons it. -/
def smB (b : Bool) (l : List Int) : Nat → Bool
  | 0 => b
  | k + 1 => smB b l k && decide (l.getD k 0 < 100000) && decide (-100000 < l.getD k 0)
theorem smB_of {b : Bool} {l : List Int} : ∀ (n : Nat), smB b l n = true → b = true ∧ ∀ i, i < n → -100000 < l.getD i 0 ∧ l.getD i 0 < 100000
  | 0, h => ⟨h, fun i hi => absurd hi (by omega)⟩
  | n + 1, h => by
    simp only [smB, Bool.and_eq_true, decide_eq_true_eq] at h
    obtain ⟨h1, h2⟩ := smB_of n h.1.1
    refine ⟨h1, fun i hi => ?_⟩
    by_cases hin : i = n
    · subst hin; exact ⟨h.2, h.1.2⟩
    · exact h2 i (by omega)
theorem smB_no (b : Bool) (l : List Int) {k : Nat} (h : smB b l k = false) : smB b l (k + 1) = false := by simp [smB, h]
theorem smB_big (b : Bool) (l : List Int) {k : Nat} (h : ¬ l.getD k 0 < 100000) : smB b l (k + 1) = false := by simp only [smB]; rw [decide_eq_false h]; simp
theorem smB_low (b : Bool) (l : List Int) {k : Nat} (h : ¬ -100000 < l.getD k 0) : smB b l (k + 1) = false := by simp only [smB]; rw [decide_eq_false h]; simp
theorem smB_yes (b : Bool) (l : List Int) {k : Nat} (h : smB b l k = true) (h1 : l.getD k 0 < 100000) (h2 : -100000 < l.getD k 0) : smB b l (k + 1) = true := by simp only [smB]; rw [h, decide_eq_true h1, decide_eq_true h2]; rfl
theorem nrmL_next (f : List Int) {i : Nat} (hi : i < 16) : (nrmL f).take (i + 1) = (nrmL f).take i ++ [f.getD i 0 * nmV 4 (i : Int)] := by
  rw [take_snoc_q _ i (by rw [nrmL_len]; exact hi), nrmL_at f hi, nmV_four hi]
theorem back_small {l : List Int} (h : fitL 4 l = true) (hs : smB true l 16 = true) : rdL (xfR 4 true (nrmL (mulF 4 (matE 4 false) l))) = l := by
  have h1 := inv_four (fitL_len h) (smB_of 16 hs).2
  rw [xfR_fit true h1.2.1]
  exact h1.2.2
theorem back_tiny {m : List Int} (hs : smB (fitL 8 m) m m.length = true) : rdL (xfR 8 true (xfR 8 false m)) = m := by
  obtain ⟨hf, h2⟩ := smB_of _ hs
  have hl := fitL_len hf
  have h1 := inv_eight hl fun i hi => h2 i (by omega)
  rw [xfR_fit false hf, xfR_fit true h1.2.1]
  exact h1.2.2
theorem xfR_full (n : Nat) (back : Bool) (l : List Int) : (xfR n back l).length = if fitL n l = true then n * n else 0 := by
  cases h : fitL n l with
  | true => rw [xfR_fit back h, mulF_len]; rfl
  | false => rw [xfR_unfit back h]; rfl
theorem holdi {w w' : World} {p : Addr} {v : Value} (c : w.cell? p = some v) (hp : p.block < w.heap.size) (hb : Below w.heap.size w w') : w'.cell? p = some v ∧ Below w.heap.size w w' := ⟨by rw [hb.cell hp]; exact c, hb⟩
theorem holdi_drew {w wr : World} {p : Addr} {v : Value} (h : wr.cell? p = some v ∧ Below w.heap.size w wr) : wr.drew.cell? p = some v ∧ Below w.heap.size w wr.drew := ⟨h.1, h.2.drew⟩
theorem holdi_call {w wr w' : World} {p : Addr} {v : Value} (hp : p.block < w.heap.size) (h : wr.cell? p = some v ∧ Below w.heap.size w wr) (hb : Below wr.heap.size wr w') : w'.cell? p = some v ∧ Below w.heap.size w w' :=
  ⟨by rw [hb.cell (Nat.lt_of_lt_of_le hp h.2.size)]; exact h.1, below_up h.2 hb h.2.size⟩
theorem holdi_alloc {w wr : World} {p : Addr} {v : Value} (hp : p.block < w.heap.size) (h : wr.cell? p = some v ∧ Below w.heap.size w wr) (o : Obj) : (wr.alloc o).cell? p = some v ∧ Below w.heap.size w (wr.alloc o) :=
  holdi_call hp h (below_new wr o)

set_option maxRecDepth 100000 in
set_option maxHeartbeats 8000000 in
/-- The law's own walk. -/
theorem fnInverse_walk (a : Option Addr) (len cap : Nat) (zs : List Int) (w : World) (hr : IsRow .u8 w a len cap zs) :
    Calls Try.prog 3 #[.slice a len cap] w fun e w' => e = .returned (.bool true) ∧ Below w.heap.size w w' := by
  have hlm := hr.len_le
  unfold maxLen at hlm
  by_cases hbig : 1048576 < len
  · have BG := Lib.hid (big_any a len cap hlm)
    have hb : decide (1048576 < (len : Int)) = true := decide_eq_true (by omega)
    rw [hb] at BG
    clear hr hlm hbig hb
    go_enter Try.func3, Try.ntmps3
    go_wp2_with fail
    refine (BG.out _).mono ?_
    rintro e w1 ⟨rfl, hw⟩
    subst hw
    go_wp2
    go_ret
    exact ⟨rfl, Below.refl _ _⟩
  · have hbigF : decide (1048576 < (len : Int)) = false := decide_eq_false (by omega)
    obtain ⟨ys, rfl, hW⟩ := code_of hr (by omega)
    have BG := Lib.hid (big_any a ys.length cap hlm)
    rw [hbigF] at BG
    obtain ⟨i0, hi, hz0, hz1, hz2⟩ := info_parts Try.iinfo
    have D4 := Lib.hid (drawforward4_ex a cap ys w hW)
    have D8 := Lib.hid fun w hW => drawforward8_ex a cap ys w hW
    have F4 := Lib.hid @impl_forward4_any; have G4 := Lib.hid @impl_inverse4_any
    have F8 := Lib.hid @impl_forward8_any; have G8 := Lib.hid @impl_inverse8_any
    have SF := Lib.hid @spec_forward4_any; have RD := Lib.hid @impl_rounded_any
    have SI := Lib.hid @sameints_any
    have NO := Lib.hid fun i w => spec_normat_any 4 i w
    have HW := Lib.hid hW
    clear hr hbig hbigF hlm hW
    go_enter Try.func3, Try.ntmps3
    go_wp2_with fail
    refine (BG.out _).mono ?_
    rintro e w1 ⟨rfl, hw⟩
    subst hw
    go_wp2_with fail
    refine D4.out.mono ?_
    rintro e w2 ⟨l, A2, c2, rfl, hl16, hI2, hb2⟩
    have I2 := Lib.hid hI2; have B2 := Lib.hid hb2
    clear hI2 hb2
    have F4x := Lib.hid (F4.out A2 c2 l w2 I2.out)
    have SFx := Lib.hid fun w h => SF.out A2 c2 l w h
    cases hf : fitL 4 l with
    | false =>
      rw [xfR_unfit false hf] at F4x SFx
      obtain ⟨n, hn⟩ : ∃ n, n = l.length := ⟨_, rfl⟩
      rw [← hn] at F4x SFx hl16 ⊢
      clear hn hf
      go_wp2_with fail
      refine F4x.out.mono ?_
      rintro e w3 ⟨A3, c3, rfl, -, hb3⟩
      have I3 := Lib.hid ((I2.out.below hb3 (Nat.le_refl _)).mono hb3.size); have B3 := Lib.hid (below_up B2.out hb3 B2.out.size)
      clear hb3
      go_wp2_with fail
      refine (SFx.out _ I3.out).mono ?_
      rintro e w4 ⟨A4, c4, rfl, -, hb4⟩
      have B4 := Lib.hid (below_up B3.out hb4 B3.out.size)
      clear hb4
      go_wp2
      go_ret
      exact ⟨rfl, B4.out⟩
    | true =>
      have hl : l.length = 16 := fitL_len hf
      have hfa := fitL_at hf
      have hF16 : (mulF 4 (matE 4 false) l).length = 16 := mulF_len _ _ _
      have hFb := mul_bound_four false (l := l) (B := 1000000000) (by decide) hfa
      rw [xfR_fit false hf, hF16] at F4x
      have BK := Lib.hid fun hs => back_small hf hs
      obtain ⟨F, hF⟩ : ∃ F, F = mulF 4 (matE 4 false) l := ⟨_, rfl⟩
      rw [← hF] at F4x BK hF16 hFb
      rw [hl] at F4x ⊢
      have HL := Lib.hid hl; have HF := Lib.hid hF16; have HB := Lib.hid hFb
      clear hl hfa hF hf hF16 hFb hl16
      go_wp2_with fail
      refine F4x.out.mono ?_
      rintro e w3 ⟨A3, c3, rfl, hO3, hb3⟩
      have I3 := Lib.hid ((I2.out.below hb3 (Nat.le_refl _)).mono hb3.size); have J3 := Lib.hid (hO3.ints (by rw [HF.out]; decide)); have B3 := Lib.hid (below_up B2.out hb3 B2.out.size)
      clear hb3 hO3 F4x SFx
      go_wp2
      go_loop [5, 6] (fun s i => ∃ k : Nat, k ≤ 16 ∧ i = .int .i64 k ∧ s = .bool (smB true l k))
        (fun _ i => 16 - (intOf i).toNat)
      case atStart => exact ⟨0, Nat.zero_le _, rfl, rfl⟩
      case round =>
        obtain ⟨k, hk, rfl, rfl⟩ := hrel
        by_cases hlt : k < 16
        · have d1 : decide ((k : Int) < 16) = true := by simp; omega
          obtain ⟨b, off, rfl, hb, hc⟩ := I3.out.at k (by rw [HL.out]; exact hlt)
          have cl := hc k (by rw [HL.out]; exact hlt)
          have hno := smB_no true l (k := k); have hbg := smB_big true l (k := k); have hlo := smB_low true l (k := k); have hye := smB_yes true l (k := k)
          obtain ⟨x, hx⟩ : ∃ x, x = l.getD k 0 := ⟨_, rfl⟩
          rw [← hx] at cl hbg hlo hye
          obtain ⟨s, hs⟩ : ∃ s, s = smB true l k := ⟨_, rfl⟩
          rw [← hs] at hno hye ⊢
          have NO1 := Lib.hid hno; have BG1 := Lib.hid hbg; have LO1 := Lib.hid hlo; have YE1 := Lib.hid hye
          clear hc hx hs hno hbg hlo hye
          cases s with
          | false =>
            have E := Lib.hid (NO1.out rfl)
            go_wp2
            go_round
            case rel => exact ⟨k + 1, by omega, by go_num, by rw [E.out]⟩
            case measure => simp [intOf]; omega
          | true =>
            by_cases h1 : x < 100000
            · have e1 : decide (x < 100000) = true := by simpa using h1
              by_cases h2 : -100000 < x
              · have e2 : decide (-100000 < x) = true := by simpa using h2
                have E := Lib.hid (YE1.out rfl h1 h2)
                go_wp2
                go_round
                case rel => exact ⟨k + 1, by omega, by go_num, by rw [E.out]⟩
                case measure => simp [intOf]; omega
              · have e2 : decide (-100000 < x) = false := by simpa using h2
                have E := Lib.hid (LO1.out h2)
                go_wp2
                go_round
                case rel => exact ⟨k + 1, by omega, by go_num, by rw [E.out]⟩
                case measure => simp [intOf]; omega
            · have e1 : decide (x < 100000) = false := by simpa using h1
              have E := Lib.hid (BG1.out h1)
              go_wp2
              go_round
              case rel => exact ⟨k + 1, by omega, by go_num, by rw [E.out]⟩
              case measure => simp [intOf]; omega
        · obtain rfl : k = 16 := by omega
          obtain ⟨s, hs⟩ : ∃ s, s = smB true l 16 := ⟨_, rfl⟩
          have BK1 : Hid (s = true → rdL (xfR 4 true (nrmL F)) = l) := Lib.hid (by rw [hs]; exact BK.out)
          rw [← hs]
          have O0 := Lib.hid (own_ints w3 w3.heap.size [] (Nat.le_refl _) (by simp))
          have B0 := Lib.hid ((Below.refl w3.heap.size w3).alloc (Nat.le_refl _) (.cells (ivs []).toArray 3))
          clear hs BK
          go_wp2
          go_loopw [7, 8] (fun v i wr => ∃ j : Nat, j ≤ 16 ∧ i = .int .i64 j ∧ wr.ownsRow w3.heap.size 3 1 v j (ivs ((nrmL F).take j)) ∧ Below w3.heap.size w3 wr)
            (fun _ i _ => 16 - (intOf i).toNat)
          case atStart => exact ⟨0, Nat.zero_le _, rfl, O0.out, B0.out⟩
          case round =>
            obtain ⟨j, hj, rfl, hown, hbel⟩ := hrel
            by_cases hlt : j < 16
            · have d1 : decide ((j : Int) < 16) = true := by simp; omega
              obtain ⟨b, off, hAe, hb, hc⟩ := J3.out.at j (by rw [HF.out]; exact hlt)
              have cl := hc j (by rw [HF.out]; exact hlt)
              have hnx := nrmL_next F hlt
              have hxr := HB.out j hlt
              obtain ⟨x, hx⟩ : ∃ x, x = F.getD j 0 := ⟨_, rfl⟩
              rw [← hx] at cl hxr hnx
              have NX := Lib.hid (NO.out (j : Int))
              have hmr := nmV_range 4 (j : Int)
              obtain ⟨m, hm⟩ : ∃ m, m = nmV 4 (j : Int) := ⟨_, rfl⟩
              rw [← hm] at NX hmr hnx
              have a1 : x * m ≤ 64000000000 * m := Int.mul_le_mul_of_nonneg_right (by omega) hmr.1
              have a2 : (-64000000000) * m ≤ x * m := Int.mul_le_mul_of_nonneg_right (by omega) hmr.1
              have hp1 : IntKind.i64.wrap (x * m) = x * m := IntWalk.i64_in _ (by omega)
              have HX := Lib.hid hnx; have CL := Lib.hid cl
              obtain ⟨rowv, hrow⟩ : ∃ r, r = (nrmL F).take j := ⟨_, rfl⟩
              rw [← hrow] at hown HX
              obtain ⟨Av, cv, rfl⟩ := own_form2 hown
              have hO := hown.drew
              have hS := holdi_drew (holdi CL.out hb hbel)
              subst hAe
              have hj0 : (0 : Int) ≤ (j : Int) := by omega
              have hj1 : (j : Int) < 16 := by omega
              clear hx hnx hc hm cl hrow a1 a2 hmr hxr hown hbel
              go_wp2_with fail
              go_region_held3 (fun w' => w'.cell? ⟨b, off + j, none⟩ = some (.int .i64 x) ∧ Below w3.heap.size w3 w')
                (first | with_reducible assumption | (with_reducible refine holdi_drew ?_; with_reducible assumption) | (with_reducible refine holdi_call (by assumption) ?_ (by with_reducible assumption); with_reducible assumption) | (with_reducible refine holdi_alloc (by assumption) ?_ _; with_reducible assumption) | (with_reducible exact holdi CL.out (by assumption) (by with_reducible assumption)))
                (first
                  | (go_at_call 8; with_reducible refine (NX.out _).mono ?_; rintro e w' ⟨rfl, hb'⟩; have o' : World.ownsRow w' w3.heap.size 3 1 (.slice Av j cv) j (ivs rowv) := own_keep (by with_reducible assumption) hb'; have b' : Below w3.heap.size w3 w' := (holdi_call (p := ⟨b, off + j, none⟩) (v := .int .i64 x) hb (by with_reducible assumption) hb').2)
                  | (refine step_append_lit _ rfl (.tmp 52) (.tmp 60) 24 rfl w3 3 i0 (.int .i64 0) 8 Try.underlying24 hi hz0 hz1 hz2 rfl _ _ _ rfl (by assumption) [_] rfl (by simp [Value.oneCell']) rfl (by simp; omega) (by unfold maxLen; simp; omega) (by assumption) ?_; intro v' w' hown' hb'))
              all_goals
                go_wp2
                go_roundw
                case rel =>
                  refine ⟨j + 1, by omega, by go_num, ?_, by assumption⟩
                  rw [HX.out, ivs_append]
                  exact hown'
                case measure => simp [intOf]; omega
            · obtain rfl : j = 16 := by omega
              have e1 : (nrmL F).take 16 = nrmL F := List.take_of_length_le (by rw [nrmL_len]; decide)
              rw [e1] at hown
              obtain ⟨A9, c9, hv9, ho9⟩ := own_slice hown
              have hnl := nrmL_len F
              obtain ⟨w4, hw4⟩ : ∃ w4, w4 = wr := ⟨_, rfl⟩
              subst hw4
              subst hv9
              have G4x := Lib.hid (G4.out A9 c9 (nrmL F) w4 (ho9.ints (by omega)))
              have I4 := Lib.hid ((I3.out.below hbel (Nat.le_refl _)).mono hbel.size)
              have B4 := Lib.hid (below_up B3.out hbel B3.out.size)
              have hy0 := xfR_len (n := 4) true (nrmL F) (by decide)
              obtain ⟨Y0, hY0⟩ : ∃ Y, Y = xfR 4 true (nrmL F) := ⟨_, rfl⟩
              rw [← hY0] at BK1 G4x hy0
              obtain ⟨X, hX⟩ : ∃ X, X = nrmL F := ⟨_, rfl⟩
              rw [← hX] at G4x hnl ⊢
              rw [hnl] at G4x
              have hy1 := rdL_len Y0
              have RDy := Lib.hid fun A c w h => RD.out A c Y0 w h
              obtain ⟨Y, hY⟩ : ∃ Y, Y = rdL Y0 := ⟨_, rfl⟩
              rw [← hY] at BK1 RDy hy1
              clear hX hY hY0 hown hbel ho9 e1 J3 B3 I3 I2 B2 HF HB
              go_wp2_with fail
              refine G4x.out.mono ?_
              rintro e w5 ⟨A5, c5, rfl, ho5, hb5⟩
              have O5 := Lib.hid (ho5.ints (by omega)); have I5 := Lib.hid ((I4.out.below hb5 (Nat.le_refl _)).mono hb5.size); have B5 := Lib.hid (below_up B4.out hb5 B4.out.size)
              clear ho5 hb5
              go_wp2_with fail
              refine (RDy.out _ _ _ O5.out).mono ?_
              rintro e w6 ⟨A6, c6, rfl, ho6, hb6⟩
              have O6 := Lib.hid (ho6.ints (by omega)); have I6 := Lib.hid ((I5.out.below hb6 (Nat.le_refl _)).mono hb6.size); have B6 := Lib.hid (below_up B5.out hb6 B5.out.size)
              clear ho6 hb6 O5 I5 B5 I4 B4 G4x RDy
              go_wp2_with fail
              refine (D8.out _ (HW.out.below B6.out)).mono ?_
              rintro e w7 ⟨m, A7, c7, rfl, hm64, hI7, hb7⟩
              have M7 := Lib.hid hI7; have O7 := Lib.hid ((O6.out.below hb7 (Nat.le_refl _)).mono hb7.size); have I7 := Lib.hid ((I6.out.below hb7 (Nat.le_refl _)).mono hb7.size); have B7 := Lib.hid (below_up B6.out hb7 B6.out.size)
              clear hI7 hb7 O6 I6 B6
              have F8x := Lib.hid (F8.out A7 c7 m w7 M7.out)
              have hg0 := xfR_len (n := 8) false m (by decide)
              have hgl := xfR_full 8 false m
              have BT := Lib.hid (@back_tiny m)
              obtain ⟨t0, ht0⟩ : ∃ t, t = fitL 8 m := ⟨_, rfl⟩
              obtain ⟨G, hG⟩ : ∃ G, G = xfR 8 false m := ⟨_, rfl⟩
              rw [← hG] at F8x hg0 hgl BT
              rw [← ht0] at hgl BT
              have G8x := Lib.hid fun A c w h => G8.out A c G w h
              have hz0' := xfR_len (n := 8) true G (by decide)
              obtain ⟨Z0, hZ0⟩ : ∃ Z, Z = xfR 8 true G := ⟨_, rfl⟩
              rw [← hZ0] at BT G8x hz0'
              have RDz := Lib.hid fun A c w h => RD.out A c Z0 w h
              have hz1' := rdL_len Z0
              obtain ⟨Z, hZ⟩ : ∃ Z, Z = rdL Z0 := ⟨_, rfl⟩
              rw [← hZ] at BT RDz hz1'
              obtain ⟨n, hn⟩ : ∃ n, n = m.length := ⟨_, rfl⟩
              rw [← hn] at hm64 F8x BT ⊢
              have HN := Lib.hid hn
              have hq : ((G.length : Int) == 64) = t0 := by
                cases t0 with
                | true => rw [hgl, if_pos rfl]; rfl
                | false => rw [hgl, if_neg (by decide)]; rfl
              have HQ := Lib.hid hq
              obtain ⟨gn, hgn⟩ : ∃ gn, gn = G.length := ⟨_, rfl⟩
              rw [← hgn] at F8x hq hg0
              have HGN := Lib.hid hgn
              clear ht0 hG hZ0 hZ hn hgl hgn
              go_wp2_with fail
              refine F8x.out.mono ?_
              rintro e w8 ⟨A8, c8, rfl, ho8, hb8⟩
              have G8' := Lib.hid (ho8.ints (by rw [← HGN.out]; omega)); have M8 := Lib.hid ((M7.out.below hb8 (Nat.le_refl _)).mono hb8.size); have O8 := Lib.hid ((O7.out.below hb8 (Nat.le_refl _)).mono hb8.size); have I8 := Lib.hid ((I7.out.below hb8 (Nat.le_refl _)).mono hb8.size); have B8 := Lib.hid (below_up B7.out hb8 B7.out.size)
              clear ho8 hb8 O7 I7 B7 M7 F8x
              go_wp2
              go_loop [12, 13] (fun t i => ∃ k : Nat, k ≤ n ∧ i = .int .i64 k ∧ t = .bool (smB t0 m k))
                (fun _ i => n - (intOf i).toNat)
              case atStart => exact ⟨0, Nat.zero_le _, rfl, rfl⟩
              case round =>
                obtain ⟨k, hk, rfl, rfl⟩ := hrel
                by_cases hlt : k < n
                · have d1 : decide ((k : Int) < (n : Int)) = true := by simp; omega
                  obtain ⟨b, off, rfl, hb, hc⟩ := M8.out.at k (by rw [← HN.out]; exact hlt)
                  have cl := hc k (by rw [← HN.out]; exact hlt)
                  have hno := smB_no t0 m (k := k); have hbg := smB_big t0 m (k := k); have hlo := smB_low t0 m (k := k); have hye := smB_yes t0 m (k := k)
                  obtain ⟨x, hx⟩ : ∃ x, x = m.getD k 0 := ⟨_, rfl⟩
                  rw [← hx] at cl hbg hlo hye
                  obtain ⟨s2, hs2⟩ : ∃ s, s = smB t0 m k := ⟨_, rfl⟩
                  rw [← hs2] at hno hye ⊢
                  have NO1 := Lib.hid hno; have BG1 := Lib.hid hbg; have LO1 := Lib.hid hlo; have YE1 := Lib.hid hye
                  clear hc hx hs2 hno hbg hlo hye
                  cases s2 with
                  | false =>
                    have E := Lib.hid (NO1.out rfl)
                    go_wp2
                    go_round
                    case rel => exact ⟨k + 1, by omega, by go_num, by rw [E.out]⟩
                    case measure => simp [intOf]; omega
                  | true =>
                    by_cases h1 : x < 100000
                    · have e1 : decide (x < 100000) = true := by simpa using h1
                      by_cases h2 : -100000 < x
                      · have e2 : decide (-100000 < x) = true := by simpa using h2
                        have E := Lib.hid (YE1.out rfl h1 h2)
                        go_wp2
                        go_round
                        case rel => exact ⟨k + 1, by omega, by go_num, by rw [E.out]⟩
                        case measure => simp [intOf]; omega
                      · have e2 : decide (-100000 < x) = false := by simpa using h2
                        have E := Lib.hid (LO1.out h2)
                        go_wp2
                        go_round
                        case rel => exact ⟨k + 1, by omega, by go_num, by rw [E.out]⟩
                        case measure => simp [intOf]; omega
                    · have e1 : decide (x < 100000) = false := by simpa using h1
                      have E := Lib.hid (BG1.out h1)
                      go_wp2
                      go_round
                      case rel => exact ⟨k + 1, by omega, by go_num, by rw [E.out]⟩
                      case measure => simp [intOf]; omega
                · obtain rfl : k = n := by omega
                  have dn : decide ((k : Int) < (k : Int)) = false := by simp
                  obtain ⟨t, ht⟩ : ∃ t, t = smB t0 m k := ⟨_, rfl⟩
                  have BT1 : Hid (t = true → Z = m) := Lib.hid (by rw [ht]; exact BT.out)
                  rw [← ht]
                  have G8y := Lib.hid (G8x.out A8 c8 w8 G8'.out)
                  rw [← HGN.out] at G8y
                  clear ht BT
                  go_wp2_with fail
                  refine G8y.out.mono ?_
                  rintro e wa ⟨Aa, ca, rfl, hoa, hba⟩
                  have Oa := Lib.hid (hoa.ints (by omega)); have Ma := Lib.hid ((M8.out.below hba (Nat.le_refl _)).mono hba.size); have Ya := Lib.hid ((O8.out.below hba (Nat.le_refl _)).mono hba.size); have Ia := Lib.hid ((I8.out.below hba (Nat.le_refl _)).mono hba.size); have Ba := Lib.hid (below_up B8.out hba B8.out.size)
                  clear hoa hba O8 I8 B8 M8 G8y
                  go_wp2_with fail
                  refine (RDz.out _ _ _ Oa.out).mono ?_
                  rintro e wb ⟨Ab, cb, rfl, hob, hbb⟩
                  have Ob := Lib.hid (hob.ints (by omega)); have Mb := Lib.hid ((Ma.out.below hbb (Nat.le_refl _)).mono hbb.size); have Yb := Lib.hid ((Ya.out.below hbb (Nat.le_refl _)).mono hbb.size); have Ib := Lib.hid ((Ia.out.below hbb (Nat.le_refl _)).mono hbb.size); have Bb := Lib.hid (below_up Ba.out hbb Ba.out.size)
                  clear hob hbb Oa Ma Ya Ia Ba
                  have S1 := Lib.hid (SI.out A6 A2 c6 c2 Y l wb Yb.out Ib.out)
                  have S2 := Lib.hid fun wx hx hy => SI.out Ab A7 cb c7 Z m wx hx hy
                  have HLL := HL.out
                  rw [HLL] at S1
                  rw [← HN.out] at S2
                  clear HLL
                  cases s with
                  | false =>
                    cases t with
                    | false =>
                      go_wp2
                      go_ret
                      exact ⟨rfl, Bb.out⟩
                    | true =>
                      rw [decide_eq_true (BT1.out rfl)] at S2
                      go_wp2_with fail
                      refine (S2.out _ Ob.out Mb.out).mono ?_
                      rintro e wd ⟨rfl, hbd⟩
                      have Bd := Lib.hid (below_up Bb.out hbd Bb.out.size)
                      clear hbd
                      go_wp2
                      go_ret
                      exact ⟨rfl, Bd.out⟩
                  | true =>
                    rw [decide_eq_true (BK1.out rfl)] at S1
                    cases t with
                    | false =>
                      go_wp2_with fail
                      refine S1.out.mono ?_
                      rintro e wd ⟨rfl, hbd⟩
                      have Bd := Lib.hid (below_up Bb.out hbd Bb.out.size)
                      clear hbd
                      go_wp2
                      go_ret
                      exact ⟨rfl, Bd.out⟩
                    | true =>
                      rw [decide_eq_true (BT1.out rfl)] at S2
                      go_wp2_with fail
                      refine S1.out.mono ?_
                      rintro e wc ⟨rfl, hbc⟩
                      have Oc := Lib.hid ((Ob.out.below hbc (Nat.le_refl _)).mono hbc.size); have Mc := Lib.hid ((Mb.out.below hbc (Nat.le_refl _)).mono hbc.size); have Bc := Lib.hid (below_up Bb.out hbc Bb.out.size)
                      clear hbc
                      go_wp2_with fail
                      refine (S2.out _ Oc.out Mc.out).mono ?_
                      rintro e wd ⟨rfl, hbd⟩
                      have Bd := Lib.hid (below_up Bc.out hbd Bc.out.size)
                      clear hbd
                      go_wp2
                      go_ret
                      exact ⟨rfl, Bd.out⟩
end Go.Proofs.Ytdocobphecllkaa
