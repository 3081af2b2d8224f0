/-
  The walk of the law FnEnergy. No condition.
-/
import Derived.Test.YtcmijednpnabmaaLiftB
import Derived.Test.YtcmijednpnabmaaLiftE
import Derived.Test.YtcmijednpnabmaaLiftG
import Derived.Test.YtcmijednpnabmaaFormB
import Derived.Test.YtcmijednpnabmaaFormF
import Derived.Test.YtcmijednpnabmaaFormG
import Derived.Test.YtcmijednpnabmaaMatS
import Derived.Deep.RegionHeld3
import Derived.Test.YtcmijednpnabmaaLiftJ
import Derived.BigQuiet
namespace Go.Proofs.Ytcmijednpnabmaa
open Go.RowKit
set_option linter.unusedVariables false

/-- The sum of the squares of the first numbers. -/
def sqS (l : List Int) (j : Nat) : Int := sumTo (fun i => l.getD i 0 * l.getD i 0) j
theorem sqS_snoc {p : List Int} {j : Nat} (hp : p.length = j) (x : Int) : sqS (p ++ [x]) (j + 1) = sqS p j + x * x := by
  have e1 : (p ++ [x]).getD j 0 = x := by
    rw [List.getD_eq_getElem?_getD, List.getElem?_append_right (by omega), hp, Nat.sub_self]
    rfl
  have e3 : sqS (p ++ [x]) (j + 1) = sqS (p ++ [x]) j + (p ++ [x]).getD j 0 * (p ++ [x]).getD j 0 := rfl
  rw [e3, e1]
  refine congrArg (· + x * x) (sumTo_congr j fun k hk => ?_)
  have e2 : (p ++ [x]).getD k 0 = p.getD k 0 := by
    rw [List.getD_eq_getElem?_getD, List.getElem?_append_left (by omega), ← List.getD_eq_getElem?_getD]
  rw [e2]
theorem below_row {base n : Nat} {v : Value} {xs : List Value} {e : TypeId} {w0 w' : World} (hg : w0.grownBy w' v.ownBlock) (ho : w0.ownsRow base e 1 v n xs) (hb : base ≤ w0.heap.size) : Below base w0 w' :=
  ⟨hg.os, hg.tape, hg.output, hg.size, fun k hk => hg.block k (Nat.lt_of_lt_of_le hk hb) fun e => by have := (ho.lt k e.symm).1; omega⟩
theorem square_range {x B : Int} (h1 : -B ≤ x) (h2 : x ≤ B) : 0 ≤ x * x ∧ x * x ≤ B * B := by
  have hB : 0 ≤ B := by omega
  refine ⟨?_, ?_⟩
  · rcases Int.le_total 0 x with h | h
    · exact Int.mul_nonneg h h
    · exact Int.mul_nonneg_of_nonpos_of_nonpos h h
  · rcases Int.le_total 0 x with h | h
    · exact Int.mul_le_mul h2 h2 h hB
    · have h3 : -x ≤ B := by omega
      have h4 : 0 ≤ -x := by omega
      have := Int.mul_le_mul h3 h3 h4 hB
      rw [Int.neg_mul_neg] at this
      exact this

set_option maxRecDepth 100000 in
set_option maxHeartbeats 8000000 in
/-- The law's own walk. -/
theorem fnEnergy_walk (a : Option Addr) (len cap : Nat) (zs : List Int) (w : World) (hr : IsRow .u8 w a len cap zs) :
    Calls Try.prog 11 #[.slice a len cap] w fun e w' => e = .returned (.bool true) ∧ Below w.heap.size w w' := by
  have hlm := hr.len_le
  unfold maxLen at hlm
  by_cases hbig : 1048576 < len
  · have BG := Lib.hid (big_any a len cap hlm)
    have hb : decide (1048576 < (len : Int)) = true := decide_eq_true (by omega)
    rw [hb] at BG
    clear hr hlm hbig hb
    go_enter Try.func11, Try.ntmps11
    go_wp2_with fail
    refine (BG.out _).mono ?_
    rintro e w1 ⟨rfl, hw⟩
    subst hw
    go_wp2
    go_ret
    exact ⟨rfl, Below.refl _ _⟩
  · have hbigF : decide (1048576 < (len : Int)) = false := decide_eq_false (by omega)
    obtain ⟨ys, rfl, hW⟩ := code_of hr (by omega)
    have BG := Lib.hid (big_any a ys.length cap hlm)
    rw [hbigF] at BG
    have AT := Lib.hid fun i hi => at_det a cap ys (by omega) i hi
    have HW := Lib.hid hW
    have F8 := Lib.hid @impl_fast8_any
    obtain ⟨i0, hii, hz0, hz1, hz2⟩ := info_parts Try.iinfo
    have O0 := Lib.hid (own_ints w w.heap.size [] (Nat.le_refl _) (by simp))
    have B0 := Lib.hid (below_new w (.cells (ivs []).toArray 3))
    clear hr hbig hbigF hlm hW
    go_enter Try.func11, Try.ntmps11
    go_wp2_with fail
    refine (BG.out _).mono ?_
    rintro e w1 ⟨rfl, hw⟩
    subst hw
    go_wp2
    go_loopw [3, 4, 5] (fun v s i wr => ∃ (j : Nat) (p : List Int) (t : Int), j ≤ 64 ∧ i = .int .i64 j ∧ s = .int .i64 t ∧ p.length = j ∧ (∀ u, u < j → -155 ≤ p.getD u 0 ∧ p.getD u 0 ≤ 155) ∧ (t = sqS p j ∧ 0 ≤ t ∧ t ≤ 30000 * (j : Int)) ∧ wr.ownsRow w.heap.size 3 1 v j (ivs p) ∧ Below w.heap.size w wr)
      (fun _ _ i _ => 64 - (intOf i).toNat)
    case atStart => exact ⟨0, [], 0, Nat.zero_le _, rfl, rfl, rfl, fun t ht => absurd ht (by omega), ⟨rfl, by decide, by decide⟩, O0.out, B0.out⟩
    case round =>
      obtain ⟨j, p, t, hj, rfl, rfl, hpl, hpr, hps, hown, hbel⟩ := hrel
      have HPL := Lib.hid hpl; have HPR := Lib.hid hpr; have HPS := Lib.hid hps; have HB := Lib.hid hbel; have HO := Lib.hid hown
      clear hpl hpr hps hbel
      by_cases hlt : j < 64
      · have d1 : decide ((j : Int) < 64) = true := by simp; omega
        obtain ⟨x, hx0, hx9, hat⟩ := AT.out j (by omega)
        have AX := Lib.hid (hat wr (HW.out.below HB.out))
        have S0 : w.heap.size ≤ wr.heap.size := HB.out.size
        have hp1 : IntKind.i64.wrap (x - 100) = x - 100 := IntWalk.i64_in _ (by omega)
        obtain ⟨y, hy⟩ : ∃ y, y = x - 100 := ⟨_, rfl⟩
        have hsq := square_range (x := y) (B := 155) (by omega) (by omega)
        have hq1 : IntKind.i64.wrap (y * y) = y * y := IntWalk.i64_in _ (by omega)
        have hts := HPS.out.2
        have hq2 : IntKind.i64.wrap (t + y * y) = t + y * y := IntWalk.i64_in _ (by omega)
        have SN := Lib.hid (sqS_snoc HPL.out y); have R4 := Lib.hid (snoc_bound HPL.out HPR.out (show (-155 : Int) ≤ y by omega) (show y ≤ 155 by omega))
        have HQ := Lib.hid hsq; have HT := Lib.hid hts
        have HW1 : Hid (wrap64 (x - 100) = y) := Lib.hid (by rw [hy]; unfold wrap64; omega)
        clear hat hsq hts hx0 hx9 hy hp1
        go_wp2_with fail
        refine AX.out.mono ?_
        rintro e w1 ⟨rfl, hw⟩
        subst hw
        go_wp2_with (at_builtin; refine append_int wr rfl (.tmp 16) (.tmp 21) 22 rfl w.heap.size 3 i0 Try.underlying22 hii hz0 hz1 hz2 _ _ _ rfl hown y (by rw [HW1.out]) rfl (by omega) S0 ?_; intro v' w' hown' hgr hvb)
        have hgr : World.grownBy wr w' (Value.ownBlock _) := hgr
        have D4 := Lib.hid (HB.out.trans (below_row hgr hown HB.out.size))
        obtain ⟨Av2, cv2, rfl⟩ := own_form2 hown'
        have hl1 : (p ++ [y]).length = j + 1 := by rw [List.length_append, HPL.out]; rfl
        obtain ⟨b2, rfl, hbw2, hbs2, hnc2, hcm2⟩ := own_where' hown' hl1 (by omega)
        unfold maxLen at hcm2
        have cl := own_cells' hown' hl1 j (by omega)
        have e1 : (p ++ [y]).getD j 0 = y := by
          rw [List.getD_eq_getElem?_getD, List.getElem?_append_right (by rw [HPL.out]; omega), HPL.out, Nat.sub_self]
          rfl
        rw [e1] at cl
        have O4 := Lib.hid hown'; have L4 := Lib.hid hl1
        clear hvb hown' hgr hown e1 hl1
        go_wp2
        go_region
        go_wp2
        go_roundw
        case rel => exact ⟨j + 1, p ++ [y], t + y * y, by omega, by go_num, rfl, L4.out, R4.out, ⟨by rw [SN.out, ← HPS.out.1], by have := HQ.out; have := HT.out; omega, by have := HQ.out; have := HT.out; omega⟩, O4.out.drew, D4.out.drew⟩
        case measure => simp [intOf]; omega
      · obtain rfl : j = 64 := by omega
        obtain ⟨Av2, cv2, rfl⟩ := own_form2 hown
        have hfit : fitL 8 p = true := fitL_of HPL.out fun i hi => by have := HPR.out i hi; omega
        have FX := Lib.hid (F8.out Av2 cv2 p wr ((own_back hown HPL.out).ints (by rw [HPL.out]; decide)))
        have hX := xfR_fit true hfit
        have hlX : (mulF 8 (matE 8 true) p).length = 64 := mulF_len _ _ _
        have hbX := mul_bound_eight true (l := p) (B := 155) (by decide) fun i hi => by have := HPR.out i hi; omega
        have hen := energy_eight p
        rw [hX] at FX
        obtain ⟨X, hXe⟩ : ∃ X, X = mulF 8 (matE 8 true) p := ⟨_, rfl⟩
        rw [← hXe] at FX hlX hbX hen
        have HEN : Hid (sqS X 64 = 64 * t) := Lib.hid (by rw [HPS.out.1]; exact hen)
        rw [hlX, HPL.out] at FX
        have HLX := Lib.hid hlX; have HBX := Lib.hid hbX
        have hts := HPS.out.2
        clear hX hXe hlX hbX hen hfit hown HO
        go_wp2_with fail
        refine FX.out.mono ?_
        rintro e w1 ⟨A1, c1, rfl, ho1, hb1⟩
        have X1 := Lib.hid (ho1.ints (by rw [HLX.out]; decide)); have B1 := Lib.hid (below_up HB.out hb1 HB.out.size)
        clear ho1 hb1
        go_wp2
        go_loopw [7, 8] (fun s i wr => ∃ (k : Nat) (u : Int), k ≤ 64 ∧ i = .int .i64 k ∧ s = .int .i64 u ∧ (u = sqS X k ∧ 0 ≤ u ∧ u ≤ 100000000 * (k : Int)) ∧ Below w1.heap.size w1 wr)
          (fun _ i _ => 64 - (intOf i).toNat)
        case atStart => exact ⟨0, 0, Nat.zero_le _, rfl, rfl, ⟨rfl, by decide, by decide⟩, Below.refl _ _⟩
        case round =>
          obtain ⟨k, u, hk, rfl, rfl, hus, hbel⟩ := hrel
          have HU := Lib.hid hus; have B2 := Lib.hid hbel.drew; have B3 := Lib.hid (below_up B1.out hbel B1.out.size)
          have X2 := Lib.hid ((X1.out.below hbel (Nat.le_refl _)).mono hbel.size)
          clear hbel hus
          by_cases hlk : k < 64
          · have d2 : decide ((k : Int) < 64) = true := by simp; omega
            obtain ⟨b, off, rfl, hbb, hc⟩ := X2.out.at k (by rw [HLX.out]; exact hlk)
            have cl := hc k (by rw [HLX.out]; exact hlk)
            have hxr := HBX.out k hlk
            obtain ⟨x, hx⟩ : ∃ x, x = X.getD k 0 := ⟨_, rfl⟩
            rw [← hx] at cl hxr
            have HXX := Lib.hid hx
            have hsq := square_range (x := x) (B := 9920) (by omega) (by omega)
            have hq1 : IntKind.i64.wrap (x * x) = x * x := IntWalk.i64_in _ (by omega)
            have hu := HU.out.2
            have hq2 : IntKind.i64.wrap (u + x * x) = u + x * x := IntWalk.i64_in _ (by omega)
            have HQ := Lib.hid hsq; have HU2 := Lib.hid hu
            clear hc hx hsq hu hxr hts
            go_wp2
            go_region
            go_wp2
            go_roundw
            case rel => exact ⟨k + 1, u + x * x, by omega, by go_num, rfl, ⟨by rw [HU.out.1, HXX.out]; rfl, by have := HQ.out; have := HU2.out; omega, by have := HQ.out; have := HU2.out; omega⟩, B2.out⟩
            case measure => simp [intOf]; omega
          · obtain rfl : k = 64 := by omega
            have hue : u = 64 * t := HU.out.1.trans HEN.out
            have hq3 : IntKind.i64.wrap (64 * t) = 64 * t := IntWalk.i64_in _ (by omega)
            subst hue
            go_wp2
            go_ret
            exact ⟨rfl, B3.out⟩
end Go.Proofs.Ytcmijednpnabmaa
