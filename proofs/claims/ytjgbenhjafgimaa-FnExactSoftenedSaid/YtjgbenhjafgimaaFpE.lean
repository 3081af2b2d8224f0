/-
  Contracts of what the program's FastPred is made of: acrossRows, slopeRows, slidRows, leftSoft. Condition: the side is 4 or 8.
-/
import Derived.Test.YtjgbenhjafgimaaSoB
import Derived.Test.YtjgbenhjafgimaaRep
import Derived.Test.YtjgbenhjafgimaaFpA
namespace Go.Proofs.Ytjgbenhjafgimaa
open Go.RowKit
set_option linter.unusedVariables false

set_option maxRecDepth 100000 in
set_option maxHeartbeats 4000000 in
theorem impl_acrossrows_4 (lb loff : Nat) (cB : Nat) (l : List Int) (hl : l.length = 4) (C : List Int) (hrow : ∀ y, y < 4 → C.take (y * 4 + 4) = C.take (y * 4) ++ List.replicate 4 (l.getD y 0)) (hC : C.length = 16) (w : World) (hlb : lb < w.heap.size) (hlc : ∀ j, j < l.length → w.cell? ⟨lb, loff + j, none⟩ = some (.int .i64 (l.getD j 0))) :
    Calls Try.prog 43 #[.slice (some ⟨lb, loff, none⟩) 4 cB] w fun e w' => ∃ A' c, e = .returned (.slice A' 16 c) ∧ OwnI w' w.heap.size A' c C ∧ Below w.heap.size w w' := by
  obtain ⟨i0, hi, hz0, hz1, hz2⟩ := info_parts Try.iinfo
  have hmk : ∀ w : World, (Instr.makeSlice 24 (.int .i64 0) (.int .i64 16)).run Try.prog w = .ok (.slice (some ⟨w.heap.size, 0, none⟩) 0 16) (w.alloc (.cells (ivs (List.replicate 16 0)).toArray 3)) := fun _ => by kernel_rfl
  obtain ⟨z, hz⟩ : ∃ z : List Int, z = List.replicate 16 0 := ⟨_, rfl⟩
  simp only [← hz] at hmk
  have hzl : (ivs z).length = 16 := by rw [hz]; rfl
  have O0 : Hid ((w.alloc (.cells (ivs z).toArray 3)).ownsRow w.heap.size 3 1 (.slice (some ⟨w.heap.size, 0, none⟩) 0 16) 0 (ivs [])) := Lib.hid (World.ownsRow_made w _ 16 (Nat.le_refl _) (by simp [maxLen]) (by simpa using hzl))
  have B0 := Lib.hid (below_new w (.cells (ivs z).toArray 3))
  have HX := Lib.hid hrow; have HCL := Lib.hid hC; have HLC := Lib.hid hlc; have HLL := Lib.hid hl; have HLB := Lib.hid hlb
  have RP : Hid (∀ (v : Int) (A : Option Addr) (cs : Nat) (w : World), Ints w w.heap.size A [v] → Calls Try.prog 42 #[.slice A 1 cs, .int .i64 4] w fun e w' => ∃ A' c, e = .returned (.slice A' 4 c) ∧ OwnI w' w.heap.size A' c (List.replicate 4 v) ∧ Below w.heap.size w w') := Lib.hid fun v A cs w h => by
    have r := repeat_rows A [v] 4 cs 4 (by simp) (by decide) (by simp) (by decide) w h
    have e : repR [v] 4 = List.replicate 4 v := by simp [repR]
    rw [e] at r
    exact r
  clear hrow hC hlc hl hlb hz hzl
  go_enter Try.func43, Try.ntmps43
  go_wp2
  go_loopw [3, 5, 14] (fun v x5 i wr => ∃ y : Nat, y ≤ 4 ∧ i = .int .i64 y ∧ wr.ownsRow w.heap.size 3 1 v (y * 4) (ivs (C.take (y * 4))) ∧ Below w.heap.size w wr)
    (fun _ _ i _ => 4 - (intOf i).toNat)
  case atStart => exact ⟨0, Nat.zero_le _, rfl, O0.out, B0.out⟩
  case round =>
    obtain ⟨y, hy, rfl, hown, hbel⟩ := hrel
    by_cases hlt : y < 4
    · have d1 : decide ((y : Int) < 4) = true := by simp; omega
      have cy : wr.cell? ⟨lb, loff + y, none⟩ = some (.int .i64 (l.getD y 0)) := by rw [hbel.cell (p := ⟨lb, loff + y, none⟩) HLB.out]; exact HLC.out y (by rw [HLL.out]; exact hlt)
      have hx := HX.out y hlt
      obtain ⟨v, hv⟩ : ∃ v, v = l.getD y 0 := ⟨_, rfl⟩
      rw [← hv] at cy hx
      obtain ⟨R, hR⟩ : ∃ R, R = List.replicate 4 v := ⟨_, rfl⟩
      have RX := Lib.hid (RP.out v)
      have RL : R.length = 4 := by rw [hR]; rfl
      rw [← hR] at hx RX
      have HR := Lib.hid hx; have RLH := Lib.hid RL
      have O1 := Lib.hid (hown.alloc (.cells #[.int .i64 v] 3)); have B1 := Lib.hid (hbel.alloc hbel.size (.cells #[.int .i64 v] 3))
      have IV : Hid (Ints (wr.alloc (.cells #[.int .i64 v] 3)) (wr.alloc (.cells #[.int .i64 v] 3)).heap.size (some ⟨wr.heap.size, 0, none⟩) [v]) := Lib.hid ((own_ints wr wr.heap.size [v] (Nat.le_refl _) (by simp [maxLen])).ints (by simp))
      have y1 : (y : Int) < 4 := by omega
      have y0 : (0 : Int) ≤ (y : Int) := by omega
      obtain ⟨Y, hY⟩ : ∃ Y, Y = y * 4 := ⟨_, rfl⟩
      have hYl : Y ≤ 64 := by omega
      rw [← hY] at O1 HR
      have HY := Lib.hid hY
      clear hown hbel hx hv hR hY RL
      go_wp2_with fail
      refine (RX.out _ _ _ IV.out).mono ?_
      rintro e w2 ⟨A2, c2, rfl, ho2, hb2⟩
      have O2 := Lib.hid (own_keep O1.out hb2); have B2 := Lib.hid (below_up B1.out hb2 B1.out.size)
      have I2 := Lib.hid (ho2.ints (by rw [RLH.out]; decide)); have P2 := Lib.hid ho2.placed
      have RL := RLH.out
      clear ho2 hb2 cy
      go_wp2_with (at_builtin; refine append_ints rfl (.tmp 18) (.tmp 23) 24 rfl w i0 Try.underlying24 hi hz0 hz1 hz2 _ _ _ rfl O2.out _ _ _ _ RLH.out.symm rfl _ I2.out P2.out (by omega) B2.out ?_; intro v' w' hown' hb')
      have hlen := RLH.out
      go_wp2
      go_roundw
      case rel =>
        refine ⟨y + 1, by omega, by go_num, ?_, hb'⟩
        have e : (y + 1) * 4 = Y + 4 := by rw [HY.out]; omega
        rw [e, HR.out]
        exact hown'
      case measure => simp [intOf]; omega
    · have hyn : y = 4 := by omega
      have d1 : decide ((y : Int) < 4) = false := by simp; omega
      rw [hyn, List.take_of_length_le (by rw [HCL.out]; decide)] at hown
      obtain ⟨A3, c3, hv3, ho3⟩ := own_slice hown
      rw [HCL.out] at hv3
      subst hv3
      have O3 := Lib.hid ho3; have B3 := Lib.hid hbel
      clear hown hbel ho3 hyn
      go_wp2
      go_ret
      exact ⟨_, _, rfl, O3.out, B3.out⟩
set_option maxRecDepth 100000 in
set_option maxHeartbeats 4000000 in
theorem impl_sloperows_4 (tb toff : Nat) (cA : Nat) (lb loff : Nat) (cB : Nat) (t l : List Int) (k : Int) (b1 b2 : Bool) (F : Nat → List Int) (hF : ∀ y, (F y).length = 4) (C : List Int) (hrow : ∀ y, y < 4 → C.take (y * 4 + 4) = C.take (y * 4) ++ F y) (hC : C.length = 16) (w : World) (hT : Ints w w.heap.size (some ⟨tb, toff, none⟩) t) (hL : Ints w w.heap.size (some ⟨lb, loff, none⟩) l)
    (SR : Hid (∀ (y : Nat) w, y < 4 → Ints w w.heap.size (some ⟨tb, toff, none⟩) t → Ints w w.heap.size (some ⟨lb, loff, none⟩) l → Calls Try.prog 26 #[.agg #[.slice (some ⟨tb, toff, none⟩) 8 cA, .slice (some ⟨lb, loff, none⟩) 4 cB, .int .i64 k, .bool b1, .bool b2], .int .i64 4, .int .i64 y] w fun e w' => ∃ A' c, e = .returned (.slice A' 4 c) ∧ OwnI w' w.heap.size A' c (F y) ∧ Below w.heap.size w w')) :
    Calls Try.prog 44 #[.agg #[.slice (some ⟨tb, toff, none⟩) 8 cA, .slice (some ⟨lb, loff, none⟩) 4 cB, .int .i64 k, .bool b1, .bool b2], .int .i64 4] w fun e w' => ∃ A' c, e = .returned (.slice A' 16 c) ∧ OwnI w' w.heap.size A' c C ∧ Below w.heap.size w w' := by
  obtain ⟨i0, hi, hz0, hz1, hz2⟩ := info_parts Try.iinfo
  have hmk : ∀ w : World, (Instr.makeSlice 24 (.int .i64 0) (.int .i64 16)).run Try.prog w = .ok (.slice (some ⟨w.heap.size, 0, none⟩) 0 16) (w.alloc (.cells (ivs (List.replicate 16 0)).toArray 3)) := fun _ => by kernel_rfl
  obtain ⟨z, hz⟩ : ∃ z : List Int, z = List.replicate 16 0 := ⟨_, rfl⟩
  simp only [← hz] at hmk
  have hzl : (ivs z).length = 16 := by rw [hz]; rfl
  have HK := Lib.hid (heap_alloc_new w (.cells #[.slice (some ⟨tb, toff, none⟩) 8 cA, .slice (some ⟨lb, loff, none⟩) 4 cB, .int .i64 k, .bool b1, .bool b2] 26))
  have BW := Lib.hid (below_new w (.cells #[.slice (some ⟨tb, toff, none⟩) 8 cA, .slice (some ⟨lb, loff, none⟩) 4 cB, .int .i64 k, .bool b1, .bool b2] 26))
  have hsz : (w.alloc (.cells #[.slice (some ⟨tb, toff, none⟩) 8 cA, .slice (some ⟨lb, loff, none⟩) 4 cB, .int .i64 k, .bool b1, .bool b2] 26)).heap.size = w.heap.size + 1 := by simp
  have O0 : Hid (((w.alloc (.cells #[.slice (some ⟨tb, toff, none⟩) 8 cA, .slice (some ⟨lb, loff, none⟩) 4 cB, .int .i64 k, .bool b1, .bool b2] 26)).alloc (.cells (ivs z).toArray 3)).ownsRow (w.alloc (.cells #[.slice (some ⟨tb, toff, none⟩) 8 cA, .slice (some ⟨lb, loff, none⟩) 4 cB, .int .i64 k, .bool b1, .bool b2] 26)).heap.size 3 1 (.slice (some ⟨w.heap.size + 1, 0, none⟩) 0 16) 0 (ivs [])) := Lib.hid (by
    have h := World.ownsRow_made (base := (w.alloc (.cells #[.slice (some ⟨tb, toff, none⟩) 8 cA, .slice (some ⟨lb, loff, none⟩) 4 cB, .int .i64 k, .bool b1, .bool b2] 26)).heap.size) (e := 3) (size := 1) (w.alloc (.cells #[.slice (some ⟨tb, toff, none⟩) 8 cA, .slice (some ⟨lb, loff, none⟩) 4 cB, .int .i64 k, .bool b1, .bool b2] 26)) (ivs z).toArray 16 (Nat.le_refl _) (by simp [maxLen]) (by simpa using hzl)
    rw [hsz] at h ⊢
    exact h)
  have B0 := Lib.hid (below_new (w.alloc (.cells #[.slice (some ⟨tb, toff, none⟩) 8 cA, .slice (some ⟨lb, loff, none⟩) 4 cB, .int .i64 k, .bool b1, .bool b2] 26)) (.cells (ivs z).toArray 3))
  have KC : Hid (∀ wr, Below (w.alloc (.cells #[.slice (some ⟨tb, toff, none⟩) 8 cA, .slice (some ⟨lb, loff, none⟩) 4 cB, .int .i64 k, .bool b1, .bool b2] 26)).heap.size (w.alloc (.cells #[.slice (some ⟨tb, toff, none⟩) 8 cA, .slice (some ⟨lb, loff, none⟩) 4 cB, .int .i64 k, .bool b1, .bool b2] 26)) wr → wr.heap[w.heap.size]? = some (.cells #[.slice (some ⟨tb, toff, none⟩) 8 cA, .slice (some ⟨lb, loff, none⟩) 4 cB, .int .i64 k, .bool b1, .bool b2] 26 (0, 0))) := Lib.hid fun wr h => by
    rw [h.block w.heap.size (by rw [hsz]; omega)]; exact HK.out
  have BB : Hid (∀ wr, Below (w.alloc (.cells #[.slice (some ⟨tb, toff, none⟩) 8 cA, .slice (some ⟨lb, loff, none⟩) 4 cB, .int .i64 k, .bool b1, .bool b2] 26)).heap.size (w.alloc (.cells #[.slice (some ⟨tb, toff, none⟩) 8 cA, .slice (some ⟨lb, loff, none⟩) 4 cB, .int .i64 k, .bool b1, .bool b2] 26)) wr → Below w.heap.size w wr) := Lib.hid fun wr h => BW.out.trans (h.mono (by rw [hsz]; omega))
  have I1 : Hid (∀ wr, Below w.heap.size w wr → Ints wr wr.heap.size (some ⟨tb, toff, none⟩) t) := Lib.hid fun wr h => (hT.below h (Nat.le_refl _)).mono h.size
  have I2 : Hid (∀ wr, Below w.heap.size w wr → Ints wr wr.heap.size (some ⟨lb, loff, none⟩) l) := Lib.hid fun wr h => (hL.below h (Nat.le_refl _)).mono h.size
  have HX := Lib.hid hrow; have HCL := Lib.hid hC; have HF := Lib.hid hF
  have HLO : Hid (w.heap.size ≤ (w.alloc (.cells #[.slice (some ⟨tb, toff, none⟩) 8 cA, .slice (some ⟨lb, loff, none⟩) 4 cB, .int .i64 k, .bool b1, .bool b2] 26)).heap.size) := Lib.hid (by rw [hsz]; omega)
  clear hrow hC hF hz hzl hsz hT hL
  go_enter Try.func44, Try.ntmps44
  go_wp2
  go_loopw [5, 6, 12] (fun v x6 i wr => ∃ y : Nat, y ≤ 4 ∧ i = .int .i64 y ∧ wr.ownsRow (w.alloc (.cells #[.slice (some ⟨tb, toff, none⟩) 8 cA, .slice (some ⟨lb, loff, none⟩) 4 cB, .int .i64 k, .bool b1, .bool b2] 26)).heap.size 3 1 v (y * 4) (ivs (C.take (y * 4))) ∧ Below (w.alloc (.cells #[.slice (some ⟨tb, toff, none⟩) 8 cA, .slice (some ⟨lb, loff, none⟩) 4 cB, .int .i64 k, .bool b1, .bool b2] 26)).heap.size (w.alloc (.cells #[.slice (some ⟨tb, toff, none⟩) 8 cA, .slice (some ⟨lb, loff, none⟩) 4 cB, .int .i64 k, .bool b1, .bool b2] 26)) wr)
    (fun _ _ i _ => 4 - (intOf i).toNat)
  case atStart => exact ⟨0, Nat.zero_le _, rfl, O0.out, B0.out⟩
  case round =>
    obtain ⟨y, hy, rfl, hown, hbel⟩ := hrel
    by_cases hlt : y < 4
    · have d1 : decide ((y : Int) < 4) = true := by simp; omega
      obtain ⟨c0, c1, c2, c3, c4⟩ := cells5 (KC.out _ hbel)
      have hx := HX.out y hlt
      have RX := Lib.hid fun w h1 h2 => SR.out y w hlt h1 h2
      have RL := HF.out y
      obtain ⟨R, hR⟩ : ∃ R, R = F y := ⟨_, rfl⟩
      rw [← hR] at hx RX RL
      have HR := Lib.hid hx; have RLH := Lib.hid RL
      have O1 := Lib.hid hown; have B1 := Lib.hid hbel
      obtain ⟨Y, hY⟩ : ∃ Y, Y = y * 4 := ⟨_, rfl⟩
      have hYl : Y ≤ 64 := by omega
      rw [← hY] at O1 HR
      have HY := Lib.hid hY
      clear hown hbel hx hR hY RL
      go_wp2_with fail
      refine (RX.out _ (I1.out _ (BB.out _ B1.out)) (I2.out _ (BB.out _ B1.out))).mono ?_
      rintro e w2 ⟨A2, c2', rfl, ho2, hb2⟩
      have O2 := Lib.hid (own_keep O1.out hb2); have B2 := Lib.hid (below_up B1.out hb2 B1.out.size)
      have I2' := Lib.hid (ho2.ints (by rw [RLH.out]; decide)); have P2 := Lib.hid ho2.placed
      have RL := RLH.out
      clear ho2 hb2 c0 c1 c2 c3 c4
      go_wp2_with (at_builtin; refine append_ints rfl (.tmp 15) (.tmp 19) 24 rfl (w.alloc (.cells #[.slice (some ⟨tb, toff, none⟩) 8 cA, .slice (some ⟨lb, loff, none⟩) 4 cB, .int .i64 k, .bool b1, .bool b2] 26)) i0 Try.underlying24 hi hz0 hz1 hz2 _ _ _ rfl O2.out _ _ _ _ RLH.out.symm rfl _ I2'.out P2.out (by omega) B2.out ?_; intro v' w' hown' hb')
      have hlen := RLH.out
      go_wp2
      go_roundw
      case rel =>
        refine ⟨y + 1, by omega, by go_num, ?_, hb'⟩
        have e : (y + 1) * 4 = Y + 4 := by rw [HY.out]; omega
        rw [e, HR.out]
        exact hown'
      case measure => simp [intOf]; omega
    · have hyn : y = 4 := by omega
      have d1 : decide ((y : Int) < 4) = false := by simp; omega
      rw [hyn, List.take_of_length_le (by rw [HCL.out]; decide)] at hown
      obtain ⟨A3, c3, hv3, ho3⟩ := own_slice hown
      rw [HCL.out] at hv3
      subst hv3
      have O3 := Lib.hid ho3; have B3 := Lib.hid (BB.out _ hbel)
      clear hown hbel ho3 hyn
      go_wp2
      go_ret
      exact ⟨_, _, rfl, own_lower O3.out HLO.out, B3.out⟩
set_option maxRecDepth 100000 in
set_option maxHeartbeats 4000000 in
theorem impl_slidrows_4 (sb soff sc : Nat) (S : List Int) (hS : S.length = 7) (hsc : 7 ≤ sc) (st : Nat → Int) (p : Nat → Nat) (d : Int) (hst : ∀ y, y < 4 → st y = (p y : Int) ∧ p y + 4 ≤ 7 ∧ st y + d = st (y + 1)) (hd : -10 ≤ d ∧ d ≤ 10) (s0 : Int) (hs0 : s0 = st 0) (C : List Int) (hrow : ∀ y, y < 4 → C.take (y * 4 + 4) = C.take (y * 4) ++ (S.drop (p y)).take 4) (hC : C.length = 16) (w : World) (hsb : sb < w.heap.size) (hsv : ∀ j, j < S.length → w.cell? ⟨sb, soff + j, none⟩ = some (.int .i64 (S.getD j 0))) :
    Calls Try.prog 45 #[.slice (some ⟨sb, soff, none⟩) 7 sc, .int .i64 4, .int .i64 s0, .int .i64 d] w fun e w' => ∃ A' c, e = .returned (.slice A' 16 c) ∧ OwnI w' w.heap.size A' c C ∧ Below w.heap.size w w' := by
  obtain ⟨i0, hi, hz0, hz1, hz2⟩ := info_parts Try.iinfo
  have hmk : ∀ w : World, (Instr.makeSlice 24 (.int .i64 0) (.int .i64 16)).run Try.prog w = .ok (.slice (some ⟨w.heap.size, 0, none⟩) 0 16) (w.alloc (.cells (ivs (List.replicate 16 0)).toArray 3)) := fun _ => by kernel_rfl
  obtain ⟨z, hz⟩ : ∃ z : List Int, z = List.replicate 16 0 := ⟨_, rfl⟩
  simp only [← hz] at hmk
  have hzl : (ivs z).length = 16 := by rw [hz]; rfl
  have O0 : Hid ((w.alloc (.cells (ivs z).toArray 3)).ownsRow w.heap.size 3 1 (.slice (some ⟨w.heap.size, 0, none⟩) 0 16) 0 (ivs [])) := Lib.hid (World.ownsRow_made w _ 16 (Nat.le_refl _) (by simp [maxLen]) (by simpa using hzl))
  have B0 := Lib.hid (below_new w (.cells (ivs z).toArray 3))
  have HX := Lib.hid hrow; have HCL := Lib.hid hC; have HSV := Lib.hid hsv; have HSL := Lib.hid hS; have HSB := Lib.hid hsb; have HST := Lib.hid hst; have H0 := Lib.hid hs0
  clear hrow hC hsv hS hsb hst hz hzl hs0
  go_enter Try.func45, Try.ntmps45
  go_wp2
  go_loopw [2, 9, 15] (fun s v i wr => ∃ (y : Nat) (a : Int), y ≤ 4 ∧ a = st y ∧ s = .int .i64 a ∧ i = .int .i64 y ∧ wr.ownsRow w.heap.size 3 1 v (y * 4) (ivs (C.take (y * 4))) ∧ Below w.heap.size w wr)
    (fun _ _ i _ => 4 - (intOf i).toNat)
  case atStart => exact ⟨0, _, Nat.zero_le _, H0.out, rfl, rfl, O0.out, B0.out⟩
  case round =>
    obtain ⟨y, a, hy, ha, rfl, rfl, hown, hbel⟩ := hrel
    by_cases hlt : y < 4
    · have d1 : decide ((y : Int) < 4) = true := by simp; omega
      obtain ⟨g1, g2, g3⟩ := HST.out y hlt
      have hx := HX.out y hlt
      obtain ⟨q, hq⟩ : ∃ q, q = p y := ⟨_, rfl⟩
      rw [← hq] at g1 g2 hx
      rw [g1] at ha g3
      have HG := Lib.hid g3
      subst ha
      obtain ⟨R, hR⟩ : ∃ R, R = (S.drop q).take 4 := ⟨_, rfl⟩
      have I2 : Hid (Ints wr wr.heap.size (some ⟨sb, soff + q, none⟩) R) := Lib.hid (by
        rw [hR]
        refine ⟨by rw [List.length_take]; omega, .inr ⟨sb, soff + q, rfl, Nat.lt_of_lt_of_le HSB.out hbel.size, fun j hj => ?_⟩⟩
        rw [List.length_take, List.length_drop] at hj
        rw [hbel.cell (p := ⟨sb, soff + q + j, none⟩) HSB.out, Nat.add_assoc, HSV.out (q + j) (by omega), drop_take_at (by omega)])
      have RL : R.length = 4 := by rw [hR, List.length_take, List.length_drop, HSL.out]; omega
      rw [← hR] at hx
      have HR := Lib.hid hx; have RLH := Lib.hid RL
      have O1 := Lib.hid hown; have B1 := Lib.hid hbel
      obtain ⟨Y, hY⟩ : ∃ Y, Y = y * 4 := ⟨_, rfl⟩
      have hYl : Y ≤ 64 := by omega
      rw [← hY] at O1 HR
      have HY := Lib.hid hY
      have hne : ¬ sc = q := by omega
      have ha0 : (q : Int) ≤ (q : Int) + 4 := by omega
      have ha1 : (q : Int) + 4 ≤ (sc : Int) := by omega
      have ha2 : q + 4 ≤ sc := by omega
      have haw : IntKind.i64.wrap ((q : Int) + 4) = (q : Int) + 4 := IntWalk.i64_in _ (by omega)
      have hdw : IntKind.i64.wrap ((q : Int) + d) = (q : Int) + d := IntWalk.i64_in _ (by omega)
      have hat : ((q : Int) + 4).toNat = q + 4 := by omega
      have had : q + 4 - q = 4 := by omega
      clear hown hbel hx hR hY RL g1 g3 hq
      have RL := RLH.out
      go_wp2_with (at_builtin; refine append_ints rfl (.tmp 17) (.tmp 23) 24 rfl w i0 Try.underlying24 hi hz0 hz1 hz2 _ _ _ rfl O1.out _ _ _ _ RLH.out.symm rfl _ I2.out (fun h => by cases h) (by omega) B1.out ?_; intro v' w' hown' hb')
      go_wp2
      go_roundw
      case rel =>
        refine ⟨y + 1, _, by omega, HG.out, rfl, by go_num, ?_, hb'⟩
        have e : (y + 1) * 4 = Y + 4 := by rw [HY.out]; omega
        rw [e, HR.out]
        exact hown'
      case measure => simp [intOf]; omega
    · have hyn : y = 4 := by omega
      have d1 : decide ((y : Int) < 4) = false := by simp; omega
      rw [hyn, List.take_of_length_le (by rw [HCL.out]; decide)] at hown
      obtain ⟨A3, c3, hv3, ho3⟩ := own_slice hown
      rw [HCL.out] at hv3
      subst hv3
      have O3 := Lib.hid ho3; have B3 := Lib.hid hbel
      clear hown hbel ho3 hyn ha
      go_wp2
      go_ret
      exact ⟨_, _, rfl, O3.out, B3.out⟩
set_option maxRecDepth 100000 in
set_option maxHeartbeats 4000000 in
theorem impl_leftsoft_4 (tb toff : Nat) (cA : Nat) (t : List Int) (ht : t.length = 8) (w : World) (htb : tb < w.heap.size) (htc : ∀ j, j < t.length → w.cell? ⟨tb, toff + j, none⟩ = some (.int .i64 (t.getD j 0))) :
    Calls Try.prog 46 #[.slice (some ⟨tb, toff, none⟩) 8 cA] w fun e w' => ∃ A' c, e = .returned (.slice A' 7 c) ∧ OwnI w' w.heap.size A' c (soL (t ++ [t.getD 7 0])) ∧ Below w.heap.size w w' := by
  have cl := htc 7 (by omega)
  obtain ⟨x, hx⟩ : ∃ x, x = t.getD 7 0 := ⟨_, rfl⟩
  rw [← hx] at cl ⊢
  have HT : Hid (Ints w w.heap.size (some ⟨tb, toff, none⟩) t) := Lib.hid ⟨by omega, .inr ⟨tb, toff, rfl, htb, htc⟩⟩
  -- the worlds behind the list of the last one and the list of the two lists
  have b2 := below_two w (.cells #[.int .i64 x] 3) (.cells #[.slice (some ⟨tb, toff, none⟩) 8 cA, .slice (some ⟨w.heap.size, 0, none⟩) 1 1] 24)
  have h2 := heap_two w (.cells #[.int .i64 x] 3) (.cells #[.slice (some ⟨tb, toff, none⟩) 8 cA, .slice (some ⟨w.heap.size, 0, none⟩) 1 1] 24)
  obtain ⟨W2, hW2⟩ : ∃ W2, W2 = ((w.alloc (.cells #[.int .i64 x] 3)).alloc (.cells #[.slice (some ⟨tb, toff, none⟩) 8 cA, .slice (some ⟨w.heap.size, 0, none⟩) 1 1] 24)) := ⟨_, rfl⟩
  have hsz : W2.heap.size = w.heap.size + 1 + 1 := by rw [hW2]; simp
  rw [← hW2] at b2 h2
  have e0 := cell_of_row W2 (w.heap.size + 1) 0 _ _ _ h2.2
  have e1 := cell_of_row W2 (w.heap.size + 1) 1 _ _ _ h2.2
  have f0 := cell_of_row W2 w.heap.size 0 _ _ _ h2.1
  have CC : Hid (∀ cc, Calls Try.prog 77 #[.slice (some ⟨w.heap.size + 1, 0, none⟩) 2 cc] W2 fun e w' => ∃ A cap, e = .returned (.slice A 9 cap) ∧ OwnI w' W2.heap.size A cap (t ++ [x]) ∧ Below W2.heap.size W2 w') := Lib.hid fun cc => by
    have e : catN (fun j => if j = 0 then t else [x]) 2 = t ++ [x] := by simp [catN]
    have r := concat_any 2 (by decide) (w.heap.size + 1) (fun j => if j = 0 then some ⟨tb, toff, none⟩ else some ⟨w.heap.size, 0, none⟩) (fun j => if j = 0 then t else [x]) (fun j => if j = 0 then cA else 1) (by rw [e, List.length_append, ht]; simp) cc W2 (by omega)
      (fun j hj => by
        rcases (show j = 0 ∨ j = 1 by omega) with rfl | rfl
        · rw [if_pos rfl, if_pos rfl, if_pos rfl, ht]; exact e0
        · rw [if_neg (by decide), if_neg (by decide), if_neg (by decide)]; exact e1)
      (fun j hj => by
        rcases (show j = 0 ∨ j = 1 by omega) with rfl | rfl
        · rw [if_pos rfl, if_pos rfl]; exact (HT.out.below b2 (Nat.le_refl _)).mono b2.size
        · rw [if_neg (by decide), if_neg (by decide)]
          refine ⟨by simp, .inr ⟨w.heap.size, 0, rfl, by omega, fun i hi => ?_⟩⟩
          obtain rfl : i = 0 := by simpa using hi
          exact f0)
      (fun j hj => by
        rcases (show j = 0 ∨ j = 1 by omega) with rfl | rfl
        · rw [if_pos rfl]; intro h; cases h
        · rw [if_neg (by decide)]; intro h; cases h)
    rw [e, show (t ++ [x]).length = 9 by rw [List.length_append, ht]; rfl] at r
    exact r
  have SO := Lib.hid fun A c w h => impl_softened_any A c (t ++ [x]) (by rw [List.length_append, ht]; simp) w h
  rw [soL_len, show (t ++ [x]).length = 9 by rw [List.length_append, ht]; rfl] at SO
  have LL : Hid ((t ++ [x]).length = 9) := Lib.hid (by rw [List.length_append, ht]; rfl)
  have B2 := Lib.hid b2
  have HSZ : Hid (w.heap.size ≤ W2.heap.size) := Lib.hid b2.size
  rw [hW2] at CC B2 HSZ
  clear hx htc htb ht b2 h2 hsz e0 e1 f0 hW2
  go_enter Try.func46, Try.ntmps46
  go_wp2_with fail
  refine (CC.out _).mono ?_
  rintro e w3 ⟨A3, c3, rfl, ho3, hb3⟩
  have B3 := Lib.hid (below_up B2.out hb3 B2.out.size)
  have I3 := Lib.hid (ho3.ints (by rw [LL.out]; decide))
  clear ho3 hb3
  go_wp2_with fail
  refine (SO.out _ _ _ I3.out).mono ?_
  rintro e w4 ⟨A4, c4, rfl, ho4, hb4⟩
  have B4 := Lib.hid (below_up B3.out hb4 B3.out.size)
  have O4 := Lib.hid (own_lower ho4 B3.out.size)
  clear ho4 hb4
  go_wp2
  go_ret
  exact ⟨_, _, rfl, O4.out, B4.out⟩
set_option maxRecDepth 100000 in
set_option maxHeartbeats 4000000 in
theorem impl_acrossrows_8 (lb loff : Nat) (cB : Nat) (l : List Int) (hl : l.length = 8) (C : List Int) (hrow : ∀ y, y < 8 → C.take (y * 8 + 8) = C.take (y * 8) ++ List.replicate 8 (l.getD y 0)) (hC : C.length = 64) (w : World) (hlb : lb < w.heap.size) (hlc : ∀ j, j < l.length → w.cell? ⟨lb, loff + j, none⟩ = some (.int .i64 (l.getD j 0))) :
    Calls Try.prog 43 #[.slice (some ⟨lb, loff, none⟩) 8 cB] w fun e w' => ∃ A' c, e = .returned (.slice A' 64 c) ∧ OwnI w' w.heap.size A' c C ∧ Below w.heap.size w w' := by
  obtain ⟨i0, hi, hz0, hz1, hz2⟩ := info_parts Try.iinfo
  have hmk : ∀ w : World, (Instr.makeSlice 24 (.int .i64 0) (.int .i64 64)).run Try.prog w = .ok (.slice (some ⟨w.heap.size, 0, none⟩) 0 64) (w.alloc (.cells (ivs (List.replicate 64 0)).toArray 3)) := fun _ => by kernel_rfl
  obtain ⟨z, hz⟩ : ∃ z : List Int, z = List.replicate 64 0 := ⟨_, rfl⟩
  simp only [← hz] at hmk
  have hzl : (ivs z).length = 64 := by rw [hz]; rfl
  have O0 : Hid ((w.alloc (.cells (ivs z).toArray 3)).ownsRow w.heap.size 3 1 (.slice (some ⟨w.heap.size, 0, none⟩) 0 64) 0 (ivs [])) := Lib.hid (World.ownsRow_made w _ 64 (Nat.le_refl _) (by simp [maxLen]) (by simpa using hzl))
  have B0 := Lib.hid (below_new w (.cells (ivs z).toArray 3))
  have HX := Lib.hid hrow; have HCL := Lib.hid hC; have HLC := Lib.hid hlc; have HLL := Lib.hid hl; have HLB := Lib.hid hlb
  have RP : Hid (∀ (v : Int) (A : Option Addr) (cs : Nat) (w : World), Ints w w.heap.size A [v] → Calls Try.prog 42 #[.slice A 1 cs, .int .i64 8] w fun e w' => ∃ A' c, e = .returned (.slice A' 8 c) ∧ OwnI w' w.heap.size A' c (List.replicate 8 v) ∧ Below w.heap.size w w') := Lib.hid fun v A cs w h => by
    have r := repeat_rows A [v] 8 cs 8 (by simp) (by decide) (by simp) (by decide) w h
    have e : repR [v] 8 = List.replicate 8 v := by simp [repR]
    rw [e] at r
    exact r
  clear hrow hC hlc hl hlb hz hzl
  go_enter Try.func43, Try.ntmps43
  go_wp2
  go_loopw [3, 5, 14] (fun v x5 i wr => ∃ y : Nat, y ≤ 8 ∧ i = .int .i64 y ∧ wr.ownsRow w.heap.size 3 1 v (y * 8) (ivs (C.take (y * 8))) ∧ Below w.heap.size w wr)
    (fun _ _ i _ => 8 - (intOf i).toNat)
  case atStart => exact ⟨0, Nat.zero_le _, rfl, O0.out, B0.out⟩
  case round =>
    obtain ⟨y, hy, rfl, hown, hbel⟩ := hrel
    by_cases hlt : y < 8
    · have d1 : decide ((y : Int) < 8) = true := by simp; omega
      have cy : wr.cell? ⟨lb, loff + y, none⟩ = some (.int .i64 (l.getD y 0)) := by rw [hbel.cell (p := ⟨lb, loff + y, none⟩) HLB.out]; exact HLC.out y (by rw [HLL.out]; exact hlt)
      have hx := HX.out y hlt
      obtain ⟨v, hv⟩ : ∃ v, v = l.getD y 0 := ⟨_, rfl⟩
      rw [← hv] at cy hx
      obtain ⟨R, hR⟩ : ∃ R, R = List.replicate 8 v := ⟨_, rfl⟩
      have RX := Lib.hid (RP.out v)
      have RL : R.length = 8 := by rw [hR]; rfl
      rw [← hR] at hx RX
      have HR := Lib.hid hx; have RLH := Lib.hid RL
      have O1 := Lib.hid (hown.alloc (.cells #[.int .i64 v] 3)); have B1 := Lib.hid (hbel.alloc hbel.size (.cells #[.int .i64 v] 3))
      have IV : Hid (Ints (wr.alloc (.cells #[.int .i64 v] 3)) (wr.alloc (.cells #[.int .i64 v] 3)).heap.size (some ⟨wr.heap.size, 0, none⟩) [v]) := Lib.hid ((own_ints wr wr.heap.size [v] (Nat.le_refl _) (by simp [maxLen])).ints (by simp))
      have y1 : (y : Int) < 8 := by omega
      have y0 : (0 : Int) ≤ (y : Int) := by omega
      obtain ⟨Y, hY⟩ : ∃ Y, Y = y * 8 := ⟨_, rfl⟩
      have hYl : Y ≤ 64 := by omega
      rw [← hY] at O1 HR
      have HY := Lib.hid hY
      clear hown hbel hx hv hR hY RL
      go_wp2_with fail
      refine (RX.out _ _ _ IV.out).mono ?_
      rintro e w2 ⟨A2, c2, rfl, ho2, hb2⟩
      have O2 := Lib.hid (own_keep O1.out hb2); have B2 := Lib.hid (below_up B1.out hb2 B1.out.size)
      have I2 := Lib.hid (ho2.ints (by rw [RLH.out]; decide)); have P2 := Lib.hid ho2.placed
      have RL := RLH.out
      clear ho2 hb2 cy
      go_wp2_with (at_builtin; refine append_ints rfl (.tmp 18) (.tmp 23) 24 rfl w i0 Try.underlying24 hi hz0 hz1 hz2 _ _ _ rfl O2.out _ _ _ _ RLH.out.symm rfl _ I2.out P2.out (by omega) B2.out ?_; intro v' w' hown' hb')
      have hlen := RLH.out
      go_wp2
      go_roundw
      case rel =>
        refine ⟨y + 1, by omega, by go_num, ?_, hb'⟩
        have e : (y + 1) * 8 = Y + 8 := by rw [HY.out]; omega
        rw [e, HR.out]
        exact hown'
      case measure => simp [intOf]; omega
    · have hyn : y = 8 := by omega
      have d1 : decide ((y : Int) < 8) = false := by simp; omega
      rw [hyn, List.take_of_length_le (by rw [HCL.out]; decide)] at hown
      obtain ⟨A3, c3, hv3, ho3⟩ := own_slice hown
      rw [HCL.out] at hv3
      subst hv3
      have O3 := Lib.hid ho3; have B3 := Lib.hid hbel
      clear hown hbel ho3 hyn
      go_wp2
      go_ret
      exact ⟨_, _, rfl, O3.out, B3.out⟩
set_option maxRecDepth 100000 in
set_option maxHeartbeats 4000000 in
theorem impl_sloperows_8 (tb toff : Nat) (cA : Nat) (lb loff : Nat) (cB : Nat) (t l : List Int) (k : Int) (b1 b2 : Bool) (F : Nat → List Int) (hF : ∀ y, (F y).length = 8) (C : List Int) (hrow : ∀ y, y < 8 → C.take (y * 8 + 8) = C.take (y * 8) ++ F y) (hC : C.length = 64) (w : World) (hT : Ints w w.heap.size (some ⟨tb, toff, none⟩) t) (hL : Ints w w.heap.size (some ⟨lb, loff, none⟩) l)
    (SR : Hid (∀ (y : Nat) w, y < 8 → Ints w w.heap.size (some ⟨tb, toff, none⟩) t → Ints w w.heap.size (some ⟨lb, loff, none⟩) l → Calls Try.prog 26 #[.agg #[.slice (some ⟨tb, toff, none⟩) 16 cA, .slice (some ⟨lb, loff, none⟩) 8 cB, .int .i64 k, .bool b1, .bool b2], .int .i64 8, .int .i64 y] w fun e w' => ∃ A' c, e = .returned (.slice A' 8 c) ∧ OwnI w' w.heap.size A' c (F y) ∧ Below w.heap.size w w')) :
    Calls Try.prog 44 #[.agg #[.slice (some ⟨tb, toff, none⟩) 16 cA, .slice (some ⟨lb, loff, none⟩) 8 cB, .int .i64 k, .bool b1, .bool b2], .int .i64 8] w fun e w' => ∃ A' c, e = .returned (.slice A' 64 c) ∧ OwnI w' w.heap.size A' c C ∧ Below w.heap.size w w' := by
  obtain ⟨i0, hi, hz0, hz1, hz2⟩ := info_parts Try.iinfo
  have hmk : ∀ w : World, (Instr.makeSlice 24 (.int .i64 0) (.int .i64 64)).run Try.prog w = .ok (.slice (some ⟨w.heap.size, 0, none⟩) 0 64) (w.alloc (.cells (ivs (List.replicate 64 0)).toArray 3)) := fun _ => by kernel_rfl
  obtain ⟨z, hz⟩ : ∃ z : List Int, z = List.replicate 64 0 := ⟨_, rfl⟩
  simp only [← hz] at hmk
  have hzl : (ivs z).length = 64 := by rw [hz]; rfl
  have HK := Lib.hid (heap_alloc_new w (.cells #[.slice (some ⟨tb, toff, none⟩) 16 cA, .slice (some ⟨lb, loff, none⟩) 8 cB, .int .i64 k, .bool b1, .bool b2] 26))
  have BW := Lib.hid (below_new w (.cells #[.slice (some ⟨tb, toff, none⟩) 16 cA, .slice (some ⟨lb, loff, none⟩) 8 cB, .int .i64 k, .bool b1, .bool b2] 26))
  have hsz : (w.alloc (.cells #[.slice (some ⟨tb, toff, none⟩) 16 cA, .slice (some ⟨lb, loff, none⟩) 8 cB, .int .i64 k, .bool b1, .bool b2] 26)).heap.size = w.heap.size + 1 := by simp
  have O0 : Hid (((w.alloc (.cells #[.slice (some ⟨tb, toff, none⟩) 16 cA, .slice (some ⟨lb, loff, none⟩) 8 cB, .int .i64 k, .bool b1, .bool b2] 26)).alloc (.cells (ivs z).toArray 3)).ownsRow (w.alloc (.cells #[.slice (some ⟨tb, toff, none⟩) 16 cA, .slice (some ⟨lb, loff, none⟩) 8 cB, .int .i64 k, .bool b1, .bool b2] 26)).heap.size 3 1 (.slice (some ⟨w.heap.size + 1, 0, none⟩) 0 64) 0 (ivs [])) := Lib.hid (by
    have h := World.ownsRow_made (base := (w.alloc (.cells #[.slice (some ⟨tb, toff, none⟩) 16 cA, .slice (some ⟨lb, loff, none⟩) 8 cB, .int .i64 k, .bool b1, .bool b2] 26)).heap.size) (e := 3) (size := 1) (w.alloc (.cells #[.slice (some ⟨tb, toff, none⟩) 16 cA, .slice (some ⟨lb, loff, none⟩) 8 cB, .int .i64 k, .bool b1, .bool b2] 26)) (ivs z).toArray 64 (Nat.le_refl _) (by simp [maxLen]) (by simpa using hzl)
    rw [hsz] at h ⊢
    exact h)
  have B0 := Lib.hid (below_new (w.alloc (.cells #[.slice (some ⟨tb, toff, none⟩) 16 cA, .slice (some ⟨lb, loff, none⟩) 8 cB, .int .i64 k, .bool b1, .bool b2] 26)) (.cells (ivs z).toArray 3))
  have KC : Hid (∀ wr, Below (w.alloc (.cells #[.slice (some ⟨tb, toff, none⟩) 16 cA, .slice (some ⟨lb, loff, none⟩) 8 cB, .int .i64 k, .bool b1, .bool b2] 26)).heap.size (w.alloc (.cells #[.slice (some ⟨tb, toff, none⟩) 16 cA, .slice (some ⟨lb, loff, none⟩) 8 cB, .int .i64 k, .bool b1, .bool b2] 26)) wr → wr.heap[w.heap.size]? = some (.cells #[.slice (some ⟨tb, toff, none⟩) 16 cA, .slice (some ⟨lb, loff, none⟩) 8 cB, .int .i64 k, .bool b1, .bool b2] 26 (0, 0))) := Lib.hid fun wr h => by
    rw [h.block w.heap.size (by rw [hsz]; omega)]; exact HK.out
  have BB : Hid (∀ wr, Below (w.alloc (.cells #[.slice (some ⟨tb, toff, none⟩) 16 cA, .slice (some ⟨lb, loff, none⟩) 8 cB, .int .i64 k, .bool b1, .bool b2] 26)).heap.size (w.alloc (.cells #[.slice (some ⟨tb, toff, none⟩) 16 cA, .slice (some ⟨lb, loff, none⟩) 8 cB, .int .i64 k, .bool b1, .bool b2] 26)) wr → Below w.heap.size w wr) := Lib.hid fun wr h => BW.out.trans (h.mono (by rw [hsz]; omega))
  have I1 : Hid (∀ wr, Below w.heap.size w wr → Ints wr wr.heap.size (some ⟨tb, toff, none⟩) t) := Lib.hid fun wr h => (hT.below h (Nat.le_refl _)).mono h.size
  have I2 : Hid (∀ wr, Below w.heap.size w wr → Ints wr wr.heap.size (some ⟨lb, loff, none⟩) l) := Lib.hid fun wr h => (hL.below h (Nat.le_refl _)).mono h.size
  have HX := Lib.hid hrow; have HCL := Lib.hid hC; have HF := Lib.hid hF
  have HLO : Hid (w.heap.size ≤ (w.alloc (.cells #[.slice (some ⟨tb, toff, none⟩) 16 cA, .slice (some ⟨lb, loff, none⟩) 8 cB, .int .i64 k, .bool b1, .bool b2] 26)).heap.size) := Lib.hid (by rw [hsz]; omega)
  clear hrow hC hF hz hzl hsz hT hL
  go_enter Try.func44, Try.ntmps44
  go_wp2
  go_loopw [5, 6, 12] (fun v x6 i wr => ∃ y : Nat, y ≤ 8 ∧ i = .int .i64 y ∧ wr.ownsRow (w.alloc (.cells #[.slice (some ⟨tb, toff, none⟩) 16 cA, .slice (some ⟨lb, loff, none⟩) 8 cB, .int .i64 k, .bool b1, .bool b2] 26)).heap.size 3 1 v (y * 8) (ivs (C.take (y * 8))) ∧ Below (w.alloc (.cells #[.slice (some ⟨tb, toff, none⟩) 16 cA, .slice (some ⟨lb, loff, none⟩) 8 cB, .int .i64 k, .bool b1, .bool b2] 26)).heap.size (w.alloc (.cells #[.slice (some ⟨tb, toff, none⟩) 16 cA, .slice (some ⟨lb, loff, none⟩) 8 cB, .int .i64 k, .bool b1, .bool b2] 26)) wr)
    (fun _ _ i _ => 8 - (intOf i).toNat)
  case atStart => exact ⟨0, Nat.zero_le _, rfl, O0.out, B0.out⟩
  case round =>
    obtain ⟨y, hy, rfl, hown, hbel⟩ := hrel
    by_cases hlt : y < 8
    · have d1 : decide ((y : Int) < 8) = true := by simp; omega
      obtain ⟨c0, c1, c2, c3, c4⟩ := cells5 (KC.out _ hbel)
      have hx := HX.out y hlt
      have RX := Lib.hid fun w h1 h2 => SR.out y w hlt h1 h2
      have RL := HF.out y
      obtain ⟨R, hR⟩ : ∃ R, R = F y := ⟨_, rfl⟩
      rw [← hR] at hx RX RL
      have HR := Lib.hid hx; have RLH := Lib.hid RL
      have O1 := Lib.hid hown; have B1 := Lib.hid hbel
      obtain ⟨Y, hY⟩ : ∃ Y, Y = y * 8 := ⟨_, rfl⟩
      have hYl : Y ≤ 64 := by omega
      rw [← hY] at O1 HR
      have HY := Lib.hid hY
      clear hown hbel hx hR hY RL
      go_wp2_with fail
      refine (RX.out _ (I1.out _ (BB.out _ B1.out)) (I2.out _ (BB.out _ B1.out))).mono ?_
      rintro e w2 ⟨A2, c2', rfl, ho2, hb2⟩
      have O2 := Lib.hid (own_keep O1.out hb2); have B2 := Lib.hid (below_up B1.out hb2 B1.out.size)
      have I2' := Lib.hid (ho2.ints (by rw [RLH.out]; decide)); have P2 := Lib.hid ho2.placed
      have RL := RLH.out
      clear ho2 hb2 c0 c1 c2 c3 c4
      go_wp2_with (at_builtin; refine append_ints rfl (.tmp 15) (.tmp 19) 24 rfl (w.alloc (.cells #[.slice (some ⟨tb, toff, none⟩) 16 cA, .slice (some ⟨lb, loff, none⟩) 8 cB, .int .i64 k, .bool b1, .bool b2] 26)) i0 Try.underlying24 hi hz0 hz1 hz2 _ _ _ rfl O2.out _ _ _ _ RLH.out.symm rfl _ I2'.out P2.out (by omega) B2.out ?_; intro v' w' hown' hb')
      have hlen := RLH.out
      go_wp2
      go_roundw
      case rel =>
        refine ⟨y + 1, by omega, by go_num, ?_, hb'⟩
        have e : (y + 1) * 8 = Y + 8 := by rw [HY.out]; omega
        rw [e, HR.out]
        exact hown'
      case measure => simp [intOf]; omega
    · have hyn : y = 8 := by omega
      have d1 : decide ((y : Int) < 8) = false := by simp; omega
      rw [hyn, List.take_of_length_le (by rw [HCL.out]; decide)] at hown
      obtain ⟨A3, c3, hv3, ho3⟩ := own_slice hown
      rw [HCL.out] at hv3
      subst hv3
      have O3 := Lib.hid ho3; have B3 := Lib.hid (BB.out _ hbel)
      clear hown hbel ho3 hyn
      go_wp2
      go_ret
      exact ⟨_, _, rfl, own_lower O3.out HLO.out, B3.out⟩
set_option maxRecDepth 100000 in
set_option maxHeartbeats 4000000 in
theorem impl_slidrows_8 (sb soff sc : Nat) (S : List Int) (hS : S.length = 15) (hsc : 15 ≤ sc) (st : Nat → Int) (p : Nat → Nat) (d : Int) (hst : ∀ y, y < 8 → st y = (p y : Int) ∧ p y + 8 ≤ 15 ∧ st y + d = st (y + 1)) (hd : -10 ≤ d ∧ d ≤ 10) (s0 : Int) (hs0 : s0 = st 0) (C : List Int) (hrow : ∀ y, y < 8 → C.take (y * 8 + 8) = C.take (y * 8) ++ (S.drop (p y)).take 8) (hC : C.length = 64) (w : World) (hsb : sb < w.heap.size) (hsv : ∀ j, j < S.length → w.cell? ⟨sb, soff + j, none⟩ = some (.int .i64 (S.getD j 0))) :
    Calls Try.prog 45 #[.slice (some ⟨sb, soff, none⟩) 15 sc, .int .i64 8, .int .i64 s0, .int .i64 d] w fun e w' => ∃ A' c, e = .returned (.slice A' 64 c) ∧ OwnI w' w.heap.size A' c C ∧ Below w.heap.size w w' := by
  obtain ⟨i0, hi, hz0, hz1, hz2⟩ := info_parts Try.iinfo
  have hmk : ∀ w : World, (Instr.makeSlice 24 (.int .i64 0) (.int .i64 64)).run Try.prog w = .ok (.slice (some ⟨w.heap.size, 0, none⟩) 0 64) (w.alloc (.cells (ivs (List.replicate 64 0)).toArray 3)) := fun _ => by kernel_rfl
  obtain ⟨z, hz⟩ : ∃ z : List Int, z = List.replicate 64 0 := ⟨_, rfl⟩
  simp only [← hz] at hmk
  have hzl : (ivs z).length = 64 := by rw [hz]; rfl
  have O0 : Hid ((w.alloc (.cells (ivs z).toArray 3)).ownsRow w.heap.size 3 1 (.slice (some ⟨w.heap.size, 0, none⟩) 0 64) 0 (ivs [])) := Lib.hid (World.ownsRow_made w _ 64 (Nat.le_refl _) (by simp [maxLen]) (by simpa using hzl))
  have B0 := Lib.hid (below_new w (.cells (ivs z).toArray 3))
  have HX := Lib.hid hrow; have HCL := Lib.hid hC; have HSV := Lib.hid hsv; have HSL := Lib.hid hS; have HSB := Lib.hid hsb; have HST := Lib.hid hst; have H0 := Lib.hid hs0
  clear hrow hC hsv hS hsb hst hz hzl hs0
  go_enter Try.func45, Try.ntmps45
  go_wp2
  go_loopw [2, 9, 15] (fun s v i wr => ∃ (y : Nat) (a : Int), y ≤ 8 ∧ a = st y ∧ s = .int .i64 a ∧ i = .int .i64 y ∧ wr.ownsRow w.heap.size 3 1 v (y * 8) (ivs (C.take (y * 8))) ∧ Below w.heap.size w wr)
    (fun _ _ i _ => 8 - (intOf i).toNat)
  case atStart => exact ⟨0, _, Nat.zero_le _, H0.out, rfl, rfl, O0.out, B0.out⟩
  case round =>
    obtain ⟨y, a, hy, ha, rfl, rfl, hown, hbel⟩ := hrel
    by_cases hlt : y < 8
    · have d1 : decide ((y : Int) < 8) = true := by simp; omega
      obtain ⟨g1, g2, g3⟩ := HST.out y hlt
      have hx := HX.out y hlt
      obtain ⟨q, hq⟩ : ∃ q, q = p y := ⟨_, rfl⟩
      rw [← hq] at g1 g2 hx
      rw [g1] at ha g3
      have HG := Lib.hid g3
      subst ha
      obtain ⟨R, hR⟩ : ∃ R, R = (S.drop q).take 8 := ⟨_, rfl⟩
      have I2 : Hid (Ints wr wr.heap.size (some ⟨sb, soff + q, none⟩) R) := Lib.hid (by
        rw [hR]
        refine ⟨by rw [List.length_take]; omega, .inr ⟨sb, soff + q, rfl, Nat.lt_of_lt_of_le HSB.out hbel.size, fun j hj => ?_⟩⟩
        rw [List.length_take, List.length_drop] at hj
        rw [hbel.cell (p := ⟨sb, soff + q + j, none⟩) HSB.out, Nat.add_assoc, HSV.out (q + j) (by omega), drop_take_at (by omega)])
      have RL : R.length = 8 := by rw [hR, List.length_take, List.length_drop, HSL.out]; omega
      rw [← hR] at hx
      have HR := Lib.hid hx; have RLH := Lib.hid RL
      have O1 := Lib.hid hown; have B1 := Lib.hid hbel
      obtain ⟨Y, hY⟩ : ∃ Y, Y = y * 8 := ⟨_, rfl⟩
      have hYl : Y ≤ 64 := by omega
      rw [← hY] at O1 HR
      have HY := Lib.hid hY
      have hne : ¬ sc = q := by omega
      have ha0 : (q : Int) ≤ (q : Int) + 8 := by omega
      have ha1 : (q : Int) + 8 ≤ (sc : Int) := by omega
      have ha2 : q + 8 ≤ sc := by omega
      have haw : IntKind.i64.wrap ((q : Int) + 8) = (q : Int) + 8 := IntWalk.i64_in _ (by omega)
      have hdw : IntKind.i64.wrap ((q : Int) + d) = (q : Int) + d := IntWalk.i64_in _ (by omega)
      have hat : ((q : Int) + 8).toNat = q + 8 := by omega
      have had : q + 8 - q = 8 := by omega
      clear hown hbel hx hR hY RL g1 g3 hq
      have RL := RLH.out
      go_wp2_with (at_builtin; refine append_ints rfl (.tmp 17) (.tmp 23) 24 rfl w i0 Try.underlying24 hi hz0 hz1 hz2 _ _ _ rfl O1.out _ _ _ _ RLH.out.symm rfl _ I2.out (fun h => by cases h) (by omega) B1.out ?_; intro v' w' hown' hb')
      go_wp2
      go_roundw
      case rel =>
        refine ⟨y + 1, _, by omega, HG.out, rfl, by go_num, ?_, hb'⟩
        have e : (y + 1) * 8 = Y + 8 := by rw [HY.out]; omega
        rw [e, HR.out]
        exact hown'
      case measure => simp [intOf]; omega
    · have hyn : y = 8 := by omega
      have d1 : decide ((y : Int) < 8) = false := by simp; omega
      rw [hyn, List.take_of_length_le (by rw [HCL.out]; decide)] at hown
      obtain ⟨A3, c3, hv3, ho3⟩ := own_slice hown
      rw [HCL.out] at hv3
      subst hv3
      have O3 := Lib.hid ho3; have B3 := Lib.hid hbel
      clear hown hbel ho3 hyn ha
      go_wp2
      go_ret
      exact ⟨_, _, rfl, O3.out, B3.out⟩
set_option maxRecDepth 100000 in
set_option maxHeartbeats 4000000 in
theorem impl_leftsoft_8 (tb toff : Nat) (cA : Nat) (t : List Int) (ht : t.length = 16) (w : World) (htb : tb < w.heap.size) (htc : ∀ j, j < t.length → w.cell? ⟨tb, toff + j, none⟩ = some (.int .i64 (t.getD j 0))) :
    Calls Try.prog 46 #[.slice (some ⟨tb, toff, none⟩) 16 cA] w fun e w' => ∃ A' c, e = .returned (.slice A' 15 c) ∧ OwnI w' w.heap.size A' c (soL (t ++ [t.getD 15 0])) ∧ Below w.heap.size w w' := by
  have cl := htc 15 (by omega)
  obtain ⟨x, hx⟩ : ∃ x, x = t.getD 15 0 := ⟨_, rfl⟩
  rw [← hx] at cl ⊢
  have HT : Hid (Ints w w.heap.size (some ⟨tb, toff, none⟩) t) := Lib.hid ⟨by omega, .inr ⟨tb, toff, rfl, htb, htc⟩⟩
  -- the worlds behind the list of the last one and the list of the two lists
  have b2 := below_two w (.cells #[.int .i64 x] 3) (.cells #[.slice (some ⟨tb, toff, none⟩) 16 cA, .slice (some ⟨w.heap.size, 0, none⟩) 1 1] 24)
  have h2 := heap_two w (.cells #[.int .i64 x] 3) (.cells #[.slice (some ⟨tb, toff, none⟩) 16 cA, .slice (some ⟨w.heap.size, 0, none⟩) 1 1] 24)
  obtain ⟨W2, hW2⟩ : ∃ W2, W2 = ((w.alloc (.cells #[.int .i64 x] 3)).alloc (.cells #[.slice (some ⟨tb, toff, none⟩) 16 cA, .slice (some ⟨w.heap.size, 0, none⟩) 1 1] 24)) := ⟨_, rfl⟩
  have hsz : W2.heap.size = w.heap.size + 1 + 1 := by rw [hW2]; simp
  rw [← hW2] at b2 h2
  have e0 := cell_of_row W2 (w.heap.size + 1) 0 _ _ _ h2.2
  have e1 := cell_of_row W2 (w.heap.size + 1) 1 _ _ _ h2.2
  have f0 := cell_of_row W2 w.heap.size 0 _ _ _ h2.1
  have CC : Hid (∀ cc, Calls Try.prog 77 #[.slice (some ⟨w.heap.size + 1, 0, none⟩) 2 cc] W2 fun e w' => ∃ A cap, e = .returned (.slice A 17 cap) ∧ OwnI w' W2.heap.size A cap (t ++ [x]) ∧ Below W2.heap.size W2 w') := Lib.hid fun cc => by
    have e : catN (fun j => if j = 0 then t else [x]) 2 = t ++ [x] := by simp [catN]
    have r := concat_any 2 (by decide) (w.heap.size + 1) (fun j => if j = 0 then some ⟨tb, toff, none⟩ else some ⟨w.heap.size, 0, none⟩) (fun j => if j = 0 then t else [x]) (fun j => if j = 0 then cA else 1) (by rw [e, List.length_append, ht]; simp) cc W2 (by omega)
      (fun j hj => by
        rcases (show j = 0 ∨ j = 1 by omega) with rfl | rfl
        · rw [if_pos rfl, if_pos rfl, if_pos rfl, ht]; exact e0
        · rw [if_neg (by decide), if_neg (by decide), if_neg (by decide)]; exact e1)
      (fun j hj => by
        rcases (show j = 0 ∨ j = 1 by omega) with rfl | rfl
        · rw [if_pos rfl, if_pos rfl]; exact (HT.out.below b2 (Nat.le_refl _)).mono b2.size
        · rw [if_neg (by decide), if_neg (by decide)]
          refine ⟨by simp, .inr ⟨w.heap.size, 0, rfl, by omega, fun i hi => ?_⟩⟩
          obtain rfl : i = 0 := by simpa using hi
          exact f0)
      (fun j hj => by
        rcases (show j = 0 ∨ j = 1 by omega) with rfl | rfl
        · rw [if_pos rfl]; intro h; cases h
        · rw [if_neg (by decide)]; intro h; cases h)
    rw [e, show (t ++ [x]).length = 17 by rw [List.length_append, ht]; rfl] at r
    exact r
  have SO := Lib.hid fun A c w h => impl_softened_any A c (t ++ [x]) (by rw [List.length_append, ht]; simp) w h
  rw [soL_len, show (t ++ [x]).length = 17 by rw [List.length_append, ht]; rfl] at SO
  have LL : Hid ((t ++ [x]).length = 17) := Lib.hid (by rw [List.length_append, ht]; rfl)
  have B2 := Lib.hid b2
  have HSZ : Hid (w.heap.size ≤ W2.heap.size) := Lib.hid b2.size
  rw [hW2] at CC B2 HSZ
  clear hx htc htb ht b2 h2 hsz e0 e1 f0 hW2
  go_enter Try.func46, Try.ntmps46
  go_wp2_with fail
  refine (CC.out _).mono ?_
  rintro e w3 ⟨A3, c3, rfl, ho3, hb3⟩
  have B3 := Lib.hid (below_up B2.out hb3 B2.out.size)
  have I3 := Lib.hid (ho3.ints (by rw [LL.out]; decide))
  clear ho3 hb3
  go_wp2_with fail
  refine (SO.out _ _ _ I3.out).mono ?_
  rintro e w4 ⟨A4, c4, rfl, ho4, hb4⟩
  have B4 := Lib.hid (below_up B3.out hb4 B3.out.size)
  have O4 := Lib.hid (own_lower ho4 B3.out.size)
  clear ho4 hb4
  go_wp2
  go_ret
  exact ⟨_, _, rfl, O4.out, B4.out⟩
end Go.Proofs.Ytjgbenhjafgimaa
