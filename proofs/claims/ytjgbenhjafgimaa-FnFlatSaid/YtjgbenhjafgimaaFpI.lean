/-
  Contracts of what the program's FastPred is made of: acrossRows, slopeRows, slidRows, leftSoft. Condition: the side is 4 or 8.
  The contract of the program's FastPred. Condition: a slice is no longer than it holds.
-/
import Derived.Test.YtjgbenhjafgimaaSoB
import Derived.Test.YtjgbenhjafgimaaRep
import Derived.Test.YtjgbenhjafgimaaFpM
namespace Go.Proofs.Ytjgbenhjafgimaa
open Go.RowKit
set_option linter.unusedVariables false

set_option maxRecDepth 100000 in
set_option maxHeartbeats 4000000 in
theorem impl_acrossrows_4 (lb loff : Nat) (cB : Nat) (l : List Int) (hl : l.length = 4) (C : List Int) (hrow : ∀ y, y < 4 → C.take (y * 4 + 4) = C.take (y * 4) ++ List.replicate 4 (l.getD y 0)) (hC : C.length = 16) (w : World) (hlb : lb < w.heap.size) (hlc : ∀ j, j < l.length → w.cell? ⟨lb, loff + j, none⟩ = some (.int .i64 (l.getD j 0))) :
    Calls Try.prog 43 #[.slice (some ⟨lb, loff, none⟩) 4 cB] w fun e w' => ∃ A' c, e = .returned (.slice A' 16 c) ∧ OwnI w' w.heap.size A' c C ∧ Below w.heap.size w w' := by
  obtain ⟨i0, hi, hz0, hz1, hz2⟩ := info_parts Try.iinfo
  have hmk : ∀ w : World, (Instr.makeSlice 24 (.int .i64 0) (.int .i64 16)).run Try.prog w = .ok (.slice (some ⟨w.heap.size, 0, none⟩) 0 16) (w.alloc (.cells (ivs (List.replicate 16 0)).toArray 3)) := fun _ => by kernel_rfl
  obtain ⟨z, hz⟩ : ∃ z : List Int, z = List.replicate 16 0 := ⟨_, rfl⟩
  simp only [← hz] at hmk
  have hzl : (ivs z).length = 16 := by rw [hz]; rfl
  have O0 : Hid ((w.alloc (.cells (ivs z).toArray 3)).ownsRow w.heap.size 3 1 (.slice (some ⟨w.heap.size, 0, none⟩) 0 16) 0 (ivs [])) := Lib.hid (World.ownsRow_made w _ 16 (Nat.le_refl _) (by simp [maxLen]) (by simpa using hzl))
  have B0 := Lib.hid (below_new w (.cells (ivs z).toArray 3))
  have HX := Lib.hid hrow; have HCL := Lib.hid hC; have HLC := Lib.hid hlc; have HLL := Lib.hid hl; have HLB := Lib.hid hlb
  have RP : Hid (∀ (v : Int) (A : Option Addr) (cs : Nat) (w : World), Ints w w.heap.size A [v] → Calls Try.prog 42 #[.slice A 1 cs, .int .i64 4] w fun e w' => ∃ A' c, e = .returned (.slice A' 4 c) ∧ OwnI w' w.heap.size A' c (List.replicate 4 v) ∧ Below w.heap.size w w') := Lib.hid fun v A cs w h => by
    have r := repeat_rows A [v] 4 cs 4 (by simp) (by decide) (by simp) (by decide) w h
    have e : repR [v] 4 = List.replicate 4 v := by simp [repR]
    rw [e] at r
    exact r
  clear hrow hC hlc hl hlb hz hzl
  go_enter Try.func43, Try.ntmps43
  go_wp2
  go_loopw [3, 5, 14] (fun v x5 i wr => ∃ y : Nat, y ≤ 4 ∧ i = .int .i64 y ∧ wr.ownsRow w.heap.size 3 1 v (y * 4) (ivs (C.take (y * 4))) ∧ Below w.heap.size w wr)
    (fun _ _ i _ => 4 - (intOf i).toNat)
  case atStart => exact ⟨0, Nat.zero_le _, rfl, O0.out, B0.out⟩
  case round =>
    obtain ⟨y, hy, rfl, hown, hbel⟩ := hrel
    by_cases hlt : y < 4
    · have d1 : decide ((y : Int) < 4) = true := by simp; omega
      have cy : wr.cell? ⟨lb, loff + y, none⟩ = some (.int .i64 (l.getD y 0)) := by rw [hbel.cell (p := ⟨lb, loff + y, none⟩) HLB.out]; exact HLC.out y (by rw [HLL.out]; exact hlt)
      have hx := HX.out y hlt
      obtain ⟨v, hv⟩ : ∃ v, v = l.getD y 0 := ⟨_, rfl⟩
      rw [← hv] at cy hx
      obtain ⟨R, hR⟩ : ∃ R, R = List.replicate 4 v := ⟨_, rfl⟩
      have RX := Lib.hid (RP.out v)
      have RL : R.length = 4 := by rw [hR]; rfl
      rw [← hR] at hx RX
      have HR := Lib.hid hx; have RLH := Lib.hid RL
      have O1 := Lib.hid (hown.alloc (.cells #[.int .i64 v] 3)); have B1 := Lib.hid (hbel.alloc hbel.size (.cells #[.int .i64 v] 3))
      have IV : Hid (Ints (wr.alloc (.cells #[.int .i64 v] 3)) (wr.alloc (.cells #[.int .i64 v] 3)).heap.size (some ⟨wr.heap.size, 0, none⟩) [v]) := Lib.hid ((own_ints wr wr.heap.size [v] (Nat.le_refl _) (by simp [maxLen])).ints (by simp))
      have y1 : (y : Int) < 4 := by omega
      have y0 : (0 : Int) ≤ (y : Int) := by omega
      obtain ⟨Y, hY⟩ : ∃ Y, Y = y * 4 := ⟨_, rfl⟩
      have hYl : Y ≤ 64 := by omega
      rw [← hY] at O1 HR
      have HY := Lib.hid hY
      clear hown hbel hx hv hR hY RL
      go_wp2_with fail
      refine (RX.out _ _ _ IV.out).mono ?_
      rintro e w2 ⟨A2, c2, rfl, ho2, hb2⟩
      have O2 := Lib.hid (own_keep O1.out hb2); have B2 := Lib.hid (below_up B1.out hb2 B1.out.size)
      have I2 := Lib.hid (ho2.ints (by rw [RLH.out]; decide)); have P2 := Lib.hid ho2.placed
      have RL := RLH.out
      clear ho2 hb2 cy
      go_wp2_with (at_builtin; refine append_ints rfl (.tmp 18) (.tmp 23) 24 rfl w i0 Try.underlying24 hi hz0 hz1 hz2 _ _ _ rfl O2.out _ _ _ _ RLH.out.symm rfl _ I2.out P2.out (by omega) B2.out ?_; intro v' w' hown' hb')
      have hlen := RLH.out
      go_wp2
      go_roundw
      case rel =>
        refine ⟨y + 1, by omega, by go_num, ?_, hb'⟩
        have e : (y + 1) * 4 = Y + 4 := by rw [HY.out]; omega
        rw [e, HR.out]
        exact hown'
      case measure => simp [intOf]; omega
    · have hyn : y = 4 := by omega
      have d1 : decide ((y : Int) < 4) = false := by simp; omega
      rw [hyn, List.take_of_length_le (by rw [HCL.out]; decide)] at hown
      obtain ⟨A3, c3, hv3, ho3⟩ := own_slice hown
      rw [HCL.out] at hv3
      subst hv3
      have O3 := Lib.hid ho3; have B3 := Lib.hid hbel
      clear hown hbel ho3 hyn
      go_wp2
      go_ret
      exact ⟨_, _, rfl, O3.out, B3.out⟩
set_option maxRecDepth 100000 in
set_option maxHeartbeats 4000000 in
theorem impl_sloperows_4 (tb toff : Nat) (cA : Nat) (lb loff : Nat) (cB : Nat) (t l : List Int) (k : Int) (b1 b2 : Bool) (F : Nat → List Int) (hF : ∀ y, (F y).length = 4) (C : List Int) (hrow : ∀ y, y < 4 → C.take (y * 4 + 4) = C.take (y * 4) ++ F y) (hC : C.length = 16) (w : World) (hT : Ints w w.heap.size (some ⟨tb, toff, none⟩) t) (hL : Ints w w.heap.size (some ⟨lb, loff, none⟩) l)
    (SR : Hid (∀ (y : Nat) w, y < 4 → Ints w w.heap.size (some ⟨tb, toff, none⟩) t → Ints w w.heap.size (some ⟨lb, loff, none⟩) l → Calls Try.prog 26 #[.agg #[.slice (some ⟨tb, toff, none⟩) 8 cA, .slice (some ⟨lb, loff, none⟩) 4 cB, .int .i64 k, .bool b1, .bool b2], .int .i64 4, .int .i64 y] w fun e w' => ∃ A' c, e = .returned (.slice A' 4 c) ∧ OwnI w' w.heap.size A' c (F y) ∧ Below w.heap.size w w')) :
    Calls Try.prog 44 #[.agg #[.slice (some ⟨tb, toff, none⟩) 8 cA, .slice (some ⟨lb, loff, none⟩) 4 cB, .int .i64 k, .bool b1, .bool b2], .int .i64 4] w fun e w' => ∃ A' c, e = .returned (.slice A' 16 c) ∧ OwnI w' w.heap.size A' c C ∧ Below w.heap.size w w' := by
  obtain ⟨i0, hi, hz0, hz1, hz2⟩ := info_parts Try.iinfo
  have hmk : ∀ w : World, (Instr.makeSlice 24 (.int .i64 0) (.int .i64 16)).run Try.prog w = .ok (.slice (some ⟨w.heap.size, 0, none⟩) 0 16) (w.alloc (.cells (ivs (List.replicate 16 0)).toArray 3)) := fun _ => by kernel_rfl
  obtain ⟨z, hz⟩ : ∃ z : List Int, z = List.replicate 16 0 := ⟨_, rfl⟩
  simp only [← hz] at hmk
  have hzl : (ivs z).length = 16 := by rw [hz]; rfl
  have HK := Lib.hid (heap_alloc_new w (.cells #[.slice (some ⟨tb, toff, none⟩) 8 cA, .slice (some ⟨lb, loff, none⟩) 4 cB, .int .i64 k, .bool b1, .bool b2] 26))
  have BW := Lib.hid (below_new w (.cells #[.slice (some ⟨tb, toff, none⟩) 8 cA, .slice (some ⟨lb, loff, none⟩) 4 cB, .int .i64 k, .bool b1, .bool b2] 26))
  have hsz : (w.alloc (.cells #[.slice (some ⟨tb, toff, none⟩) 8 cA, .slice (some ⟨lb, loff, none⟩) 4 cB, .int .i64 k, .bool b1, .bool b2] 26)).heap.size = w.heap.size + 1 := by simp
  have O0 : Hid (((w.alloc (.cells #[.slice (some ⟨tb, toff, none⟩) 8 cA, .slice (some ⟨lb, loff, none⟩) 4 cB, .int .i64 k, .bool b1, .bool b2] 26)).alloc (.cells (ivs z).toArray 3)).ownsRow (w.alloc (.cells #[.slice (some ⟨tb, toff, none⟩) 8 cA, .slice (some ⟨lb, loff, none⟩) 4 cB, .int .i64 k, .bool b1, .bool b2] 26)).heap.size 3 1 (.slice (some ⟨w.heap.size + 1, 0, none⟩) 0 16) 0 (ivs [])) := Lib.hid (by
    have h := World.ownsRow_made (base := (w.alloc (.cells #[.slice (some ⟨tb, toff, none⟩) 8 cA, .slice (some ⟨lb, loff, none⟩) 4 cB, .int .i64 k, .bool b1, .bool b2] 26)).heap.size) (e := 3) (size := 1) (w.alloc (.cells #[.slice (some ⟨tb, toff, none⟩) 8 cA, .slice (some ⟨lb, loff, none⟩) 4 cB, .int .i64 k, .bool b1, .bool b2] 26)) (ivs z).toArray 16 (Nat.le_refl _) (by simp [maxLen]) (by simpa using hzl)
    rw [hsz] at h ⊢
    exact h)
  have B0 := Lib.hid (below_new (w.alloc (.cells #[.slice (some ⟨tb, toff, none⟩) 8 cA, .slice (some ⟨lb, loff, none⟩) 4 cB, .int .i64 k, .bool b1, .bool b2] 26)) (.cells (ivs z).toArray 3))
  have KC : Hid (∀ wr, Below (w.alloc (.cells #[.slice (some ⟨tb, toff, none⟩) 8 cA, .slice (some ⟨lb, loff, none⟩) 4 cB, .int .i64 k, .bool b1, .bool b2] 26)).heap.size (w.alloc (.cells #[.slice (some ⟨tb, toff, none⟩) 8 cA, .slice (some ⟨lb, loff, none⟩) 4 cB, .int .i64 k, .bool b1, .bool b2] 26)) wr → wr.heap[w.heap.size]? = some (.cells #[.slice (some ⟨tb, toff, none⟩) 8 cA, .slice (some ⟨lb, loff, none⟩) 4 cB, .int .i64 k, .bool b1, .bool b2] 26 (0, 0))) := Lib.hid fun wr h => by
    rw [h.block w.heap.size (by rw [hsz]; omega)]; exact HK.out
  have BB : Hid (∀ wr, Below (w.alloc (.cells #[.slice (some ⟨tb, toff, none⟩) 8 cA, .slice (some ⟨lb, loff, none⟩) 4 cB, .int .i64 k, .bool b1, .bool b2] 26)).heap.size (w.alloc (.cells #[.slice (some ⟨tb, toff, none⟩) 8 cA, .slice (some ⟨lb, loff, none⟩) 4 cB, .int .i64 k, .bool b1, .bool b2] 26)) wr → Below w.heap.size w wr) := Lib.hid fun wr h => BW.out.trans (h.mono (by rw [hsz]; omega))
  have I1 : Hid (∀ wr, Below w.heap.size w wr → Ints wr wr.heap.size (some ⟨tb, toff, none⟩) t) := Lib.hid fun wr h => (hT.below h (Nat.le_refl _)).mono h.size
  have I2 : Hid (∀ wr, Below w.heap.size w wr → Ints wr wr.heap.size (some ⟨lb, loff, none⟩) l) := Lib.hid fun wr h => (hL.below h (Nat.le_refl _)).mono h.size
  have HX := Lib.hid hrow; have HCL := Lib.hid hC; have HF := Lib.hid hF
  have HLO : Hid (w.heap.size ≤ (w.alloc (.cells #[.slice (some ⟨tb, toff, none⟩) 8 cA, .slice (some ⟨lb, loff, none⟩) 4 cB, .int .i64 k, .bool b1, .bool b2] 26)).heap.size) := Lib.hid (by rw [hsz]; omega)
  clear hrow hC hF hz hzl hsz hT hL
  go_enter Try.func44, Try.ntmps44
  go_wp2
  go_loopw [5, 6, 12] (fun v x6 i wr => ∃ y : Nat, y ≤ 4 ∧ i = .int .i64 y ∧ wr.ownsRow (w.alloc (.cells #[.slice (some ⟨tb, toff, none⟩) 8 cA, .slice (some ⟨lb, loff, none⟩) 4 cB, .int .i64 k, .bool b1, .bool b2] 26)).heap.size 3 1 v (y * 4) (ivs (C.take (y * 4))) ∧ Below (w.alloc (.cells #[.slice (some ⟨tb, toff, none⟩) 8 cA, .slice (some ⟨lb, loff, none⟩) 4 cB, .int .i64 k, .bool b1, .bool b2] 26)).heap.size (w.alloc (.cells #[.slice (some ⟨tb, toff, none⟩) 8 cA, .slice (some ⟨lb, loff, none⟩) 4 cB, .int .i64 k, .bool b1, .bool b2] 26)) wr)
    (fun _ _ i _ => 4 - (intOf i).toNat)
  case atStart => exact ⟨0, Nat.zero_le _, rfl, O0.out, B0.out⟩
  case round =>
    obtain ⟨y, hy, rfl, hown, hbel⟩ := hrel
    by_cases hlt : y < 4
    · have d1 : decide ((y : Int) < 4) = true := by simp; omega
      obtain ⟨c0, c1, c2, c3, c4⟩ := cells5 (KC.out _ hbel)
      have hx := HX.out y hlt
      have RX := Lib.hid fun w h1 h2 => SR.out y w hlt h1 h2
      have RL := HF.out y
      obtain ⟨R, hR⟩ : ∃ R, R = F y := ⟨_, rfl⟩
      rw [← hR] at hx RX RL
      have HR := Lib.hid hx; have RLH := Lib.hid RL
      have O1 := Lib.hid hown; have B1 := Lib.hid hbel
      obtain ⟨Y, hY⟩ : ∃ Y, Y = y * 4 := ⟨_, rfl⟩
      have hYl : Y ≤ 64 := by omega
      rw [← hY] at O1 HR
      have HY := Lib.hid hY
      clear hown hbel hx hR hY RL
      go_wp2_with fail
      refine (RX.out _ (I1.out _ (BB.out _ B1.out)) (I2.out _ (BB.out _ B1.out))).mono ?_
      rintro e w2 ⟨A2, c2', rfl, ho2, hb2⟩
      have O2 := Lib.hid (own_keep O1.out hb2); have B2 := Lib.hid (below_up B1.out hb2 B1.out.size)
      have I2' := Lib.hid (ho2.ints (by rw [RLH.out]; decide)); have P2 := Lib.hid ho2.placed
      have RL := RLH.out
      clear ho2 hb2 c0 c1 c2 c3 c4
      go_wp2_with (at_builtin; refine append_ints rfl (.tmp 15) (.tmp 19) 24 rfl (w.alloc (.cells #[.slice (some ⟨tb, toff, none⟩) 8 cA, .slice (some ⟨lb, loff, none⟩) 4 cB, .int .i64 k, .bool b1, .bool b2] 26)) i0 Try.underlying24 hi hz0 hz1 hz2 _ _ _ rfl O2.out _ _ _ _ RLH.out.symm rfl _ I2'.out P2.out (by omega) B2.out ?_; intro v' w' hown' hb')
      have hlen := RLH.out
      go_wp2
      go_roundw
      case rel =>
        refine ⟨y + 1, by omega, by go_num, ?_, hb'⟩
        have e : (y + 1) * 4 = Y + 4 := by rw [HY.out]; omega
        rw [e, HR.out]
        exact hown'
      case measure => simp [intOf]; omega
    · have hyn : y = 4 := by omega
      have d1 : decide ((y : Int) < 4) = false := by simp; omega
      rw [hyn, List.take_of_length_le (by rw [HCL.out]; decide)] at hown
      obtain ⟨A3, c3, hv3, ho3⟩ := own_slice hown
      rw [HCL.out] at hv3
      subst hv3
      have O3 := Lib.hid ho3; have B3 := Lib.hid (BB.out _ hbel)
      clear hown hbel ho3 hyn
      go_wp2
      go_ret
      exact ⟨_, _, rfl, own_lower O3.out HLO.out, B3.out⟩
set_option maxRecDepth 100000 in
set_option maxHeartbeats 4000000 in
theorem impl_slidrows_4 (sb soff sc : Nat) (S : List Int) (hS : S.length = 7) (hsc : 7 ≤ sc) (st : Nat → Int) (p : Nat → Nat) (d : Int) (hst : ∀ y, y < 4 → st y = (p y : Int) ∧ p y + 4 ≤ 7 ∧ st y + d = st (y + 1)) (hd : -10 ≤ d ∧ d ≤ 10) (s0 : Int) (hs0 : s0 = st 0) (C : List Int) (hrow : ∀ y, y < 4 → C.take (y * 4 + 4) = C.take (y * 4) ++ (S.drop (p y)).take 4) (hC : C.length = 16) (w : World) (hsb : sb < w.heap.size) (hsv : ∀ j, j < S.length → w.cell? ⟨sb, soff + j, none⟩ = some (.int .i64 (S.getD j 0))) :
    Calls Try.prog 45 #[.slice (some ⟨sb, soff, none⟩) 7 sc, .int .i64 4, .int .i64 s0, .int .i64 d] w fun e w' => ∃ A' c, e = .returned (.slice A' 16 c) ∧ OwnI w' w.heap.size A' c C ∧ Below w.heap.size w w' := by
  obtain ⟨i0, hi, hz0, hz1, hz2⟩ := info_parts Try.iinfo
  have hmk : ∀ w : World, (Instr.makeSlice 24 (.int .i64 0) (.int .i64 16)).run Try.prog w = .ok (.slice (some ⟨w.heap.size, 0, none⟩) 0 16) (w.alloc (.cells (ivs (List.replicate 16 0)).toArray 3)) := fun _ => by kernel_rfl
  obtain ⟨z, hz⟩ : ∃ z : List Int, z = List.replicate 16 0 := ⟨_, rfl⟩
  simp only [← hz] at hmk
  have hzl : (ivs z).length = 16 := by rw [hz]; rfl
  have O0 : Hid ((w.alloc (.cells (ivs z).toArray 3)).ownsRow w.heap.size 3 1 (.slice (some ⟨w.heap.size, 0, none⟩) 0 16) 0 (ivs [])) := Lib.hid (World.ownsRow_made w _ 16 (Nat.le_refl _) (by simp [maxLen]) (by simpa using hzl))
  have B0 := Lib.hid (below_new w (.cells (ivs z).toArray 3))
  have HX := Lib.hid hrow; have HCL := Lib.hid hC; have HSV := Lib.hid hsv; have HSL := Lib.hid hS; have HSB := Lib.hid hsb; have HST := Lib.hid hst; have H0 := Lib.hid hs0
  clear hrow hC hsv hS hsb hst hz hzl hs0
  go_enter Try.func45, Try.ntmps45
  go_wp2
  go_loopw [2, 9, 15] (fun s v i wr => ∃ (y : Nat) (a : Int), y ≤ 4 ∧ a = st y ∧ s = .int .i64 a ∧ i = .int .i64 y ∧ wr.ownsRow w.heap.size 3 1 v (y * 4) (ivs (C.take (y * 4))) ∧ Below w.heap.size w wr)
    (fun _ _ i _ => 4 - (intOf i).toNat)
  case atStart => exact ⟨0, _, Nat.zero_le _, H0.out, rfl, rfl, O0.out, B0.out⟩
  case round =>
    obtain ⟨y, a, hy, ha, rfl, rfl, hown, hbel⟩ := hrel
    by_cases hlt : y < 4
    · have d1 : decide ((y : Int) < 4) = true := by simp; omega
      obtain ⟨g1, g2, g3⟩ := HST.out y hlt
      have hx := HX.out y hlt
      obtain ⟨q, hq⟩ : ∃ q, q = p y := ⟨_, rfl⟩
      rw [← hq] at g1 g2 hx
      rw [g1] at ha g3
      have HG := Lib.hid g3
      subst ha
      obtain ⟨R, hR⟩ : ∃ R, R = (S.drop q).take 4 := ⟨_, rfl⟩
      have I2 : Hid (Ints wr wr.heap.size (some ⟨sb, soff + q, none⟩) R) := Lib.hid (by
        rw [hR]
        refine ⟨by rw [List.length_take]; omega, .inr ⟨sb, soff + q, rfl, Nat.lt_of_lt_of_le HSB.out hbel.size, fun j hj => ?_⟩⟩
        rw [List.length_take, List.length_drop] at hj
        rw [hbel.cell (p := ⟨sb, soff + q + j, none⟩) HSB.out, Nat.add_assoc, HSV.out (q + j) (by omega), drop_take_at (by omega)])
      have RL : R.length = 4 := by rw [hR, List.length_take, List.length_drop, HSL.out]; omega
      rw [← hR] at hx
      have HR := Lib.hid hx; have RLH := Lib.hid RL
      have O1 := Lib.hid hown; have B1 := Lib.hid hbel
      obtain ⟨Y, hY⟩ : ∃ Y, Y = y * 4 := ⟨_, rfl⟩
      have hYl : Y ≤ 64 := by omega
      rw [← hY] at O1 HR
      have HY := Lib.hid hY
      have hne : ¬ sc = q := by omega
      have ha0 : (q : Int) ≤ (q : Int) + 4 := by omega
      have ha1 : (q : Int) + 4 ≤ (sc : Int) := by omega
      have ha2 : q + 4 ≤ sc := by omega
      have haw : IntKind.i64.wrap ((q : Int) + 4) = (q : Int) + 4 := IntWalk.i64_in _ (by omega)
      have hdw : IntKind.i64.wrap ((q : Int) + d) = (q : Int) + d := IntWalk.i64_in _ (by omega)
      have hat : ((q : Int) + 4).toNat = q + 4 := by omega
      have had : q + 4 - q = 4 := by omega
      clear hown hbel hx hR hY RL g1 g3 hq
      have RL := RLH.out
      go_wp2_with (at_builtin; refine append_ints rfl (.tmp 17) (.tmp 23) 24 rfl w i0 Try.underlying24 hi hz0 hz1 hz2 _ _ _ rfl O1.out _ _ _ _ RLH.out.symm rfl _ I2.out (fun h => by cases h) (by omega) B1.out ?_; intro v' w' hown' hb')
      go_wp2
      go_roundw
      case rel =>
        refine ⟨y + 1, _, by omega, HG.out, rfl, by go_num, ?_, hb'⟩
        have e : (y + 1) * 4 = Y + 4 := by rw [HY.out]; omega
        rw [e, HR.out]
        exact hown'
      case measure => simp [intOf]; omega
    · have hyn : y = 4 := by omega
      have d1 : decide ((y : Int) < 4) = false := by simp; omega
      rw [hyn, List.take_of_length_le (by rw [HCL.out]; decide)] at hown
      obtain ⟨A3, c3, hv3, ho3⟩ := own_slice hown
      rw [HCL.out] at hv3
      subst hv3
      have O3 := Lib.hid ho3; have B3 := Lib.hid hbel
      clear hown hbel ho3 hyn ha
      go_wp2
      go_ret
      exact ⟨_, _, rfl, O3.out, B3.out⟩
set_option maxRecDepth 100000 in
set_option maxHeartbeats 4000000 in
theorem impl_leftsoft_4 (tb toff : Nat) (cA : Nat) (t : List Int) (ht : t.length = 8) (w : World) (htb : tb < w.heap.size) (htc : ∀ j, j < t.length → w.cell? ⟨tb, toff + j, none⟩ = some (.int .i64 (t.getD j 0))) :
    Calls Try.prog 46 #[.slice (some ⟨tb, toff, none⟩) 8 cA] w fun e w' => ∃ A' c, e = .returned (.slice A' 7 c) ∧ OwnI w' w.heap.size A' c (soL (t ++ [t.getD 7 0])) ∧ Below w.heap.size w w' := by
  have cl := htc 7 (by omega)
  obtain ⟨x, hx⟩ : ∃ x, x = t.getD 7 0 := ⟨_, rfl⟩
  rw [← hx] at cl ⊢
  have HT : Hid (Ints w w.heap.size (some ⟨tb, toff, none⟩) t) := Lib.hid ⟨by omega, .inr ⟨tb, toff, rfl, htb, htc⟩⟩
  -- the worlds behind the list of the last one and the list of the two lists
  have b2 := below_two w (.cells #[.int .i64 x] 3) (.cells #[.slice (some ⟨tb, toff, none⟩) 8 cA, .slice (some ⟨w.heap.size, 0, none⟩) 1 1] 24)
  have h2 := heap_two w (.cells #[.int .i64 x] 3) (.cells #[.slice (some ⟨tb, toff, none⟩) 8 cA, .slice (some ⟨w.heap.size, 0, none⟩) 1 1] 24)
  obtain ⟨W2, hW2⟩ : ∃ W2, W2 = ((w.alloc (.cells #[.int .i64 x] 3)).alloc (.cells #[.slice (some ⟨tb, toff, none⟩) 8 cA, .slice (some ⟨w.heap.size, 0, none⟩) 1 1] 24)) := ⟨_, rfl⟩
  have hsz : W2.heap.size = w.heap.size + 1 + 1 := by rw [hW2]; simp
  rw [← hW2] at b2 h2
  have e0 := cell_of_row W2 (w.heap.size + 1) 0 _ _ _ h2.2
  have e1 := cell_of_row W2 (w.heap.size + 1) 1 _ _ _ h2.2
  have f0 := cell_of_row W2 w.heap.size 0 _ _ _ h2.1
  have CC : Hid (∀ cc, Calls Try.prog 77 #[.slice (some ⟨w.heap.size + 1, 0, none⟩) 2 cc] W2 fun e w' => ∃ A cap, e = .returned (.slice A 9 cap) ∧ OwnI w' W2.heap.size A cap (t ++ [x]) ∧ Below W2.heap.size W2 w') := Lib.hid fun cc => by
    have e : catN (fun j => if j = 0 then t else [x]) 2 = t ++ [x] := by simp [catN]
    have r := concat_any 2 (by decide) (w.heap.size + 1) (fun j => if j = 0 then some ⟨tb, toff, none⟩ else some ⟨w.heap.size, 0, none⟩) (fun j => if j = 0 then t else [x]) (fun j => if j = 0 then cA else 1) (by rw [e, List.length_append, ht]; simp) cc W2 (by omega)
      (fun j hj => by
        rcases (show j = 0 ∨ j = 1 by omega) with rfl | rfl
        · rw [if_pos rfl, if_pos rfl, if_pos rfl, ht]; exact e0
        · rw [if_neg (by decide), if_neg (by decide), if_neg (by decide)]; exact e1)
      (fun j hj => by
        rcases (show j = 0 ∨ j = 1 by omega) with rfl | rfl
        · rw [if_pos rfl, if_pos rfl]; exact (HT.out.below b2 (Nat.le_refl _)).mono b2.size
        · rw [if_neg (by decide), if_neg (by decide)]
          refine ⟨by simp, .inr ⟨w.heap.size, 0, rfl, by omega, fun i hi => ?_⟩⟩
          obtain rfl : i = 0 := by simpa using hi
          exact f0)
      (fun j hj => by
        rcases (show j = 0 ∨ j = 1 by omega) with rfl | rfl
        · rw [if_pos rfl]; intro h; cases h
        · rw [if_neg (by decide)]; intro h; cases h)
    rw [e, show (t ++ [x]).length = 9 by rw [List.length_append, ht]; rfl] at r
    exact r
  have SO := Lib.hid fun A c w h => impl_softened_any A c (t ++ [x]) (by rw [List.length_append, ht]; simp) w h
  rw [soL_len, show (t ++ [x]).length = 9 by rw [List.length_append, ht]; rfl] at SO
  have LL : Hid ((t ++ [x]).length = 9) := Lib.hid (by rw [List.length_append, ht]; rfl)
  have B2 := Lib.hid b2
  have HSZ : Hid (w.heap.size ≤ W2.heap.size) := Lib.hid b2.size
  rw [hW2] at CC B2 HSZ
  clear hx htc htb ht b2 h2 hsz e0 e1 f0 hW2
  go_enter Try.func46, Try.ntmps46
  go_wp2_with fail
  refine (CC.out _).mono ?_
  rintro e w3 ⟨A3, c3, rfl, ho3, hb3⟩
  have B3 := Lib.hid (below_up B2.out hb3 B2.out.size)
  have I3 := Lib.hid (ho3.ints (by rw [LL.out]; decide))
  clear ho3 hb3
  go_wp2_with fail
  refine (SO.out _ _ _ I3.out).mono ?_
  rintro e w4 ⟨A4, c4, rfl, ho4, hb4⟩
  have B4 := Lib.hid (below_up B3.out hb4 B3.out.size)
  have O4 := Lib.hid (own_lower ho4 B3.out.size)
  clear ho4 hb4
  go_wp2
  go_ret
  exact ⟨_, _, rfl, O4.out, B4.out⟩
set_option maxRecDepth 100000 in
set_option maxHeartbeats 4000000 in
theorem impl_acrossrows_8 (lb loff : Nat) (cB : Nat) (l : List Int) (hl : l.length = 8) (C : List Int) (hrow : ∀ y, y < 8 → C.take (y * 8 + 8) = C.take (y * 8) ++ List.replicate 8 (l.getD y 0)) (hC : C.length = 64) (w : World) (hlb : lb < w.heap.size) (hlc : ∀ j, j < l.length → w.cell? ⟨lb, loff + j, none⟩ = some (.int .i64 (l.getD j 0))) :
    Calls Try.prog 43 #[.slice (some ⟨lb, loff, none⟩) 8 cB] w fun e w' => ∃ A' c, e = .returned (.slice A' 64 c) ∧ OwnI w' w.heap.size A' c C ∧ Below w.heap.size w w' := by
  obtain ⟨i0, hi, hz0, hz1, hz2⟩ := info_parts Try.iinfo
  have hmk : ∀ w : World, (Instr.makeSlice 24 (.int .i64 0) (.int .i64 64)).run Try.prog w = .ok (.slice (some ⟨w.heap.size, 0, none⟩) 0 64) (w.alloc (.cells (ivs (List.replicate 64 0)).toArray 3)) := fun _ => by kernel_rfl
  obtain ⟨z, hz⟩ : ∃ z : List Int, z = List.replicate 64 0 := ⟨_, rfl⟩
  simp only [← hz] at hmk
  have hzl : (ivs z).length = 64 := by rw [hz]; rfl
  have O0 : Hid ((w.alloc (.cells (ivs z).toArray 3)).ownsRow w.heap.size 3 1 (.slice (some ⟨w.heap.size, 0, none⟩) 0 64) 0 (ivs [])) := Lib.hid (World.ownsRow_made w _ 64 (Nat.le_refl _) (by simp [maxLen]) (by simpa using hzl))
  have B0 := Lib.hid (below_new w (.cells (ivs z).toArray 3))
  have HX := Lib.hid hrow; have HCL := Lib.hid hC; have HLC := Lib.hid hlc; have HLL := Lib.hid hl; have HLB := Lib.hid hlb
  have RP : Hid (∀ (v : Int) (A : Option Addr) (cs : Nat) (w : World), Ints w w.heap.size A [v] → Calls Try.prog 42 #[.slice A 1 cs, .int .i64 8] w fun e w' => ∃ A' c, e = .returned (.slice A' 8 c) ∧ OwnI w' w.heap.size A' c (List.replicate 8 v) ∧ Below w.heap.size w w') := Lib.hid fun v A cs w h => by
    have r := repeat_rows A [v] 8 cs 8 (by simp) (by decide) (by simp) (by decide) w h
    have e : repR [v] 8 = List.replicate 8 v := by simp [repR]
    rw [e] at r
    exact r
  clear hrow hC hlc hl hlb hz hzl
  go_enter Try.func43, Try.ntmps43
  go_wp2
  go_loopw [3, 5, 14] (fun v x5 i wr => ∃ y : Nat, y ≤ 8 ∧ i = .int .i64 y ∧ wr.ownsRow w.heap.size 3 1 v (y * 8) (ivs (C.take (y * 8))) ∧ Below w.heap.size w wr)
    (fun _ _ i _ => 8 - (intOf i).toNat)
  case atStart => exact ⟨0, Nat.zero_le _, rfl, O0.out, B0.out⟩
  case round =>
    obtain ⟨y, hy, rfl, hown, hbel⟩ := hrel
    by_cases hlt : y < 8
    · have d1 : decide ((y : Int) < 8) = true := by simp; omega
      have cy : wr.cell? ⟨lb, loff + y, none⟩ = some (.int .i64 (l.getD y 0)) := by rw [hbel.cell (p := ⟨lb, loff + y, none⟩) HLB.out]; exact HLC.out y (by rw [HLL.out]; exact hlt)
      have hx := HX.out y hlt
      obtain ⟨v, hv⟩ : ∃ v, v = l.getD y 0 := ⟨_, rfl⟩
      rw [← hv] at cy hx
      obtain ⟨R, hR⟩ : ∃ R, R = List.replicate 8 v := ⟨_, rfl⟩
      have RX := Lib.hid (RP.out v)
      have RL : R.length = 8 := by rw [hR]; rfl
      rw [← hR] at hx RX
      have HR := Lib.hid hx; have RLH := Lib.hid RL
      have O1 := Lib.hid (hown.alloc (.cells #[.int .i64 v] 3)); have B1 := Lib.hid (hbel.alloc hbel.size (.cells #[.int .i64 v] 3))
      have IV : Hid (Ints (wr.alloc (.cells #[.int .i64 v] 3)) (wr.alloc (.cells #[.int .i64 v] 3)).heap.size (some ⟨wr.heap.size, 0, none⟩) [v]) := Lib.hid ((own_ints wr wr.heap.size [v] (Nat.le_refl _) (by simp [maxLen])).ints (by simp))
      have y1 : (y : Int) < 8 := by omega
      have y0 : (0 : Int) ≤ (y : Int) := by omega
      obtain ⟨Y, hY⟩ : ∃ Y, Y = y * 8 := ⟨_, rfl⟩
      have hYl : Y ≤ 64 := by omega
      rw [← hY] at O1 HR
      have HY := Lib.hid hY
      clear hown hbel hx hv hR hY RL
      go_wp2_with fail
      refine (RX.out _ _ _ IV.out).mono ?_
      rintro e w2 ⟨A2, c2, rfl, ho2, hb2⟩
      have O2 := Lib.hid (own_keep O1.out hb2); have B2 := Lib.hid (below_up B1.out hb2 B1.out.size)
      have I2 := Lib.hid (ho2.ints (by rw [RLH.out]; decide)); have P2 := Lib.hid ho2.placed
      have RL := RLH.out
      clear ho2 hb2 cy
      go_wp2_with (at_builtin; refine append_ints rfl (.tmp 18) (.tmp 23) 24 rfl w i0 Try.underlying24 hi hz0 hz1 hz2 _ _ _ rfl O2.out _ _ _ _ RLH.out.symm rfl _ I2.out P2.out (by omega) B2.out ?_; intro v' w' hown' hb')
      have hlen := RLH.out
      go_wp2
      go_roundw
      case rel =>
        refine ⟨y + 1, by omega, by go_num, ?_, hb'⟩
        have e : (y + 1) * 8 = Y + 8 := by rw [HY.out]; omega
        rw [e, HR.out]
        exact hown'
      case measure => simp [intOf]; omega
    · have hyn : y = 8 := by omega
      have d1 : decide ((y : Int) < 8) = false := by simp; omega
      rw [hyn, List.take_of_length_le (by rw [HCL.out]; decide)] at hown
      obtain ⟨A3, c3, hv3, ho3⟩ := own_slice hown
      rw [HCL.out] at hv3
      subst hv3
      have O3 := Lib.hid ho3; have B3 := Lib.hid hbel
      clear hown hbel ho3 hyn
      go_wp2
      go_ret
      exact ⟨_, _, rfl, O3.out, B3.out⟩
set_option maxRecDepth 100000 in
set_option maxHeartbeats 4000000 in
theorem impl_sloperows_8 (tb toff : Nat) (cA : Nat) (lb loff : Nat) (cB : Nat) (t l : List Int) (k : Int) (b1 b2 : Bool) (F : Nat → List Int) (hF : ∀ y, (F y).length = 8) (C : List Int) (hrow : ∀ y, y < 8 → C.take (y * 8 + 8) = C.take (y * 8) ++ F y) (hC : C.length = 64) (w : World) (hT : Ints w w.heap.size (some ⟨tb, toff, none⟩) t) (hL : Ints w w.heap.size (some ⟨lb, loff, none⟩) l)
    (SR : Hid (∀ (y : Nat) w, y < 8 → Ints w w.heap.size (some ⟨tb, toff, none⟩) t → Ints w w.heap.size (some ⟨lb, loff, none⟩) l → Calls Try.prog 26 #[.agg #[.slice (some ⟨tb, toff, none⟩) 16 cA, .slice (some ⟨lb, loff, none⟩) 8 cB, .int .i64 k, .bool b1, .bool b2], .int .i64 8, .int .i64 y] w fun e w' => ∃ A' c, e = .returned (.slice A' 8 c) ∧ OwnI w' w.heap.size A' c (F y) ∧ Below w.heap.size w w')) :
    Calls Try.prog 44 #[.agg #[.slice (some ⟨tb, toff, none⟩) 16 cA, .slice (some ⟨lb, loff, none⟩) 8 cB, .int .i64 k, .bool b1, .bool b2], .int .i64 8] w fun e w' => ∃ A' c, e = .returned (.slice A' 64 c) ∧ OwnI w' w.heap.size A' c C ∧ Below w.heap.size w w' := by
  obtain ⟨i0, hi, hz0, hz1, hz2⟩ := info_parts Try.iinfo
  have hmk : ∀ w : World, (Instr.makeSlice 24 (.int .i64 0) (.int .i64 64)).run Try.prog w = .ok (.slice (some ⟨w.heap.size, 0, none⟩) 0 64) (w.alloc (.cells (ivs (List.replicate 64 0)).toArray 3)) := fun _ => by kernel_rfl
  obtain ⟨z, hz⟩ : ∃ z : List Int, z = List.replicate 64 0 := ⟨_, rfl⟩
  simp only [← hz] at hmk
  have hzl : (ivs z).length = 64 := by rw [hz]; rfl
  have HK := Lib.hid (heap_alloc_new w (.cells #[.slice (some ⟨tb, toff, none⟩) 16 cA, .slice (some ⟨lb, loff, none⟩) 8 cB, .int .i64 k, .bool b1, .bool b2] 26))
  have BW := Lib.hid (below_new w (.cells #[.slice (some ⟨tb, toff, none⟩) 16 cA, .slice (some ⟨lb, loff, none⟩) 8 cB, .int .i64 k, .bool b1, .bool b2] 26))
  have hsz : (w.alloc (.cells #[.slice (some ⟨tb, toff, none⟩) 16 cA, .slice (some ⟨lb, loff, none⟩) 8 cB, .int .i64 k, .bool b1, .bool b2] 26)).heap.size = w.heap.size + 1 := by simp
  have O0 : Hid (((w.alloc (.cells #[.slice (some ⟨tb, toff, none⟩) 16 cA, .slice (some ⟨lb, loff, none⟩) 8 cB, .int .i64 k, .bool b1, .bool b2] 26)).alloc (.cells (ivs z).toArray 3)).ownsRow (w.alloc (.cells #[.slice (some ⟨tb, toff, none⟩) 16 cA, .slice (some ⟨lb, loff, none⟩) 8 cB, .int .i64 k, .bool b1, .bool b2] 26)).heap.size 3 1 (.slice (some ⟨w.heap.size + 1, 0, none⟩) 0 64) 0 (ivs [])) := Lib.hid (by
    have h := World.ownsRow_made (base := (w.alloc (.cells #[.slice (some ⟨tb, toff, none⟩) 16 cA, .slice (some ⟨lb, loff, none⟩) 8 cB, .int .i64 k, .bool b1, .bool b2] 26)).heap.size) (e := 3) (size := 1) (w.alloc (.cells #[.slice (some ⟨tb, toff, none⟩) 16 cA, .slice (some ⟨lb, loff, none⟩) 8 cB, .int .i64 k, .bool b1, .bool b2] 26)) (ivs z).toArray 64 (Nat.le_refl _) (by simp [maxLen]) (by simpa using hzl)
    rw [hsz] at h ⊢
    exact h)
  have B0 := Lib.hid (below_new (w.alloc (.cells #[.slice (some ⟨tb, toff, none⟩) 16 cA, .slice (some ⟨lb, loff, none⟩) 8 cB, .int .i64 k, .bool b1, .bool b2] 26)) (.cells (ivs z).toArray 3))
  have KC : Hid (∀ wr, Below (w.alloc (.cells #[.slice (some ⟨tb, toff, none⟩) 16 cA, .slice (some ⟨lb, loff, none⟩) 8 cB, .int .i64 k, .bool b1, .bool b2] 26)).heap.size (w.alloc (.cells #[.slice (some ⟨tb, toff, none⟩) 16 cA, .slice (some ⟨lb, loff, none⟩) 8 cB, .int .i64 k, .bool b1, .bool b2] 26)) wr → wr.heap[w.heap.size]? = some (.cells #[.slice (some ⟨tb, toff, none⟩) 16 cA, .slice (some ⟨lb, loff, none⟩) 8 cB, .int .i64 k, .bool b1, .bool b2] 26 (0, 0))) := Lib.hid fun wr h => by
    rw [h.block w.heap.size (by rw [hsz]; omega)]; exact HK.out
  have BB : Hid (∀ wr, Below (w.alloc (.cells #[.slice (some ⟨tb, toff, none⟩) 16 cA, .slice (some ⟨lb, loff, none⟩) 8 cB, .int .i64 k, .bool b1, .bool b2] 26)).heap.size (w.alloc (.cells #[.slice (some ⟨tb, toff, none⟩) 16 cA, .slice (some ⟨lb, loff, none⟩) 8 cB, .int .i64 k, .bool b1, .bool b2] 26)) wr → Below w.heap.size w wr) := Lib.hid fun wr h => BW.out.trans (h.mono (by rw [hsz]; omega))
  have I1 : Hid (∀ wr, Below w.heap.size w wr → Ints wr wr.heap.size (some ⟨tb, toff, none⟩) t) := Lib.hid fun wr h => (hT.below h (Nat.le_refl _)).mono h.size
  have I2 : Hid (∀ wr, Below w.heap.size w wr → Ints wr wr.heap.size (some ⟨lb, loff, none⟩) l) := Lib.hid fun wr h => (hL.below h (Nat.le_refl _)).mono h.size
  have HX := Lib.hid hrow; have HCL := Lib.hid hC; have HF := Lib.hid hF
  have HLO : Hid (w.heap.size ≤ (w.alloc (.cells #[.slice (some ⟨tb, toff, none⟩) 16 cA, .slice (some ⟨lb, loff, none⟩) 8 cB, .int .i64 k, .bool b1, .bool b2] 26)).heap.size) := Lib.hid (by rw [hsz]; omega)
  clear hrow hC hF hz hzl hsz hT hL
  go_enter Try.func44, Try.ntmps44
  go_wp2
  go_loopw [5, 6, 12] (fun v x6 i wr => ∃ y : Nat, y ≤ 8 ∧ i = .int .i64 y ∧ wr.ownsRow (w.alloc (.cells #[.slice (some ⟨tb, toff, none⟩) 16 cA, .slice (some ⟨lb, loff, none⟩) 8 cB, .int .i64 k, .bool b1, .bool b2] 26)).heap.size 3 1 v (y * 8) (ivs (C.take (y * 8))) ∧ Below (w.alloc (.cells #[.slice (some ⟨tb, toff, none⟩) 16 cA, .slice (some ⟨lb, loff, none⟩) 8 cB, .int .i64 k, .bool b1, .bool b2] 26)).heap.size (w.alloc (.cells #[.slice (some ⟨tb, toff, none⟩) 16 cA, .slice (some ⟨lb, loff, none⟩) 8 cB, .int .i64 k, .bool b1, .bool b2] 26)) wr)
    (fun _ _ i _ => 8 - (intOf i).toNat)
  case atStart => exact ⟨0, Nat.zero_le _, rfl, O0.out, B0.out⟩
  case round =>
    obtain ⟨y, hy, rfl, hown, hbel⟩ := hrel
    by_cases hlt : y < 8
    · have d1 : decide ((y : Int) < 8) = true := by simp; omega
      obtain ⟨c0, c1, c2, c3, c4⟩ := cells5 (KC.out _ hbel)
      have hx := HX.out y hlt
      have RX := Lib.hid fun w h1 h2 => SR.out y w hlt h1 h2
      have RL := HF.out y
      obtain ⟨R, hR⟩ : ∃ R, R = F y := ⟨_, rfl⟩
      rw [← hR] at hx RX RL
      have HR := Lib.hid hx; have RLH := Lib.hid RL
      have O1 := Lib.hid hown; have B1 := Lib.hid hbel
      obtain ⟨Y, hY⟩ : ∃ Y, Y = y * 8 := ⟨_, rfl⟩
      have hYl : Y ≤ 64 := by omega
      rw [← hY] at O1 HR
      have HY := Lib.hid hY
      clear hown hbel hx hR hY RL
      go_wp2_with fail
      refine (RX.out _ (I1.out _ (BB.out _ B1.out)) (I2.out _ (BB.out _ B1.out))).mono ?_
      rintro e w2 ⟨A2, c2', rfl, ho2, hb2⟩
      have O2 := Lib.hid (own_keep O1.out hb2); have B2 := Lib.hid (below_up B1.out hb2 B1.out.size)
      have I2' := Lib.hid (ho2.ints (by rw [RLH.out]; decide)); have P2 := Lib.hid ho2.placed
      have RL := RLH.out
      clear ho2 hb2 c0 c1 c2 c3 c4
      go_wp2_with (at_builtin; refine append_ints rfl (.tmp 15) (.tmp 19) 24 rfl (w.alloc (.cells #[.slice (some ⟨tb, toff, none⟩) 16 cA, .slice (some ⟨lb, loff, none⟩) 8 cB, .int .i64 k, .bool b1, .bool b2] 26)) i0 Try.underlying24 hi hz0 hz1 hz2 _ _ _ rfl O2.out _ _ _ _ RLH.out.symm rfl _ I2'.out P2.out (by omega) B2.out ?_; intro v' w' hown' hb')
      have hlen := RLH.out
      go_wp2
      go_roundw
      case rel =>
        refine ⟨y + 1, by omega, by go_num, ?_, hb'⟩
        have e : (y + 1) * 8 = Y + 8 := by rw [HY.out]; omega
        rw [e, HR.out]
        exact hown'
      case measure => simp [intOf]; omega
    · have hyn : y = 8 := by omega
      have d1 : decide ((y : Int) < 8) = false := by simp; omega
      rw [hyn, List.take_of_length_le (by rw [HCL.out]; decide)] at hown
      obtain ⟨A3, c3, hv3, ho3⟩ := own_slice hown
      rw [HCL.out] at hv3
      subst hv3
      have O3 := Lib.hid ho3; have B3 := Lib.hid (BB.out _ hbel)
      clear hown hbel ho3 hyn
      go_wp2
      go_ret
      exact ⟨_, _, rfl, own_lower O3.out HLO.out, B3.out⟩
set_option maxRecDepth 100000 in
set_option maxHeartbeats 4000000 in
theorem impl_slidrows_8 (sb soff sc : Nat) (S : List Int) (hS : S.length = 15) (hsc : 15 ≤ sc) (st : Nat → Int) (p : Nat → Nat) (d : Int) (hst : ∀ y, y < 8 → st y = (p y : Int) ∧ p y + 8 ≤ 15 ∧ st y + d = st (y + 1)) (hd : -10 ≤ d ∧ d ≤ 10) (s0 : Int) (hs0 : s0 = st 0) (C : List Int) (hrow : ∀ y, y < 8 → C.take (y * 8 + 8) = C.take (y * 8) ++ (S.drop (p y)).take 8) (hC : C.length = 64) (w : World) (hsb : sb < w.heap.size) (hsv : ∀ j, j < S.length → w.cell? ⟨sb, soff + j, none⟩ = some (.int .i64 (S.getD j 0))) :
    Calls Try.prog 45 #[.slice (some ⟨sb, soff, none⟩) 15 sc, .int .i64 8, .int .i64 s0, .int .i64 d] w fun e w' => ∃ A' c, e = .returned (.slice A' 64 c) ∧ OwnI w' w.heap.size A' c C ∧ Below w.heap.size w w' := by
  obtain ⟨i0, hi, hz0, hz1, hz2⟩ := info_parts Try.iinfo
  have hmk : ∀ w : World, (Instr.makeSlice 24 (.int .i64 0) (.int .i64 64)).run Try.prog w = .ok (.slice (some ⟨w.heap.size, 0, none⟩) 0 64) (w.alloc (.cells (ivs (List.replicate 64 0)).toArray 3)) := fun _ => by kernel_rfl
  obtain ⟨z, hz⟩ : ∃ z : List Int, z = List.replicate 64 0 := ⟨_, rfl⟩
  simp only [← hz] at hmk
  have hzl : (ivs z).length = 64 := by rw [hz]; rfl
  have O0 : Hid ((w.alloc (.cells (ivs z).toArray 3)).ownsRow w.heap.size 3 1 (.slice (some ⟨w.heap.size, 0, none⟩) 0 64) 0 (ivs [])) := Lib.hid (World.ownsRow_made w _ 64 (Nat.le_refl _) (by simp [maxLen]) (by simpa using hzl))
  have B0 := Lib.hid (below_new w (.cells (ivs z).toArray 3))
  have HX := Lib.hid hrow; have HCL := Lib.hid hC; have HSV := Lib.hid hsv; have HSL := Lib.hid hS; have HSB := Lib.hid hsb; have HST := Lib.hid hst; have H0 := Lib.hid hs0
  clear hrow hC hsv hS hsb hst hz hzl hs0
  go_enter Try.func45, Try.ntmps45
  go_wp2
  go_loopw [2, 9, 15] (fun s v i wr => ∃ (y : Nat) (a : Int), y ≤ 8 ∧ a = st y ∧ s = .int .i64 a ∧ i = .int .i64 y ∧ wr.ownsRow w.heap.size 3 1 v (y * 8) (ivs (C.take (y * 8))) ∧ Below w.heap.size w wr)
    (fun _ _ i _ => 8 - (intOf i).toNat)
  case atStart => exact ⟨0, _, Nat.zero_le _, H0.out, rfl, rfl, O0.out, B0.out⟩
  case round =>
    obtain ⟨y, a, hy, ha, rfl, rfl, hown, hbel⟩ := hrel
    by_cases hlt : y < 8
    · have d1 : decide ((y : Int) < 8) = true := by simp; omega
      obtain ⟨g1, g2, g3⟩ := HST.out y hlt
      have hx := HX.out y hlt
      obtain ⟨q, hq⟩ : ∃ q, q = p y := ⟨_, rfl⟩
      rw [← hq] at g1 g2 hx
      rw [g1] at ha g3
      have HG := Lib.hid g3
      subst ha
      obtain ⟨R, hR⟩ : ∃ R, R = (S.drop q).take 8 := ⟨_, rfl⟩
      have I2 : Hid (Ints wr wr.heap.size (some ⟨sb, soff + q, none⟩) R) := Lib.hid (by
        rw [hR]
        refine ⟨by rw [List.length_take]; omega, .inr ⟨sb, soff + q, rfl, Nat.lt_of_lt_of_le HSB.out hbel.size, fun j hj => ?_⟩⟩
        rw [List.length_take, List.length_drop] at hj
        rw [hbel.cell (p := ⟨sb, soff + q + j, none⟩) HSB.out, Nat.add_assoc, HSV.out (q + j) (by omega), drop_take_at (by omega)])
      have RL : R.length = 8 := by rw [hR, List.length_take, List.length_drop, HSL.out]; omega
      rw [← hR] at hx
      have HR := Lib.hid hx; have RLH := Lib.hid RL
      have O1 := Lib.hid hown; have B1 := Lib.hid hbel
      obtain ⟨Y, hY⟩ : ∃ Y, Y = y * 8 := ⟨_, rfl⟩
      have hYl : Y ≤ 64 := by omega
      rw [← hY] at O1 HR
      have HY := Lib.hid hY
      have hne : ¬ sc = q := by omega
      have ha0 : (q : Int) ≤ (q : Int) + 8 := by omega
      have ha1 : (q : Int) + 8 ≤ (sc : Int) := by omega
      have ha2 : q + 8 ≤ sc := by omega
      have haw : IntKind.i64.wrap ((q : Int) + 8) = (q : Int) + 8 := IntWalk.i64_in _ (by omega)
      have hdw : IntKind.i64.wrap ((q : Int) + d) = (q : Int) + d := IntWalk.i64_in _ (by omega)
      have hat : ((q : Int) + 8).toNat = q + 8 := by omega
      have had : q + 8 - q = 8 := by omega
      clear hown hbel hx hR hY RL g1 g3 hq
      have RL := RLH.out
      go_wp2_with (at_builtin; refine append_ints rfl (.tmp 17) (.tmp 23) 24 rfl w i0 Try.underlying24 hi hz0 hz1 hz2 _ _ _ rfl O1.out _ _ _ _ RLH.out.symm rfl _ I2.out (fun h => by cases h) (by omega) B1.out ?_; intro v' w' hown' hb')
      go_wp2
      go_roundw
      case rel =>
        refine ⟨y + 1, _, by omega, HG.out, rfl, by go_num, ?_, hb'⟩
        have e : (y + 1) * 8 = Y + 8 := by rw [HY.out]; omega
        rw [e, HR.out]
        exact hown'
      case measure => simp [intOf]; omega
    · have hyn : y = 8 := by omega
      have d1 : decide ((y : Int) < 8) = false := by simp; omega
      rw [hyn, List.take_of_length_le (by rw [HCL.out]; decide)] at hown
      obtain ⟨A3, c3, hv3, ho3⟩ := own_slice hown
      rw [HCL.out] at hv3
      subst hv3
      have O3 := Lib.hid ho3; have B3 := Lib.hid hbel
      clear hown hbel ho3 hyn ha
      go_wp2
      go_ret
      exact ⟨_, _, rfl, O3.out, B3.out⟩
set_option maxRecDepth 100000 in
set_option maxHeartbeats 4000000 in
theorem impl_leftsoft_8 (tb toff : Nat) (cA : Nat) (t : List Int) (ht : t.length = 16) (w : World) (htb : tb < w.heap.size) (htc : ∀ j, j < t.length → w.cell? ⟨tb, toff + j, none⟩ = some (.int .i64 (t.getD j 0))) :
    Calls Try.prog 46 #[.slice (some ⟨tb, toff, none⟩) 16 cA] w fun e w' => ∃ A' c, e = .returned (.slice A' 15 c) ∧ OwnI w' w.heap.size A' c (soL (t ++ [t.getD 15 0])) ∧ Below w.heap.size w w' := by
  have cl := htc 15 (by omega)
  obtain ⟨x, hx⟩ : ∃ x, x = t.getD 15 0 := ⟨_, rfl⟩
  rw [← hx] at cl ⊢
  have HT : Hid (Ints w w.heap.size (some ⟨tb, toff, none⟩) t) := Lib.hid ⟨by omega, .inr ⟨tb, toff, rfl, htb, htc⟩⟩
  -- the worlds behind the list of the last one and the list of the two lists
  have b2 := below_two w (.cells #[.int .i64 x] 3) (.cells #[.slice (some ⟨tb, toff, none⟩) 16 cA, .slice (some ⟨w.heap.size, 0, none⟩) 1 1] 24)
  have h2 := heap_two w (.cells #[.int .i64 x] 3) (.cells #[.slice (some ⟨tb, toff, none⟩) 16 cA, .slice (some ⟨w.heap.size, 0, none⟩) 1 1] 24)
  obtain ⟨W2, hW2⟩ : ∃ W2, W2 = ((w.alloc (.cells #[.int .i64 x] 3)).alloc (.cells #[.slice (some ⟨tb, toff, none⟩) 16 cA, .slice (some ⟨w.heap.size, 0, none⟩) 1 1] 24)) := ⟨_, rfl⟩
  have hsz : W2.heap.size = w.heap.size + 1 + 1 := by rw [hW2]; simp
  rw [← hW2] at b2 h2
  have e0 := cell_of_row W2 (w.heap.size + 1) 0 _ _ _ h2.2
  have e1 := cell_of_row W2 (w.heap.size + 1) 1 _ _ _ h2.2
  have f0 := cell_of_row W2 w.heap.size 0 _ _ _ h2.1
  have CC : Hid (∀ cc, Calls Try.prog 77 #[.slice (some ⟨w.heap.size + 1, 0, none⟩) 2 cc] W2 fun e w' => ∃ A cap, e = .returned (.slice A 17 cap) ∧ OwnI w' W2.heap.size A cap (t ++ [x]) ∧ Below W2.heap.size W2 w') := Lib.hid fun cc => by
    have e : catN (fun j => if j = 0 then t else [x]) 2 = t ++ [x] := by simp [catN]
    have r := concat_any 2 (by decide) (w.heap.size + 1) (fun j => if j = 0 then some ⟨tb, toff, none⟩ else some ⟨w.heap.size, 0, none⟩) (fun j => if j = 0 then t else [x]) (fun j => if j = 0 then cA else 1) (by rw [e, List.length_append, ht]; simp) cc W2 (by omega)
      (fun j hj => by
        rcases (show j = 0 ∨ j = 1 by omega) with rfl | rfl
        · rw [if_pos rfl, if_pos rfl, if_pos rfl, ht]; exact e0
        · rw [if_neg (by decide), if_neg (by decide), if_neg (by decide)]; exact e1)
      (fun j hj => by
        rcases (show j = 0 ∨ j = 1 by omega) with rfl | rfl
        · rw [if_pos rfl, if_pos rfl]; exact (HT.out.below b2 (Nat.le_refl _)).mono b2.size
        · rw [if_neg (by decide), if_neg (by decide)]
          refine ⟨by simp, .inr ⟨w.heap.size, 0, rfl, by omega, fun i hi => ?_⟩⟩
          obtain rfl : i = 0 := by simpa using hi
          exact f0)
      (fun j hj => by
        rcases (show j = 0 ∨ j = 1 by omega) with rfl | rfl
        · rw [if_pos rfl]; intro h; cases h
        · rw [if_neg (by decide)]; intro h; cases h)
    rw [e, show (t ++ [x]).length = 17 by rw [List.length_append, ht]; rfl] at r
    exact r
  have SO := Lib.hid fun A c w h => impl_softened_any A c (t ++ [x]) (by rw [List.length_append, ht]; simp) w h
  rw [soL_len, show (t ++ [x]).length = 17 by rw [List.length_append, ht]; rfl] at SO
  have LL : Hid ((t ++ [x]).length = 17) := Lib.hid (by rw [List.length_append, ht]; rfl)
  have B2 := Lib.hid b2
  have HSZ : Hid (w.heap.size ≤ W2.heap.size) := Lib.hid b2.size
  rw [hW2] at CC B2 HSZ
  clear hx htc htb ht b2 h2 hsz e0 e1 f0 hW2
  go_enter Try.func46, Try.ntmps46
  go_wp2_with fail
  refine (CC.out _).mono ?_
  rintro e w3 ⟨A3, c3, rfl, ho3, hb3⟩
  have B3 := Lib.hid (below_up B2.out hb3 B2.out.size)
  have I3 := Lib.hid (ho3.ints (by rw [LL.out]; decide))
  clear ho3 hb3
  go_wp2_with fail
  refine (SO.out _ _ _ I3.out).mono ?_
  rintro e w4 ⟨A4, c4, rfl, ho4, hb4⟩
  have B4 := Lib.hid (below_up B3.out hb4 B3.out.size)
  have O4 := Lib.hid (own_lower ho4 B3.out.size)
  clear ho4 hb4
  go_wp2
  go_ret
  exact ⟨_, _, rfl, O4.out, B4.out⟩
end Go.Proofs.Ytjgbenhjafgimaa

namespace Go.Proofs.Ytjgbenhjafgimaa
open Go.RowKit
set_option linter.unusedVariables false

/-- Rows one after the other are one list. -/
theorem rows_same {P Q : List Int} {R : Nat → List Int} {m : Nat} (hP : P.length = m * m) (hQ : Q.length = m * m) (h1 : ∀ y, y < m → P.take (y * m + m) = P.take (y * m) ++ R y) (h2 : ∀ y, y < m → Q.take (y * m + m) = Q.take (y * m) ++ R y) : P = Q := by
  have key : ∀ y, y ≤ m → P.take (y * m) = Q.take (y * m) := by
    intro y
    induction y with
    | zero => intro _; simp
    | succ y ih =>
      intro hy
      rw [Nat.add_mul, Nat.one_mul, h1 y (by omega), h2 y (by omega), ih (by omega)]
  have := key m (Nat.le_refl _)
  rwa [List.take_of_length_le (by omega), List.take_of_length_le (by omega)] at this
theorem repR_rows (l : List Int) (m : Nat) (hl : l.length = m) (y : Nat) (hy : y < m) : (repR l m).take (y * m + m) = (repR l m).take (y * m) ++ l := by
  have h1 : (y + 1) * m ≤ m * m := Nat.mul_le_mul_right m hy
  rw [Nat.add_mul, Nat.one_mul] at h1
  have h := repR_take (l := l) (k := m) (i := y) (m := m) (by rw [hl]; exact h1) (by omega)
  rw [hl] at h
  rw [h]
  congr 1
  obtain ⟨j, rfl⟩ : ∃ j, m = 1 + j := ⟨m - 1, by omega⟩
  rw [repR_add, repR_one, List.take_append_of_le_length (by omega), List.take_of_length_le (by omega)]
theorem rep_rows (v : Int) (m y : Nat) (hy : y < m) : (List.replicate (m * m) v).take (y * m + m) = (List.replicate (m * m) v).take (y * m) ++ List.replicate m v := by
  have h1 : (y + 1) * m ≤ m * m := Nat.mul_le_mul_right m hy
  rw [Nat.add_mul, Nat.one_mul] at h1
  rw [List.take_replicate, List.take_replicate, List.replicate_append_replicate, Nat.min_eq_left h1, Nat.min_eq_left (by omega)]
set_option maxRecDepth 100000 in
set_option maxHeartbeats 4000000 in
theorem impl_fastpred_4_0 (tb toff : Nat) (cA : Nat) (lb loff : Nat) (cB : Nat) (t l : List Int) (k : Int) (b1 b2 : Bool) (ht : t.length = 8) (hl : l.length = 4) (hcA : 8 ≤ cA) (w : World) (hT : Ints w w.heap.size (some ⟨tb, toff, none⟩) t) (hL : Ints w w.heap.size (some ⟨lb, loff, none⟩) l)
    (htb : tb < w.heap.size) (hlb : lb < w.heap.size) (htc : ∀ j, j < t.length → w.cell? ⟨tb, toff + j, none⟩ = some (.int .i64 (t.getD j 0))) (hlc : ∀ j, j < l.length → w.cell? ⟨lb, loff + j, none⟩ = some (.int .i64 (l.getD j 0)))
    (hpt : ∀ i, i < 2 * 4 → 0 ≤ t.getD i 0 ∧ t.getD i 0 ≤ 255) (hpl : ∀ i, i < 4 → 0 ≤ l.getD i 0 ∧ l.getD i 0 ≤ 255)
    (NK : Hid (∀ w, Ints w w.heap.size (some ⟨tb, toff, none⟩) t → Ints w w.heap.size (some ⟨lb, loff, none⟩) l → Calls Try.prog 21 #[.agg #[.slice (some ⟨tb, toff, none⟩) 8 cA, .slice (some ⟨lb, loff, none⟩) 4 cB, .int .i64 k, .bool b1, .bool b2], .int .i64 4] w fun e w' => e = .returned (.bool true) ∧ Below w.heap.size w w'))
    (v : Int) (hv : v = meanV t l k b1 b2 ((4 : Nat) : Int)) (MN : Hid (∀ w, Ints w w.heap.size (some ⟨tb, toff, none⟩) t → Ints w w.heap.size (some ⟨lb, loff, none⟩) l → Calls Try.prog 19 #[.agg #[.slice (some ⟨tb, toff, none⟩) 8 cA, .slice (some ⟨lb, loff, none⟩) 4 cB, .int .i64 k, .bool b1, .bool b2], .int .i64 4] w fun e w' => e = .returned (.int .i64 v) ∧ Below w.heap.size w w')) :
    Calls Try.prog 12 #[.int .i64 0, .agg #[.slice (some ⟨tb, toff, none⟩) 8 cA, .slice (some ⟨lb, loff, none⟩) 4 cB, .int .i64 k, .bool b1, .bool b2], .int .i64 4] w fun e w' => ∃ A' c, e = .returned (.slice A' 16 c) ∧ OwnI w' w.heap.size A' c (prdF t l k b1 b2 4 0) ∧ Below w.heap.size w w' := by
  have hrow := fun y (hy : y < 4) => prd_row (t := t) (l := l) (k := k) (b1 := b1) (b2 := b2) (m := 4) (mode := 0) hy
  have hC := prdF_len t l k b1 b2 4 0
  have HK := Lib.hid (heap_alloc_new w (.cells #[.slice (some ⟨tb, toff, none⟩) 8 cA, .slice (some ⟨lb, loff, none⟩) 4 cB, .int .i64 k, .bool b1, .bool b2] 26))
  have BW := Lib.hid (below_new w (.cells #[.slice (some ⟨tb, toff, none⟩) 8 cA, .slice (some ⟨lb, loff, none⟩) 4 cB, .int .i64 k, .bool b1, .bool b2] 26))
  have I1 : Hid (∀ wr, Below w.heap.size w wr → Ints wr wr.heap.size (some ⟨tb, toff, none⟩) t) := Lib.hid fun wr h => (hT.below h (Nat.le_refl _)).mono h.size
  have I2 : Hid (∀ wr, Below w.heap.size w wr → Ints wr wr.heap.size (some ⟨lb, loff, none⟩) l) := Lib.hid fun wr h => (hL.below h (Nat.le_refl _)).mono h.size
  have TC : Hid (∀ wr, Below w.heap.size w wr → ∀ j, j < t.length → wr.cell? ⟨tb, toff + j, none⟩ = some (.int .i64 (t.getD j 0))) := Lib.hid fun wr h j hj => by rw [h.cell (p := ⟨tb, toff + j, none⟩) htb]; exact htc j hj
  have LC : Hid (∀ wr, Below w.heap.size w wr → ∀ j, j < l.length → wr.cell? ⟨lb, loff + j, none⟩ = some (.int .i64 (l.getD j 0))) := Lib.hid fun wr h j hj => by rw [h.cell (p := ⟨lb, loff + j, none⟩) hlb]; exact hlc j hj
  have HTB := Lib.hid htb; have HLB := Lib.hid hlb
  have RE : prdF t l k b1 b2 4 0 = List.replicate 16 v := (rows_same (m := 4) (R := fun _ => List.replicate 4 v) (by simp) hC (fun y hy => rep_rows v 4 y hy) (fun y hy => by rw [hrow y hy, hv, row_flat0])).symm
  have RP : Hid (∀ (A : Option Addr) (cs : Nat) (w : World), Ints w w.heap.size A [v] → Calls Try.prog 42 #[.slice A 1 cs, .int .i64 16] w fun e w' => ∃ A' c, e = .returned (.slice A' 16 c) ∧ OwnI w' w.heap.size A' c (List.replicate 16 v) ∧ Below w.heap.size w w') := Lib.hid fun A cs w h => by
    have r := repeat_rows A [v] 16 cs 16 (by simp) (by decide) (by simp) (by decide) w h
    have e : repR [v] 16 = List.replicate 16 v := by simp [repR]
    rw [e] at r
    exact r
  rw [RE]
  clear RE hv
  clear hrow hC htc hlc hpt hpl hT hL htb hlb ht hl
  go_enter Try.func12, Try.ntmps12
  go_wp2_with fail
  refine (NK.out _ (I1.out _ BW.out) (I2.out _ BW.out)).mono ?_
  rintro e w1 ⟨rfl, hb1⟩
  have B1 := Lib.hid (below_up BW.out hb1 BW.out.size)
  have K1 := Lib.hid (cell_kept HK.out hb1)
  obtain ⟨c0, c1, c2, c3, c4⟩ := cells5 K1.out
  clear hb1
  go_wp2_with fail
  refine (MN.out _ (I1.out _ B1.out) (I2.out _ B1.out)).mono ?_
  rintro e w2 ⟨rfl, hb2⟩
  have B2 := Lib.hid (below_up B1.out hb2 B1.out.size)
  have B3 := Lib.hid (B2.out.alloc B2.out.size (.cells #[.int .i64 v] 3))
  have IV : Hid (Ints (w2.alloc (.cells #[.int .i64 v] 3)) (w2.alloc (.cells #[.int .i64 v] 3)).heap.size (some ⟨w2.heap.size, 0, none⟩) [v]) := Lib.hid ((own_ints w2 w2.heap.size [v] (Nat.le_refl _) (by simp [maxLen])).ints (by simp))
  clear hb2
  go_wp2_with fail
  refine (RP.out _ _ _ IV.out).mono ?_
  rintro e w4 ⟨A4, c4', rfl, ho4, hb4⟩
  have B4 := Lib.hid (below_up B3.out hb4 B3.out.size)
  have O4 := Lib.hid (own_lower ho4 B3.out.size)
  clear ho4 hb4 c0 c1 c2 c3 c4
  go_wp2
  go_ret
  exact ⟨_, _, rfl, O4.out, B4.out⟩
set_option maxRecDepth 100000 in
set_option maxHeartbeats 4000000 in
theorem impl_fastpred_4_1 (tb toff : Nat) (cA : Nat) (lb loff : Nat) (cB : Nat) (t l : List Int) (k : Int) (b1 b2 : Bool) (ht : t.length = 8) (hl : l.length = 4) (hcA : 8 ≤ cA) (w : World) (hT : Ints w w.heap.size (some ⟨tb, toff, none⟩) t) (hL : Ints w w.heap.size (some ⟨lb, loff, none⟩) l)
    (htb : tb < w.heap.size) (hlb : lb < w.heap.size) (htc : ∀ j, j < t.length → w.cell? ⟨tb, toff + j, none⟩ = some (.int .i64 (t.getD j 0))) (hlc : ∀ j, j < l.length → w.cell? ⟨lb, loff + j, none⟩ = some (.int .i64 (l.getD j 0)))
    (hpt : ∀ i, i < 2 * 4 → 0 ≤ t.getD i 0 ∧ t.getD i 0 ≤ 255) (hpl : ∀ i, i < 4 → 0 ≤ l.getD i 0 ∧ l.getD i 0 ≤ 255)
    (NK : Hid (∀ w, Ints w w.heap.size (some ⟨tb, toff, none⟩) t → Ints w w.heap.size (some ⟨lb, loff, none⟩) l → Calls Try.prog 21 #[.agg #[.slice (some ⟨tb, toff, none⟩) 8 cA, .slice (some ⟨lb, loff, none⟩) 4 cB, .int .i64 k, .bool b1, .bool b2], .int .i64 4] w fun e w' => e = .returned (.bool true) ∧ Below w.heap.size w w')) :
    Calls Try.prog 12 #[.int .i64 1, .agg #[.slice (some ⟨tb, toff, none⟩) 8 cA, .slice (some ⟨lb, loff, none⟩) 4 cB, .int .i64 k, .bool b1, .bool b2], .int .i64 4] w fun e w' => ∃ A' c, e = .returned (.slice A' 16 c) ∧ OwnI w' w.heap.size A' c (prdF t l k b1 b2 4 1) ∧ Below w.heap.size w w' := by
  have hrow := fun y (hy : y < 4) => prd_row (t := t) (l := l) (k := k) (b1 := b1) (b2 := b2) (m := 4) (mode := 1) hy
  have hC := prdF_len t l k b1 b2 4 1
  have HK := Lib.hid (heap_alloc_new w (.cells #[.slice (some ⟨tb, toff, none⟩) 8 cA, .slice (some ⟨lb, loff, none⟩) 4 cB, .int .i64 k, .bool b1, .bool b2] 26))
  have BW := Lib.hid (below_new w (.cells #[.slice (some ⟨tb, toff, none⟩) 8 cA, .slice (some ⟨lb, loff, none⟩) 4 cB, .int .i64 k, .bool b1, .bool b2] 26))
  have I1 : Hid (∀ wr, Below w.heap.size w wr → Ints wr wr.heap.size (some ⟨tb, toff, none⟩) t) := Lib.hid fun wr h => (hT.below h (Nat.le_refl _)).mono h.size
  have I2 : Hid (∀ wr, Below w.heap.size w wr → Ints wr wr.heap.size (some ⟨lb, loff, none⟩) l) := Lib.hid fun wr h => (hL.below h (Nat.le_refl _)).mono h.size
  have TC : Hid (∀ wr, Below w.heap.size w wr → ∀ j, j < t.length → wr.cell? ⟨tb, toff + j, none⟩ = some (.int .i64 (t.getD j 0))) := Lib.hid fun wr h j hj => by rw [h.cell (p := ⟨tb, toff + j, none⟩) htb]; exact htc j hj
  have LC : Hid (∀ wr, Below w.heap.size w wr → ∀ j, j < l.length → wr.cell? ⟨lb, loff + j, none⟩ = some (.int .i64 (l.getD j 0))) := Lib.hid fun wr h j hj => by rw [h.cell (p := ⟨lb, loff + j, none⟩) hlb]; exact hlc j hj
  have HTB := Lib.hid htb; have HLB := Lib.hid hlb
  have hTl : (t.take 4).length = 4 := by rw [List.length_take]; omega
  have RE : prdF t l k b1 b2 4 1 = repR (t.take 4) 4 := (rows_same (m := 4) (R := fun _ => t.take 4) (by rw [repR_len, hTl]) hC (fun y hy => repR_rows _ 4 hTl y hy) (fun y hy => by rw [hrow y hy, row_down (t := t) (m := 4) l k b1 b2 y (by omega)])).symm
  have RP : Hid (∀ (A : Option Addr) (cs : Nat) (w : World), Ints w w.heap.size A (t.take 4) → Calls Try.prog 42 #[.slice A 4 cs, .int .i64 4] w fun e w' => ∃ A' c, e = .returned (.slice A' 16 c) ∧ OwnI w' w.heap.size A' c (repR (t.take 4) 4) ∧ Below w.heap.size w w') := Lib.hid fun A cs w h => by
    have r := repeat_rows A (t.take 4) 4 cs 16 (by omega) (by decide) (by rw [hTl]) (by decide) w h
    rw [hTl] at r
    exact r
  rw [RE]
  have HCA := Lib.hid hcA
  have hcA1 : (4 : Int) ≤ (cA : Int) := by omega
  have hcA2 : 4 ≤ cA := by omega
  have HTK : Hid (∀ wr, Below w.heap.size w wr → Ints wr wr.heap.size (some ⟨tb, toff, none⟩) (t.take 4)) := Lib.hid fun wr h => ints_take (w := wr) (g := wr.heap.size) (b := tb) (off := toff) (l := t) (n := 4) (by omega) (by decide) (Nat.lt_of_lt_of_le htb h.size) (TC.out wr h)
  clear RE hTl
  clear hrow hC htc hlc hpt hpl hT hL htb hlb ht hl
  go_enter Try.func12, Try.ntmps12
  go_wp2_with fail
  refine (NK.out _ (I1.out _ BW.out) (I2.out _ BW.out)).mono ?_
  rintro e w1 ⟨rfl, hb1⟩
  have B1 := Lib.hid (below_up BW.out hb1 BW.out.size)
  have K1 := Lib.hid (cell_kept HK.out hb1)
  obtain ⟨c0, c1, c2, c3, c4⟩ := cells5 K1.out
  clear hb1
  go_wp2_with fail
  refine (RP.out _ _ _ (HTK.out _ B1.out)).mono ?_
  rintro e w2 ⟨A2, c2', rfl, ho2, hb2⟩
  have B2 := Lib.hid (below_up B1.out hb2 B1.out.size)
  have O2 := Lib.hid (own_lower ho2 B1.out.size)
  clear ho2 hb2 c0 c1 c2 c3 c4
  go_wp2
  go_ret
  exact ⟨_, _, rfl, O2.out, B2.out⟩
set_option maxRecDepth 100000 in
set_option maxHeartbeats 4000000 in
theorem impl_fastpred_4_2 (tb toff : Nat) (cA : Nat) (lb loff : Nat) (cB : Nat) (t l : List Int) (k : Int) (b1 b2 : Bool) (ht : t.length = 8) (hl : l.length = 4) (hcA : 8 ≤ cA) (w : World) (hT : Ints w w.heap.size (some ⟨tb, toff, none⟩) t) (hL : Ints w w.heap.size (some ⟨lb, loff, none⟩) l)
    (htb : tb < w.heap.size) (hlb : lb < w.heap.size) (htc : ∀ j, j < t.length → w.cell? ⟨tb, toff + j, none⟩ = some (.int .i64 (t.getD j 0))) (hlc : ∀ j, j < l.length → w.cell? ⟨lb, loff + j, none⟩ = some (.int .i64 (l.getD j 0)))
    (hpt : ∀ i, i < 2 * 4 → 0 ≤ t.getD i 0 ∧ t.getD i 0 ≤ 255) (hpl : ∀ i, i < 4 → 0 ≤ l.getD i 0 ∧ l.getD i 0 ≤ 255)
    (NK : Hid (∀ w, Ints w w.heap.size (some ⟨tb, toff, none⟩) t → Ints w w.heap.size (some ⟨lb, loff, none⟩) l → Calls Try.prog 21 #[.agg #[.slice (some ⟨tb, toff, none⟩) 8 cA, .slice (some ⟨lb, loff, none⟩) 4 cB, .int .i64 k, .bool b1, .bool b2], .int .i64 4] w fun e w' => e = .returned (.bool true) ∧ Below w.heap.size w w')) :
    Calls Try.prog 12 #[.int .i64 2, .agg #[.slice (some ⟨tb, toff, none⟩) 8 cA, .slice (some ⟨lb, loff, none⟩) 4 cB, .int .i64 k, .bool b1, .bool b2], .int .i64 4] w fun e w' => ∃ A' c, e = .returned (.slice A' 16 c) ∧ OwnI w' w.heap.size A' c (prdF t l k b1 b2 4 2) ∧ Below w.heap.size w w' := by
  have hrow := fun y (hy : y < 4) => prd_row (t := t) (l := l) (k := k) (b1 := b1) (b2 := b2) (m := 4) (mode := 2) hy
  have hC := prdF_len t l k b1 b2 4 2
  have HK := Lib.hid (heap_alloc_new w (.cells #[.slice (some ⟨tb, toff, none⟩) 8 cA, .slice (some ⟨lb, loff, none⟩) 4 cB, .int .i64 k, .bool b1, .bool b2] 26))
  have BW := Lib.hid (below_new w (.cells #[.slice (some ⟨tb, toff, none⟩) 8 cA, .slice (some ⟨lb, loff, none⟩) 4 cB, .int .i64 k, .bool b1, .bool b2] 26))
  have I1 : Hid (∀ wr, Below w.heap.size w wr → Ints wr wr.heap.size (some ⟨tb, toff, none⟩) t) := Lib.hid fun wr h => (hT.below h (Nat.le_refl _)).mono h.size
  have I2 : Hid (∀ wr, Below w.heap.size w wr → Ints wr wr.heap.size (some ⟨lb, loff, none⟩) l) := Lib.hid fun wr h => (hL.below h (Nat.le_refl _)).mono h.size
  have TC : Hid (∀ wr, Below w.heap.size w wr → ∀ j, j < t.length → wr.cell? ⟨tb, toff + j, none⟩ = some (.int .i64 (t.getD j 0))) := Lib.hid fun wr h j hj => by rw [h.cell (p := ⟨tb, toff + j, none⟩) htb]; exact htc j hj
  have LC : Hid (∀ wr, Below w.heap.size w wr → ∀ j, j < l.length → wr.cell? ⟨lb, loff + j, none⟩ = some (.int .i64 (l.getD j 0))) := Lib.hid fun wr h j hj => by rw [h.cell (p := ⟨lb, loff + j, none⟩) hlb]; exact hlc j hj
  have HTB := Lib.hid htb; have HLB := Lib.hid hlb
  have AC : Hid (∀ w, lb < w.heap.size → (∀ j, j < l.length → w.cell? ⟨lb, loff + j, none⟩ = some (.int .i64 (l.getD j 0))) → Calls Try.prog 43 #[.slice (some ⟨lb, loff, none⟩) 4 cB] w fun e w' => ∃ A' c, e = .returned (.slice A' 16 c) ∧ OwnI w' w.heap.size A' c (prdF t l k b1 b2 4 2) ∧ Below w.heap.size w w') := Lib.hid fun w h1 h2 => impl_acrossrows_4 lb loff cB l hl _ (fun y hy => by rw [hrow y hy, row_flat2]) hC w h1 h2
  obtain ⟨C, hCe⟩ : ∃ C, C = prdF t l k b1 b2 4 2 := ⟨_, rfl⟩
  rw [← hCe] at AC ⊢
  clear hCe
  clear hrow hC htc hlc hpt hpl hT hL htb hlb ht hl
  go_enter Try.func12, Try.ntmps12
  go_wp2_with fail
  refine (NK.out _ (I1.out _ BW.out) (I2.out _ BW.out)).mono ?_
  rintro e w1 ⟨rfl, hb1⟩
  have B1 := Lib.hid (below_up BW.out hb1 BW.out.size)
  have K1 := Lib.hid (cell_kept HK.out hb1)
  obtain ⟨c0, c1, c2, c3, c4⟩ := cells5 K1.out
  clear hb1
  go_wp2_with fail
  refine (AC.out _ (Nat.lt_of_lt_of_le HLB.out B1.out.size) (LC.out _ B1.out)).mono ?_
  rintro e w2 ⟨A2, c2', rfl, ho2, hb2⟩
  have B2 := Lib.hid (below_up B1.out hb2 B1.out.size)
  have O2 := Lib.hid (own_lower ho2 B1.out.size)
  clear ho2 hb2 c0 c1 c2 c3 c4
  go_wp2
  go_ret
  exact ⟨_, _, rfl, O2.out, B2.out⟩
set_option maxRecDepth 100000 in
set_option maxHeartbeats 4000000 in
theorem impl_fastpred_4_3 (tb toff : Nat) (cA : Nat) (lb loff : Nat) (cB : Nat) (t l : List Int) (k : Int) (b1 b2 : Bool) (ht : t.length = 8) (hl : l.length = 4) (hcA : 8 ≤ cA) (w : World) (hT : Ints w w.heap.size (some ⟨tb, toff, none⟩) t) (hL : Ints w w.heap.size (some ⟨lb, loff, none⟩) l)
    (htb : tb < w.heap.size) (hlb : lb < w.heap.size) (htc : ∀ j, j < t.length → w.cell? ⟨tb, toff + j, none⟩ = some (.int .i64 (t.getD j 0))) (hlc : ∀ j, j < l.length → w.cell? ⟨lb, loff + j, none⟩ = some (.int .i64 (l.getD j 0)))
    (hpt : ∀ i, i < 2 * 4 → 0 ≤ t.getD i 0 ∧ t.getD i 0 ≤ 255) (hpl : ∀ i, i < 4 → 0 ≤ l.getD i 0 ∧ l.getD i 0 ≤ 255)
    (NK : Hid (∀ w, Ints w w.heap.size (some ⟨tb, toff, none⟩) t → Ints w w.heap.size (some ⟨lb, loff, none⟩) l → Calls Try.prog 21 #[.agg #[.slice (some ⟨tb, toff, none⟩) 8 cA, .slice (some ⟨lb, loff, none⟩) 4 cB, .int .i64 k, .bool b1, .bool b2], .int .i64 4] w fun e w' => e = .returned (.bool true) ∧ Below w.heap.size w w'))
    (SR : Hid (∀ (y : Nat) w, y < 4 → Ints w w.heap.size (some ⟨tb, toff, none⟩) t → Ints w w.heap.size (some ⟨lb, loff, none⟩) l → Calls Try.prog 26 #[.agg #[.slice (some ⟨tb, toff, none⟩) 8 cA, .slice (some ⟨lb, loff, none⟩) 4 cB, .int .i64 k, .bool b1, .bool b2], .int .i64 4, .int .i64 y] w fun e w' => ∃ A' c, e = .returned (.slice A' 4 c) ∧ OwnI w' w.heap.size A' c (slF t l k 4 y) ∧ Below w.heap.size w w')) :
    Calls Try.prog 12 #[.int .i64 3, .agg #[.slice (some ⟨tb, toff, none⟩) 8 cA, .slice (some ⟨lb, loff, none⟩) 4 cB, .int .i64 k, .bool b1, .bool b2], .int .i64 4] w fun e w' => ∃ A' c, e = .returned (.slice A' 16 c) ∧ OwnI w' w.heap.size A' c (prdF t l k b1 b2 4 3) ∧ Below w.heap.size w w' := by
  have hrow := fun y (hy : y < 4) => prd_row (t := t) (l := l) (k := k) (b1 := b1) (b2 := b2) (m := 4) (mode := 3) hy
  have hC := prdF_len t l k b1 b2 4 3
  have HK := Lib.hid (heap_alloc_new w (.cells #[.slice (some ⟨tb, toff, none⟩) 8 cA, .slice (some ⟨lb, loff, none⟩) 4 cB, .int .i64 k, .bool b1, .bool b2] 26))
  have BW := Lib.hid (below_new w (.cells #[.slice (some ⟨tb, toff, none⟩) 8 cA, .slice (some ⟨lb, loff, none⟩) 4 cB, .int .i64 k, .bool b1, .bool b2] 26))
  have I1 : Hid (∀ wr, Below w.heap.size w wr → Ints wr wr.heap.size (some ⟨tb, toff, none⟩) t) := Lib.hid fun wr h => (hT.below h (Nat.le_refl _)).mono h.size
  have I2 : Hid (∀ wr, Below w.heap.size w wr → Ints wr wr.heap.size (some ⟨lb, loff, none⟩) l) := Lib.hid fun wr h => (hL.below h (Nat.le_refl _)).mono h.size
  have TC : Hid (∀ wr, Below w.heap.size w wr → ∀ j, j < t.length → wr.cell? ⟨tb, toff + j, none⟩ = some (.int .i64 (t.getD j 0))) := Lib.hid fun wr h j hj => by rw [h.cell (p := ⟨tb, toff + j, none⟩) htb]; exact htc j hj
  have LC : Hid (∀ wr, Below w.heap.size w wr → ∀ j, j < l.length → wr.cell? ⟨lb, loff + j, none⟩ = some (.int .i64 (l.getD j 0))) := Lib.hid fun wr h j hj => by rw [h.cell (p := ⟨lb, loff + j, none⟩) hlb]; exact hlc j hj
  have HTB := Lib.hid htb; have HLB := Lib.hid hlb
  have SS : Hid (∀ w, Ints w w.heap.size (some ⟨tb, toff, none⟩) t → Ints w w.heap.size (some ⟨lb, loff, none⟩) l → Calls Try.prog 44 #[.agg #[.slice (some ⟨tb, toff, none⟩) 8 cA, .slice (some ⟨lb, loff, none⟩) 4 cB, .int .i64 k, .bool b1, .bool b2], .int .i64 4] w fun e w' => ∃ A' c, e = .returned (.slice A' 16 c) ∧ OwnI w' w.heap.size A' c (prdF t l k b1 b2 4 3) ∧ Below w.heap.size w w') := Lib.hid fun w h1 h2 => impl_sloperows_4 tb toff cA lb loff cB t l k b1 b2 (fun y => slF t l k 4 y) (fun y => slF_len ..) _ (fun y hy => by rw [hrow y hy, row_slope]) hC w h1 h2 SR
  obtain ⟨C, hCe⟩ : ∃ C, C = prdF t l k b1 b2 4 3 := ⟨_, rfl⟩
  rw [← hCe] at SS ⊢
  clear hCe
  clear hrow hC htc hlc hpt hpl hT hL htb hlb ht hl
  go_enter Try.func12, Try.ntmps12
  go_wp2_with fail
  refine (NK.out _ (I1.out _ BW.out) (I2.out _ BW.out)).mono ?_
  rintro e w1 ⟨rfl, hb1⟩
  have B1 := Lib.hid (below_up BW.out hb1 BW.out.size)
  have K1 := Lib.hid (cell_kept HK.out hb1)
  obtain ⟨c0, c1, c2, c3, c4⟩ := cells5 K1.out
  clear hb1
  go_wp2_with fail
  refine (SS.out _ (I1.out _ B1.out) (I2.out _ B1.out)).mono ?_
  rintro e w2 ⟨A2, c2', rfl, ho2, hb2⟩
  have B2 := Lib.hid (below_up B1.out hb2 B1.out.size)
  have O2 := Lib.hid (own_lower ho2 B1.out.size)
  clear ho2 hb2 c0 c1 c2 c3 c4
  go_wp2
  go_ret
  exact ⟨_, _, rfl, O2.out, B2.out⟩
set_option maxRecDepth 100000 in
set_option maxHeartbeats 4000000 in
theorem impl_fastpred_4_4 (tb toff : Nat) (cA : Nat) (lb loff : Nat) (cB : Nat) (t l : List Int) (k : Int) (b1 b2 : Bool) (ht : t.length = 8) (hl : l.length = 4) (hcA : 8 ≤ cA) (w : World) (hT : Ints w w.heap.size (some ⟨tb, toff, none⟩) t) (hL : Ints w w.heap.size (some ⟨lb, loff, none⟩) l)
    (htb : tb < w.heap.size) (hlb : lb < w.heap.size) (htc : ∀ j, j < t.length → w.cell? ⟨tb, toff + j, none⟩ = some (.int .i64 (t.getD j 0))) (hlc : ∀ j, j < l.length → w.cell? ⟨lb, loff + j, none⟩ = some (.int .i64 (l.getD j 0)))
    (hpt : ∀ i, i < 2 * 4 → 0 ≤ t.getD i 0 ∧ t.getD i 0 ≤ 255) (hpl : ∀ i, i < 4 → 0 ≤ l.getD i 0 ∧ l.getD i 0 ≤ 255)
    (NK : Hid (∀ w, Ints w w.heap.size (some ⟨tb, toff, none⟩) t → Ints w w.heap.size (some ⟨lb, loff, none⟩) l → Calls Try.prog 21 #[.agg #[.slice (some ⟨tb, toff, none⟩) 8 cA, .slice (some ⟨lb, loff, none⟩) 4 cB, .int .i64 k, .bool b1, .bool b2], .int .i64 4] w fun e w' => e = .returned (.bool true) ∧ Below w.heap.size w w')) :
    Calls Try.prog 12 #[.int .i64 4, .agg #[.slice (some ⟨tb, toff, none⟩) 8 cA, .slice (some ⟨lb, loff, none⟩) 4 cB, .int .i64 k, .bool b1, .bool b2], .int .i64 4] w fun e w' => ∃ A' c, e = .returned (.slice A' 16 c) ∧ OwnI w' w.heap.size A' c (prdF t l k b1 b2 4 4) ∧ Below w.heap.size w w' := by
  have hrow := fun y (hy : y < 4) => prd_row (t := t) (l := l) (k := k) (b1 := b1) (b2 := b2) (m := 4) (mode := 4) hy
  have hC := prdF_len t l k b1 b2 4 4
  have HK := Lib.hid (heap_alloc_new w (.cells #[.slice (some ⟨tb, toff, none⟩) 8 cA, .slice (some ⟨lb, loff, none⟩) 4 cB, .int .i64 k, .bool b1, .bool b2] 26))
  have BW := Lib.hid (below_new w (.cells #[.slice (some ⟨tb, toff, none⟩) 8 cA, .slice (some ⟨lb, loff, none⟩) 4 cB, .int .i64 k, .bool b1, .bool b2] 26))
  have I1 : Hid (∀ wr, Below w.heap.size w wr → Ints wr wr.heap.size (some ⟨tb, toff, none⟩) t) := Lib.hid fun wr h => (hT.below h (Nat.le_refl _)).mono h.size
  have I2 : Hid (∀ wr, Below w.heap.size w wr → Ints wr wr.heap.size (some ⟨lb, loff, none⟩) l) := Lib.hid fun wr h => (hL.below h (Nat.le_refl _)).mono h.size
  have TC : Hid (∀ wr, Below w.heap.size w wr → ∀ j, j < t.length → wr.cell? ⟨tb, toff + j, none⟩ = some (.int .i64 (t.getD j 0))) := Lib.hid fun wr h j hj => by rw [h.cell (p := ⟨tb, toff + j, none⟩) htb]; exact htc j hj
  have LC : Hid (∀ wr, Below w.heap.size w wr → ∀ j, j < l.length → wr.cell? ⟨lb, loff + j, none⟩ = some (.int .i64 (l.getD j 0))) := Lib.hid fun wr h j hj => by rw [h.cell (p := ⟨lb, loff + j, none⟩) hlb]; exact hlc j hj
  have HTB := Lib.hid htb; have HLB := Lib.hid hlb
  have LS : Hid (∀ w, tb < w.heap.size → (∀ j, j < t.length → w.cell? ⟨tb, toff + j, none⟩ = some (.int .i64 (t.getD j 0))) → Calls Try.prog 46 #[.slice (some ⟨tb, toff, none⟩) 8 cA] w fun e w' => ∃ A' c, e = .returned (.slice A' 7 c) ∧ OwnI w' w.heap.size A' c (soL (t ++ [t.getD 7 0])) ∧ Below w.heap.size w w') := Lib.hid fun w h1 h2 => impl_leftsoft_4 tb toff cA t ht w h1 h2
  have hSL : (soL (t ++ [t.getD 7 0])).length = 7 := by rw [soL_len, List.length_append, ht]; rfl
  have SD : Hid (∀ (A : Option Addr) (c base : Nat) w, OwnI w base A c (soL (t ++ [t.getD 7 0])) → Calls Try.prog 45 #[.slice A 7 c, .int .i64 4, .int .i64 0, .int .i64 1] w fun e w' => ∃ A' c, e = .returned (.slice A' 16 c) ∧ OwnI w' w.heap.size A' c (prdF t l k b1 b2 4 4) ∧ Below w.heap.size w w') := Lib.hid fun A c base w h => by
    obtain ⟨sb, soff, rfl, hsb, hsc⟩ := (h.ints (by rw [hSL]; decide)).at 0 (by rw [hSL]; decide)
    exact impl_slidrows_4 sb soff c _ hSL (by have := h.cap_le; rw [hSL] at this; exact this) (fun y => (y : Int)) (fun y => y) 1 (fun y hy => ⟨rfl, by omega, by omega⟩) (by decide) 0 rfl _ (fun y hy => by rw [hrow y hy, ← row_left (m := 4) l k b1 b2 ht (by decide) hpt hy]) hC w hsb hsc
  obtain ⟨C, hCe⟩ : ∃ C, C = prdF t l k b1 b2 4 4 := ⟨_, rfl⟩
  rw [← hCe] at SD ⊢
  clear hCe
  clear hrow hC htc hlc hpt hpl hT hL htb hlb ht hl hSL
  go_enter Try.func12, Try.ntmps12
  go_wp2_with fail
  refine (NK.out _ (I1.out _ BW.out) (I2.out _ BW.out)).mono ?_
  rintro e w1 ⟨rfl, hb1⟩
  have B1 := Lib.hid (below_up BW.out hb1 BW.out.size)
  have K1 := Lib.hid (cell_kept HK.out hb1)
  obtain ⟨c0, c1, c2, c3, c4⟩ := cells5 K1.out
  clear hb1
  go_wp2_with fail
  refine (LS.out _ (Nat.lt_of_lt_of_le HTB.out B1.out.size) (TC.out _ B1.out)).mono ?_
  rintro e w2 ⟨A2, c2', rfl, ho2, hb2⟩
  have B2 := Lib.hid (below_up B1.out hb2 B1.out.size)
  have O2 := Lib.hid ho2
  clear ho2 hb2
  go_wp2_with fail
  refine (SD.out _ _ _ _ O2.out).mono ?_
  rintro e w3 ⟨A3, c3', rfl, ho3, hb3⟩
  have B3 := Lib.hid (below_up B2.out hb3 B2.out.size)
  have O3 := Lib.hid (own_lower ho3 B2.out.size)
  clear ho3 hb3 c0 c1 c2 c3 c4
  go_wp2
  go_ret
  exact ⟨_, _, rfl, O3.out, B3.out⟩
set_option maxRecDepth 100000 in
set_option maxHeartbeats 4000000 in
theorem impl_fastpred_4_5 (tb toff : Nat) (cA : Nat) (lb loff : Nat) (cB : Nat) (t l : List Int) (k : Int) (b1 b2 : Bool) (ht : t.length = 8) (hl : l.length = 4) (hcA : 8 ≤ cA) (w : World) (hT : Ints w w.heap.size (some ⟨tb, toff, none⟩) t) (hL : Ints w w.heap.size (some ⟨lb, loff, none⟩) l)
    (htb : tb < w.heap.size) (hlb : lb < w.heap.size) (htc : ∀ j, j < t.length → w.cell? ⟨tb, toff + j, none⟩ = some (.int .i64 (t.getD j 0))) (hlc : ∀ j, j < l.length → w.cell? ⟨lb, loff + j, none⟩ = some (.int .i64 (l.getD j 0)))
    (hpt : ∀ i, i < 2 * 4 → 0 ≤ t.getD i 0 ∧ t.getD i 0 ≤ 255) (hpl : ∀ i, i < 4 → 0 ≤ l.getD i 0 ∧ l.getD i 0 ≤ 255)
    (NK : Hid (∀ w, Ints w w.heap.size (some ⟨tb, toff, none⟩) t → Ints w w.heap.size (some ⟨lb, loff, none⟩) l → Calls Try.prog 21 #[.agg #[.slice (some ⟨tb, toff, none⟩) 8 cA, .slice (some ⟨lb, loff, none⟩) 4 cB, .int .i64 k, .bool b1, .bool b2], .int .i64 4] w fun e w' => e = .returned (.bool true) ∧ Below w.heap.size w w'))
    (hk : 0 ≤ k ∧ k ≤ 255) (BD : Hid (∀ w, Ints w w.heap.size (some ⟨tb, toff, none⟩) t → Ints w w.heap.size (some ⟨lb, loff, none⟩) l → Calls Try.prog 20 #[.agg #[.slice (some ⟨tb, toff, none⟩) 8 cA, .slice (some ⟨lb, loff, none⟩) 4 cB, .int .i64 k, .bool b1, .bool b2], .int .i64 4] w fun e w' => ∃ A' c, e = .returned (.slice A' 9 c) ∧ OwnI w' w.heap.size A' c (bordF t l k) ∧ Below w.heap.size w w')) :
    Calls Try.prog 12 #[.int .i64 5, .agg #[.slice (some ⟨tb, toff, none⟩) 8 cA, .slice (some ⟨lb, loff, none⟩) 4 cB, .int .i64 k, .bool b1, .bool b2], .int .i64 4] w fun e w' => ∃ A' c, e = .returned (.slice A' 16 c) ∧ OwnI w' w.heap.size A' c (prdF t l k b1 b2 4 5) ∧ Below w.heap.size w w' := by
  have hrow := fun y (hy : y < 4) => prd_row (t := t) (l := l) (k := k) (b1 := b1) (b2 := b2) (m := 4) (mode := 5) hy
  have hC := prdF_len t l k b1 b2 4 5
  have HK := Lib.hid (heap_alloc_new w (.cells #[.slice (some ⟨tb, toff, none⟩) 8 cA, .slice (some ⟨lb, loff, none⟩) 4 cB, .int .i64 k, .bool b1, .bool b2] 26))
  have BW := Lib.hid (below_new w (.cells #[.slice (some ⟨tb, toff, none⟩) 8 cA, .slice (some ⟨lb, loff, none⟩) 4 cB, .int .i64 k, .bool b1, .bool b2] 26))
  have I1 : Hid (∀ wr, Below w.heap.size w wr → Ints wr wr.heap.size (some ⟨tb, toff, none⟩) t) := Lib.hid fun wr h => (hT.below h (Nat.le_refl _)).mono h.size
  have I2 : Hid (∀ wr, Below w.heap.size w wr → Ints wr wr.heap.size (some ⟨lb, loff, none⟩) l) := Lib.hid fun wr h => (hL.below h (Nat.le_refl _)).mono h.size
  have TC : Hid (∀ wr, Below w.heap.size w wr → ∀ j, j < t.length → wr.cell? ⟨tb, toff + j, none⟩ = some (.int .i64 (t.getD j 0))) := Lib.hid fun wr h j hj => by rw [h.cell (p := ⟨tb, toff + j, none⟩) htb]; exact htc j hj
  have LC : Hid (∀ wr, Below w.heap.size w wr → ∀ j, j < l.length → wr.cell? ⟨lb, loff + j, none⟩ = some (.int .i64 (l.getD j 0))) := Lib.hid fun wr h j hj => by rw [h.cell (p := ⟨lb, loff + j, none⟩) hlb]; exact hlc j hj
  have HTB := Lib.hid htb; have HLB := Lib.hid hlb
  have hBL : (bordF t l k).length = 9 := bordF_len (m := 4) ht hl
  have SO := Lib.hid fun A c w h => impl_softened_any A c (bordF t l k) (by rw [hBL]; decide) w h
  rw [soL_len, hBL] at SO
  have HBL := Lib.hid hBL
  have hSL : (soL (bordF t l k)).length = 7 := by rw [soL_len, hBL]
  have SD : Hid (∀ (A : Option Addr) (c base : Nat) w, OwnI w base A c (soL (bordF t l k)) → Calls Try.prog 45 #[.slice A 7 c, .int .i64 4, .int .i64 3, .int .i64 (-1)] w fun e w' => ∃ A' c, e = .returned (.slice A' 16 c) ∧ OwnI w' w.heap.size A' c (prdF t l k b1 b2 4 5) ∧ Below w.heap.size w w') := Lib.hid fun A c base w h => by
    obtain ⟨sb, soff, rfl, hsb, hsc⟩ := (h.ints (by rw [hSL]; decide)).at 0 (by rw [hSL]; decide)
    exact impl_slidrows_4 sb soff c _ hSL (by have := h.cap_le; rw [hSL] at this; exact this) (fun y => 3 - (y : Int)) (fun y => 3 - y) (-1) (fun y hy => ⟨by omega, by omega, by omega⟩) (by decide) 3 rfl _ (fun y hy => by rw [hrow y hy, ← row_right (m := 4) b1 b2 ht hl (bordF_pix (m := 4) ht hl hpt hpl hk) hy]) hC w hsb hsc
  obtain ⟨C, hCe⟩ : ∃ C, C = prdF t l k b1 b2 4 5 := ⟨_, rfl⟩
  rw [← hCe] at SD ⊢
  clear hCe
  clear hrow hC htc hlc hpt hpl hT hL htb hlb ht hl hSL hBL hk
  go_enter Try.func12, Try.ntmps12
  go_wp2_with fail
  refine (NK.out _ (I1.out _ BW.out) (I2.out _ BW.out)).mono ?_
  rintro e w1 ⟨rfl, hb1⟩
  have B1 := Lib.hid (below_up BW.out hb1 BW.out.size)
  have K1 := Lib.hid (cell_kept HK.out hb1)
  obtain ⟨c0, c1, c2, c3, c4⟩ := cells5 K1.out
  clear hb1
  go_wp2_with fail
  refine (BD.out _ (I1.out _ B1.out) (I2.out _ B1.out)).mono ?_
  rintro e w2 ⟨A2, c2', rfl, ho2, hb2⟩
  have B2 := Lib.hid (below_up B1.out hb2 B1.out.size)
  have J2 := Lib.hid (ho2.ints (by rw [HBL.out]; decide))
  clear ho2 hb2
  go_wp2_with fail
  refine (SO.out _ _ _ J2.out).mono ?_
  rintro e w3 ⟨A3, c3', rfl, ho3, hb3⟩
  have B3 := Lib.hid (below_up B2.out hb3 B2.out.size)
  have O3 := Lib.hid ho3
  clear ho3 hb3
  go_wp2_with fail
  refine (SD.out _ _ _ _ O3.out).mono ?_
  rintro e w4 ⟨A4, c4', rfl, ho4, hb4⟩
  have B4 := Lib.hid (below_up B3.out hb4 B3.out.size)
  have O4 := Lib.hid (own_lower ho4 B3.out.size)
  clear ho4 hb4 c0 c1 c2 c3 c4
  go_wp2
  go_ret
  exact ⟨_, _, rfl, O4.out, B4.out⟩
set_option maxRecDepth 100000 in
set_option maxHeartbeats 4000000 in
theorem impl_fastpred_8_0 (tb toff : Nat) (cA : Nat) (lb loff : Nat) (cB : Nat) (t l : List Int) (k : Int) (b1 b2 : Bool) (ht : t.length = 16) (hl : l.length = 8) (hcA : 16 ≤ cA) (w : World) (hT : Ints w w.heap.size (some ⟨tb, toff, none⟩) t) (hL : Ints w w.heap.size (some ⟨lb, loff, none⟩) l)
    (htb : tb < w.heap.size) (hlb : lb < w.heap.size) (htc : ∀ j, j < t.length → w.cell? ⟨tb, toff + j, none⟩ = some (.int .i64 (t.getD j 0))) (hlc : ∀ j, j < l.length → w.cell? ⟨lb, loff + j, none⟩ = some (.int .i64 (l.getD j 0)))
    (hpt : ∀ i, i < 2 * 8 → 0 ≤ t.getD i 0 ∧ t.getD i 0 ≤ 255) (hpl : ∀ i, i < 8 → 0 ≤ l.getD i 0 ∧ l.getD i 0 ≤ 255)
    (NK : Hid (∀ w, Ints w w.heap.size (some ⟨tb, toff, none⟩) t → Ints w w.heap.size (some ⟨lb, loff, none⟩) l → Calls Try.prog 21 #[.agg #[.slice (some ⟨tb, toff, none⟩) 16 cA, .slice (some ⟨lb, loff, none⟩) 8 cB, .int .i64 k, .bool b1, .bool b2], .int .i64 8] w fun e w' => e = .returned (.bool true) ∧ Below w.heap.size w w'))
    (v : Int) (hv : v = meanV t l k b1 b2 ((8 : Nat) : Int)) (MN : Hid (∀ w, Ints w w.heap.size (some ⟨tb, toff, none⟩) t → Ints w w.heap.size (some ⟨lb, loff, none⟩) l → Calls Try.prog 19 #[.agg #[.slice (some ⟨tb, toff, none⟩) 16 cA, .slice (some ⟨lb, loff, none⟩) 8 cB, .int .i64 k, .bool b1, .bool b2], .int .i64 8] w fun e w' => e = .returned (.int .i64 v) ∧ Below w.heap.size w w')) :
    Calls Try.prog 12 #[.int .i64 0, .agg #[.slice (some ⟨tb, toff, none⟩) 16 cA, .slice (some ⟨lb, loff, none⟩) 8 cB, .int .i64 k, .bool b1, .bool b2], .int .i64 8] w fun e w' => ∃ A' c, e = .returned (.slice A' 64 c) ∧ OwnI w' w.heap.size A' c (prdF t l k b1 b2 8 0) ∧ Below w.heap.size w w' := by
  have hrow := fun y (hy : y < 8) => prd_row (t := t) (l := l) (k := k) (b1 := b1) (b2 := b2) (m := 8) (mode := 0) hy
  have hC := prdF_len t l k b1 b2 8 0
  have HK := Lib.hid (heap_alloc_new w (.cells #[.slice (some ⟨tb, toff, none⟩) 16 cA, .slice (some ⟨lb, loff, none⟩) 8 cB, .int .i64 k, .bool b1, .bool b2] 26))
  have BW := Lib.hid (below_new w (.cells #[.slice (some ⟨tb, toff, none⟩) 16 cA, .slice (some ⟨lb, loff, none⟩) 8 cB, .int .i64 k, .bool b1, .bool b2] 26))
  have I1 : Hid (∀ wr, Below w.heap.size w wr → Ints wr wr.heap.size (some ⟨tb, toff, none⟩) t) := Lib.hid fun wr h => (hT.below h (Nat.le_refl _)).mono h.size
  have I2 : Hid (∀ wr, Below w.heap.size w wr → Ints wr wr.heap.size (some ⟨lb, loff, none⟩) l) := Lib.hid fun wr h => (hL.below h (Nat.le_refl _)).mono h.size
  have TC : Hid (∀ wr, Below w.heap.size w wr → ∀ j, j < t.length → wr.cell? ⟨tb, toff + j, none⟩ = some (.int .i64 (t.getD j 0))) := Lib.hid fun wr h j hj => by rw [h.cell (p := ⟨tb, toff + j, none⟩) htb]; exact htc j hj
  have LC : Hid (∀ wr, Below w.heap.size w wr → ∀ j, j < l.length → wr.cell? ⟨lb, loff + j, none⟩ = some (.int .i64 (l.getD j 0))) := Lib.hid fun wr h j hj => by rw [h.cell (p := ⟨lb, loff + j, none⟩) hlb]; exact hlc j hj
  have HTB := Lib.hid htb; have HLB := Lib.hid hlb
  have RE : prdF t l k b1 b2 8 0 = List.replicate 64 v := (rows_same (m := 8) (R := fun _ => List.replicate 8 v) (by simp) hC (fun y hy => rep_rows v 8 y hy) (fun y hy => by rw [hrow y hy, hv, row_flat0])).symm
  have RP : Hid (∀ (A : Option Addr) (cs : Nat) (w : World), Ints w w.heap.size A [v] → Calls Try.prog 42 #[.slice A 1 cs, .int .i64 64] w fun e w' => ∃ A' c, e = .returned (.slice A' 64 c) ∧ OwnI w' w.heap.size A' c (List.replicate 64 v) ∧ Below w.heap.size w w') := Lib.hid fun A cs w h => by
    have r := repeat_rows A [v] 64 cs 64 (by simp) (by decide) (by simp) (by decide) w h
    have e : repR [v] 64 = List.replicate 64 v := by simp [repR]
    rw [e] at r
    exact r
  rw [RE]
  clear RE hv
  clear hrow hC htc hlc hpt hpl hT hL htb hlb ht hl
  go_enter Try.func12, Try.ntmps12
  go_wp2_with fail
  refine (NK.out _ (I1.out _ BW.out) (I2.out _ BW.out)).mono ?_
  rintro e w1 ⟨rfl, hb1⟩
  have B1 := Lib.hid (below_up BW.out hb1 BW.out.size)
  have K1 := Lib.hid (cell_kept HK.out hb1)
  obtain ⟨c0, c1, c2, c3, c4⟩ := cells5 K1.out
  clear hb1
  go_wp2_with fail
  refine (MN.out _ (I1.out _ B1.out) (I2.out _ B1.out)).mono ?_
  rintro e w2 ⟨rfl, hb2⟩
  have B2 := Lib.hid (below_up B1.out hb2 B1.out.size)
  have B3 := Lib.hid (B2.out.alloc B2.out.size (.cells #[.int .i64 v] 3))
  have IV : Hid (Ints (w2.alloc (.cells #[.int .i64 v] 3)) (w2.alloc (.cells #[.int .i64 v] 3)).heap.size (some ⟨w2.heap.size, 0, none⟩) [v]) := Lib.hid ((own_ints w2 w2.heap.size [v] (Nat.le_refl _) (by simp [maxLen])).ints (by simp))
  clear hb2
  go_wp2_with fail
  refine (RP.out _ _ _ IV.out).mono ?_
  rintro e w4 ⟨A4, c4', rfl, ho4, hb4⟩
  have B4 := Lib.hid (below_up B3.out hb4 B3.out.size)
  have O4 := Lib.hid (own_lower ho4 B3.out.size)
  clear ho4 hb4 c0 c1 c2 c3 c4
  go_wp2
  go_ret
  exact ⟨_, _, rfl, O4.out, B4.out⟩
set_option maxRecDepth 100000 in
set_option maxHeartbeats 4000000 in
theorem impl_fastpred_8_1 (tb toff : Nat) (cA : Nat) (lb loff : Nat) (cB : Nat) (t l : List Int) (k : Int) (b1 b2 : Bool) (ht : t.length = 16) (hl : l.length = 8) (hcA : 16 ≤ cA) (w : World) (hT : Ints w w.heap.size (some ⟨tb, toff, none⟩) t) (hL : Ints w w.heap.size (some ⟨lb, loff, none⟩) l)
    (htb : tb < w.heap.size) (hlb : lb < w.heap.size) (htc : ∀ j, j < t.length → w.cell? ⟨tb, toff + j, none⟩ = some (.int .i64 (t.getD j 0))) (hlc : ∀ j, j < l.length → w.cell? ⟨lb, loff + j, none⟩ = some (.int .i64 (l.getD j 0)))
    (hpt : ∀ i, i < 2 * 8 → 0 ≤ t.getD i 0 ∧ t.getD i 0 ≤ 255) (hpl : ∀ i, i < 8 → 0 ≤ l.getD i 0 ∧ l.getD i 0 ≤ 255)
    (NK : Hid (∀ w, Ints w w.heap.size (some ⟨tb, toff, none⟩) t → Ints w w.heap.size (some ⟨lb, loff, none⟩) l → Calls Try.prog 21 #[.agg #[.slice (some ⟨tb, toff, none⟩) 16 cA, .slice (some ⟨lb, loff, none⟩) 8 cB, .int .i64 k, .bool b1, .bool b2], .int .i64 8] w fun e w' => e = .returned (.bool true) ∧ Below w.heap.size w w')) :
    Calls Try.prog 12 #[.int .i64 1, .agg #[.slice (some ⟨tb, toff, none⟩) 16 cA, .slice (some ⟨lb, loff, none⟩) 8 cB, .int .i64 k, .bool b1, .bool b2], .int .i64 8] w fun e w' => ∃ A' c, e = .returned (.slice A' 64 c) ∧ OwnI w' w.heap.size A' c (prdF t l k b1 b2 8 1) ∧ Below w.heap.size w w' := by
  have hrow := fun y (hy : y < 8) => prd_row (t := t) (l := l) (k := k) (b1 := b1) (b2 := b2) (m := 8) (mode := 1) hy
  have hC := prdF_len t l k b1 b2 8 1
  have HK := Lib.hid (heap_alloc_new w (.cells #[.slice (some ⟨tb, toff, none⟩) 16 cA, .slice (some ⟨lb, loff, none⟩) 8 cB, .int .i64 k, .bool b1, .bool b2] 26))
  have BW := Lib.hid (below_new w (.cells #[.slice (some ⟨tb, toff, none⟩) 16 cA, .slice (some ⟨lb, loff, none⟩) 8 cB, .int .i64 k, .bool b1, .bool b2] 26))
  have I1 : Hid (∀ wr, Below w.heap.size w wr → Ints wr wr.heap.size (some ⟨tb, toff, none⟩) t) := Lib.hid fun wr h => (hT.below h (Nat.le_refl _)).mono h.size
  have I2 : Hid (∀ wr, Below w.heap.size w wr → Ints wr wr.heap.size (some ⟨lb, loff, none⟩) l) := Lib.hid fun wr h => (hL.below h (Nat.le_refl _)).mono h.size
  have TC : Hid (∀ wr, Below w.heap.size w wr → ∀ j, j < t.length → wr.cell? ⟨tb, toff + j, none⟩ = some (.int .i64 (t.getD j 0))) := Lib.hid fun wr h j hj => by rw [h.cell (p := ⟨tb, toff + j, none⟩) htb]; exact htc j hj
  have LC : Hid (∀ wr, Below w.heap.size w wr → ∀ j, j < l.length → wr.cell? ⟨lb, loff + j, none⟩ = some (.int .i64 (l.getD j 0))) := Lib.hid fun wr h j hj => by rw [h.cell (p := ⟨lb, loff + j, none⟩) hlb]; exact hlc j hj
  have HTB := Lib.hid htb; have HLB := Lib.hid hlb
  have hTl : (t.take 8).length = 8 := by rw [List.length_take]; omega
  have RE : prdF t l k b1 b2 8 1 = repR (t.take 8) 8 := (rows_same (m := 8) (R := fun _ => t.take 8) (by rw [repR_len, hTl]) hC (fun y hy => repR_rows _ 8 hTl y hy) (fun y hy => by rw [hrow y hy, row_down (t := t) (m := 8) l k b1 b2 y (by omega)])).symm
  have RP : Hid (∀ (A : Option Addr) (cs : Nat) (w : World), Ints w w.heap.size A (t.take 8) → Calls Try.prog 42 #[.slice A 8 cs, .int .i64 8] w fun e w' => ∃ A' c, e = .returned (.slice A' 64 c) ∧ OwnI w' w.heap.size A' c (repR (t.take 8) 8) ∧ Below w.heap.size w w') := Lib.hid fun A cs w h => by
    have r := repeat_rows A (t.take 8) 8 cs 64 (by omega) (by decide) (by rw [hTl]) (by decide) w h
    rw [hTl] at r
    exact r
  rw [RE]
  have HCA := Lib.hid hcA
  have hcA1 : (8 : Int) ≤ (cA : Int) := by omega
  have hcA2 : 8 ≤ cA := by omega
  have HTK : Hid (∀ wr, Below w.heap.size w wr → Ints wr wr.heap.size (some ⟨tb, toff, none⟩) (t.take 8)) := Lib.hid fun wr h => ints_take (w := wr) (g := wr.heap.size) (b := tb) (off := toff) (l := t) (n := 8) (by omega) (by decide) (Nat.lt_of_lt_of_le htb h.size) (TC.out wr h)
  clear RE hTl
  clear hrow hC htc hlc hpt hpl hT hL htb hlb ht hl
  go_enter Try.func12, Try.ntmps12
  go_wp2_with fail
  refine (NK.out _ (I1.out _ BW.out) (I2.out _ BW.out)).mono ?_
  rintro e w1 ⟨rfl, hb1⟩
  have B1 := Lib.hid (below_up BW.out hb1 BW.out.size)
  have K1 := Lib.hid (cell_kept HK.out hb1)
  obtain ⟨c0, c1, c2, c3, c4⟩ := cells5 K1.out
  clear hb1
  go_wp2_with fail
  refine (RP.out _ _ _ (HTK.out _ B1.out)).mono ?_
  rintro e w2 ⟨A2, c2', rfl, ho2, hb2⟩
  have B2 := Lib.hid (below_up B1.out hb2 B1.out.size)
  have O2 := Lib.hid (own_lower ho2 B1.out.size)
  clear ho2 hb2 c0 c1 c2 c3 c4
  go_wp2
  go_ret
  exact ⟨_, _, rfl, O2.out, B2.out⟩
set_option maxRecDepth 100000 in
set_option maxHeartbeats 4000000 in
theorem impl_fastpred_8_2 (tb toff : Nat) (cA : Nat) (lb loff : Nat) (cB : Nat) (t l : List Int) (k : Int) (b1 b2 : Bool) (ht : t.length = 16) (hl : l.length = 8) (hcA : 16 ≤ cA) (w : World) (hT : Ints w w.heap.size (some ⟨tb, toff, none⟩) t) (hL : Ints w w.heap.size (some ⟨lb, loff, none⟩) l)
    (htb : tb < w.heap.size) (hlb : lb < w.heap.size) (htc : ∀ j, j < t.length → w.cell? ⟨tb, toff + j, none⟩ = some (.int .i64 (t.getD j 0))) (hlc : ∀ j, j < l.length → w.cell? ⟨lb, loff + j, none⟩ = some (.int .i64 (l.getD j 0)))
    (hpt : ∀ i, i < 2 * 8 → 0 ≤ t.getD i 0 ∧ t.getD i 0 ≤ 255) (hpl : ∀ i, i < 8 → 0 ≤ l.getD i 0 ∧ l.getD i 0 ≤ 255)
    (NK : Hid (∀ w, Ints w w.heap.size (some ⟨tb, toff, none⟩) t → Ints w w.heap.size (some ⟨lb, loff, none⟩) l → Calls Try.prog 21 #[.agg #[.slice (some ⟨tb, toff, none⟩) 16 cA, .slice (some ⟨lb, loff, none⟩) 8 cB, .int .i64 k, .bool b1, .bool b2], .int .i64 8] w fun e w' => e = .returned (.bool true) ∧ Below w.heap.size w w')) :
    Calls Try.prog 12 #[.int .i64 2, .agg #[.slice (some ⟨tb, toff, none⟩) 16 cA, .slice (some ⟨lb, loff, none⟩) 8 cB, .int .i64 k, .bool b1, .bool b2], .int .i64 8] w fun e w' => ∃ A' c, e = .returned (.slice A' 64 c) ∧ OwnI w' w.heap.size A' c (prdF t l k b1 b2 8 2) ∧ Below w.heap.size w w' := by
  have hrow := fun y (hy : y < 8) => prd_row (t := t) (l := l) (k := k) (b1 := b1) (b2 := b2) (m := 8) (mode := 2) hy
  have hC := prdF_len t l k b1 b2 8 2
  have HK := Lib.hid (heap_alloc_new w (.cells #[.slice (some ⟨tb, toff, none⟩) 16 cA, .slice (some ⟨lb, loff, none⟩) 8 cB, .int .i64 k, .bool b1, .bool b2] 26))
  have BW := Lib.hid (below_new w (.cells #[.slice (some ⟨tb, toff, none⟩) 16 cA, .slice (some ⟨lb, loff, none⟩) 8 cB, .int .i64 k, .bool b1, .bool b2] 26))
  have I1 : Hid (∀ wr, Below w.heap.size w wr → Ints wr wr.heap.size (some ⟨tb, toff, none⟩) t) := Lib.hid fun wr h => (hT.below h (Nat.le_refl _)).mono h.size
  have I2 : Hid (∀ wr, Below w.heap.size w wr → Ints wr wr.heap.size (some ⟨lb, loff, none⟩) l) := Lib.hid fun wr h => (hL.below h (Nat.le_refl _)).mono h.size
  have TC : Hid (∀ wr, Below w.heap.size w wr → ∀ j, j < t.length → wr.cell? ⟨tb, toff + j, none⟩ = some (.int .i64 (t.getD j 0))) := Lib.hid fun wr h j hj => by rw [h.cell (p := ⟨tb, toff + j, none⟩) htb]; exact htc j hj
  have LC : Hid (∀ wr, Below w.heap.size w wr → ∀ j, j < l.length → wr.cell? ⟨lb, loff + j, none⟩ = some (.int .i64 (l.getD j 0))) := Lib.hid fun wr h j hj => by rw [h.cell (p := ⟨lb, loff + j, none⟩) hlb]; exact hlc j hj
  have HTB := Lib.hid htb; have HLB := Lib.hid hlb
  have AC : Hid (∀ w, lb < w.heap.size → (∀ j, j < l.length → w.cell? ⟨lb, loff + j, none⟩ = some (.int .i64 (l.getD j 0))) → Calls Try.prog 43 #[.slice (some ⟨lb, loff, none⟩) 8 cB] w fun e w' => ∃ A' c, e = .returned (.slice A' 64 c) ∧ OwnI w' w.heap.size A' c (prdF t l k b1 b2 8 2) ∧ Below w.heap.size w w') := Lib.hid fun w h1 h2 => impl_acrossrows_8 lb loff cB l hl _ (fun y hy => by rw [hrow y hy, row_flat2]) hC w h1 h2
  obtain ⟨C, hCe⟩ : ∃ C, C = prdF t l k b1 b2 8 2 := ⟨_, rfl⟩
  rw [← hCe] at AC ⊢
  clear hCe
  clear hrow hC htc hlc hpt hpl hT hL htb hlb ht hl
  go_enter Try.func12, Try.ntmps12
  go_wp2_with fail
  refine (NK.out _ (I1.out _ BW.out) (I2.out _ BW.out)).mono ?_
  rintro e w1 ⟨rfl, hb1⟩
  have B1 := Lib.hid (below_up BW.out hb1 BW.out.size)
  have K1 := Lib.hid (cell_kept HK.out hb1)
  obtain ⟨c0, c1, c2, c3, c4⟩ := cells5 K1.out
  clear hb1
  go_wp2_with fail
  refine (AC.out _ (Nat.lt_of_lt_of_le HLB.out B1.out.size) (LC.out _ B1.out)).mono ?_
  rintro e w2 ⟨A2, c2', rfl, ho2, hb2⟩
  have B2 := Lib.hid (below_up B1.out hb2 B1.out.size)
  have O2 := Lib.hid (own_lower ho2 B1.out.size)
  clear ho2 hb2 c0 c1 c2 c3 c4
  go_wp2
  go_ret
  exact ⟨_, _, rfl, O2.out, B2.out⟩
set_option maxRecDepth 100000 in
set_option maxHeartbeats 4000000 in
theorem impl_fastpred_8_3 (tb toff : Nat) (cA : Nat) (lb loff : Nat) (cB : Nat) (t l : List Int) (k : Int) (b1 b2 : Bool) (ht : t.length = 16) (hl : l.length = 8) (hcA : 16 ≤ cA) (w : World) (hT : Ints w w.heap.size (some ⟨tb, toff, none⟩) t) (hL : Ints w w.heap.size (some ⟨lb, loff, none⟩) l)
    (htb : tb < w.heap.size) (hlb : lb < w.heap.size) (htc : ∀ j, j < t.length → w.cell? ⟨tb, toff + j, none⟩ = some (.int .i64 (t.getD j 0))) (hlc : ∀ j, j < l.length → w.cell? ⟨lb, loff + j, none⟩ = some (.int .i64 (l.getD j 0)))
    (hpt : ∀ i, i < 2 * 8 → 0 ≤ t.getD i 0 ∧ t.getD i 0 ≤ 255) (hpl : ∀ i, i < 8 → 0 ≤ l.getD i 0 ∧ l.getD i 0 ≤ 255)
    (NK : Hid (∀ w, Ints w w.heap.size (some ⟨tb, toff, none⟩) t → Ints w w.heap.size (some ⟨lb, loff, none⟩) l → Calls Try.prog 21 #[.agg #[.slice (some ⟨tb, toff, none⟩) 16 cA, .slice (some ⟨lb, loff, none⟩) 8 cB, .int .i64 k, .bool b1, .bool b2], .int .i64 8] w fun e w' => e = .returned (.bool true) ∧ Below w.heap.size w w'))
    (SR : Hid (∀ (y : Nat) w, y < 8 → Ints w w.heap.size (some ⟨tb, toff, none⟩) t → Ints w w.heap.size (some ⟨lb, loff, none⟩) l → Calls Try.prog 26 #[.agg #[.slice (some ⟨tb, toff, none⟩) 16 cA, .slice (some ⟨lb, loff, none⟩) 8 cB, .int .i64 k, .bool b1, .bool b2], .int .i64 8, .int .i64 y] w fun e w' => ∃ A' c, e = .returned (.slice A' 8 c) ∧ OwnI w' w.heap.size A' c (slF t l k 8 y) ∧ Below w.heap.size w w')) :
    Calls Try.prog 12 #[.int .i64 3, .agg #[.slice (some ⟨tb, toff, none⟩) 16 cA, .slice (some ⟨lb, loff, none⟩) 8 cB, .int .i64 k, .bool b1, .bool b2], .int .i64 8] w fun e w' => ∃ A' c, e = .returned (.slice A' 64 c) ∧ OwnI w' w.heap.size A' c (prdF t l k b1 b2 8 3) ∧ Below w.heap.size w w' := by
  have hrow := fun y (hy : y < 8) => prd_row (t := t) (l := l) (k := k) (b1 := b1) (b2 := b2) (m := 8) (mode := 3) hy
  have hC := prdF_len t l k b1 b2 8 3
  have HK := Lib.hid (heap_alloc_new w (.cells #[.slice (some ⟨tb, toff, none⟩) 16 cA, .slice (some ⟨lb, loff, none⟩) 8 cB, .int .i64 k, .bool b1, .bool b2] 26))
  have BW := Lib.hid (below_new w (.cells #[.slice (some ⟨tb, toff, none⟩) 16 cA, .slice (some ⟨lb, loff, none⟩) 8 cB, .int .i64 k, .bool b1, .bool b2] 26))
  have I1 : Hid (∀ wr, Below w.heap.size w wr → Ints wr wr.heap.size (some ⟨tb, toff, none⟩) t) := Lib.hid fun wr h => (hT.below h (Nat.le_refl _)).mono h.size
  have I2 : Hid (∀ wr, Below w.heap.size w wr → Ints wr wr.heap.size (some ⟨lb, loff, none⟩) l) := Lib.hid fun wr h => (hL.below h (Nat.le_refl _)).mono h.size
  have TC : Hid (∀ wr, Below w.heap.size w wr → ∀ j, j < t.length → wr.cell? ⟨tb, toff + j, none⟩ = some (.int .i64 (t.getD j 0))) := Lib.hid fun wr h j hj => by rw [h.cell (p := ⟨tb, toff + j, none⟩) htb]; exact htc j hj
  have LC : Hid (∀ wr, Below w.heap.size w wr → ∀ j, j < l.length → wr.cell? ⟨lb, loff + j, none⟩ = some (.int .i64 (l.getD j 0))) := Lib.hid fun wr h j hj => by rw [h.cell (p := ⟨lb, loff + j, none⟩) hlb]; exact hlc j hj
  have HTB := Lib.hid htb; have HLB := Lib.hid hlb
  have SS : Hid (∀ w, Ints w w.heap.size (some ⟨tb, toff, none⟩) t → Ints w w.heap.size (some ⟨lb, loff, none⟩) l → Calls Try.prog 44 #[.agg #[.slice (some ⟨tb, toff, none⟩) 16 cA, .slice (some ⟨lb, loff, none⟩) 8 cB, .int .i64 k, .bool b1, .bool b2], .int .i64 8] w fun e w' => ∃ A' c, e = .returned (.slice A' 64 c) ∧ OwnI w' w.heap.size A' c (prdF t l k b1 b2 8 3) ∧ Below w.heap.size w w') := Lib.hid fun w h1 h2 => impl_sloperows_8 tb toff cA lb loff cB t l k b1 b2 (fun y => slF t l k 8 y) (fun y => slF_len ..) _ (fun y hy => by rw [hrow y hy, row_slope]) hC w h1 h2 SR
  obtain ⟨C, hCe⟩ : ∃ C, C = prdF t l k b1 b2 8 3 := ⟨_, rfl⟩
  rw [← hCe] at SS ⊢
  clear hCe
  clear hrow hC htc hlc hpt hpl hT hL htb hlb ht hl
  go_enter Try.func12, Try.ntmps12
  go_wp2_with fail
  refine (NK.out _ (I1.out _ BW.out) (I2.out _ BW.out)).mono ?_
  rintro e w1 ⟨rfl, hb1⟩
  have B1 := Lib.hid (below_up BW.out hb1 BW.out.size)
  have K1 := Lib.hid (cell_kept HK.out hb1)
  obtain ⟨c0, c1, c2, c3, c4⟩ := cells5 K1.out
  clear hb1
  go_wp2_with fail
  refine (SS.out _ (I1.out _ B1.out) (I2.out _ B1.out)).mono ?_
  rintro e w2 ⟨A2, c2', rfl, ho2, hb2⟩
  have B2 := Lib.hid (below_up B1.out hb2 B1.out.size)
  have O2 := Lib.hid (own_lower ho2 B1.out.size)
  clear ho2 hb2 c0 c1 c2 c3 c4
  go_wp2
  go_ret
  exact ⟨_, _, rfl, O2.out, B2.out⟩
set_option maxRecDepth 100000 in
set_option maxHeartbeats 4000000 in
theorem impl_fastpred_8_4 (tb toff : Nat) (cA : Nat) (lb loff : Nat) (cB : Nat) (t l : List Int) (k : Int) (b1 b2 : Bool) (ht : t.length = 16) (hl : l.length = 8) (hcA : 16 ≤ cA) (w : World) (hT : Ints w w.heap.size (some ⟨tb, toff, none⟩) t) (hL : Ints w w.heap.size (some ⟨lb, loff, none⟩) l)
    (htb : tb < w.heap.size) (hlb : lb < w.heap.size) (htc : ∀ j, j < t.length → w.cell? ⟨tb, toff + j, none⟩ = some (.int .i64 (t.getD j 0))) (hlc : ∀ j, j < l.length → w.cell? ⟨lb, loff + j, none⟩ = some (.int .i64 (l.getD j 0)))
    (hpt : ∀ i, i < 2 * 8 → 0 ≤ t.getD i 0 ∧ t.getD i 0 ≤ 255) (hpl : ∀ i, i < 8 → 0 ≤ l.getD i 0 ∧ l.getD i 0 ≤ 255)
    (NK : Hid (∀ w, Ints w w.heap.size (some ⟨tb, toff, none⟩) t → Ints w w.heap.size (some ⟨lb, loff, none⟩) l → Calls Try.prog 21 #[.agg #[.slice (some ⟨tb, toff, none⟩) 16 cA, .slice (some ⟨lb, loff, none⟩) 8 cB, .int .i64 k, .bool b1, .bool b2], .int .i64 8] w fun e w' => e = .returned (.bool true) ∧ Below w.heap.size w w')) :
    Calls Try.prog 12 #[.int .i64 4, .agg #[.slice (some ⟨tb, toff, none⟩) 16 cA, .slice (some ⟨lb, loff, none⟩) 8 cB, .int .i64 k, .bool b1, .bool b2], .int .i64 8] w fun e w' => ∃ A' c, e = .returned (.slice A' 64 c) ∧ OwnI w' w.heap.size A' c (prdF t l k b1 b2 8 4) ∧ Below w.heap.size w w' := by
  have hrow := fun y (hy : y < 8) => prd_row (t := t) (l := l) (k := k) (b1 := b1) (b2 := b2) (m := 8) (mode := 4) hy
  have hC := prdF_len t l k b1 b2 8 4
  have HK := Lib.hid (heap_alloc_new w (.cells #[.slice (some ⟨tb, toff, none⟩) 16 cA, .slice (some ⟨lb, loff, none⟩) 8 cB, .int .i64 k, .bool b1, .bool b2] 26))
  have BW := Lib.hid (below_new w (.cells #[.slice (some ⟨tb, toff, none⟩) 16 cA, .slice (some ⟨lb, loff, none⟩) 8 cB, .int .i64 k, .bool b1, .bool b2] 26))
  have I1 : Hid (∀ wr, Below w.heap.size w wr → Ints wr wr.heap.size (some ⟨tb, toff, none⟩) t) := Lib.hid fun wr h => (hT.below h (Nat.le_refl _)).mono h.size
  have I2 : Hid (∀ wr, Below w.heap.size w wr → Ints wr wr.heap.size (some ⟨lb, loff, none⟩) l) := Lib.hid fun wr h => (hL.below h (Nat.le_refl _)).mono h.size
  have TC : Hid (∀ wr, Below w.heap.size w wr → ∀ j, j < t.length → wr.cell? ⟨tb, toff + j, none⟩ = some (.int .i64 (t.getD j 0))) := Lib.hid fun wr h j hj => by rw [h.cell (p := ⟨tb, toff + j, none⟩) htb]; exact htc j hj
  have LC : Hid (∀ wr, Below w.heap.size w wr → ∀ j, j < l.length → wr.cell? ⟨lb, loff + j, none⟩ = some (.int .i64 (l.getD j 0))) := Lib.hid fun wr h j hj => by rw [h.cell (p := ⟨lb, loff + j, none⟩) hlb]; exact hlc j hj
  have HTB := Lib.hid htb; have HLB := Lib.hid hlb
  have LS : Hid (∀ w, tb < w.heap.size → (∀ j, j < t.length → w.cell? ⟨tb, toff + j, none⟩ = some (.int .i64 (t.getD j 0))) → Calls Try.prog 46 #[.slice (some ⟨tb, toff, none⟩) 16 cA] w fun e w' => ∃ A' c, e = .returned (.slice A' 15 c) ∧ OwnI w' w.heap.size A' c (soL (t ++ [t.getD 15 0])) ∧ Below w.heap.size w w') := Lib.hid fun w h1 h2 => impl_leftsoft_8 tb toff cA t ht w h1 h2
  have hSL : (soL (t ++ [t.getD 15 0])).length = 15 := by rw [soL_len, List.length_append, ht]; rfl
  have SD : Hid (∀ (A : Option Addr) (c base : Nat) w, OwnI w base A c (soL (t ++ [t.getD 15 0])) → Calls Try.prog 45 #[.slice A 15 c, .int .i64 8, .int .i64 0, .int .i64 1] w fun e w' => ∃ A' c, e = .returned (.slice A' 64 c) ∧ OwnI w' w.heap.size A' c (prdF t l k b1 b2 8 4) ∧ Below w.heap.size w w') := Lib.hid fun A c base w h => by
    obtain ⟨sb, soff, rfl, hsb, hsc⟩ := (h.ints (by rw [hSL]; decide)).at 0 (by rw [hSL]; decide)
    exact impl_slidrows_8 sb soff c _ hSL (by have := h.cap_le; rw [hSL] at this; exact this) (fun y => (y : Int)) (fun y => y) 1 (fun y hy => ⟨rfl, by omega, by omega⟩) (by decide) 0 rfl _ (fun y hy => by rw [hrow y hy, ← row_left (m := 8) l k b1 b2 ht (by decide) hpt hy]) hC w hsb hsc
  obtain ⟨C, hCe⟩ : ∃ C, C = prdF t l k b1 b2 8 4 := ⟨_, rfl⟩
  rw [← hCe] at SD ⊢
  clear hCe
  clear hrow hC htc hlc hpt hpl hT hL htb hlb ht hl hSL
  go_enter Try.func12, Try.ntmps12
  go_wp2_with fail
  refine (NK.out _ (I1.out _ BW.out) (I2.out _ BW.out)).mono ?_
  rintro e w1 ⟨rfl, hb1⟩
  have B1 := Lib.hid (below_up BW.out hb1 BW.out.size)
  have K1 := Lib.hid (cell_kept HK.out hb1)
  obtain ⟨c0, c1, c2, c3, c4⟩ := cells5 K1.out
  clear hb1
  go_wp2_with fail
  refine (LS.out _ (Nat.lt_of_lt_of_le HTB.out B1.out.size) (TC.out _ B1.out)).mono ?_
  rintro e w2 ⟨A2, c2', rfl, ho2, hb2⟩
  have B2 := Lib.hid (below_up B1.out hb2 B1.out.size)
  have O2 := Lib.hid ho2
  clear ho2 hb2
  go_wp2_with fail
  refine (SD.out _ _ _ _ O2.out).mono ?_
  rintro e w3 ⟨A3, c3', rfl, ho3, hb3⟩
  have B3 := Lib.hid (below_up B2.out hb3 B2.out.size)
  have O3 := Lib.hid (own_lower ho3 B2.out.size)
  clear ho3 hb3 c0 c1 c2 c3 c4
  go_wp2
  go_ret
  exact ⟨_, _, rfl, O3.out, B3.out⟩
set_option maxRecDepth 100000 in
set_option maxHeartbeats 4000000 in
theorem impl_fastpred_8_5 (tb toff : Nat) (cA : Nat) (lb loff : Nat) (cB : Nat) (t l : List Int) (k : Int) (b1 b2 : Bool) (ht : t.length = 16) (hl : l.length = 8) (hcA : 16 ≤ cA) (w : World) (hT : Ints w w.heap.size (some ⟨tb, toff, none⟩) t) (hL : Ints w w.heap.size (some ⟨lb, loff, none⟩) l)
    (htb : tb < w.heap.size) (hlb : lb < w.heap.size) (htc : ∀ j, j < t.length → w.cell? ⟨tb, toff + j, none⟩ = some (.int .i64 (t.getD j 0))) (hlc : ∀ j, j < l.length → w.cell? ⟨lb, loff + j, none⟩ = some (.int .i64 (l.getD j 0)))
    (hpt : ∀ i, i < 2 * 8 → 0 ≤ t.getD i 0 ∧ t.getD i 0 ≤ 255) (hpl : ∀ i, i < 8 → 0 ≤ l.getD i 0 ∧ l.getD i 0 ≤ 255)
    (NK : Hid (∀ w, Ints w w.heap.size (some ⟨tb, toff, none⟩) t → Ints w w.heap.size (some ⟨lb, loff, none⟩) l → Calls Try.prog 21 #[.agg #[.slice (some ⟨tb, toff, none⟩) 16 cA, .slice (some ⟨lb, loff, none⟩) 8 cB, .int .i64 k, .bool b1, .bool b2], .int .i64 8] w fun e w' => e = .returned (.bool true) ∧ Below w.heap.size w w'))
    (hk : 0 ≤ k ∧ k ≤ 255) (BD : Hid (∀ w, Ints w w.heap.size (some ⟨tb, toff, none⟩) t → Ints w w.heap.size (some ⟨lb, loff, none⟩) l → Calls Try.prog 20 #[.agg #[.slice (some ⟨tb, toff, none⟩) 16 cA, .slice (some ⟨lb, loff, none⟩) 8 cB, .int .i64 k, .bool b1, .bool b2], .int .i64 8] w fun e w' => ∃ A' c, e = .returned (.slice A' 17 c) ∧ OwnI w' w.heap.size A' c (bordF t l k) ∧ Below w.heap.size w w')) :
    Calls Try.prog 12 #[.int .i64 5, .agg #[.slice (some ⟨tb, toff, none⟩) 16 cA, .slice (some ⟨lb, loff, none⟩) 8 cB, .int .i64 k, .bool b1, .bool b2], .int .i64 8] w fun e w' => ∃ A' c, e = .returned (.slice A' 64 c) ∧ OwnI w' w.heap.size A' c (prdF t l k b1 b2 8 5) ∧ Below w.heap.size w w' := by
  have hrow := fun y (hy : y < 8) => prd_row (t := t) (l := l) (k := k) (b1 := b1) (b2 := b2) (m := 8) (mode := 5) hy
  have hC := prdF_len t l k b1 b2 8 5
  have HK := Lib.hid (heap_alloc_new w (.cells #[.slice (some ⟨tb, toff, none⟩) 16 cA, .slice (some ⟨lb, loff, none⟩) 8 cB, .int .i64 k, .bool b1, .bool b2] 26))
  have BW := Lib.hid (below_new w (.cells #[.slice (some ⟨tb, toff, none⟩) 16 cA, .slice (some ⟨lb, loff, none⟩) 8 cB, .int .i64 k, .bool b1, .bool b2] 26))
  have I1 : Hid (∀ wr, Below w.heap.size w wr → Ints wr wr.heap.size (some ⟨tb, toff, none⟩) t) := Lib.hid fun wr h => (hT.below h (Nat.le_refl _)).mono h.size
  have I2 : Hid (∀ wr, Below w.heap.size w wr → Ints wr wr.heap.size (some ⟨lb, loff, none⟩) l) := Lib.hid fun wr h => (hL.below h (Nat.le_refl _)).mono h.size
  have TC : Hid (∀ wr, Below w.heap.size w wr → ∀ j, j < t.length → wr.cell? ⟨tb, toff + j, none⟩ = some (.int .i64 (t.getD j 0))) := Lib.hid fun wr h j hj => by rw [h.cell (p := ⟨tb, toff + j, none⟩) htb]; exact htc j hj
  have LC : Hid (∀ wr, Below w.heap.size w wr → ∀ j, j < l.length → wr.cell? ⟨lb, loff + j, none⟩ = some (.int .i64 (l.getD j 0))) := Lib.hid fun wr h j hj => by rw [h.cell (p := ⟨lb, loff + j, none⟩) hlb]; exact hlc j hj
  have HTB := Lib.hid htb; have HLB := Lib.hid hlb
  have hBL : (bordF t l k).length = 17 := bordF_len (m := 8) ht hl
  have SO := Lib.hid fun A c w h => impl_softened_any A c (bordF t l k) (by rw [hBL]; decide) w h
  rw [soL_len, hBL] at SO
  have HBL := Lib.hid hBL
  have hSL : (soL (bordF t l k)).length = 15 := by rw [soL_len, hBL]
  have SD : Hid (∀ (A : Option Addr) (c base : Nat) w, OwnI w base A c (soL (bordF t l k)) → Calls Try.prog 45 #[.slice A 15 c, .int .i64 8, .int .i64 7, .int .i64 (-1)] w fun e w' => ∃ A' c, e = .returned (.slice A' 64 c) ∧ OwnI w' w.heap.size A' c (prdF t l k b1 b2 8 5) ∧ Below w.heap.size w w') := Lib.hid fun A c base w h => by
    obtain ⟨sb, soff, rfl, hsb, hsc⟩ := (h.ints (by rw [hSL]; decide)).at 0 (by rw [hSL]; decide)
    exact impl_slidrows_8 sb soff c _ hSL (by have := h.cap_le; rw [hSL] at this; exact this) (fun y => 7 - (y : Int)) (fun y => 7 - y) (-1) (fun y hy => ⟨by omega, by omega, by omega⟩) (by decide) 7 rfl _ (fun y hy => by rw [hrow y hy, ← row_right (m := 8) b1 b2 ht hl (bordF_pix (m := 8) ht hl hpt hpl hk) hy]) hC w hsb hsc
  obtain ⟨C, hCe⟩ : ∃ C, C = prdF t l k b1 b2 8 5 := ⟨_, rfl⟩
  rw [← hCe] at SD ⊢
  clear hCe
  clear hrow hC htc hlc hpt hpl hT hL htb hlb ht hl hSL hBL hk
  go_enter Try.func12, Try.ntmps12
  go_wp2_with fail
  refine (NK.out _ (I1.out _ BW.out) (I2.out _ BW.out)).mono ?_
  rintro e w1 ⟨rfl, hb1⟩
  have B1 := Lib.hid (below_up BW.out hb1 BW.out.size)
  have K1 := Lib.hid (cell_kept HK.out hb1)
  obtain ⟨c0, c1, c2, c3, c4⟩ := cells5 K1.out
  clear hb1
  go_wp2_with fail
  refine (BD.out _ (I1.out _ B1.out) (I2.out _ B1.out)).mono ?_
  rintro e w2 ⟨A2, c2', rfl, ho2, hb2⟩
  have B2 := Lib.hid (below_up B1.out hb2 B1.out.size)
  have J2 := Lib.hid (ho2.ints (by rw [HBL.out]; decide))
  clear ho2 hb2
  go_wp2_with fail
  refine (SO.out _ _ _ J2.out).mono ?_
  rintro e w3 ⟨A3, c3', rfl, ho3, hb3⟩
  have B3 := Lib.hid (below_up B2.out hb3 B2.out.size)
  have O3 := Lib.hid ho3
  clear ho3 hb3
  go_wp2_with fail
  refine (SD.out _ _ _ _ O3.out).mono ?_
  rintro e w4 ⟨A4, c4', rfl, ho4, hb4⟩
  have B4 := Lib.hid (below_up B3.out hb4 B3.out.size)
  have O4 := Lib.hid (own_lower ho4 B3.out.size)
  clear ho4 hb4 c0 c1 c2 c3 c4
  go_wp2
  go_ret
  exact ⟨_, _, rfl, O4.out, B4.out⟩
set_option maxRecDepth 100000 in
set_option maxHeartbeats 1000000 in
theorem fastpred_nonb (mode : Int) (A : Option Addr) (cA : Nat) (B : Option Addr) (cB : Nat) (t l : List Int) (k : Int) (b1 b2 : Bool) (n : Int) (w : World) (hT : Ints w w.heap.size A t) (hL : Ints w w.heap.size B l) (NK : Hid (∀ w, Ints w w.heap.size A t → Ints w w.heap.size B l → Calls Try.prog 21 #[.agg #[.slice A t.length cA, .slice B l.length cB, .int .i64 k, .bool b1, .bool b2], .int .i64 n] w fun e w' => e = .returned (.bool false) ∧ Below w.heap.size w w')) :
    Calls Try.prog 12 #[.int .i64 mode, .agg #[.slice A t.length cA, .slice B l.length cB, .int .i64 k, .bool b1, .bool b2], .int .i64 n] w fun e w' => ∃ A' c, e = .returned (.slice A' 0 c) ∧ OwnI w' w.heap.size A' c [] ∧ Below w.heap.size w w' := by
  have HK := Lib.hid (heap_alloc_new w (.cells #[.slice A t.length cA, .slice B l.length cB, .int .i64 k, .bool b1, .bool b2] 26))
  have BW := Lib.hid (below_new w (.cells #[.slice A t.length cA, .slice B l.length cB, .int .i64 k, .bool b1, .bool b2] 26))
  have I1 : Hid (∀ wr, Below w.heap.size w wr → Ints wr wr.heap.size A t) := Lib.hid fun wr h => (hT.below h (Nat.le_refl _)).mono h.size
  have I2 : Hid (∀ wr, Below w.heap.size w wr → Ints wr wr.heap.size B l) := Lib.hid fun wr h => (hL.below h (Nat.le_refl _)).mono h.size
  clear hT hL
  go_enter Try.func12, Try.ntmps12
  go_wp2_with fail
  refine (NK.out _ (I1.out _ BW.out) (I2.out _ BW.out)).mono ?_
  rintro e w1 ⟨rfl, hb1⟩
  have B1 := Lib.hid (below_up BW.out hb1 BW.out.size)
  clear hb1
  have O9 := Lib.hid (World.ownsRow_nil w1 w.heap.size 3 1)
  go_wp2
  go_ret
  exact ⟨_, _, rfl, O9.out, B1.out⟩
set_option maxRecDepth 100000 in
set_option maxHeartbeats 1000000 in
theorem fastpred_nomode (mode : Int) (hmd : mdOk mode = false) (A : Option Addr) (cA : Nat) (B : Option Addr) (cB : Nat) (t l : List Int) (k : Int) (b1 b2 : Bool) (n : Int) (w : World) (hT : Ints w w.heap.size A t) (hL : Ints w w.heap.size B l) (NK : Hid (∀ w, Ints w w.heap.size A t → Ints w w.heap.size B l → Calls Try.prog 21 #[.agg #[.slice A t.length cA, .slice B l.length cB, .int .i64 k, .bool b1, .bool b2], .int .i64 n] w fun e w' => e = .returned (.bool true) ∧ Below w.heap.size w w')) :
    Calls Try.prog 12 #[.int .i64 mode, .agg #[.slice A t.length cA, .slice B l.length cB, .int .i64 k, .bool b1, .bool b2], .int .i64 n] w fun e w' => ∃ A' c, e = .returned (.slice A' 0 c) ∧ OwnI w' w.heap.size A' c [] ∧ Below w.heap.size w w' := by
  have hq : ¬ (0 ≤ mode ∧ mode ≤ 5) := by
    intro h
    simp only [mdOk, Bool.and_eq_false_iff, decide_eq_false_iff_not] at hmd
    omega
  have q0 : (mode == (0 : Int)) = false := by simp; omega
  have q1 : (mode == (1 : Int)) = false := by simp; omega
  have q2 : (mode == (2 : Int)) = false := by simp; omega
  have q3 : (mode == (3 : Int)) = false := by simp; omega
  have q4 : (mode == (4 : Int)) = false := by simp; omega
  have q5 : (mode == (5 : Int)) = false := by simp; omega
  clear hq hmd
  have HK := Lib.hid (heap_alloc_new w (.cells #[.slice A t.length cA, .slice B l.length cB, .int .i64 k, .bool b1, .bool b2] 26))
  have BW := Lib.hid (below_new w (.cells #[.slice A t.length cA, .slice B l.length cB, .int .i64 k, .bool b1, .bool b2] 26))
  have I1 : Hid (∀ wr, Below w.heap.size w wr → Ints wr wr.heap.size A t) := Lib.hid fun wr h => (hT.below h (Nat.le_refl _)).mono h.size
  have I2 : Hid (∀ wr, Below w.heap.size w wr → Ints wr wr.heap.size B l) := Lib.hid fun wr h => (hL.below h (Nat.le_refl _)).mono h.size
  clear hT hL
  go_enter Try.func12, Try.ntmps12
  go_wp2_with fail
  refine (NK.out _ (I1.out _ BW.out) (I2.out _ BW.out)).mono ?_
  rintro e w1 ⟨rfl, hb1⟩
  have B1 := Lib.hid (below_up BW.out hb1 BW.out.size)
  clear hb1
  have O9 := Lib.hid (World.ownsRow_nil w1 w.heap.size 3 1)
  go_wp2
  go_ret
  exact ⟨_, _, rfl, O9.out, B1.out⟩
set_option maxHeartbeats 1000000 in
theorem impl_fastpred_any (mode : Int) (A : Option Addr) (cA : Nat) (B : Option Addr) (cB : Nat) (t l : List Int) (k : Int) (b1 b2 : Bool) (n : Int) (w : World) (hT : Ints w w.heap.size A t) (hL : Ints w w.heap.size B l) (hcA : t.length ≤ cA) :
    Calls Try.prog 12 #[.int .i64 mode, .agg #[.slice A t.length cA, .slice B l.length cB, .int .i64 k, .bool b1, .bool b2], .int .i64 n] w fun e w' => ∃ A' c, e = .returned (.slice A' (prdL mode t l k b1 b2 n).length c) ∧ OwnI w' w.heap.size A' c (prdL mode t l k b1 b2 n) ∧ Below w.heap.size w w' := by
  have NK := Lib.hid fun w h1 h2 => impl_nbok_any A cA B cB t l k b1 b2 n w h1 h2
  cases hok : nbOk t l k n with
  | false =>
    rw [hok] at NK
    rw [prdL_off (by rw [hok]; simp)]
    exact fastpred_nonb mode A cA B cB t l k b1 b2 n w hT hL NK
  | true =>
    rw [hok] at NK
    cases hmd : mdOk mode with
    | false =>
      rw [prdL_off (by rw [hmd]; simp)]
      exact fastpred_nomode mode hmd A cA B cB t l k b1 b2 n w hT hL NK
    | true =>
      obtain ⟨m, rfl, hm, ht, hl, hpt, hpl, hk⟩ := nbOk_side hok
      have e1 : prdL mode t l k b1 b2 (m : Int) = prdF t l k b1 b2 m mode := by unfold prdL; rw [if_pos ⟨hok, hmd⟩, Int.toNat_natCast]
      have BD := Lib.hid fun w h1 h2 => impl_border_any A cA B cB t l k b1 b2 (m : Int) w h1 h2 hcA
      have MN := Lib.hid fun w h1 h2 => impl_mean_any A cA B cB t l k b1 b2 (m : Int) w h1 h2 hcA
      rw [nbOk_true_bord hok, bordF_len ht hl] at BD
      rw [e1, prdF_len]
      obtain ⟨tb, toff, rfl, htb, htc⟩ := hT.at 0 (by omega)
      obtain ⟨lb, loff, rfl, hlb, hlc⟩ := hL.at 0 (by omega)
      rw [ht, hl] at NK BD MN ⊢
      rcases hm with rfl | rfl <;> rcases mdOk_cases hmd with rfl | rfl | rfl | rfl | rfl | rfl
      · exact impl_fastpred_4_0 tb toff cA lb loff cB t l k b1 b2 ht hl (by omega) w hT hL htb hlb htc hlc hpt hpl NK _ rfl MN
      · exact impl_fastpred_4_1 tb toff cA lb loff cB t l k b1 b2 ht hl (by omega) w hT hL htb hlb htc hlc hpt hpl NK
      · exact impl_fastpred_4_2 tb toff cA lb loff cB t l k b1 b2 ht hl (by omega) w hT hL htb hlb htc hlc hpt hpl NK
      · exact impl_fastpred_4_3 tb toff cA lb loff cB t l k b1 b2 ht hl (by omega) w hT hL htb hlb htc hlc hpt hpl NK (Lib.hid fun y w hy h1 h2 => by
          have r := impl_sloperow_any _ cA _ cB t l k b1 b2 ((4 : Nat) : Int) (y : Int) w h1 h2
          have e : slL t l k ((4 : Nat) : Int) (y : Int) = slF t l k 4 y := by unfold slL; rw [if_pos ⟨hok, by omega, by omega⟩, Int.toNat_natCast, Int.toNat_natCast]
          rw [e, slF_len, ht, hl] at r
          exact r)
      · exact impl_fastpred_4_4 tb toff cA lb loff cB t l k b1 b2 ht hl (by omega) w hT hL htb hlb htc hlc hpt hpl NK
      · exact impl_fastpred_4_5 tb toff cA lb loff cB t l k b1 b2 ht hl (by omega) w hT hL htb hlb htc hlc hpt hpl NK hk BD
      · exact impl_fastpred_8_0 tb toff cA lb loff cB t l k b1 b2 ht hl (by omega) w hT hL htb hlb htc hlc hpt hpl NK _ rfl MN
      · exact impl_fastpred_8_1 tb toff cA lb loff cB t l k b1 b2 ht hl (by omega) w hT hL htb hlb htc hlc hpt hpl NK
      · exact impl_fastpred_8_2 tb toff cA lb loff cB t l k b1 b2 ht hl (by omega) w hT hL htb hlb htc hlc hpt hpl NK
      · exact impl_fastpred_8_3 tb toff cA lb loff cB t l k b1 b2 ht hl (by omega) w hT hL htb hlb htc hlc hpt hpl NK (Lib.hid fun y w hy h1 h2 => by
          have r := impl_sloperow_any _ cA _ cB t l k b1 b2 ((8 : Nat) : Int) (y : Int) w h1 h2
          have e : slL t l k ((8 : Nat) : Int) (y : Int) = slF t l k 8 y := by unfold slL; rw [if_pos ⟨hok, by omega, by omega⟩, Int.toNat_natCast, Int.toNat_natCast]
          rw [e, slF_len, ht, hl] at r
          exact r)
      · exact impl_fastpred_8_4 tb toff cA lb loff cB t l k b1 b2 ht hl (by omega) w hT hL htb hlb htc hlc hpt hpl NK
      · exact impl_fastpred_8_5 tb toff cA lb loff cB t l k b1 b2 ht hl (by omega) w hT hL htb hlb htc hlc hpt hpl NK hk BD
end Go.Proofs.Ytjgbenhjafgimaa
