/-
  The contract of the model's SlopeRow. Condition: a slice is no longer than it holds.
-/
import Derived.Test.YtjgbenhjafgimaaReC
namespace Go.Proofs.Ytjgbenhjafgimaa
open Go.RowKit
set_option linter.unusedVariables false

/-- A row of the slope. -/
def slF (t l : List Int) (k : Int) (m y : Nat) : List Int := (List.range m).map fun x => clipV (l.getD y 0 + t.getD x 0 - k)
def slL (t l : List Int) (k n y : Int) : List Int := if nbOk t l k n = true ∧ (0 ≤ y ∧ y ≤ n - 1) then slF t l k n.toNat y.toNat else []
theorem slF_len (t l : List Int) (k : Int) (m y : Nat) : (slF t l k m y).length = m := by simp [slF]
theorem slL_len (t l : List Int) (k n y : Int) : (slL t l k n y).length ≤ 64 := by
  unfold slL
  split
  · rename_i h
    obtain ⟨m, rfl, hm, _⟩ := nbOk_side h.1
    rw [slF_len, Int.toNat_natCast]; omega
  · simp
theorem slF_at (t l : List Int) (k : Int) (m y : Nat) {x : Nat} (hx : x < m) : (slF t l k m y).getD x 0 = clipV (l.getD y 0 + t.getD x 0 - k) := by
  rw [List.getD_eq_getElem?_getD, slF, List.getElem?_map, List.getElem?_range hx]
  rfl
theorem sl_next {t l : List Int} {k : Int} {m y : Nat} (hy : 0 ≤ l.getD y 0 ∧ l.getD y 0 ≤ 255) (hk : 0 ≤ k ∧ k ≤ 255) {j : Nat} (hj : j + 4 ≤ m) : (slF t l k m y).take (j + 4) = (slF t l k m y).take j ++ caF (fourV t j) [l.getD y 0 - k, l.getD y 0 - k, l.getD y 0 - k, l.getD y 0 - k] := by
  rw [List.take_add]
  refine congrArg _ (List.ext_getElem ?_ fun q h1 h2 => ?_)
  · rw [List.length_take, List.length_drop, slF_len, caF_len]
    omega
  · have hq : q < 4 := by rw [caF_len] at h2; exact h2
    have e1 : (((slF t l k m y).drop j).take 4).getD q 0 = (slF t l k m y).getD (j + q) 0 := by
      simp only [List.getD_eq_getElem?_getD, List.getElem?_take, if_pos hq, List.getElem?_drop]
    have e2 := caF_at (fourV t j) [l.getD y 0 - k, l.getD y 0 - k, l.getD y 0 - k, l.getD y 0 - k] hq
    rw [List.getD_eq_getElem?_getD, List.getElem?_eq_getElem h1] at e1
    rw [List.getD_eq_getElem?_getD, List.getElem?_eq_getElem h2] at e2
    refine e1.trans (Eq.trans ?_ e2.symm)
    have e3 : [l.getD y 0 - k, l.getD y 0 - k, l.getD y 0 - k, l.getD y 0 - k].getD q 0 = l.getD y 0 - k := by
      rcases (show q = 0 ∨ q = 1 ∨ q = 2 ∨ q = 3 by omega) with rfl | rfl | rfl | rfl <;> rfl
    rw [slF_at t l k m y (by omega)]
    unfold caAt
    rw [fourV_at hq, e3]
    unfold clipV lim
    omega
theorem below_made' {a wr : World} (h : Below a.heap.size a wr) (o : Obj) : Below a.heap.size a (wr.alloc o) := h.alloc h.size o
theorem World.ownsRow.drewN' {w : World} {base : Nat} {e : TypeId} {size : Nat} {v : Value} {n : Nat} {xs : List Value} (h : w.ownsRow base e size v n xs) (k : Nat) : (w.drewN k).ownsRow base e size v n xs := h

set_option maxRecDepth 100000 in
set_option maxHeartbeats 4000000 in
theorem spec_sloperow_4 (tb toff : Nat) (cA : Nat) (lb loff : Nat) (cB : Nat) (t l : List Int) (k : Int) (b1 b2 : Bool) (y : Nat) (hy : y < 4) (ht : t.length = 8) (hl : l.length = 4) (hcA : 8 ≤ cA) (htp : t.all pixE = true) (w : World) (htb : tb < w.heap.size) (hlb : lb < w.heap.size)
    (htc : ∀ j, j < t.length → w.cell? ⟨tb, toff + j, none⟩ = some (.int .i64 (t.getD j 0))) (hlc : ∀ j, j < l.length → w.cell? ⟨lb, loff + j, none⟩ = some (.int .i64 (l.getD j 0)))
    (hpy : 0 ≤ l.getD y 0 ∧ l.getD y 0 ≤ 255) (hk : 0 ≤ k ∧ k ≤ 255)
    (NK : Hid (∀ w, Ints w w.heap.size (some ⟨tb, toff, none⟩) t → Ints w w.heap.size (some ⟨lb, loff, none⟩) l → Calls Try.prog 15 #[.agg #[.slice (some ⟨tb, toff, none⟩) 8 cA, .slice (some ⟨lb, loff, none⟩) 4 cB, .int .i64 k, .bool b1, .bool b2], .int .i64 4] w fun e w' => e = .returned (.bool true) ∧ Below w.heap.size w w')) :
    Calls Try.prog 27 #[.agg #[.slice (some ⟨tb, toff, none⟩) 8 cA, .slice (some ⟨lb, loff, none⟩) 4 cB, .int .i64 k, .bool b1, .bool b2], .int .i64 4, .int .i64 y] w fun e w' => ∃ A' c, e = .returned (.slice A' 4 c) ∧ OwnI w' w.heap.size A' c (slF t l k 4 y) ∧ Below w.heap.size w w' := by
  obtain ⟨i0, hi, hz0, hz1, hz2⟩ := info_parts Try.iinfo
  have HTC := Lib.hid htc; have HLC := Lib.hid hlc; have HTL := Lib.hid ht; have HLL := Lib.hid hl
  have HK := Lib.hid (heap_alloc_new w (.cells #[.slice (some ⟨tb, toff, none⟩) 8 cA, .slice (some ⟨lb, loff, none⟩) 4 cB, .int .i64 k, .bool b1, .bool b2] 26))
  have BW := Lib.hid (below_new w (.cells #[.slice (some ⟨tb, toff, none⟩) 8 cA, .slice (some ⟨lb, loff, none⟩) 4 cB, .int .i64 k, .bool b1, .bool b2] 26))
  have O0 := Lib.hid (own_at' (w.alloc (.cells #[.slice (some ⟨tb, toff, none⟩) 8 cA, .slice (some ⟨lb, loff, none⟩) 4 cB, .int .i64 k, .bool b1, .bool b2] 26)) (w.alloc (.cells #[.slice (some ⟨tb, toff, none⟩) 8 cA, .slice (some ⟨lb, loff, none⟩) 4 cB, .int .i64 k, .bool b1, .bool b2] 26)).heap.size (w.heap.size + 1) [] (Nat.le_refl _) (by simp) (by simp))
  have B0 := Lib.hid ((Below.refl (w.alloc (.cells #[.slice (some ⟨tb, toff, none⟩) 8 cA, .slice (some ⟨lb, loff, none⟩) 4 cB, .int .i64 k, .bool b1, .bool b2] 26)).heap.size (w.alloc (.cells #[.slice (some ⟨tb, toff, none⟩) 8 cA, .slice (some ⟨lb, loff, none⟩) 4 cB, .int .i64 k, .bool b1, .bool b2] 26))).alloc (Nat.le_refl _) (.cells (ivs []).toArray 3))
  have hsz : (w.alloc (.cells #[.slice (some ⟨tb, toff, none⟩) 8 cA, .slice (some ⟨lb, loff, none⟩) 4 cB, .int .i64 k, .bool b1, .bool b2] 26)).heap.size = w.heap.size + 1 := by simp
  have HSZ := Lib.hid hsz
  have TC : Hid (∀ wr, Below (w.alloc (.cells #[.slice (some ⟨tb, toff, none⟩) 8 cA, .slice (some ⟨lb, loff, none⟩) 4 cB, .int .i64 k, .bool b1, .bool b2] 26)).heap.size (w.alloc (.cells #[.slice (some ⟨tb, toff, none⟩) 8 cA, .slice (some ⟨lb, loff, none⟩) 4 cB, .int .i64 k, .bool b1, .bool b2] 26)) wr → ∀ j, j < t.length → wr.cell? ⟨tb, toff + j, none⟩ = some (.int .i64 (t.getD j 0))) := Lib.hid fun wr h j hj => by
    rw [h.cell (p := ⟨tb, toff + j, none⟩) (by rw [hsz]; exact Nat.lt_succ_of_lt htb), BW.out.cell (p := ⟨tb, toff + j, none⟩) htb]; exact HTC.out j hj
  have LC : Hid (∀ wr, Below (w.alloc (.cells #[.slice (some ⟨tb, toff, none⟩) 8 cA, .slice (some ⟨lb, loff, none⟩) 4 cB, .int .i64 k, .bool b1, .bool b2] 26)).heap.size (w.alloc (.cells #[.slice (some ⟨tb, toff, none⟩) 8 cA, .slice (some ⟨lb, loff, none⟩) 4 cB, .int .i64 k, .bool b1, .bool b2] 26)) wr → ∀ j, j < l.length → wr.cell? ⟨lb, loff + j, none⟩ = some (.int .i64 (l.getD j 0))) := Lib.hid fun wr h j hj => by
    rw [h.cell (p := ⟨lb, loff + j, none⟩) (by rw [hsz]; exact Nat.lt_succ_of_lt hlb), BW.out.cell (p := ⟨lb, loff + j, none⟩) hlb]; exact HLC.out j hj
  have KC : Hid (∀ wr, Below (w.alloc (.cells #[.slice (some ⟨tb, toff, none⟩) 8 cA, .slice (some ⟨lb, loff, none⟩) 4 cB, .int .i64 k, .bool b1, .bool b2] 26)).heap.size (w.alloc (.cells #[.slice (some ⟨tb, toff, none⟩) 8 cA, .slice (some ⟨lb, loff, none⟩) 4 cB, .int .i64 k, .bool b1, .bool b2] 26)) wr → wr.heap[w.heap.size]? = some (.cells #[.slice (some ⟨tb, toff, none⟩) 8 cA, .slice (some ⟨lb, loff, none⟩) 4 cB, .int .i64 k, .bool b1, .bool b2] 26 (0, 0))) := Lib.hid fun wr h => by
    rw [h.block w.heap.size (by rw [hsz]; omega)]; exact HK.out
  have Y1 := Lib.hid (l1in_at (y : Int) 3 (by omega))
  have HNX := Lib.hid fun j (hj : j + 4 ≤ 4) => sl_next (t := t) (m := 4) hpy hk hj
  have HCL := Lib.hid (slF_len t l k 4 y)
  obtain ⟨C, hC⟩ : ∃ C, C = slF t l k 4 y := ⟨_, rfl⟩
  rw [← hC] at HNX HCL ⊢
  obtain ⟨v, hv⟩ : ∃ v, v = l.getD y 0 := ⟨_, rfl⟩
  rw [← hv] at HNX hpy
  have HV := Lib.hid hv
  have hp1 : IntKind.i64.wrap (v - k) = v - k := IntWalk.i64_in _ (by omega)
  have CA : Hid (∀ wr (j : Nat), Below (w.alloc (.cells #[.slice (some ⟨tb, toff, none⟩) 8 cA, .slice (some ⟨lb, loff, none⟩) 4 cB, .int .i64 k, .bool b1, .bool b2] 26)).heap.size (w.alloc (.cells #[.slice (some ⟨tb, toff, none⟩) 8 cA, .slice (some ⟨lb, loff, none⟩) 4 cB, .int .i64 k, .bool b1, .bool b2] 26)) wr → j + 4 ≤ 4 → Calls Try.prog 65 #[.slice (some ⟨tb, toff + j, none⟩) 4 (cA - j), .slice (some ⟨wr.heap.size, 0, none⟩) 4 4] (wr.alloc (.cells (ivs [v - k, v - k, v - k, v - k]).toArray 3)) fun e w' => ∃ A' c, e = .returned (.slice A' 4 c) ∧ OwnI w' (wr.alloc (.cells (ivs [v - k, v - k, v - k, v - k]).toArray 3)).heap.size A' c (caF (fourV t j) [v - k, v - k, v - k, v - k]) ∧ Below (wr.alloc (.cells (ivs [v - k, v - k, v - k, v - k]).toArray 3)).heap.size (wr.alloc (.cells (ivs [v - k, v - k, v - k, v - k]).toArray 3)) w') := Lib.hid fun wr j h hj => by
    have hb2 := below_made' h (.cells (ivs [v - k, v - k, v - k, v - k]).toArray 3)
    exact spec_clipadd_four _ _ (cA - j) 4 (fourV t j) [v - k, v - k, v - k, v - k] (fourV_len (by rw [HTL.out]; omega)) rfl (fourV_pix htp) _
      (ints_four (by rw [HTL.out]; omega) (by have := hb2.size; rw [hsz] at this; omega) (TC.out _ hb2))
      ((own_ints wr wr.heap.size [v - k, v - k, v - k, v - k] (Nat.le_refl _) (by unfold maxLen; simp)).ints (by simp))
  clear htc hlc ht hl hsz hC hv htp
  go_enter Try.func27, Try.ntmps27
  go_wp2_with fail
  refine (NK.out _ ⟨by rw [HTL.out]; omega, .inr ⟨tb, toff, rfl, Nat.lt_of_lt_of_le htb (Nat.le_trans BW.out.size B0.out.size), TC.out _ B0.out⟩⟩ ⟨by rw [HLL.out]; omega, .inr ⟨lb, loff, rfl, Nat.lt_of_lt_of_le hlb (Nat.le_trans BW.out.size B0.out.size), LC.out _ B0.out⟩⟩).mono ?_
  rintro e w1 ⟨rfl, hb1⟩
  have B1 := Lib.hid (below_up B0.out hb1 B0.out.size)
  have O1 := Lib.hid (O0.out.kept hb1 (Nat.le_refl _))
  clear hb1 B0 O0
  go_wp2_with fail
  refine (Y1.out _).mono ?_
  rintro e wx ⟨rfl, hw⟩
  subst hw
  obtain ⟨c0, c1, c2, c3, c4⟩ := cells5 (KC.out _ B1.out)
  have cy := LC.out _ B1.out y (by rw [HLL.out]; exact hy)
  rw [← HV.out] at cy
  have hyi : (y : Int) < 4 := by omega
  go_wp2_with fail
  go_quiet (fail)
  clear c0 c1 c2 c3 c4 cy
  go_wp2
  go_loopw [7, 9] (fun v9 i wr => ∃ j : Nat, j ≤ 4 ∧ j % 4 = 0 ∧ i = .int .i64 j ∧ wr.ownsRow (w.alloc (.cells #[.slice (some ⟨tb, toff, none⟩) 8 cA, .slice (some ⟨lb, loff, none⟩) 4 cB, .int .i64 k, .bool b1, .bool b2] 26)).heap.size 3 1 v9 j (ivs (C.take j)) ∧ Below (w.alloc (.cells #[.slice (some ⟨tb, toff, none⟩) 8 cA, .slice (some ⟨lb, loff, none⟩) 4 cB, .int .i64 k, .bool b1, .bool b2] 26)).heap.size (w.alloc (.cells #[.slice (some ⟨tb, toff, none⟩) 8 cA, .slice (some ⟨lb, loff, none⟩) 4 cB, .int .i64 k, .bool b1, .bool b2] 26)) wr)
    (fun _ i _ => 4 - (intOf i).toNat)
  case atStart => exact ⟨0, Nat.zero_le _, rfl, rfl, World.ownsRow.drewN' O1.out _, below_drews B1.out _⟩
  case round =>
    obtain ⟨j, hj, hj4, rfl, hown, hbel⟩ := hrel
    by_cases hlt : j < 4
    · have d1 : decide ((j : Int) < 4) = true := by simp; omega
      obtain ⟨c0, c1, c2, c3, c4⟩ := cells5 (KC.out _ hbel)
      have hjn : j + 4 ≤ 4 := by omega
      have hnx := HNX.out j hjn
      have hfl := caF_len (fourV t j) [v - k, v - k, v - k, v - k]
      have CX := Lib.hid (CA.out wr j hbel hjn)
      obtain ⟨z, hz⟩ : ∃ z, z = caF (fourV t j) [v - k, v - k, v - k, v - k] := ⟨_, rfl⟩
      rw [← hz] at hnx hfl CX
      have HX := Lib.hid hnx; have HO := Lib.hid hown; have HB := Lib.hid hbel
      have hne1 : ¬ cA = j := by omega
      have hw4 : IntKind.i64.wrap ((j : Int) + 4) = (j : Int) + 4 := IntWalk.i64_in _ (by omega)
      have ht4 : ((j : Int) + 4).toNat = j + 4 := by omega
      have hd4 : j + 4 - j = 4 := by omega
      have hj2 : (j : Int) + 4 ≤ (cA : Int) := by omega
      have hj1 : (j : Int) ≤ (j : Int) + 4 := by omega
      clear hz hnx hown hbel
      go_wp2_with fail
      refine CX.out.mono ?_
      rintro e w3 ⟨AH, cH, rfl, ho3, hb3⟩
      have bm := below_made' HB.out (.cells (ivs [v - k, v - k, v - k, v - k]).toArray 3)
      have O3 := own_keep (own_keep HO.out (below_new _ (.cells (ivs [v - k, v - k, v - k, v - k]).toArray 3))) hb3
      have B3 := below_up bm hb3 bm.size
      have I3 := ho3.ints (by omega)
      have P3 := ho3.placed
      clear ho3 hb3 bm c0 c1 c2 c3 c4
      go_wp2_with (at_builtin; refine append_ints rfl (.tmp 36) (.tmp 48) 24 rfl (w.alloc (.cells #[.slice (some ⟨tb, toff, none⟩) 8 cA, .slice (some ⟨lb, loff, none⟩) 4 cB, .int .i64 k, .bool b1, .bool b2] 26)) i0 Try.underlying24 hi hz0 hz1 hz2 _ _ _ rfl O3 _ _ _ z hfl.symm rfl _ I3 P3 (by omega) B3 ?_; intro v' w4 hown4 hb4)
      go_roundw
      case rel => exact ⟨j + 4, by omega, by omega, by go_num, by rw [HX.out]; exact hown4, hb4⟩
      case measure => simp [intOf]; omega
    · obtain rfl : j = 4 := by omega
      have e1 : C.take 4 = C := List.take_of_length_le (by rw [HCL.out]; exact Nat.le_refl _)
      rw [e1] at hown
      obtain ⟨A3, c3, hv3, ho3⟩ := own_slice hown
      rw [HCL.out] at hv3
      subst hv3
      have O3 := Lib.hid (own_lower ho3 (base' := w.heap.size) (by rw [HSZ.out]; omega)); have B3 := Lib.hid (BW.out.trans (hbel.mono (by rw [HSZ.out]; omega)))
      clear hown hbel ho3 e1
      go_wp2
      go_ret
      exact ⟨_, _, rfl, O3.out, B3.out⟩

set_option maxRecDepth 100000 in
set_option maxHeartbeats 4000000 in
theorem spec_sloperow_8 (tb toff : Nat) (cA : Nat) (lb loff : Nat) (cB : Nat) (t l : List Int) (k : Int) (b1 b2 : Bool) (y : Nat) (hy : y < 8) (ht : t.length = 16) (hl : l.length = 8) (hcA : 16 ≤ cA) (htp : t.all pixE = true) (w : World) (htb : tb < w.heap.size) (hlb : lb < w.heap.size)
    (htc : ∀ j, j < t.length → w.cell? ⟨tb, toff + j, none⟩ = some (.int .i64 (t.getD j 0))) (hlc : ∀ j, j < l.length → w.cell? ⟨lb, loff + j, none⟩ = some (.int .i64 (l.getD j 0)))
    (hpy : 0 ≤ l.getD y 0 ∧ l.getD y 0 ≤ 255) (hk : 0 ≤ k ∧ k ≤ 255)
    (NK : Hid (∀ w, Ints w w.heap.size (some ⟨tb, toff, none⟩) t → Ints w w.heap.size (some ⟨lb, loff, none⟩) l → Calls Try.prog 15 #[.agg #[.slice (some ⟨tb, toff, none⟩) 16 cA, .slice (some ⟨lb, loff, none⟩) 8 cB, .int .i64 k, .bool b1, .bool b2], .int .i64 8] w fun e w' => e = .returned (.bool true) ∧ Below w.heap.size w w')) :
    Calls Try.prog 27 #[.agg #[.slice (some ⟨tb, toff, none⟩) 16 cA, .slice (some ⟨lb, loff, none⟩) 8 cB, .int .i64 k, .bool b1, .bool b2], .int .i64 8, .int .i64 y] w fun e w' => ∃ A' c, e = .returned (.slice A' 8 c) ∧ OwnI w' w.heap.size A' c (slF t l k 8 y) ∧ Below w.heap.size w w' := by
  obtain ⟨i0, hi, hz0, hz1, hz2⟩ := info_parts Try.iinfo
  have HTC := Lib.hid htc; have HLC := Lib.hid hlc; have HTL := Lib.hid ht; have HLL := Lib.hid hl
  have HK := Lib.hid (heap_alloc_new w (.cells #[.slice (some ⟨tb, toff, none⟩) 16 cA, .slice (some ⟨lb, loff, none⟩) 8 cB, .int .i64 k, .bool b1, .bool b2] 26))
  have BW := Lib.hid (below_new w (.cells #[.slice (some ⟨tb, toff, none⟩) 16 cA, .slice (some ⟨lb, loff, none⟩) 8 cB, .int .i64 k, .bool b1, .bool b2] 26))
  have O0 := Lib.hid (own_at' (w.alloc (.cells #[.slice (some ⟨tb, toff, none⟩) 16 cA, .slice (some ⟨lb, loff, none⟩) 8 cB, .int .i64 k, .bool b1, .bool b2] 26)) (w.alloc (.cells #[.slice (some ⟨tb, toff, none⟩) 16 cA, .slice (some ⟨lb, loff, none⟩) 8 cB, .int .i64 k, .bool b1, .bool b2] 26)).heap.size (w.heap.size + 1) [] (Nat.le_refl _) (by simp) (by simp))
  have B0 := Lib.hid ((Below.refl (w.alloc (.cells #[.slice (some ⟨tb, toff, none⟩) 16 cA, .slice (some ⟨lb, loff, none⟩) 8 cB, .int .i64 k, .bool b1, .bool b2] 26)).heap.size (w.alloc (.cells #[.slice (some ⟨tb, toff, none⟩) 16 cA, .slice (some ⟨lb, loff, none⟩) 8 cB, .int .i64 k, .bool b1, .bool b2] 26))).alloc (Nat.le_refl _) (.cells (ivs []).toArray 3))
  have hsz : (w.alloc (.cells #[.slice (some ⟨tb, toff, none⟩) 16 cA, .slice (some ⟨lb, loff, none⟩) 8 cB, .int .i64 k, .bool b1, .bool b2] 26)).heap.size = w.heap.size + 1 := by simp
  have HSZ := Lib.hid hsz
  have TC : Hid (∀ wr, Below (w.alloc (.cells #[.slice (some ⟨tb, toff, none⟩) 16 cA, .slice (some ⟨lb, loff, none⟩) 8 cB, .int .i64 k, .bool b1, .bool b2] 26)).heap.size (w.alloc (.cells #[.slice (some ⟨tb, toff, none⟩) 16 cA, .slice (some ⟨lb, loff, none⟩) 8 cB, .int .i64 k, .bool b1, .bool b2] 26)) wr → ∀ j, j < t.length → wr.cell? ⟨tb, toff + j, none⟩ = some (.int .i64 (t.getD j 0))) := Lib.hid fun wr h j hj => by
    rw [h.cell (p := ⟨tb, toff + j, none⟩) (by rw [hsz]; exact Nat.lt_succ_of_lt htb), BW.out.cell (p := ⟨tb, toff + j, none⟩) htb]; exact HTC.out j hj
  have LC : Hid (∀ wr, Below (w.alloc (.cells #[.slice (some ⟨tb, toff, none⟩) 16 cA, .slice (some ⟨lb, loff, none⟩) 8 cB, .int .i64 k, .bool b1, .bool b2] 26)).heap.size (w.alloc (.cells #[.slice (some ⟨tb, toff, none⟩) 16 cA, .slice (some ⟨lb, loff, none⟩) 8 cB, .int .i64 k, .bool b1, .bool b2] 26)) wr → ∀ j, j < l.length → wr.cell? ⟨lb, loff + j, none⟩ = some (.int .i64 (l.getD j 0))) := Lib.hid fun wr h j hj => by
    rw [h.cell (p := ⟨lb, loff + j, none⟩) (by rw [hsz]; exact Nat.lt_succ_of_lt hlb), BW.out.cell (p := ⟨lb, loff + j, none⟩) hlb]; exact HLC.out j hj
  have KC : Hid (∀ wr, Below (w.alloc (.cells #[.slice (some ⟨tb, toff, none⟩) 16 cA, .slice (some ⟨lb, loff, none⟩) 8 cB, .int .i64 k, .bool b1, .bool b2] 26)).heap.size (w.alloc (.cells #[.slice (some ⟨tb, toff, none⟩) 16 cA, .slice (some ⟨lb, loff, none⟩) 8 cB, .int .i64 k, .bool b1, .bool b2] 26)) wr → wr.heap[w.heap.size]? = some (.cells #[.slice (some ⟨tb, toff, none⟩) 16 cA, .slice (some ⟨lb, loff, none⟩) 8 cB, .int .i64 k, .bool b1, .bool b2] 26 (0, 0))) := Lib.hid fun wr h => by
    rw [h.block w.heap.size (by rw [hsz]; omega)]; exact HK.out
  have Y1 := Lib.hid (l1in_at (y : Int) 7 (by omega))
  have HNX := Lib.hid fun j (hj : j + 4 ≤ 8) => sl_next (t := t) (m := 8) hpy hk hj
  have HCL := Lib.hid (slF_len t l k 8 y)
  obtain ⟨C, hC⟩ : ∃ C, C = slF t l k 8 y := ⟨_, rfl⟩
  rw [← hC] at HNX HCL ⊢
  obtain ⟨v, hv⟩ : ∃ v, v = l.getD y 0 := ⟨_, rfl⟩
  rw [← hv] at HNX hpy
  have HV := Lib.hid hv
  have hp1 : IntKind.i64.wrap (v - k) = v - k := IntWalk.i64_in _ (by omega)
  have CA : Hid (∀ wr (j : Nat), Below (w.alloc (.cells #[.slice (some ⟨tb, toff, none⟩) 16 cA, .slice (some ⟨lb, loff, none⟩) 8 cB, .int .i64 k, .bool b1, .bool b2] 26)).heap.size (w.alloc (.cells #[.slice (some ⟨tb, toff, none⟩) 16 cA, .slice (some ⟨lb, loff, none⟩) 8 cB, .int .i64 k, .bool b1, .bool b2] 26)) wr → j + 4 ≤ 8 → Calls Try.prog 65 #[.slice (some ⟨tb, toff + j, none⟩) 4 (cA - j), .slice (some ⟨wr.heap.size, 0, none⟩) 4 4] (wr.alloc (.cells (ivs [v - k, v - k, v - k, v - k]).toArray 3)) fun e w' => ∃ A' c, e = .returned (.slice A' 4 c) ∧ OwnI w' (wr.alloc (.cells (ivs [v - k, v - k, v - k, v - k]).toArray 3)).heap.size A' c (caF (fourV t j) [v - k, v - k, v - k, v - k]) ∧ Below (wr.alloc (.cells (ivs [v - k, v - k, v - k, v - k]).toArray 3)).heap.size (wr.alloc (.cells (ivs [v - k, v - k, v - k, v - k]).toArray 3)) w') := Lib.hid fun wr j h hj => by
    have hb2 := below_made' h (.cells (ivs [v - k, v - k, v - k, v - k]).toArray 3)
    exact spec_clipadd_four _ _ (cA - j) 4 (fourV t j) [v - k, v - k, v - k, v - k] (fourV_len (by rw [HTL.out]; omega)) rfl (fourV_pix htp) _
      (ints_four (by rw [HTL.out]; omega) (by have := hb2.size; rw [hsz] at this; omega) (TC.out _ hb2))
      ((own_ints wr wr.heap.size [v - k, v - k, v - k, v - k] (Nat.le_refl _) (by unfold maxLen; simp)).ints (by simp))
  clear htc hlc ht hl hsz hC hv htp
  go_enter Try.func27, Try.ntmps27
  go_wp2_with fail
  refine (NK.out _ ⟨by rw [HTL.out]; omega, .inr ⟨tb, toff, rfl, Nat.lt_of_lt_of_le htb (Nat.le_trans BW.out.size B0.out.size), TC.out _ B0.out⟩⟩ ⟨by rw [HLL.out]; omega, .inr ⟨lb, loff, rfl, Nat.lt_of_lt_of_le hlb (Nat.le_trans BW.out.size B0.out.size), LC.out _ B0.out⟩⟩).mono ?_
  rintro e w1 ⟨rfl, hb1⟩
  have B1 := Lib.hid (below_up B0.out hb1 B0.out.size)
  have O1 := Lib.hid (O0.out.kept hb1 (Nat.le_refl _))
  clear hb1 B0 O0
  go_wp2_with fail
  refine (Y1.out _).mono ?_
  rintro e wx ⟨rfl, hw⟩
  subst hw
  obtain ⟨c0, c1, c2, c3, c4⟩ := cells5 (KC.out _ B1.out)
  have cy := LC.out _ B1.out y (by rw [HLL.out]; exact hy)
  rw [← HV.out] at cy
  have hyi : (y : Int) < 8 := by omega
  go_wp2_with fail
  go_quiet (fail)
  clear c0 c1 c2 c3 c4 cy
  go_wp2
  go_loopw [7, 9] (fun v9 i wr => ∃ j : Nat, j ≤ 8 ∧ j % 4 = 0 ∧ i = .int .i64 j ∧ wr.ownsRow (w.alloc (.cells #[.slice (some ⟨tb, toff, none⟩) 16 cA, .slice (some ⟨lb, loff, none⟩) 8 cB, .int .i64 k, .bool b1, .bool b2] 26)).heap.size 3 1 v9 j (ivs (C.take j)) ∧ Below (w.alloc (.cells #[.slice (some ⟨tb, toff, none⟩) 16 cA, .slice (some ⟨lb, loff, none⟩) 8 cB, .int .i64 k, .bool b1, .bool b2] 26)).heap.size (w.alloc (.cells #[.slice (some ⟨tb, toff, none⟩) 16 cA, .slice (some ⟨lb, loff, none⟩) 8 cB, .int .i64 k, .bool b1, .bool b2] 26)) wr)
    (fun _ i _ => 8 - (intOf i).toNat)
  case atStart => exact ⟨0, Nat.zero_le _, rfl, rfl, World.ownsRow.drewN' O1.out _, below_drews B1.out _⟩
  case round =>
    obtain ⟨j, hj, hj4, rfl, hown, hbel⟩ := hrel
    by_cases hlt : j < 8
    · have d1 : decide ((j : Int) < 8) = true := by simp; omega
      obtain ⟨c0, c1, c2, c3, c4⟩ := cells5 (KC.out _ hbel)
      have hjn : j + 4 ≤ 8 := by omega
      have hnx := HNX.out j hjn
      have hfl := caF_len (fourV t j) [v - k, v - k, v - k, v - k]
      have CX := Lib.hid (CA.out wr j hbel hjn)
      obtain ⟨z, hz⟩ : ∃ z, z = caF (fourV t j) [v - k, v - k, v - k, v - k] := ⟨_, rfl⟩
      rw [← hz] at hnx hfl CX
      have HX := Lib.hid hnx; have HO := Lib.hid hown; have HB := Lib.hid hbel
      have hne1 : ¬ cA = j := by omega
      have hw4 : IntKind.i64.wrap ((j : Int) + 4) = (j : Int) + 4 := IntWalk.i64_in _ (by omega)
      have ht4 : ((j : Int) + 4).toNat = j + 4 := by omega
      have hd4 : j + 4 - j = 4 := by omega
      have hj2 : (j : Int) + 4 ≤ (cA : Int) := by omega
      have hj1 : (j : Int) ≤ (j : Int) + 4 := by omega
      clear hz hnx hown hbel
      go_wp2_with fail
      refine CX.out.mono ?_
      rintro e w3 ⟨AH, cH, rfl, ho3, hb3⟩
      have bm := below_made' HB.out (.cells (ivs [v - k, v - k, v - k, v - k]).toArray 3)
      have O3 := own_keep (own_keep HO.out (below_new _ (.cells (ivs [v - k, v - k, v - k, v - k]).toArray 3))) hb3
      have B3 := below_up bm hb3 bm.size
      have I3 := ho3.ints (by omega)
      have P3 := ho3.placed
      clear ho3 hb3 bm c0 c1 c2 c3 c4
      go_wp2_with (at_builtin; refine append_ints rfl (.tmp 36) (.tmp 48) 24 rfl (w.alloc (.cells #[.slice (some ⟨tb, toff, none⟩) 16 cA, .slice (some ⟨lb, loff, none⟩) 8 cB, .int .i64 k, .bool b1, .bool b2] 26)) i0 Try.underlying24 hi hz0 hz1 hz2 _ _ _ rfl O3 _ _ _ z hfl.symm rfl _ I3 P3 (by omega) B3 ?_; intro v' w4 hown4 hb4)
      go_roundw
      case rel => exact ⟨j + 4, by omega, by omega, by go_num, by rw [HX.out]; exact hown4, hb4⟩
      case measure => simp [intOf]; omega
    · obtain rfl : j = 8 := by omega
      have e1 : C.take 8 = C := List.take_of_length_le (by rw [HCL.out]; exact Nat.le_refl _)
      rw [e1] at hown
      obtain ⟨A3, c3, hv3, ho3⟩ := own_slice hown
      rw [HCL.out] at hv3
      subst hv3
      have O3 := Lib.hid (own_lower ho3 (base' := w.heap.size) (by rw [HSZ.out]; omega)); have B3 := Lib.hid (BW.out.trans (hbel.mono (by rw [HSZ.out]; omega)))
      clear hown hbel ho3 e1
      go_wp2
      go_ret
      exact ⟨_, _, rfl, O3.out, B3.out⟩

theorem slL_off {t l : List Int} {k n y : Int} (h : ¬ (nbOk t l k n = true ∧ (0 ≤ y ∧ y ≤ n - 1))) : slL t l k n y = [] := by unfold slL; rw [if_neg h]
set_option maxRecDepth 100000 in
set_option maxHeartbeats 2000000 in
theorem spec_sloperow_any (A : Option Addr) (cA : Nat) (B : Option Addr) (cB : Nat) (t l : List Int) (k : Int) (b1 b2 : Bool) (n y : Int) (w : World) (hT : Ints w w.heap.size A t) (hL : Ints w w.heap.size B l) (hcA : t.length ≤ cA) :
    Calls Try.prog 27 #[.agg #[.slice A t.length cA, .slice B l.length cB, .int .i64 k, .bool b1, .bool b2], .int .i64 n, .int .i64 y] w fun e w' => ∃ A' c, e = .returned (.slice A' (slL t l k n y).length c) ∧ OwnI w' w.heap.size A' c (slL t l k n y) ∧ Below w.heap.size w w' := by
  have NK := Lib.hid fun w h1 h2 => spec_nbok_any A cA B cB t l k b1 b2 n w h1 h2
  have bt := below_two w (.cells #[.slice A t.length cA, .slice B l.length cB, .int .i64 k, .bool b1, .bool b2] 26) (.cells (ivs []).toArray 3)
  have O0 := Lib.hid (own_at' (w.alloc (.cells #[.slice A t.length cA, .slice B l.length cB, .int .i64 k, .bool b1, .bool b2] 26)) w.heap.size (w.heap.size + 1) [] (by simp) (by simp) (by simp))
  have B0 := Lib.hid bt
  have HT := Lib.hid ((hT.below bt (Nat.le_refl _)).mono bt.size)
  have HL := Lib.hid ((hL.below bt (Nat.le_refl _)).mono bt.size)
  have hnt := hT.1; have hnl := hL.1
  cases hok : nbOk t l k n with
  | false =>
    rw [hok] at NK
    rw [slL_off (by rw [hok]; simp)]
    clear hok hT hL bt hcA
    go_enter Try.func27, Try.ntmps27
    go_wp2_with fail
    refine (NK.out _ HT.out HL.out).mono ?_
    rintro e w1 ⟨rfl, hb1⟩
    have O1 := Lib.hid (O0.out.kept hb1 (Nat.le_refl _)); have B1 := Lib.hid (below_up B0.out hb1 B0.out.size)
    clear hb1
    go_wp2
    go_ret
    exact ⟨_, _, rfl, O1.out, B1.out⟩
  | true =>
    rw [hok] at NK
    have hside := nbOk_side hok
    have hn48 : n = 4 ∨ n = 8 := by obtain ⟨m, rfl, hm, _⟩ := hside; omega
    by_cases hy : 0 ≤ y ∧ y ≤ n - 1
    rotate_left
    · rw [slL_off (fun h => hy h.2)]
      have Y1 := Lib.hid (l1in_off y (n - 1) hy)
      clear hok hT hL bt hcA hside hy
      go_enter Try.func27, Try.ntmps27
      go_wp2_with fail
      refine (NK.out _ HT.out HL.out).mono ?_
      rintro e w1 ⟨rfl, hb1⟩
      have O1 := Lib.hid (O0.out.kept hb1 (Nat.le_refl _)); have B1 := Lib.hid (below_up B0.out hb1 B0.out.size)
      clear hb1
      go_wp2_with fail
      refine (Y1.out _).mono ?_
      rintro e wx ⟨rfl, hw⟩
      subst hw
      go_wp2
      go_ret
      exact ⟨_, _, rfl, O1.out, B1.out⟩
    · have htp := (nbOk_parts hok).2.2.2.1
      obtain ⟨m, rfl, hm, ht, hl, hpt, hpl, hk⟩ := hside
      obtain ⟨y', rfl⟩ := Int.eq_ofNat_of_zero_le hy.1
      have e1 : slL t l k (m : Int) (y' : Int) = slF t l k m y' := by unfold slL; rw [if_pos ⟨hok, hy⟩, Int.toNat_natCast, Int.toNat_natCast]
      rw [e1, slF_len]
      obtain ⟨tb, toff, rfl, htb, htc⟩ := hT.at 0 (by omega)
      obtain ⟨lb, loff, rfl, hlb, hlc⟩ := hL.at 0 (by omega)
      rw [ht, hl] at NK ⊢
      rcases hm with rfl | rfl
      · exact spec_sloperow_4 tb toff cA lb loff cB t l k b1 b2 y' (by omega) ht hl (by omega) htp w htb hlb htc hlc (hpl y' (by omega)) hk NK
      · exact spec_sloperow_8 tb toff cA lb loff cB t l k b1 b2 y' (by omega) ht hl (by omega) htp w htb hlb htc hlc (hpl y' (by omega)) hk NK
end Go.Proofs.Ytjgbenhjafgimaa
