/-
  Contracts of the model's Border and Mean. Condition: a slice is no longer than it holds.
-/
import Derived.Test.YtjgbenhjafgimaaNbC
namespace Go.Proofs.Ytjgbenhjafgimaa
open Go.RowKit
set_option linter.unusedVariables false

theorem ints_take {w : World} {g b off : Nat} {l : List Int} {n : Nat} (hn : n ≤ l.length) (hs : n ≤ 1000) (hb : b < g) (hc : ∀ j, j < l.length → w.cell? ⟨b, off + j, none⟩ = some (.int .i64 (l.getD j 0))) : Ints w g (some ⟨b, off, none⟩) (l.take n) := by
  refine ⟨by rw [List.length_take]; omega, .inr ⟨b, off, rfl, hb, fun j hj => ?_⟩⟩
  rw [List.length_take] at hj
  rw [hc j (by omega), List.getD_eq_getElem?_getD, List.getD_eq_getElem?_getD, List.getElem?_take, if_pos (by omega)]
theorem nbOk_false_bord {t l : List Int} {k n : Int} (h : nbOk t l k n = false) : bordL t l k n = [] := by unfold bordL; rw [if_neg (by rw [h]; simp)]
theorem nbOk_true_bord {t l : List Int} {k n : Int} (h : nbOk t l k n = true) : bordL t l k n = bordF t l k := by unfold bordL; rw [if_pos h]
theorem own_shape {w : World} {base : Nat} {e : TypeId} {size : Nat} {v : Value} {n : Nat} {xs : List Value} (h : w.ownsRow base e size v n xs) : ∃ A c, v = .slice A n c := by
  rcases h.2 with ⟨h1, h2⟩ | ⟨g, cap, cur, h1, _⟩
  · exact ⟨none, 0, by rw [h1, h2]⟩
  · exact ⟨_, _, h1⟩
theorem own_at' (w : World) (base k : Nat) (l : List Int) (hb : base ≤ w.heap.size) (hm : l.length ≤ maxLen) (hk : w.heap.size = k) : OwnI (w.alloc (.cells (ivs l).toArray 3)) base (some ⟨k, 0, none⟩) l.length l := by
  subst hk
  exact own_ints w base l hb hm

set_option maxRecDepth 100000 in
set_option maxHeartbeats 4000000 in
theorem spec_border_4 (tb toff : Nat) (cA : Nat) (lb loff : Nat) (cB : Nat) (t l : List Int) (k : Int) (b1 b2 : Bool) (ht : t.length = 8) (hl : l.length = 4) (hcA : 8 ≤ cA) (w : World) (htb : tb < w.heap.size) (hlb : lb < w.heap.size)
    (htc : ∀ j, j < t.length → w.cell? ⟨tb, toff + j, none⟩ = some (.int .i64 (t.getD j 0))) (hlc : ∀ j, j < l.length → w.cell? ⟨lb, loff + j, none⟩ = some (.int .i64 (l.getD j 0)))
    (NK : Hid (∀ w, Ints w w.heap.size (some ⟨tb, toff, none⟩) t → Ints w w.heap.size (some ⟨lb, loff, none⟩) l → Calls Try.prog 15 #[.agg #[.slice (some ⟨tb, toff, none⟩) 8 cA, .slice (some ⟨lb, loff, none⟩) 4 cB, .int .i64 k, .bool b1, .bool b2], .int .i64 4] w fun e w' => e = .returned (.bool true) ∧ Below w.heap.size w w')) :
    Calls Try.prog 67 #[.agg #[.slice (some ⟨tb, toff, none⟩) 8 cA, .slice (some ⟨lb, loff, none⟩) 4 cB, .int .i64 k, .bool b1, .bool b2], .int .i64 4] w fun e w' => ∃ A' c, e = .returned (.slice A' 9 c) ∧ OwnI w' w.heap.size A' c (bordF t l k) ∧ Below w.heap.size w w' := by
  obtain ⟨i0, hi, hz0, hz1, hz2⟩ := info_parts Try.iinfo
  have HTC := Lib.hid htc; have HLC := Lib.hid hlc; have HTL := Lib.hid ht; have HLL := Lib.hid hl
  have HK := Lib.hid (heap_alloc_new w (.cells #[.slice (some ⟨tb, toff, none⟩) 8 cA, .slice (some ⟨lb, loff, none⟩) 4 cB, .int .i64 k, .bool b1, .bool b2] 26))
  have BW := Lib.hid (below_new w (.cells #[.slice (some ⟨tb, toff, none⟩) 8 cA, .slice (some ⟨lb, loff, none⟩) 4 cB, .int .i64 k, .bool b1, .bool b2] 26))
  have O0 := Lib.hid (own_at' (w.alloc (.cells #[.slice (some ⟨tb, toff, none⟩) 8 cA, .slice (some ⟨lb, loff, none⟩) 4 cB, .int .i64 k, .bool b1, .bool b2] 26)) (w.alloc (.cells #[.slice (some ⟨tb, toff, none⟩) 8 cA, .slice (some ⟨lb, loff, none⟩) 4 cB, .int .i64 k, .bool b1, .bool b2] 26)).heap.size (w.heap.size + 1) [] (Nat.le_refl _) (by simp) (by simp))
  have B0 := Lib.hid ((Below.refl (w.alloc (.cells #[.slice (some ⟨tb, toff, none⟩) 8 cA, .slice (some ⟨lb, loff, none⟩) 4 cB, .int .i64 k, .bool b1, .bool b2] 26)).heap.size (w.alloc (.cells #[.slice (some ⟨tb, toff, none⟩) 8 cA, .slice (some ⟨lb, loff, none⟩) 4 cB, .int .i64 k, .bool b1, .bool b2] 26))).alloc (Nat.le_refl _) (.cells (ivs []).toArray 3))
  have hsz : (w.alloc (.cells #[.slice (some ⟨tb, toff, none⟩) 8 cA, .slice (some ⟨lb, loff, none⟩) 4 cB, .int .i64 k, .bool b1, .bool b2] 26)).heap.size = w.heap.size + 1 := by simp
  have HSZ := Lib.hid hsz
  have TC : Hid (∀ wr, Below (w.alloc (.cells #[.slice (some ⟨tb, toff, none⟩) 8 cA, .slice (some ⟨lb, loff, none⟩) 4 cB, .int .i64 k, .bool b1, .bool b2] 26)).heap.size (w.alloc (.cells #[.slice (some ⟨tb, toff, none⟩) 8 cA, .slice (some ⟨lb, loff, none⟩) 4 cB, .int .i64 k, .bool b1, .bool b2] 26)) wr → ∀ j, j < t.length → wr.cell? ⟨tb, toff + j, none⟩ = some (.int .i64 (t.getD j 0))) := Lib.hid fun wr h j hj => by
    rw [h.cell (p := ⟨tb, toff + j, none⟩) (by rw [hsz]; exact Nat.lt_succ_of_lt htb), BW.out.cell (p := ⟨tb, toff + j, none⟩) htb]; exact HTC.out j hj
  have LC : Hid (∀ wr, Below (w.alloc (.cells #[.slice (some ⟨tb, toff, none⟩) 8 cA, .slice (some ⟨lb, loff, none⟩) 4 cB, .int .i64 k, .bool b1, .bool b2] 26)).heap.size (w.alloc (.cells #[.slice (some ⟨tb, toff, none⟩) 8 cA, .slice (some ⟨lb, loff, none⟩) 4 cB, .int .i64 k, .bool b1, .bool b2] 26)) wr → ∀ j, j < l.length → wr.cell? ⟨lb, loff + j, none⟩ = some (.int .i64 (l.getD j 0))) := Lib.hid fun wr h j hj => by
    rw [h.cell (p := ⟨lb, loff + j, none⟩) (by rw [hsz]; exact Nat.lt_succ_of_lt hlb), BW.out.cell (p := ⟨lb, loff + j, none⟩) hlb]; exact HLC.out j hj
  have KC : Hid (∀ wr, Below (w.alloc (.cells #[.slice (some ⟨tb, toff, none⟩) 8 cA, .slice (some ⟨lb, loff, none⟩) 4 cB, .int .i64 k, .bool b1, .bool b2] 26)).heap.size (w.alloc (.cells #[.slice (some ⟨tb, toff, none⟩) 8 cA, .slice (some ⟨lb, loff, none⟩) 4 cB, .int .i64 k, .bool b1, .bool b2] 26)) wr → wr.heap[w.heap.size]? = some (.cells #[.slice (some ⟨tb, toff, none⟩) 8 cA, .slice (some ⟨lb, loff, none⟩) 4 cB, .int .i64 k, .bool b1, .bool b2] 26 (0, 0))) := Lib.hid fun wr h => by
    rw [h.block w.heap.size (by rw [hsz]; omega)]; exact HK.out
  have RN := Lib.hid fun j (hj : j < 4) => rev_next l (j := j) (by rw [hl]; exact hj)
  clear htc hlc ht hl hsz
  go_enter Try.func67, Try.ntmps67
  go_wp2_with fail
  refine (NK.out _ ⟨by rw [HTL.out]; omega, .inr ⟨tb, toff, rfl, Nat.lt_of_lt_of_le htb (Nat.le_trans BW.out.size B0.out.size), TC.out _ B0.out⟩⟩ ⟨by rw [HLL.out]; omega, .inr ⟨lb, loff, rfl, Nat.lt_of_lt_of_le hlb (Nat.le_trans BW.out.size B0.out.size), LC.out _ B0.out⟩⟩).mono ?_
  rintro e w1 ⟨rfl, hb1⟩
  have B1 := Lib.hid (below_up B0.out hb1 B0.out.size)
  have O1 := Lib.hid (O0.out.kept hb1 (Nat.le_refl _))
  obtain ⟨c0, c1, c2, c3, c4⟩ := cells5 (KC.out _ B1.out)
  clear hb1 B0 O0
  go_wp2
  clear c0 c1 c2 c3 c4
  go_loopw [5, 6] (fun v i wr => ∃ j : Nat, j ≤ 4 ∧ i = .int .i64 (3 - (j : Int)) ∧ wr.ownsRow (w.alloc (.cells #[.slice (some ⟨tb, toff, none⟩) 8 cA, .slice (some ⟨lb, loff, none⟩) 4 cB, .int .i64 k, .bool b1, .bool b2] 26)).heap.size 3 1 v j (ivs (l.reverse.take j)) ∧ Below (w.alloc (.cells #[.slice (some ⟨tb, toff, none⟩) 8 cA, .slice (some ⟨lb, loff, none⟩) 4 cB, .int .i64 k, .bool b1, .bool b2] 26)).heap.size (w.alloc (.cells #[.slice (some ⟨tb, toff, none⟩) 8 cA, .slice (some ⟨lb, loff, none⟩) 4 cB, .int .i64 k, .bool b1, .bool b2] 26)) wr)
    (fun _ i _ => (intOf i + 1).toNat)
  case atStart => exact ⟨0, Nat.zero_le _, rfl, O1.out, B1.out⟩
  case round =>
    obtain ⟨j, hj, rfl, hown, hbel⟩ := hrel
    by_cases hlt : j < 4
    · have d1 : decide ((0 : Int) ≤ 3 - (j : Int)) = true := by simp; omega
      obtain ⟨c0, c1, c2, c3, c4⟩ := cells5 (KC.out _ hbel)
      obtain ⟨q, hq⟩ : ∃ q : Nat, q = 3 - j := ⟨_, rfl⟩
      have hq8 : q < 4 := by omega
      have cl := LC.out _ hbel q (by rw [HLL.out]; exact hq8)
      have hnx := RN.out j hlt
      rw [HLL.out, show 4 - 1 - j = q by omega] at hnx
      obtain ⟨x, hx⟩ : ∃ x, x = l.getD q 0 := ⟨_, rfl⟩
      rw [← hx] at cl hnx
      have hqi : (3 : Int) - (j : Int) = (q : Int) := by omega
      rw [hqi] at d1 ⊢
      have HX := Lib.hid hnx; have HBB := Lib.hid hbel; have O3 := hown; have HQ := Lib.hid hq
      clear hx hnx hown hbel hqi hq
      go_wp2_with (at_builtin; refine append_int wr rfl (.tmp 19) (.tmp 25) 24 rfl (w.alloc (.cells #[.slice (some ⟨tb, toff, none⟩) 8 cA, .slice (some ⟨lb, loff, none⟩) 4 cB, .int .i64 k, .bool b1, .bool b2] 26)).heap.size 3 i0 Try.underlying24 hi hz0 hz1 hz2 _ _ _ rfl O3 _ rfl rfl (by omega) HBB.out.size ?_; intro v' w' hown' hgr hvb)
      have HO' := Lib.hid hown'; have HG := Lib.hid hgr; have HL' := Lib.hid O3.lt
      clear hown' hgr hvb O3 c0 c1 c2 c3 c4
      go_roundw
      case rel => exact ⟨j + 1, by omega, by have := HQ.out; simp; omega, by rw [HX.out]; exact HO'.out, HBB.out.grown HG.out HBB.out.size fun k hk => (HL'.out k hk).1⟩
      case measure => have := HQ.out; simp [intOf] <;> omega
    · obtain rfl : j = 4 := by omega
      have e1 : l.reverse.take 4 = l.reverse := List.take_of_length_le (by rw [List.length_reverse, HLL.out]; exact Nat.le_refl _)
      rw [e1] at hown
      obtain ⟨c0, c1, c2, c3, c4⟩ := cells5 (KC.out _ hbel)
      have HBB := Lib.hid hbel; have O3 := hown
      have hrl : l.reverse.length = 4 := by rw [List.length_reverse, HLL.out]
      obtain ⟨rv, hrv⟩ : ∃ r, r = l.reverse := ⟨_, rfl⟩
      rw [← hrv] at O3 hrl
      have HRV := Lib.hid hrv
      clear hown hbel e1 hrv
      go_wp2_with (first
        | (at_builtin; refine append_int wr rfl (.tmp 27) (.tmp 30) 24 rfl (w.alloc (.cells #[.slice (some ⟨tb, toff, none⟩) 8 cA, .slice (some ⟨lb, loff, none⟩) 4 cB, .int .i64 k, .bool b1, .bool b2] 26)).heap.size 3 i0 Try.underlying24 hi hz0 hz1 hz2 _ _ _ rfl O3 _ rfl rfl (by omega) HBB.out.size ?_; intro v' w2 hown2 hgr hvb; have B2 := Lib.hid (HBB.out.grown hgr HBB.out.size fun k hk => (O3.lt k hk).1); have O2 := Lib.hid hown2; obtain ⟨A2, cc2, rfl⟩ := own_shape hown2; clear hown2 hgr hvb O3 c0 c1 c2 c3 c4; obtain ⟨c0, c1, c2, c3, c4⟩ := cells5 (KC.out _ B2.out); have IT := Lib.hid (ints_take (w := w2) (g := w2.heap.size) (b := tb) (off := toff) (l := t) (n := 4) (by rw [HTL.out]; omega) (by decide) (by have := B2.out.size; rw [HSZ.out] at this; omega) (TC.out _ B2.out)); have HLN : Hid (4 = (t.take 4).length) := Lib.hid (by rw [List.length_take, HTL.out]; rfl); have PL : Hid (Placed (some (⟨tb, toff, none⟩ : Addr)) cA) := Lib.hid (fun h => by cases h))
        | (at_builtin; refine append_ints rfl (.tmp 32) (.tmp 36) 24 rfl (w.alloc (.cells #[.slice (some ⟨tb, toff, none⟩) 8 cA, .slice (some ⟨lb, loff, none⟩) 4 cB, .int .i64 k, .bool b1, .bool b2] 26)) i0 Try.underlying24 hi hz0 hz1 hz2 _ _ _ rfl O2.out _ _ _ (t.take 4) HLN.out rfl _ IT.out PL.out (by omega) B2.out ?_; intro v3 w3 hown3 hb3; have HBX := Lib.hid hb3; clear hb3))
      have HB3 := Lib.hid (BW.out.trans (HBX.out.mono (by rw [HSZ.out]; omega)))
      obtain ⟨A3, cc3, rfl⟩ := own_shape hown3
      have e3 : (rv ++ [k]) ++ t.take 4 = bordF t l k := by rw [HRV.out, bordF, HLL.out, List.append_assoc]; rfl
      rw [e3] at hown3
      have hbl : (bordF t l k).length = 9 := bordF_len (m := 4) HTL.out HLL.out
      have O3 := Lib.hid hown3; have HBL := Lib.hid hbl
      clear hown3 e3 hbl
      go_ret
      refine ⟨_, _, rfl, ?_, HB3.out⟩
      unfold OwnI
      rw [HBL.out]
      exact own_lower O3.out (by rw [HSZ.out]; omega)

set_option maxRecDepth 100000 in
set_option maxHeartbeats 4000000 in
theorem spec_border_8 (tb toff : Nat) (cA : Nat) (lb loff : Nat) (cB : Nat) (t l : List Int) (k : Int) (b1 b2 : Bool) (ht : t.length = 16) (hl : l.length = 8) (hcA : 16 ≤ cA) (w : World) (htb : tb < w.heap.size) (hlb : lb < w.heap.size)
    (htc : ∀ j, j < t.length → w.cell? ⟨tb, toff + j, none⟩ = some (.int .i64 (t.getD j 0))) (hlc : ∀ j, j < l.length → w.cell? ⟨lb, loff + j, none⟩ = some (.int .i64 (l.getD j 0)))
    (NK : Hid (∀ w, Ints w w.heap.size (some ⟨tb, toff, none⟩) t → Ints w w.heap.size (some ⟨lb, loff, none⟩) l → Calls Try.prog 15 #[.agg #[.slice (some ⟨tb, toff, none⟩) 16 cA, .slice (some ⟨lb, loff, none⟩) 8 cB, .int .i64 k, .bool b1, .bool b2], .int .i64 8] w fun e w' => e = .returned (.bool true) ∧ Below w.heap.size w w')) :
    Calls Try.prog 67 #[.agg #[.slice (some ⟨tb, toff, none⟩) 16 cA, .slice (some ⟨lb, loff, none⟩) 8 cB, .int .i64 k, .bool b1, .bool b2], .int .i64 8] w fun e w' => ∃ A' c, e = .returned (.slice A' 17 c) ∧ OwnI w' w.heap.size A' c (bordF t l k) ∧ Below w.heap.size w w' := by
  obtain ⟨i0, hi, hz0, hz1, hz2⟩ := info_parts Try.iinfo
  have HTC := Lib.hid htc; have HLC := Lib.hid hlc; have HTL := Lib.hid ht; have HLL := Lib.hid hl
  have HK := Lib.hid (heap_alloc_new w (.cells #[.slice (some ⟨tb, toff, none⟩) 16 cA, .slice (some ⟨lb, loff, none⟩) 8 cB, .int .i64 k, .bool b1, .bool b2] 26))
  have BW := Lib.hid (below_new w (.cells #[.slice (some ⟨tb, toff, none⟩) 16 cA, .slice (some ⟨lb, loff, none⟩) 8 cB, .int .i64 k, .bool b1, .bool b2] 26))
  have O0 := Lib.hid (own_at' (w.alloc (.cells #[.slice (some ⟨tb, toff, none⟩) 16 cA, .slice (some ⟨lb, loff, none⟩) 8 cB, .int .i64 k, .bool b1, .bool b2] 26)) (w.alloc (.cells #[.slice (some ⟨tb, toff, none⟩) 16 cA, .slice (some ⟨lb, loff, none⟩) 8 cB, .int .i64 k, .bool b1, .bool b2] 26)).heap.size (w.heap.size + 1) [] (Nat.le_refl _) (by simp) (by simp))
  have B0 := Lib.hid ((Below.refl (w.alloc (.cells #[.slice (some ⟨tb, toff, none⟩) 16 cA, .slice (some ⟨lb, loff, none⟩) 8 cB, .int .i64 k, .bool b1, .bool b2] 26)).heap.size (w.alloc (.cells #[.slice (some ⟨tb, toff, none⟩) 16 cA, .slice (some ⟨lb, loff, none⟩) 8 cB, .int .i64 k, .bool b1, .bool b2] 26))).alloc (Nat.le_refl _) (.cells (ivs []).toArray 3))
  have hsz : (w.alloc (.cells #[.slice (some ⟨tb, toff, none⟩) 16 cA, .slice (some ⟨lb, loff, none⟩) 8 cB, .int .i64 k, .bool b1, .bool b2] 26)).heap.size = w.heap.size + 1 := by simp
  have HSZ := Lib.hid hsz
  have TC : Hid (∀ wr, Below (w.alloc (.cells #[.slice (some ⟨tb, toff, none⟩) 16 cA, .slice (some ⟨lb, loff, none⟩) 8 cB, .int .i64 k, .bool b1, .bool b2] 26)).heap.size (w.alloc (.cells #[.slice (some ⟨tb, toff, none⟩) 16 cA, .slice (some ⟨lb, loff, none⟩) 8 cB, .int .i64 k, .bool b1, .bool b2] 26)) wr → ∀ j, j < t.length → wr.cell? ⟨tb, toff + j, none⟩ = some (.int .i64 (t.getD j 0))) := Lib.hid fun wr h j hj => by
    rw [h.cell (p := ⟨tb, toff + j, none⟩) (by rw [hsz]; exact Nat.lt_succ_of_lt htb), BW.out.cell (p := ⟨tb, toff + j, none⟩) htb]; exact HTC.out j hj
  have LC : Hid (∀ wr, Below (w.alloc (.cells #[.slice (some ⟨tb, toff, none⟩) 16 cA, .slice (some ⟨lb, loff, none⟩) 8 cB, .int .i64 k, .bool b1, .bool b2] 26)).heap.size (w.alloc (.cells #[.slice (some ⟨tb, toff, none⟩) 16 cA, .slice (some ⟨lb, loff, none⟩) 8 cB, .int .i64 k, .bool b1, .bool b2] 26)) wr → ∀ j, j < l.length → wr.cell? ⟨lb, loff + j, none⟩ = some (.int .i64 (l.getD j 0))) := Lib.hid fun wr h j hj => by
    rw [h.cell (p := ⟨lb, loff + j, none⟩) (by rw [hsz]; exact Nat.lt_succ_of_lt hlb), BW.out.cell (p := ⟨lb, loff + j, none⟩) hlb]; exact HLC.out j hj
  have KC : Hid (∀ wr, Below (w.alloc (.cells #[.slice (some ⟨tb, toff, none⟩) 16 cA, .slice (some ⟨lb, loff, none⟩) 8 cB, .int .i64 k, .bool b1, .bool b2] 26)).heap.size (w.alloc (.cells #[.slice (some ⟨tb, toff, none⟩) 16 cA, .slice (some ⟨lb, loff, none⟩) 8 cB, .int .i64 k, .bool b1, .bool b2] 26)) wr → wr.heap[w.heap.size]? = some (.cells #[.slice (some ⟨tb, toff, none⟩) 16 cA, .slice (some ⟨lb, loff, none⟩) 8 cB, .int .i64 k, .bool b1, .bool b2] 26 (0, 0))) := Lib.hid fun wr h => by
    rw [h.block w.heap.size (by rw [hsz]; omega)]; exact HK.out
  have RN := Lib.hid fun j (hj : j < 8) => rev_next l (j := j) (by rw [hl]; exact hj)
  clear htc hlc ht hl hsz
  go_enter Try.func67, Try.ntmps67
  go_wp2_with fail
  refine (NK.out _ ⟨by rw [HTL.out]; omega, .inr ⟨tb, toff, rfl, Nat.lt_of_lt_of_le htb (Nat.le_trans BW.out.size B0.out.size), TC.out _ B0.out⟩⟩ ⟨by rw [HLL.out]; omega, .inr ⟨lb, loff, rfl, Nat.lt_of_lt_of_le hlb (Nat.le_trans BW.out.size B0.out.size), LC.out _ B0.out⟩⟩).mono ?_
  rintro e w1 ⟨rfl, hb1⟩
  have B1 := Lib.hid (below_up B0.out hb1 B0.out.size)
  have O1 := Lib.hid (O0.out.kept hb1 (Nat.le_refl _))
  obtain ⟨c0, c1, c2, c3, c4⟩ := cells5 (KC.out _ B1.out)
  clear hb1 B0 O0
  go_wp2
  clear c0 c1 c2 c3 c4
  go_loopw [5, 6] (fun v i wr => ∃ j : Nat, j ≤ 8 ∧ i = .int .i64 (7 - (j : Int)) ∧ wr.ownsRow (w.alloc (.cells #[.slice (some ⟨tb, toff, none⟩) 16 cA, .slice (some ⟨lb, loff, none⟩) 8 cB, .int .i64 k, .bool b1, .bool b2] 26)).heap.size 3 1 v j (ivs (l.reverse.take j)) ∧ Below (w.alloc (.cells #[.slice (some ⟨tb, toff, none⟩) 16 cA, .slice (some ⟨lb, loff, none⟩) 8 cB, .int .i64 k, .bool b1, .bool b2] 26)).heap.size (w.alloc (.cells #[.slice (some ⟨tb, toff, none⟩) 16 cA, .slice (some ⟨lb, loff, none⟩) 8 cB, .int .i64 k, .bool b1, .bool b2] 26)) wr)
    (fun _ i _ => (intOf i + 1).toNat)
  case atStart => exact ⟨0, Nat.zero_le _, rfl, O1.out, B1.out⟩
  case round =>
    obtain ⟨j, hj, rfl, hown, hbel⟩ := hrel
    by_cases hlt : j < 8
    · have d1 : decide ((0 : Int) ≤ 7 - (j : Int)) = true := by simp; omega
      obtain ⟨c0, c1, c2, c3, c4⟩ := cells5 (KC.out _ hbel)
      obtain ⟨q, hq⟩ : ∃ q : Nat, q = 7 - j := ⟨_, rfl⟩
      have hq8 : q < 8 := by omega
      have cl := LC.out _ hbel q (by rw [HLL.out]; exact hq8)
      have hnx := RN.out j hlt
      rw [HLL.out, show 8 - 1 - j = q by omega] at hnx
      obtain ⟨x, hx⟩ : ∃ x, x = l.getD q 0 := ⟨_, rfl⟩
      rw [← hx] at cl hnx
      have hqi : (7 : Int) - (j : Int) = (q : Int) := by omega
      rw [hqi] at d1 ⊢
      have HX := Lib.hid hnx; have HBB := Lib.hid hbel; have O3 := hown; have HQ := Lib.hid hq
      clear hx hnx hown hbel hqi hq
      go_wp2_with (at_builtin; refine append_int wr rfl (.tmp 19) (.tmp 25) 24 rfl (w.alloc (.cells #[.slice (some ⟨tb, toff, none⟩) 16 cA, .slice (some ⟨lb, loff, none⟩) 8 cB, .int .i64 k, .bool b1, .bool b2] 26)).heap.size 3 i0 Try.underlying24 hi hz0 hz1 hz2 _ _ _ rfl O3 _ rfl rfl (by omega) HBB.out.size ?_; intro v' w' hown' hgr hvb)
      have HO' := Lib.hid hown'; have HG := Lib.hid hgr; have HL' := Lib.hid O3.lt
      clear hown' hgr hvb O3 c0 c1 c2 c3 c4
      go_roundw
      case rel => exact ⟨j + 1, by omega, by have := HQ.out; simp; omega, by rw [HX.out]; exact HO'.out, HBB.out.grown HG.out HBB.out.size fun k hk => (HL'.out k hk).1⟩
      case measure => have := HQ.out; simp [intOf] <;> omega
    · obtain rfl : j = 8 := by omega
      have e1 : l.reverse.take 8 = l.reverse := List.take_of_length_le (by rw [List.length_reverse, HLL.out]; exact Nat.le_refl _)
      rw [e1] at hown
      obtain ⟨c0, c1, c2, c3, c4⟩ := cells5 (KC.out _ hbel)
      have HBB := Lib.hid hbel; have O3 := hown
      have hrl : l.reverse.length = 8 := by rw [List.length_reverse, HLL.out]
      obtain ⟨rv, hrv⟩ : ∃ r, r = l.reverse := ⟨_, rfl⟩
      rw [← hrv] at O3 hrl
      have HRV := Lib.hid hrv
      clear hown hbel e1 hrv
      go_wp2_with (first
        | (at_builtin; refine append_int wr rfl (.tmp 27) (.tmp 30) 24 rfl (w.alloc (.cells #[.slice (some ⟨tb, toff, none⟩) 16 cA, .slice (some ⟨lb, loff, none⟩) 8 cB, .int .i64 k, .bool b1, .bool b2] 26)).heap.size 3 i0 Try.underlying24 hi hz0 hz1 hz2 _ _ _ rfl O3 _ rfl rfl (by omega) HBB.out.size ?_; intro v' w2 hown2 hgr hvb; have B2 := Lib.hid (HBB.out.grown hgr HBB.out.size fun k hk => (O3.lt k hk).1); have O2 := Lib.hid hown2; obtain ⟨A2, cc2, rfl⟩ := own_shape hown2; clear hown2 hgr hvb O3 c0 c1 c2 c3 c4; obtain ⟨c0, c1, c2, c3, c4⟩ := cells5 (KC.out _ B2.out); have IT := Lib.hid (ints_take (w := w2) (g := w2.heap.size) (b := tb) (off := toff) (l := t) (n := 8) (by rw [HTL.out]; omega) (by decide) (by have := B2.out.size; rw [HSZ.out] at this; omega) (TC.out _ B2.out)); have HLN : Hid (8 = (t.take 8).length) := Lib.hid (by rw [List.length_take, HTL.out]; rfl); have PL : Hid (Placed (some (⟨tb, toff, none⟩ : Addr)) cA) := Lib.hid (fun h => by cases h))
        | (at_builtin; refine append_ints rfl (.tmp 32) (.tmp 36) 24 rfl (w.alloc (.cells #[.slice (some ⟨tb, toff, none⟩) 16 cA, .slice (some ⟨lb, loff, none⟩) 8 cB, .int .i64 k, .bool b1, .bool b2] 26)) i0 Try.underlying24 hi hz0 hz1 hz2 _ _ _ rfl O2.out _ _ _ (t.take 8) HLN.out rfl _ IT.out PL.out (by omega) B2.out ?_; intro v3 w3 hown3 hb3; have HBX := Lib.hid hb3; clear hb3))
      have HB3 := Lib.hid (BW.out.trans (HBX.out.mono (by rw [HSZ.out]; omega)))
      obtain ⟨A3, cc3, rfl⟩ := own_shape hown3
      have e3 : (rv ++ [k]) ++ t.take 8 = bordF t l k := by rw [HRV.out, bordF, HLL.out, List.append_assoc]; rfl
      rw [e3] at hown3
      have hbl : (bordF t l k).length = 17 := bordF_len (m := 8) HTL.out HLL.out
      have O3 := Lib.hid hown3; have HBL := Lib.hid hbl
      clear hown3 e3 hbl
      go_ret
      refine ⟨_, _, rfl, ?_, HB3.out⟩
      unfold OwnI
      rw [HBL.out]
      exact own_lower O3.out (by rw [HSZ.out]; omega)

set_option maxRecDepth 100000 in
set_option maxHeartbeats 1000000 in
theorem spec_border_any (A : Option Addr) (cA : Nat) (B : Option Addr) (cB : Nat) (t l : List Int) (k : Int) (b1 b2 : Bool) (n : Int) (w : World) (hT : Ints w w.heap.size A t) (hL : Ints w w.heap.size B l) (hcA : t.length ≤ cA) :
    Calls Try.prog 67 #[.agg #[.slice A t.length cA, .slice B l.length cB, .int .i64 k, .bool b1, .bool b2], .int .i64 n] w fun e w' => ∃ A' c, e = .returned (.slice A' (bordL t l k n).length c) ∧ OwnI w' w.heap.size A' c (bordL t l k n) ∧ Below w.heap.size w w' := by
  have NK := Lib.hid fun w h1 h2 => spec_nbok_any A cA B cB t l k b1 b2 n w h1 h2
  cases hok : nbOk t l k n with
  | true =>
    rw [hok] at NK
    rw [nbOk_true_bord hok]
    obtain ⟨m, rfl, hm, ht, hl, _⟩ := nbOk_side hok
    obtain ⟨tb, toff, rfl, htb, htc⟩ := hT.at 0 (by omega)
    obtain ⟨lb, loff, rfl, hlb, hlc⟩ := hL.at 0 (by omega)
    rw [bordF_len ht hl]
    rw [ht, hl] at NK ⊢
    rcases hm with rfl | rfl
    · exact spec_border_4 tb toff cA lb loff cB t l k b1 b2 ht hl (by omega) w htb hlb htc hlc NK
    · exact spec_border_8 tb toff cA lb loff cB t l k b1 b2 ht hl (by omega) w htb hlb htc hlc NK
  | false =>
    rw [hok] at NK
    rw [nbOk_false_bord hok]
    have b2' := below_two w (.cells #[.slice A t.length cA, .slice B l.length cB, .int .i64 k, .bool b1, .bool b2] 26) (.cells (ivs []).toArray 3)
    have O0 := Lib.hid (own_at' (w.alloc (.cells #[.slice A t.length cA, .slice B l.length cB, .int .i64 k, .bool b1, .bool b2] 26)) w.heap.size (w.heap.size + 1) [] (by simp) (by simp) (by simp))
    have B0 := Lib.hid b2'
    have HT := Lib.hid ((hT.below b2' (Nat.le_refl _)).mono b2'.size)
    have HL := Lib.hid ((hL.below b2' (Nat.le_refl _)).mono b2'.size)
    have hnt := hT.1; have hnl := hL.1
    clear hok hT hL b2' hcA
    go_enter Try.func67, Try.ntmps67
    go_wp2_with fail
    refine (NK.out _ HT.out HL.out).mono ?_
    rintro e w1 ⟨rfl, hb1⟩
    have O1 := Lib.hid (O0.out.kept hb1 (Nat.le_refl _))
    have B1 := Lib.hid (below_up B0.out hb1 B0.out.size)
    clear hb1
    go_wp2
    go_ret
    exact ⟨_, _, rfl, O1.out, B1.out⟩
end Go.Proofs.Ytjgbenhjafgimaa
