/-
  The contract of the model's Mean. Condition: a slice is no longer than it holds.
-/
import Derived.Test.YtjgbenhjafgimaaNbD
import Derived.BigQuiet
namespace Go.Proofs.Ytjgbenhjafgimaa
open Go.RowKit
set_option linter.unusedVariables false

theorem below_drews {B : Nat} {u w : World} (h : Below B u w) (k : Nat) : Below B u (w.drewN k) := ⟨h.os, h.tape, h.output, h.size, h.block⟩
theorem below_any_drew {B : Nat} {u w : World} (h : Below B u w) : Below B u w.drew := h.drew

set_option maxRecDepth 100000 in
set_option maxHeartbeats 4000000 in
theorem spec_mean_4_false_false (tb toff : Nat) (cA : Nat) (lb loff : Nat) (cB : Nat) (t l : List Int) (k : Int) (ht : t.length = 8) (hl : l.length = 4) (hcA : 8 ≤ cA) (w : World) (htb : tb < w.heap.size) (hlb : lb < w.heap.size)
    (htc : ∀ j, j < t.length → w.cell? ⟨tb, toff + j, none⟩ = some (.int .i64 (t.getD j 0))) (hlc : ∀ j, j < l.length → w.cell? ⟨lb, loff + j, none⟩ = some (.int .i64 (l.getD j 0)))
    (hpt : ∀ i, i < 4 → 0 ≤ t.getD i 0 ∧ t.getD i 0 ≤ 255) (hpl : ∀ i, i < 4 → 0 ≤ l.getD i 0 ∧ l.getD i 0 ≤ 255)
    (NK : Hid (∀ w, Ints w w.heap.size (some ⟨tb, toff, none⟩) t → Ints w w.heap.size (some ⟨lb, loff, none⟩) l → Calls Try.prog 15 #[.agg #[.slice (some ⟨tb, toff, none⟩) 8 cA, .slice (some ⟨lb, loff, none⟩) 4 cB, .int .i64 k, .bool false, .bool false], .int .i64 4] w fun e w' => e = .returned (.bool true) ∧ Below w.heap.size w w')) :
    Calls Try.prog 78 #[.agg #[.slice (some ⟨tb, toff, none⟩) 8 cA, .slice (some ⟨lb, loff, none⟩) 4 cB, .int .i64 k, .bool false, .bool false], .int .i64 4] w fun e w' => e = .returned (.int .i64 (128)) ∧ Below w.heap.size w w' := by
  have hcA1 : (4 : Int) ≤ (cA : Int) := by omega
  have hcA2 : 4 ≤ cA := by omega
  have HK := Lib.hid (heap_alloc_new w (.cells #[.slice (some ⟨tb, toff, none⟩) 8 cA, .slice (some ⟨lb, loff, none⟩) 4 cB, .int .i64 k, .bool false, .bool false] 26))
  have BW := Lib.hid (below_new w (.cells #[.slice (some ⟨tb, toff, none⟩) 8 cA, .slice (some ⟨lb, loff, none⟩) 4 cB, .int .i64 k, .bool false, .bool false] 26))
  have TC : Hid (∀ wr, Below w.heap.size w wr → ∀ j, j < t.length → wr.cell? ⟨tb, toff + j, none⟩ = some (.int .i64 (t.getD j 0))) := Lib.hid fun wr h j hj => by
    rw [h.cell (p := ⟨tb, toff + j, none⟩) htb]; exact htc j hj
  have LC : Hid (∀ wr, Below w.heap.size w wr → ∀ j, j < l.length → wr.cell? ⟨lb, loff + j, none⟩ = some (.int .i64 (l.getD j 0))) := Lib.hid fun wr h j hj => by
    rw [h.cell (p := ⟨lb, loff + j, none⟩) hlb]; exact hlc j hj
  have hs1 := sumI_pix (l := t) 4 hpt
  have hs2 := sumI_pix (l := l) 4 hpl
  have e1 : sumI (t.take 4) 4 = sumI t 4 := sumI_congr 4 fun i hi => by rw [List.getD_eq_getElem?_getD, List.getD_eq_getElem?_getD, List.getElem?_take, if_pos hi]
  have ST : Hid (∀ wr, Below w.heap.size w wr → Calls Try.prog 84 #[.slice (some ⟨tb, toff, none⟩) 4 cA] wr fun e w' => e = .returned (.int .i64 (sumI t 4)) ∧ wr = w') := Lib.hid fun wr h => by
    rw [← e1]
    exact l14sum_any _ cA 4 (t.take 4) (by rw [List.length_take, ht]; rfl) (by decide) (fun i hi => by rw [List.getD_eq_getElem?_getD, List.getElem?_take, if_pos hi, ← List.getD_eq_getElem?_getD]; exact hpt i hi) wr (ints_take (by omega) (by decide) (Nat.lt_of_lt_of_le htb h.size) (TC.out wr h))
  have SL : Hid (∀ wr, Below w.heap.size w wr → Calls Try.prog 84 #[.slice (some ⟨lb, loff, none⟩) 4 cB] wr fun e w' => e = .returned (.int .i64 (sumI l 4)) ∧ wr = w') := Lib.hid fun wr h =>
    l14sum_any _ cB 4 l hl (by decide) hpl wr ⟨by omega, .inr ⟨lb, loff, rfl, Nat.lt_of_lt_of_le hlb h.size, LC.out wr h⟩⟩
  have I1 := Lib.hid fun wr (h : Below w.heap.size w wr) => (⟨by omega, .inr ⟨tb, toff, rfl, Nat.lt_of_lt_of_le htb h.size, TC.out wr h⟩⟩ : Ints wr wr.heap.size (some ⟨tb, toff, none⟩) t)
  have I2 := Lib.hid fun wr (h : Below w.heap.size w wr) => (⟨by omega, .inr ⟨lb, loff, rfl, Nat.lt_of_lt_of_le hlb h.size, LC.out wr h⟩⟩ : Ints wr wr.heap.size (some ⟨lb, loff, none⟩) l)
  obtain ⟨S1, hS1⟩ : ∃ s, s = sumI t 4 := ⟨_, rfl⟩
  obtain ⟨S2, hS2⟩ : ∃ s, s = sumI l 4 := ⟨_, rfl⟩
  rw [← hS1] at ST hs1
  rw [← hS2] at SL hs2
  try rw [← hS1]
  try rw [← hS2]
  clear htc hlc ht hl hpt hpl e1 hS1 hS2 TC LC
  go_enter Try.func78, Try.ntmps78
  go_wp2_with fail
  refine (NK.out _ (I1.out _ BW.out) (I2.out _ BW.out)).mono ?_
  rintro e w1 ⟨rfl, hb1⟩
  have B1 := Lib.hid (below_up BW.out hb1 BW.out.size)
  obtain ⟨c0, c1, c2, c3, c4⟩ := cells5 (cell_kept HK.out hb1)
  clear hb1
  go_wp2
  go_ret
  exact ⟨rfl, B1.out⟩

set_option maxRecDepth 100000 in
set_option maxHeartbeats 4000000 in
theorem spec_mean_4_false_true (tb toff : Nat) (cA : Nat) (lb loff : Nat) (cB : Nat) (t l : List Int) (k : Int) (ht : t.length = 8) (hl : l.length = 4) (hcA : 8 ≤ cA) (w : World) (htb : tb < w.heap.size) (hlb : lb < w.heap.size)
    (htc : ∀ j, j < t.length → w.cell? ⟨tb, toff + j, none⟩ = some (.int .i64 (t.getD j 0))) (hlc : ∀ j, j < l.length → w.cell? ⟨lb, loff + j, none⟩ = some (.int .i64 (l.getD j 0)))
    (hpt : ∀ i, i < 4 → 0 ≤ t.getD i 0 ∧ t.getD i 0 ≤ 255) (hpl : ∀ i, i < 4 → 0 ≤ l.getD i 0 ∧ l.getD i 0 ≤ 255)
    (NK : Hid (∀ w, Ints w w.heap.size (some ⟨tb, toff, none⟩) t → Ints w w.heap.size (some ⟨lb, loff, none⟩) l → Calls Try.prog 15 #[.agg #[.slice (some ⟨tb, toff, none⟩) 8 cA, .slice (some ⟨lb, loff, none⟩) 4 cB, .int .i64 k, .bool false, .bool true], .int .i64 4] w fun e w' => e = .returned (.bool true) ∧ Below w.heap.size w w')) :
    Calls Try.prog 78 #[.agg #[.slice (some ⟨tb, toff, none⟩) 8 cA, .slice (some ⟨lb, loff, none⟩) 4 cB, .int .i64 k, .bool false, .bool true], .int .i64 4] w fun e w' => e = .returned (.int .i64 ((sumI l 4 + 2) / 4)) ∧ Below w.heap.size w w' := by
  have hcA1 : (4 : Int) ≤ (cA : Int) := by omega
  have hcA2 : 4 ≤ cA := by omega
  have HK := Lib.hid (heap_alloc_new w (.cells #[.slice (some ⟨tb, toff, none⟩) 8 cA, .slice (some ⟨lb, loff, none⟩) 4 cB, .int .i64 k, .bool false, .bool true] 26))
  have BW := Lib.hid (below_new w (.cells #[.slice (some ⟨tb, toff, none⟩) 8 cA, .slice (some ⟨lb, loff, none⟩) 4 cB, .int .i64 k, .bool false, .bool true] 26))
  have TC : Hid (∀ wr, Below w.heap.size w wr → ∀ j, j < t.length → wr.cell? ⟨tb, toff + j, none⟩ = some (.int .i64 (t.getD j 0))) := Lib.hid fun wr h j hj => by
    rw [h.cell (p := ⟨tb, toff + j, none⟩) htb]; exact htc j hj
  have LC : Hid (∀ wr, Below w.heap.size w wr → ∀ j, j < l.length → wr.cell? ⟨lb, loff + j, none⟩ = some (.int .i64 (l.getD j 0))) := Lib.hid fun wr h j hj => by
    rw [h.cell (p := ⟨lb, loff + j, none⟩) hlb]; exact hlc j hj
  have hs1 := sumI_pix (l := t) 4 hpt
  have hs2 := sumI_pix (l := l) 4 hpl
  have e1 : sumI (t.take 4) 4 = sumI t 4 := sumI_congr 4 fun i hi => by rw [List.getD_eq_getElem?_getD, List.getD_eq_getElem?_getD, List.getElem?_take, if_pos hi]
  have ST : Hid (∀ wr, Below w.heap.size w wr → Calls Try.prog 84 #[.slice (some ⟨tb, toff, none⟩) 4 cA] wr fun e w' => e = .returned (.int .i64 (sumI t 4)) ∧ wr = w') := Lib.hid fun wr h => by
    rw [← e1]
    exact l14sum_any _ cA 4 (t.take 4) (by rw [List.length_take, ht]; rfl) (by decide) (fun i hi => by rw [List.getD_eq_getElem?_getD, List.getElem?_take, if_pos hi, ← List.getD_eq_getElem?_getD]; exact hpt i hi) wr (ints_take (by omega) (by decide) (Nat.lt_of_lt_of_le htb h.size) (TC.out wr h))
  have SL : Hid (∀ wr, Below w.heap.size w wr → Calls Try.prog 84 #[.slice (some ⟨lb, loff, none⟩) 4 cB] wr fun e w' => e = .returned (.int .i64 (sumI l 4)) ∧ wr = w') := Lib.hid fun wr h =>
    l14sum_any _ cB 4 l hl (by decide) hpl wr ⟨by omega, .inr ⟨lb, loff, rfl, Nat.lt_of_lt_of_le hlb h.size, LC.out wr h⟩⟩
  have I1 := Lib.hid fun wr (h : Below w.heap.size w wr) => (⟨by omega, .inr ⟨tb, toff, rfl, Nat.lt_of_lt_of_le htb h.size, TC.out wr h⟩⟩ : Ints wr wr.heap.size (some ⟨tb, toff, none⟩) t)
  have I2 := Lib.hid fun wr (h : Below w.heap.size w wr) => (⟨by omega, .inr ⟨lb, loff, rfl, Nat.lt_of_lt_of_le hlb h.size, LC.out wr h⟩⟩ : Ints wr wr.heap.size (some ⟨lb, loff, none⟩) l)
  obtain ⟨S1, hS1⟩ : ∃ s, s = sumI t 4 := ⟨_, rfl⟩
  obtain ⟨S2, hS2⟩ : ∃ s, s = sumI l 4 := ⟨_, rfl⟩
  rw [← hS1] at ST hs1
  rw [← hS2] at SL hs2
  try rw [← hS1]
  try rw [← hS2]
  clear htc hlc ht hl hpt hpl e1 hS1 hS2 TC LC
  have hv : (S2 + 2).tdiv 4 = (S2 + 2) / 4 := Int.tdiv_eq_ediv_of_nonneg (by omega)
  obtain ⟨z, hz⟩ : ∃ z, z = (S2 + 2) / 4 := ⟨_, rfl⟩
  have hz1 : 0 ≤ z ∧ z ≤ 100000 := by omega
  rw [← hz] at hv ⊢
  clear hz
  go_enter Try.func78, Try.ntmps78
  go_wp2_with fail
  refine (NK.out _ (I1.out _ BW.out) (I2.out _ BW.out)).mono ?_
  rintro e w1 ⟨rfl, hb1⟩
  have B1 := Lib.hid (below_up BW.out hb1 BW.out.size)
  obtain ⟨c0, c1, c2, c3, c4⟩ := cells5 (cell_kept HK.out hb1)
  clear hb1
  go_wp2_with fail
  refine (SL.out _ B1.out).mono ?_
  rintro e w2 ⟨rfl, hw⟩
  subst hw
  go_wp2
  go_ret
  exact ⟨rfl, B1.out⟩

set_option maxRecDepth 100000 in
set_option maxHeartbeats 4000000 in
theorem spec_mean_4_true_false (tb toff : Nat) (cA : Nat) (lb loff : Nat) (cB : Nat) (t l : List Int) (k : Int) (ht : t.length = 8) (hl : l.length = 4) (hcA : 8 ≤ cA) (w : World) (htb : tb < w.heap.size) (hlb : lb < w.heap.size)
    (htc : ∀ j, j < t.length → w.cell? ⟨tb, toff + j, none⟩ = some (.int .i64 (t.getD j 0))) (hlc : ∀ j, j < l.length → w.cell? ⟨lb, loff + j, none⟩ = some (.int .i64 (l.getD j 0)))
    (hpt : ∀ i, i < 4 → 0 ≤ t.getD i 0 ∧ t.getD i 0 ≤ 255) (hpl : ∀ i, i < 4 → 0 ≤ l.getD i 0 ∧ l.getD i 0 ≤ 255)
    (NK : Hid (∀ w, Ints w w.heap.size (some ⟨tb, toff, none⟩) t → Ints w w.heap.size (some ⟨lb, loff, none⟩) l → Calls Try.prog 15 #[.agg #[.slice (some ⟨tb, toff, none⟩) 8 cA, .slice (some ⟨lb, loff, none⟩) 4 cB, .int .i64 k, .bool true, .bool false], .int .i64 4] w fun e w' => e = .returned (.bool true) ∧ Below w.heap.size w w')) :
    Calls Try.prog 78 #[.agg #[.slice (some ⟨tb, toff, none⟩) 8 cA, .slice (some ⟨lb, loff, none⟩) 4 cB, .int .i64 k, .bool true, .bool false], .int .i64 4] w fun e w' => e = .returned (.int .i64 ((sumI t 4 + 2) / 4)) ∧ Below w.heap.size w w' := by
  have hcA1 : (4 : Int) ≤ (cA : Int) := by omega
  have hcA2 : 4 ≤ cA := by omega
  have HK := Lib.hid (heap_alloc_new w (.cells #[.slice (some ⟨tb, toff, none⟩) 8 cA, .slice (some ⟨lb, loff, none⟩) 4 cB, .int .i64 k, .bool true, .bool false] 26))
  have BW := Lib.hid (below_new w (.cells #[.slice (some ⟨tb, toff, none⟩) 8 cA, .slice (some ⟨lb, loff, none⟩) 4 cB, .int .i64 k, .bool true, .bool false] 26))
  have TC : Hid (∀ wr, Below w.heap.size w wr → ∀ j, j < t.length → wr.cell? ⟨tb, toff + j, none⟩ = some (.int .i64 (t.getD j 0))) := Lib.hid fun wr h j hj => by
    rw [h.cell (p := ⟨tb, toff + j, none⟩) htb]; exact htc j hj
  have LC : Hid (∀ wr, Below w.heap.size w wr → ∀ j, j < l.length → wr.cell? ⟨lb, loff + j, none⟩ = some (.int .i64 (l.getD j 0))) := Lib.hid fun wr h j hj => by
    rw [h.cell (p := ⟨lb, loff + j, none⟩) hlb]; exact hlc j hj
  have hs1 := sumI_pix (l := t) 4 hpt
  have hs2 := sumI_pix (l := l) 4 hpl
  have e1 : sumI (t.take 4) 4 = sumI t 4 := sumI_congr 4 fun i hi => by rw [List.getD_eq_getElem?_getD, List.getD_eq_getElem?_getD, List.getElem?_take, if_pos hi]
  have ST : Hid (∀ wr, Below w.heap.size w wr → Calls Try.prog 84 #[.slice (some ⟨tb, toff, none⟩) 4 cA] wr fun e w' => e = .returned (.int .i64 (sumI t 4)) ∧ wr = w') := Lib.hid fun wr h => by
    rw [← e1]
    exact l14sum_any _ cA 4 (t.take 4) (by rw [List.length_take, ht]; rfl) (by decide) (fun i hi => by rw [List.getD_eq_getElem?_getD, List.getElem?_take, if_pos hi, ← List.getD_eq_getElem?_getD]; exact hpt i hi) wr (ints_take (by omega) (by decide) (Nat.lt_of_lt_of_le htb h.size) (TC.out wr h))
  have SL : Hid (∀ wr, Below w.heap.size w wr → Calls Try.prog 84 #[.slice (some ⟨lb, loff, none⟩) 4 cB] wr fun e w' => e = .returned (.int .i64 (sumI l 4)) ∧ wr = w') := Lib.hid fun wr h =>
    l14sum_any _ cB 4 l hl (by decide) hpl wr ⟨by omega, .inr ⟨lb, loff, rfl, Nat.lt_of_lt_of_le hlb h.size, LC.out wr h⟩⟩
  have I1 := Lib.hid fun wr (h : Below w.heap.size w wr) => (⟨by omega, .inr ⟨tb, toff, rfl, Nat.lt_of_lt_of_le htb h.size, TC.out wr h⟩⟩ : Ints wr wr.heap.size (some ⟨tb, toff, none⟩) t)
  have I2 := Lib.hid fun wr (h : Below w.heap.size w wr) => (⟨by omega, .inr ⟨lb, loff, rfl, Nat.lt_of_lt_of_le hlb h.size, LC.out wr h⟩⟩ : Ints wr wr.heap.size (some ⟨lb, loff, none⟩) l)
  obtain ⟨S1, hS1⟩ : ∃ s, s = sumI t 4 := ⟨_, rfl⟩
  obtain ⟨S2, hS2⟩ : ∃ s, s = sumI l 4 := ⟨_, rfl⟩
  rw [← hS1] at ST hs1
  rw [← hS2] at SL hs2
  try rw [← hS1]
  try rw [← hS2]
  clear htc hlc ht hl hpt hpl e1 hS1 hS2 TC LC
  have hv : (S1 + 2).tdiv 4 = (S1 + 2) / 4 := Int.tdiv_eq_ediv_of_nonneg (by omega)
  obtain ⟨z, hz⟩ : ∃ z, z = (S1 + 2) / 4 := ⟨_, rfl⟩
  have hz1 : 0 ≤ z ∧ z ≤ 100000 := by omega
  rw [← hz] at hv ⊢
  clear hz
  go_enter Try.func78, Try.ntmps78
  go_wp2_with fail
  refine (NK.out _ (I1.out _ BW.out) (I2.out _ BW.out)).mono ?_
  rintro e w1 ⟨rfl, hb1⟩
  have B1 := Lib.hid (below_up BW.out hb1 BW.out.size)
  obtain ⟨c0, c1, c2, c3, c4⟩ := cells5 (cell_kept HK.out hb1)
  clear hb1
  go_wp2_with fail
  refine (ST.out _ B1.out).mono ?_
  rintro e w2 ⟨rfl, hw⟩
  subst hw
  go_wp2
  go_ret
  exact ⟨rfl, B1.out⟩

set_option maxRecDepth 100000 in
set_option maxHeartbeats 4000000 in
theorem spec_mean_4_true_true (tb toff : Nat) (cA : Nat) (lb loff : Nat) (cB : Nat) (t l : List Int) (k : Int) (ht : t.length = 8) (hl : l.length = 4) (hcA : 8 ≤ cA) (w : World) (htb : tb < w.heap.size) (hlb : lb < w.heap.size)
    (htc : ∀ j, j < t.length → w.cell? ⟨tb, toff + j, none⟩ = some (.int .i64 (t.getD j 0))) (hlc : ∀ j, j < l.length → w.cell? ⟨lb, loff + j, none⟩ = some (.int .i64 (l.getD j 0)))
    (hpt : ∀ i, i < 4 → 0 ≤ t.getD i 0 ∧ t.getD i 0 ≤ 255) (hpl : ∀ i, i < 4 → 0 ≤ l.getD i 0 ∧ l.getD i 0 ≤ 255)
    (NK : Hid (∀ w, Ints w w.heap.size (some ⟨tb, toff, none⟩) t → Ints w w.heap.size (some ⟨lb, loff, none⟩) l → Calls Try.prog 15 #[.agg #[.slice (some ⟨tb, toff, none⟩) 8 cA, .slice (some ⟨lb, loff, none⟩) 4 cB, .int .i64 k, .bool true, .bool true], .int .i64 4] w fun e w' => e = .returned (.bool true) ∧ Below w.heap.size w w')) :
    Calls Try.prog 78 #[.agg #[.slice (some ⟨tb, toff, none⟩) 8 cA, .slice (some ⟨lb, loff, none⟩) 4 cB, .int .i64 k, .bool true, .bool true], .int .i64 4] w fun e w' => e = .returned (.int .i64 ((sumI t 4 + sumI l 4 + 4) / 8)) ∧ Below w.heap.size w w' := by
  have hcA1 : (4 : Int) ≤ (cA : Int) := by omega
  have hcA2 : 4 ≤ cA := by omega
  have HK := Lib.hid (heap_alloc_new w (.cells #[.slice (some ⟨tb, toff, none⟩) 8 cA, .slice (some ⟨lb, loff, none⟩) 4 cB, .int .i64 k, .bool true, .bool true] 26))
  have BW := Lib.hid (below_new w (.cells #[.slice (some ⟨tb, toff, none⟩) 8 cA, .slice (some ⟨lb, loff, none⟩) 4 cB, .int .i64 k, .bool true, .bool true] 26))
  have TC : Hid (∀ wr, Below w.heap.size w wr → ∀ j, j < t.length → wr.cell? ⟨tb, toff + j, none⟩ = some (.int .i64 (t.getD j 0))) := Lib.hid fun wr h j hj => by
    rw [h.cell (p := ⟨tb, toff + j, none⟩) htb]; exact htc j hj
  have LC : Hid (∀ wr, Below w.heap.size w wr → ∀ j, j < l.length → wr.cell? ⟨lb, loff + j, none⟩ = some (.int .i64 (l.getD j 0))) := Lib.hid fun wr h j hj => by
    rw [h.cell (p := ⟨lb, loff + j, none⟩) hlb]; exact hlc j hj
  have hs1 := sumI_pix (l := t) 4 hpt
  have hs2 := sumI_pix (l := l) 4 hpl
  have e1 : sumI (t.take 4) 4 = sumI t 4 := sumI_congr 4 fun i hi => by rw [List.getD_eq_getElem?_getD, List.getD_eq_getElem?_getD, List.getElem?_take, if_pos hi]
  have ST : Hid (∀ wr, Below w.heap.size w wr → Calls Try.prog 84 #[.slice (some ⟨tb, toff, none⟩) 4 cA] wr fun e w' => e = .returned (.int .i64 (sumI t 4)) ∧ wr = w') := Lib.hid fun wr h => by
    rw [← e1]
    exact l14sum_any _ cA 4 (t.take 4) (by rw [List.length_take, ht]; rfl) (by decide) (fun i hi => by rw [List.getD_eq_getElem?_getD, List.getElem?_take, if_pos hi, ← List.getD_eq_getElem?_getD]; exact hpt i hi) wr (ints_take (by omega) (by decide) (Nat.lt_of_lt_of_le htb h.size) (TC.out wr h))
  have SL : Hid (∀ wr, Below w.heap.size w wr → Calls Try.prog 84 #[.slice (some ⟨lb, loff, none⟩) 4 cB] wr fun e w' => e = .returned (.int .i64 (sumI l 4)) ∧ wr = w') := Lib.hid fun wr h =>
    l14sum_any _ cB 4 l hl (by decide) hpl wr ⟨by omega, .inr ⟨lb, loff, rfl, Nat.lt_of_lt_of_le hlb h.size, LC.out wr h⟩⟩
  have I1 := Lib.hid fun wr (h : Below w.heap.size w wr) => (⟨by omega, .inr ⟨tb, toff, rfl, Nat.lt_of_lt_of_le htb h.size, TC.out wr h⟩⟩ : Ints wr wr.heap.size (some ⟨tb, toff, none⟩) t)
  have I2 := Lib.hid fun wr (h : Below w.heap.size w wr) => (⟨by omega, .inr ⟨lb, loff, rfl, Nat.lt_of_lt_of_le hlb h.size, LC.out wr h⟩⟩ : Ints wr wr.heap.size (some ⟨lb, loff, none⟩) l)
  obtain ⟨S1, hS1⟩ : ∃ s, s = sumI t 4 := ⟨_, rfl⟩
  obtain ⟨S2, hS2⟩ : ∃ s, s = sumI l 4 := ⟨_, rfl⟩
  rw [← hS1] at ST hs1
  rw [← hS2] at SL hs2
  try rw [← hS1]
  try rw [← hS2]
  clear htc hlc ht hl hpt hpl e1 hS1 hS2 TC LC
  have hv : (S1 + S2 + 4).tdiv 8 = (S1 + S2 + 4) / 8 := Int.tdiv_eq_ediv_of_nonneg (by omega)
  obtain ⟨z, hz⟩ : ∃ z, z = (S1 + S2 + 4) / 8 := ⟨_, rfl⟩
  have hz1 : 0 ≤ z ∧ z ≤ 100000 := by omega
  rw [← hz] at hv ⊢
  clear hz
  go_enter Try.func78, Try.ntmps78
  go_wp2_with fail
  refine (NK.out _ (I1.out _ BW.out) (I2.out _ BW.out)).mono ?_
  rintro e w1 ⟨rfl, hb1⟩
  have B1 := Lib.hid (below_up BW.out hb1 BW.out.size)
  obtain ⟨c0, c1, c2, c3, c4⟩ := cells5 (cell_kept HK.out hb1)
  clear hb1
  go_wp2_with fail
  go_quiet (first
    | (go_at_call 84; with_reducible exact Calls.quiet_of_same ((ST.out _ (below_drews B1.out _)).mono fun e w' h => ⟨h.1, h.2.symm⟩))
    | (go_at_call 84; with_reducible exact Calls.quiet_of_same ((SL.out _ (below_drews B1.out _)).mono fun e w' h => ⟨h.1, h.2.symm⟩)))
  go_wp2
  go_ret
  exact ⟨rfl, below_drews B1.out _⟩

set_option maxRecDepth 100000 in
set_option maxHeartbeats 4000000 in
theorem spec_mean_8_false_false (tb toff : Nat) (cA : Nat) (lb loff : Nat) (cB : Nat) (t l : List Int) (k : Int) (ht : t.length = 16) (hl : l.length = 8) (hcA : 16 ≤ cA) (w : World) (htb : tb < w.heap.size) (hlb : lb < w.heap.size)
    (htc : ∀ j, j < t.length → w.cell? ⟨tb, toff + j, none⟩ = some (.int .i64 (t.getD j 0))) (hlc : ∀ j, j < l.length → w.cell? ⟨lb, loff + j, none⟩ = some (.int .i64 (l.getD j 0)))
    (hpt : ∀ i, i < 8 → 0 ≤ t.getD i 0 ∧ t.getD i 0 ≤ 255) (hpl : ∀ i, i < 8 → 0 ≤ l.getD i 0 ∧ l.getD i 0 ≤ 255)
    (NK : Hid (∀ w, Ints w w.heap.size (some ⟨tb, toff, none⟩) t → Ints w w.heap.size (some ⟨lb, loff, none⟩) l → Calls Try.prog 15 #[.agg #[.slice (some ⟨tb, toff, none⟩) 16 cA, .slice (some ⟨lb, loff, none⟩) 8 cB, .int .i64 k, .bool false, .bool false], .int .i64 8] w fun e w' => e = .returned (.bool true) ∧ Below w.heap.size w w')) :
    Calls Try.prog 78 #[.agg #[.slice (some ⟨tb, toff, none⟩) 16 cA, .slice (some ⟨lb, loff, none⟩) 8 cB, .int .i64 k, .bool false, .bool false], .int .i64 8] w fun e w' => e = .returned (.int .i64 (128)) ∧ Below w.heap.size w w' := by
  have hcA1 : (8 : Int) ≤ (cA : Int) := by omega
  have hcA2 : 8 ≤ cA := by omega
  have HK := Lib.hid (heap_alloc_new w (.cells #[.slice (some ⟨tb, toff, none⟩) 16 cA, .slice (some ⟨lb, loff, none⟩) 8 cB, .int .i64 k, .bool false, .bool false] 26))
  have BW := Lib.hid (below_new w (.cells #[.slice (some ⟨tb, toff, none⟩) 16 cA, .slice (some ⟨lb, loff, none⟩) 8 cB, .int .i64 k, .bool false, .bool false] 26))
  have TC : Hid (∀ wr, Below w.heap.size w wr → ∀ j, j < t.length → wr.cell? ⟨tb, toff + j, none⟩ = some (.int .i64 (t.getD j 0))) := Lib.hid fun wr h j hj => by
    rw [h.cell (p := ⟨tb, toff + j, none⟩) htb]; exact htc j hj
  have LC : Hid (∀ wr, Below w.heap.size w wr → ∀ j, j < l.length → wr.cell? ⟨lb, loff + j, none⟩ = some (.int .i64 (l.getD j 0))) := Lib.hid fun wr h j hj => by
    rw [h.cell (p := ⟨lb, loff + j, none⟩) hlb]; exact hlc j hj
  have hs1 := sumI_pix (l := t) 8 hpt
  have hs2 := sumI_pix (l := l) 8 hpl
  have e1 : sumI (t.take 8) 8 = sumI t 8 := sumI_congr 8 fun i hi => by rw [List.getD_eq_getElem?_getD, List.getD_eq_getElem?_getD, List.getElem?_take, if_pos hi]
  have ST : Hid (∀ wr, Below w.heap.size w wr → Calls Try.prog 84 #[.slice (some ⟨tb, toff, none⟩) 8 cA] wr fun e w' => e = .returned (.int .i64 (sumI t 8)) ∧ wr = w') := Lib.hid fun wr h => by
    rw [← e1]
    exact l14sum_any _ cA 8 (t.take 8) (by rw [List.length_take, ht]; rfl) (by decide) (fun i hi => by rw [List.getD_eq_getElem?_getD, List.getElem?_take, if_pos hi, ← List.getD_eq_getElem?_getD]; exact hpt i hi) wr (ints_take (by omega) (by decide) (Nat.lt_of_lt_of_le htb h.size) (TC.out wr h))
  have SL : Hid (∀ wr, Below w.heap.size w wr → Calls Try.prog 84 #[.slice (some ⟨lb, loff, none⟩) 8 cB] wr fun e w' => e = .returned (.int .i64 (sumI l 8)) ∧ wr = w') := Lib.hid fun wr h =>
    l14sum_any _ cB 8 l hl (by decide) hpl wr ⟨by omega, .inr ⟨lb, loff, rfl, Nat.lt_of_lt_of_le hlb h.size, LC.out wr h⟩⟩
  have I1 := Lib.hid fun wr (h : Below w.heap.size w wr) => (⟨by omega, .inr ⟨tb, toff, rfl, Nat.lt_of_lt_of_le htb h.size, TC.out wr h⟩⟩ : Ints wr wr.heap.size (some ⟨tb, toff, none⟩) t)
  have I2 := Lib.hid fun wr (h : Below w.heap.size w wr) => (⟨by omega, .inr ⟨lb, loff, rfl, Nat.lt_of_lt_of_le hlb h.size, LC.out wr h⟩⟩ : Ints wr wr.heap.size (some ⟨lb, loff, none⟩) l)
  obtain ⟨S1, hS1⟩ : ∃ s, s = sumI t 8 := ⟨_, rfl⟩
  obtain ⟨S2, hS2⟩ : ∃ s, s = sumI l 8 := ⟨_, rfl⟩
  rw [← hS1] at ST hs1
  rw [← hS2] at SL hs2
  try rw [← hS1]
  try rw [← hS2]
  clear htc hlc ht hl hpt hpl e1 hS1 hS2 TC LC
  go_enter Try.func78, Try.ntmps78
  go_wp2_with fail
  refine (NK.out _ (I1.out _ BW.out) (I2.out _ BW.out)).mono ?_
  rintro e w1 ⟨rfl, hb1⟩
  have B1 := Lib.hid (below_up BW.out hb1 BW.out.size)
  obtain ⟨c0, c1, c2, c3, c4⟩ := cells5 (cell_kept HK.out hb1)
  clear hb1
  go_wp2
  go_ret
  exact ⟨rfl, B1.out⟩

set_option maxRecDepth 100000 in
set_option maxHeartbeats 4000000 in
theorem spec_mean_8_false_true (tb toff : Nat) (cA : Nat) (lb loff : Nat) (cB : Nat) (t l : List Int) (k : Int) (ht : t.length = 16) (hl : l.length = 8) (hcA : 16 ≤ cA) (w : World) (htb : tb < w.heap.size) (hlb : lb < w.heap.size)
    (htc : ∀ j, j < t.length → w.cell? ⟨tb, toff + j, none⟩ = some (.int .i64 (t.getD j 0))) (hlc : ∀ j, j < l.length → w.cell? ⟨lb, loff + j, none⟩ = some (.int .i64 (l.getD j 0)))
    (hpt : ∀ i, i < 8 → 0 ≤ t.getD i 0 ∧ t.getD i 0 ≤ 255) (hpl : ∀ i, i < 8 → 0 ≤ l.getD i 0 ∧ l.getD i 0 ≤ 255)
    (NK : Hid (∀ w, Ints w w.heap.size (some ⟨tb, toff, none⟩) t → Ints w w.heap.size (some ⟨lb, loff, none⟩) l → Calls Try.prog 15 #[.agg #[.slice (some ⟨tb, toff, none⟩) 16 cA, .slice (some ⟨lb, loff, none⟩) 8 cB, .int .i64 k, .bool false, .bool true], .int .i64 8] w fun e w' => e = .returned (.bool true) ∧ Below w.heap.size w w')) :
    Calls Try.prog 78 #[.agg #[.slice (some ⟨tb, toff, none⟩) 16 cA, .slice (some ⟨lb, loff, none⟩) 8 cB, .int .i64 k, .bool false, .bool true], .int .i64 8] w fun e w' => e = .returned (.int .i64 ((sumI l 8 + 4) / 8)) ∧ Below w.heap.size w w' := by
  have hcA1 : (8 : Int) ≤ (cA : Int) := by omega
  have hcA2 : 8 ≤ cA := by omega
  have HK := Lib.hid (heap_alloc_new w (.cells #[.slice (some ⟨tb, toff, none⟩) 16 cA, .slice (some ⟨lb, loff, none⟩) 8 cB, .int .i64 k, .bool false, .bool true] 26))
  have BW := Lib.hid (below_new w (.cells #[.slice (some ⟨tb, toff, none⟩) 16 cA, .slice (some ⟨lb, loff, none⟩) 8 cB, .int .i64 k, .bool false, .bool true] 26))
  have TC : Hid (∀ wr, Below w.heap.size w wr → ∀ j, j < t.length → wr.cell? ⟨tb, toff + j, none⟩ = some (.int .i64 (t.getD j 0))) := Lib.hid fun wr h j hj => by
    rw [h.cell (p := ⟨tb, toff + j, none⟩) htb]; exact htc j hj
  have LC : Hid (∀ wr, Below w.heap.size w wr → ∀ j, j < l.length → wr.cell? ⟨lb, loff + j, none⟩ = some (.int .i64 (l.getD j 0))) := Lib.hid fun wr h j hj => by
    rw [h.cell (p := ⟨lb, loff + j, none⟩) hlb]; exact hlc j hj
  have hs1 := sumI_pix (l := t) 8 hpt
  have hs2 := sumI_pix (l := l) 8 hpl
  have e1 : sumI (t.take 8) 8 = sumI t 8 := sumI_congr 8 fun i hi => by rw [List.getD_eq_getElem?_getD, List.getD_eq_getElem?_getD, List.getElem?_take, if_pos hi]
  have ST : Hid (∀ wr, Below w.heap.size w wr → Calls Try.prog 84 #[.slice (some ⟨tb, toff, none⟩) 8 cA] wr fun e w' => e = .returned (.int .i64 (sumI t 8)) ∧ wr = w') := Lib.hid fun wr h => by
    rw [← e1]
    exact l14sum_any _ cA 8 (t.take 8) (by rw [List.length_take, ht]; rfl) (by decide) (fun i hi => by rw [List.getD_eq_getElem?_getD, List.getElem?_take, if_pos hi, ← List.getD_eq_getElem?_getD]; exact hpt i hi) wr (ints_take (by omega) (by decide) (Nat.lt_of_lt_of_le htb h.size) (TC.out wr h))
  have SL : Hid (∀ wr, Below w.heap.size w wr → Calls Try.prog 84 #[.slice (some ⟨lb, loff, none⟩) 8 cB] wr fun e w' => e = .returned (.int .i64 (sumI l 8)) ∧ wr = w') := Lib.hid fun wr h =>
    l14sum_any _ cB 8 l hl (by decide) hpl wr ⟨by omega, .inr ⟨lb, loff, rfl, Nat.lt_of_lt_of_le hlb h.size, LC.out wr h⟩⟩
  have I1 := Lib.hid fun wr (h : Below w.heap.size w wr) => (⟨by omega, .inr ⟨tb, toff, rfl, Nat.lt_of_lt_of_le htb h.size, TC.out wr h⟩⟩ : Ints wr wr.heap.size (some ⟨tb, toff, none⟩) t)
  have I2 := Lib.hid fun wr (h : Below w.heap.size w wr) => (⟨by omega, .inr ⟨lb, loff, rfl, Nat.lt_of_lt_of_le hlb h.size, LC.out wr h⟩⟩ : Ints wr wr.heap.size (some ⟨lb, loff, none⟩) l)
  obtain ⟨S1, hS1⟩ : ∃ s, s = sumI t 8 := ⟨_, rfl⟩
  obtain ⟨S2, hS2⟩ : ∃ s, s = sumI l 8 := ⟨_, rfl⟩
  rw [← hS1] at ST hs1
  rw [← hS2] at SL hs2
  try rw [← hS1]
  try rw [← hS2]
  clear htc hlc ht hl hpt hpl e1 hS1 hS2 TC LC
  have hv : (S2 + 4).tdiv 8 = (S2 + 4) / 8 := Int.tdiv_eq_ediv_of_nonneg (by omega)
  obtain ⟨z, hz⟩ : ∃ z, z = (S2 + 4) / 8 := ⟨_, rfl⟩
  have hz1 : 0 ≤ z ∧ z ≤ 100000 := by omega
  rw [← hz] at hv ⊢
  clear hz
  go_enter Try.func78, Try.ntmps78
  go_wp2_with fail
  refine (NK.out _ (I1.out _ BW.out) (I2.out _ BW.out)).mono ?_
  rintro e w1 ⟨rfl, hb1⟩
  have B1 := Lib.hid (below_up BW.out hb1 BW.out.size)
  obtain ⟨c0, c1, c2, c3, c4⟩ := cells5 (cell_kept HK.out hb1)
  clear hb1
  go_wp2_with fail
  refine (SL.out _ B1.out).mono ?_
  rintro e w2 ⟨rfl, hw⟩
  subst hw
  go_wp2
  go_ret
  exact ⟨rfl, B1.out⟩

set_option maxRecDepth 100000 in
set_option maxHeartbeats 4000000 in
theorem spec_mean_8_true_false (tb toff : Nat) (cA : Nat) (lb loff : Nat) (cB : Nat) (t l : List Int) (k : Int) (ht : t.length = 16) (hl : l.length = 8) (hcA : 16 ≤ cA) (w : World) (htb : tb < w.heap.size) (hlb : lb < w.heap.size)
    (htc : ∀ j, j < t.length → w.cell? ⟨tb, toff + j, none⟩ = some (.int .i64 (t.getD j 0))) (hlc : ∀ j, j < l.length → w.cell? ⟨lb, loff + j, none⟩ = some (.int .i64 (l.getD j 0)))
    (hpt : ∀ i, i < 8 → 0 ≤ t.getD i 0 ∧ t.getD i 0 ≤ 255) (hpl : ∀ i, i < 8 → 0 ≤ l.getD i 0 ∧ l.getD i 0 ≤ 255)
    (NK : Hid (∀ w, Ints w w.heap.size (some ⟨tb, toff, none⟩) t → Ints w w.heap.size (some ⟨lb, loff, none⟩) l → Calls Try.prog 15 #[.agg #[.slice (some ⟨tb, toff, none⟩) 16 cA, .slice (some ⟨lb, loff, none⟩) 8 cB, .int .i64 k, .bool true, .bool false], .int .i64 8] w fun e w' => e = .returned (.bool true) ∧ Below w.heap.size w w')) :
    Calls Try.prog 78 #[.agg #[.slice (some ⟨tb, toff, none⟩) 16 cA, .slice (some ⟨lb, loff, none⟩) 8 cB, .int .i64 k, .bool true, .bool false], .int .i64 8] w fun e w' => e = .returned (.int .i64 ((sumI t 8 + 4) / 8)) ∧ Below w.heap.size w w' := by
  have hcA1 : (8 : Int) ≤ (cA : Int) := by omega
  have hcA2 : 8 ≤ cA := by omega
  have HK := Lib.hid (heap_alloc_new w (.cells #[.slice (some ⟨tb, toff, none⟩) 16 cA, .slice (some ⟨lb, loff, none⟩) 8 cB, .int .i64 k, .bool true, .bool false] 26))
  have BW := Lib.hid (below_new w (.cells #[.slice (some ⟨tb, toff, none⟩) 16 cA, .slice (some ⟨lb, loff, none⟩) 8 cB, .int .i64 k, .bool true, .bool false] 26))
  have TC : Hid (∀ wr, Below w.heap.size w wr → ∀ j, j < t.length → wr.cell? ⟨tb, toff + j, none⟩ = some (.int .i64 (t.getD j 0))) := Lib.hid fun wr h j hj => by
    rw [h.cell (p := ⟨tb, toff + j, none⟩) htb]; exact htc j hj
  have LC : Hid (∀ wr, Below w.heap.size w wr → ∀ j, j < l.length → wr.cell? ⟨lb, loff + j, none⟩ = some (.int .i64 (l.getD j 0))) := Lib.hid fun wr h j hj => by
    rw [h.cell (p := ⟨lb, loff + j, none⟩) hlb]; exact hlc j hj
  have hs1 := sumI_pix (l := t) 8 hpt
  have hs2 := sumI_pix (l := l) 8 hpl
  have e1 : sumI (t.take 8) 8 = sumI t 8 := sumI_congr 8 fun i hi => by rw [List.getD_eq_getElem?_getD, List.getD_eq_getElem?_getD, List.getElem?_take, if_pos hi]
  have ST : Hid (∀ wr, Below w.heap.size w wr → Calls Try.prog 84 #[.slice (some ⟨tb, toff, none⟩) 8 cA] wr fun e w' => e = .returned (.int .i64 (sumI t 8)) ∧ wr = w') := Lib.hid fun wr h => by
    rw [← e1]
    exact l14sum_any _ cA 8 (t.take 8) (by rw [List.length_take, ht]; rfl) (by decide) (fun i hi => by rw [List.getD_eq_getElem?_getD, List.getElem?_take, if_pos hi, ← List.getD_eq_getElem?_getD]; exact hpt i hi) wr (ints_take (by omega) (by decide) (Nat.lt_of_lt_of_le htb h.size) (TC.out wr h))
  have SL : Hid (∀ wr, Below w.heap.size w wr → Calls Try.prog 84 #[.slice (some ⟨lb, loff, none⟩) 8 cB] wr fun e w' => e = .returned (.int .i64 (sumI l 8)) ∧ wr = w') := Lib.hid fun wr h =>
    l14sum_any _ cB 8 l hl (by decide) hpl wr ⟨by omega, .inr ⟨lb, loff, rfl, Nat.lt_of_lt_of_le hlb h.size, LC.out wr h⟩⟩
  have I1 := Lib.hid fun wr (h : Below w.heap.size w wr) => (⟨by omega, .inr ⟨tb, toff, rfl, Nat.lt_of_lt_of_le htb h.size, TC.out wr h⟩⟩ : Ints wr wr.heap.size (some ⟨tb, toff, none⟩) t)
  have I2 := Lib.hid fun wr (h : Below w.heap.size w wr) => (⟨by omega, .inr ⟨lb, loff, rfl, Nat.lt_of_lt_of_le hlb h.size, LC.out wr h⟩⟩ : Ints wr wr.heap.size (some ⟨lb, loff, none⟩) l)
  obtain ⟨S1, hS1⟩ : ∃ s, s = sumI t 8 := ⟨_, rfl⟩
  obtain ⟨S2, hS2⟩ : ∃ s, s = sumI l 8 := ⟨_, rfl⟩
  rw [← hS1] at ST hs1
  rw [← hS2] at SL hs2
  try rw [← hS1]
  try rw [← hS2]
  clear htc hlc ht hl hpt hpl e1 hS1 hS2 TC LC
  have hv : (S1 + 4).tdiv 8 = (S1 + 4) / 8 := Int.tdiv_eq_ediv_of_nonneg (by omega)
  obtain ⟨z, hz⟩ : ∃ z, z = (S1 + 4) / 8 := ⟨_, rfl⟩
  have hz1 : 0 ≤ z ∧ z ≤ 100000 := by omega
  rw [← hz] at hv ⊢
  clear hz
  go_enter Try.func78, Try.ntmps78
  go_wp2_with fail
  refine (NK.out _ (I1.out _ BW.out) (I2.out _ BW.out)).mono ?_
  rintro e w1 ⟨rfl, hb1⟩
  have B1 := Lib.hid (below_up BW.out hb1 BW.out.size)
  obtain ⟨c0, c1, c2, c3, c4⟩ := cells5 (cell_kept HK.out hb1)
  clear hb1
  go_wp2_with fail
  refine (ST.out _ B1.out).mono ?_
  rintro e w2 ⟨rfl, hw⟩
  subst hw
  go_wp2
  go_ret
  exact ⟨rfl, B1.out⟩

set_option maxRecDepth 100000 in
set_option maxHeartbeats 4000000 in
theorem spec_mean_8_true_true (tb toff : Nat) (cA : Nat) (lb loff : Nat) (cB : Nat) (t l : List Int) (k : Int) (ht : t.length = 16) (hl : l.length = 8) (hcA : 16 ≤ cA) (w : World) (htb : tb < w.heap.size) (hlb : lb < w.heap.size)
    (htc : ∀ j, j < t.length → w.cell? ⟨tb, toff + j, none⟩ = some (.int .i64 (t.getD j 0))) (hlc : ∀ j, j < l.length → w.cell? ⟨lb, loff + j, none⟩ = some (.int .i64 (l.getD j 0)))
    (hpt : ∀ i, i < 8 → 0 ≤ t.getD i 0 ∧ t.getD i 0 ≤ 255) (hpl : ∀ i, i < 8 → 0 ≤ l.getD i 0 ∧ l.getD i 0 ≤ 255)
    (NK : Hid (∀ w, Ints w w.heap.size (some ⟨tb, toff, none⟩) t → Ints w w.heap.size (some ⟨lb, loff, none⟩) l → Calls Try.prog 15 #[.agg #[.slice (some ⟨tb, toff, none⟩) 16 cA, .slice (some ⟨lb, loff, none⟩) 8 cB, .int .i64 k, .bool true, .bool true], .int .i64 8] w fun e w' => e = .returned (.bool true) ∧ Below w.heap.size w w')) :
    Calls Try.prog 78 #[.agg #[.slice (some ⟨tb, toff, none⟩) 16 cA, .slice (some ⟨lb, loff, none⟩) 8 cB, .int .i64 k, .bool true, .bool true], .int .i64 8] w fun e w' => e = .returned (.int .i64 ((sumI t 8 + sumI l 8 + 8) / 16)) ∧ Below w.heap.size w w' := by
  have hcA1 : (8 : Int) ≤ (cA : Int) := by omega
  have hcA2 : 8 ≤ cA := by omega
  have HK := Lib.hid (heap_alloc_new w (.cells #[.slice (some ⟨tb, toff, none⟩) 16 cA, .slice (some ⟨lb, loff, none⟩) 8 cB, .int .i64 k, .bool true, .bool true] 26))
  have BW := Lib.hid (below_new w (.cells #[.slice (some ⟨tb, toff, none⟩) 16 cA, .slice (some ⟨lb, loff, none⟩) 8 cB, .int .i64 k, .bool true, .bool true] 26))
  have TC : Hid (∀ wr, Below w.heap.size w wr → ∀ j, j < t.length → wr.cell? ⟨tb, toff + j, none⟩ = some (.int .i64 (t.getD j 0))) := Lib.hid fun wr h j hj => by
    rw [h.cell (p := ⟨tb, toff + j, none⟩) htb]; exact htc j hj
  have LC : Hid (∀ wr, Below w.heap.size w wr → ∀ j, j < l.length → wr.cell? ⟨lb, loff + j, none⟩ = some (.int .i64 (l.getD j 0))) := Lib.hid fun wr h j hj => by
    rw [h.cell (p := ⟨lb, loff + j, none⟩) hlb]; exact hlc j hj
  have hs1 := sumI_pix (l := t) 8 hpt
  have hs2 := sumI_pix (l := l) 8 hpl
  have e1 : sumI (t.take 8) 8 = sumI t 8 := sumI_congr 8 fun i hi => by rw [List.getD_eq_getElem?_getD, List.getD_eq_getElem?_getD, List.getElem?_take, if_pos hi]
  have ST : Hid (∀ wr, Below w.heap.size w wr → Calls Try.prog 84 #[.slice (some ⟨tb, toff, none⟩) 8 cA] wr fun e w' => e = .returned (.int .i64 (sumI t 8)) ∧ wr = w') := Lib.hid fun wr h => by
    rw [← e1]
    exact l14sum_any _ cA 8 (t.take 8) (by rw [List.length_take, ht]; rfl) (by decide) (fun i hi => by rw [List.getD_eq_getElem?_getD, List.getElem?_take, if_pos hi, ← List.getD_eq_getElem?_getD]; exact hpt i hi) wr (ints_take (by omega) (by decide) (Nat.lt_of_lt_of_le htb h.size) (TC.out wr h))
  have SL : Hid (∀ wr, Below w.heap.size w wr → Calls Try.prog 84 #[.slice (some ⟨lb, loff, none⟩) 8 cB] wr fun e w' => e = .returned (.int .i64 (sumI l 8)) ∧ wr = w') := Lib.hid fun wr h =>
    l14sum_any _ cB 8 l hl (by decide) hpl wr ⟨by omega, .inr ⟨lb, loff, rfl, Nat.lt_of_lt_of_le hlb h.size, LC.out wr h⟩⟩
  have I1 := Lib.hid fun wr (h : Below w.heap.size w wr) => (⟨by omega, .inr ⟨tb, toff, rfl, Nat.lt_of_lt_of_le htb h.size, TC.out wr h⟩⟩ : Ints wr wr.heap.size (some ⟨tb, toff, none⟩) t)
  have I2 := Lib.hid fun wr (h : Below w.heap.size w wr) => (⟨by omega, .inr ⟨lb, loff, rfl, Nat.lt_of_lt_of_le hlb h.size, LC.out wr h⟩⟩ : Ints wr wr.heap.size (some ⟨lb, loff, none⟩) l)
  obtain ⟨S1, hS1⟩ : ∃ s, s = sumI t 8 := ⟨_, rfl⟩
  obtain ⟨S2, hS2⟩ : ∃ s, s = sumI l 8 := ⟨_, rfl⟩
  rw [← hS1] at ST hs1
  rw [← hS2] at SL hs2
  try rw [← hS1]
  try rw [← hS2]
  clear htc hlc ht hl hpt hpl e1 hS1 hS2 TC LC
  have hv : (S1 + S2 + 8).tdiv 16 = (S1 + S2 + 8) / 16 := Int.tdiv_eq_ediv_of_nonneg (by omega)
  obtain ⟨z, hz⟩ : ∃ z, z = (S1 + S2 + 8) / 16 := ⟨_, rfl⟩
  have hz1 : 0 ≤ z ∧ z ≤ 100000 := by omega
  rw [← hz] at hv ⊢
  clear hz
  go_enter Try.func78, Try.ntmps78
  go_wp2_with fail
  refine (NK.out _ (I1.out _ BW.out) (I2.out _ BW.out)).mono ?_
  rintro e w1 ⟨rfl, hb1⟩
  have B1 := Lib.hid (below_up BW.out hb1 BW.out.size)
  obtain ⟨c0, c1, c2, c3, c4⟩ := cells5 (cell_kept HK.out hb1)
  clear hb1
  go_wp2_with fail
  go_quiet (first
    | (go_at_call 84; with_reducible exact Calls.quiet_of_same ((ST.out _ (below_drews B1.out _)).mono fun e w' h => ⟨h.1, h.2.symm⟩))
    | (go_at_call 84; with_reducible exact Calls.quiet_of_same ((SL.out _ (below_drews B1.out _)).mono fun e w' h => ⟨h.1, h.2.symm⟩)))
  go_wp2
  go_ret
  exact ⟨rfl, below_drews B1.out _⟩

set_option maxRecDepth 100000 in
set_option maxHeartbeats 1000000 in
theorem spec_mean_any (A : Option Addr) (cA : Nat) (B : Option Addr) (cB : Nat) (t l : List Int) (k : Int) (b1 b2 : Bool) (n : Int) (w : World) (hT : Ints w w.heap.size A t) (hL : Ints w w.heap.size B l) (hcA : t.length ≤ cA) :
    Calls Try.prog 78 #[.agg #[.slice A t.length cA, .slice B l.length cB, .int .i64 k, .bool b1, .bool b2], .int .i64 n] w fun e w' => e = .returned (.int .i64 (meanV t l k b1 b2 n)) ∧ Below w.heap.size w w' := by
  have NK := Lib.hid fun w h1 h2 => spec_nbok_any A cA B cB t l k b1 b2 n w h1 h2
  cases hok : nbOk t l k n with
  | true =>
    rw [hok] at NK
    unfold meanV
    rw [if_pos hok]
    obtain ⟨m, rfl, hm, ht, hl, hpt, hpl, _⟩ := nbOk_side hok
    obtain ⟨tb, toff, rfl, htb, htc⟩ := hT.at 0 (by omega)
    obtain ⟨lb, loff, rfl, hlb, hlc⟩ := hL.at 0 (by omega)
    rw [ht, hl] at NK ⊢
    have hpt' : ∀ i, i < m → 0 ≤ t.getD i 0 ∧ t.getD i 0 ≤ 255 := fun i hi => hpt i (by omega)
    rcases hm with rfl | rfl
    · cases b1 <;> cases b2
      · exact spec_mean_4_false_false tb toff cA lb loff cB t l k ht hl (by omega) w htb hlb htc hlc hpt' hpl NK
      · exact spec_mean_4_false_true tb toff cA lb loff cB t l k ht hl (by omega) w htb hlb htc hlc hpt' hpl NK
      · exact spec_mean_4_true_false tb toff cA lb loff cB t l k ht hl (by omega) w htb hlb htc hlc hpt' hpl NK
      · exact spec_mean_4_true_true tb toff cA lb loff cB t l k ht hl (by omega) w htb hlb htc hlc hpt' hpl NK
    · cases b1 <;> cases b2
      · exact spec_mean_8_false_false tb toff cA lb loff cB t l k ht hl (by omega) w htb hlb htc hlc hpt' hpl NK
      · exact spec_mean_8_false_true tb toff cA lb loff cB t l k ht hl (by omega) w htb hlb htc hlc hpt' hpl NK
      · exact spec_mean_8_true_false tb toff cA lb loff cB t l k ht hl (by omega) w htb hlb htc hlc hpt' hpl NK
      · exact spec_mean_8_true_true tb toff cA lb loff cB t l k ht hl (by omega) w htb hlb htc hlc hpt' hpl NK
  | false =>
    rw [hok] at NK
    have e1 : meanV t l k b1 b2 n = 0 := by unfold meanV; rw [if_neg (by rw [hok]; simp)]
    rw [e1]
    have b2' := below_new w (.cells #[.slice A t.length cA, .slice B l.length cB, .int .i64 k, .bool b1, .bool b2] 26)
    have B0 := Lib.hid b2'
    have HT := Lib.hid ((hT.below b2' (Nat.le_refl _)).mono b2'.size)
    have HL := Lib.hid ((hL.below b2' (Nat.le_refl _)).mono b2'.size)
    have hnt := hT.1; have hnl := hL.1
    clear hok hT hL b2' hcA e1
    go_enter Try.func78, Try.ntmps78
    go_wp2_with fail
    refine (NK.out _ HT.out HL.out).mono ?_
    rintro e w1 ⟨rfl, hb1⟩
    have B1 := Lib.hid (below_up B0.out hb1 B0.out.size)
    clear hb1
    go_wp2
    go_ret
    exact ⟨rfl, B1.out⟩
end Go.Proofs.Ytjgbenhjafgimaa
