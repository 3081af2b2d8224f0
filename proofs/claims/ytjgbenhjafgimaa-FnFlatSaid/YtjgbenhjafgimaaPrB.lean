/-
  The contract of the model's PredAt. Condition: a slice is no longer than it holds.
-/
import Derived.Test.YtjgbenhjafgimaaPrA
namespace Go.Proofs.Ytjgbenhjafgimaa
open Go.RowKit
set_option linter.unusedVariables false

set_option maxRecDepth 100000 in
set_option maxHeartbeats 4000000 in
theorem spec_predat_4_0 (v0 : Int) (tb toff : Nat) (cA : Nat) (lb loff : Nat) (cB : Nat) (t l : List Int) (k : Int) (b1 b2 : Bool) (x y : Nat) (hx : x < 4) (hy : y < 4) (ht : t.length = 8) (hl : l.length = 4) (hcA : 8 ≤ cA) (w : World) (htb : tb < w.heap.size) (hlb : lb < w.heap.size)
    (htc : ∀ j, j < t.length → w.cell? ⟨tb, toff + j, none⟩ = some (.int .i64 (t.getD j 0))) (hlc : ∀ j, j < l.length → w.cell? ⟨lb, loff + j, none⟩ = some (.int .i64 (l.getD j 0)))
    (hpt : ∀ i, i < 8 → 0 ≤ t.getD i 0 ∧ t.getD i 0 ≤ 255) (hpl : ∀ i, i < 4 → 0 ≤ l.getD i 0 ∧ l.getD i 0 ≤ 255) (hk : 0 ≤ k ∧ k ≤ 255) (MN : Hid (∀ w, Ints w w.heap.size (some ⟨tb, toff, none⟩) t → Ints w w.heap.size (some ⟨lb, loff, none⟩) l → Calls Try.prog 78 #[.agg #[.slice (some ⟨tb, toff, none⟩) 8 cA, .slice (some ⟨lb, loff, none⟩) 4 cB, .int .i64 k, .bool b1, .bool b2], .int .i64 4] w fun e w' => e = .returned (.int .i64 v0) ∧ Below w.heap.size w w')) 
    (NK : Hid (∀ w, Ints w w.heap.size (some ⟨tb, toff, none⟩) t → Ints w w.heap.size (some ⟨lb, loff, none⟩) l → Calls Try.prog 15 #[.agg #[.slice (some ⟨tb, toff, none⟩) 8 cA, .slice (some ⟨lb, loff, none⟩) 4 cB, .int .i64 k, .bool b1, .bool b2], .int .i64 4] w fun e w' => e = .returned (.bool true) ∧ Below w.heap.size w w'))
    (BD : Hid (∀ w, Ints w w.heap.size (some ⟨tb, toff, none⟩) t → Ints w w.heap.size (some ⟨lb, loff, none⟩) l → Calls Try.prog 67 #[.agg #[.slice (some ⟨tb, toff, none⟩) 8 cA, .slice (some ⟨lb, loff, none⟩) 4 cB, .int .i64 k, .bool b1, .bool b2], .int .i64 4] w fun e w' => ∃ A' c, e = .returned (.slice A' 9 c) ∧ OwnI w' w.heap.size A' c (bordF t l k) ∧ Below w.heap.size w w')) :
    Calls Try.prog 48 #[.int .i64 0, .agg #[.slice (some ⟨tb, toff, none⟩) 8 cA, .slice (some ⟨lb, loff, none⟩) 4 cB, .int .i64 k, .bool b1, .bool b2], .int .i64 4, .int .i64 x, .int .i64 y] w fun e w' => e = .returned (.int .i64 (v0)) ∧ Below w.heap.size w w' := by
  have hcA1 : (4 : Int) ≤ (cA : Int) := by omega
  have HK := Lib.hid (heap_alloc_new w (.cells #[.slice (some ⟨tb, toff, none⟩) 8 cA, .slice (some ⟨lb, loff, none⟩) 4 cB, .int .i64 k, .bool b1, .bool b2] 26))
  have BW := Lib.hid (below_new w (.cells #[.slice (some ⟨tb, toff, none⟩) 8 cA, .slice (some ⟨lb, loff, none⟩) 4 cB, .int .i64 k, .bool b1, .bool b2] 26))
  have HTL := Lib.hid ht; have HLL := Lib.hid hl; have HPT := Lib.hid hpt; have HPL := Lib.hid hpl
  have HPB := Lib.hid (bordF_pix (m := 4) ht hl hpt hpl hk)
  have HBL : Hid ((bordF t l k).length = 9) := Lib.hid (bordF_len (m := 4) ht hl)
  have TC : Hid (∀ wr, Below w.heap.size w wr → ∀ j, j < t.length → wr.cell? ⟨tb, toff + j, none⟩ = some (.int .i64 (t.getD j 0))) := Lib.hid fun wr h j hj => by
    rw [h.cell (p := ⟨tb, toff + j, none⟩) htb]; exact htc j hj
  have LC : Hid (∀ wr, Below w.heap.size w wr → ∀ j, j < l.length → wr.cell? ⟨lb, loff + j, none⟩ = some (.int .i64 (l.getD j 0))) := Lib.hid fun wr h j hj => by
    rw [h.cell (p := ⟨lb, loff + j, none⟩) hlb]; exact hlc j hj
  have I1 : Hid (∀ wr, Below w.heap.size w wr → Ints wr wr.heap.size (some ⟨tb, toff, none⟩) t) := Lib.hid fun wr h => ⟨by omega, .inr ⟨tb, toff, rfl, Nat.lt_of_lt_of_le htb h.size, TC.out wr h⟩⟩
  have I2 : Hid (∀ wr, Below w.heap.size w wr → Ints wr wr.heap.size (some ⟨lb, loff, none⟩) l) := Lib.hid fun wr h => ⟨by omega, .inr ⟨lb, loff, rfl, Nat.lt_of_lt_of_le hlb h.size, LC.out wr h⟩⟩
  have X1 := Lib.hid (l1in_at (x : Int) 3 (by omega))
  have Y1 := Lib.hid (l1in_at (y : Int) 3 (by omega))
  clear htc hlc ht hl hpt hpl
  go_enter Try.func48, Try.ntmps48
  go_wp2_with fail
  refine (NK.out _ (I1.out _ BW.out) (I2.out _ BW.out)).mono ?_
  rintro e w1 ⟨rfl, hb1⟩
  have B1 := Lib.hid (below_up BW.out hb1 BW.out.size)
  have K1 := Lib.hid (cell_kept HK.out hb1)
  clear hb1
  go_wp2_with fail
  refine (X1.out _).mono ?_
  rintro e wx ⟨rfl, hw⟩
  subst hw
  go_wp2_with fail
  refine (Y1.out _).mono ?_
  rintro e wx ⟨rfl, hw⟩
  subst hw
  obtain ⟨c0, c1, c2, c3, c4⟩ := cells5 K1.out
  go_wp2_with fail
  refine (BD.out _ (I1.out _ B1.out) (I2.out _ B1.out)).mono ?_
  rintro e w2 ⟨AR, cR, rfl, hoR, hb2⟩
  have B2 := Lib.hid (below_up B1.out hb2 B1.out.size)
  have R2 := Lib.hid (hoR.ints (by rw [HBL.out]; decide))
  clear c0 c1 c2 c3 c4
  obtain ⟨c0, c1, c2, c3, c4⟩ := cells5 (cell_kept K1.out hb2)
  clear hb2 hoR
  go_wp2_with fail
  refine (MN.out _ (I1.out _ B2.out) (I2.out _ B2.out)).mono ?_
  rintro e w3 ⟨rfl, hb3⟩
  have B3 := Lib.hid (below_up B2.out hb3 B2.out.size)
  clear hb3
  go_wp2
  go_ret
  exact ⟨rfl, B3.out⟩

set_option maxRecDepth 100000 in
set_option maxHeartbeats 4000000 in
theorem spec_predat_4_1 (tb toff : Nat) (cA : Nat) (lb loff : Nat) (cB : Nat) (t l : List Int) (k : Int) (b1 b2 : Bool) (x y : Nat) (hx : x < 4) (hy : y < 4) (ht : t.length = 8) (hl : l.length = 4) (hcA : 8 ≤ cA) (w : World) (htb : tb < w.heap.size) (hlb : lb < w.heap.size)
    (htc : ∀ j, j < t.length → w.cell? ⟨tb, toff + j, none⟩ = some (.int .i64 (t.getD j 0))) (hlc : ∀ j, j < l.length → w.cell? ⟨lb, loff + j, none⟩ = some (.int .i64 (l.getD j 0)))
    (hpt : ∀ i, i < 8 → 0 ≤ t.getD i 0 ∧ t.getD i 0 ≤ 255) (hpl : ∀ i, i < 4 → 0 ≤ l.getD i 0 ∧ l.getD i 0 ≤ 255) (hk : 0 ≤ k ∧ k ≤ 255) 
    (NK : Hid (∀ w, Ints w w.heap.size (some ⟨tb, toff, none⟩) t → Ints w w.heap.size (some ⟨lb, loff, none⟩) l → Calls Try.prog 15 #[.agg #[.slice (some ⟨tb, toff, none⟩) 8 cA, .slice (some ⟨lb, loff, none⟩) 4 cB, .int .i64 k, .bool b1, .bool b2], .int .i64 4] w fun e w' => e = .returned (.bool true) ∧ Below w.heap.size w w'))
    (BD : Hid (∀ w, Ints w w.heap.size (some ⟨tb, toff, none⟩) t → Ints w w.heap.size (some ⟨lb, loff, none⟩) l → Calls Try.prog 67 #[.agg #[.slice (some ⟨tb, toff, none⟩) 8 cA, .slice (some ⟨lb, loff, none⟩) 4 cB, .int .i64 k, .bool b1, .bool b2], .int .i64 4] w fun e w' => ∃ A' c, e = .returned (.slice A' 9 c) ∧ OwnI w' w.heap.size A' c (bordF t l k) ∧ Below w.heap.size w w')) :
    Calls Try.prog 48 #[.int .i64 1, .agg #[.slice (some ⟨tb, toff, none⟩) 8 cA, .slice (some ⟨lb, loff, none⟩) 4 cB, .int .i64 k, .bool b1, .bool b2], .int .i64 4, .int .i64 x, .int .i64 y] w fun e w' => e = .returned (.int .i64 (t.getD x 0)) ∧ Below w.heap.size w w' := by
  have hcA1 : (4 : Int) ≤ (cA : Int) := by omega
  have HK := Lib.hid (heap_alloc_new w (.cells #[.slice (some ⟨tb, toff, none⟩) 8 cA, .slice (some ⟨lb, loff, none⟩) 4 cB, .int .i64 k, .bool b1, .bool b2] 26))
  have BW := Lib.hid (below_new w (.cells #[.slice (some ⟨tb, toff, none⟩) 8 cA, .slice (some ⟨lb, loff, none⟩) 4 cB, .int .i64 k, .bool b1, .bool b2] 26))
  have HTL := Lib.hid ht; have HLL := Lib.hid hl; have HPT := Lib.hid hpt; have HPL := Lib.hid hpl
  have HPB := Lib.hid (bordF_pix (m := 4) ht hl hpt hpl hk)
  have HBL : Hid ((bordF t l k).length = 9) := Lib.hid (bordF_len (m := 4) ht hl)
  have TC : Hid (∀ wr, Below w.heap.size w wr → ∀ j, j < t.length → wr.cell? ⟨tb, toff + j, none⟩ = some (.int .i64 (t.getD j 0))) := Lib.hid fun wr h j hj => by
    rw [h.cell (p := ⟨tb, toff + j, none⟩) htb]; exact htc j hj
  have LC : Hid (∀ wr, Below w.heap.size w wr → ∀ j, j < l.length → wr.cell? ⟨lb, loff + j, none⟩ = some (.int .i64 (l.getD j 0))) := Lib.hid fun wr h j hj => by
    rw [h.cell (p := ⟨lb, loff + j, none⟩) hlb]; exact hlc j hj
  have I1 : Hid (∀ wr, Below w.heap.size w wr → Ints wr wr.heap.size (some ⟨tb, toff, none⟩) t) := Lib.hid fun wr h => ⟨by omega, .inr ⟨tb, toff, rfl, Nat.lt_of_lt_of_le htb h.size, TC.out wr h⟩⟩
  have I2 : Hid (∀ wr, Below w.heap.size w wr → Ints wr wr.heap.size (some ⟨lb, loff, none⟩) l) := Lib.hid fun wr h => ⟨by omega, .inr ⟨lb, loff, rfl, Nat.lt_of_lt_of_le hlb h.size, LC.out wr h⟩⟩
  have X1 := Lib.hid (l1in_at (x : Int) 3 (by omega))
  have Y1 := Lib.hid (l1in_at (y : Int) 3 (by omega))
  obtain ⟨u, hu⟩ : ∃ u, u = t.getD x 0 := ⟨_, rfl⟩
  rw [← hu]
  have HU := Lib.hid hu; clear hu
  clear htc hlc ht hl hpt hpl
  go_enter Try.func48, Try.ntmps48
  go_wp2_with fail
  refine (NK.out _ (I1.out _ BW.out) (I2.out _ BW.out)).mono ?_
  rintro e w1 ⟨rfl, hb1⟩
  have B1 := Lib.hid (below_up BW.out hb1 BW.out.size)
  have K1 := Lib.hid (cell_kept HK.out hb1)
  clear hb1
  go_wp2_with fail
  refine (X1.out _).mono ?_
  rintro e wx ⟨rfl, hw⟩
  subst hw
  go_wp2_with fail
  refine (Y1.out _).mono ?_
  rintro e wx ⟨rfl, hw⟩
  subst hw
  obtain ⟨c0, c1, c2, c3, c4⟩ := cells5 K1.out
  go_wp2_with fail
  refine (BD.out _ (I1.out _ B1.out) (I2.out _ B1.out)).mono ?_
  rintro e w2 ⟨AR, cR, rfl, hoR, hb2⟩
  have B2 := Lib.hid (below_up B1.out hb2 B1.out.size)
  have R2 := Lib.hid (hoR.ints (by rw [HBL.out]; decide))
  clear c0 c1 c2 c3 c4
  obtain ⟨c0, c1, c2, c3, c4⟩ := cells5 (cell_kept K1.out hb2)
  clear hb2 hoR
  have cx := TC.out _ B2.out x (by rw [HTL.out]; omega)
  rw [← HU.out] at cx
  go_wp2
  go_ret
  exact ⟨rfl, B2.out⟩

set_option maxRecDepth 100000 in
set_option maxHeartbeats 4000000 in
theorem spec_predat_4_2 (tb toff : Nat) (cA : Nat) (lb loff : Nat) (cB : Nat) (t l : List Int) (k : Int) (b1 b2 : Bool) (x y : Nat) (hx : x < 4) (hy : y < 4) (ht : t.length = 8) (hl : l.length = 4) (hcA : 8 ≤ cA) (w : World) (htb : tb < w.heap.size) (hlb : lb < w.heap.size)
    (htc : ∀ j, j < t.length → w.cell? ⟨tb, toff + j, none⟩ = some (.int .i64 (t.getD j 0))) (hlc : ∀ j, j < l.length → w.cell? ⟨lb, loff + j, none⟩ = some (.int .i64 (l.getD j 0)))
    (hpt : ∀ i, i < 8 → 0 ≤ t.getD i 0 ∧ t.getD i 0 ≤ 255) (hpl : ∀ i, i < 4 → 0 ≤ l.getD i 0 ∧ l.getD i 0 ≤ 255) (hk : 0 ≤ k ∧ k ≤ 255) 
    (NK : Hid (∀ w, Ints w w.heap.size (some ⟨tb, toff, none⟩) t → Ints w w.heap.size (some ⟨lb, loff, none⟩) l → Calls Try.prog 15 #[.agg #[.slice (some ⟨tb, toff, none⟩) 8 cA, .slice (some ⟨lb, loff, none⟩) 4 cB, .int .i64 k, .bool b1, .bool b2], .int .i64 4] w fun e w' => e = .returned (.bool true) ∧ Below w.heap.size w w'))
    (BD : Hid (∀ w, Ints w w.heap.size (some ⟨tb, toff, none⟩) t → Ints w w.heap.size (some ⟨lb, loff, none⟩) l → Calls Try.prog 67 #[.agg #[.slice (some ⟨tb, toff, none⟩) 8 cA, .slice (some ⟨lb, loff, none⟩) 4 cB, .int .i64 k, .bool b1, .bool b2], .int .i64 4] w fun e w' => ∃ A' c, e = .returned (.slice A' 9 c) ∧ OwnI w' w.heap.size A' c (bordF t l k) ∧ Below w.heap.size w w')) :
    Calls Try.prog 48 #[.int .i64 2, .agg #[.slice (some ⟨tb, toff, none⟩) 8 cA, .slice (some ⟨lb, loff, none⟩) 4 cB, .int .i64 k, .bool b1, .bool b2], .int .i64 4, .int .i64 x, .int .i64 y] w fun e w' => e = .returned (.int .i64 (l.getD y 0)) ∧ Below w.heap.size w w' := by
  have hcA1 : (4 : Int) ≤ (cA : Int) := by omega
  have HK := Lib.hid (heap_alloc_new w (.cells #[.slice (some ⟨tb, toff, none⟩) 8 cA, .slice (some ⟨lb, loff, none⟩) 4 cB, .int .i64 k, .bool b1, .bool b2] 26))
  have BW := Lib.hid (below_new w (.cells #[.slice (some ⟨tb, toff, none⟩) 8 cA, .slice (some ⟨lb, loff, none⟩) 4 cB, .int .i64 k, .bool b1, .bool b2] 26))
  have HTL := Lib.hid ht; have HLL := Lib.hid hl; have HPT := Lib.hid hpt; have HPL := Lib.hid hpl
  have HPB := Lib.hid (bordF_pix (m := 4) ht hl hpt hpl hk)
  have HBL : Hid ((bordF t l k).length = 9) := Lib.hid (bordF_len (m := 4) ht hl)
  have TC : Hid (∀ wr, Below w.heap.size w wr → ∀ j, j < t.length → wr.cell? ⟨tb, toff + j, none⟩ = some (.int .i64 (t.getD j 0))) := Lib.hid fun wr h j hj => by
    rw [h.cell (p := ⟨tb, toff + j, none⟩) htb]; exact htc j hj
  have LC : Hid (∀ wr, Below w.heap.size w wr → ∀ j, j < l.length → wr.cell? ⟨lb, loff + j, none⟩ = some (.int .i64 (l.getD j 0))) := Lib.hid fun wr h j hj => by
    rw [h.cell (p := ⟨lb, loff + j, none⟩) hlb]; exact hlc j hj
  have I1 : Hid (∀ wr, Below w.heap.size w wr → Ints wr wr.heap.size (some ⟨tb, toff, none⟩) t) := Lib.hid fun wr h => ⟨by omega, .inr ⟨tb, toff, rfl, Nat.lt_of_lt_of_le htb h.size, TC.out wr h⟩⟩
  have I2 : Hid (∀ wr, Below w.heap.size w wr → Ints wr wr.heap.size (some ⟨lb, loff, none⟩) l) := Lib.hid fun wr h => ⟨by omega, .inr ⟨lb, loff, rfl, Nat.lt_of_lt_of_le hlb h.size, LC.out wr h⟩⟩
  have X1 := Lib.hid (l1in_at (x : Int) 3 (by omega))
  have Y1 := Lib.hid (l1in_at (y : Int) 3 (by omega))
  obtain ⟨v, hv⟩ : ∃ v, v = l.getD y 0 := ⟨_, rfl⟩
  rw [← hv]
  have HV := Lib.hid hv; clear hv
  clear htc hlc ht hl hpt hpl
  go_enter Try.func48, Try.ntmps48
  go_wp2_with fail
  refine (NK.out _ (I1.out _ BW.out) (I2.out _ BW.out)).mono ?_
  rintro e w1 ⟨rfl, hb1⟩
  have B1 := Lib.hid (below_up BW.out hb1 BW.out.size)
  have K1 := Lib.hid (cell_kept HK.out hb1)
  clear hb1
  go_wp2_with fail
  refine (X1.out _).mono ?_
  rintro e wx ⟨rfl, hw⟩
  subst hw
  go_wp2_with fail
  refine (Y1.out _).mono ?_
  rintro e wx ⟨rfl, hw⟩
  subst hw
  obtain ⟨c0, c1, c2, c3, c4⟩ := cells5 K1.out
  go_wp2_with fail
  refine (BD.out _ (I1.out _ B1.out) (I2.out _ B1.out)).mono ?_
  rintro e w2 ⟨AR, cR, rfl, hoR, hb2⟩
  have B2 := Lib.hid (below_up B1.out hb2 B1.out.size)
  have R2 := Lib.hid (hoR.ints (by rw [HBL.out]; decide))
  clear c0 c1 c2 c3 c4
  obtain ⟨c0, c1, c2, c3, c4⟩ := cells5 (cell_kept K1.out hb2)
  clear hb2 hoR
  have cy := LC.out _ B2.out y (by rw [HLL.out]; omega)
  rw [← HV.out] at cy
  go_wp2
  go_ret
  exact ⟨rfl, B2.out⟩

set_option maxRecDepth 100000 in
set_option maxHeartbeats 4000000 in
theorem spec_predat_4_o (mode : Int) (hmd : mode ≠ 0 ∧ mode ≠ 1 ∧ mode ≠ 2 ∧ mode ≠ 3 ∧ mode ≠ 4 ∧ mode ≠ 5) (tb toff : Nat) (cA : Nat) (lb loff : Nat) (cB : Nat) (t l : List Int) (k : Int) (b1 b2 : Bool) (x y : Nat) (hx : x < 4) (hy : y < 4) (ht : t.length = 8) (hl : l.length = 4) (hcA : 8 ≤ cA) (w : World) (htb : tb < w.heap.size) (hlb : lb < w.heap.size)
    (htc : ∀ j, j < t.length → w.cell? ⟨tb, toff + j, none⟩ = some (.int .i64 (t.getD j 0))) (hlc : ∀ j, j < l.length → w.cell? ⟨lb, loff + j, none⟩ = some (.int .i64 (l.getD j 0)))
    (hpt : ∀ i, i < 8 → 0 ≤ t.getD i 0 ∧ t.getD i 0 ≤ 255) (hpl : ∀ i, i < 4 → 0 ≤ l.getD i 0 ∧ l.getD i 0 ≤ 255) (hk : 0 ≤ k ∧ k ≤ 255) 
    (NK : Hid (∀ w, Ints w w.heap.size (some ⟨tb, toff, none⟩) t → Ints w w.heap.size (some ⟨lb, loff, none⟩) l → Calls Try.prog 15 #[.agg #[.slice (some ⟨tb, toff, none⟩) 8 cA, .slice (some ⟨lb, loff, none⟩) 4 cB, .int .i64 k, .bool b1, .bool b2], .int .i64 4] w fun e w' => e = .returned (.bool true) ∧ Below w.heap.size w w'))
    (BD : Hid (∀ w, Ints w w.heap.size (some ⟨tb, toff, none⟩) t → Ints w w.heap.size (some ⟨lb, loff, none⟩) l → Calls Try.prog 67 #[.agg #[.slice (some ⟨tb, toff, none⟩) 8 cA, .slice (some ⟨lb, loff, none⟩) 4 cB, .int .i64 k, .bool b1, .bool b2], .int .i64 4] w fun e w' => ∃ A' c, e = .returned (.slice A' 9 c) ∧ OwnI w' w.heap.size A' c (bordF t l k) ∧ Below w.heap.size w w')) :
    Calls Try.prog 48 #[.int .i64 mode, .agg #[.slice (some ⟨tb, toff, none⟩) 8 cA, .slice (some ⟨lb, loff, none⟩) 4 cB, .int .i64 k, .bool b1, .bool b2], .int .i64 4, .int .i64 x, .int .i64 y] w fun e w' => e = .returned (.int .i64 (-1)) ∧ Below w.heap.size w w' := by
  have hcA1 : (4 : Int) ≤ (cA : Int) := by omega
  have HK := Lib.hid (heap_alloc_new w (.cells #[.slice (some ⟨tb, toff, none⟩) 8 cA, .slice (some ⟨lb, loff, none⟩) 4 cB, .int .i64 k, .bool b1, .bool b2] 26))
  have BW := Lib.hid (below_new w (.cells #[.slice (some ⟨tb, toff, none⟩) 8 cA, .slice (some ⟨lb, loff, none⟩) 4 cB, .int .i64 k, .bool b1, .bool b2] 26))
  have HTL := Lib.hid ht; have HLL := Lib.hid hl; have HPT := Lib.hid hpt; have HPL := Lib.hid hpl
  have HPB := Lib.hid (bordF_pix (m := 4) ht hl hpt hpl hk)
  have HBL : Hid ((bordF t l k).length = 9) := Lib.hid (bordF_len (m := 4) ht hl)
  have TC : Hid (∀ wr, Below w.heap.size w wr → ∀ j, j < t.length → wr.cell? ⟨tb, toff + j, none⟩ = some (.int .i64 (t.getD j 0))) := Lib.hid fun wr h j hj => by
    rw [h.cell (p := ⟨tb, toff + j, none⟩) htb]; exact htc j hj
  have LC : Hid (∀ wr, Below w.heap.size w wr → ∀ j, j < l.length → wr.cell? ⟨lb, loff + j, none⟩ = some (.int .i64 (l.getD j 0))) := Lib.hid fun wr h j hj => by
    rw [h.cell (p := ⟨lb, loff + j, none⟩) hlb]; exact hlc j hj
  have I1 : Hid (∀ wr, Below w.heap.size w wr → Ints wr wr.heap.size (some ⟨tb, toff, none⟩) t) := Lib.hid fun wr h => ⟨by omega, .inr ⟨tb, toff, rfl, Nat.lt_of_lt_of_le htb h.size, TC.out wr h⟩⟩
  have I2 : Hid (∀ wr, Below w.heap.size w wr → Ints wr wr.heap.size (some ⟨lb, loff, none⟩) l) := Lib.hid fun wr h => ⟨by omega, .inr ⟨lb, loff, rfl, Nat.lt_of_lt_of_le hlb h.size, LC.out wr h⟩⟩
  have X1 := Lib.hid (l1in_at (x : Int) 3 (by omega))
  have Y1 := Lib.hid (l1in_at (y : Int) 3 (by omega))
  have m0 : (mode == 0) = false := by rw [beq_eq_false_iff_ne]; omega
  have m1 : (mode == 1) = false := by rw [beq_eq_false_iff_ne]; omega
  have m2 : (mode == 2) = false := by rw [beq_eq_false_iff_ne]; omega
  have m3 : (mode == 3) = false := by rw [beq_eq_false_iff_ne]; omega
  have m4 : (mode == 4) = false := by rw [beq_eq_false_iff_ne]; omega
  have m5 : (mode == 5) = false := by rw [beq_eq_false_iff_ne]; omega
  clear htc hlc ht hl hpt hpl
  go_enter Try.func48, Try.ntmps48
  go_wp2_with fail
  refine (NK.out _ (I1.out _ BW.out) (I2.out _ BW.out)).mono ?_
  rintro e w1 ⟨rfl, hb1⟩
  have B1 := Lib.hid (below_up BW.out hb1 BW.out.size)
  have K1 := Lib.hid (cell_kept HK.out hb1)
  clear hb1
  go_wp2_with fail
  refine (X1.out _).mono ?_
  rintro e wx ⟨rfl, hw⟩
  subst hw
  go_wp2_with fail
  refine (Y1.out _).mono ?_
  rintro e wx ⟨rfl, hw⟩
  subst hw
  obtain ⟨c0, c1, c2, c3, c4⟩ := cells5 K1.out
  go_wp2_with fail
  refine (BD.out _ (I1.out _ B1.out) (I2.out _ B1.out)).mono ?_
  rintro e w2 ⟨AR, cR, rfl, hoR, hb2⟩
  have B2 := Lib.hid (below_up B1.out hb2 B1.out.size)
  have R2 := Lib.hid (hoR.ints (by rw [HBL.out]; decide))
  clear c0 c1 c2 c3 c4
  obtain ⟨c0, c1, c2, c3, c4⟩ := cells5 (cell_kept K1.out hb2)
  clear hb2 hoR
  go_wp2
  go_ret
  exact ⟨rfl, B2.out⟩

set_option maxRecDepth 100000 in
set_option maxHeartbeats 4000000 in
theorem spec_predat_8_0 (v0 : Int) (tb toff : Nat) (cA : Nat) (lb loff : Nat) (cB : Nat) (t l : List Int) (k : Int) (b1 b2 : Bool) (x y : Nat) (hx : x < 8) (hy : y < 8) (ht : t.length = 16) (hl : l.length = 8) (hcA : 16 ≤ cA) (w : World) (htb : tb < w.heap.size) (hlb : lb < w.heap.size)
    (htc : ∀ j, j < t.length → w.cell? ⟨tb, toff + j, none⟩ = some (.int .i64 (t.getD j 0))) (hlc : ∀ j, j < l.length → w.cell? ⟨lb, loff + j, none⟩ = some (.int .i64 (l.getD j 0)))
    (hpt : ∀ i, i < 16 → 0 ≤ t.getD i 0 ∧ t.getD i 0 ≤ 255) (hpl : ∀ i, i < 8 → 0 ≤ l.getD i 0 ∧ l.getD i 0 ≤ 255) (hk : 0 ≤ k ∧ k ≤ 255) (MN : Hid (∀ w, Ints w w.heap.size (some ⟨tb, toff, none⟩) t → Ints w w.heap.size (some ⟨lb, loff, none⟩) l → Calls Try.prog 78 #[.agg #[.slice (some ⟨tb, toff, none⟩) 16 cA, .slice (some ⟨lb, loff, none⟩) 8 cB, .int .i64 k, .bool b1, .bool b2], .int .i64 8] w fun e w' => e = .returned (.int .i64 v0) ∧ Below w.heap.size w w')) 
    (NK : Hid (∀ w, Ints w w.heap.size (some ⟨tb, toff, none⟩) t → Ints w w.heap.size (some ⟨lb, loff, none⟩) l → Calls Try.prog 15 #[.agg #[.slice (some ⟨tb, toff, none⟩) 16 cA, .slice (some ⟨lb, loff, none⟩) 8 cB, .int .i64 k, .bool b1, .bool b2], .int .i64 8] w fun e w' => e = .returned (.bool true) ∧ Below w.heap.size w w'))
    (BD : Hid (∀ w, Ints w w.heap.size (some ⟨tb, toff, none⟩) t → Ints w w.heap.size (some ⟨lb, loff, none⟩) l → Calls Try.prog 67 #[.agg #[.slice (some ⟨tb, toff, none⟩) 16 cA, .slice (some ⟨lb, loff, none⟩) 8 cB, .int .i64 k, .bool b1, .bool b2], .int .i64 8] w fun e w' => ∃ A' c, e = .returned (.slice A' 17 c) ∧ OwnI w' w.heap.size A' c (bordF t l k) ∧ Below w.heap.size w w')) :
    Calls Try.prog 48 #[.int .i64 0, .agg #[.slice (some ⟨tb, toff, none⟩) 16 cA, .slice (some ⟨lb, loff, none⟩) 8 cB, .int .i64 k, .bool b1, .bool b2], .int .i64 8, .int .i64 x, .int .i64 y] w fun e w' => e = .returned (.int .i64 (v0)) ∧ Below w.heap.size w w' := by
  have hcA1 : (8 : Int) ≤ (cA : Int) := by omega
  have HK := Lib.hid (heap_alloc_new w (.cells #[.slice (some ⟨tb, toff, none⟩) 16 cA, .slice (some ⟨lb, loff, none⟩) 8 cB, .int .i64 k, .bool b1, .bool b2] 26))
  have BW := Lib.hid (below_new w (.cells #[.slice (some ⟨tb, toff, none⟩) 16 cA, .slice (some ⟨lb, loff, none⟩) 8 cB, .int .i64 k, .bool b1, .bool b2] 26))
  have HTL := Lib.hid ht; have HLL := Lib.hid hl; have HPT := Lib.hid hpt; have HPL := Lib.hid hpl
  have HPB := Lib.hid (bordF_pix (m := 8) ht hl hpt hpl hk)
  have HBL : Hid ((bordF t l k).length = 17) := Lib.hid (bordF_len (m := 8) ht hl)
  have TC : Hid (∀ wr, Below w.heap.size w wr → ∀ j, j < t.length → wr.cell? ⟨tb, toff + j, none⟩ = some (.int .i64 (t.getD j 0))) := Lib.hid fun wr h j hj => by
    rw [h.cell (p := ⟨tb, toff + j, none⟩) htb]; exact htc j hj
  have LC : Hid (∀ wr, Below w.heap.size w wr → ∀ j, j < l.length → wr.cell? ⟨lb, loff + j, none⟩ = some (.int .i64 (l.getD j 0))) := Lib.hid fun wr h j hj => by
    rw [h.cell (p := ⟨lb, loff + j, none⟩) hlb]; exact hlc j hj
  have I1 : Hid (∀ wr, Below w.heap.size w wr → Ints wr wr.heap.size (some ⟨tb, toff, none⟩) t) := Lib.hid fun wr h => ⟨by omega, .inr ⟨tb, toff, rfl, Nat.lt_of_lt_of_le htb h.size, TC.out wr h⟩⟩
  have I2 : Hid (∀ wr, Below w.heap.size w wr → Ints wr wr.heap.size (some ⟨lb, loff, none⟩) l) := Lib.hid fun wr h => ⟨by omega, .inr ⟨lb, loff, rfl, Nat.lt_of_lt_of_le hlb h.size, LC.out wr h⟩⟩
  have X1 := Lib.hid (l1in_at (x : Int) 7 (by omega))
  have Y1 := Lib.hid (l1in_at (y : Int) 7 (by omega))
  clear htc hlc ht hl hpt hpl
  go_enter Try.func48, Try.ntmps48
  go_wp2_with fail
  refine (NK.out _ (I1.out _ BW.out) (I2.out _ BW.out)).mono ?_
  rintro e w1 ⟨rfl, hb1⟩
  have B1 := Lib.hid (below_up BW.out hb1 BW.out.size)
  have K1 := Lib.hid (cell_kept HK.out hb1)
  clear hb1
  go_wp2_with fail
  refine (X1.out _).mono ?_
  rintro e wx ⟨rfl, hw⟩
  subst hw
  go_wp2_with fail
  refine (Y1.out _).mono ?_
  rintro e wx ⟨rfl, hw⟩
  subst hw
  obtain ⟨c0, c1, c2, c3, c4⟩ := cells5 K1.out
  go_wp2_with fail
  refine (BD.out _ (I1.out _ B1.out) (I2.out _ B1.out)).mono ?_
  rintro e w2 ⟨AR, cR, rfl, hoR, hb2⟩
  have B2 := Lib.hid (below_up B1.out hb2 B1.out.size)
  have R2 := Lib.hid (hoR.ints (by rw [HBL.out]; decide))
  clear c0 c1 c2 c3 c4
  obtain ⟨c0, c1, c2, c3, c4⟩ := cells5 (cell_kept K1.out hb2)
  clear hb2 hoR
  go_wp2_with fail
  refine (MN.out _ (I1.out _ B2.out) (I2.out _ B2.out)).mono ?_
  rintro e w3 ⟨rfl, hb3⟩
  have B3 := Lib.hid (below_up B2.out hb3 B2.out.size)
  clear hb3
  go_wp2
  go_ret
  exact ⟨rfl, B3.out⟩

set_option maxRecDepth 100000 in
set_option maxHeartbeats 4000000 in
theorem spec_predat_8_1 (tb toff : Nat) (cA : Nat) (lb loff : Nat) (cB : Nat) (t l : List Int) (k : Int) (b1 b2 : Bool) (x y : Nat) (hx : x < 8) (hy : y < 8) (ht : t.length = 16) (hl : l.length = 8) (hcA : 16 ≤ cA) (w : World) (htb : tb < w.heap.size) (hlb : lb < w.heap.size)
    (htc : ∀ j, j < t.length → w.cell? ⟨tb, toff + j, none⟩ = some (.int .i64 (t.getD j 0))) (hlc : ∀ j, j < l.length → w.cell? ⟨lb, loff + j, none⟩ = some (.int .i64 (l.getD j 0)))
    (hpt : ∀ i, i < 16 → 0 ≤ t.getD i 0 ∧ t.getD i 0 ≤ 255) (hpl : ∀ i, i < 8 → 0 ≤ l.getD i 0 ∧ l.getD i 0 ≤ 255) (hk : 0 ≤ k ∧ k ≤ 255) 
    (NK : Hid (∀ w, Ints w w.heap.size (some ⟨tb, toff, none⟩) t → Ints w w.heap.size (some ⟨lb, loff, none⟩) l → Calls Try.prog 15 #[.agg #[.slice (some ⟨tb, toff, none⟩) 16 cA, .slice (some ⟨lb, loff, none⟩) 8 cB, .int .i64 k, .bool b1, .bool b2], .int .i64 8] w fun e w' => e = .returned (.bool true) ∧ Below w.heap.size w w'))
    (BD : Hid (∀ w, Ints w w.heap.size (some ⟨tb, toff, none⟩) t → Ints w w.heap.size (some ⟨lb, loff, none⟩) l → Calls Try.prog 67 #[.agg #[.slice (some ⟨tb, toff, none⟩) 16 cA, .slice (some ⟨lb, loff, none⟩) 8 cB, .int .i64 k, .bool b1, .bool b2], .int .i64 8] w fun e w' => ∃ A' c, e = .returned (.slice A' 17 c) ∧ OwnI w' w.heap.size A' c (bordF t l k) ∧ Below w.heap.size w w')) :
    Calls Try.prog 48 #[.int .i64 1, .agg #[.slice (some ⟨tb, toff, none⟩) 16 cA, .slice (some ⟨lb, loff, none⟩) 8 cB, .int .i64 k, .bool b1, .bool b2], .int .i64 8, .int .i64 x, .int .i64 y] w fun e w' => e = .returned (.int .i64 (t.getD x 0)) ∧ Below w.heap.size w w' := by
  have hcA1 : (8 : Int) ≤ (cA : Int) := by omega
  have HK := Lib.hid (heap_alloc_new w (.cells #[.slice (some ⟨tb, toff, none⟩) 16 cA, .slice (some ⟨lb, loff, none⟩) 8 cB, .int .i64 k, .bool b1, .bool b2] 26))
  have BW := Lib.hid (below_new w (.cells #[.slice (some ⟨tb, toff, none⟩) 16 cA, .slice (some ⟨lb, loff, none⟩) 8 cB, .int .i64 k, .bool b1, .bool b2] 26))
  have HTL := Lib.hid ht; have HLL := Lib.hid hl; have HPT := Lib.hid hpt; have HPL := Lib.hid hpl
  have HPB := Lib.hid (bordF_pix (m := 8) ht hl hpt hpl hk)
  have HBL : Hid ((bordF t l k).length = 17) := Lib.hid (bordF_len (m := 8) ht hl)
  have TC : Hid (∀ wr, Below w.heap.size w wr → ∀ j, j < t.length → wr.cell? ⟨tb, toff + j, none⟩ = some (.int .i64 (t.getD j 0))) := Lib.hid fun wr h j hj => by
    rw [h.cell (p := ⟨tb, toff + j, none⟩) htb]; exact htc j hj
  have LC : Hid (∀ wr, Below w.heap.size w wr → ∀ j, j < l.length → wr.cell? ⟨lb, loff + j, none⟩ = some (.int .i64 (l.getD j 0))) := Lib.hid fun wr h j hj => by
    rw [h.cell (p := ⟨lb, loff + j, none⟩) hlb]; exact hlc j hj
  have I1 : Hid (∀ wr, Below w.heap.size w wr → Ints wr wr.heap.size (some ⟨tb, toff, none⟩) t) := Lib.hid fun wr h => ⟨by omega, .inr ⟨tb, toff, rfl, Nat.lt_of_lt_of_le htb h.size, TC.out wr h⟩⟩
  have I2 : Hid (∀ wr, Below w.heap.size w wr → Ints wr wr.heap.size (some ⟨lb, loff, none⟩) l) := Lib.hid fun wr h => ⟨by omega, .inr ⟨lb, loff, rfl, Nat.lt_of_lt_of_le hlb h.size, LC.out wr h⟩⟩
  have X1 := Lib.hid (l1in_at (x : Int) 7 (by omega))
  have Y1 := Lib.hid (l1in_at (y : Int) 7 (by omega))
  obtain ⟨u, hu⟩ : ∃ u, u = t.getD x 0 := ⟨_, rfl⟩
  rw [← hu]
  have HU := Lib.hid hu; clear hu
  clear htc hlc ht hl hpt hpl
  go_enter Try.func48, Try.ntmps48
  go_wp2_with fail
  refine (NK.out _ (I1.out _ BW.out) (I2.out _ BW.out)).mono ?_
  rintro e w1 ⟨rfl, hb1⟩
  have B1 := Lib.hid (below_up BW.out hb1 BW.out.size)
  have K1 := Lib.hid (cell_kept HK.out hb1)
  clear hb1
  go_wp2_with fail
  refine (X1.out _).mono ?_
  rintro e wx ⟨rfl, hw⟩
  subst hw
  go_wp2_with fail
  refine (Y1.out _).mono ?_
  rintro e wx ⟨rfl, hw⟩
  subst hw
  obtain ⟨c0, c1, c2, c3, c4⟩ := cells5 K1.out
  go_wp2_with fail
  refine (BD.out _ (I1.out _ B1.out) (I2.out _ B1.out)).mono ?_
  rintro e w2 ⟨AR, cR, rfl, hoR, hb2⟩
  have B2 := Lib.hid (below_up B1.out hb2 B1.out.size)
  have R2 := Lib.hid (hoR.ints (by rw [HBL.out]; decide))
  clear c0 c1 c2 c3 c4
  obtain ⟨c0, c1, c2, c3, c4⟩ := cells5 (cell_kept K1.out hb2)
  clear hb2 hoR
  have cx := TC.out _ B2.out x (by rw [HTL.out]; omega)
  rw [← HU.out] at cx
  go_wp2
  go_ret
  exact ⟨rfl, B2.out⟩

set_option maxRecDepth 100000 in
set_option maxHeartbeats 4000000 in
theorem spec_predat_8_2 (tb toff : Nat) (cA : Nat) (lb loff : Nat) (cB : Nat) (t l : List Int) (k : Int) (b1 b2 : Bool) (x y : Nat) (hx : x < 8) (hy : y < 8) (ht : t.length = 16) (hl : l.length = 8) (hcA : 16 ≤ cA) (w : World) (htb : tb < w.heap.size) (hlb : lb < w.heap.size)
    (htc : ∀ j, j < t.length → w.cell? ⟨tb, toff + j, none⟩ = some (.int .i64 (t.getD j 0))) (hlc : ∀ j, j < l.length → w.cell? ⟨lb, loff + j, none⟩ = some (.int .i64 (l.getD j 0)))
    (hpt : ∀ i, i < 16 → 0 ≤ t.getD i 0 ∧ t.getD i 0 ≤ 255) (hpl : ∀ i, i < 8 → 0 ≤ l.getD i 0 ∧ l.getD i 0 ≤ 255) (hk : 0 ≤ k ∧ k ≤ 255) 
    (NK : Hid (∀ w, Ints w w.heap.size (some ⟨tb, toff, none⟩) t → Ints w w.heap.size (some ⟨lb, loff, none⟩) l → Calls Try.prog 15 #[.agg #[.slice (some ⟨tb, toff, none⟩) 16 cA, .slice (some ⟨lb, loff, none⟩) 8 cB, .int .i64 k, .bool b1, .bool b2], .int .i64 8] w fun e w' => e = .returned (.bool true) ∧ Below w.heap.size w w'))
    (BD : Hid (∀ w, Ints w w.heap.size (some ⟨tb, toff, none⟩) t → Ints w w.heap.size (some ⟨lb, loff, none⟩) l → Calls Try.prog 67 #[.agg #[.slice (some ⟨tb, toff, none⟩) 16 cA, .slice (some ⟨lb, loff, none⟩) 8 cB, .int .i64 k, .bool b1, .bool b2], .int .i64 8] w fun e w' => ∃ A' c, e = .returned (.slice A' 17 c) ∧ OwnI w' w.heap.size A' c (bordF t l k) ∧ Below w.heap.size w w')) :
    Calls Try.prog 48 #[.int .i64 2, .agg #[.slice (some ⟨tb, toff, none⟩) 16 cA, .slice (some ⟨lb, loff, none⟩) 8 cB, .int .i64 k, .bool b1, .bool b2], .int .i64 8, .int .i64 x, .int .i64 y] w fun e w' => e = .returned (.int .i64 (l.getD y 0)) ∧ Below w.heap.size w w' := by
  have hcA1 : (8 : Int) ≤ (cA : Int) := by omega
  have HK := Lib.hid (heap_alloc_new w (.cells #[.slice (some ⟨tb, toff, none⟩) 16 cA, .slice (some ⟨lb, loff, none⟩) 8 cB, .int .i64 k, .bool b1, .bool b2] 26))
  have BW := Lib.hid (below_new w (.cells #[.slice (some ⟨tb, toff, none⟩) 16 cA, .slice (some ⟨lb, loff, none⟩) 8 cB, .int .i64 k, .bool b1, .bool b2] 26))
  have HTL := Lib.hid ht; have HLL := Lib.hid hl; have HPT := Lib.hid hpt; have HPL := Lib.hid hpl
  have HPB := Lib.hid (bordF_pix (m := 8) ht hl hpt hpl hk)
  have HBL : Hid ((bordF t l k).length = 17) := Lib.hid (bordF_len (m := 8) ht hl)
  have TC : Hid (∀ wr, Below w.heap.size w wr → ∀ j, j < t.length → wr.cell? ⟨tb, toff + j, none⟩ = some (.int .i64 (t.getD j 0))) := Lib.hid fun wr h j hj => by
    rw [h.cell (p := ⟨tb, toff + j, none⟩) htb]; exact htc j hj
  have LC : Hid (∀ wr, Below w.heap.size w wr → ∀ j, j < l.length → wr.cell? ⟨lb, loff + j, none⟩ = some (.int .i64 (l.getD j 0))) := Lib.hid fun wr h j hj => by
    rw [h.cell (p := ⟨lb, loff + j, none⟩) hlb]; exact hlc j hj
  have I1 : Hid (∀ wr, Below w.heap.size w wr → Ints wr wr.heap.size (some ⟨tb, toff, none⟩) t) := Lib.hid fun wr h => ⟨by omega, .inr ⟨tb, toff, rfl, Nat.lt_of_lt_of_le htb h.size, TC.out wr h⟩⟩
  have I2 : Hid (∀ wr, Below w.heap.size w wr → Ints wr wr.heap.size (some ⟨lb, loff, none⟩) l) := Lib.hid fun wr h => ⟨by omega, .inr ⟨lb, loff, rfl, Nat.lt_of_lt_of_le hlb h.size, LC.out wr h⟩⟩
  have X1 := Lib.hid (l1in_at (x : Int) 7 (by omega))
  have Y1 := Lib.hid (l1in_at (y : Int) 7 (by omega))
  obtain ⟨v, hv⟩ : ∃ v, v = l.getD y 0 := ⟨_, rfl⟩
  rw [← hv]
  have HV := Lib.hid hv; clear hv
  clear htc hlc ht hl hpt hpl
  go_enter Try.func48, Try.ntmps48
  go_wp2_with fail
  refine (NK.out _ (I1.out _ BW.out) (I2.out _ BW.out)).mono ?_
  rintro e w1 ⟨rfl, hb1⟩
  have B1 := Lib.hid (below_up BW.out hb1 BW.out.size)
  have K1 := Lib.hid (cell_kept HK.out hb1)
  clear hb1
  go_wp2_with fail
  refine (X1.out _).mono ?_
  rintro e wx ⟨rfl, hw⟩
  subst hw
  go_wp2_with fail
  refine (Y1.out _).mono ?_
  rintro e wx ⟨rfl, hw⟩
  subst hw
  obtain ⟨c0, c1, c2, c3, c4⟩ := cells5 K1.out
  go_wp2_with fail
  refine (BD.out _ (I1.out _ B1.out) (I2.out _ B1.out)).mono ?_
  rintro e w2 ⟨AR, cR, rfl, hoR, hb2⟩
  have B2 := Lib.hid (below_up B1.out hb2 B1.out.size)
  have R2 := Lib.hid (hoR.ints (by rw [HBL.out]; decide))
  clear c0 c1 c2 c3 c4
  obtain ⟨c0, c1, c2, c3, c4⟩ := cells5 (cell_kept K1.out hb2)
  clear hb2 hoR
  have cy := LC.out _ B2.out y (by rw [HLL.out]; omega)
  rw [← HV.out] at cy
  go_wp2
  go_ret
  exact ⟨rfl, B2.out⟩

set_option maxRecDepth 100000 in
set_option maxHeartbeats 4000000 in
theorem spec_predat_8_o (mode : Int) (hmd : mode ≠ 0 ∧ mode ≠ 1 ∧ mode ≠ 2 ∧ mode ≠ 3 ∧ mode ≠ 4 ∧ mode ≠ 5) (tb toff : Nat) (cA : Nat) (lb loff : Nat) (cB : Nat) (t l : List Int) (k : Int) (b1 b2 : Bool) (x y : Nat) (hx : x < 8) (hy : y < 8) (ht : t.length = 16) (hl : l.length = 8) (hcA : 16 ≤ cA) (w : World) (htb : tb < w.heap.size) (hlb : lb < w.heap.size)
    (htc : ∀ j, j < t.length → w.cell? ⟨tb, toff + j, none⟩ = some (.int .i64 (t.getD j 0))) (hlc : ∀ j, j < l.length → w.cell? ⟨lb, loff + j, none⟩ = some (.int .i64 (l.getD j 0)))
    (hpt : ∀ i, i < 16 → 0 ≤ t.getD i 0 ∧ t.getD i 0 ≤ 255) (hpl : ∀ i, i < 8 → 0 ≤ l.getD i 0 ∧ l.getD i 0 ≤ 255) (hk : 0 ≤ k ∧ k ≤ 255) 
    (NK : Hid (∀ w, Ints w w.heap.size (some ⟨tb, toff, none⟩) t → Ints w w.heap.size (some ⟨lb, loff, none⟩) l → Calls Try.prog 15 #[.agg #[.slice (some ⟨tb, toff, none⟩) 16 cA, .slice (some ⟨lb, loff, none⟩) 8 cB, .int .i64 k, .bool b1, .bool b2], .int .i64 8] w fun e w' => e = .returned (.bool true) ∧ Below w.heap.size w w'))
    (BD : Hid (∀ w, Ints w w.heap.size (some ⟨tb, toff, none⟩) t → Ints w w.heap.size (some ⟨lb, loff, none⟩) l → Calls Try.prog 67 #[.agg #[.slice (some ⟨tb, toff, none⟩) 16 cA, .slice (some ⟨lb, loff, none⟩) 8 cB, .int .i64 k, .bool b1, .bool b2], .int .i64 8] w fun e w' => ∃ A' c, e = .returned (.slice A' 17 c) ∧ OwnI w' w.heap.size A' c (bordF t l k) ∧ Below w.heap.size w w')) :
    Calls Try.prog 48 #[.int .i64 mode, .agg #[.slice (some ⟨tb, toff, none⟩) 16 cA, .slice (some ⟨lb, loff, none⟩) 8 cB, .int .i64 k, .bool b1, .bool b2], .int .i64 8, .int .i64 x, .int .i64 y] w fun e w' => e = .returned (.int .i64 (-1)) ∧ Below w.heap.size w w' := by
  have hcA1 : (8 : Int) ≤ (cA : Int) := by omega
  have HK := Lib.hid (heap_alloc_new w (.cells #[.slice (some ⟨tb, toff, none⟩) 16 cA, .slice (some ⟨lb, loff, none⟩) 8 cB, .int .i64 k, .bool b1, .bool b2] 26))
  have BW := Lib.hid (below_new w (.cells #[.slice (some ⟨tb, toff, none⟩) 16 cA, .slice (some ⟨lb, loff, none⟩) 8 cB, .int .i64 k, .bool b1, .bool b2] 26))
  have HTL := Lib.hid ht; have HLL := Lib.hid hl; have HPT := Lib.hid hpt; have HPL := Lib.hid hpl
  have HPB := Lib.hid (bordF_pix (m := 8) ht hl hpt hpl hk)
  have HBL : Hid ((bordF t l k).length = 17) := Lib.hid (bordF_len (m := 8) ht hl)
  have TC : Hid (∀ wr, Below w.heap.size w wr → ∀ j, j < t.length → wr.cell? ⟨tb, toff + j, none⟩ = some (.int .i64 (t.getD j 0))) := Lib.hid fun wr h j hj => by
    rw [h.cell (p := ⟨tb, toff + j, none⟩) htb]; exact htc j hj
  have LC : Hid (∀ wr, Below w.heap.size w wr → ∀ j, j < l.length → wr.cell? ⟨lb, loff + j, none⟩ = some (.int .i64 (l.getD j 0))) := Lib.hid fun wr h j hj => by
    rw [h.cell (p := ⟨lb, loff + j, none⟩) hlb]; exact hlc j hj
  have I1 : Hid (∀ wr, Below w.heap.size w wr → Ints wr wr.heap.size (some ⟨tb, toff, none⟩) t) := Lib.hid fun wr h => ⟨by omega, .inr ⟨tb, toff, rfl, Nat.lt_of_lt_of_le htb h.size, TC.out wr h⟩⟩
  have I2 : Hid (∀ wr, Below w.heap.size w wr → Ints wr wr.heap.size (some ⟨lb, loff, none⟩) l) := Lib.hid fun wr h => ⟨by omega, .inr ⟨lb, loff, rfl, Nat.lt_of_lt_of_le hlb h.size, LC.out wr h⟩⟩
  have X1 := Lib.hid (l1in_at (x : Int) 7 (by omega))
  have Y1 := Lib.hid (l1in_at (y : Int) 7 (by omega))
  have m0 : (mode == 0) = false := by rw [beq_eq_false_iff_ne]; omega
  have m1 : (mode == 1) = false := by rw [beq_eq_false_iff_ne]; omega
  have m2 : (mode == 2) = false := by rw [beq_eq_false_iff_ne]; omega
  have m3 : (mode == 3) = false := by rw [beq_eq_false_iff_ne]; omega
  have m4 : (mode == 4) = false := by rw [beq_eq_false_iff_ne]; omega
  have m5 : (mode == 5) = false := by rw [beq_eq_false_iff_ne]; omega
  clear htc hlc ht hl hpt hpl
  go_enter Try.func48, Try.ntmps48
  go_wp2_with fail
  refine (NK.out _ (I1.out _ BW.out) (I2.out _ BW.out)).mono ?_
  rintro e w1 ⟨rfl, hb1⟩
  have B1 := Lib.hid (below_up BW.out hb1 BW.out.size)
  have K1 := Lib.hid (cell_kept HK.out hb1)
  clear hb1
  go_wp2_with fail
  refine (X1.out _).mono ?_
  rintro e wx ⟨rfl, hw⟩
  subst hw
  go_wp2_with fail
  refine (Y1.out _).mono ?_
  rintro e wx ⟨rfl, hw⟩
  subst hw
  obtain ⟨c0, c1, c2, c3, c4⟩ := cells5 K1.out
  go_wp2_with fail
  refine (BD.out _ (I1.out _ B1.out) (I2.out _ B1.out)).mono ?_
  rintro e w2 ⟨AR, cR, rfl, hoR, hb2⟩
  have B2 := Lib.hid (below_up B1.out hb2 B1.out.size)
  have R2 := Lib.hid (hoR.ints (by rw [HBL.out]; decide))
  clear c0 c1 c2 c3 c4
  obtain ⟨c0, c1, c2, c3, c4⟩ := cells5 (cell_kept K1.out hb2)
  clear hb2 hoR
  go_wp2
  go_ret
  exact ⟨rfl, B2.out⟩
end Go.Proofs.Ytjgbenhjafgimaa
