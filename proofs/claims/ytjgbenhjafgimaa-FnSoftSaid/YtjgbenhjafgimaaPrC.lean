/-
  The contract of the model's PredAt. Condition: a slice is no longer than it holds.
-/
import Derived.Test.YtjgbenhjafgimaaPrA
namespace Go.Proofs.Ytjgbenhjafgimaa
open Go.RowKit
set_option linter.unusedVariables false

set_option maxRecDepth 100000 in
set_option maxHeartbeats 4000000 in
theorem spec_predat_4_3 (tb toff : Nat) (cA : Nat) (lb loff : Nat) (cB : Nat) (t l : List Int) (k : Int) (b1 b2 : Bool) (x y : Nat) (hx : x < 4) (hy : y < 4) (ht : t.length = 8) (hl : l.length = 4) (hcA : 8 ≤ cA) (w : World) (htb : tb < w.heap.size) (hlb : lb < w.heap.size)
    (htc : ∀ j, j < t.length → w.cell? ⟨tb, toff + j, none⟩ = some (.int .i64 (t.getD j 0))) (hlc : ∀ j, j < l.length → w.cell? ⟨lb, loff + j, none⟩ = some (.int .i64 (l.getD j 0)))
    (hpt : ∀ i, i < 8 → 0 ≤ t.getD i 0 ∧ t.getD i 0 ≤ 255) (hpl : ∀ i, i < 4 → 0 ≤ l.getD i 0 ∧ l.getD i 0 ≤ 255) (hk : 0 ≤ k ∧ k ≤ 255) 
    (NK : Hid (∀ w, Ints w w.heap.size (some ⟨tb, toff, none⟩) t → Ints w w.heap.size (some ⟨lb, loff, none⟩) l → Calls Try.prog 15 #[.agg #[.slice (some ⟨tb, toff, none⟩) 8 cA, .slice (some ⟨lb, loff, none⟩) 4 cB, .int .i64 k, .bool b1, .bool b2], .int .i64 4] w fun e w' => e = .returned (.bool true) ∧ Below w.heap.size w w'))
    (BD : Hid (∀ w, Ints w w.heap.size (some ⟨tb, toff, none⟩) t → Ints w w.heap.size (some ⟨lb, loff, none⟩) l → Calls Try.prog 67 #[.agg #[.slice (some ⟨tb, toff, none⟩) 8 cA, .slice (some ⟨lb, loff, none⟩) 4 cB, .int .i64 k, .bool b1, .bool b2], .int .i64 4] w fun e w' => ∃ A' c, e = .returned (.slice A' 9 c) ∧ OwnI w' w.heap.size A' c (bordF t l k) ∧ Below w.heap.size w w')) :
    Calls Try.prog 48 #[.int .i64 3, .agg #[.slice (some ⟨tb, toff, none⟩) 8 cA, .slice (some ⟨lb, loff, none⟩) 4 cB, .int .i64 k, .bool b1, .bool b2], .int .i64 4, .int .i64 x, .int .i64 y] w fun e w' => e = .returned (.int .i64 (clipV (l.getD y 0 + t.getD x 0 - k))) ∧ Below w.heap.size w w' := by
  have hcA1 : (4 : Int) ≤ (cA : Int) := by omega
  have HK := Lib.hid (heap_alloc_new w (.cells #[.slice (some ⟨tb, toff, none⟩) 8 cA, .slice (some ⟨lb, loff, none⟩) 4 cB, .int .i64 k, .bool b1, .bool b2] 26))
  have BW := Lib.hid (below_new w (.cells #[.slice (some ⟨tb, toff, none⟩) 8 cA, .slice (some ⟨lb, loff, none⟩) 4 cB, .int .i64 k, .bool b1, .bool b2] 26))
  have HTL := Lib.hid ht; have HLL := Lib.hid hl; have HPT := Lib.hid hpt; have HPL := Lib.hid hpl
  have HPB := Lib.hid (bordF_pix (m := 4) ht hl hpt hpl hk)
  have HBL : Hid ((bordF t l k).length = 9) := Lib.hid (bordF_len (m := 4) ht hl)
  have TC : Hid (∀ wr, Below w.heap.size w wr → ∀ j, j < t.length → wr.cell? ⟨tb, toff + j, none⟩ = some (.int .i64 (t.getD j 0))) := Lib.hid fun wr h j hj => by
    rw [h.cell (p := ⟨tb, toff + j, none⟩) htb]; exact htc j hj
  have LC : Hid (∀ wr, Below w.heap.size w wr → ∀ j, j < l.length → wr.cell? ⟨lb, loff + j, none⟩ = some (.int .i64 (l.getD j 0))) := Lib.hid fun wr h j hj => by
    rw [h.cell (p := ⟨lb, loff + j, none⟩) hlb]; exact hlc j hj
  have I1 : Hid (∀ wr, Below w.heap.size w wr → Ints wr wr.heap.size (some ⟨tb, toff, none⟩) t) := Lib.hid fun wr h => ⟨by omega, .inr ⟨tb, toff, rfl, Nat.lt_of_lt_of_le htb h.size, TC.out wr h⟩⟩
  have I2 : Hid (∀ wr, Below w.heap.size w wr → Ints wr wr.heap.size (some ⟨lb, loff, none⟩) l) := Lib.hid fun wr h => ⟨by omega, .inr ⟨lb, loff, rfl, Nat.lt_of_lt_of_le hlb h.size, LC.out wr h⟩⟩
  have X1 := Lib.hid (l1in_at (x : Int) 3 (by omega))
  have Y1 := Lib.hid (l1in_at (y : Int) 3 (by omega))
  have px := HPT.out x (by omega)
  have py := HPL.out y (by omega)
  obtain ⟨u, hu⟩ : ∃ u, u = t.getD x 0 := ⟨_, rfl⟩
  obtain ⟨v, hv⟩ : ∃ v, v = l.getD y 0 := ⟨_, rfl⟩
  rw [← hu] at px ⊢
  rw [← hv] at py ⊢
  have CL := Lib.hid (l15clip_any (v + u - k))
  have HU := Lib.hid hu; have HV := Lib.hid hv
  obtain ⟨z, hz⟩ : ∃ z, z = clipV (v + u - k) := ⟨_, rfl⟩
  rw [← hz] at CL ⊢
  have xi1 : (x : Int) < 8 := by omega
  have yi1 : (y : Int) < 4 := by omega
  clear hu hv hz
  clear htc hlc ht hl hpt hpl
  go_enter Try.func48, Try.ntmps48
  go_wp2_with fail
  refine (NK.out _ (I1.out _ BW.out) (I2.out _ BW.out)).mono ?_
  rintro e w1 ⟨rfl, hb1⟩
  have B1 := Lib.hid (below_up BW.out hb1 BW.out.size)
  have K1 := Lib.hid (cell_kept HK.out hb1)
  clear hb1
  go_wp2_with fail
  refine (X1.out _).mono ?_
  rintro e wx ⟨rfl, hw⟩
  subst hw
  go_wp2_with fail
  refine (Y1.out _).mono ?_
  rintro e wx ⟨rfl, hw⟩
  subst hw
  obtain ⟨c0, c1, c2, c3, c4⟩ := cells5 K1.out
  go_wp2_with fail
  refine (BD.out _ (I1.out _ B1.out) (I2.out _ B1.out)).mono ?_
  rintro e w2 ⟨AR, cR, rfl, hoR, hb2⟩
  have B2 := Lib.hid (below_up B1.out hb2 B1.out.size)
  have R2 := Lib.hid (hoR.ints (by rw [HBL.out]; decide))
  clear c0 c1 c2 c3 c4
  obtain ⟨c0, c1, c2, c3, c4⟩ := cells5 (cell_kept K1.out hb2)
  clear hb2 hoR
  have cx := TC.out _ B2.out x (by rw [HTL.out]; omega)
  have cy := LC.out _ B2.out y (by rw [HLL.out]; omega)
  rw [← HU.out] at cx
  rw [← HV.out] at cy
  go_wp2_with fail
  go_quiet (first
    | (go_at_call 79; with_reducible exact Calls.quiet_of_same (CL.out _)))
  go_wp2
  go_ret
  exact ⟨rfl, below_drews B2.out _⟩

set_option maxRecDepth 100000 in
set_option maxHeartbeats 4000000 in
theorem spec_predat_4_4 (tb toff : Nat) (cA : Nat) (lb loff : Nat) (cB : Nat) (t l : List Int) (k : Int) (b1 b2 : Bool) (x y : Nat) (hx : x < 4) (hy : y < 4) (ht : t.length = 8) (hl : l.length = 4) (hcA : 8 ≤ cA) (w : World) (htb : tb < w.heap.size) (hlb : lb < w.heap.size)
    (htc : ∀ j, j < t.length → w.cell? ⟨tb, toff + j, none⟩ = some (.int .i64 (t.getD j 0))) (hlc : ∀ j, j < l.length → w.cell? ⟨lb, loff + j, none⟩ = some (.int .i64 (l.getD j 0)))
    (hpt : ∀ i, i < 8 → 0 ≤ t.getD i 0 ∧ t.getD i 0 ≤ 255) (hpl : ∀ i, i < 4 → 0 ≤ l.getD i 0 ∧ l.getD i 0 ≤ 255) (hk : 0 ≤ k ∧ k ≤ 255) 
    (NK : Hid (∀ w, Ints w w.heap.size (some ⟨tb, toff, none⟩) t → Ints w w.heap.size (some ⟨lb, loff, none⟩) l → Calls Try.prog 15 #[.agg #[.slice (some ⟨tb, toff, none⟩) 8 cA, .slice (some ⟨lb, loff, none⟩) 4 cB, .int .i64 k, .bool b1, .bool b2], .int .i64 4] w fun e w' => e = .returned (.bool true) ∧ Below w.heap.size w w'))
    (BD : Hid (∀ w, Ints w w.heap.size (some ⟨tb, toff, none⟩) t → Ints w w.heap.size (some ⟨lb, loff, none⟩) l → Calls Try.prog 67 #[.agg #[.slice (some ⟨tb, toff, none⟩) 8 cA, .slice (some ⟨lb, loff, none⟩) 4 cB, .int .i64 k, .bool b1, .bool b2], .int .i64 4] w fun e w' => ∃ A' c, e = .returned (.slice A' 9 c) ∧ OwnI w' w.heap.size A' c (bordF t l k) ∧ Below w.heap.size w w')) :
    Calls Try.prog 48 #[.int .i64 4, .agg #[.slice (some ⟨tb, toff, none⟩) 8 cA, .slice (some ⟨lb, loff, none⟩) 4 cB, .int .i64 k, .bool b1, .bool b2], .int .i64 4, .int .i64 x, .int .i64 y] w fun e w' => e = .returned (.int .i64 (softV (t.getD (x + y) 0) (t.getD (min 7 (x + y + 1)) 0) (t.getD (min 7 (x + y + 2)) 0))) ∧ Below w.heap.size w w' := by
  have hcA1 : (4 : Int) ≤ (cA : Int) := by omega
  have HK := Lib.hid (heap_alloc_new w (.cells #[.slice (some ⟨tb, toff, none⟩) 8 cA, .slice (some ⟨lb, loff, none⟩) 4 cB, .int .i64 k, .bool b1, .bool b2] 26))
  have BW := Lib.hid (below_new w (.cells #[.slice (some ⟨tb, toff, none⟩) 8 cA, .slice (some ⟨lb, loff, none⟩) 4 cB, .int .i64 k, .bool b1, .bool b2] 26))
  have HTL := Lib.hid ht; have HLL := Lib.hid hl; have HPT := Lib.hid hpt; have HPL := Lib.hid hpl
  have HPB := Lib.hid (bordF_pix (m := 4) ht hl hpt hpl hk)
  have HBL : Hid ((bordF t l k).length = 9) := Lib.hid (bordF_len (m := 4) ht hl)
  have TC : Hid (∀ wr, Below w.heap.size w wr → ∀ j, j < t.length → wr.cell? ⟨tb, toff + j, none⟩ = some (.int .i64 (t.getD j 0))) := Lib.hid fun wr h j hj => by
    rw [h.cell (p := ⟨tb, toff + j, none⟩) htb]; exact htc j hj
  have LC : Hid (∀ wr, Below w.heap.size w wr → ∀ j, j < l.length → wr.cell? ⟨lb, loff + j, none⟩ = some (.int .i64 (l.getD j 0))) := Lib.hid fun wr h j hj => by
    rw [h.cell (p := ⟨lb, loff + j, none⟩) hlb]; exact hlc j hj
  have I1 : Hid (∀ wr, Below w.heap.size w wr → Ints wr wr.heap.size (some ⟨tb, toff, none⟩) t) := Lib.hid fun wr h => ⟨by omega, .inr ⟨tb, toff, rfl, Nat.lt_of_lt_of_le htb h.size, TC.out wr h⟩⟩
  have I2 : Hid (∀ wr, Below w.heap.size w wr → Ints wr wr.heap.size (some ⟨lb, loff, none⟩) l) := Lib.hid fun wr h => ⟨by omega, .inr ⟨lb, loff, rfl, Nat.lt_of_lt_of_le hlb h.size, LC.out wr h⟩⟩
  have X1 := Lib.hid (l1in_at (x : Int) 3 (by omega))
  have Y1 := Lib.hid (l1in_at (y : Int) 3 (by omega))
  obtain ⟨p1, hp1⟩ : ∃ p, p = min 7 (x + y + 1) := ⟨_, rfl⟩
  obtain ⟨p2, hp2⟩ : ∃ p, p = min 7 (x + y + 2) := ⟨_, rfl⟩
  rw [← hp1, ← hp2]
  have hq1 : (if (x : Int) + (y : Int) + 1 < 7 then (x : Int) + (y : Int) + 1 else (7 : Int)) = (p1 : Int) := by split <;> omega
  have hq2 : (if (x : Int) + (y : Int) + 2 < 7 then (x : Int) + (y : Int) + 2 else (7 : Int)) = (p2 : Int) := by split <;> omega
  have hq3 : min (7 : Int) ((x : Int) + (y : Int) + 1) = (p1 : Int) := by omega
  have hq4 : min (7 : Int) ((x : Int) + (y : Int) + 2) = (p2 : Int) := by omega
  have hp1b : p1 < 8 := by omega
  have hp2b : p2 < 8 := by omega
  have xi1 : (x : Int) + (y : Int) < 8 := by omega
  have pi1 : (p1 : Int) < 8 := by omega
  have pi2 : (p2 : Int) < 8 := by omega
  have SF := Lib.hid (l15soft_any _ _ _ (HPT.out (x + y) (by omega)) (HPT.out p1 (by omega)) (HPT.out p2 (by omega)))
  obtain ⟨u, hu⟩ : ∃ u, u = t.getD (x + y) 0 := ⟨_, rfl⟩
  obtain ⟨v, hv⟩ : ∃ v, v = t.getD p1 0 := ⟨_, rfl⟩
  obtain ⟨r, hr⟩ : ∃ v, v = t.getD p2 0 := ⟨_, rfl⟩
  rw [← hu, ← hv, ← hr] at SF ⊢
  obtain ⟨z, hz⟩ : ∃ z, z = softV u v r := ⟨_, rfl⟩
  rw [← hz] at SF ⊢
  have HU := Lib.hid hu; have HV := Lib.hid hv; have HR := Lib.hid hr
  clear hu hv hr hp1 hp2 hz
  clear htc hlc ht hl hpt hpl
  go_enter Try.func48, Try.ntmps48
  go_wp2_with fail
  refine (NK.out _ (I1.out _ BW.out) (I2.out _ BW.out)).mono ?_
  rintro e w1 ⟨rfl, hb1⟩
  have B1 := Lib.hid (below_up BW.out hb1 BW.out.size)
  have K1 := Lib.hid (cell_kept HK.out hb1)
  clear hb1
  go_wp2_with fail
  refine (X1.out _).mono ?_
  rintro e wx ⟨rfl, hw⟩
  subst hw
  go_wp2_with fail
  refine (Y1.out _).mono ?_
  rintro e wx ⟨rfl, hw⟩
  subst hw
  obtain ⟨c0, c1, c2, c3, c4⟩ := cells5 K1.out
  go_wp2_with fail
  refine (BD.out _ (I1.out _ B1.out) (I2.out _ B1.out)).mono ?_
  rintro e w2 ⟨AR, cR, rfl, hoR, hb2⟩
  have B2 := Lib.hid (below_up B1.out hb2 B1.out.size)
  have R2 := Lib.hid (hoR.ints (by rw [HBL.out]; decide))
  clear c0 c1 c2 c3 c4
  obtain ⟨c0, c1, c2, c3, c4⟩ := cells5 (cell_kept K1.out hb2)
  clear hb2 hoR
  have ca := TC.out _ B2.out (x + y) (by rw [HTL.out]; omega)
  have cb := TC.out _ B2.out p1 (by rw [HTL.out]; omega)
  have cc := TC.out _ B2.out p2 (by rw [HTL.out]; omega)
  rw [← HU.out] at ca
  rw [← HV.out] at cb
  rw [← HR.out] at cc
  go_wp2_with fail
  go_quiet (first
    | (go_at_call 64; with_reducible exact Calls.quiet_of_same (SF.out _)))
  go_wp2
  go_ret
  exact ⟨rfl, below_drews B2.out _⟩

set_option maxRecDepth 100000 in
set_option maxHeartbeats 4000000 in
theorem spec_predat_4_5 (tb toff : Nat) (cA : Nat) (lb loff : Nat) (cB : Nat) (t l : List Int) (k : Int) (b1 b2 : Bool) (x y : Nat) (hx : x < 4) (hy : y < 4) (ht : t.length = 8) (hl : l.length = 4) (hcA : 8 ≤ cA) (w : World) (htb : tb < w.heap.size) (hlb : lb < w.heap.size)
    (htc : ∀ j, j < t.length → w.cell? ⟨tb, toff + j, none⟩ = some (.int .i64 (t.getD j 0))) (hlc : ∀ j, j < l.length → w.cell? ⟨lb, loff + j, none⟩ = some (.int .i64 (l.getD j 0)))
    (hpt : ∀ i, i < 8 → 0 ≤ t.getD i 0 ∧ t.getD i 0 ≤ 255) (hpl : ∀ i, i < 4 → 0 ≤ l.getD i 0 ∧ l.getD i 0 ≤ 255) (hk : 0 ≤ k ∧ k ≤ 255) 
    (NK : Hid (∀ w, Ints w w.heap.size (some ⟨tb, toff, none⟩) t → Ints w w.heap.size (some ⟨lb, loff, none⟩) l → Calls Try.prog 15 #[.agg #[.slice (some ⟨tb, toff, none⟩) 8 cA, .slice (some ⟨lb, loff, none⟩) 4 cB, .int .i64 k, .bool b1, .bool b2], .int .i64 4] w fun e w' => e = .returned (.bool true) ∧ Below w.heap.size w w'))
    (BD : Hid (∀ w, Ints w w.heap.size (some ⟨tb, toff, none⟩) t → Ints w w.heap.size (some ⟨lb, loff, none⟩) l → Calls Try.prog 67 #[.agg #[.slice (some ⟨tb, toff, none⟩) 8 cA, .slice (some ⟨lb, loff, none⟩) 4 cB, .int .i64 k, .bool b1, .bool b2], .int .i64 4] w fun e w' => ∃ A' c, e = .returned (.slice A' 9 c) ∧ OwnI w' w.heap.size A' c (bordF t l k) ∧ Below w.heap.size w w')) :
    Calls Try.prog 48 #[.int .i64 5, .agg #[.slice (some ⟨tb, toff, none⟩) 8 cA, .slice (some ⟨lb, loff, none⟩) 4 cB, .int .i64 k, .bool b1, .bool b2], .int .i64 4, .int .i64 x, .int .i64 y] w fun e w' => e = .returned (.int .i64 (softV ((bordF t l k).getD (x + 4 - y - 1) 0) ((bordF t l k).getD (x + 4 - y) 0) ((bordF t l k).getD (x + 4 - y + 1) 0))) ∧ Below w.heap.size w w' := by
  have hcA1 : (4 : Int) ≤ (cA : Int) := by omega
  have HK := Lib.hid (heap_alloc_new w (.cells #[.slice (some ⟨tb, toff, none⟩) 8 cA, .slice (some ⟨lb, loff, none⟩) 4 cB, .int .i64 k, .bool b1, .bool b2] 26))
  have BW := Lib.hid (below_new w (.cells #[.slice (some ⟨tb, toff, none⟩) 8 cA, .slice (some ⟨lb, loff, none⟩) 4 cB, .int .i64 k, .bool b1, .bool b2] 26))
  have HTL := Lib.hid ht; have HLL := Lib.hid hl; have HPT := Lib.hid hpt; have HPL := Lib.hid hpl
  have HPB := Lib.hid (bordF_pix (m := 4) ht hl hpt hpl hk)
  have HBL : Hid ((bordF t l k).length = 9) := Lib.hid (bordF_len (m := 4) ht hl)
  have TC : Hid (∀ wr, Below w.heap.size w wr → ∀ j, j < t.length → wr.cell? ⟨tb, toff + j, none⟩ = some (.int .i64 (t.getD j 0))) := Lib.hid fun wr h j hj => by
    rw [h.cell (p := ⟨tb, toff + j, none⟩) htb]; exact htc j hj
  have LC : Hid (∀ wr, Below w.heap.size w wr → ∀ j, j < l.length → wr.cell? ⟨lb, loff + j, none⟩ = some (.int .i64 (l.getD j 0))) := Lib.hid fun wr h j hj => by
    rw [h.cell (p := ⟨lb, loff + j, none⟩) hlb]; exact hlc j hj
  have I1 : Hid (∀ wr, Below w.heap.size w wr → Ints wr wr.heap.size (some ⟨tb, toff, none⟩) t) := Lib.hid fun wr h => ⟨by omega, .inr ⟨tb, toff, rfl, Nat.lt_of_lt_of_le htb h.size, TC.out wr h⟩⟩
  have I2 : Hid (∀ wr, Below w.heap.size w wr → Ints wr wr.heap.size (some ⟨lb, loff, none⟩) l) := Lib.hid fun wr h => ⟨by omega, .inr ⟨lb, loff, rfl, Nat.lt_of_lt_of_le hlb h.size, LC.out wr h⟩⟩
  have X1 := Lib.hid (l1in_at (x : Int) 3 (by omega))
  have Y1 := Lib.hid (l1in_at (y : Int) 3 (by omega))
  obtain ⟨q, hq⟩ : ∃ q, q = x + 4 - y - 1 := ⟨_, rfl⟩
  have hqa : x + 4 - y = q + 1 := by omega
  rw [hqa, ← show q = q + 1 - 1 by omega]
  have hqi : (x : Int) - (y : Int) + 4 = (q : Int) + 1 := by omega
  have hqb : q + 2 < 9 := by omega
  have SF := Lib.hid (l15soft_any _ _ _ (HPB.out q (by omega)) (HPB.out (q + 1) (by omega)) (HPB.out (q + 1 + 1) (by omega)))
  obtain ⟨u, hu⟩ : ∃ u, u = (bordF t l k).getD q 0 := ⟨_, rfl⟩
  obtain ⟨v, hv⟩ : ∃ v, v = (bordF t l k).getD (q + 1) 0 := ⟨_, rfl⟩
  obtain ⟨r, hr⟩ : ∃ v, v = (bordF t l k).getD (q + 1 + 1) 0 := ⟨_, rfl⟩
  rw [← hu, ← hv, ← hr] at SF ⊢
  obtain ⟨z, hz⟩ : ∃ z, z = softV u v r := ⟨_, rfl⟩
  rw [← hz] at SF ⊢
  have HU := Lib.hid hu; have HV := Lib.hid hv; have HR := Lib.hid hr
  have qi0 : (q : Int) < 9 := by omega
  have qi1 : (q : Int) + 1 < 9 := by omega
  have qi2 : (q : Int) + 1 + 1 < 9 := by omega
  clear hu hv hr hq hqa hz
  clear htc hlc ht hl hpt hpl
  go_enter Try.func48, Try.ntmps48
  go_wp2_with fail
  refine (NK.out _ (I1.out _ BW.out) (I2.out _ BW.out)).mono ?_
  rintro e w1 ⟨rfl, hb1⟩
  have B1 := Lib.hid (below_up BW.out hb1 BW.out.size)
  have K1 := Lib.hid (cell_kept HK.out hb1)
  clear hb1
  go_wp2_with fail
  refine (X1.out _).mono ?_
  rintro e wx ⟨rfl, hw⟩
  subst hw
  go_wp2_with fail
  refine (Y1.out _).mono ?_
  rintro e wx ⟨rfl, hw⟩
  subst hw
  obtain ⟨c0, c1, c2, c3, c4⟩ := cells5 K1.out
  go_wp2_with fail
  refine (BD.out _ (I1.out _ B1.out) (I2.out _ B1.out)).mono ?_
  rintro e w2 ⟨AR, cR, rfl, hoR, hb2⟩
  have B2 := Lib.hid (below_up B1.out hb2 B1.out.size)
  have R2 := Lib.hid (hoR.ints (by rw [HBL.out]; decide))
  clear c0 c1 c2 c3 c4
  obtain ⟨c0, c1, c2, c3, c4⟩ := cells5 (cell_kept K1.out hb2)
  clear hb2 hoR
  obtain ⟨rb, roff, rfl, hrb, hrc⟩ := R2.out.at 0 (by rw [HBL.out]; decide)
  have ca := hrc q (by rw [HBL.out]; omega)
  have cb := hrc (q + 1) (by rw [HBL.out]; omega)
  have cc := hrc (q + 1 + 1) (by rw [HBL.out]; omega)
  rw [← HU.out] at ca
  rw [← HV.out] at cb
  rw [← HR.out] at cc
  clear hrc
  go_wp2_with fail
  go_quiet (first
    | (go_at_call 64; with_reducible exact Calls.quiet_of_same (SF.out _)))
  go_wp2
  go_ret
  exact ⟨rfl, below_drews B2.out _⟩

set_option maxRecDepth 100000 in
set_option maxHeartbeats 4000000 in
theorem spec_predat_8_3 (tb toff : Nat) (cA : Nat) (lb loff : Nat) (cB : Nat) (t l : List Int) (k : Int) (b1 b2 : Bool) (x y : Nat) (hx : x < 8) (hy : y < 8) (ht : t.length = 16) (hl : l.length = 8) (hcA : 16 ≤ cA) (w : World) (htb : tb < w.heap.size) (hlb : lb < w.heap.size)
    (htc : ∀ j, j < t.length → w.cell? ⟨tb, toff + j, none⟩ = some (.int .i64 (t.getD j 0))) (hlc : ∀ j, j < l.length → w.cell? ⟨lb, loff + j, none⟩ = some (.int .i64 (l.getD j 0)))
    (hpt : ∀ i, i < 16 → 0 ≤ t.getD i 0 ∧ t.getD i 0 ≤ 255) (hpl : ∀ i, i < 8 → 0 ≤ l.getD i 0 ∧ l.getD i 0 ≤ 255) (hk : 0 ≤ k ∧ k ≤ 255) 
    (NK : Hid (∀ w, Ints w w.heap.size (some ⟨tb, toff, none⟩) t → Ints w w.heap.size (some ⟨lb, loff, none⟩) l → Calls Try.prog 15 #[.agg #[.slice (some ⟨tb, toff, none⟩) 16 cA, .slice (some ⟨lb, loff, none⟩) 8 cB, .int .i64 k, .bool b1, .bool b2], .int .i64 8] w fun e w' => e = .returned (.bool true) ∧ Below w.heap.size w w'))
    (BD : Hid (∀ w, Ints w w.heap.size (some ⟨tb, toff, none⟩) t → Ints w w.heap.size (some ⟨lb, loff, none⟩) l → Calls Try.prog 67 #[.agg #[.slice (some ⟨tb, toff, none⟩) 16 cA, .slice (some ⟨lb, loff, none⟩) 8 cB, .int .i64 k, .bool b1, .bool b2], .int .i64 8] w fun e w' => ∃ A' c, e = .returned (.slice A' 17 c) ∧ OwnI w' w.heap.size A' c (bordF t l k) ∧ Below w.heap.size w w')) :
    Calls Try.prog 48 #[.int .i64 3, .agg #[.slice (some ⟨tb, toff, none⟩) 16 cA, .slice (some ⟨lb, loff, none⟩) 8 cB, .int .i64 k, .bool b1, .bool b2], .int .i64 8, .int .i64 x, .int .i64 y] w fun e w' => e = .returned (.int .i64 (clipV (l.getD y 0 + t.getD x 0 - k))) ∧ Below w.heap.size w w' := by
  have hcA1 : (8 : Int) ≤ (cA : Int) := by omega
  have HK := Lib.hid (heap_alloc_new w (.cells #[.slice (some ⟨tb, toff, none⟩) 16 cA, .slice (some ⟨lb, loff, none⟩) 8 cB, .int .i64 k, .bool b1, .bool b2] 26))
  have BW := Lib.hid (below_new w (.cells #[.slice (some ⟨tb, toff, none⟩) 16 cA, .slice (some ⟨lb, loff, none⟩) 8 cB, .int .i64 k, .bool b1, .bool b2] 26))
  have HTL := Lib.hid ht; have HLL := Lib.hid hl; have HPT := Lib.hid hpt; have HPL := Lib.hid hpl
  have HPB := Lib.hid (bordF_pix (m := 8) ht hl hpt hpl hk)
  have HBL : Hid ((bordF t l k).length = 17) := Lib.hid (bordF_len (m := 8) ht hl)
  have TC : Hid (∀ wr, Below w.heap.size w wr → ∀ j, j < t.length → wr.cell? ⟨tb, toff + j, none⟩ = some (.int .i64 (t.getD j 0))) := Lib.hid fun wr h j hj => by
    rw [h.cell (p := ⟨tb, toff + j, none⟩) htb]; exact htc j hj
  have LC : Hid (∀ wr, Below w.heap.size w wr → ∀ j, j < l.length → wr.cell? ⟨lb, loff + j, none⟩ = some (.int .i64 (l.getD j 0))) := Lib.hid fun wr h j hj => by
    rw [h.cell (p := ⟨lb, loff + j, none⟩) hlb]; exact hlc j hj
  have I1 : Hid (∀ wr, Below w.heap.size w wr → Ints wr wr.heap.size (some ⟨tb, toff, none⟩) t) := Lib.hid fun wr h => ⟨by omega, .inr ⟨tb, toff, rfl, Nat.lt_of_lt_of_le htb h.size, TC.out wr h⟩⟩
  have I2 : Hid (∀ wr, Below w.heap.size w wr → Ints wr wr.heap.size (some ⟨lb, loff, none⟩) l) := Lib.hid fun wr h => ⟨by omega, .inr ⟨lb, loff, rfl, Nat.lt_of_lt_of_le hlb h.size, LC.out wr h⟩⟩
  have X1 := Lib.hid (l1in_at (x : Int) 7 (by omega))
  have Y1 := Lib.hid (l1in_at (y : Int) 7 (by omega))
  have px := HPT.out x (by omega)
  have py := HPL.out y (by omega)
  obtain ⟨u, hu⟩ : ∃ u, u = t.getD x 0 := ⟨_, rfl⟩
  obtain ⟨v, hv⟩ : ∃ v, v = l.getD y 0 := ⟨_, rfl⟩
  rw [← hu] at px ⊢
  rw [← hv] at py ⊢
  have CL := Lib.hid (l15clip_any (v + u - k))
  have HU := Lib.hid hu; have HV := Lib.hid hv
  obtain ⟨z, hz⟩ : ∃ z, z = clipV (v + u - k) := ⟨_, rfl⟩
  rw [← hz] at CL ⊢
  have xi1 : (x : Int) < 16 := by omega
  have yi1 : (y : Int) < 8 := by omega
  clear hu hv hz
  clear htc hlc ht hl hpt hpl
  go_enter Try.func48, Try.ntmps48
  go_wp2_with fail
  refine (NK.out _ (I1.out _ BW.out) (I2.out _ BW.out)).mono ?_
  rintro e w1 ⟨rfl, hb1⟩
  have B1 := Lib.hid (below_up BW.out hb1 BW.out.size)
  have K1 := Lib.hid (cell_kept HK.out hb1)
  clear hb1
  go_wp2_with fail
  refine (X1.out _).mono ?_
  rintro e wx ⟨rfl, hw⟩
  subst hw
  go_wp2_with fail
  refine (Y1.out _).mono ?_
  rintro e wx ⟨rfl, hw⟩
  subst hw
  obtain ⟨c0, c1, c2, c3, c4⟩ := cells5 K1.out
  go_wp2_with fail
  refine (BD.out _ (I1.out _ B1.out) (I2.out _ B1.out)).mono ?_
  rintro e w2 ⟨AR, cR, rfl, hoR, hb2⟩
  have B2 := Lib.hid (below_up B1.out hb2 B1.out.size)
  have R2 := Lib.hid (hoR.ints (by rw [HBL.out]; decide))
  clear c0 c1 c2 c3 c4
  obtain ⟨c0, c1, c2, c3, c4⟩ := cells5 (cell_kept K1.out hb2)
  clear hb2 hoR
  have cx := TC.out _ B2.out x (by rw [HTL.out]; omega)
  have cy := LC.out _ B2.out y (by rw [HLL.out]; omega)
  rw [← HU.out] at cx
  rw [← HV.out] at cy
  go_wp2_with fail
  go_quiet (first
    | (go_at_call 79; with_reducible exact Calls.quiet_of_same (CL.out _)))
  go_wp2
  go_ret
  exact ⟨rfl, below_drews B2.out _⟩

set_option maxRecDepth 100000 in
set_option maxHeartbeats 4000000 in
theorem spec_predat_8_4 (tb toff : Nat) (cA : Nat) (lb loff : Nat) (cB : Nat) (t l : List Int) (k : Int) (b1 b2 : Bool) (x y : Nat) (hx : x < 8) (hy : y < 8) (ht : t.length = 16) (hl : l.length = 8) (hcA : 16 ≤ cA) (w : World) (htb : tb < w.heap.size) (hlb : lb < w.heap.size)
    (htc : ∀ j, j < t.length → w.cell? ⟨tb, toff + j, none⟩ = some (.int .i64 (t.getD j 0))) (hlc : ∀ j, j < l.length → w.cell? ⟨lb, loff + j, none⟩ = some (.int .i64 (l.getD j 0)))
    (hpt : ∀ i, i < 16 → 0 ≤ t.getD i 0 ∧ t.getD i 0 ≤ 255) (hpl : ∀ i, i < 8 → 0 ≤ l.getD i 0 ∧ l.getD i 0 ≤ 255) (hk : 0 ≤ k ∧ k ≤ 255) 
    (NK : Hid (∀ w, Ints w w.heap.size (some ⟨tb, toff, none⟩) t → Ints w w.heap.size (some ⟨lb, loff, none⟩) l → Calls Try.prog 15 #[.agg #[.slice (some ⟨tb, toff, none⟩) 16 cA, .slice (some ⟨lb, loff, none⟩) 8 cB, .int .i64 k, .bool b1, .bool b2], .int .i64 8] w fun e w' => e = .returned (.bool true) ∧ Below w.heap.size w w'))
    (BD : Hid (∀ w, Ints w w.heap.size (some ⟨tb, toff, none⟩) t → Ints w w.heap.size (some ⟨lb, loff, none⟩) l → Calls Try.prog 67 #[.agg #[.slice (some ⟨tb, toff, none⟩) 16 cA, .slice (some ⟨lb, loff, none⟩) 8 cB, .int .i64 k, .bool b1, .bool b2], .int .i64 8] w fun e w' => ∃ A' c, e = .returned (.slice A' 17 c) ∧ OwnI w' w.heap.size A' c (bordF t l k) ∧ Below w.heap.size w w')) :
    Calls Try.prog 48 #[.int .i64 4, .agg #[.slice (some ⟨tb, toff, none⟩) 16 cA, .slice (some ⟨lb, loff, none⟩) 8 cB, .int .i64 k, .bool b1, .bool b2], .int .i64 8, .int .i64 x, .int .i64 y] w fun e w' => e = .returned (.int .i64 (softV (t.getD (x + y) 0) (t.getD (min 15 (x + y + 1)) 0) (t.getD (min 15 (x + y + 2)) 0))) ∧ Below w.heap.size w w' := by
  have hcA1 : (8 : Int) ≤ (cA : Int) := by omega
  have HK := Lib.hid (heap_alloc_new w (.cells #[.slice (some ⟨tb, toff, none⟩) 16 cA, .slice (some ⟨lb, loff, none⟩) 8 cB, .int .i64 k, .bool b1, .bool b2] 26))
  have BW := Lib.hid (below_new w (.cells #[.slice (some ⟨tb, toff, none⟩) 16 cA, .slice (some ⟨lb, loff, none⟩) 8 cB, .int .i64 k, .bool b1, .bool b2] 26))
  have HTL := Lib.hid ht; have HLL := Lib.hid hl; have HPT := Lib.hid hpt; have HPL := Lib.hid hpl
  have HPB := Lib.hid (bordF_pix (m := 8) ht hl hpt hpl hk)
  have HBL : Hid ((bordF t l k).length = 17) := Lib.hid (bordF_len (m := 8) ht hl)
  have TC : Hid (∀ wr, Below w.heap.size w wr → ∀ j, j < t.length → wr.cell? ⟨tb, toff + j, none⟩ = some (.int .i64 (t.getD j 0))) := Lib.hid fun wr h j hj => by
    rw [h.cell (p := ⟨tb, toff + j, none⟩) htb]; exact htc j hj
  have LC : Hid (∀ wr, Below w.heap.size w wr → ∀ j, j < l.length → wr.cell? ⟨lb, loff + j, none⟩ = some (.int .i64 (l.getD j 0))) := Lib.hid fun wr h j hj => by
    rw [h.cell (p := ⟨lb, loff + j, none⟩) hlb]; exact hlc j hj
  have I1 : Hid (∀ wr, Below w.heap.size w wr → Ints wr wr.heap.size (some ⟨tb, toff, none⟩) t) := Lib.hid fun wr h => ⟨by omega, .inr ⟨tb, toff, rfl, Nat.lt_of_lt_of_le htb h.size, TC.out wr h⟩⟩
  have I2 : Hid (∀ wr, Below w.heap.size w wr → Ints wr wr.heap.size (some ⟨lb, loff, none⟩) l) := Lib.hid fun wr h => ⟨by omega, .inr ⟨lb, loff, rfl, Nat.lt_of_lt_of_le hlb h.size, LC.out wr h⟩⟩
  have X1 := Lib.hid (l1in_at (x : Int) 7 (by omega))
  have Y1 := Lib.hid (l1in_at (y : Int) 7 (by omega))
  obtain ⟨p1, hp1⟩ : ∃ p, p = min 15 (x + y + 1) := ⟨_, rfl⟩
  obtain ⟨p2, hp2⟩ : ∃ p, p = min 15 (x + y + 2) := ⟨_, rfl⟩
  rw [← hp1, ← hp2]
  have hq1 : (if (x : Int) + (y : Int) + 1 < 15 then (x : Int) + (y : Int) + 1 else (15 : Int)) = (p1 : Int) := by split <;> omega
  have hq2 : (if (x : Int) + (y : Int) + 2 < 15 then (x : Int) + (y : Int) + 2 else (15 : Int)) = (p2 : Int) := by split <;> omega
  have hq3 : min (15 : Int) ((x : Int) + (y : Int) + 1) = (p1 : Int) := by omega
  have hq4 : min (15 : Int) ((x : Int) + (y : Int) + 2) = (p2 : Int) := by omega
  have hp1b : p1 < 16 := by omega
  have hp2b : p2 < 16 := by omega
  have xi1 : (x : Int) + (y : Int) < 16 := by omega
  have pi1 : (p1 : Int) < 16 := by omega
  have pi2 : (p2 : Int) < 16 := by omega
  have SF := Lib.hid (l15soft_any _ _ _ (HPT.out (x + y) (by omega)) (HPT.out p1 (by omega)) (HPT.out p2 (by omega)))
  obtain ⟨u, hu⟩ : ∃ u, u = t.getD (x + y) 0 := ⟨_, rfl⟩
  obtain ⟨v, hv⟩ : ∃ v, v = t.getD p1 0 := ⟨_, rfl⟩
  obtain ⟨r, hr⟩ : ∃ v, v = t.getD p2 0 := ⟨_, rfl⟩
  rw [← hu, ← hv, ← hr] at SF ⊢
  obtain ⟨z, hz⟩ : ∃ z, z = softV u v r := ⟨_, rfl⟩
  rw [← hz] at SF ⊢
  have HU := Lib.hid hu; have HV := Lib.hid hv; have HR := Lib.hid hr
  clear hu hv hr hp1 hp2 hz
  clear htc hlc ht hl hpt hpl
  go_enter Try.func48, Try.ntmps48
  go_wp2_with fail
  refine (NK.out _ (I1.out _ BW.out) (I2.out _ BW.out)).mono ?_
  rintro e w1 ⟨rfl, hb1⟩
  have B1 := Lib.hid (below_up BW.out hb1 BW.out.size)
  have K1 := Lib.hid (cell_kept HK.out hb1)
  clear hb1
  go_wp2_with fail
  refine (X1.out _).mono ?_
  rintro e wx ⟨rfl, hw⟩
  subst hw
  go_wp2_with fail
  refine (Y1.out _).mono ?_
  rintro e wx ⟨rfl, hw⟩
  subst hw
  obtain ⟨c0, c1, c2, c3, c4⟩ := cells5 K1.out
  go_wp2_with fail
  refine (BD.out _ (I1.out _ B1.out) (I2.out _ B1.out)).mono ?_
  rintro e w2 ⟨AR, cR, rfl, hoR, hb2⟩
  have B2 := Lib.hid (below_up B1.out hb2 B1.out.size)
  have R2 := Lib.hid (hoR.ints (by rw [HBL.out]; decide))
  clear c0 c1 c2 c3 c4
  obtain ⟨c0, c1, c2, c3, c4⟩ := cells5 (cell_kept K1.out hb2)
  clear hb2 hoR
  have ca := TC.out _ B2.out (x + y) (by rw [HTL.out]; omega)
  have cb := TC.out _ B2.out p1 (by rw [HTL.out]; omega)
  have cc := TC.out _ B2.out p2 (by rw [HTL.out]; omega)
  rw [← HU.out] at ca
  rw [← HV.out] at cb
  rw [← HR.out] at cc
  go_wp2_with fail
  go_quiet (first
    | (go_at_call 64; with_reducible exact Calls.quiet_of_same (SF.out _)))
  go_wp2
  go_ret
  exact ⟨rfl, below_drews B2.out _⟩

set_option maxRecDepth 100000 in
set_option maxHeartbeats 4000000 in
theorem spec_predat_8_5 (tb toff : Nat) (cA : Nat) (lb loff : Nat) (cB : Nat) (t l : List Int) (k : Int) (b1 b2 : Bool) (x y : Nat) (hx : x < 8) (hy : y < 8) (ht : t.length = 16) (hl : l.length = 8) (hcA : 16 ≤ cA) (w : World) (htb : tb < w.heap.size) (hlb : lb < w.heap.size)
    (htc : ∀ j, j < t.length → w.cell? ⟨tb, toff + j, none⟩ = some (.int .i64 (t.getD j 0))) (hlc : ∀ j, j < l.length → w.cell? ⟨lb, loff + j, none⟩ = some (.int .i64 (l.getD j 0)))
    (hpt : ∀ i, i < 16 → 0 ≤ t.getD i 0 ∧ t.getD i 0 ≤ 255) (hpl : ∀ i, i < 8 → 0 ≤ l.getD i 0 ∧ l.getD i 0 ≤ 255) (hk : 0 ≤ k ∧ k ≤ 255) 
    (NK : Hid (∀ w, Ints w w.heap.size (some ⟨tb, toff, none⟩) t → Ints w w.heap.size (some ⟨lb, loff, none⟩) l → Calls Try.prog 15 #[.agg #[.slice (some ⟨tb, toff, none⟩) 16 cA, .slice (some ⟨lb, loff, none⟩) 8 cB, .int .i64 k, .bool b1, .bool b2], .int .i64 8] w fun e w' => e = .returned (.bool true) ∧ Below w.heap.size w w'))
    (BD : Hid (∀ w, Ints w w.heap.size (some ⟨tb, toff, none⟩) t → Ints w w.heap.size (some ⟨lb, loff, none⟩) l → Calls Try.prog 67 #[.agg #[.slice (some ⟨tb, toff, none⟩) 16 cA, .slice (some ⟨lb, loff, none⟩) 8 cB, .int .i64 k, .bool b1, .bool b2], .int .i64 8] w fun e w' => ∃ A' c, e = .returned (.slice A' 17 c) ∧ OwnI w' w.heap.size A' c (bordF t l k) ∧ Below w.heap.size w w')) :
    Calls Try.prog 48 #[.int .i64 5, .agg #[.slice (some ⟨tb, toff, none⟩) 16 cA, .slice (some ⟨lb, loff, none⟩) 8 cB, .int .i64 k, .bool b1, .bool b2], .int .i64 8, .int .i64 x, .int .i64 y] w fun e w' => e = .returned (.int .i64 (softV ((bordF t l k).getD (x + 8 - y - 1) 0) ((bordF t l k).getD (x + 8 - y) 0) ((bordF t l k).getD (x + 8 - y + 1) 0))) ∧ Below w.heap.size w w' := by
  have hcA1 : (8 : Int) ≤ (cA : Int) := by omega
  have HK := Lib.hid (heap_alloc_new w (.cells #[.slice (some ⟨tb, toff, none⟩) 16 cA, .slice (some ⟨lb, loff, none⟩) 8 cB, .int .i64 k, .bool b1, .bool b2] 26))
  have BW := Lib.hid (below_new w (.cells #[.slice (some ⟨tb, toff, none⟩) 16 cA, .slice (some ⟨lb, loff, none⟩) 8 cB, .int .i64 k, .bool b1, .bool b2] 26))
  have HTL := Lib.hid ht; have HLL := Lib.hid hl; have HPT := Lib.hid hpt; have HPL := Lib.hid hpl
  have HPB := Lib.hid (bordF_pix (m := 8) ht hl hpt hpl hk)
  have HBL : Hid ((bordF t l k).length = 17) := Lib.hid (bordF_len (m := 8) ht hl)
  have TC : Hid (∀ wr, Below w.heap.size w wr → ∀ j, j < t.length → wr.cell? ⟨tb, toff + j, none⟩ = some (.int .i64 (t.getD j 0))) := Lib.hid fun wr h j hj => by
    rw [h.cell (p := ⟨tb, toff + j, none⟩) htb]; exact htc j hj
  have LC : Hid (∀ wr, Below w.heap.size w wr → ∀ j, j < l.length → wr.cell? ⟨lb, loff + j, none⟩ = some (.int .i64 (l.getD j 0))) := Lib.hid fun wr h j hj => by
    rw [h.cell (p := ⟨lb, loff + j, none⟩) hlb]; exact hlc j hj
  have I1 : Hid (∀ wr, Below w.heap.size w wr → Ints wr wr.heap.size (some ⟨tb, toff, none⟩) t) := Lib.hid fun wr h => ⟨by omega, .inr ⟨tb, toff, rfl, Nat.lt_of_lt_of_le htb h.size, TC.out wr h⟩⟩
  have I2 : Hid (∀ wr, Below w.heap.size w wr → Ints wr wr.heap.size (some ⟨lb, loff, none⟩) l) := Lib.hid fun wr h => ⟨by omega, .inr ⟨lb, loff, rfl, Nat.lt_of_lt_of_le hlb h.size, LC.out wr h⟩⟩
  have X1 := Lib.hid (l1in_at (x : Int) 7 (by omega))
  have Y1 := Lib.hid (l1in_at (y : Int) 7 (by omega))
  obtain ⟨q, hq⟩ : ∃ q, q = x + 8 - y - 1 := ⟨_, rfl⟩
  have hqa : x + 8 - y = q + 1 := by omega
  rw [hqa, ← show q = q + 1 - 1 by omega]
  have hqi : (x : Int) - (y : Int) + 8 = (q : Int) + 1 := by omega
  have hqb : q + 2 < 17 := by omega
  have SF := Lib.hid (l15soft_any _ _ _ (HPB.out q (by omega)) (HPB.out (q + 1) (by omega)) (HPB.out (q + 1 + 1) (by omega)))
  obtain ⟨u, hu⟩ : ∃ u, u = (bordF t l k).getD q 0 := ⟨_, rfl⟩
  obtain ⟨v, hv⟩ : ∃ v, v = (bordF t l k).getD (q + 1) 0 := ⟨_, rfl⟩
  obtain ⟨r, hr⟩ : ∃ v, v = (bordF t l k).getD (q + 1 + 1) 0 := ⟨_, rfl⟩
  rw [← hu, ← hv, ← hr] at SF ⊢
  obtain ⟨z, hz⟩ : ∃ z, z = softV u v r := ⟨_, rfl⟩
  rw [← hz] at SF ⊢
  have HU := Lib.hid hu; have HV := Lib.hid hv; have HR := Lib.hid hr
  have qi0 : (q : Int) < 17 := by omega
  have qi1 : (q : Int) + 1 < 17 := by omega
  have qi2 : (q : Int) + 1 + 1 < 17 := by omega
  clear hu hv hr hq hqa hz
  clear htc hlc ht hl hpt hpl
  go_enter Try.func48, Try.ntmps48
  go_wp2_with fail
  refine (NK.out _ (I1.out _ BW.out) (I2.out _ BW.out)).mono ?_
  rintro e w1 ⟨rfl, hb1⟩
  have B1 := Lib.hid (below_up BW.out hb1 BW.out.size)
  have K1 := Lib.hid (cell_kept HK.out hb1)
  clear hb1
  go_wp2_with fail
  refine (X1.out _).mono ?_
  rintro e wx ⟨rfl, hw⟩
  subst hw
  go_wp2_with fail
  refine (Y1.out _).mono ?_
  rintro e wx ⟨rfl, hw⟩
  subst hw
  obtain ⟨c0, c1, c2, c3, c4⟩ := cells5 K1.out
  go_wp2_with fail
  refine (BD.out _ (I1.out _ B1.out) (I2.out _ B1.out)).mono ?_
  rintro e w2 ⟨AR, cR, rfl, hoR, hb2⟩
  have B2 := Lib.hid (below_up B1.out hb2 B1.out.size)
  have R2 := Lib.hid (hoR.ints (by rw [HBL.out]; decide))
  clear c0 c1 c2 c3 c4
  obtain ⟨c0, c1, c2, c3, c4⟩ := cells5 (cell_kept K1.out hb2)
  clear hb2 hoR
  obtain ⟨rb, roff, rfl, hrb, hrc⟩ := R2.out.at 0 (by rw [HBL.out]; decide)
  have ca := hrc q (by rw [HBL.out]; omega)
  have cb := hrc (q + 1) (by rw [HBL.out]; omega)
  have cc := hrc (q + 1 + 1) (by rw [HBL.out]; omega)
  rw [← HU.out] at ca
  rw [← HV.out] at cb
  rw [← HR.out] at cc
  clear hrc
  go_wp2_with fail
  go_quiet (first
    | (go_at_call 64; with_reducible exact Calls.quiet_of_same (SF.out _)))
  go_wp2
  go_ret
  exact ⟨rfl, below_drews B2.out _⟩
end Go.Proofs.Ytjgbenhjafgimaa
