/-
  The contract of the model's FastPred. Condition: a slice is no longer than it holds.
-/
import Derived.Test.YtjgbenhjafgimaaFpB
import Derived.Test.YtjgbenhjafgimaaApp
namespace Go.Proofs.Ytjgbenhjafgimaa
open Go.RowKit
set_option linter.unusedVariables false

set_option maxRecDepth 100000 in
set_option maxHeartbeats 8000000 in
theorem spec_fastpred_4_o (mode : Int) (hmd : mdOk mode = true) (hm4 : mode ≠ 4) (tb toff : Nat) (cA : Nat) (lb loff : Nat) (cB : Nat) (t l : List Int) (k : Int) (b1 b2 : Bool) (ht : t.length = 8) (hl : l.length = 4) (hcA : 8 ≤ cA) (w : World) (htb : tb < w.heap.size) (hlb : lb < w.heap.size)
    (htc : ∀ j, j < t.length → w.cell? ⟨tb, toff + j, none⟩ = some (.int .i64 (t.getD j 0))) (hlc : ∀ j, j < l.length → w.cell? ⟨lb, loff + j, none⟩ = some (.int .i64 (l.getD j 0)))
    (NK : Hid (∀ w, Ints w w.heap.size (some ⟨tb, toff, none⟩) t → Ints w w.heap.size (some ⟨lb, loff, none⟩) l → Calls Try.prog 15 #[.agg #[.slice (some ⟨tb, toff, none⟩) 8 cA, .slice (some ⟨lb, loff, none⟩) 4 cB, .int .i64 k, .bool b1, .bool b2], .int .i64 4] w fun e w' => e = .returned (.bool true) ∧ Below w.heap.size w w'))
    (BD : Hid (∀ w, Ints w w.heap.size (some ⟨tb, toff, none⟩) t → Ints w w.heap.size (some ⟨lb, loff, none⟩) l → Calls Try.prog 67 #[.agg #[.slice (some ⟨tb, toff, none⟩) 8 cA, .slice (some ⟨lb, loff, none⟩) 4 cB, .int .i64 k, .bool b1, .bool b2], .int .i64 4] w fun e w' => ∃ A' c, e = .returned (.slice A' 9 c) ∧ OwnI w' w.heap.size A' c (bordF t l k) ∧ Below w.heap.size w w'))
    (RW : Hid (∀ (y : Nat) (AS : Option Addr) (sc : Nat) w, y < 4 → 7 ≤ sc → Ints w w.heap.size (some ⟨tb, toff, none⟩) t → Ints w w.heap.size (some ⟨lb, loff, none⟩) l → Ints w w.heap.size AS (soL (bordF t l k)) → Calls Try.prog 68 #[.int .i64 mode, .agg #[.slice (some ⟨tb, toff, none⟩) 8 cA, .slice (some ⟨lb, loff, none⟩) 4 cB, .int .i64 k, .bool b1, .bool b2], .int .i64 4, .int .i64 y, .slice AS 7 sc] w fun e w' => ∃ A' c, e = .returned (.slice A' 4 c) ∧ Ints w' w'.heap.size A' (rowPF t l k b1 b2 4 mode y) ∧ Placed A' c ∧ Below w.heap.size w w')) :
    Calls Try.prog 36 #[.int .i64 mode, .agg #[.slice (some ⟨tb, toff, none⟩) 8 cA, .slice (some ⟨lb, loff, none⟩) 4 cB, .int .i64 k, .bool b1, .bool b2], .int .i64 4] w fun e w' => ∃ A' c, e = .returned (.slice A' 16 c) ∧ OwnI w' w.heap.size A' c (prdF t l k b1 b2 4 mode) ∧ Below w.heap.size w w' := by
  obtain ⟨i0, hi, hz0, hz1, hz2⟩ := info_parts Try.iinfo
  have hq4 : (mode == 4) = false := by rw [beq_eq_false_iff_ne]; exact hm4
  have MW := Lib.hid (spec_modeword_any mode)
  have hmw := mwS_word mode
  rw [hmd] at hmw
  obtain ⟨ms, hms⟩ : ∃ s, s = mwS mode := ⟨_, rfl⟩
  rw [← hms] at MW hmw
  have hmw2 : ms.toList.isEmpty = false := by simpa using hmw
  have HTL := Lib.hid ht; have HLL := Lib.hid hl
  have HK := Lib.hid (heap_alloc_new w (.cells #[.slice (some ⟨tb, toff, none⟩) 8 cA, .slice (some ⟨lb, loff, none⟩) 4 cB, .int .i64 k, .bool b1, .bool b2] 26))
  have BW := Lib.hid (below_new w (.cells #[.slice (some ⟨tb, toff, none⟩) 8 cA, .slice (some ⟨lb, loff, none⟩) 4 cB, .int .i64 k, .bool b1, .bool b2] 26))
  have hsz : (w.alloc (.cells #[.slice (some ⟨tb, toff, none⟩) 8 cA, .slice (some ⟨lb, loff, none⟩) 4 cB, .int .i64 k, .bool b1, .bool b2] 26)).heap.size = w.heap.size + 1 := by simp
  have HSZ := Lib.hid hsz
  have O0 := Lib.hid (own_at' (w.alloc (.cells #[.slice (some ⟨tb, toff, none⟩) 8 cA, .slice (some ⟨lb, loff, none⟩) 4 cB, .int .i64 k, .bool b1, .bool b2] 26)) (w.alloc (.cells #[.slice (some ⟨tb, toff, none⟩) 8 cA, .slice (some ⟨lb, loff, none⟩) 4 cB, .int .i64 k, .bool b1, .bool b2] 26)).heap.size (w.heap.size + 1) [] (Nat.le_refl _) (by simp) (by simp))
  have B0 := Lib.hid ((Below.refl (w.alloc (.cells #[.slice (some ⟨tb, toff, none⟩) 8 cA, .slice (some ⟨lb, loff, none⟩) 4 cB, .int .i64 k, .bool b1, .bool b2] 26)).heap.size (w.alloc (.cells #[.slice (some ⟨tb, toff, none⟩) 8 cA, .slice (some ⟨lb, loff, none⟩) 4 cB, .int .i64 k, .bool b1, .bool b2] 26))).alloc (Nat.le_refl _) (.cells (ivs []).toArray 3))
  have BB : Hid (∀ wr, Below (w.alloc (.cells #[.slice (some ⟨tb, toff, none⟩) 8 cA, .slice (some ⟨lb, loff, none⟩) 4 cB, .int .i64 k, .bool b1, .bool b2] 26)).heap.size (w.alloc (.cells #[.slice (some ⟨tb, toff, none⟩) 8 cA, .slice (some ⟨lb, loff, none⟩) 4 cB, .int .i64 k, .bool b1, .bool b2] 26)) wr → Below w.heap.size w wr) := Lib.hid fun wr h => BW.out.trans (h.mono (by rw [hsz]; omega))
  have TC : Hid (∀ wr, Below (w.alloc (.cells #[.slice (some ⟨tb, toff, none⟩) 8 cA, .slice (some ⟨lb, loff, none⟩) 4 cB, .int .i64 k, .bool b1, .bool b2] 26)).heap.size (w.alloc (.cells #[.slice (some ⟨tb, toff, none⟩) 8 cA, .slice (some ⟨lb, loff, none⟩) 4 cB, .int .i64 k, .bool b1, .bool b2] 26)) wr → ∀ j, j < t.length → wr.cell? ⟨tb, toff + j, none⟩ = some (.int .i64 (t.getD j 0))) := Lib.hid fun wr h j hj => by
    rw [(BB.out wr h).cell (p := ⟨tb, toff + j, none⟩) htb]; exact htc j hj
  have I1 : Hid (∀ wr, Below (w.alloc (.cells #[.slice (some ⟨tb, toff, none⟩) 8 cA, .slice (some ⟨lb, loff, none⟩) 4 cB, .int .i64 k, .bool b1, .bool b2] 26)).heap.size (w.alloc (.cells #[.slice (some ⟨tb, toff, none⟩) 8 cA, .slice (some ⟨lb, loff, none⟩) 4 cB, .int .i64 k, .bool b1, .bool b2] 26)) wr → Ints wr wr.heap.size (some ⟨tb, toff, none⟩) t) := Lib.hid fun wr h => ⟨by omega, .inr ⟨tb, toff, rfl, Nat.lt_of_lt_of_le htb (BB.out wr h).size, TC.out wr h⟩⟩
  have I2 : Hid (∀ wr, Below (w.alloc (.cells #[.slice (some ⟨tb, toff, none⟩) 8 cA, .slice (some ⟨lb, loff, none⟩) 4 cB, .int .i64 k, .bool b1, .bool b2] 26)).heap.size (w.alloc (.cells #[.slice (some ⟨tb, toff, none⟩) 8 cA, .slice (some ⟨lb, loff, none⟩) 4 cB, .int .i64 k, .bool b1, .bool b2] 26)) wr → Ints wr wr.heap.size (some ⟨lb, loff, none⟩) l) := Lib.hid fun wr h => ⟨by omega, .inr ⟨lb, loff, rfl, Nat.lt_of_lt_of_le hlb (BB.out wr h).size, fun j hj => by rw [(BB.out wr h).cell (p := ⟨lb, loff + j, none⟩) hlb]; exact hlc j hj⟩⟩
  have KC : Hid (∀ wr, Below (w.alloc (.cells #[.slice (some ⟨tb, toff, none⟩) 8 cA, .slice (some ⟨lb, loff, none⟩) 4 cB, .int .i64 k, .bool b1, .bool b2] 26)).heap.size (w.alloc (.cells #[.slice (some ⟨tb, toff, none⟩) 8 cA, .slice (some ⟨lb, loff, none⟩) 4 cB, .int .i64 k, .bool b1, .bool b2] 26)) wr → wr.heap[w.heap.size]? = some (.cells #[.slice (some ⟨tb, toff, none⟩) 8 cA, .slice (some ⟨lb, loff, none⟩) 4 cB, .int .i64 k, .bool b1, .bool b2] 26 (0, 0))) := Lib.hid fun wr h => by
    rw [h.block w.heap.size (by rw [hsz]; omega)]; exact HK.out
  have SO := Lib.hid spec_softened_any
  have HBL : Hid ((bordF t l k).length = 9) := Lib.hid (bordF_len (m := 4) ht hl)
  have HSL : Hid ((soL (bordF t l k)).length = 7) := Lib.hid (by rw [soL_len, bordF_len (m := 4) ht hl])
  have HSB : Hid ((soL (bordF t l k)).length = 7) := Lib.hid (by rw [soL_len, bordF_len (m := 4) ht hl])
  have HNX := Lib.hid fun y (hy : y < 4) => prd_row (t := t) (l := l) (k := k) (b1 := b1) (b2 := b2) (mode := mode) hy
  have HRL := Lib.hid fun y => rowPF_len t l k b1 b2 4 mode y
  have HCL := Lib.hid (prdF_len t l k b1 b2 4 mode)
  obtain ⟨C, hC⟩ : ∃ C, C = prdF t l k b1 b2 4 mode := ⟨_, rfl⟩
  rw [← hC] at HNX HCL ⊢
  clear hC hsz ht hl htc hlc hms hmw hmd
  go_enter Try.func36, Try.ntmps36
  go_wp2_with fail
  refine (NK.out _ (I1.out _ B0.out) (I2.out _ B0.out)).mono ?_
  rintro e w1 ⟨rfl, hb1⟩
  have O1 := Lib.hid (O0.out.kept hb1 (Nat.le_refl _)); have B1 := Lib.hid (below_up B0.out hb1 B0.out.size)
  clear hb1 O0 B0
  go_wp2_with fail
  refine (MW.out _).mono ?_
  rintro e w2 ⟨rfl, hb2⟩
  have O2 := Lib.hid (O1.out.kept hb2 (Nat.le_refl _)); have B2 := Lib.hid (below_up B1.out hb2 B1.out.size)
  clear hb2 O1 B1
  obtain ⟨c0, c1, c2, c3, c4⟩ := cells5 (KC.out _ B2.out)
  go_wp2_with fail
  refine (BD.out _ (I1.out _ B2.out) (I2.out _ B2.out)).mono ?_
  rintro e w3 ⟨AR, cR, rfl, hoR, hb3⟩
  have O3 := Lib.hid (O2.out.kept hb3 (Nat.le_refl _)); have B3 := Lib.hid (below_up B2.out hb3 B2.out.size)
  have R3 := Lib.hid (hoR.ints (by rw [HBL.out]; decide))
  have hgt2 : w.heap.size + 1 < w3.heap.size := by have h1 := (O2.out.block (w.heap.size + 1) rfl).2; have h2 := hb3.size; omega
  have HGT := Lib.hid hgt2
  clear hb3 hoR c0 c1 c2 c3 c4 O2 B2 hgt2
  have SOB := Lib.hid fun A c w h => SO.out A c (bordF t l k) (by rw [HBL.out]; decide) w h
  rw [HBL.out, HSB.out] at SOB
  go_wp2_with fail
  refine (SOB.out _ _ _ R3.out).mono ?_
  rintro e w4 ⟨AQ, cQ, rfl, hoQ, hb4⟩
  have O4 := Lib.hid (O3.out.kept hb4 (Nat.le_refl _)); have B4 := Lib.hid (below_up B3.out hb4 B3.out.size)
  have Q4 := Lib.hid (hoQ.ints (by rw [HSB.out]; decide)); have QN4 := Lib.hid (hoQ.not_lo HGT.out); have QC4 : Hid (7 ≤ cQ) := Lib.hid (by have := hoQ.cap_le; rw [HSB.out] at this; exact this)
  have HGT4 := Lib.hid (Nat.lt_of_lt_of_le HGT.out hb4.size)
  clear hb4 hoQ O3 B3 R3
  go_wp2
  go_loopw [7, 10] (fun v x10 wr => ∃ y : Nat, y ≤ 4 ∧ x10 = .int .i64 y ∧ wr.ownsRow (w.alloc (.cells #[.slice (some ⟨tb, toff, none⟩) 8 cA, .slice (some ⟨lb, loff, none⟩) 4 cB, .int .i64 k, .bool b1, .bool b2] 26)).heap.size 3 1 v (y * 4) (ivs (C.take (y * 4))) ∧ FarOf v (w.heap.size + 1) w4.heap.size ∧ Ints wr w4.heap.size AQ (soL (bordF t l k)) ∧ w4.heap.size ≤ wr.heap.size ∧ Below (w.alloc (.cells #[.slice (some ⟨tb, toff, none⟩) 8 cA, .slice (some ⟨lb, loff, none⟩) 4 cB, .int .i64 k, .bool b1, .bool b2] 26)).heap.size (w.alloc (.cells #[.slice (some ⟨tb, toff, none⟩) 8 cA, .slice (some ⟨lb, loff, none⟩) 4 cB, .int .i64 k, .bool b1, .bool b2] 26)) wr)
    (fun _ x10 _ => 4 - (intOf x10).toNat)
  case atStart => exact ⟨0, Nat.zero_le _, rfl, O4.out, .inr (.inl rfl), Q4.out, Nat.le_refl _, B4.out⟩
  case round =>
    obtain ⟨y, hyN, rfl, hown, hfar, hview, hsize, hbel⟩ := hrel
    by_cases hly : y < 4
    · have d1 : decide ((y : Int) < 4) = true := by simp; omega
      obtain ⟨c0, c1, c2, c3, c4⟩ := cells5 (KC.out _ hbel)
      have hnx := HNX.out y hly
      have hrl := HRL.out y
      have RX := Lib.hid fun AS sc w hs h1 h2 h3 => RW.out y AS sc w hly hs h1 h2 h3
      obtain ⟨z, hz⟩ : ∃ z, z = rowPF t l k b1 b2 4 mode y := ⟨_, rfl⟩
      rw [← hz] at hnx hrl RX
      have HX := Lib.hid hnx; have HO := Lib.hid hown; have HB := Lib.hid hbel; have HF := Lib.hid hfar; have HV := Lib.hid hview; have HS := Lib.hid hsize
      clear hz hnx hown hbel hfar hview hsize
      go_wp2_with fail
      refine (RX.out AQ cQ _ QC4.out (I1.out _ HB.out) (I2.out _ HB.out) (HV.out.mono HS.out)).mono ?_
      rintro e wa ⟨AH, cH, rfl, hih, hph, hba⟩
      have OA := own_keep HO.out hba
      have HBA := Lib.hid (below_up HB.out hba HB.out.size)
      have HVA := Lib.hid (HV.out.below hba HS.out); have HSA := Lib.hid (Nat.le_trans HS.out hba.size)
      clear hba c0 c1 c2 c3 c4 HO HB HV HS hph
      go_wp2_with (at_builtin; refine append_ints_at rfl (.tmp 48) (.tmp 54) 24 rfl (w.alloc (.cells #[.slice (some ⟨tb, toff, none⟩) 8 cA, .slice (some ⟨lb, loff, none⟩) 4 cB, .int .i64 k, .bool b1, .bool b2] 26)).heap.size i0 Try.underlying24 hi hz0 hz1 hz2 _ _ _ rfl OA _ _ _ z hrl.symm rfl _ hih (by omega) (by omega) HBA.out.size ?_; intro v' wb hownb hgr hat)
      have HO' := Lib.hid hownb; have HG := Lib.hid hgr; have HL' := Lib.hid OA.lt; have HAT := Lib.hid hat
      clear hownb hgr hat OA hih
      go_roundw
      case rel => exact ⟨y + 1, by omega, by go_num, by rw [Nat.add_mul, Nat.one_mul, HX.out]; exact HO'.out, HF.out.grew HAT.out HSA.out, HVA.out.past QN4.out HF.out HG.out HSA.out, Nat.le_trans HSA.out HG.out.size, HBA.out.grown HG.out HBA.out.size fun k hk => (HL'.out k hk).1⟩
      case measure => simp [intOf]; omega
    · obtain rfl : y = 4 := by omega
      have e1 : C.take (4 * 4) = C := List.take_of_length_le (by rw [HCL.out]; exact Nat.le_refl _)
      rw [e1] at hown
      obtain ⟨A3, c3, hv3, ho3⟩ := own_slice hown
      rw [HCL.out] at hv3
      subst hv3
      have O9 := Lib.hid (own_lower ho3 (base' := w.heap.size) (by rw [HSZ.out]; omega)); have B9 := Lib.hid (BB.out _ hbel)
      clear hown hbel ho3 e1 hview hfar
      go_wp2
      go_ret
      exact ⟨_, _, rfl, O9.out, B9.out⟩

set_option maxRecDepth 100000 in
set_option maxHeartbeats 8000000 in
theorem spec_fastpred_8_o (mode : Int) (hmd : mdOk mode = true) (hm4 : mode ≠ 4) (tb toff : Nat) (cA : Nat) (lb loff : Nat) (cB : Nat) (t l : List Int) (k : Int) (b1 b2 : Bool) (ht : t.length = 16) (hl : l.length = 8) (hcA : 16 ≤ cA) (w : World) (htb : tb < w.heap.size) (hlb : lb < w.heap.size)
    (htc : ∀ j, j < t.length → w.cell? ⟨tb, toff + j, none⟩ = some (.int .i64 (t.getD j 0))) (hlc : ∀ j, j < l.length → w.cell? ⟨lb, loff + j, none⟩ = some (.int .i64 (l.getD j 0)))
    (NK : Hid (∀ w, Ints w w.heap.size (some ⟨tb, toff, none⟩) t → Ints w w.heap.size (some ⟨lb, loff, none⟩) l → Calls Try.prog 15 #[.agg #[.slice (some ⟨tb, toff, none⟩) 16 cA, .slice (some ⟨lb, loff, none⟩) 8 cB, .int .i64 k, .bool b1, .bool b2], .int .i64 8] w fun e w' => e = .returned (.bool true) ∧ Below w.heap.size w w'))
    (BD : Hid (∀ w, Ints w w.heap.size (some ⟨tb, toff, none⟩) t → Ints w w.heap.size (some ⟨lb, loff, none⟩) l → Calls Try.prog 67 #[.agg #[.slice (some ⟨tb, toff, none⟩) 16 cA, .slice (some ⟨lb, loff, none⟩) 8 cB, .int .i64 k, .bool b1, .bool b2], .int .i64 8] w fun e w' => ∃ A' c, e = .returned (.slice A' 17 c) ∧ OwnI w' w.heap.size A' c (bordF t l k) ∧ Below w.heap.size w w'))
    (RW : Hid (∀ (y : Nat) (AS : Option Addr) (sc : Nat) w, y < 8 → 15 ≤ sc → Ints w w.heap.size (some ⟨tb, toff, none⟩) t → Ints w w.heap.size (some ⟨lb, loff, none⟩) l → Ints w w.heap.size AS (soL (bordF t l k)) → Calls Try.prog 68 #[.int .i64 mode, .agg #[.slice (some ⟨tb, toff, none⟩) 16 cA, .slice (some ⟨lb, loff, none⟩) 8 cB, .int .i64 k, .bool b1, .bool b2], .int .i64 8, .int .i64 y, .slice AS 15 sc] w fun e w' => ∃ A' c, e = .returned (.slice A' 8 c) ∧ Ints w' w'.heap.size A' (rowPF t l k b1 b2 8 mode y) ∧ Placed A' c ∧ Below w.heap.size w w')) :
    Calls Try.prog 36 #[.int .i64 mode, .agg #[.slice (some ⟨tb, toff, none⟩) 16 cA, .slice (some ⟨lb, loff, none⟩) 8 cB, .int .i64 k, .bool b1, .bool b2], .int .i64 8] w fun e w' => ∃ A' c, e = .returned (.slice A' 64 c) ∧ OwnI w' w.heap.size A' c (prdF t l k b1 b2 8 mode) ∧ Below w.heap.size w w' := by
  obtain ⟨i0, hi, hz0, hz1, hz2⟩ := info_parts Try.iinfo
  have hq4 : (mode == 4) = false := by rw [beq_eq_false_iff_ne]; exact hm4
  have MW := Lib.hid (spec_modeword_any mode)
  have hmw := mwS_word mode
  rw [hmd] at hmw
  obtain ⟨ms, hms⟩ : ∃ s, s = mwS mode := ⟨_, rfl⟩
  rw [← hms] at MW hmw
  have hmw2 : ms.toList.isEmpty = false := by simpa using hmw
  have HTL := Lib.hid ht; have HLL := Lib.hid hl
  have HK := Lib.hid (heap_alloc_new w (.cells #[.slice (some ⟨tb, toff, none⟩) 16 cA, .slice (some ⟨lb, loff, none⟩) 8 cB, .int .i64 k, .bool b1, .bool b2] 26))
  have BW := Lib.hid (below_new w (.cells #[.slice (some ⟨tb, toff, none⟩) 16 cA, .slice (some ⟨lb, loff, none⟩) 8 cB, .int .i64 k, .bool b1, .bool b2] 26))
  have hsz : (w.alloc (.cells #[.slice (some ⟨tb, toff, none⟩) 16 cA, .slice (some ⟨lb, loff, none⟩) 8 cB, .int .i64 k, .bool b1, .bool b2] 26)).heap.size = w.heap.size + 1 := by simp
  have HSZ := Lib.hid hsz
  have O0 := Lib.hid (own_at' (w.alloc (.cells #[.slice (some ⟨tb, toff, none⟩) 16 cA, .slice (some ⟨lb, loff, none⟩) 8 cB, .int .i64 k, .bool b1, .bool b2] 26)) (w.alloc (.cells #[.slice (some ⟨tb, toff, none⟩) 16 cA, .slice (some ⟨lb, loff, none⟩) 8 cB, .int .i64 k, .bool b1, .bool b2] 26)).heap.size (w.heap.size + 1) [] (Nat.le_refl _) (by simp) (by simp))
  have B0 := Lib.hid ((Below.refl (w.alloc (.cells #[.slice (some ⟨tb, toff, none⟩) 16 cA, .slice (some ⟨lb, loff, none⟩) 8 cB, .int .i64 k, .bool b1, .bool b2] 26)).heap.size (w.alloc (.cells #[.slice (some ⟨tb, toff, none⟩) 16 cA, .slice (some ⟨lb, loff, none⟩) 8 cB, .int .i64 k, .bool b1, .bool b2] 26))).alloc (Nat.le_refl _) (.cells (ivs []).toArray 3))
  have BB : Hid (∀ wr, Below (w.alloc (.cells #[.slice (some ⟨tb, toff, none⟩) 16 cA, .slice (some ⟨lb, loff, none⟩) 8 cB, .int .i64 k, .bool b1, .bool b2] 26)).heap.size (w.alloc (.cells #[.slice (some ⟨tb, toff, none⟩) 16 cA, .slice (some ⟨lb, loff, none⟩) 8 cB, .int .i64 k, .bool b1, .bool b2] 26)) wr → Below w.heap.size w wr) := Lib.hid fun wr h => BW.out.trans (h.mono (by rw [hsz]; omega))
  have TC : Hid (∀ wr, Below (w.alloc (.cells #[.slice (some ⟨tb, toff, none⟩) 16 cA, .slice (some ⟨lb, loff, none⟩) 8 cB, .int .i64 k, .bool b1, .bool b2] 26)).heap.size (w.alloc (.cells #[.slice (some ⟨tb, toff, none⟩) 16 cA, .slice (some ⟨lb, loff, none⟩) 8 cB, .int .i64 k, .bool b1, .bool b2] 26)) wr → ∀ j, j < t.length → wr.cell? ⟨tb, toff + j, none⟩ = some (.int .i64 (t.getD j 0))) := Lib.hid fun wr h j hj => by
    rw [(BB.out wr h).cell (p := ⟨tb, toff + j, none⟩) htb]; exact htc j hj
  have I1 : Hid (∀ wr, Below (w.alloc (.cells #[.slice (some ⟨tb, toff, none⟩) 16 cA, .slice (some ⟨lb, loff, none⟩) 8 cB, .int .i64 k, .bool b1, .bool b2] 26)).heap.size (w.alloc (.cells #[.slice (some ⟨tb, toff, none⟩) 16 cA, .slice (some ⟨lb, loff, none⟩) 8 cB, .int .i64 k, .bool b1, .bool b2] 26)) wr → Ints wr wr.heap.size (some ⟨tb, toff, none⟩) t) := Lib.hid fun wr h => ⟨by omega, .inr ⟨tb, toff, rfl, Nat.lt_of_lt_of_le htb (BB.out wr h).size, TC.out wr h⟩⟩
  have I2 : Hid (∀ wr, Below (w.alloc (.cells #[.slice (some ⟨tb, toff, none⟩) 16 cA, .slice (some ⟨lb, loff, none⟩) 8 cB, .int .i64 k, .bool b1, .bool b2] 26)).heap.size (w.alloc (.cells #[.slice (some ⟨tb, toff, none⟩) 16 cA, .slice (some ⟨lb, loff, none⟩) 8 cB, .int .i64 k, .bool b1, .bool b2] 26)) wr → Ints wr wr.heap.size (some ⟨lb, loff, none⟩) l) := Lib.hid fun wr h => ⟨by omega, .inr ⟨lb, loff, rfl, Nat.lt_of_lt_of_le hlb (BB.out wr h).size, fun j hj => by rw [(BB.out wr h).cell (p := ⟨lb, loff + j, none⟩) hlb]; exact hlc j hj⟩⟩
  have KC : Hid (∀ wr, Below (w.alloc (.cells #[.slice (some ⟨tb, toff, none⟩) 16 cA, .slice (some ⟨lb, loff, none⟩) 8 cB, .int .i64 k, .bool b1, .bool b2] 26)).heap.size (w.alloc (.cells #[.slice (some ⟨tb, toff, none⟩) 16 cA, .slice (some ⟨lb, loff, none⟩) 8 cB, .int .i64 k, .bool b1, .bool b2] 26)) wr → wr.heap[w.heap.size]? = some (.cells #[.slice (some ⟨tb, toff, none⟩) 16 cA, .slice (some ⟨lb, loff, none⟩) 8 cB, .int .i64 k, .bool b1, .bool b2] 26 (0, 0))) := Lib.hid fun wr h => by
    rw [h.block w.heap.size (by rw [hsz]; omega)]; exact HK.out
  have SO := Lib.hid spec_softened_any
  have HBL : Hid ((bordF t l k).length = 17) := Lib.hid (bordF_len (m := 8) ht hl)
  have HSL : Hid ((soL (bordF t l k)).length = 15) := Lib.hid (by rw [soL_len, bordF_len (m := 8) ht hl])
  have HSB : Hid ((soL (bordF t l k)).length = 15) := Lib.hid (by rw [soL_len, bordF_len (m := 8) ht hl])
  have HNX := Lib.hid fun y (hy : y < 8) => prd_row (t := t) (l := l) (k := k) (b1 := b1) (b2 := b2) (mode := mode) hy
  have HRL := Lib.hid fun y => rowPF_len t l k b1 b2 8 mode y
  have HCL := Lib.hid (prdF_len t l k b1 b2 8 mode)
  obtain ⟨C, hC⟩ : ∃ C, C = prdF t l k b1 b2 8 mode := ⟨_, rfl⟩
  rw [← hC] at HNX HCL ⊢
  clear hC hsz ht hl htc hlc hms hmw hmd
  go_enter Try.func36, Try.ntmps36
  go_wp2_with fail
  refine (NK.out _ (I1.out _ B0.out) (I2.out _ B0.out)).mono ?_
  rintro e w1 ⟨rfl, hb1⟩
  have O1 := Lib.hid (O0.out.kept hb1 (Nat.le_refl _)); have B1 := Lib.hid (below_up B0.out hb1 B0.out.size)
  clear hb1 O0 B0
  go_wp2_with fail
  refine (MW.out _).mono ?_
  rintro e w2 ⟨rfl, hb2⟩
  have O2 := Lib.hid (O1.out.kept hb2 (Nat.le_refl _)); have B2 := Lib.hid (below_up B1.out hb2 B1.out.size)
  clear hb2 O1 B1
  obtain ⟨c0, c1, c2, c3, c4⟩ := cells5 (KC.out _ B2.out)
  go_wp2_with fail
  refine (BD.out _ (I1.out _ B2.out) (I2.out _ B2.out)).mono ?_
  rintro e w3 ⟨AR, cR, rfl, hoR, hb3⟩
  have O3 := Lib.hid (O2.out.kept hb3 (Nat.le_refl _)); have B3 := Lib.hid (below_up B2.out hb3 B2.out.size)
  have R3 := Lib.hid (hoR.ints (by rw [HBL.out]; decide))
  have hgt2 : w.heap.size + 1 < w3.heap.size := by have h1 := (O2.out.block (w.heap.size + 1) rfl).2; have h2 := hb3.size; omega
  have HGT := Lib.hid hgt2
  clear hb3 hoR c0 c1 c2 c3 c4 O2 B2 hgt2
  have SOB := Lib.hid fun A c w h => SO.out A c (bordF t l k) (by rw [HBL.out]; decide) w h
  rw [HBL.out, HSB.out] at SOB
  go_wp2_with fail
  refine (SOB.out _ _ _ R3.out).mono ?_
  rintro e w4 ⟨AQ, cQ, rfl, hoQ, hb4⟩
  have O4 := Lib.hid (O3.out.kept hb4 (Nat.le_refl _)); have B4 := Lib.hid (below_up B3.out hb4 B3.out.size)
  have Q4 := Lib.hid (hoQ.ints (by rw [HSB.out]; decide)); have QN4 := Lib.hid (hoQ.not_lo HGT.out); have QC4 : Hid (15 ≤ cQ) := Lib.hid (by have := hoQ.cap_le; rw [HSB.out] at this; exact this)
  have HGT4 := Lib.hid (Nat.lt_of_lt_of_le HGT.out hb4.size)
  clear hb4 hoQ O3 B3 R3
  go_wp2
  go_loopw [7, 10] (fun v x10 wr => ∃ y : Nat, y ≤ 8 ∧ x10 = .int .i64 y ∧ wr.ownsRow (w.alloc (.cells #[.slice (some ⟨tb, toff, none⟩) 16 cA, .slice (some ⟨lb, loff, none⟩) 8 cB, .int .i64 k, .bool b1, .bool b2] 26)).heap.size 3 1 v (y * 8) (ivs (C.take (y * 8))) ∧ FarOf v (w.heap.size + 1) w4.heap.size ∧ Ints wr w4.heap.size AQ (soL (bordF t l k)) ∧ w4.heap.size ≤ wr.heap.size ∧ Below (w.alloc (.cells #[.slice (some ⟨tb, toff, none⟩) 16 cA, .slice (some ⟨lb, loff, none⟩) 8 cB, .int .i64 k, .bool b1, .bool b2] 26)).heap.size (w.alloc (.cells #[.slice (some ⟨tb, toff, none⟩) 16 cA, .slice (some ⟨lb, loff, none⟩) 8 cB, .int .i64 k, .bool b1, .bool b2] 26)) wr)
    (fun _ x10 _ => 8 - (intOf x10).toNat)
  case atStart => exact ⟨0, Nat.zero_le _, rfl, O4.out, .inr (.inl rfl), Q4.out, Nat.le_refl _, B4.out⟩
  case round =>
    obtain ⟨y, hyN, rfl, hown, hfar, hview, hsize, hbel⟩ := hrel
    by_cases hly : y < 8
    · have d1 : decide ((y : Int) < 8) = true := by simp; omega
      obtain ⟨c0, c1, c2, c3, c4⟩ := cells5 (KC.out _ hbel)
      have hnx := HNX.out y hly
      have hrl := HRL.out y
      have RX := Lib.hid fun AS sc w hs h1 h2 h3 => RW.out y AS sc w hly hs h1 h2 h3
      obtain ⟨z, hz⟩ : ∃ z, z = rowPF t l k b1 b2 8 mode y := ⟨_, rfl⟩
      rw [← hz] at hnx hrl RX
      have HX := Lib.hid hnx; have HO := Lib.hid hown; have HB := Lib.hid hbel; have HF := Lib.hid hfar; have HV := Lib.hid hview; have HS := Lib.hid hsize
      clear hz hnx hown hbel hfar hview hsize
      go_wp2_with fail
      refine (RX.out AQ cQ _ QC4.out (I1.out _ HB.out) (I2.out _ HB.out) (HV.out.mono HS.out)).mono ?_
      rintro e wa ⟨AH, cH, rfl, hih, hph, hba⟩
      have OA := own_keep HO.out hba
      have HBA := Lib.hid (below_up HB.out hba HB.out.size)
      have HVA := Lib.hid (HV.out.below hba HS.out); have HSA := Lib.hid (Nat.le_trans HS.out hba.size)
      clear hba c0 c1 c2 c3 c4 HO HB HV HS hph
      go_wp2_with (at_builtin; refine append_ints_at rfl (.tmp 48) (.tmp 54) 24 rfl (w.alloc (.cells #[.slice (some ⟨tb, toff, none⟩) 16 cA, .slice (some ⟨lb, loff, none⟩) 8 cB, .int .i64 k, .bool b1, .bool b2] 26)).heap.size i0 Try.underlying24 hi hz0 hz1 hz2 _ _ _ rfl OA _ _ _ z hrl.symm rfl _ hih (by omega) (by omega) HBA.out.size ?_; intro v' wb hownb hgr hat)
      have HO' := Lib.hid hownb; have HG := Lib.hid hgr; have HL' := Lib.hid OA.lt; have HAT := Lib.hid hat
      clear hownb hgr hat OA hih
      go_roundw
      case rel => exact ⟨y + 1, by omega, by go_num, by rw [Nat.add_mul, Nat.one_mul, HX.out]; exact HO'.out, HF.out.grew HAT.out HSA.out, HVA.out.past QN4.out HF.out HG.out HSA.out, Nat.le_trans HSA.out HG.out.size, HBA.out.grown HG.out HBA.out.size fun k hk => (HL'.out k hk).1⟩
      case measure => simp [intOf]; omega
    · obtain rfl : y = 8 := by omega
      have e1 : C.take (8 * 8) = C := List.take_of_length_le (by rw [HCL.out]; exact Nat.le_refl _)
      rw [e1] at hown
      obtain ⟨A3, c3, hv3, ho3⟩ := own_slice hown
      rw [HCL.out] at hv3
      subst hv3
      have O9 := Lib.hid (own_lower ho3 (base' := w.heap.size) (by rw [HSZ.out]; omega)); have B9 := Lib.hid (BB.out _ hbel)
      clear hown hbel ho3 e1 hview hfar
      go_wp2
      go_ret
      exact ⟨_, _, rfl, O9.out, B9.out⟩

set_option maxRecDepth 100000 in
set_option maxHeartbeats 8000000 in
theorem spec_fastpred_4_4 (tb toff : Nat) (cA : Nat) (lb loff : Nat) (cB : Nat) (t l : List Int) (k : Int) (b1 b2 : Bool) (ht : t.length = 8) (hl : l.length = 4) (hcA : 8 ≤ cA) (w : World) (htb : tb < w.heap.size) (hlb : lb < w.heap.size)
    (htc : ∀ j, j < t.length → w.cell? ⟨tb, toff + j, none⟩ = some (.int .i64 (t.getD j 0))) (hlc : ∀ j, j < l.length → w.cell? ⟨lb, loff + j, none⟩ = some (.int .i64 (l.getD j 0)))
    (NK : Hid (∀ w, Ints w w.heap.size (some ⟨tb, toff, none⟩) t → Ints w w.heap.size (some ⟨lb, loff, none⟩) l → Calls Try.prog 15 #[.agg #[.slice (some ⟨tb, toff, none⟩) 8 cA, .slice (some ⟨lb, loff, none⟩) 4 cB, .int .i64 k, .bool b1, .bool b2], .int .i64 4] w fun e w' => e = .returned (.bool true) ∧ Below w.heap.size w w'))
    (BD : Hid (∀ w, Ints w w.heap.size (some ⟨tb, toff, none⟩) t → Ints w w.heap.size (some ⟨lb, loff, none⟩) l → Calls Try.prog 67 #[.agg #[.slice (some ⟨tb, toff, none⟩) 8 cA, .slice (some ⟨lb, loff, none⟩) 4 cB, .int .i64 k, .bool b1, .bool b2], .int .i64 4] w fun e w' => ∃ A' c, e = .returned (.slice A' 9 c) ∧ OwnI w' w.heap.size A' c (bordF t l k) ∧ Below w.heap.size w w'))
    (RW : Hid (∀ (y : Nat) (AS : Option Addr) (sc : Nat) w, y < 4 → 7 ≤ sc → Ints w w.heap.size (some ⟨tb, toff, none⟩) t → Ints w w.heap.size (some ⟨lb, loff, none⟩) l → Ints w w.heap.size AS (soL (t ++ [t.getD 7 0])) → Calls Try.prog 68 #[.int .i64 4, .agg #[.slice (some ⟨tb, toff, none⟩) 8 cA, .slice (some ⟨lb, loff, none⟩) 4 cB, .int .i64 k, .bool b1, .bool b2], .int .i64 4, .int .i64 y, .slice AS 7 sc] w fun e w' => ∃ A' c, e = .returned (.slice A' 4 c) ∧ Ints w' w'.heap.size A' (rowPF t l k b1 b2 4 4 y) ∧ Placed A' c ∧ Below w.heap.size w w')) :
    Calls Try.prog 36 #[.int .i64 4, .agg #[.slice (some ⟨tb, toff, none⟩) 8 cA, .slice (some ⟨lb, loff, none⟩) 4 cB, .int .i64 k, .bool b1, .bool b2], .int .i64 4] w fun e w' => ∃ A' c, e = .returned (.slice A' 16 c) ∧ OwnI w' w.heap.size A' c (prdF t l k b1 b2 4 4) ∧ Below w.heap.size w w' := by
  obtain ⟨i0, hi, hz0, hz1, hz2⟩ := info_parts Try.iinfo
  have hmd : mdOk 4 = true := by decide
  have MW := Lib.hid (spec_modeword_any 4)
  have hmw := mwS_word 4
  rw [hmd] at hmw
  obtain ⟨ms, hms⟩ : ∃ s, s = mwS 4 := ⟨_, rfl⟩
  rw [← hms] at MW hmw
  have hmw2 : ms.toList.isEmpty = false := by simpa using hmw
  have HTL := Lib.hid ht; have HLL := Lib.hid hl
  have HK := Lib.hid (heap_alloc_new w (.cells #[.slice (some ⟨tb, toff, none⟩) 8 cA, .slice (some ⟨lb, loff, none⟩) 4 cB, .int .i64 k, .bool b1, .bool b2] 26))
  have BW := Lib.hid (below_new w (.cells #[.slice (some ⟨tb, toff, none⟩) 8 cA, .slice (some ⟨lb, loff, none⟩) 4 cB, .int .i64 k, .bool b1, .bool b2] 26))
  have hsz : (w.alloc (.cells #[.slice (some ⟨tb, toff, none⟩) 8 cA, .slice (some ⟨lb, loff, none⟩) 4 cB, .int .i64 k, .bool b1, .bool b2] 26)).heap.size = w.heap.size + 1 := by simp
  have HSZ := Lib.hid hsz
  have O0 := Lib.hid (own_at' (w.alloc (.cells #[.slice (some ⟨tb, toff, none⟩) 8 cA, .slice (some ⟨lb, loff, none⟩) 4 cB, .int .i64 k, .bool b1, .bool b2] 26)) (w.alloc (.cells #[.slice (some ⟨tb, toff, none⟩) 8 cA, .slice (some ⟨lb, loff, none⟩) 4 cB, .int .i64 k, .bool b1, .bool b2] 26)).heap.size (w.heap.size + 1) [] (Nat.le_refl _) (by simp) (by simp))
  have B0 := Lib.hid ((Below.refl (w.alloc (.cells #[.slice (some ⟨tb, toff, none⟩) 8 cA, .slice (some ⟨lb, loff, none⟩) 4 cB, .int .i64 k, .bool b1, .bool b2] 26)).heap.size (w.alloc (.cells #[.slice (some ⟨tb, toff, none⟩) 8 cA, .slice (some ⟨lb, loff, none⟩) 4 cB, .int .i64 k, .bool b1, .bool b2] 26))).alloc (Nat.le_refl _) (.cells (ivs []).toArray 3))
  have BB : Hid (∀ wr, Below (w.alloc (.cells #[.slice (some ⟨tb, toff, none⟩) 8 cA, .slice (some ⟨lb, loff, none⟩) 4 cB, .int .i64 k, .bool b1, .bool b2] 26)).heap.size (w.alloc (.cells #[.slice (some ⟨tb, toff, none⟩) 8 cA, .slice (some ⟨lb, loff, none⟩) 4 cB, .int .i64 k, .bool b1, .bool b2] 26)) wr → Below w.heap.size w wr) := Lib.hid fun wr h => BW.out.trans (h.mono (by rw [hsz]; omega))
  have TC : Hid (∀ wr, Below (w.alloc (.cells #[.slice (some ⟨tb, toff, none⟩) 8 cA, .slice (some ⟨lb, loff, none⟩) 4 cB, .int .i64 k, .bool b1, .bool b2] 26)).heap.size (w.alloc (.cells #[.slice (some ⟨tb, toff, none⟩) 8 cA, .slice (some ⟨lb, loff, none⟩) 4 cB, .int .i64 k, .bool b1, .bool b2] 26)) wr → ∀ j, j < t.length → wr.cell? ⟨tb, toff + j, none⟩ = some (.int .i64 (t.getD j 0))) := Lib.hid fun wr h j hj => by
    rw [(BB.out wr h).cell (p := ⟨tb, toff + j, none⟩) htb]; exact htc j hj
  have I1 : Hid (∀ wr, Below (w.alloc (.cells #[.slice (some ⟨tb, toff, none⟩) 8 cA, .slice (some ⟨lb, loff, none⟩) 4 cB, .int .i64 k, .bool b1, .bool b2] 26)).heap.size (w.alloc (.cells #[.slice (some ⟨tb, toff, none⟩) 8 cA, .slice (some ⟨lb, loff, none⟩) 4 cB, .int .i64 k, .bool b1, .bool b2] 26)) wr → Ints wr wr.heap.size (some ⟨tb, toff, none⟩) t) := Lib.hid fun wr h => ⟨by omega, .inr ⟨tb, toff, rfl, Nat.lt_of_lt_of_le htb (BB.out wr h).size, TC.out wr h⟩⟩
  have I2 : Hid (∀ wr, Below (w.alloc (.cells #[.slice (some ⟨tb, toff, none⟩) 8 cA, .slice (some ⟨lb, loff, none⟩) 4 cB, .int .i64 k, .bool b1, .bool b2] 26)).heap.size (w.alloc (.cells #[.slice (some ⟨tb, toff, none⟩) 8 cA, .slice (some ⟨lb, loff, none⟩) 4 cB, .int .i64 k, .bool b1, .bool b2] 26)) wr → Ints wr wr.heap.size (some ⟨lb, loff, none⟩) l) := Lib.hid fun wr h => ⟨by omega, .inr ⟨lb, loff, rfl, Nat.lt_of_lt_of_le hlb (BB.out wr h).size, fun j hj => by rw [(BB.out wr h).cell (p := ⟨lb, loff + j, none⟩) hlb]; exact hlc j hj⟩⟩
  have KC : Hid (∀ wr, Below (w.alloc (.cells #[.slice (some ⟨tb, toff, none⟩) 8 cA, .slice (some ⟨lb, loff, none⟩) 4 cB, .int .i64 k, .bool b1, .bool b2] 26)).heap.size (w.alloc (.cells #[.slice (some ⟨tb, toff, none⟩) 8 cA, .slice (some ⟨lb, loff, none⟩) 4 cB, .int .i64 k, .bool b1, .bool b2] 26)) wr → wr.heap[w.heap.size]? = some (.cells #[.slice (some ⟨tb, toff, none⟩) 8 cA, .slice (some ⟨lb, loff, none⟩) 4 cB, .int .i64 k, .bool b1, .bool b2] 26 (0, 0))) := Lib.hid fun wr h => by
    rw [h.block w.heap.size (by rw [hsz]; omega)]; exact HK.out
  have SO := Lib.hid spec_softened_any
  have HBL : Hid ((bordF t l k).length = 9) := Lib.hid (bordF_len (m := 4) ht hl)
  have HSL : Hid ((soL (t ++ [t.getD 7 0])).length = 7) := Lib.hid (by rw [soL_len, List.length_append, ht]; rfl)
  have HSB : Hid ((soL (bordF t l k)).length = 7) := Lib.hid (by rw [soL_len, bordF_len (m := 4) ht hl])
  have HNX := Lib.hid fun y (hy : y < 4) => prd_row (t := t) (l := l) (k := k) (b1 := b1) (b2 := b2) (mode := 4) hy
  have HRL := Lib.hid fun y => rowPF_len t l k b1 b2 4 4 y
  have HCL := Lib.hid (prdF_len t l k b1 b2 4 4)
  obtain ⟨C, hC⟩ : ∃ C, C = prdF t l k b1 b2 4 4 := ⟨_, rfl⟩
  rw [← hC] at HNX HCL ⊢
  clear hC hsz ht hl htc hlc hms hmw hmd
  go_enter Try.func36, Try.ntmps36
  go_wp2_with fail
  refine (NK.out _ (I1.out _ B0.out) (I2.out _ B0.out)).mono ?_
  rintro e w1 ⟨rfl, hb1⟩
  have O1 := Lib.hid (O0.out.kept hb1 (Nat.le_refl _)); have B1 := Lib.hid (below_up B0.out hb1 B0.out.size)
  clear hb1 O0 B0
  go_wp2_with fail
  refine (MW.out _).mono ?_
  rintro e w2 ⟨rfl, hb2⟩
  have O2 := Lib.hid (O1.out.kept hb2 (Nat.le_refl _)); have B2 := Lib.hid (below_up B1.out hb2 B1.out.size)
  clear hb2 O1 B1
  obtain ⟨c0, c1, c2, c3, c4⟩ := cells5 (KC.out _ B2.out)
  go_wp2_with fail
  refine (BD.out _ (I1.out _ B2.out) (I2.out _ B2.out)).mono ?_
  rintro e w3 ⟨AR, cR, rfl, hoR, hb3⟩
  have O3 := Lib.hid (O2.out.kept hb3 (Nat.le_refl _)); have B3 := Lib.hid (below_up B2.out hb3 B2.out.size)
  have R3 := Lib.hid (hoR.ints (by rw [HBL.out]; decide))
  have hgt2 : w.heap.size + 1 < w3.heap.size := by have h1 := (O2.out.block (w.heap.size + 1) rfl).2; have h2 := hb3.size; omega
  have HGT := Lib.hid hgt2
  clear hb3 hoR c0 c1 c2 c3 c4 O2 B2 hgt2
  have SOB := Lib.hid fun A c w h => SO.out A c (bordF t l k) (by rw [HBL.out]; decide) w h
  rw [HBL.out, HSB.out] at SOB
  go_wp2_with fail
  refine (SOB.out _ _ _ R3.out).mono ?_
  rintro e w4 ⟨AQ, cQ, rfl, hoQ, hb4⟩
  have O4 := Lib.hid (O3.out.kept hb4 (Nat.le_refl _)); have B4 := Lib.hid (below_up B3.out hb4 B3.out.size)
  have Q4 := Lib.hid (hoQ.ints (by rw [HSB.out]; decide)); have QN4 := Lib.hid (hoQ.not_lo HGT.out); have QC4 : Hid (7 ≤ cQ) := Lib.hid (by have := hoQ.cap_le; rw [HSB.out] at this; exact this)
  have HGT4 := Lib.hid (Nat.lt_of_lt_of_le HGT.out hb4.size)
  clear hb4 hoQ O3 B3 R3
  have BV : Hid (∀ wr, Below w4.heap.size w4 wr → Below (w.alloc (.cells #[.slice (some ⟨tb, toff, none⟩) 8 cA, .slice (some ⟨lb, loff, none⟩) 4 cB, .int .i64 k, .bool b1, .bool b2] 26)).heap.size (w.alloc (.cells #[.slice (some ⟨tb, toff, none⟩) 8 cA, .slice (some ⟨lb, loff, none⟩) 4 cB, .int .i64 k, .bool b1, .bool b2] 26)) wr) := Lib.hid fun wr h => below_up B4.out h B4.out.size
  have T0 : Hid (OwnI (w4.alloc (.cells #[] 3)) w4.heap.size (some ⟨w4.heap.size, 0, none⟩) 0 []) := Lib.hid (own_ints w4 w4.heap.size [] (Nat.le_refl _) (by simp))
  have BT0 : Hid (Below w4.heap.size w4 (w4.alloc (.cells #[] 3))) := Lib.hid ((Below.refl w4.heap.size w4).alloc (Nat.le_refl _) (.cells (ivs []).toArray 3))
  have TLT := Lib.hid (World.ownsRow.lt T0.out)
  obtain ⟨c0, c1, c2, c3, c4⟩ := cells5 (KC.out _ (BV.out _ BT0.out))
  obtain ⟨x, hx⟩ : ∃ x, x = t.getD 7 0 := ⟨_, rfl⟩
  have TX : Hid (∀ wr, Below w4.heap.size w4 wr → wr.cell? ⟨tb, toff + 7, none⟩ = some (.int .i64 x)) := Lib.hid fun wr h => by rw [hx]; exact TC.out wr (BV.out wr h) 7 (by rw [HTL.out]; decide)
  have HTX : Hid ((t ++ [x]).length = 9) := Lib.hid (by rw [List.length_append, HTL.out]; rfl)
  have SOT := Lib.hid fun A c w h => SO.out A c (t ++ [x]) (by rw [HTX.out]; decide) w h
  rw [← hx] at HSL RW
  rw [HTX.out, HSL.out] at SOT
  clear hx
  go_wp2_with (first
    | (at_builtin; refine append_ints_at rfl (.tmp 28) (.tmp 30) 24 rfl w4.heap.size i0 Try.underlying24 hi hz0 hz1 hz2 _ 0 [] rfl T0.out _ _ _ t HTL.out.symm rfl _ (I1.out _ (BV.out _ BT0.out)) (by rw [HTL.out]; decide) (by omega) BT0.out.size ?_; intro v5 w5 hown5 hgr hat; have b5 := Below.grown BT0.out hgr BT0.out.size fun k hk => (TLT.out k hk).1; have B5 := Lib.hid b5; have T5 := Lib.hid hown5; obtain ⟨d0, d1, d2, d3, d4⟩ := cells5 (KC.out _ (BV.out _ b5)); have dx := TX.out _ b5; clear hgr hat hown5 b5 c0 c1 c2 c3 c4)
    | (at_builtin; refine append_lit w5 rfl (.tmp 32) (.tmp 40) 24 rfl w4 3 i0 (.int .i64 0) 8 Try.underlying24 hi hz0 hz1 hz2 rfl _ _ _ rfl T5.out [_] rfl (by simp [Value.oneCell']) rfl (by simp) (by unfold maxLen; simp) B5.out ?_; intro v6 w6 hown6 hb6; obtain ⟨A6, c6, hv6, ho6⟩ := own_slice (l := t ++ [x]) (by rw [ivs_append]; exact hown6); rw [HTX.out] at hv6; subst hv6; have T6 := Lib.hid ho6; have B6 := Lib.hid hb6; clear hown6 ho6 hb6 d0 d1 d2 d3 d4 dx T5 B5))
  refine (SOT.out _ _ _ (T6.out.ints (by rw [HTX.out]; decide))).mono ?_
  rintro e w9 ⟨AE, cE, rfl, hoE, hb9⟩
  have BE := Lib.hid (below_up B6.out hb9 B6.out.size)
  have O9 := Lib.hid (O4.out.kept BE.out (Nat.le_refl _)); have B9 := Lib.hid (BV.out _ BE.out)
  have Q9 := Lib.hid (hoE.ints (by rw [HSL.out]; decide)); have QN9 := Lib.hid (hoE.not_lo (Nat.lt_of_lt_of_le HGT4.out B6.out.size)); have QC9 : Hid (7 ≤ cE) := Lib.hid (by have := hoE.cap_le; rw [HSL.out] at this; exact this)
  clear hb9 hoE T6 B6 BE O4 B4 BT0 T0
  go_wp2
  go_loopw [7, 10] (fun v x10 wr => ∃ y : Nat, y ≤ 4 ∧ x10 = .int .i64 y ∧ wr.ownsRow (w.alloc (.cells #[.slice (some ⟨tb, toff, none⟩) 8 cA, .slice (some ⟨lb, loff, none⟩) 4 cB, .int .i64 k, .bool b1, .bool b2] 26)).heap.size 3 1 v (y * 4) (ivs (C.take (y * 4))) ∧ FarOf v (w.heap.size + 1) w9.heap.size ∧ Ints wr w9.heap.size AE (soL (t ++ [x])) ∧ w9.heap.size ≤ wr.heap.size ∧ Below (w.alloc (.cells #[.slice (some ⟨tb, toff, none⟩) 8 cA, .slice (some ⟨lb, loff, none⟩) 4 cB, .int .i64 k, .bool b1, .bool b2] 26)).heap.size (w.alloc (.cells #[.slice (some ⟨tb, toff, none⟩) 8 cA, .slice (some ⟨lb, loff, none⟩) 4 cB, .int .i64 k, .bool b1, .bool b2] 26)) wr)
    (fun _ x10 _ => 4 - (intOf x10).toNat)
  case atStart => exact ⟨0, Nat.zero_le _, rfl, O9.out, .inr (.inl rfl), Q9.out, Nat.le_refl _, B9.out⟩
  case round =>
    obtain ⟨y, hyN, rfl, hown, hfar, hview, hsize, hbel⟩ := hrel
    by_cases hly : y < 4
    · have d1 : decide ((y : Int) < 4) = true := by simp; omega
      obtain ⟨c0, c1, c2, c3, c4⟩ := cells5 (KC.out _ hbel)
      have hnx := HNX.out y hly
      have hrl := HRL.out y
      have RX := Lib.hid fun AS sc w hs h1 h2 h3 => RW.out y AS sc w hly hs h1 h2 h3
      obtain ⟨z, hz⟩ : ∃ z, z = rowPF t l k b1 b2 4 4 y := ⟨_, rfl⟩
      rw [← hz] at hnx hrl RX
      have HX := Lib.hid hnx; have HO := Lib.hid hown; have HB := Lib.hid hbel; have HF := Lib.hid hfar; have HV := Lib.hid hview; have HS := Lib.hid hsize
      clear hz hnx hown hbel hfar hview hsize
      go_wp2_with fail
      refine (RX.out AE cE _ QC9.out (I1.out _ HB.out) (I2.out _ HB.out) (HV.out.mono HS.out)).mono ?_
      rintro e wa ⟨AH, cH, rfl, hih, hph, hba⟩
      have OA := own_keep HO.out hba
      have HBA := Lib.hid (below_up HB.out hba HB.out.size)
      have HVA := Lib.hid (HV.out.below hba HS.out); have HSA := Lib.hid (Nat.le_trans HS.out hba.size)
      clear hba c0 c1 c2 c3 c4 HO HB HV HS hph
      go_wp2_with (at_builtin; refine append_ints_at rfl (.tmp 48) (.tmp 54) 24 rfl (w.alloc (.cells #[.slice (some ⟨tb, toff, none⟩) 8 cA, .slice (some ⟨lb, loff, none⟩) 4 cB, .int .i64 k, .bool b1, .bool b2] 26)).heap.size i0 Try.underlying24 hi hz0 hz1 hz2 _ _ _ rfl OA _ _ _ z hrl.symm rfl _ hih (by omega) (by omega) HBA.out.size ?_; intro v' wb hownb hgr hat)
      have HO' := Lib.hid hownb; have HG := Lib.hid hgr; have HL' := Lib.hid OA.lt; have HAT := Lib.hid hat
      clear hownb hgr hat OA hih
      go_roundw
      case rel => exact ⟨y + 1, by omega, by go_num, by rw [Nat.add_mul, Nat.one_mul, HX.out]; exact HO'.out, HF.out.grew HAT.out HSA.out, HVA.out.past QN9.out HF.out HG.out HSA.out, Nat.le_trans HSA.out HG.out.size, HBA.out.grown HG.out HBA.out.size fun k hk => (HL'.out k hk).1⟩
      case measure => simp [intOf]; omega
    · obtain rfl : y = 4 := by omega
      have e1 : C.take (4 * 4) = C := List.take_of_length_le (by rw [HCL.out]; exact Nat.le_refl _)
      rw [e1] at hown
      obtain ⟨A3, c3, hv3, ho3⟩ := own_slice hown
      rw [HCL.out] at hv3
      subst hv3
      have O9 := Lib.hid (own_lower ho3 (base' := w.heap.size) (by rw [HSZ.out]; omega)); have B9 := Lib.hid (BB.out _ hbel)
      clear hown hbel ho3 e1 hview hfar
      go_wp2
      go_ret
      exact ⟨_, _, rfl, O9.out, B9.out⟩

set_option maxRecDepth 100000 in
set_option maxHeartbeats 8000000 in
theorem spec_fastpred_8_4 (tb toff : Nat) (cA : Nat) (lb loff : Nat) (cB : Nat) (t l : List Int) (k : Int) (b1 b2 : Bool) (ht : t.length = 16) (hl : l.length = 8) (hcA : 16 ≤ cA) (w : World) (htb : tb < w.heap.size) (hlb : lb < w.heap.size)
    (htc : ∀ j, j < t.length → w.cell? ⟨tb, toff + j, none⟩ = some (.int .i64 (t.getD j 0))) (hlc : ∀ j, j < l.length → w.cell? ⟨lb, loff + j, none⟩ = some (.int .i64 (l.getD j 0)))
    (NK : Hid (∀ w, Ints w w.heap.size (some ⟨tb, toff, none⟩) t → Ints w w.heap.size (some ⟨lb, loff, none⟩) l → Calls Try.prog 15 #[.agg #[.slice (some ⟨tb, toff, none⟩) 16 cA, .slice (some ⟨lb, loff, none⟩) 8 cB, .int .i64 k, .bool b1, .bool b2], .int .i64 8] w fun e w' => e = .returned (.bool true) ∧ Below w.heap.size w w'))
    (BD : Hid (∀ w, Ints w w.heap.size (some ⟨tb, toff, none⟩) t → Ints w w.heap.size (some ⟨lb, loff, none⟩) l → Calls Try.prog 67 #[.agg #[.slice (some ⟨tb, toff, none⟩) 16 cA, .slice (some ⟨lb, loff, none⟩) 8 cB, .int .i64 k, .bool b1, .bool b2], .int .i64 8] w fun e w' => ∃ A' c, e = .returned (.slice A' 17 c) ∧ OwnI w' w.heap.size A' c (bordF t l k) ∧ Below w.heap.size w w'))
    (RW : Hid (∀ (y : Nat) (AS : Option Addr) (sc : Nat) w, y < 8 → 15 ≤ sc → Ints w w.heap.size (some ⟨tb, toff, none⟩) t → Ints w w.heap.size (some ⟨lb, loff, none⟩) l → Ints w w.heap.size AS (soL (t ++ [t.getD 15 0])) → Calls Try.prog 68 #[.int .i64 4, .agg #[.slice (some ⟨tb, toff, none⟩) 16 cA, .slice (some ⟨lb, loff, none⟩) 8 cB, .int .i64 k, .bool b1, .bool b2], .int .i64 8, .int .i64 y, .slice AS 15 sc] w fun e w' => ∃ A' c, e = .returned (.slice A' 8 c) ∧ Ints w' w'.heap.size A' (rowPF t l k b1 b2 8 4 y) ∧ Placed A' c ∧ Below w.heap.size w w')) :
    Calls Try.prog 36 #[.int .i64 4, .agg #[.slice (some ⟨tb, toff, none⟩) 16 cA, .slice (some ⟨lb, loff, none⟩) 8 cB, .int .i64 k, .bool b1, .bool b2], .int .i64 8] w fun e w' => ∃ A' c, e = .returned (.slice A' 64 c) ∧ OwnI w' w.heap.size A' c (prdF t l k b1 b2 8 4) ∧ Below w.heap.size w w' := by
  obtain ⟨i0, hi, hz0, hz1, hz2⟩ := info_parts Try.iinfo
  have hmd : mdOk 4 = true := by decide
  have MW := Lib.hid (spec_modeword_any 4)
  have hmw := mwS_word 4
  rw [hmd] at hmw
  obtain ⟨ms, hms⟩ : ∃ s, s = mwS 4 := ⟨_, rfl⟩
  rw [← hms] at MW hmw
  have hmw2 : ms.toList.isEmpty = false := by simpa using hmw
  have HTL := Lib.hid ht; have HLL := Lib.hid hl
  have HK := Lib.hid (heap_alloc_new w (.cells #[.slice (some ⟨tb, toff, none⟩) 16 cA, .slice (some ⟨lb, loff, none⟩) 8 cB, .int .i64 k, .bool b1, .bool b2] 26))
  have BW := Lib.hid (below_new w (.cells #[.slice (some ⟨tb, toff, none⟩) 16 cA, .slice (some ⟨lb, loff, none⟩) 8 cB, .int .i64 k, .bool b1, .bool b2] 26))
  have hsz : (w.alloc (.cells #[.slice (some ⟨tb, toff, none⟩) 16 cA, .slice (some ⟨lb, loff, none⟩) 8 cB, .int .i64 k, .bool b1, .bool b2] 26)).heap.size = w.heap.size + 1 := by simp
  have HSZ := Lib.hid hsz
  have O0 := Lib.hid (own_at' (w.alloc (.cells #[.slice (some ⟨tb, toff, none⟩) 16 cA, .slice (some ⟨lb, loff, none⟩) 8 cB, .int .i64 k, .bool b1, .bool b2] 26)) (w.alloc (.cells #[.slice (some ⟨tb, toff, none⟩) 16 cA, .slice (some ⟨lb, loff, none⟩) 8 cB, .int .i64 k, .bool b1, .bool b2] 26)).heap.size (w.heap.size + 1) [] (Nat.le_refl _) (by simp) (by simp))
  have B0 := Lib.hid ((Below.refl (w.alloc (.cells #[.slice (some ⟨tb, toff, none⟩) 16 cA, .slice (some ⟨lb, loff, none⟩) 8 cB, .int .i64 k, .bool b1, .bool b2] 26)).heap.size (w.alloc (.cells #[.slice (some ⟨tb, toff, none⟩) 16 cA, .slice (some ⟨lb, loff, none⟩) 8 cB, .int .i64 k, .bool b1, .bool b2] 26))).alloc (Nat.le_refl _) (.cells (ivs []).toArray 3))
  have BB : Hid (∀ wr, Below (w.alloc (.cells #[.slice (some ⟨tb, toff, none⟩) 16 cA, .slice (some ⟨lb, loff, none⟩) 8 cB, .int .i64 k, .bool b1, .bool b2] 26)).heap.size (w.alloc (.cells #[.slice (some ⟨tb, toff, none⟩) 16 cA, .slice (some ⟨lb, loff, none⟩) 8 cB, .int .i64 k, .bool b1, .bool b2] 26)) wr → Below w.heap.size w wr) := Lib.hid fun wr h => BW.out.trans (h.mono (by rw [hsz]; omega))
  have TC : Hid (∀ wr, Below (w.alloc (.cells #[.slice (some ⟨tb, toff, none⟩) 16 cA, .slice (some ⟨lb, loff, none⟩) 8 cB, .int .i64 k, .bool b1, .bool b2] 26)).heap.size (w.alloc (.cells #[.slice (some ⟨tb, toff, none⟩) 16 cA, .slice (some ⟨lb, loff, none⟩) 8 cB, .int .i64 k, .bool b1, .bool b2] 26)) wr → ∀ j, j < t.length → wr.cell? ⟨tb, toff + j, none⟩ = some (.int .i64 (t.getD j 0))) := Lib.hid fun wr h j hj => by
    rw [(BB.out wr h).cell (p := ⟨tb, toff + j, none⟩) htb]; exact htc j hj
  have I1 : Hid (∀ wr, Below (w.alloc (.cells #[.slice (some ⟨tb, toff, none⟩) 16 cA, .slice (some ⟨lb, loff, none⟩) 8 cB, .int .i64 k, .bool b1, .bool b2] 26)).heap.size (w.alloc (.cells #[.slice (some ⟨tb, toff, none⟩) 16 cA, .slice (some ⟨lb, loff, none⟩) 8 cB, .int .i64 k, .bool b1, .bool b2] 26)) wr → Ints wr wr.heap.size (some ⟨tb, toff, none⟩) t) := Lib.hid fun wr h => ⟨by omega, .inr ⟨tb, toff, rfl, Nat.lt_of_lt_of_le htb (BB.out wr h).size, TC.out wr h⟩⟩
  have I2 : Hid (∀ wr, Below (w.alloc (.cells #[.slice (some ⟨tb, toff, none⟩) 16 cA, .slice (some ⟨lb, loff, none⟩) 8 cB, .int .i64 k, .bool b1, .bool b2] 26)).heap.size (w.alloc (.cells #[.slice (some ⟨tb, toff, none⟩) 16 cA, .slice (some ⟨lb, loff, none⟩) 8 cB, .int .i64 k, .bool b1, .bool b2] 26)) wr → Ints wr wr.heap.size (some ⟨lb, loff, none⟩) l) := Lib.hid fun wr h => ⟨by omega, .inr ⟨lb, loff, rfl, Nat.lt_of_lt_of_le hlb (BB.out wr h).size, fun j hj => by rw [(BB.out wr h).cell (p := ⟨lb, loff + j, none⟩) hlb]; exact hlc j hj⟩⟩
  have KC : Hid (∀ wr, Below (w.alloc (.cells #[.slice (some ⟨tb, toff, none⟩) 16 cA, .slice (some ⟨lb, loff, none⟩) 8 cB, .int .i64 k, .bool b1, .bool b2] 26)).heap.size (w.alloc (.cells #[.slice (some ⟨tb, toff, none⟩) 16 cA, .slice (some ⟨lb, loff, none⟩) 8 cB, .int .i64 k, .bool b1, .bool b2] 26)) wr → wr.heap[w.heap.size]? = some (.cells #[.slice (some ⟨tb, toff, none⟩) 16 cA, .slice (some ⟨lb, loff, none⟩) 8 cB, .int .i64 k, .bool b1, .bool b2] 26 (0, 0))) := Lib.hid fun wr h => by
    rw [h.block w.heap.size (by rw [hsz]; omega)]; exact HK.out
  have SO := Lib.hid spec_softened_any
  have HBL : Hid ((bordF t l k).length = 17) := Lib.hid (bordF_len (m := 8) ht hl)
  have HSL : Hid ((soL (t ++ [t.getD 15 0])).length = 15) := Lib.hid (by rw [soL_len, List.length_append, ht]; rfl)
  have HSB : Hid ((soL (bordF t l k)).length = 15) := Lib.hid (by rw [soL_len, bordF_len (m := 8) ht hl])
  have HNX := Lib.hid fun y (hy : y < 8) => prd_row (t := t) (l := l) (k := k) (b1 := b1) (b2 := b2) (mode := 4) hy
  have HRL := Lib.hid fun y => rowPF_len t l k b1 b2 8 4 y
  have HCL := Lib.hid (prdF_len t l k b1 b2 8 4)
  obtain ⟨C, hC⟩ : ∃ C, C = prdF t l k b1 b2 8 4 := ⟨_, rfl⟩
  rw [← hC] at HNX HCL ⊢
  clear hC hsz ht hl htc hlc hms hmw hmd
  go_enter Try.func36, Try.ntmps36
  go_wp2_with fail
  refine (NK.out _ (I1.out _ B0.out) (I2.out _ B0.out)).mono ?_
  rintro e w1 ⟨rfl, hb1⟩
  have O1 := Lib.hid (O0.out.kept hb1 (Nat.le_refl _)); have B1 := Lib.hid (below_up B0.out hb1 B0.out.size)
  clear hb1 O0 B0
  go_wp2_with fail
  refine (MW.out _).mono ?_
  rintro e w2 ⟨rfl, hb2⟩
  have O2 := Lib.hid (O1.out.kept hb2 (Nat.le_refl _)); have B2 := Lib.hid (below_up B1.out hb2 B1.out.size)
  clear hb2 O1 B1
  obtain ⟨c0, c1, c2, c3, c4⟩ := cells5 (KC.out _ B2.out)
  go_wp2_with fail
  refine (BD.out _ (I1.out _ B2.out) (I2.out _ B2.out)).mono ?_
  rintro e w3 ⟨AR, cR, rfl, hoR, hb3⟩
  have O3 := Lib.hid (O2.out.kept hb3 (Nat.le_refl _)); have B3 := Lib.hid (below_up B2.out hb3 B2.out.size)
  have R3 := Lib.hid (hoR.ints (by rw [HBL.out]; decide))
  have hgt2 : w.heap.size + 1 < w3.heap.size := by have h1 := (O2.out.block (w.heap.size + 1) rfl).2; have h2 := hb3.size; omega
  have HGT := Lib.hid hgt2
  clear hb3 hoR c0 c1 c2 c3 c4 O2 B2 hgt2
  have SOB := Lib.hid fun A c w h => SO.out A c (bordF t l k) (by rw [HBL.out]; decide) w h
  rw [HBL.out, HSB.out] at SOB
  go_wp2_with fail
  refine (SOB.out _ _ _ R3.out).mono ?_
  rintro e w4 ⟨AQ, cQ, rfl, hoQ, hb4⟩
  have O4 := Lib.hid (O3.out.kept hb4 (Nat.le_refl _)); have B4 := Lib.hid (below_up B3.out hb4 B3.out.size)
  have Q4 := Lib.hid (hoQ.ints (by rw [HSB.out]; decide)); have QN4 := Lib.hid (hoQ.not_lo HGT.out); have QC4 : Hid (15 ≤ cQ) := Lib.hid (by have := hoQ.cap_le; rw [HSB.out] at this; exact this)
  have HGT4 := Lib.hid (Nat.lt_of_lt_of_le HGT.out hb4.size)
  clear hb4 hoQ O3 B3 R3
  have BV : Hid (∀ wr, Below w4.heap.size w4 wr → Below (w.alloc (.cells #[.slice (some ⟨tb, toff, none⟩) 16 cA, .slice (some ⟨lb, loff, none⟩) 8 cB, .int .i64 k, .bool b1, .bool b2] 26)).heap.size (w.alloc (.cells #[.slice (some ⟨tb, toff, none⟩) 16 cA, .slice (some ⟨lb, loff, none⟩) 8 cB, .int .i64 k, .bool b1, .bool b2] 26)) wr) := Lib.hid fun wr h => below_up B4.out h B4.out.size
  have T0 : Hid (OwnI (w4.alloc (.cells #[] 3)) w4.heap.size (some ⟨w4.heap.size, 0, none⟩) 0 []) := Lib.hid (own_ints w4 w4.heap.size [] (Nat.le_refl _) (by simp))
  have BT0 : Hid (Below w4.heap.size w4 (w4.alloc (.cells #[] 3))) := Lib.hid ((Below.refl w4.heap.size w4).alloc (Nat.le_refl _) (.cells (ivs []).toArray 3))
  have TLT := Lib.hid (World.ownsRow.lt T0.out)
  obtain ⟨c0, c1, c2, c3, c4⟩ := cells5 (KC.out _ (BV.out _ BT0.out))
  obtain ⟨x, hx⟩ : ∃ x, x = t.getD 15 0 := ⟨_, rfl⟩
  have TX : Hid (∀ wr, Below w4.heap.size w4 wr → wr.cell? ⟨tb, toff + 15, none⟩ = some (.int .i64 x)) := Lib.hid fun wr h => by rw [hx]; exact TC.out wr (BV.out wr h) 15 (by rw [HTL.out]; decide)
  have HTX : Hid ((t ++ [x]).length = 17) := Lib.hid (by rw [List.length_append, HTL.out]; rfl)
  have SOT := Lib.hid fun A c w h => SO.out A c (t ++ [x]) (by rw [HTX.out]; decide) w h
  rw [← hx] at HSL RW
  rw [HTX.out, HSL.out] at SOT
  clear hx
  go_wp2_with (first
    | (at_builtin; refine append_ints_at rfl (.tmp 28) (.tmp 30) 24 rfl w4.heap.size i0 Try.underlying24 hi hz0 hz1 hz2 _ 0 [] rfl T0.out _ _ _ t HTL.out.symm rfl _ (I1.out _ (BV.out _ BT0.out)) (by rw [HTL.out]; decide) (by omega) BT0.out.size ?_; intro v5 w5 hown5 hgr hat; have b5 := Below.grown BT0.out hgr BT0.out.size fun k hk => (TLT.out k hk).1; have B5 := Lib.hid b5; have T5 := Lib.hid hown5; obtain ⟨d0, d1, d2, d3, d4⟩ := cells5 (KC.out _ (BV.out _ b5)); have dx := TX.out _ b5; clear hgr hat hown5 b5 c0 c1 c2 c3 c4)
    | (at_builtin; refine append_lit w5 rfl (.tmp 32) (.tmp 40) 24 rfl w4 3 i0 (.int .i64 0) 8 Try.underlying24 hi hz0 hz1 hz2 rfl _ _ _ rfl T5.out [_] rfl (by simp [Value.oneCell']) rfl (by simp) (by unfold maxLen; simp) B5.out ?_; intro v6 w6 hown6 hb6; obtain ⟨A6, c6, hv6, ho6⟩ := own_slice (l := t ++ [x]) (by rw [ivs_append]; exact hown6); rw [HTX.out] at hv6; subst hv6; have T6 := Lib.hid ho6; have B6 := Lib.hid hb6; clear hown6 ho6 hb6 d0 d1 d2 d3 d4 dx T5 B5))
  refine (SOT.out _ _ _ (T6.out.ints (by rw [HTX.out]; decide))).mono ?_
  rintro e w9 ⟨AE, cE, rfl, hoE, hb9⟩
  have BE := Lib.hid (below_up B6.out hb9 B6.out.size)
  have O9 := Lib.hid (O4.out.kept BE.out (Nat.le_refl _)); have B9 := Lib.hid (BV.out _ BE.out)
  have Q9 := Lib.hid (hoE.ints (by rw [HSL.out]; decide)); have QN9 := Lib.hid (hoE.not_lo (Nat.lt_of_lt_of_le HGT4.out B6.out.size)); have QC9 : Hid (15 ≤ cE) := Lib.hid (by have := hoE.cap_le; rw [HSL.out] at this; exact this)
  clear hb9 hoE T6 B6 BE O4 B4 BT0 T0
  go_wp2
  go_loopw [7, 10] (fun v x10 wr => ∃ y : Nat, y ≤ 8 ∧ x10 = .int .i64 y ∧ wr.ownsRow (w.alloc (.cells #[.slice (some ⟨tb, toff, none⟩) 16 cA, .slice (some ⟨lb, loff, none⟩) 8 cB, .int .i64 k, .bool b1, .bool b2] 26)).heap.size 3 1 v (y * 8) (ivs (C.take (y * 8))) ∧ FarOf v (w.heap.size + 1) w9.heap.size ∧ Ints wr w9.heap.size AE (soL (t ++ [x])) ∧ w9.heap.size ≤ wr.heap.size ∧ Below (w.alloc (.cells #[.slice (some ⟨tb, toff, none⟩) 16 cA, .slice (some ⟨lb, loff, none⟩) 8 cB, .int .i64 k, .bool b1, .bool b2] 26)).heap.size (w.alloc (.cells #[.slice (some ⟨tb, toff, none⟩) 16 cA, .slice (some ⟨lb, loff, none⟩) 8 cB, .int .i64 k, .bool b1, .bool b2] 26)) wr)
    (fun _ x10 _ => 8 - (intOf x10).toNat)
  case atStart => exact ⟨0, Nat.zero_le _, rfl, O9.out, .inr (.inl rfl), Q9.out, Nat.le_refl _, B9.out⟩
  case round =>
    obtain ⟨y, hyN, rfl, hown, hfar, hview, hsize, hbel⟩ := hrel
    by_cases hly : y < 8
    · have d1 : decide ((y : Int) < 8) = true := by simp; omega
      obtain ⟨c0, c1, c2, c3, c4⟩ := cells5 (KC.out _ hbel)
      have hnx := HNX.out y hly
      have hrl := HRL.out y
      have RX := Lib.hid fun AS sc w hs h1 h2 h3 => RW.out y AS sc w hly hs h1 h2 h3
      obtain ⟨z, hz⟩ : ∃ z, z = rowPF t l k b1 b2 8 4 y := ⟨_, rfl⟩
      rw [← hz] at hnx hrl RX
      have HX := Lib.hid hnx; have HO := Lib.hid hown; have HB := Lib.hid hbel; have HF := Lib.hid hfar; have HV := Lib.hid hview; have HS := Lib.hid hsize
      clear hz hnx hown hbel hfar hview hsize
      go_wp2_with fail
      refine (RX.out AE cE _ QC9.out (I1.out _ HB.out) (I2.out _ HB.out) (HV.out.mono HS.out)).mono ?_
      rintro e wa ⟨AH, cH, rfl, hih, hph, hba⟩
      have OA := own_keep HO.out hba
      have HBA := Lib.hid (below_up HB.out hba HB.out.size)
      have HVA := Lib.hid (HV.out.below hba HS.out); have HSA := Lib.hid (Nat.le_trans HS.out hba.size)
      clear hba c0 c1 c2 c3 c4 HO HB HV HS hph
      go_wp2_with (at_builtin; refine append_ints_at rfl (.tmp 48) (.tmp 54) 24 rfl (w.alloc (.cells #[.slice (some ⟨tb, toff, none⟩) 16 cA, .slice (some ⟨lb, loff, none⟩) 8 cB, .int .i64 k, .bool b1, .bool b2] 26)).heap.size i0 Try.underlying24 hi hz0 hz1 hz2 _ _ _ rfl OA _ _ _ z hrl.symm rfl _ hih (by omega) (by omega) HBA.out.size ?_; intro v' wb hownb hgr hat)
      have HO' := Lib.hid hownb; have HG := Lib.hid hgr; have HL' := Lib.hid OA.lt; have HAT := Lib.hid hat
      clear hownb hgr hat OA hih
      go_roundw
      case rel => exact ⟨y + 1, by omega, by go_num, by rw [Nat.add_mul, Nat.one_mul, HX.out]; exact HO'.out, HF.out.grew HAT.out HSA.out, HVA.out.past QN9.out HF.out HG.out HSA.out, Nat.le_trans HSA.out HG.out.size, HBA.out.grown HG.out HBA.out.size fun k hk => (HL'.out k hk).1⟩
      case measure => simp [intOf]; omega
    · obtain rfl : y = 8 := by omega
      have e1 : C.take (8 * 8) = C := List.take_of_length_le (by rw [HCL.out]; exact Nat.le_refl _)
      rw [e1] at hown
      obtain ⟨A3, c3, hv3, ho3⟩ := own_slice hown
      rw [HCL.out] at hv3
      subst hv3
      have O9 := Lib.hid (own_lower ho3 (base' := w.heap.size) (by rw [HSZ.out]; omega)); have B9 := Lib.hid (BB.out _ hbel)
      clear hown hbel ho3 e1 hview hfar
      go_wp2
      go_ret
      exact ⟨_, _, rfl, O9.out, B9.out⟩
end Go.Proofs.Ytjgbenhjafgimaa
