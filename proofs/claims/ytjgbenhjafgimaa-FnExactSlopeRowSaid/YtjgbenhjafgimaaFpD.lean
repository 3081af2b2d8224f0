/-
  The contract of the model's FastPred, everywhere. Condition: a slice is no longer than it holds.
-/
import Derived.Test.YtjgbenhjafgimaaFpC
namespace Go.Proofs.Ytjgbenhjafgimaa
open Go.RowKit
set_option linter.unusedVariables false

theorem ints_parts {w : World} {g b off : Nat} {l : List Int} (h : Ints w g (some ⟨b, off, none⟩) l) (hp : 0 < l.length) : b < g ∧ ∀ j, j < l.length → w.cell? ⟨b, off + j, none⟩ = some (.int .i64 (l.getD j 0)) := by
  obtain ⟨b', off', he, h1, h2⟩ := h.at 0 hp
  cases he
  exact ⟨h1, h2⟩
theorem prdL_nil {mode : Int} {t l : List Int} {k : Int} {b1 b2 : Bool} {n : Int} (h : ¬ (nbOk t l k n = true ∧ mdOk mode = true)) : prdL mode t l k b1 b2 n = [] := if_neg h
theorem md_cases {mode : Int} (h : mdOk mode = true) : mode = 0 ∨ mode = 1 ∨ mode = 2 ∨ mode = 3 ∨ mode = 4 ∨ mode = 5 := by
  simp only [mdOk, Bool.and_eq_true, decide_eq_true_eq] at h
  omega

/-- .. for a square of 4. -/
theorem spec_fastpred_4 (mode : Int) (hmd : mdOk mode = true) (tb toff : Nat) (cA : Nat) (lb loff : Nat) (cB : Nat) (t l : List Int) (k : Int) (b1 b2 : Bool) (hok : nbOk t l k 4 = true) (ht : t.length = 8) (hl : l.length = 4) (hpt : ∀ i, i < 2 * 4 → 0 ≤ t.getD i 0 ∧ t.getD i 0 ≤ 255) (hpl : ∀ i, i < 4 → 0 ≤ l.getD i 0 ∧ l.getD i 0 ≤ 255) (hk : 0 ≤ k ∧ k ≤ 255) (hcA : 8 ≤ cA) (w : World)
    (hT : Ints w w.heap.size (some ⟨tb, toff, none⟩) t) (hL : Ints w w.heap.size (some ⟨lb, loff, none⟩) l) :
    Calls Try.prog 36 #[.int .i64 mode, .agg #[.slice (some ⟨tb, toff, none⟩) 8 cA, .slice (some ⟨lb, loff, none⟩) 4 cB, .int .i64 k, .bool b1, .bool b2], .int .i64 4] w fun e w' => ∃ A' c, e = .returned (.slice A' (prdF t l k b1 b2 4 mode).length c) ∧ OwnI w' w.heap.size A' c (prdF t l k b1 b2 4 mode) ∧ Below w.heap.size w w' := by
  have hcA' : t.length ≤ cA := by rw [ht]; exact hcA
  have NK := Lib.hid fun w h1 h2 => spec_nbok_any (some ⟨tb, toff, none⟩) cA (some ⟨lb, loff, none⟩) cB t l k b1 b2 4 w h1 h2
  have BD := Lib.hid fun w h1 h2 => spec_border_any (some ⟨tb, toff, none⟩) cA (some ⟨lb, loff, none⟩) cB t l k b1 b2 4 w h1 h2 hcA'
  have MN := Lib.hid fun w h1 h2 => spec_mean_any (some ⟨tb, toff, none⟩) cA (some ⟨lb, loff, none⟩) cB t l k b1 b2 4 w h1 h2 hcA'
  have SR := Lib.hid fun (y : Nat) w h1 h2 => spec_sloperow_any (some ⟨tb, toff, none⟩) cA (some ⟨lb, loff, none⟩) cB t l k b1 b2 4 (y : Int) w h1 h2 hcA'
  have eb : bordL t l k 4 = bordF t l k := by unfold bordL; rw [if_pos hok]
  have es : ∀ y : Nat, y < 4 → slL t l k 4 (y : Int) = slF t l k 4 y := fun y hy => by
    unfold slL
    rw [if_pos ⟨hok, by omega, by omega⟩]
    rfl
  have hbp := bordF_pix (m := 4) ht hl hpt hpl hk
  rw [hok] at NK
  rw [eb, bordF_len (m := 4) ht hl] at BD
  rw [ht, hl] at NK BD MN SR
  rw [prdF_len]
  have SR' : Hid (∀ y : Nat, y < 4 → ∀ w, Ints w w.heap.size (some ⟨tb, toff, none⟩) t → Ints w w.heap.size (some ⟨lb, loff, none⟩) l → Calls Try.prog 27 #[.agg #[.slice (some ⟨tb, toff, none⟩) 8 cA, .slice (some ⟨lb, loff, none⟩) 4 cB, .int .i64 k, .bool b1, .bool b2], .int .i64 4, .int .i64 y] w fun e w' => ∃ A' c, e = .returned (.slice A' 4 c) ∧ OwnI w' w.heap.size A' c (slF t l k 4 y) ∧ Below w.heap.size w w') := Lib.hid fun y hy w h1 h2 => by
    have h := SR.out y w h1 h2
    rw [es y hy, slF_len] at h
    exact h
  obtain ⟨htb, htc⟩ := ints_parts hT (by rw [ht]; decide)
  obtain ⟨hlb, hlc⟩ := ints_parts hL (by rw [hl]; decide)
  have HP : ∀ w, Ints w w.heap.size (some ⟨tb, toff, none⟩) t → tb < w.heap.size ∧ ∀ j, j < t.length → w.cell? ⟨tb, toff + j, none⟩ = some (.int .i64 (t.getD j 0)) := fun w h => ints_parts h (by rw [ht]; decide)
  have HQ : ∀ w, Ints w w.heap.size (some ⟨lb, loff, none⟩) l → lb < w.heap.size ∧ ∀ j, j < l.length → w.cell? ⟨lb, loff + j, none⟩ = some (.int .i64 (l.getD j 0)) := fun w h => ints_parts h (by rw [hl]; decide)
  have hsb : (soL (bordF t l k)).length = 7 := by rw [soL_len, bordF_len (m := 4) ht hl]
  have hst : (soL (t ++ [t.getD 7 0])).length = 7 := by rw [soL_len, List.length_append, ht]; rfl
  rcases md_cases hmd with rfl | rfl | rfl | rfl | rfl | rfl
  · exact spec_fastpred_4_o 0 hmd (by decide) tb toff cA lb loff cB t l k b1 b2 ht hl hcA w htb hlb htc hlc NK BD (Lib.hid fun y AS sc w hy hsc h1 h2 h3 => by rw [← row_flat0]; exact l17row_4_0 tb toff cA lb loff cB AS 7 sc t l k b1 b2 y hy ht hl hcA w (HP w h1).1 (HQ w h2).1 (HP w h1).2 (HQ w h2).2 _ MN)
  · exact spec_fastpred_4_o 1 hmd (by decide) tb toff cA lb loff cB t l k b1 b2 ht hl hcA w htb hlb htc hlc NK BD (Lib.hid fun y AS sc w hy hsc h1 h2 h3 => by rw [← row_down (t := t) l k b1 b2 (m := 4) y (by rw [ht]; decide)]; exact l17row_4_1 tb toff cA lb loff cB AS 7 sc t l k b1 b2 y hy ht hl hcA w (HP w h1).1 (HQ w h2).1 (HP w h1).2 (HQ w h2).2)
  · exact spec_fastpred_4_o 2 hmd (by decide) tb toff cA lb loff cB t l k b1 b2 ht hl hcA w htb hlb htc hlc NK BD (Lib.hid fun y AS sc w hy hsc h1 h2 h3 => by rw [← row_flat2]; exact l17row_4_2 tb toff cA lb loff cB AS 7 sc t l k b1 b2 y hy ht hl hcA w (HP w h1).1 (HQ w h2).1 (HP w h1).2 (HQ w h2).2)
  · exact spec_fastpred_4_o 3 hmd (by decide) tb toff cA lb loff cB t l k b1 b2 ht hl hcA w htb hlb htc hlc NK BD (Lib.hid fun y AS sc w hy hsc h1 h2 h3 => by rw [← row_slope]; exact l17row_4_3 tb toff cA lb loff cB AS 7 sc t l k b1 b2 y hy ht hl hcA w (HP w h1).1 (HQ w h2).1 (HP w h1).2 (HQ w h2).2 (Lib.hid (SR'.out y hy)))
  · exact spec_fastpred_4_4 tb toff cA lb loff cB t l k b1 b2 ht hl hcA w htb hlb htc hlc NK BD (Lib.hid fun y AS sc w hy hsc h1 h2 h3 => by obtain ⟨sb, soff, rfl, h4, h5⟩ := h3.at 0 (by rw [hst]; decide); rw [← row_left (t := t) l k b1 b2 (m := 4) (y := y) ht (by decide) hpt hy]; exact l17row_4_4 tb toff cA lb loff cB sb soff sc _ hst hsc t l k b1 b2 y hy ht hl hcA w (HP w h1).1 (HQ w h2).1 (HP w h1).2 (HQ w h2).2 h4 h5)
  · exact spec_fastpred_4_o 5 hmd (by decide) tb toff cA lb loff cB t l k b1 b2 ht hl hcA w htb hlb htc hlc NK BD (Lib.hid fun y AS sc w hy hsc h1 h2 h3 => by obtain ⟨sb, soff, rfl, h4, h5⟩ := h3.at 0 (by rw [hsb]; decide); rw [← row_right (t := t) (l := l) (k := k) b1 b2 (m := 4) (y := y) ht hl hbp hy]; exact l17row_4_5 tb toff cA lb loff cB sb soff sc _ hsb hsc t l k b1 b2 y hy ht hl hcA w (HP w h1).1 (HQ w h2).1 (HP w h1).2 (HQ w h2).2 h4 h5)

/-- .. for a square of 8. -/
theorem spec_fastpred_8 (mode : Int) (hmd : mdOk mode = true) (tb toff : Nat) (cA : Nat) (lb loff : Nat) (cB : Nat) (t l : List Int) (k : Int) (b1 b2 : Bool) (hok : nbOk t l k 8 = true) (ht : t.length = 16) (hl : l.length = 8) (hpt : ∀ i, i < 2 * 8 → 0 ≤ t.getD i 0 ∧ t.getD i 0 ≤ 255) (hpl : ∀ i, i < 8 → 0 ≤ l.getD i 0 ∧ l.getD i 0 ≤ 255) (hk : 0 ≤ k ∧ k ≤ 255) (hcA : 16 ≤ cA) (w : World)
    (hT : Ints w w.heap.size (some ⟨tb, toff, none⟩) t) (hL : Ints w w.heap.size (some ⟨lb, loff, none⟩) l) :
    Calls Try.prog 36 #[.int .i64 mode, .agg #[.slice (some ⟨tb, toff, none⟩) 16 cA, .slice (some ⟨lb, loff, none⟩) 8 cB, .int .i64 k, .bool b1, .bool b2], .int .i64 8] w fun e w' => ∃ A' c, e = .returned (.slice A' (prdF t l k b1 b2 8 mode).length c) ∧ OwnI w' w.heap.size A' c (prdF t l k b1 b2 8 mode) ∧ Below w.heap.size w w' := by
  have hcA' : t.length ≤ cA := by rw [ht]; exact hcA
  have NK := Lib.hid fun w h1 h2 => spec_nbok_any (some ⟨tb, toff, none⟩) cA (some ⟨lb, loff, none⟩) cB t l k b1 b2 8 w h1 h2
  have BD := Lib.hid fun w h1 h2 => spec_border_any (some ⟨tb, toff, none⟩) cA (some ⟨lb, loff, none⟩) cB t l k b1 b2 8 w h1 h2 hcA'
  have MN := Lib.hid fun w h1 h2 => spec_mean_any (some ⟨tb, toff, none⟩) cA (some ⟨lb, loff, none⟩) cB t l k b1 b2 8 w h1 h2 hcA'
  have SR := Lib.hid fun (y : Nat) w h1 h2 => spec_sloperow_any (some ⟨tb, toff, none⟩) cA (some ⟨lb, loff, none⟩) cB t l k b1 b2 8 (y : Int) w h1 h2 hcA'
  have eb : bordL t l k 8 = bordF t l k := by unfold bordL; rw [if_pos hok]
  have es : ∀ y : Nat, y < 8 → slL t l k 8 (y : Int) = slF t l k 8 y := fun y hy => by
    unfold slL
    rw [if_pos ⟨hok, by omega, by omega⟩]
    rfl
  have hbp := bordF_pix (m := 8) ht hl hpt hpl hk
  rw [hok] at NK
  rw [eb, bordF_len (m := 8) ht hl] at BD
  rw [ht, hl] at NK BD MN SR
  rw [prdF_len]
  have SR' : Hid (∀ y : Nat, y < 8 → ∀ w, Ints w w.heap.size (some ⟨tb, toff, none⟩) t → Ints w w.heap.size (some ⟨lb, loff, none⟩) l → Calls Try.prog 27 #[.agg #[.slice (some ⟨tb, toff, none⟩) 16 cA, .slice (some ⟨lb, loff, none⟩) 8 cB, .int .i64 k, .bool b1, .bool b2], .int .i64 8, .int .i64 y] w fun e w' => ∃ A' c, e = .returned (.slice A' 8 c) ∧ OwnI w' w.heap.size A' c (slF t l k 8 y) ∧ Below w.heap.size w w') := Lib.hid fun y hy w h1 h2 => by
    have h := SR.out y w h1 h2
    rw [es y hy, slF_len] at h
    exact h
  obtain ⟨htb, htc⟩ := ints_parts hT (by rw [ht]; decide)
  obtain ⟨hlb, hlc⟩ := ints_parts hL (by rw [hl]; decide)
  have HP : ∀ w, Ints w w.heap.size (some ⟨tb, toff, none⟩) t → tb < w.heap.size ∧ ∀ j, j < t.length → w.cell? ⟨tb, toff + j, none⟩ = some (.int .i64 (t.getD j 0)) := fun w h => ints_parts h (by rw [ht]; decide)
  have HQ : ∀ w, Ints w w.heap.size (some ⟨lb, loff, none⟩) l → lb < w.heap.size ∧ ∀ j, j < l.length → w.cell? ⟨lb, loff + j, none⟩ = some (.int .i64 (l.getD j 0)) := fun w h => ints_parts h (by rw [hl]; decide)
  have hsb : (soL (bordF t l k)).length = 15 := by rw [soL_len, bordF_len (m := 8) ht hl]
  have hst : (soL (t ++ [t.getD 15 0])).length = 15 := by rw [soL_len, List.length_append, ht]; rfl
  rcases md_cases hmd with rfl | rfl | rfl | rfl | rfl | rfl
  · exact spec_fastpred_8_o 0 hmd (by decide) tb toff cA lb loff cB t l k b1 b2 ht hl hcA w htb hlb htc hlc NK BD (Lib.hid fun y AS sc w hy hsc h1 h2 h3 => by rw [← row_flat0]; exact l17row_8_0 tb toff cA lb loff cB AS 15 sc t l k b1 b2 y hy ht hl hcA w (HP w h1).1 (HQ w h2).1 (HP w h1).2 (HQ w h2).2 _ MN)
  · exact spec_fastpred_8_o 1 hmd (by decide) tb toff cA lb loff cB t l k b1 b2 ht hl hcA w htb hlb htc hlc NK BD (Lib.hid fun y AS sc w hy hsc h1 h2 h3 => by rw [← row_down (t := t) l k b1 b2 (m := 8) y (by rw [ht]; decide)]; exact l17row_8_1 tb toff cA lb loff cB AS 15 sc t l k b1 b2 y hy ht hl hcA w (HP w h1).1 (HQ w h2).1 (HP w h1).2 (HQ w h2).2)
  · exact spec_fastpred_8_o 2 hmd (by decide) tb toff cA lb loff cB t l k b1 b2 ht hl hcA w htb hlb htc hlc NK BD (Lib.hid fun y AS sc w hy hsc h1 h2 h3 => by rw [← row_flat2]; exact l17row_8_2 tb toff cA lb loff cB AS 15 sc t l k b1 b2 y hy ht hl hcA w (HP w h1).1 (HQ w h2).1 (HP w h1).2 (HQ w h2).2)
  · exact spec_fastpred_8_o 3 hmd (by decide) tb toff cA lb loff cB t l k b1 b2 ht hl hcA w htb hlb htc hlc NK BD (Lib.hid fun y AS sc w hy hsc h1 h2 h3 => by rw [← row_slope]; exact l17row_8_3 tb toff cA lb loff cB AS 15 sc t l k b1 b2 y hy ht hl hcA w (HP w h1).1 (HQ w h2).1 (HP w h1).2 (HQ w h2).2 (Lib.hid (SR'.out y hy)))
  · exact spec_fastpred_8_4 tb toff cA lb loff cB t l k b1 b2 ht hl hcA w htb hlb htc hlc NK BD (Lib.hid fun y AS sc w hy hsc h1 h2 h3 => by obtain ⟨sb, soff, rfl, h4, h5⟩ := h3.at 0 (by rw [hst]; decide); rw [← row_left (t := t) l k b1 b2 (m := 8) (y := y) ht (by decide) hpt hy]; exact l17row_8_4 tb toff cA lb loff cB sb soff sc _ hst hsc t l k b1 b2 y hy ht hl hcA w (HP w h1).1 (HQ w h2).1 (HP w h1).2 (HQ w h2).2 h4 h5)
  · exact spec_fastpred_8_o 5 hmd (by decide) tb toff cA lb loff cB t l k b1 b2 ht hl hcA w htb hlb htc hlc NK BD (Lib.hid fun y AS sc w hy hsc h1 h2 h3 => by obtain ⟨sb, soff, rfl, h4, h5⟩ := h3.at 0 (by rw [hsb]; decide); rw [← row_right (t := t) (l := l) (k := k) b1 b2 (m := 8) (y := y) ht hl hbp hy]; exact l17row_8_5 tb toff cA lb loff cB sb soff sc _ hsb hsc t l k b1 b2 y hy ht hl hcA w (HP w h1).1 (HQ w h2).1 (HP w h1).2 (HQ w h2).2 h4 h5)

set_option maxRecDepth 100000 in
set_option maxHeartbeats 4000000 in
theorem spec_fastpred_any (mode : Int) (A : Option Addr) (cA : Nat) (B : Option Addr) (cB : Nat) (t l : List Int) (k : Int) (b1 b2 : Bool) (n : Int) (w : World) (hT : Ints w w.heap.size A t) (hL : Ints w w.heap.size B l) (hcA : t.length ≤ cA) :
    Calls Try.prog 36 #[.int .i64 mode, .agg #[.slice A t.length cA, .slice B l.length cB, .int .i64 k, .bool b1, .bool b2], .int .i64 n] w fun e w' => ∃ A' c, e = .returned (.slice A' (prdL mode t l k b1 b2 n).length c) ∧ OwnI w' w.heap.size A' c (prdL mode t l k b1 b2 n) ∧ Below w.heap.size w w' := by
  cases hok : nbOk t l k n with
  | false =>
    have NK := Lib.hid fun w h1 h2 => spec_nbok_any A cA B cB t l k b1 b2 n w h1 h2
    have bt := below_two w (.cells #[.slice A t.length cA, .slice B l.length cB, .int .i64 k, .bool b1, .bool b2] 26) (.cells (ivs []).toArray 3)
    have O0 := Lib.hid (own_at' (w.alloc (.cells #[.slice A t.length cA, .slice B l.length cB, .int .i64 k, .bool b1, .bool b2] 26)) w.heap.size (w.heap.size + 1) [] (by simp) (by simp) (by simp))
    have B0 := Lib.hid bt
    have HT := Lib.hid ((hT.below bt (Nat.le_refl _)).mono bt.size)
    have HL := Lib.hid ((hL.below bt (Nat.le_refl _)).mono bt.size)
    have hnt := hT.1; have hnl := hL.1
    rw [hok] at NK
    rw [prdL_nil (by rw [hok]; simp)]
    clear hok hT hL bt hcA
    go_enter Try.func36, Try.ntmps36
    go_wp2_with fail
    refine (NK.out _ HT.out HL.out).mono ?_
    rintro e w1 ⟨rfl, hb1⟩
    have O1 := Lib.hid (O0.out.kept hb1 (Nat.le_refl _)); have B1 := Lib.hid (below_up B0.out hb1 B0.out.size)
    clear hb1
    go_wp2
    go_ret
    exact ⟨_, _, rfl, O1.out, B1.out⟩
  | true =>
    cases hmd : mdOk mode with
    | false =>
      have NK := Lib.hid fun w h1 h2 => spec_nbok_any A cA B cB t l k b1 b2 n w h1 h2
      have bt := below_two w (.cells #[.slice A t.length cA, .slice B l.length cB, .int .i64 k, .bool b1, .bool b2] 26) (.cells (ivs []).toArray 3)
      have O0 := Lib.hid (own_at' (w.alloc (.cells #[.slice A t.length cA, .slice B l.length cB, .int .i64 k, .bool b1, .bool b2] 26)) w.heap.size (w.heap.size + 1) [] (by simp) (by simp) (by simp))
      have B0 := Lib.hid bt
      have HT := Lib.hid ((hT.below bt (Nat.le_refl _)).mono bt.size)
      have HL := Lib.hid ((hL.below bt (Nat.le_refl _)).mono bt.size)
      have hnt := hT.1; have hnl := hL.1
      rw [hok] at NK
      rw [prdL_nil (by rw [hmd]; simp)]
      have MW := Lib.hid (spec_modeword_any mode)
      have hmw := mwS_word mode
      rw [hmd] at hmw
      obtain ⟨ms, hms⟩ : ∃ s, s = mwS mode := ⟨_, rfl⟩
      rw [← hms] at MW hmw
      have hmw2 : ms.toList.isEmpty = true := by simpa using hmw
      clear hmw hok hT hL bt hcA hmd hms
      go_enter Try.func36, Try.ntmps36
      go_wp2_with fail
      refine (NK.out _ HT.out HL.out).mono ?_
      rintro e w1 ⟨rfl, hb1⟩
      have O1 := Lib.hid (O0.out.kept hb1 (Nat.le_refl _)); have B1 := Lib.hid (below_up B0.out hb1 B0.out.size)
      clear hb1
      go_wp2_with fail
      refine (MW.out _).mono ?_
      rintro e w2 ⟨rfl, hb2⟩
      have O2 := Lib.hid (O1.out.kept hb2 (Nat.le_refl _)); have B2 := Lib.hid (below_up B1.out hb2 B1.out.size)
      clear hb2
      go_wp2
      go_ret
      exact ⟨_, _, rfl, O2.out, B2.out⟩
    | true =>
      obtain ⟨m, rfl, hm, ht, hl, hpt, hpl, hk⟩ := nbOk_side hok
      have e1 : prdL mode t l k b1 b2 (m : Int) = prdF t l k b1 b2 m mode := by unfold prdL; rw [if_pos ⟨hok, hmd⟩, Int.toNat_natCast]
      rw [e1]
      obtain ⟨tb, toff, rfl, _, _⟩ := hT.at 0 (by omega)
      obtain ⟨lb, loff, rfl, _, _⟩ := hL.at 0 (by omega)
      rw [ht] at hcA
      rw [ht, hl]
      rcases hm with rfl | rfl
      · exact spec_fastpred_4 mode hmd tb toff cA lb loff cB t l k b1 b2 hok ht hl hpt hpl hk hcA w hT hL
      · exact spec_fastpred_8 mode hmd tb toff cA lb loff cB t l k b1 b2 hok ht hl hpt hpl hk hcA w hT hL
end Go.Proofs.Ytjgbenhjafgimaa
