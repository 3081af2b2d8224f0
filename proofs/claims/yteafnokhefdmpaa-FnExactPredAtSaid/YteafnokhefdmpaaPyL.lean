/-
  The laws' own walks of chapter 15, by the contracts of the two texts. No condition.
-/
import Derived.Test.YteafnokhefdmpaaNbB
import Derived.Test.YteafnokhefdmpaaPrF
import Derived.Test.YteafnokhefdmpaaPyC
import Derived.Lib.RowBridge
namespace Go.Proofs.Yteafnokhefdmpaa
open Go.RowKit
set_option linter.unusedVariables false

set_option maxRecDepth 100000 in
set_option maxHeartbeats 400000 in
theorem impl_modeword_any (e : Int) (w : World) :
    Calls Try.prog 18 #[.int .i64 e] w fun r w' => r = .returned (.string (mwS e)) ∧ w = w' := by
  by_cases h : 0 ≤ e ∧ e ≤ 5
  · rcases (show e = 0 ∨ e = 1 ∨ e = 2 ∨ e = 3 ∨ e = 4 ∨ e = 5 by omega) with rfl | rfl | rfl | rfl | rfl | rfl
    all_goals
      clear h
      go_enter Try.func18, Try.ntmps18
      go_wp2
      go_ret
      exact ⟨rfl, rfl⟩
  · have ev : mwS e = ⟨#[]⟩ := by
      unfold mwS
      rw [if_neg (by omega), if_neg (by omega), if_neg (by omega), if_neg (by omega), if_neg (by omega), if_neg (by omega)]
    rw [ev]
    clear ev
    have q0 : (e == (0 : Int)) = false := by simp; omega
    have q1 : (e == (1 : Int)) = false := by simp; omega
    have q2 : (e == (2 : Int)) = false := by simp; omega
    have q3 : (e == (3 : Int)) = false := by simp; omega
    have q4 : (e == (4 : Int)) = false := by simp; omega
    have q5 : (e == (5 : Int)) = false := by simp; omega
    clear h
    go_enter Try.func18, Try.ntmps18
    go_wp2
    go_ret
    exact ⟨rfl, rfl⟩
set_option maxRecDepth 100000 in
set_option maxHeartbeats 400000 in
/-- The law's own walk. -/
theorem fnExactModeWord_walk (n : Int) (hn : (Lit.int .i64 n).wf = true) (w : World) :
    Calls Try.prog 5 #[.int .i64 n] w fun e w' => e = .returned (.bool true) ∧ Below w.heap.size w w' := by
  have SP := Lib.hid (spec_modeword_any n)
  have IM := Lib.hid (impl_modeword_any n)
  obtain ⟨x, hx⟩ : ∃ x, x = mwS n := ⟨_, rfl⟩
  rw [← hx] at SP IM
  have q1 : (x.toList != x.toList) = false := by simp
  clear hx hn
  go_enter Try.func5, Try.ntmps5
  go_wp2_with fail
  refine (SP.out _).mono ?_
  rintro e w1 ⟨rfl, hb⟩
  have B := Lib.hid hb; clear hb
  go_wp2_with fail
  refine (IM.out _).mono ?_
  rintro e w2 ⟨rfl, rfl⟩
  go_wp2
  go_ret
  exact ⟨rfl, B.out⟩
set_option maxRecDepth 100000 in
set_option maxHeartbeats 4000000 in
/-- The law's own walk, by contracts of the two texts. -/
theorem fnExactPredAt_walk (mode : Int) (a1 : Option Addr) (n1 c1 : Nat) (z1 : List Int) (a2 : Option Addr) (n2 c2 : Nat) (z2 : List Int) (k : Int) (b1 b2 : Bool) (n : Int) (x0 : Int) (y0 : Int) (wf_mode : (Lit.int .i64 mode).wf = true) (wf_k : (Lit.int .i64 k).wf = true) (wf_n : (Lit.int .i64 n).wf = true) (wf_x0 : (Lit.int .i64 x0).wf = true) (wf_y0 : (Lit.int .i64 y0).wf = true) (w : World) (h1 : IsRow .i64 w a1 n1 c1 z1) (h2 : IsRow .i64 w a2 n2 c2 z2) :
    Calls Try.prog 3 #[.int .i64 mode, .agg #[.slice a1 n1 c1, .slice a2 n2 c2, .int .i64 k, .bool b1, .bool b2], .int .i64 n, .int .i64 x0, .int .i64 y0] w fun e w' => e = .returned (.bool true) ∧ Below w.heap.size w w' := by
  have hl1 := h1.len_le; have hl2 := h2.len_le
  unfold maxLen at hl1 hl2
  have SZ := Lib.hid (sznb_any a1 a2 n1 c1 n2 c2 k b1 b2 (by omega) (by omega))
  by_cases hbig : ¬ n1 + n2 ≤ 1048576
  · rw [if_neg hbig] at SZ
    clear h1 h2 hl1 hl2 hbig
    go_enter Try.func3, Try.ntmps3
    go_wp2_with fail
    refine (SZ.out _).mono ?_
    rintro e w1 ⟨rfl, hb⟩
    have B := Lib.hid (below_up (below_new w _) hb (below_new w _).size); clear hb
    go_wp2
    go_ret
    exact ⟨rfl, B.out⟩
  · rw [if_pos (by omega)] at SZ
    have hq : decide (1048576 - (n1 : Int) - (n2 : Int) < 0) = false := by simp; omega
    obtain ⟨t, rfl, hT, _, hc1⟩ := ints_of h1 (by omega)
    obtain ⟨l, rfl, hL, _, hc2⟩ := ints_of h2 (by omega)
    have ht : t.length ≤ 1048576 := by omega
    have hl : l.length ≤ 1048576 := by omega
    have R1 := Lib.hid hT; have R2 := Lib.hid hL
    have TO := Lib.hid fun w hA hB => tonb_any a1 a2 c1 c2 t l k b1 b2 ht hl w hA hB
    have EQ := Lib.hid fun A B C D cA cB cC cD w hA hB hC hD => eqnb_same A B C D cA cB cC cD t l k b1 b2 ht hl w hA hB hC hD
    have SP := Lib.hid (fun A cA B cB w hT hL (hc : t.length ≤ cA) (hd : l.length ≤ cB) => spec_predat_any mode A cA B cB t l k b1 b2 n x0 y0 w hT hL hc)
    have IM := Lib.hid (fun A cA B cB w hT hL (hc : t.length ≤ cA) (hd : l.length ≤ cB) => impl_predat_any mode A cA B cB t l k b1 b2 n x0 y0 w hT hL hc)
    obtain ⟨x, hx⟩ : ∃ x, x = predV mode t l k b1 b2 n x0 y0 := ⟨_, rfl⟩
    rw [← hx] at SP IM
    clear hx
    have hqx : (x != x) = false := by simp
    clear h1 h2 hT hL hl1 hl2 hbig
    go_enter Try.func3, Try.ntmps3
    go_wp2_with fail
    refine (SZ.out _).mono ?_
    rintro e w1 ⟨rfl, hb⟩
    have H1 := Lib.hid (cell_kept (heap_alloc_new w (.cells #[.slice a1 t.length c1, .slice a2 l.length c2, .int .i64 k, .bool b1, .bool b2] 24)) hb)
    have B1 := Lib.hid (below_up (below_new w (.cells #[.slice a1 t.length c1, .slice a2 l.length c2, .int .i64 k, .bool b1, .bool b2] 24)) hb (below_new w (.cells #[.slice a1 t.length c1, .slice a2 l.length c2, .int .i64 k, .bool b1, .bool b2] 24)).size)
    obtain ⟨c0, c1', c2', c3, c4⟩ := cells5 H1.out
    clear hb SZ
    go_wp2_with fail
    refine (TO.out _ ((R1.out.below B1.out (Nat.le_refl _)).mono B1.out.size) ((R2.out.below B1.out (Nat.le_refl _)).mono B1.out.size)).mono ?_
    rintro e w2 ⟨A0, cA0, B0, cB0, rfl, ho, hb⟩
    have P2 := Lib.hid ho; have H2 := Lib.hid (cell_kept H1.out hb); have B2 := Lib.hid (below_up B1.out hb B1.out.size)
    have hcp := ho.caps
    clear ho hb H1 B1 c0 c1' c2' c3 c4
    go_wp2_with fail
    refine (SP.out A0 cA0 B0 cB0 _ (P2.out.top ht) (P2.out.left hl) hcp.1 hcp.2).mono ?_
    rintro e w3 ⟨rfl, hb⟩
    have H3 := Lib.hid (cell_kept H2.out hb); have B3 := Lib.hid (below_up B2.out hb B2.out.size)
    obtain ⟨c0, c1', c2', c3, c4⟩ := cells5 H3.out
    clear hb H2 B2 P2 hcp
    go_wp2_with fail
    refine (TO.out _ ((R1.out.below B3.out (Nat.le_refl _)).mono B3.out.size) ((R2.out.below B3.out (Nat.le_refl _)).mono B3.out.size)).mono ?_
    rintro e w4 ⟨A, cA, B, cB, rfl, ho, hb⟩
    have nb := below_new w4 (.cells #[.slice A t.length cA, .slice B l.length cB, .int .i64 k, .bool b1, .bool b2] 27)
    have hcp := ho.caps
    have X5 := Lib.hid (ho.kept nb (Nat.le_refl _)); have H4 := Lib.hid (cell_kept H3.out hb); have B4 := Lib.hid (below_up B3.out hb B3.out.size)
    have H5 := Lib.hid (cell_kept H4.out nb); have B5 := Lib.hid (below_up B4.out nb B4.out.size); have K5 := Lib.hid (heap_alloc_new w4 (.cells #[.slice A t.length cA, .slice B l.length cB, .int .i64 k, .bool b1, .bool b2] 27))
    clear ho hb nb H3 B3 H4 B4 c0 c1' c2' c3 c4
    go_wp2_with fail
    refine (IM.out A cA B cB _ (X5.out.top ht) (X5.out.left hl) hcp.1 hcp.2).mono ?_
    rintro e w6 ⟨rfl, hb⟩
    have X6 := Lib.hid (X5.out.kept hb (Nat.le_refl _)); have H6 := Lib.hid (cell_kept H5.out hb); have K6 := Lib.hid (cell_kept K5.out hb); have B6 := Lib.hid (below_up B5.out hb B5.out.size)
    clear hb X5 H5 K5 B5 hcp
    obtain ⟨c0, c1', c2', c3, c4⟩ := cells5 H6.out
    obtain ⟨d0, d1, d2, d3, d4⟩ := cells5 K6.out
    have hS : w6.cell? ⟨w.heap.size, 0, none⟩ = some (.slice a1 t.length c1) ∧ w6.cell? ⟨w.heap.size, 1, none⟩ = some (.slice a2 l.length c2) ∧ w6.cell? ⟨w.heap.size, 2, none⟩ = some (.int .i64 k) ∧ w6.cell? ⟨w.heap.size, 3, none⟩ = some (.bool b1) ∧ w6.cell? ⟨w.heap.size, 4, none⟩ = some (.bool b2) ∧ w6.cell? ⟨w4.heap.size, 0, none⟩ = some (.slice A t.length cA) ∧ w6.cell? ⟨w4.heap.size, 1, none⟩ = some (.slice B l.length cB) ∧ w6.cell? ⟨w4.heap.size, 2, none⟩ = some (.int .i64 k) ∧ w6.cell? ⟨w4.heap.size, 3, none⟩ = some (.bool b1) ∧ w6.cell? ⟨w4.heap.size, 4, none⟩ = some (.bool b2) ∧ NbOwn w6 w3.heap.size A cA B cB t l ∧ Below w6.heap.size w6 w6 := ⟨c0, c1', c2', c3, c4, d0, d1, d2, d3, d4, X6.out, Below.refl _ _⟩
    have TOS : Hid (∀ wr, (wr.cell? ⟨w.heap.size, 0, none⟩ = some (.slice a1 t.length c1) ∧ wr.cell? ⟨w.heap.size, 1, none⟩ = some (.slice a2 l.length c2) ∧ wr.cell? ⟨w.heap.size, 2, none⟩ = some (.int .i64 k) ∧ wr.cell? ⟨w.heap.size, 3, none⟩ = some (.bool b1) ∧ wr.cell? ⟨w.heap.size, 4, none⟩ = some (.bool b2) ∧ wr.cell? ⟨w4.heap.size, 0, none⟩ = some (.slice A t.length cA) ∧ wr.cell? ⟨w4.heap.size, 1, none⟩ = some (.slice B l.length cB) ∧ wr.cell? ⟨w4.heap.size, 2, none⟩ = some (.int .i64 k) ∧ wr.cell? ⟨w4.heap.size, 3, none⟩ = some (.bool b1) ∧ wr.cell? ⟨w4.heap.size, 4, none⟩ = some (.bool b2) ∧ NbOwn wr w3.heap.size A cA B cB t l ∧ Below w6.heap.size w6 wr) → Calls Try.prog 8 #[.agg #[.slice a1 t.length c1, .slice a2 l.length c2, .int .i64 k, .bool b1, .bool b2]] wr fun e w' => ∃ A' cA' B' cB', e = .returned (.agg #[.slice A' t.length cA', .slice B' l.length cB', .int .i64 k, .bool b1, .bool b2]) ∧ NbOwn w' wr.heap.size A' cA' B' cB' t l ∧ Below wr.heap.size wr w') := Lib.hid fun wr h => TO.out wr ((R1.out.below (below_up B6.out (nb_held_below h) B6.out.size) (Nat.le_refl _)).mono (below_up B6.out (nb_held_below h) B6.out.size).size) ((R2.out.below (below_up B6.out (nb_held_below h) B6.out.size) (Nat.le_refl _)).mono (below_up B6.out (nb_held_below h) B6.out.size).size)
    have EQS : Hid (∀ wr C cC D cD bs, (wr.cell? ⟨w.heap.size, 0, none⟩ = some (.slice a1 t.length c1) ∧ wr.cell? ⟨w.heap.size, 1, none⟩ = some (.slice a2 l.length c2) ∧ wr.cell? ⟨w.heap.size, 2, none⟩ = some (.int .i64 k) ∧ wr.cell? ⟨w.heap.size, 3, none⟩ = some (.bool b1) ∧ wr.cell? ⟨w.heap.size, 4, none⟩ = some (.bool b2) ∧ wr.cell? ⟨w4.heap.size, 0, none⟩ = some (.slice A t.length cA) ∧ wr.cell? ⟨w4.heap.size, 1, none⟩ = some (.slice B l.length cB) ∧ wr.cell? ⟨w4.heap.size, 2, none⟩ = some (.int .i64 k) ∧ wr.cell? ⟨w4.heap.size, 3, none⟩ = some (.bool b1) ∧ wr.cell? ⟨w4.heap.size, 4, none⟩ = some (.bool b2) ∧ NbOwn wr w3.heap.size A cA B cB t l ∧ Below w6.heap.size w6 wr) → NbOwn wr bs C cC D cD t l → Calls Try.prog 10 #[.agg #[.slice A t.length cA, .slice B l.length cB, .int .i64 k, .bool b1, .bool b2], .agg #[.slice C t.length cC, .slice D l.length cD, .int .i64 k, .bool b1, .bool b2]] wr fun e w' => e = .returned (.bool true) ∧ Below wr.heap.size wr w') := Lib.hid fun wr C cC D cD bs h ho => EQ.out A B C D cA cB cC cD wr (h.2.2.2.2.2.2.2.2.2.2.1.top ht) (h.2.2.2.2.2.2.2.2.2.2.1.left hl) (ho.top ht) (ho.left hl)
    clear c0 c1' c2' c3 c4 d0 d1 d2 d3 d4
    go_wp2_with fail
    go_region_held3 (fun w' => w'.cell? ⟨w.heap.size, 0, none⟩ = some (.slice a1 t.length c1) ∧ w'.cell? ⟨w.heap.size, 1, none⟩ = some (.slice a2 l.length c2) ∧ w'.cell? ⟨w.heap.size, 2, none⟩ = some (.int .i64 k) ∧ w'.cell? ⟨w.heap.size, 3, none⟩ = some (.bool b1) ∧ w'.cell? ⟨w.heap.size, 4, none⟩ = some (.bool b2) ∧ w'.cell? ⟨w4.heap.size, 0, none⟩ = some (.slice A t.length cA) ∧ w'.cell? ⟨w4.heap.size, 1, none⟩ = some (.slice B l.length cB) ∧ w'.cell? ⟨w4.heap.size, 2, none⟩ = some (.int .i64 k) ∧ w'.cell? ⟨w4.heap.size, 3, none⟩ = some (.bool b1) ∧ w'.cell? ⟨w4.heap.size, 4, none⟩ = some (.bool b2) ∧ NbOwn w' w3.heap.size A cA B cB t l ∧ Below w6.heap.size w6 w')
      (first | with_reducible assumption | (with_reducible refine nb_hold_drew ?_; with_reducible assumption) | (with_reducible refine nb_hold ?_ (by with_reducible assumption); with_reducible assumption))
      (first
        | (go_at_call 8; with_reducible refine (TOS.out _ (by with_reducible assumption)).mono ?_; rintro e w8 ⟨C, cC, D, cD, rfl, ho', hb'⟩)
        | (go_at_call 10; with_reducible refine (EQS.out _ _ _ _ _ _ (by with_reducible assumption) (by first | with_reducible assumption | (with_reducible refine NbOwn.drew ?_; with_reducible assumption))).mono ?_; rintro e w9 ⟨rfl, hb9⟩))
    all_goals
      go_wp2
      go_ret
      exact ⟨rfl, below_up B6.out (nb_held_below (by with_reducible assumption)) B6.out.size⟩

set_option maxRecDepth 100000 in
set_option maxHeartbeats 4000000 in
/-- The law's own walk, by contracts of the two texts. -/
theorem fnExactPred_walk (mode : Int) (a1 : Option Addr) (n1 c1 : Nat) (z1 : List Int) (a2 : Option Addr) (n2 c2 : Nat) (z2 : List Int) (k : Int) (b1 b2 : Bool) (n : Int) (wf_mode : (Lit.int .i64 mode).wf = true) (wf_k : (Lit.int .i64 k).wf = true) (wf_n : (Lit.int .i64 n).wf = true) (w : World) (h1 : IsRow .i64 w a1 n1 c1 z1) (h2 : IsRow .i64 w a2 n2 c2 z2) :
    Calls Try.prog 4 #[.int .i64 mode, .agg #[.slice a1 n1 c1, .slice a2 n2 c2, .int .i64 k, .bool b1, .bool b2], .int .i64 n] w fun e w' => e = .returned (.bool true) ∧ Below w.heap.size w w' := by
  have hl1 := h1.len_le; have hl2 := h2.len_le
  unfold maxLen at hl1 hl2
  have SZ := Lib.hid (sznb_any a1 a2 n1 c1 n2 c2 k b1 b2 (by omega) (by omega))
  by_cases hbig : ¬ n1 + n2 ≤ 1048576
  · rw [if_neg hbig] at SZ
    clear h1 h2 hl1 hl2 hbig
    go_enter Try.func4, Try.ntmps4
    go_wp2_with fail
    refine (SZ.out _).mono ?_
    rintro e w1 ⟨rfl, hb⟩
    have B := Lib.hid (below_up (below_new w _) hb (below_new w _).size); clear hb
    go_wp2
    go_ret
    exact ⟨rfl, B.out⟩
  · rw [if_pos (by omega)] at SZ
    have hq : decide (1048576 - (n1 : Int) - (n2 : Int) < 0) = false := by simp; omega
    obtain ⟨t, rfl, hT, _, hc1⟩ := ints_of h1 (by omega)
    obtain ⟨l, rfl, hL, _, hc2⟩ := ints_of h2 (by omega)
    have ht : t.length ≤ 1048576 := by omega
    have hl : l.length ≤ 1048576 := by omega
    have R1 := Lib.hid hT; have R2 := Lib.hid hL
    have TO := Lib.hid fun w hA hB => tonb_any a1 a2 c1 c2 t l k b1 b2 ht hl w hA hB
    have EQ := Lib.hid fun A B C D cA cB cC cD w hA hB hC hD => eqnb_same A B C D cA cB cC cD t l k b1 b2 ht hl w hA hB hC hD
    have MK := Lib.hid fun base A B cA cB w hO => marknb_any base A B cA cB t l k b1 b2 ht hl w hO
    have EI := Lib.hid @eqints_any; have MI := Lib.hid @markints_any; have HI := Lib.hid @heldints_any
    have SP := Lib.hid (fun A cA B cB w hT hL (hc : t.length ≤ cA) (hd : l.length ≤ cB) => spec_pred_any mode A cA B cB t l k b1 b2 n w hT hL hc)
    have IM := Lib.hid (fun A cA B cB w hT hL (hc : t.length ≤ cA) (hd : l.length ≤ cB) => impl_pred_any mode A cA B cB t l k b1 b2 n w hT hL hc)
    have hxl := prdL_len mode t l k b1 b2 n
    obtain ⟨x, hx⟩ : ∃ x, x = prdL mode t l k b1 b2 n := ⟨_, rfl⟩
    rw [← hx] at SP IM hxl
    clear hx
    have hm0 : decide ((1 : Int) + (x.length : Int) < 0) = false := by simp; omega
    have hq0 : ((1 : Int) + (x.length : Int) != 1 + (x.length : Int)) = false := by simp
    have hmk : decide ((1 : Int) + (t.length : Int) + (l.length : Int) < 0) = false := by simp; omega
    clear h1 h2 hT hL hl1 hl2 hbig
    go_enter Try.func4, Try.ntmps4
    go_wp2_with fail
    refine (SZ.out _).mono ?_
    rintro e w1 ⟨rfl, hb⟩
    have H1 := Lib.hid (cell_kept (heap_alloc_new w (.cells #[.slice a1 t.length c1, .slice a2 l.length c2, .int .i64 k, .bool b1, .bool b2] 24)) hb)
    have B1 := Lib.hid (below_up (below_new w (.cells #[.slice a1 t.length c1, .slice a2 l.length c2, .int .i64 k, .bool b1, .bool b2] 24)) hb (below_new w (.cells #[.slice a1 t.length c1, .slice a2 l.length c2, .int .i64 k, .bool b1, .bool b2] 24)).size)
    obtain ⟨c0, c1', c2', c3, c4⟩ := cells5 H1.out
    clear hb SZ
    go_wp2_with fail
    refine (TO.out _ ((R1.out.below B1.out (Nat.le_refl _)).mono B1.out.size) ((R2.out.below B1.out (Nat.le_refl _)).mono B1.out.size)).mono ?_
    rintro e w2 ⟨A0, cA0, B0, cB0, rfl, ho, hb⟩
    have P2 := Lib.hid ho; have H2 := Lib.hid (cell_kept H1.out hb); have B2 := Lib.hid (below_up B1.out hb B1.out.size)
    have hcp := ho.caps
    clear ho hb H1 B1 c0 c1' c2' c3 c4
    go_wp2_with fail
    refine (SP.out A0 cA0 B0 cB0 _ (P2.out.top ht) (P2.out.left hl) hcp.1 hcp.2).mono ?_
    rintro e w3 ⟨AY, cY, rfl, hoy, hb⟩
    have Y3 := Lib.hid (hoy.ints (by omega)); have SY3 := Lib.hid (Nat.le_refl w3.heap.size); clear hoy
    have H3 := Lib.hid (cell_kept H2.out hb); have B3 := Lib.hid (below_up B2.out hb B2.out.size)
    obtain ⟨c0, c1', c2', c3, c4⟩ := cells5 H3.out
    clear hb H2 B2 P2 hcp
    go_wp2_with fail
    refine (TO.out _ ((R1.out.below B3.out (Nat.le_refl _)).mono B3.out.size) ((R2.out.below B3.out (Nat.le_refl _)).mono B3.out.size)).mono ?_
    rintro e w4 ⟨A, cA, B, cB, rfl, ho, hb⟩
    have nb := below_new w4 (.cells #[.slice A t.length cA, .slice B l.length cB, .int .i64 k, .bool b1, .bool b2] 27)
    have hcp := ho.caps
    have X5 := Lib.hid (ho.kept nb (Nat.le_refl _)); have H4 := Lib.hid (cell_kept H3.out hb); have B4 := Lib.hid (below_up B3.out hb B3.out.size)
    have Y4 := Lib.hid (Y3.out.below hb SY3.out); have SY4 := Lib.hid (Nat.le_trans SY3.out hb.size); clear Y3 SY3
    have H5 := Lib.hid (cell_kept H4.out nb); have B5 := Lib.hid (below_up B4.out nb B4.out.size); have K5 := Lib.hid (heap_alloc_new w4 (.cells #[.slice A t.length cA, .slice B l.length cB, .int .i64 k, .bool b1, .bool b2] 27))
    have Y5 := Lib.hid (Y4.out.below nb SY4.out); have SY5 := Lib.hid (Nat.le_trans SY4.out nb.size); clear Y4 SY4
    have XB := Lib.hid ho.blocks; have SX := Lib.hid (heap_lt H3.out); have Y4s := Lib.hid hb.size; have B4s := Lib.hid (heap_lt H4.out)
    clear ho hb nb H3 B3 H4 B4 c0 c1' c2' c3 c4
    go_wp2_with fail
    refine (IM.out A cA B cB _ (X5.out.top ht) (X5.out.left hl) hcp.1 hcp.2).mono ?_
    rintro e w6 ⟨AG, cG, rfl, hog, hb⟩
    have G6 := Lib.hid hog; have SG6 := Lib.hid hb.size; clear hog
    have X6 := Lib.hid (X5.out.kept hb (Nat.le_refl _)); have H6 := Lib.hid (cell_kept H5.out hb); have K6 := Lib.hid (cell_kept K5.out hb); have B6 := Lib.hid (below_up B5.out hb B5.out.size)
    have Y6 := Lib.hid (Y5.out.below hb SY5.out); have SY6 := Lib.hid (Nat.le_trans SY5.out hb.size); clear Y5 SY5
    clear hb X5 H5 K5 B5 hcp
    go_wp2_with fail
    refine (EI.out AG AY cG cY x x _ (G6.out.ints (by omega)) (Y6.out.mono SY6.out)).mono ?_
    rintro e w7 ⟨rfl, hb⟩
    have G7 := Lib.hid (G6.out.kept hb (Nat.le_refl _)); have X7 := Lib.hid (X6.out.kept hb (Nat.le_refl _)); have H7 := Lib.hid (cell_kept H6.out hb); have K7 := Lib.hid (cell_kept K6.out hb); have B7 := Lib.hid (below_up B6.out hb B6.out.size); have SG7 := Lib.hid (Nat.le_trans SG6.out hb.size)
    have Y7 := Lib.hid (Y6.out.below hb SY6.out); have SY7 := Lib.hid (Nat.le_trans SY6.out hb.size); clear Y6 SY6
    clear hb G6 SG6 X6 H6 K6 B6
    obtain ⟨c0, c1', c2', c3, c4⟩ := cells5 H7.out
    obtain ⟨d0, d1, d2, d3, d4⟩ := cells5 K7.out
    have hS : w7.cell? ⟨w.heap.size, 0, none⟩ = some (.slice a1 t.length c1) ∧ w7.cell? ⟨w.heap.size, 1, none⟩ = some (.slice a2 l.length c2) ∧ w7.cell? ⟨w.heap.size, 2, none⟩ = some (.int .i64 k) ∧ w7.cell? ⟨w.heap.size, 3, none⟩ = some (.bool b1) ∧ w7.cell? ⟨w.heap.size, 4, none⟩ = some (.bool b2) ∧ w7.cell? ⟨w4.heap.size, 0, none⟩ = some (.slice A t.length cA) ∧ w7.cell? ⟨w4.heap.size, 1, none⟩ = some (.slice B l.length cB) ∧ w7.cell? ⟨w4.heap.size, 2, none⟩ = some (.int .i64 k) ∧ w7.cell? ⟨w4.heap.size, 3, none⟩ = some (.bool b1) ∧ w7.cell? ⟨w4.heap.size, 4, none⟩ = some (.bool b2) ∧ NbOwn w7 w3.heap.size A cA B cB t l ∧ Below w7.heap.size w7 w7 := ⟨c0, c1', c2', c3, c4, d0, d1, d2, d3, d4, X7.out, Below.refl _ _⟩
    have TOS : Hid (∀ wr, (wr.cell? ⟨w.heap.size, 0, none⟩ = some (.slice a1 t.length c1) ∧ wr.cell? ⟨w.heap.size, 1, none⟩ = some (.slice a2 l.length c2) ∧ wr.cell? ⟨w.heap.size, 2, none⟩ = some (.int .i64 k) ∧ wr.cell? ⟨w.heap.size, 3, none⟩ = some (.bool b1) ∧ wr.cell? ⟨w.heap.size, 4, none⟩ = some (.bool b2) ∧ wr.cell? ⟨w4.heap.size, 0, none⟩ = some (.slice A t.length cA) ∧ wr.cell? ⟨w4.heap.size, 1, none⟩ = some (.slice B l.length cB) ∧ wr.cell? ⟨w4.heap.size, 2, none⟩ = some (.int .i64 k) ∧ wr.cell? ⟨w4.heap.size, 3, none⟩ = some (.bool b1) ∧ wr.cell? ⟨w4.heap.size, 4, none⟩ = some (.bool b2) ∧ NbOwn wr w3.heap.size A cA B cB t l ∧ Below w7.heap.size w7 wr) → Calls Try.prog 8 #[.agg #[.slice a1 t.length c1, .slice a2 l.length c2, .int .i64 k, .bool b1, .bool b2]] wr fun e w' => ∃ A' cA' B' cB', e = .returned (.agg #[.slice A' t.length cA', .slice B' l.length cB', .int .i64 k, .bool b1, .bool b2]) ∧ NbOwn w' wr.heap.size A' cA' B' cB' t l ∧ Below wr.heap.size wr w') := Lib.hid fun wr h => TO.out wr ((R1.out.below (below_up B7.out (nb_held_below h) B7.out.size) (Nat.le_refl _)).mono (below_up B7.out (nb_held_below h) B7.out.size).size) ((R2.out.below (below_up B7.out (nb_held_below h) B7.out.size) (Nat.le_refl _)).mono (below_up B7.out (nb_held_below h) B7.out.size).size)
    have EQS : Hid (∀ wr C cC D cD bs, (wr.cell? ⟨w.heap.size, 0, none⟩ = some (.slice a1 t.length c1) ∧ wr.cell? ⟨w.heap.size, 1, none⟩ = some (.slice a2 l.length c2) ∧ wr.cell? ⟨w.heap.size, 2, none⟩ = some (.int .i64 k) ∧ wr.cell? ⟨w.heap.size, 3, none⟩ = some (.bool b1) ∧ wr.cell? ⟨w.heap.size, 4, none⟩ = some (.bool b2) ∧ wr.cell? ⟨w4.heap.size, 0, none⟩ = some (.slice A t.length cA) ∧ wr.cell? ⟨w4.heap.size, 1, none⟩ = some (.slice B l.length cB) ∧ wr.cell? ⟨w4.heap.size, 2, none⟩ = some (.int .i64 k) ∧ wr.cell? ⟨w4.heap.size, 3, none⟩ = some (.bool b1) ∧ wr.cell? ⟨w4.heap.size, 4, none⟩ = some (.bool b2) ∧ NbOwn wr w3.heap.size A cA B cB t l ∧ Below w7.heap.size w7 wr) → NbOwn wr bs C cC D cD t l → Calls Try.prog 10 #[.agg #[.slice A t.length cA, .slice B l.length cB, .int .i64 k, .bool b1, .bool b2], .agg #[.slice C t.length cC, .slice D l.length cD, .int .i64 k, .bool b1, .bool b2]] wr fun e w' => e = .returned (.bool true) ∧ Below wr.heap.size wr w') := Lib.hid fun wr C cC D cD bs h ho => EQ.out A B C D cA cB cC cD wr (h.2.2.2.2.2.2.2.2.2.2.1.top ht) (h.2.2.2.2.2.2.2.2.2.2.1.left hl) (ho.top ht) (ho.left hl)
    clear c0 c1' c2' c3 c4 d0 d1 d2 d3 d4
    go_wp2_with fail
    go_region_held3 (fun w' => w'.cell? ⟨w.heap.size, 0, none⟩ = some (.slice a1 t.length c1) ∧ w'.cell? ⟨w.heap.size, 1, none⟩ = some (.slice a2 l.length c2) ∧ w'.cell? ⟨w.heap.size, 2, none⟩ = some (.int .i64 k) ∧ w'.cell? ⟨w.heap.size, 3, none⟩ = some (.bool b1) ∧ w'.cell? ⟨w.heap.size, 4, none⟩ = some (.bool b2) ∧ w'.cell? ⟨w4.heap.size, 0, none⟩ = some (.slice A t.length cA) ∧ w'.cell? ⟨w4.heap.size, 1, none⟩ = some (.slice B l.length cB) ∧ w'.cell? ⟨w4.heap.size, 2, none⟩ = some (.int .i64 k) ∧ w'.cell? ⟨w4.heap.size, 3, none⟩ = some (.bool b1) ∧ w'.cell? ⟨w4.heap.size, 4, none⟩ = some (.bool b2) ∧ NbOwn w' w3.heap.size A cA B cB t l ∧ Below w7.heap.size w7 w')
      (first | with_reducible assumption | (with_reducible refine nb_hold_drew ?_; with_reducible assumption) | (with_reducible refine nb_hold ?_ (by with_reducible assumption); with_reducible assumption))
      (first
        | (go_at_call 8; with_reducible refine (TOS.out _ (by with_reducible assumption)).mono ?_; rintro e w8 ⟨C, cC, D, cD, rfl, ho', hb'⟩)
        | (go_at_call 10; with_reducible refine (EQS.out _ _ _ _ _ _ (by with_reducible assumption) (by first | with_reducible assumption | (with_reducible refine NbOwn.drew ?_; with_reducible assumption))).mono ?_; rintro e w9 ⟨rfl, hb9⟩))
    all_goals
      have hb : Below w7.heap.size w7 w9 := nb_held_below (by with_reducible assumption)
      have G9 := Lib.hid (G7.out.kept hb (Nat.le_refl _)); have X9 := Lib.hid (X7.out.kept hb (Nat.le_refl _)); have H9 := Lib.hid (cell_kept H7.out hb); have K9 := Lib.hid (cell_kept K7.out hb); have B9 := Lib.hid (below_up B7.out hb B7.out.size); have SG9 := Lib.hid (Nat.le_trans SG7.out hb.size)
      have Y9 := Lib.hid (Y7.out.below hb SY7.out); have SY9 := Lib.hid (Nat.le_trans SY7.out hb.size)
      clear hb G7 X7 H7 K7 B7 SG7 Y7 SY7 TOS EQS
      obtain ⟨d0, d1, d2, d3, d4⟩ := cells5 K9.out
      go_wp2_with fail
      refine (MK.out _ _ _ _ _ _ X9.out).mono ?_
      rintro e w10 ⟨rfl, wm, hg1, hg2⟩
      obtain ⟨xb1, xb2⟩ := XB.out
      have hsx := SX.out
      have G10 := Lib.hid (own_two_marked G9.out hg1 hg2 (fun j hj => by have := (xb1 j hj).2; simp; omega) (fun j hj => by have := (xb2 j hj).2; simp; omega))
      have Y10 := Lib.hid (ints_two_marked Y9.out SY9.out hg1 hg2 (fun j hj => (xb1 j hj).1) (fun j hj => (xb2 j hj).1))
      have B10 := Lib.hid (below_two_marked B9.out B9.out.size hg1 hg2 (fun j hj => by have := (xb1 j hj).1; omega) (fun j hj => by have := (xb2 j hj).1; omega))
      have H10 := Lib.hid (heap_two_marked H9.out hg1 hg2 (fun j hj => by have := (xb1 j hj).1; omega) (fun j hj => by have := (xb2 j hj).1; omega))
      have SG10 := Lib.hid (Nat.le_trans SG9.out (Nat.le_trans hg1.size hg2.size)); have SY10 := Lib.hid (Nat.le_trans SY9.out (Nat.le_trans hg1.size hg2.size))
      clear hg1 hg2 xb1 xb2 hsx d0 d1 d2 d3 d4 G9 Y9 B9 H9 SG9 SY9 X9 K9 XB SX
      go_wp2_with fail
      refine (EI.out AG AY cG cY x x _ (G10.out.ints (by omega)) (Y10.out.mono SY10.out)).mono ?_
      rintro e w11 ⟨rfl, hb⟩
      have G11 := Lib.hid (G10.out.kept hb (Nat.le_refl _)); have Y11 := Lib.hid (Y10.out.below hb SY10.out); have SY11 := Lib.hid (Nat.le_trans SY10.out hb.size); have SG11 := Lib.hid (Nat.le_trans SG10.out hb.size); have H11 := Lib.hid (cell_kept H10.out hb); have B11 := Lib.hid (below_up B10.out hb B10.out.size)
      clear hb G10 Y10 SY10 SG10 H10 B10
      go_wp2_with fail
      refine (MI.out _ _ _ _ _ (by omega) (by omega) (by omega) _ G11.out).mono ?_
      rintro e w12 ⟨rfl, ho, hg⟩
      have hgb := G11.out.block
      have Gm12 := Lib.hid (ho.ints (by rw [markL_len]; omega)); have SGm12 := Lib.hid (Nat.le_refl w12.heap.size)
      have Y12 := Lib.hid (Y11.out.grown hg SY11.out fun j hj => by have := (hgb j hj).1; have h2 := Y4s.out; simp at this; omega); have SY12 := Lib.hid (Nat.le_trans SY11.out hg.size)
      have B12 := Lib.hid (B11.out.grown hg B11.out.size fun j hj => by have := (hgb j hj).1; have h2 := B4s.out; simp at this; omega)
      have H12 := Lib.hid ((hg.block w.heap.size (heap_lt H11.out) (fun e => by have := (hgb _ e.symm).1; have h2 := B4s.out; simp at this; omega)).trans H11.out)
      clear ho hg hgb G11 Y11 SY11 SG11 H11 B11
      go_wp2_with fail
      refine (HI.out _ _ _ _ (by omega) (by omega) _ (Gm12.out.mono SGm12.out)).mono ?_
      rintro e w13 ⟨rfl, hb⟩
      have Gm13 := Lib.hid (Gm12.out.below hb SGm12.out); have SGm13 := Lib.hid (Nat.le_trans SGm12.out hb.size); have Y13 := Lib.hid (Y12.out.below hb SY12.out); have SY13 := Lib.hid (Nat.le_trans SY12.out hb.size); have H13 := Lib.hid (cell_kept H12.out hb); have B13 := Lib.hid (below_up B12.out hb B12.out.size)
      clear hb Gm12 SGm12 Y12 SY12 H12 B12
      obtain ⟨c0, c1', c2', c3, c4⟩ := cells5 H13.out
      go_wp2_with fail
      refine (TO.out _ ((R1.out.below B13.out (Nat.le_refl _)).mono B13.out.size) ((R2.out.below B13.out (Nat.le_refl _)).mono B13.out.size)).mono ?_
      rintro e w14 ⟨C, cC, D, cD, rfl, ho, hb⟩
      have Z14 := Lib.hid ho; have hcp := ho.caps; clear ho
      clear c0 c1' c2' c3 c4
      have Gm14 := Lib.hid (Gm13.out.below hb SGm13.out); have SGm14 := Lib.hid (Nat.le_trans SGm13.out hb.size); have Y14 := Lib.hid (Y13.out.below hb SY13.out); have SY14 := Lib.hid (Nat.le_trans SY13.out hb.size); have H14 := Lib.hid (cell_kept H13.out hb); have B14 := Lib.hid (below_up B13.out hb B13.out.size)
      clear hb Gm13 SGm13 Y13 SY13 H13 B13
      go_wp2_with fail
      refine (IM.out C cC D cD _ (Z14.out.top ht) (Z14.out.left hl) hcp.1 hcp.2).mono ?_
      rintro e w15 ⟨AH, cH, rfl, hoh, hb⟩
      have Q15 := Lib.hid (hoh.ints (by omega)); clear hoh Z14 hcp
      have Gm15 := Lib.hid (Gm14.out.below hb SGm14.out); have SGm15 := Lib.hid (Nat.le_trans SGm14.out hb.size); have Y15 := Lib.hid (Y14.out.below hb SY14.out); have SY15 := Lib.hid (Nat.le_trans SY14.out hb.size); have H15 := Lib.hid (cell_kept H14.out hb); have B15 := Lib.hid (below_up B14.out hb B14.out.size)
      clear hb Gm14 SGm14 Y14 SY14 H14 B14
      go_wp2_with fail
      refine (EI.out AH AY cH cY x x _ Q15.out (Y15.out.mono SY15.out)).mono ?_
      rintro e w16 ⟨rfl, hb⟩
      clear Q15
      have Gm16 := Lib.hid (Gm15.out.below hb SGm15.out); have SGm16 := Lib.hid (Nat.le_trans SGm15.out hb.size); have Y16 := Lib.hid (Y15.out.below hb SY15.out); have SY16 := Lib.hid (Nat.le_trans SY15.out hb.size); have H16 := Lib.hid (cell_kept H15.out hb); have B16 := Lib.hid (below_up B15.out hb B15.out.size)
      clear hb Gm15 SGm15 Y15 SY15 H15 B15
      go_wp2_with fail
      refine (HI.out _ _ _ _ (by omega) (by omega) _ (Gm16.out.mono SGm16.out)).mono ?_
      rintro e w17 ⟨rfl, hb⟩
      have Gm17 := Lib.hid (Gm16.out.below hb SGm16.out); have SGm17 := Lib.hid (Nat.le_trans SGm16.out hb.size); have Y17 := Lib.hid (Y16.out.below hb SY16.out); have SY17 := Lib.hid (Nat.le_trans SY16.out hb.size); have H17 := Lib.hid (cell_kept H16.out hb); have B17 := Lib.hid (below_up B16.out hb B16.out.size)
      clear hb Gm16 SGm16 Y16 SY16 H16 B16
      go_wp2
      go_ret
      exact ⟨rfl, B17.out⟩

end Go.Proofs.Yteafnokhefdmpaa
