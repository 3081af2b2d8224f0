/-
  The contract of the model's Pred, at any arguments. Condition: a slice is no longer than it holds.
-/
import Derived.Test.YtjgbenhjafgimaaPrE
namespace Go.Proofs.Ytjgbenhjafgimaa
open Go.RowKit
set_option linter.unusedVariables false

theorem prdL_off {mode : Int} {t l : List Int} {k : Int} {b1 b2 : Bool} {n : Int} (h : ¬ (nbOk t l k n = true ∧ mdOk mode = true)) : prdL mode t l k b1 b2 n = [] := by unfold prdL; rw [if_neg h]
set_option maxRecDepth 100000 in
set_option maxHeartbeats 2000000 in
theorem spec_pred_any (mode : Int) (A : Option Addr) (cA : Nat) (B : Option Addr) (cB : Nat) (t l : List Int) (k : Int) (b1 b2 : Bool) (n : Int) (w : World) (hT : Ints w w.heap.size A t) (hL : Ints w w.heap.size B l) (hcA : t.length ≤ cA) :
    Calls Try.prog 14 #[.int .i64 mode, .agg #[.slice A t.length cA, .slice B l.length cB, .int .i64 k, .bool b1, .bool b2], .int .i64 n] w fun e w' => ∃ A' c, e = .returned (.slice A' (prdL mode t l k b1 b2 n).length c) ∧ OwnI w' w.heap.size A' c (prdL mode t l k b1 b2 n) ∧ Below w.heap.size w w' := by
  have NK := Lib.hid fun w h1 h2 => spec_nbok_any A cA B cB t l k b1 b2 n w h1 h2
  have bt := below_two w (.cells #[.slice A t.length cA, .slice B l.length cB, .int .i64 k, .bool b1, .bool b2] 26) (.cells (ivs []).toArray 3)
  have O0 := Lib.hid (own_at' (w.alloc (.cells #[.slice A t.length cA, .slice B l.length cB, .int .i64 k, .bool b1, .bool b2] 26)) w.heap.size (w.heap.size + 1) [] (by simp) (by simp) (by simp))
  have B0 := Lib.hid bt
  have HT := Lib.hid ((hT.below bt (Nat.le_refl _)).mono bt.size)
  have HL := Lib.hid ((hL.below bt (Nat.le_refl _)).mono bt.size)
  have hnt := hT.1; have hnl := hL.1
  cases hok : nbOk t l k n with
  | false =>
    rw [hok] at NK
    rw [prdL_off (by rw [hok]; simp)]
    clear hok hT hL bt hcA
    go_enter Try.func14, Try.ntmps14
    go_wp2
    go_loopw [7, 8, 9] (fun v x8 x9 wr => v = .slice (some ⟨w.heap.size + 1, 0, none⟩) 0 0 ∧ x8 = .int .i64 0 ∧ wr = (w.alloc (.cells #[.slice A t.length cA, .slice B l.length cB, .int .i64 k, .bool b1, .bool b2] 26)).alloc (.cells (ivs []).toArray 3))
      (fun _ _ _ _ => 0)
    case atStart => exact ⟨rfl, rfl, rfl⟩
    case round =>
      obtain ⟨rfl, rfl, rfl⟩ := hrel
      by_cases h0 : 0 < n
      · have d1 : decide (0 < n) = true := by simpa using h0
        go_wp2_with fail
        refine (NK.out _ HT.out HL.out).mono ?_
        rintro e w1 ⟨rfl, hb1⟩
        have O1 := Lib.hid (O0.out.kept hb1 (Nat.le_refl _)); have B1 := Lib.hid (below_up B0.out hb1 B0.out.size)
        clear hb1
        go_wp2
        go_ret
        exact ⟨_, _, rfl, O1.out, B1.out⟩
      · have d1 : decide (0 < n) = false := by simpa using h0
        go_wp2
        go_ret
        exact ⟨_, _, rfl, O0.out, B0.out⟩
  | true =>
    rw [hok] at NK
    cases hmd : mdOk mode with
    | false =>
      rw [prdL_off (by rw [hmd]; simp)]
      have MW := Lib.hid (spec_modeword_any mode)
      have hmw := mwS_word mode
      rw [hmd] at hmw
      obtain ⟨ms, hms⟩ : ∃ s, s = mwS mode := ⟨_, rfl⟩
      rw [← hms] at MW hmw
      have h0 : 0 < n := by obtain ⟨m, rfl, hm, _⟩ := nbOk_side hok; omega
      have d1 : decide (0 < n) = true := by simpa using h0
      clear hok hT hL bt hcA hmd hms
      go_enter Try.func14, Try.ntmps14
      go_wp2
      go_loopw [7, 8, 9] (fun v x8 x9 wr => v = .slice (some ⟨w.heap.size + 1, 0, none⟩) 0 0 ∧ x8 = .int .i64 0 ∧ wr = (w.alloc (.cells #[.slice A t.length cA, .slice B l.length cB, .int .i64 k, .bool b1, .bool b2] 26)).alloc (.cells (ivs []).toArray 3))
        (fun _ _ _ _ => 0)
      case atStart => exact ⟨rfl, rfl, rfl⟩
      case round =>
        obtain ⟨rfl, rfl, rfl⟩ := hrel
        go_wp2_with fail
        refine (NK.out _ HT.out HL.out).mono ?_
        rintro e w1 ⟨rfl, hb1⟩
        have O1 := Lib.hid (O0.out.kept hb1 (Nat.le_refl _)); have B1 := Lib.hid (below_up B0.out hb1 B0.out.size)
        clear hb1
        go_wp2_with fail
        refine (MW.out _).mono ?_
        rintro e w2 ⟨rfl, hb2⟩
        have O2 := Lib.hid (O1.out.kept hb2 (Nat.le_refl _)); have B2 := Lib.hid (below_up B1.out hb2 B1.out.size)
        clear hb2
        go_wp2
        go_ret
        exact ⟨_, _, rfl, O2.out, B2.out⟩
    | true =>
      have PA := Lib.hid fun x y w h1 h2 => spec_predat_any mode A cA B cB t l k b1 b2 n x y w h1 h2 hcA
      obtain ⟨m, rfl, hm, ht, hl, _⟩ := nbOk_side hok
      have e1 : prdL mode t l k b1 b2 (m : Int) = prdF t l k b1 b2 m mode := by unfold prdL; rw [if_pos ⟨hok, hmd⟩, Int.toNat_natCast]
      have e2 : ∀ x y : Nat, x < m → y < m → predV mode t l k b1 b2 (m : Int) (x : Int) (y : Int) = predF t l k b1 b2 m mode x y := fun x y hx hy => by
        unfold predV
        rw [if_pos ⟨hok, by omega, by omega⟩, Int.toNat_natCast, Int.toNat_natCast, Int.toNat_natCast]
      rw [e1, prdF_len]
      rw [ht, hl] at NK PA ⊢
      rcases hm with rfl | rfl
      · exact spec_pred_4 mode hmd A cA B cB t l k b1 b2 hok w hT hL NK (Lib.hid fun x y w hx hy h1 h2 => by rw [← e2 x y hx hy]; exact PA.out x y w h1 h2)
      · exact spec_pred_8 mode hmd A cA B cB t l k b1 b2 hok w hT hL NK (Lib.hid fun x y w hx hy h1 h2 => by rw [← e2 x y hx hy]; exact PA.out x y w h1 h2)
end Go.Proofs.Ytjgbenhjafgimaa
