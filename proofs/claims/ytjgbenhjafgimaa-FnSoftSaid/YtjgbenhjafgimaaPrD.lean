/-
  Contracts of the model's PredAt, ModeWord and Pred. Condition: a slice is no longer than it holds.
-/
import Derived.Test.YtjgbenhjafgimaaPrB
import Derived.Test.YtjgbenhjafgimaaPrC
namespace Go.Proofs.Ytjgbenhjafgimaa
open Go.RowKit
set_option linter.unusedVariables false

theorem predV_off {mode : Int} {t l : List Int} {k : Int} {b1 b2 : Bool} {n x y : Int} (h : ¬ (nbOk t l k n = true ∧ (0 ≤ x ∧ x ≤ n - 1) ∧ (0 ≤ y ∧ y ≤ n - 1))) : predV mode t l k b1 b2 n x y = -1 := by unfold predV; rw [if_neg h]

set_option maxRecDepth 100000 in
set_option maxHeartbeats 2000000 in
theorem spec_predat_any (mode : Int) (A : Option Addr) (cA : Nat) (B : Option Addr) (cB : Nat) (t l : List Int) (k : Int) (b1 b2 : Bool) (n x y : Int) (w : World) (hT : Ints w w.heap.size A t) (hL : Ints w w.heap.size B l) (hcA : t.length ≤ cA) :
    Calls Try.prog 48 #[.int .i64 mode, .agg #[.slice A t.length cA, .slice B l.length cB, .int .i64 k, .bool b1, .bool b2], .int .i64 n, .int .i64 x, .int .i64 y] w fun e w' => e = .returned (.int .i64 (predV mode t l k b1 b2 n x y)) ∧ Below w.heap.size w w' := by
  have NK := Lib.hid fun w h1 h2 => spec_nbok_any A cA B cB t l k b1 b2 n w h1 h2
  have B0 := Lib.hid (below_new w (.cells #[.slice A t.length cA, .slice B l.length cB, .int .i64 k, .bool b1, .bool b2] 26))
  have HT := Lib.hid ((hT.below B0.out (Nat.le_refl _)).mono B0.out.size)
  have HL := Lib.hid ((hL.below B0.out (Nat.le_refl _)).mono B0.out.size)
  have hnt := hT.1; have hnl := hL.1
  cases hok : nbOk t l k n with
  | false =>
    rw [hok] at NK
    rw [predV_off (by rw [hok]; simp)]
    clear hok hT hL hcA
    go_enter Try.func48, Try.ntmps48
    go_wp2_with fail
    refine (NK.out _ HT.out HL.out).mono ?_
    rintro e w1 ⟨rfl, hb1⟩
    have B1 := Lib.hid (below_up B0.out hb1 B0.out.size)
    clear hb1
    go_wp2
    go_ret
    exact ⟨rfl, B1.out⟩
  | true =>
    rw [hok] at NK
    have hside := nbOk_side hok
    have hn48 : n = 4 ∨ n = 8 := by obtain ⟨m, rfl, hm, _⟩ := hside; omega
    by_cases hx : 0 ≤ x ∧ x ≤ n - 1
    rotate_left
    · rw [predV_off (fun h => hx h.2.1)]
      have X1 := Lib.hid (l1in_off x (n - 1) hx)
      clear hok hT hL hcA hside hx
      go_enter Try.func48, Try.ntmps48
      go_wp2_with fail
      refine (NK.out _ HT.out HL.out).mono ?_
      rintro e w1 ⟨rfl, hb1⟩
      have B1 := Lib.hid (below_up B0.out hb1 B0.out.size)
      clear hb1
      go_wp2_with fail
      refine (X1.out _).mono ?_
      rintro e wx ⟨rfl, hw⟩
      subst hw
      go_wp2
      go_ret
      exact ⟨rfl, B1.out⟩
    · by_cases hy : 0 ≤ y ∧ y ≤ n - 1
      rotate_left
      · rw [predV_off (fun h => hy h.2.2)]
        have X1 := Lib.hid (l1in_at x (n - 1) hx)
        have Y1 := Lib.hid (l1in_off y (n - 1) hy)
        clear hok hT hL hcA hside hx hy
        go_enter Try.func48, Try.ntmps48
        go_wp2_with fail
        refine (NK.out _ HT.out HL.out).mono ?_
        rintro e w1 ⟨rfl, hb1⟩
        have B1 := Lib.hid (below_up B0.out hb1 B0.out.size)
        clear hb1
        go_wp2_with fail
        refine (X1.out _).mono ?_
        rintro e wx ⟨rfl, hw⟩
        subst hw
        go_wp2_with fail
        refine (Y1.out _).mono ?_
        rintro e wx ⟨rfl, hw⟩
        subst hw
        go_wp2
        go_ret
        exact ⟨rfl, B1.out⟩
      · have BD := Lib.hid fun w h1 h2 => spec_border_any A cA B cB t l k b1 b2 n w h1 h2 hcA
        have MN := Lib.hid fun w h1 h2 => spec_mean_any A cA B cB t l k b1 b2 n w h1 h2 hcA
        rw [nbOk_true_bord hok] at BD
        unfold predV
        rw [if_pos ⟨hok, hx, hy⟩]
        obtain ⟨m, rfl, hm, ht, hl, hpt, hpl, hk⟩ := hside
        obtain ⟨x', rfl⟩ := Int.eq_ofNat_of_zero_le hx.1
        obtain ⟨y', rfl⟩ := Int.eq_ofNat_of_zero_le hy.1
        obtain ⟨tb, toff, rfl, htb, htc⟩ := hT.at 0 (by omega)
        obtain ⟨lb, loff, rfl, hlb, hlc⟩ := hL.at 0 (by omega)
        rw [bordF_len ht hl] at BD
        simp only [Int.toNat_natCast]
        rw [ht, hl] at NK BD MN ⊢
        rcases hm with rfl | rfl
        · obtain ⟨v0, hv0⟩ : ∃ v, v = meanV t l k b1 b2 ((4 : Nat) : Int) := ⟨_, rfl⟩
          rw [← hv0] at MN
          by_cases h0 : mode = 0
          · subst h0
            unfold predF
            rw [if_pos rfl, ← hv0]
            exact spec_predat_4_0 v0 tb toff cA lb loff cB t l k b1 b2 x' y' (by omega) (by omega) ht hl (by omega) w htb hlb htc hlc hpt hpl hk MN NK BD
          by_cases h1 : mode = 1
          · subst h1
            unfold predF
            rw [if_neg (by decide), if_pos rfl]
            exact spec_predat_4_1 tb toff cA lb loff cB t l k b1 b2 x' y' (by omega) (by omega) ht hl (by omega) w htb hlb htc hlc hpt hpl hk NK BD
          by_cases h2 : mode = 2
          · subst h2
            unfold predF
            rw [if_neg (by decide), if_neg (by decide), if_pos rfl]
            exact spec_predat_4_2 tb toff cA lb loff cB t l k b1 b2 x' y' (by omega) (by omega) ht hl (by omega) w htb hlb htc hlc hpt hpl hk NK BD
          by_cases h3 : mode = 3
          · subst h3
            unfold predF
            rw [if_neg (by decide), if_neg (by decide), if_neg (by decide), if_pos rfl]
            exact spec_predat_4_3 tb toff cA lb loff cB t l k b1 b2 x' y' (by omega) (by omega) ht hl (by omega) w htb hlb htc hlc hpt hpl hk NK BD
          by_cases h4 : mode = 4
          · subst h4
            unfold predF
            rw [if_neg (by decide), if_neg (by decide), if_neg (by decide), if_neg (by decide), if_pos rfl]
            exact spec_predat_4_4 tb toff cA lb loff cB t l k b1 b2 x' y' (by omega) (by omega) ht hl (by omega) w htb hlb htc hlc hpt hpl hk NK BD
          by_cases h5 : mode = 5
          · subst h5
            unfold predF
            rw [if_neg (by decide), if_neg (by decide), if_neg (by decide), if_neg (by decide), if_neg (by decide), if_pos rfl]
            exact spec_predat_4_5 tb toff cA lb loff cB t l k b1 b2 x' y' (by omega) (by omega) ht hl (by omega) w htb hlb htc hlc hpt hpl hk NK BD
          unfold predF
          rw [if_neg h0, if_neg h1, if_neg h2, if_neg h3, if_neg h4, if_neg h5]
          exact spec_predat_4_o mode ⟨h0, h1, h2, h3, h4, h5⟩ tb toff cA lb loff cB t l k b1 b2 x' y' (by omega) (by omega) ht hl (by omega) w htb hlb htc hlc hpt hpl hk NK BD
        · obtain ⟨v0, hv0⟩ : ∃ v, v = meanV t l k b1 b2 ((8 : Nat) : Int) := ⟨_, rfl⟩
          rw [← hv0] at MN
          by_cases h0 : mode = 0
          · subst h0
            unfold predF
            rw [if_pos rfl, ← hv0]
            exact spec_predat_8_0 v0 tb toff cA lb loff cB t l k b1 b2 x' y' (by omega) (by omega) ht hl (by omega) w htb hlb htc hlc hpt hpl hk MN NK BD
          by_cases h1 : mode = 1
          · subst h1
            unfold predF
            rw [if_neg (by decide), if_pos rfl]
            exact spec_predat_8_1 tb toff cA lb loff cB t l k b1 b2 x' y' (by omega) (by omega) ht hl (by omega) w htb hlb htc hlc hpt hpl hk NK BD
          by_cases h2 : mode = 2
          · subst h2
            unfold predF
            rw [if_neg (by decide), if_neg (by decide), if_pos rfl]
            exact spec_predat_8_2 tb toff cA lb loff cB t l k b1 b2 x' y' (by omega) (by omega) ht hl (by omega) w htb hlb htc hlc hpt hpl hk NK BD
          by_cases h3 : mode = 3
          · subst h3
            unfold predF
            rw [if_neg (by decide), if_neg (by decide), if_neg (by decide), if_pos rfl]
            exact spec_predat_8_3 tb toff cA lb loff cB t l k b1 b2 x' y' (by omega) (by omega) ht hl (by omega) w htb hlb htc hlc hpt hpl hk NK BD
          by_cases h4 : mode = 4
          · subst h4
            unfold predF
            rw [if_neg (by decide), if_neg (by decide), if_neg (by decide), if_neg (by decide), if_pos rfl]
            exact spec_predat_8_4 tb toff cA lb loff cB t l k b1 b2 x' y' (by omega) (by omega) ht hl (by omega) w htb hlb htc hlc hpt hpl hk NK BD
          by_cases h5 : mode = 5
          · subst h5
            unfold predF
            rw [if_neg (by decide), if_neg (by decide), if_neg (by decide), if_neg (by decide), if_neg (by decide), if_pos rfl]
            exact spec_predat_8_5 tb toff cA lb loff cB t l k b1 b2 x' y' (by omega) (by omega) ht hl (by omega) w htb hlb htc hlc hpt hpl hk NK BD
          unfold predF
          rw [if_neg h0, if_neg h1, if_neg h2, if_neg h3, if_neg h4, if_neg h5]
          exact spec_predat_8_o mode ⟨h0, h1, h2, h3, h4, h5⟩ tb toff cA lb loff cB t l k b1 b2 x' y' (by omega) (by omega) ht hl (by omega) w htb hlb htc hlc hpt hpl hk NK BD
end Go.Proofs.Ytjgbenhjafgimaa
