/-
  Contracts of chapter 2's draws as wholes: a text, a number with a width: each returns, and its answer depends on the input's bytes alone. Condition: the input is no longer than 1048576 bytes.
-/
import Derived.Test.YtkefplaffppklaaDraw2
import Derived.Test.YtkefplaffppklaaCode
namespace Go.Proofs.Ytkefplaffppklaa
open Go.RowKit
set_option linter.unusedVariables false

theorem pow_mono_i (k m : Nat) (h : k ≤ m) : (2 : Int) ^ k ≤ 2 ^ m := by have := Nat.pow_le_pow_right (n := 2) (by decide) h; exact_mod_cast this
theorem pow_pos_i (k : Nat) : (0 : Int) < 2 ^ k := by have := Nat.pow_pos (n := k) (show 0 < 2 by decide); exact_mod_cast this

set_option maxRecDepth 100000 in
set_option maxHeartbeats 1000000 in
theorem drawBitsIn_det (A : Option Addr) (cap : Nat) (zs : List Int) : ∃ n k : Int, (Lit.int .i64 n).wf = true ∧ (Lit.int .i64 k).wf = true ∧ ∀ w : World, Code w A zs →
    Calls Try.prog 26 #[.slice A zs.length cap] w fun e w' => e = .returned (.tuple #[.int .i64 n, .int .i64 k]) ∧ Below w.heap.size w w' := by
  obtain ⟨x, i1, h1, a1, b1, _, l1, C1⟩ := below_det A cap zs 0 (hashF zs (min zs.length 4000)) (Nat.zero_le _) 16
  have b1 := b1 (by decide)
  obtain ⟨x, rfl⟩ := Int.eq_ofNat_of_zero_le a1
  have hx16 : x ≤ 15 := by omega
  obtain ⟨P, hP⟩ : ∃ P : Int, P = 2 ^ x := ⟨_, rfl⟩
  have hP0 : 0 < P := by rw [hP]; exact pow_pos_i x
  have hP1 : P ≤ 32768 := by rw [hP]; exact pow_mono_i x 15 hx16
  obtain ⟨y, i2, h2, a2, b2, _, l2, C2⟩ := below_det A cap zs i1 h1 l1 P
  have b2 := b2 hP0
  obtain ⟨b, i3, h3, l3, C3⟩ := once_det A cap zs i2 h2 l2 4
  have HC1 := Lib.hid C1; clear C1
  have HC2 := Lib.hid C2; clear C2
  have HC3 := Lib.hid C3; clear C3
  have hpw : wrap64 (2 ^ x) = P := by rw [← hP]; unfold wrap64; omega
  have HP := Lib.hid hP; clear hP
  cases b with
  | false =>
    refine ⟨y, x, by simp [Lit.wf, IntKind.min, IntKind.max, IntKind.signed, IntKind.bits]; omega, by simp [Lit.wf, IntKind.min, IntKind.max, IntKind.signed, IntKind.bits]; omega, fun w hW => ?_⟩
    have HN := Lib.hid (new_any A cap zs hW.few hW.bytes w hW.lies)
    clear hW
    go_enter Try.func26, Try.ntmps26
    go_wp2_with fail
    refine HN.out.mono ?_
    rintro e w1 ⟨rfl, hC, hb1⟩
    have HC := Lib.hid hC; clear hC
    go_wp2_with fail
    refine (HC1.out _ _ HC.out).mono ?_
    rintro e w2 ⟨rfl, hC2, hg2⟩
    have G2 := Lib.hid hC2; clear hC2
    go_wp2_with fail
    refine (HC2.out _ _ G2.out).mono ?_
    rintro e w3 ⟨rfl, hC3, hg3⟩
    have G3 := Lib.hid hC3; clear hC3
    go_wp2_with fail
    refine (HC3.out _ _ G3.out).mono ?_
    rintro e w4 ⟨rfl, hC4, hg4⟩
    have G4 := Lib.hid hC4; clear hC4
    go_wp2
    go_ret2
    have e2 := hb1.trans (grown_below hg2 (Nat.le_refl _) hb1.size)
    have e3 := e2.trans (grown_below hg3 (Nat.le_refl _) e2.size)
    exact ⟨rfl, e3.trans (grown_below hg4 (Nat.le_refl _) e3.size)⟩
  | true =>
    obtain ⟨c, i4, h4, hc, l4, C4⟩ := pickint_det A cap zs i3 h3 l3 [-1, P, 281474976710655, 0] (by simp) (by simp)
    obtain ⟨d, i5, h5, hd, l5, C5⟩ := pickint_det A cap zs i4 h4 l4 [(x : Int), 48, 49, -1] (by simp) (by simp)
    have HC4 := Lib.hid C4; clear C4
    have HC5 := Lib.hid C5; clear C5
    have hcr : -1 ≤ [-1, P, 281474976710655, 0].getD c 0 ∧ [-1, P, 281474976710655, 0].getD c 0 ≤ 281474976710655 := by
      have : c = 0 ∨ c = 1 ∨ c = 2 ∨ c = 3 := by simp at hc; omega
      rcases this with rfl | rfl | rfl | rfl <;> simp <;> omega
    have hdr : -1 ≤ [(x : Int), 48, 49, -1].getD d 0 ∧ [(x : Int), 48, 49, -1].getD d 0 ≤ 49 := by
      have : d = 0 ∨ d = 1 ∨ d = 2 ∨ d = 3 := by simp at hd; omega
      rcases this with rfl | rfl | rfl | rfl <;> simp <;> omega
    obtain ⟨u, hu⟩ : ∃ u, u = [-1, P, 281474976710655, 0].getD c 0 := ⟨_, rfl⟩
    obtain ⟨v, hv⟩ : ∃ v, v = [(x : Int), 48, 49, -1].getD d 0 := ⟨_, rfl⟩
    rw [← hu] at hcr HC4
    rw [← hv] at hdr HC5
    refine ⟨u, v, by simp [Lit.wf, IntKind.min, IntKind.max, IntKind.signed, IntKind.bits]; omega, by simp [Lit.wf, IntKind.min, IntKind.max, IntKind.signed, IntKind.bits]; omega, fun w hW => ?_⟩
    have HN := Lib.hid (new_any A cap zs hW.few hW.bytes w hW.lies)
    clear hW hu hv hcr hdr hc hd
    go_enter Try.func26, Try.ntmps26
    go_wp2_with fail
    refine HN.out.mono ?_
    rintro e w1 ⟨rfl, hC, hb1⟩
    have HC := Lib.hid hC; clear hC
    go_wp2_with fail
    refine (HC1.out _ _ HC.out).mono ?_
    rintro e w2 ⟨rfl, hC2, hg2⟩
    have G2 := Lib.hid hC2; clear hC2
    go_wp2_with fail
    refine (HC2.out _ _ G2.out).mono ?_
    rintro e w3 ⟨rfl, hC3, hg3⟩
    have G3 := Lib.hid hC3; clear hC3
    go_wp2_with fail
    refine (HC3.out _ _ G3.out).mono ?_
    rintro e w4 ⟨rfl, hC4, hg4⟩
    have G4 := Lib.hid hC4; clear hC4
    go_wp2_with fail
    refine (HC4.out _ _ _ (G4.out.alloc _) (heap_alloc_new w4 _) (by have := G4.out.lt; omega)).mono ?_
    rintro e w5 ⟨rfl, hC5, hg5⟩
    have G5 := Lib.hid hC5; clear hC5
    go_wp2_with fail
    refine (HC5.out _ _ _ (G5.out.alloc _) (heap_alloc_new w5 _) (by have := G5.out.lt; omega)).mono ?_
    rintro e w6 ⟨rfl, hC6, hg6⟩
    have G6 := Lib.hid hC6; clear hC6
    go_wp2
    go_ret2
    have e2 := hb1.trans (grown_below hg2 (Nat.le_refl _) hb1.size)
    have e3 := e2.trans (grown_below hg3 (Nat.le_refl _) e2.size)
    have e4 := e3.trans (grown_below hg4 (Nat.le_refl _) e3.size)
    have e5 := (e4.alloc e4.size _).trans (grown_below hg5 (Nat.le_refl _) (by have := e4.size; simp; omega))
    exact ⟨rfl, (e5.alloc e5.size _).trans (grown_below hg6 (Nat.le_refl _) (by have := e5.size; simp; omega))⟩
end Go.Proofs.Ytkefplaffppklaa
