/-
  Chapter 18: what SidesOk and FrameOk answer, and the contracts of the model's own.
-/
import Derived.Test.YtemfiglflbfocaaNbV
namespace Go.Proofs.Ytemfiglflbfocaa
open Go.RowKit
set_option linter.unusedVariables false

/-- What SidesOk and FrameOk answer. -/
def sidE (x : Int) : Bool := decide (8 ≤ x) && decide (x ≤ 32)
def sidesE (a b : Int) : Bool := sidE a && sidE b && decide (a % 8 = 0) && decide (b % 8 = 0)
def frameE (a b : Int) (l : List Int) : Bool := sidesE a b && decide ((l.length : Int) = a * b) && l.all pixE
theorem sidE_true {x : Int} (h : sidE x = true) : 8 ≤ x ∧ x ≤ 32 := by simpa [sidE] using h
theorem sidesE_parts {a b : Int} (h : sidesE a b = true) : (8 ≤ a ∧ a ≤ 32) ∧ (8 ≤ b ∧ b ≤ 32) ∧ a % 8 = 0 ∧ b % 8 = 0 := by
  simp only [sidesE, Bool.and_eq_true, decide_eq_true_eq] at h
  exact ⟨sidE_true h.1.1.1, sidE_true h.1.1.2, h.1.2, h.2⟩
theorem l1in_side (x : Int) (w : World) : Calls Try.prog 63 #[.int .i64 x, .int .i64 8, .int .i64 32] w fun e w' => e = .returned (.bool (sidE x)) ∧ w = w' := l1In_any x 8 32 w
set_option maxRecDepth 100000 in
set_option maxHeartbeats 2000000 in
theorem spec_sidesok_any (a b : Int) (w : World) : Calls Try.prog 27 #[.int .i64 a, .int .i64 b] w fun e w' => e = .returned (.bool (sidesE a b)) ∧ w = w' := by
  have LA := Lib.hid (l1in_side a); have LB := Lib.hid (l1in_side b)
  cases ha : sidE a with
  | false =>
    rw [show sidesE a b = false by simp [sidesE, ha]]
    rw [ha] at LA
    clear ha
    go_enter Try.func27, Try.ntmps27
    go_wp2_with fail
    refine (LA.out _).mono ?_
    rintro e w1 ⟨rfl, hw⟩
    subst hw
    go_wp2
    go_ret
    exact ⟨rfl, rfl⟩
  | true =>
    cases hb : sidE b with
    | false =>
      rw [show sidesE a b = false by simp [sidesE, hb]]
      rw [ha] at LA
      rw [hb] at LB
      clear ha hb
      go_enter Try.func27, Try.ntmps27
      go_wp2_with fail
      refine (LA.out _).mono ?_
      rintro e w1 ⟨rfl, hw⟩
      subst hw
      go_wp2_with fail
      refine (LB.out _).mono ?_
      rintro e w1 ⟨rfl, hw⟩
      subst hw
      go_wp2
      go_ret
      exact ⟨rfl, rfl⟩
    | true =>
      have h1 := sidE_true ha; have h2 := sidE_true hb
      have e1 : a.tmod 8 = a % 8 := Int.tmod_eq_emod_of_nonneg (by omega)
      have e2 : b.tmod 8 = b % 8 := Int.tmod_eq_emod_of_nonneg (by omega)
      have es : sidesE a b = (decide (a % 8 = 0) && decide (b % 8 = 0)) := by simp [sidesE, ha, hb]
      rw [es]
      rw [ha] at LA
      rw [hb] at LB
      have q1 : 0 ≤ a % 8 ∧ a % 8 < 8 := by omega
      have q2 : 0 ≤ b % 8 ∧ b % 8 < 8 := by omega
      obtain ⟨u, hu⟩ : ∃ u, u = a % 8 := ⟨_, rfl⟩
      obtain ⟨v, hv⟩ : ∃ v, v = b % 8 := ⟨_, rfl⟩
      rw [← hu] at e1 q1 ⊢
      rw [← hv] at e2 q2 ⊢
      clear ha hb es hu hv
      by_cases hu0 : u = 0
      · subst hu0
        by_cases hv0 : v = 0
        · subst hv0
          go_enter Try.func27, Try.ntmps27
          go_wp2_with fail
          refine (LA.out _).mono ?_
          rintro e w1 ⟨rfl, hw⟩
          subst hw
          go_wp2_with fail
          refine (LB.out _).mono ?_
          rintro e w1 ⟨rfl, hw⟩
          subst hw
          go_wp2
          go_ret
          exact ⟨rfl, rfl⟩
        · rw [decide_eq_false hv0]
          have z2 : (v == 0) = false := by simpa using hv0
          go_enter Try.func27, Try.ntmps27
          go_wp2_with fail
          refine (LA.out _).mono ?_
          rintro e w1 ⟨rfl, hw⟩
          subst hw
          go_wp2_with fail
          refine (LB.out _).mono ?_
          rintro e w1 ⟨rfl, hw⟩
          subst hw
          go_wp2
          go_ret
          exact ⟨rfl, rfl⟩
      · rw [decide_eq_false hu0]
        have z1 : (a.tmod 8 == 0) = false := by rw [e1]; simpa using hu0
        go_enter Try.func27, Try.ntmps27
        go_wp2_with fail
        refine (LA.out _).mono ?_
        rintro e w1 ⟨rfl, hw⟩
        subst hw
        go_wp2_with fail
        refine (LB.out _).mono ?_
        rintro e w1 ⟨rfl, hw⟩
        subst hw
        go_wp2
        go_ret
        exact ⟨rfl, rfl⟩
set_option maxRecDepth 100000 in
set_option maxHeartbeats 2000000 in
theorem spec_frameok_any (a b : Int) (A : Option Addr) (ca : Nat) (l : List Int) (w : World) (hA : Ints w w.heap.size A l) : Calls Try.prog 30 #[.agg #[.int .i64 a, .int .i64 b, .slice A l.length ca]] w fun e w' => e = .returned (.bool (frameE a b l)) ∧ Below w.heap.size w w' := by
  have SI := Lib.hid (spec_sidesok_any a b)
  have BN := Lib.hid (below_new w (.cells #[.int .i64 a, .int .i64 b, .slice A l.length ca] 26))
  have HB := Lib.hid ((hA.below (below_new w (.cells #[.int .i64 a, .int .i64 b, .slice A l.length ca] 26)) (Nat.le_refl _)).mono (below_new w (.cells #[.int .i64 a, .int .i64 b, .slice A l.length ca] 26)).size)
  have PX := Lib.hid fun w h => l14pix_any A ca l w h
  have hnl := hA.1
  clear hA
  cases hs : sidesE a b with
  | false =>
    rw [show frameE a b l = false by simp [frameE, hs]]
    rw [hs] at SI
    clear hs
    go_enter Try.func30, Try.ntmps30
    go_wp2_with fail
    refine (SI.out _).mono ?_
    rintro e w1 ⟨rfl, hw⟩
    subst hw
    go_wp2
    go_ret
    exact ⟨rfl, BN.out⟩
  | true =>
    obtain ⟨h1, h2, _, _⟩ := sidesE_parts hs
    have hp1 : (8 : Int) * 8 ≤ a * b := Int.mul_le_mul h1.1 h2.1 (by decide) (by omega)
    have hp2 : a * b ≤ (32 : Int) * 32 := Int.mul_le_mul h1.2 h2.2 (by omega) (by decide)
    have ef : frameE a b l = (decide ((l.length : Int) = a * b) && l.all pixE) := by simp [frameE, hs]
    have hw : IntKind.i64.wrap (a * b) = a * b := IntWalk.i64_in _ (by omega)
    rw [ef]
    rw [hs] at SI
    obtain ⟨p, hp⟩ : ∃ p, p = a * b := ⟨_, rfl⟩
    rw [← hp] at hp1 hp2 hw ⊢
    rw [hp] at hw
    rw [← hp] at hw
    have hw' : IntKind.i64.wrap (a * b) = p := by rw [← hp]; exact hw
    obtain ⟨n, hn⟩ : ∃ n, n = l.length := ⟨_, rfl⟩
    rw [← hn] at BN HB PX hnl ⊢
    clear hs ef hw hn
    by_cases hl : (n : Int) = p
    · rw [decide_eq_true hl, Bool.true_and]
      have d1 : ((n : Int) == p) = true := by simpa using hl
      clear hp
      go_enter Try.func30, Try.ntmps30
      go_wp2_with fail
      refine (SI.out _).mono ?_
      rintro e w1 ⟨rfl, hw⟩
      subst hw
      go_wp2_with fail
      refine (PX.out _ HB.out).mono ?_
      rintro e w1 ⟨rfl, hw⟩
      subst hw
      go_wp2
      go_ret
      exact ⟨rfl, BN.out⟩
    · rw [decide_eq_false hl, Bool.false_and]
      have d1 : ((n : Int) == p) = false := by simpa using hl
      clear hp
      go_enter Try.func30, Try.ntmps30
      go_wp2_with fail
      refine (SI.out _).mono ?_
      rintro e w1 ⟨rfl, hw⟩
      subst hw
      go_wp2
      go_ret
      exact ⟨rfl, BN.out⟩
end Go.Proofs.Ytemfiglflbfocaa
