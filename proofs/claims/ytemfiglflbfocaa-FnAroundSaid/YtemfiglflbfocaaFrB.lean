/-
  Chapter 18: what l18In answers, and the contract of the model's own.
-/
import Derived.Test.YtemfiglflbfocaaFrA
namespace Go.Proofs.Ytemfiglflbfocaa
open Go.RowKit
set_option linter.unusedVariables false

theorem cells3 {w : World} {g : Nat} {T : TypeId} {u v x : Value} {fr : Nat × Nat} (h : w.heap[g]? = some (.cells #[u, v, x] T fr)) : w.cell? ⟨g, 0, none⟩ = some u ∧ w.cell? ⟨g, 1, none⟩ = some v ∧ w.cell? ⟨g, 2, none⟩ = some x :=
  ⟨cell_of_row _ _ 0 _ _ _ h, cell_of_row _ _ 1 _ _ _ h, cell_of_row _ _ 2 _ _ _ h⟩
/-- What l18In answers. -/
def betE (x h : Int) : Bool := decide (0 ≤ x) && decide (x ≤ h)
theorem betE_true {x h : Int} (e : betE x h = true) : 0 ≤ x ∧ x ≤ h := by simpa [betE] using e
def inE (a b : Int) (l : List Int) (x y n : Int) : Bool := frameE a b l && okN n && betE x (a - n) && betE y (b - n) && decide (x % n = 0) && decide (y % n = 0)
theorem frameE_sides {a b : Int} {l : List Int} (h : frameE a b l = true) : sidesE a b = true ∧ (l.length : Int) = a * b ∧ l.all pixE = true := by
  simp only [frameE, Bool.and_eq_true, decide_eq_true_eq] at h
  exact ⟨h.1.1, h.1.2, h.2⟩
theorem l1in_bet (x h : Int) (w : World) : Calls Try.prog 63 #[.int .i64 x, .int .i64 0, .int .i64 h] w fun e w' => e = .returned (.bool (betE x h)) ∧ w = w' := l1In_any x 0 h w

set_option maxRecDepth 100000 in
set_option maxHeartbeats 4000000 in
theorem spec_l18in_4 (a b : Int) (A : Option Addr) (ca : Nat) (l : List Int) (x y : Int) (hf : frameE a b l = true) (w : World) (hA : Ints w w.heap.size A l) : Calls Try.prog 55 #[.agg #[.int .i64 a, .int .i64 b, .slice A l.length ca], .int .i64 x, .int .i64 y, .int .i64 4] w fun e w' => e = .returned (.bool (betE x (a - 4) && betE y (b - 4) && decide (x % 4 = 0) && decide (y % 4 = 0))) ∧ Below w.heap.size w w' := by
  have FO := Lib.hid fun w h => spec_frameok_any a b A ca l w h
  have HB := Lib.hid ((hA.below (below_new w (.cells #[.int .i64 a, .int .i64 b, .slice A l.length ca] 26)) (Nat.le_refl _)).mono (below_new w (.cells #[.int .i64 a, .int .i64 b, .slice A l.length ca] 26)).size)
  have BN := Lib.hid (below_new w (.cells #[.int .i64 a, .int .i64 b, .slice A l.length ca] 26))
  have HK := Lib.hid (heap_alloc_new w (.cells #[.int .i64 a, .int .i64 b, .slice A l.length ca] 26))
  have hsz : (w.alloc (.cells #[.int .i64 a, .int .i64 b, .slice A l.length ca] 26)).heap.size = w.heap.size + 1 := by simp
  have HSZ := Lib.hid hsz
  have hnl := hA.1
  clear hA hsz
  have SZ := Lib.hid (spec_sizeok_any 4)
  rw [show okN 4 = true from rfl] at SZ
  rw [hf] at FO
  obtain ⟨hs, _, _⟩ := frameE_sides hf
  obtain ⟨hwa, hwb, _, _⟩ := sidesE_parts hs
  clear hs hf
  have ea : IntKind.i64.wrap (a - 4) = a - 4 := IntWalk.i64_in _ (by omega)
  have eb : IntKind.i64.wrap (b - 4) = b - 4 := IntWalk.i64_in _ (by omega)
  have LX := Lib.hid (l1in_bet x (a - 4)); have LY := Lib.hid (l1in_bet y (b - 4))
  cases hx : betE x (a - 4) with
  | false =>
    rw [hx] at LX
    simp only [Bool.false_and]
    clear hx
    go_enter Try.func55, Try.ntmps55
    go_wp2_with fail
    refine (FO.out _ HB.out).mono ?_
    rintro e w1 ⟨rfl, hb1⟩
    have B1 := Lib.hid (below_up BN.out hb1 BN.out.size)
    have k1 : w1.heap[w.heap.size]? = some (.cells #[.int .i64 a, .int .i64 b, .slice A l.length ca] 26 (0, 0)) := by rw [hb1.block w.heap.size (by rw [HSZ.out]; omega)]; exact HK.out
    obtain ⟨c0, c1, c2⟩ := cells3 k1
    clear hb1 k1
    go_wp2_with fail
    refine (SZ.out _).mono ?_
    rintro e w2 ⟨rfl, hw⟩
    subst hw
    go_wp2_with fail
    refine (LX.out _).mono ?_
    rintro e w2 ⟨rfl, hw⟩
    subst hw
    go_wp2
    go_ret
    exact ⟨rfl, B1.out⟩
  | true =>
    rw [hx] at LX
    have hx0 := betE_true hx
    cases hy : betE y (b - 4) with
    | false =>
      rw [hy] at LY
      simp only [Bool.true_and, Bool.false_and]
      clear hx hy
      go_enter Try.func55, Try.ntmps55
      go_wp2_with fail
      refine (FO.out _ HB.out).mono ?_
      rintro e w1 ⟨rfl, hb1⟩
      have B1 := Lib.hid (below_up BN.out hb1 BN.out.size)
      have k1 : w1.heap[w.heap.size]? = some (.cells #[.int .i64 a, .int .i64 b, .slice A l.length ca] 26 (0, 0)) := by rw [hb1.block w.heap.size (by rw [HSZ.out]; omega)]; exact HK.out
      obtain ⟨c0, c1, c2⟩ := cells3 k1
      clear hb1 k1
      go_wp2_with fail
      refine (SZ.out _).mono ?_
      rintro e w2 ⟨rfl, hw⟩
      subst hw
      go_wp2_with fail
      refine (LX.out _).mono ?_
      rintro e w2 ⟨rfl, hw⟩
      subst hw
      go_wp2_with fail
      refine (LY.out _).mono ?_
      rintro e w2 ⟨rfl, hw⟩
      subst hw
      go_wp2
      go_ret
      exact ⟨rfl, B1.out⟩
    | true =>
      rw [hy] at LY
      have hy0 := betE_true hy
      simp only [Bool.true_and]
      have e1 : x.tmod 4 = x % 4 := Int.tmod_eq_emod_of_nonneg hx0.1
      have e2 : y.tmod 4 = y % 4 := Int.tmod_eq_emod_of_nonneg hy0.1
      have q1 : 0 ≤ x % 4 ∧ x % 4 < 4 := by omega
      have q2 : 0 ≤ y % 4 ∧ y % 4 < 4 := by omega
      obtain ⟨u, hu⟩ : ∃ u, u = x % 4 := ⟨_, rfl⟩
      obtain ⟨v, hv⟩ : ∃ v, v = y % 4 := ⟨_, rfl⟩
      rw [← hu] at e1 q1 ⊢
      rw [← hv] at e2 q2 ⊢
      clear hx hy hu hv
      by_cases hu0 : u = 0
      · subst hu0
        by_cases hv0 : v = 0
        · subst hv0
          go_enter Try.func55, Try.ntmps55
          go_wp2_with fail
          refine (FO.out _ HB.out).mono ?_
          rintro e w1 ⟨rfl, hb1⟩
          have B1 := Lib.hid (below_up BN.out hb1 BN.out.size)
          have k1 : w1.heap[w.heap.size]? = some (.cells #[.int .i64 a, .int .i64 b, .slice A l.length ca] 26 (0, 0)) := by rw [hb1.block w.heap.size (by rw [HSZ.out]; omega)]; exact HK.out
          obtain ⟨c0, c1, c2⟩ := cells3 k1
          clear hb1 k1
          go_wp2_with fail
          refine (SZ.out _).mono ?_
          rintro e w2 ⟨rfl, hw⟩
          subst hw
          go_wp2_with fail
          refine (LX.out _).mono ?_
          rintro e w2 ⟨rfl, hw⟩
          subst hw
          go_wp2_with fail
          refine (LY.out _).mono ?_
          rintro e w2 ⟨rfl, hw⟩
          subst hw
          go_wp2
          go_ret
          exact ⟨rfl, B1.out⟩
        · rw [decide_eq_false hv0]
          have z2 : (v == 0) = false := by simpa using hv0
          go_enter Try.func55, Try.ntmps55
          go_wp2_with fail
          refine (FO.out _ HB.out).mono ?_
          rintro e w1 ⟨rfl, hb1⟩
          have B1 := Lib.hid (below_up BN.out hb1 BN.out.size)
          have k1 : w1.heap[w.heap.size]? = some (.cells #[.int .i64 a, .int .i64 b, .slice A l.length ca] 26 (0, 0)) := by rw [hb1.block w.heap.size (by rw [HSZ.out]; omega)]; exact HK.out
          obtain ⟨c0, c1, c2⟩ := cells3 k1
          clear hb1 k1
          go_wp2_with fail
          refine (SZ.out _).mono ?_
          rintro e w2 ⟨rfl, hw⟩
          subst hw
          go_wp2_with fail
          refine (LX.out _).mono ?_
          rintro e w2 ⟨rfl, hw⟩
          subst hw
          go_wp2_with fail
          refine (LY.out _).mono ?_
          rintro e w2 ⟨rfl, hw⟩
          subst hw
          go_wp2
          go_ret
          exact ⟨rfl, B1.out⟩
      · rw [decide_eq_false hu0]
        have z1 : (u == 0) = false := by simpa using hu0
        go_enter Try.func55, Try.ntmps55
        go_wp2_with fail
        refine (FO.out _ HB.out).mono ?_
        rintro e w1 ⟨rfl, hb1⟩
        have B1 := Lib.hid (below_up BN.out hb1 BN.out.size)
        have k1 : w1.heap[w.heap.size]? = some (.cells #[.int .i64 a, .int .i64 b, .slice A l.length ca] 26 (0, 0)) := by rw [hb1.block w.heap.size (by rw [HSZ.out]; omega)]; exact HK.out
        obtain ⟨c0, c1, c2⟩ := cells3 k1
        clear hb1 k1
        go_wp2_with fail
        refine (SZ.out _).mono ?_
        rintro e w2 ⟨rfl, hw⟩
        subst hw
        go_wp2_with fail
        refine (LX.out _).mono ?_
        rintro e w2 ⟨rfl, hw⟩
        subst hw
        go_wp2_with fail
        refine (LY.out _).mono ?_
        rintro e w2 ⟨rfl, hw⟩
        subst hw
        go_wp2
        go_ret
        exact ⟨rfl, B1.out⟩

set_option maxRecDepth 100000 in
set_option maxHeartbeats 4000000 in
theorem spec_l18in_8 (a b : Int) (A : Option Addr) (ca : Nat) (l : List Int) (x y : Int) (hf : frameE a b l = true) (w : World) (hA : Ints w w.heap.size A l) : Calls Try.prog 55 #[.agg #[.int .i64 a, .int .i64 b, .slice A l.length ca], .int .i64 x, .int .i64 y, .int .i64 8] w fun e w' => e = .returned (.bool (betE x (a - 8) && betE y (b - 8) && decide (x % 8 = 0) && decide (y % 8 = 0))) ∧ Below w.heap.size w w' := by
  have FO := Lib.hid fun w h => spec_frameok_any a b A ca l w h
  have HB := Lib.hid ((hA.below (below_new w (.cells #[.int .i64 a, .int .i64 b, .slice A l.length ca] 26)) (Nat.le_refl _)).mono (below_new w (.cells #[.int .i64 a, .int .i64 b, .slice A l.length ca] 26)).size)
  have BN := Lib.hid (below_new w (.cells #[.int .i64 a, .int .i64 b, .slice A l.length ca] 26))
  have HK := Lib.hid (heap_alloc_new w (.cells #[.int .i64 a, .int .i64 b, .slice A l.length ca] 26))
  have hsz : (w.alloc (.cells #[.int .i64 a, .int .i64 b, .slice A l.length ca] 26)).heap.size = w.heap.size + 1 := by simp
  have HSZ := Lib.hid hsz
  have hnl := hA.1
  clear hA hsz
  have SZ := Lib.hid (spec_sizeok_any 8)
  rw [show okN 8 = true from rfl] at SZ
  rw [hf] at FO
  obtain ⟨hs, _, _⟩ := frameE_sides hf
  obtain ⟨hwa, hwb, _, _⟩ := sidesE_parts hs
  clear hs hf
  have ea : IntKind.i64.wrap (a - 8) = a - 8 := IntWalk.i64_in _ (by omega)
  have eb : IntKind.i64.wrap (b - 8) = b - 8 := IntWalk.i64_in _ (by omega)
  have LX := Lib.hid (l1in_bet x (a - 8)); have LY := Lib.hid (l1in_bet y (b - 8))
  cases hx : betE x (a - 8) with
  | false =>
    rw [hx] at LX
    simp only [Bool.false_and]
    clear hx
    go_enter Try.func55, Try.ntmps55
    go_wp2_with fail
    refine (FO.out _ HB.out).mono ?_
    rintro e w1 ⟨rfl, hb1⟩
    have B1 := Lib.hid (below_up BN.out hb1 BN.out.size)
    have k1 : w1.heap[w.heap.size]? = some (.cells #[.int .i64 a, .int .i64 b, .slice A l.length ca] 26 (0, 0)) := by rw [hb1.block w.heap.size (by rw [HSZ.out]; omega)]; exact HK.out
    obtain ⟨c0, c1, c2⟩ := cells3 k1
    clear hb1 k1
    go_wp2_with fail
    refine (SZ.out _).mono ?_
    rintro e w2 ⟨rfl, hw⟩
    subst hw
    go_wp2_with fail
    refine (LX.out _).mono ?_
    rintro e w2 ⟨rfl, hw⟩
    subst hw
    go_wp2
    go_ret
    exact ⟨rfl, B1.out⟩
  | true =>
    rw [hx] at LX
    have hx0 := betE_true hx
    cases hy : betE y (b - 8) with
    | false =>
      rw [hy] at LY
      simp only [Bool.true_and, Bool.false_and]
      clear hx hy
      go_enter Try.func55, Try.ntmps55
      go_wp2_with fail
      refine (FO.out _ HB.out).mono ?_
      rintro e w1 ⟨rfl, hb1⟩
      have B1 := Lib.hid (below_up BN.out hb1 BN.out.size)
      have k1 : w1.heap[w.heap.size]? = some (.cells #[.int .i64 a, .int .i64 b, .slice A l.length ca] 26 (0, 0)) := by rw [hb1.block w.heap.size (by rw [HSZ.out]; omega)]; exact HK.out
      obtain ⟨c0, c1, c2⟩ := cells3 k1
      clear hb1 k1
      go_wp2_with fail
      refine (SZ.out _).mono ?_
      rintro e w2 ⟨rfl, hw⟩
      subst hw
      go_wp2_with fail
      refine (LX.out _).mono ?_
      rintro e w2 ⟨rfl, hw⟩
      subst hw
      go_wp2_with fail
      refine (LY.out _).mono ?_
      rintro e w2 ⟨rfl, hw⟩
      subst hw
      go_wp2
      go_ret
      exact ⟨rfl, B1.out⟩
    | true =>
      rw [hy] at LY
      have hy0 := betE_true hy
      simp only [Bool.true_and]
      have e1 : x.tmod 8 = x % 8 := Int.tmod_eq_emod_of_nonneg hx0.1
      have e2 : y.tmod 8 = y % 8 := Int.tmod_eq_emod_of_nonneg hy0.1
      have q1 : 0 ≤ x % 8 ∧ x % 8 < 8 := by omega
      have q2 : 0 ≤ y % 8 ∧ y % 8 < 8 := by omega
      obtain ⟨u, hu⟩ : ∃ u, u = x % 8 := ⟨_, rfl⟩
      obtain ⟨v, hv⟩ : ∃ v, v = y % 8 := ⟨_, rfl⟩
      rw [← hu] at e1 q1 ⊢
      rw [← hv] at e2 q2 ⊢
      clear hx hy hu hv
      by_cases hu0 : u = 0
      · subst hu0
        by_cases hv0 : v = 0
        · subst hv0
          go_enter Try.func55, Try.ntmps55
          go_wp2_with fail
          refine (FO.out _ HB.out).mono ?_
          rintro e w1 ⟨rfl, hb1⟩
          have B1 := Lib.hid (below_up BN.out hb1 BN.out.size)
          have k1 : w1.heap[w.heap.size]? = some (.cells #[.int .i64 a, .int .i64 b, .slice A l.length ca] 26 (0, 0)) := by rw [hb1.block w.heap.size (by rw [HSZ.out]; omega)]; exact HK.out
          obtain ⟨c0, c1, c2⟩ := cells3 k1
          clear hb1 k1
          go_wp2_with fail
          refine (SZ.out _).mono ?_
          rintro e w2 ⟨rfl, hw⟩
          subst hw
          go_wp2_with fail
          refine (LX.out _).mono ?_
          rintro e w2 ⟨rfl, hw⟩
          subst hw
          go_wp2_with fail
          refine (LY.out _).mono ?_
          rintro e w2 ⟨rfl, hw⟩
          subst hw
          go_wp2
          go_ret
          exact ⟨rfl, B1.out⟩
        · rw [decide_eq_false hv0]
          have z2 : (v == 0) = false := by simpa using hv0
          go_enter Try.func55, Try.ntmps55
          go_wp2_with fail
          refine (FO.out _ HB.out).mono ?_
          rintro e w1 ⟨rfl, hb1⟩
          have B1 := Lib.hid (below_up BN.out hb1 BN.out.size)
          have k1 : w1.heap[w.heap.size]? = some (.cells #[.int .i64 a, .int .i64 b, .slice A l.length ca] 26 (0, 0)) := by rw [hb1.block w.heap.size (by rw [HSZ.out]; omega)]; exact HK.out
          obtain ⟨c0, c1, c2⟩ := cells3 k1
          clear hb1 k1
          go_wp2_with fail
          refine (SZ.out _).mono ?_
          rintro e w2 ⟨rfl, hw⟩
          subst hw
          go_wp2_with fail
          refine (LX.out _).mono ?_
          rintro e w2 ⟨rfl, hw⟩
          subst hw
          go_wp2_with fail
          refine (LY.out _).mono ?_
          rintro e w2 ⟨rfl, hw⟩
          subst hw
          go_wp2
          go_ret
          exact ⟨rfl, B1.out⟩
      · rw [decide_eq_false hu0]
        have z1 : (u == 0) = false := by simpa using hu0
        go_enter Try.func55, Try.ntmps55
        go_wp2_with fail
        refine (FO.out _ HB.out).mono ?_
        rintro e w1 ⟨rfl, hb1⟩
        have B1 := Lib.hid (below_up BN.out hb1 BN.out.size)
        have k1 : w1.heap[w.heap.size]? = some (.cells #[.int .i64 a, .int .i64 b, .slice A l.length ca] 26 (0, 0)) := by rw [hb1.block w.heap.size (by rw [HSZ.out]; omega)]; exact HK.out
        obtain ⟨c0, c1, c2⟩ := cells3 k1
        clear hb1 k1
        go_wp2_with fail
        refine (SZ.out _).mono ?_
        rintro e w2 ⟨rfl, hw⟩
        subst hw
        go_wp2_with fail
        refine (LX.out _).mono ?_
        rintro e w2 ⟨rfl, hw⟩
        subst hw
        go_wp2_with fail
        refine (LY.out _).mono ?_
        rintro e w2 ⟨rfl, hw⟩
        subst hw
        go_wp2
        go_ret
        exact ⟨rfl, B1.out⟩

set_option maxRecDepth 100000 in
set_option maxHeartbeats 2000000 in
theorem spec_l18in_any (a b : Int) (A : Option Addr) (ca : Nat) (l : List Int) (x y n : Int) (w : World) (hA : Ints w w.heap.size A l) : Calls Try.prog 55 #[.agg #[.int .i64 a, .int .i64 b, .slice A l.length ca], .int .i64 x, .int .i64 y, .int .i64 n] w fun e w' => e = .returned (.bool (inE a b l x y n)) ∧ Below w.heap.size w w' := by
  cases hf : frameE a b l with
  | false =>
    have FO := Lib.hid fun w h => spec_frameok_any a b A ca l w h
    have HB := Lib.hid ((hA.below (below_new w (.cells #[.int .i64 a, .int .i64 b, .slice A l.length ca] 26)) (Nat.le_refl _)).mono (below_new w (.cells #[.int .i64 a, .int .i64 b, .slice A l.length ca] 26)).size)
    have BN := Lib.hid (below_new w (.cells #[.int .i64 a, .int .i64 b, .slice A l.length ca] 26))
    have HK := Lib.hid (heap_alloc_new w (.cells #[.int .i64 a, .int .i64 b, .slice A l.length ca] 26))
    have hsz : (w.alloc (.cells #[.int .i64 a, .int .i64 b, .slice A l.length ca] 26)).heap.size = w.heap.size + 1 := by simp
    have HSZ := Lib.hid hsz
    have hnl := hA.1
    clear hA hsz
    rw [show inE a b l x y n = false by simp [inE, hf]]
    rw [hf] at FO
    clear hf
    go_enter Try.func55, Try.ntmps55
    go_wp2_with fail
    refine (FO.out _ HB.out).mono ?_
    rintro e w1 ⟨rfl, hb1⟩
    have B1 := Lib.hid (below_up BN.out hb1 BN.out.size)
    have k1 : w1.heap[w.heap.size]? = some (.cells #[.int .i64 a, .int .i64 b, .slice A l.length ca] 26 (0, 0)) := by rw [hb1.block w.heap.size (by rw [HSZ.out]; omega)]; exact HK.out
    obtain ⟨c0, c1, c2⟩ := cells3 k1
    clear hb1 k1
    go_wp2
    go_ret
    exact ⟨rfl, B1.out⟩
  | true =>
    cases ho : okN n with
    | false =>
      have FO := Lib.hid fun w h => spec_frameok_any a b A ca l w h
      have HB := Lib.hid ((hA.below (below_new w (.cells #[.int .i64 a, .int .i64 b, .slice A l.length ca] 26)) (Nat.le_refl _)).mono (below_new w (.cells #[.int .i64 a, .int .i64 b, .slice A l.length ca] 26)).size)
      have BN := Lib.hid (below_new w (.cells #[.int .i64 a, .int .i64 b, .slice A l.length ca] 26))
      have HK := Lib.hid (heap_alloc_new w (.cells #[.int .i64 a, .int .i64 b, .slice A l.length ca] 26))
      have hsz : (w.alloc (.cells #[.int .i64 a, .int .i64 b, .slice A l.length ca] 26)).heap.size = w.heap.size + 1 := by simp
      have HSZ := Lib.hid hsz
      have hnl := hA.1
      clear hA hsz
      have SZ := Lib.hid (spec_sizeok_any n)
      rw [show inE a b l x y n = false by simp [inE, ho]]
      rw [hf] at FO
      rw [ho] at SZ
      clear hf ho
      go_enter Try.func55, Try.ntmps55
      go_wp2_with fail
      refine (FO.out _ HB.out).mono ?_
      rintro e w1 ⟨rfl, hb1⟩
      have B1 := Lib.hid (below_up BN.out hb1 BN.out.size)
      have k1 : w1.heap[w.heap.size]? = some (.cells #[.int .i64 a, .int .i64 b, .slice A l.length ca] 26 (0, 0)) := by rw [hb1.block w.heap.size (by rw [HSZ.out]; omega)]; exact HK.out
      obtain ⟨c0, c1, c2⟩ := cells3 k1
      clear hb1 k1
      go_wp2_with fail
      refine (SZ.out _).mono ?_
      rintro e w2 ⟨rfl, hw⟩
      subst hw
      go_wp2
      go_ret
      exact ⟨rfl, B1.out⟩
    | true =>
      rcases okN_cases ho with rfl | rfl
      · have h := spec_l18in_4 a b A ca l x y hf w hA
        rw [show inE a b l x y 4 = (betE x (a - 4) && betE y (b - 4) && decide (x % 4 = 0) && decide (y % 4 = 0)) by unfold inE; rw [hf, show okN 4 = true from rfl]; simp only [Bool.true_and]]
        exact h
      · have h := spec_l18in_8 a b A ca l x y hf w hA
        rw [show inE a b l x y 8 = (betE x (a - 8) && betE y (b - 8) && decide (x % 8 = 0) && decide (y % 8 = 0)) by unfold inE; rw [hf, show okN 8 = true from rfl]; simp only [Bool.true_and]]
        exact h
end Go.Proofs.Ytemfiglflbfocaa
