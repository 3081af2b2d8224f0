/-
  Contracts of the program's NbOk, Border and Mean. Condition: a slice is no longer than it holds.
-/
import Derived.Test.YtemfiglflbfocaaNbV
namespace Go.Proofs.Ytemfiglflbfocaa
open Go.RowKit
set_option linter.unusedVariables false

set_option maxRecDepth 100000 in
set_option maxHeartbeats 1000000 in
theorem impl_sample_any (x : Int) (w : World) :
    Calls Try.prog 62 #[.int .i64 x] w fun e w' => e = .returned (.bool (pixE x)) ∧ w = w' := by
  unfold pixE
  by_cases h1 : 0 ≤ x
  · have d1 : decide (0 ≤ x) = true := by simpa using h1
    rw [d1]
    by_cases h2 : x ≤ 255
    · have d2 : decide (x ≤ 255) = true := by simpa using h2
      rw [d2]
      clear h1 h2
      go_enter Try.func62, Try.ntmps62
      go_wp2
      go_ret
      exact ⟨rfl, rfl⟩
    · have d2 : decide (x ≤ 255) = false := by simpa using h2
      rw [d2]
      clear h1 h2
      go_enter Try.func62, Try.ntmps62
      go_wp2
      go_ret
      exact ⟨rfl, rfl⟩
  · have d1 : decide (0 ≤ x) = false := by simpa using h1
    rw [d1]
    clear h1
    go_enter Try.func62, Try.ntmps62
    go_wp2
    go_ret
    exact ⟨rfl, rfl⟩
set_option maxRecDepth 100000 in
set_option maxHeartbeats 1000000 in
theorem impl_samples_any (A : Option Addr) (ca : Nat) (l : List Int) (w : World) (hA : Ints w w.heap.size A l) :
    Calls Try.prog 50 #[.slice A l.length ca] w fun e w' => e = .returned (.bool (l.all pixE)) ∧ w = w' := by
  obtain ⟨n, hn⟩ : ∃ n, n = l.length := ⟨_, rfl⟩
  have hnm := hA.1
  rw [← hn] at hnm
  rw [← hn]
  have LO := Lib.hid impl_sample_any
  have HA := Lib.hid hA; have HN := Lib.hid hn
  clear hA hn
  go_enter Try.func50, Try.ntmps50
  go_wp2
  go_loop [4, 7] (fun x i => ∃ j : Nat, j ≤ n ∧ i = .int .i64 j ∧ ∀ t, t < j → pixE (l.getD t 0) = true)
    (fun _ i => n - (intOf i).toNat)
  case atStart => exact ⟨0, Nat.zero_le _, rfl, fun t ht => absurd ht (by omega)⟩
  case round =>
    obtain ⟨j, hj, rfl, hpre⟩ := hrel
    have HE := Lib.hid hpre; clear hpre
    by_cases hlt : j < n
    · obtain ⟨b, off, rfl, hb, hc⟩ := HA.out.at j (by rw [← HN.out]; exact hlt)
      have c1 := hc j (by rw [← HN.out]; exact hlt)
      clear hc
      obtain ⟨x, hx⟩ : ∃ x, x = l.getD j 0 := ⟨_, rfl⟩
      rw [← hx] at c1
      have HX := Lib.hid hx; clear hx
      have LX := Lib.hid (LO.out x)
      cases hv : pixE x with
      | true =>
        rw [hv] at LX
        have HV := Lib.hid hv; clear hv
        go_wp2_with fail
        refine (LX.out _).mono ?_
        rintro e w1 ⟨rfl, hw⟩
        subst hw
        go_wp2
        go_round
        case rel =>
          refine ⟨j + 1, by omega, by go_num, fun t ht => ?_⟩
          by_cases htj : t = j
          · subst htj; rw [← HX.out]; exact HV.out
          · exact HE.out t (by omega)
        case measure => simp [intOf]; omega
      | false =>
        rw [hv] at LX
        have HV : Hid (l.all pixE = false) := Lib.hid (pix_no (by rw [← HN.out]; exact hlt) (by rw [← HX.out]; exact hv))
        clear hv
        go_wp2_with fail
        refine (LX.out _).mono ?_
        rintro e w1 ⟨rfl, hw⟩
        subst hw
        go_wp2
        go_ret
        exact ⟨by rw [HV.out]; rfl, rfl⟩
    · obtain rfl : j = n := by omega
      have HV : Hid (l.all pixE = true) := Lib.hid (pix_yes (by rw [← HN.out]; exact HE.out))
      go_wp2
      go_ret
      exact ⟨by rw [HV.out]; rfl, rfl⟩

set_option maxRecDepth 100000 in
set_option maxHeartbeats 2000000 in
theorem impl_nbok_4 (A : Option Addr) (cA : Nat) (B : Option Addr) (cB : Nat) (t l : List Int) (k : Int) (b1 b2 : Bool) (w : World) (hT : Ints w w.heap.size A t) (hL : Ints w w.heap.size B l) :
    Calls Try.prog 24 #[.agg #[.slice A t.length cA, .slice B l.length cB, .int .i64 k, .bool b1, .bool b2], .int .i64 4] w fun e w' => e = .returned (.bool (nbOk t l k 4)) ∧ Below w.heap.size w w' := by
  have SZ := Lib.hid (impl_sizeok_any 4)
  rw [show okN 4 = true from rfl] at SZ
  have PT := Lib.hid fun w h => impl_samples_any A cA t w h
  have PL := Lib.hid fun w h => impl_samples_any B cB l w h
  have PK := Lib.hid (impl_sample_any k)
  have BN := Lib.hid (below_new w (.cells #[.slice A t.length cA, .slice B l.length cB, .int .i64 k, .bool b1, .bool b2] 38))
  have HT := Lib.hid ((hT.below BN.out (Nat.le_refl _)).mono BN.out.size)
  have HL := Lib.hid ((hL.below BN.out (Nat.le_refl _)).mono BN.out.size)
  have hnt := hT.1; have hnl := hL.1
  clear hT hL
  by_cases h1 : t.length = 2 * 4
  · by_cases h2 : l.length = 4
    · have e1 : nbOk t l k 4 = (t.all pixE && l.all pixE && pixE k) := by
        unfold nbOk
        rw [show okN 4 = true from rfl, decide_eq_true (by omega : (t.length : Int) = 2 * 4), decide_eq_true (by omega : (l.length : Int) = 4)]
        simp
      rw [e1]
      clear e1
      have ht : t.length = 8 := h1
      rw [ht] at PT HT BN ⊢
      rw [h2] at PL HT BN HL ⊢
      rw [ht] at HL
      cases hp : t.all pixE with
      | false =>
        rw [hp] at PT
        clear hp
        go_enter Try.func24, Try.ntmps24
        go_wp2_with fail
        refine (SZ.out _).mono ?_
        rintro e w1 ⟨rfl, hw⟩
        subst hw
        go_wp2_with fail
        refine (PT.out _ HT.out).mono ?_
        rintro e w1 ⟨rfl, hw⟩
        subst hw
        go_wp2
        go_ret
        exact ⟨rfl, BN.out⟩
      | true =>
        rw [hp] at PT
        clear hp
        cases hp : l.all pixE with
        | false =>
          rw [hp] at PL
          clear hp
          go_enter Try.func24, Try.ntmps24
          go_wp2_with fail
          refine (SZ.out _).mono ?_
          rintro e w1 ⟨rfl, hw⟩
          subst hw
          go_wp2_with fail
          refine (PT.out _ HT.out).mono ?_
          rintro e w1 ⟨rfl, hw⟩
          subst hw
          go_wp2_with fail
          refine (PL.out _ HL.out).mono ?_
          rintro e w1 ⟨rfl, hw⟩
          subst hw
          go_wp2
          go_ret
          exact ⟨rfl, BN.out⟩
        | true =>
          rw [hp] at PL
          clear hp
          go_enter Try.func24, Try.ntmps24
          go_wp2_with fail
          refine (SZ.out _).mono ?_
          rintro e w1 ⟨rfl, hw⟩
          subst hw
          go_wp2_with fail
          refine (PT.out _ HT.out).mono ?_
          rintro e w1 ⟨rfl, hw⟩
          subst hw
          go_wp2_with fail
          refine (PL.out _ HL.out).mono ?_
          rintro e w1 ⟨rfl, hw⟩
          subst hw
          go_wp2_with fail
          refine (PK.out _).mono ?_
          rintro e w1 ⟨rfl, hw⟩
          subst hw
          go_wp2
          go_ret
          exact ⟨rfl, BN.out⟩
    · have e1 : nbOk t l k 4 = false := by
        unfold nbOk
        rw [decide_eq_false (by omega : ¬ (l.length : Int) = 4)]
        simp
      rw [e1]
      have q1 : ((t.length : Int) == 8) = true := by rw [beq_iff_eq]; omega
      have q2 : ((l.length : Int) == 4) = false := by rw [beq_eq_false_iff_ne]; omega
      clear e1 h1 h2
      go_enter Try.func24, Try.ntmps24
      go_wp2_with fail
      refine (SZ.out _).mono ?_
      rintro e w1 ⟨rfl, hw⟩
      subst hw
      go_wp2
      go_ret
      exact ⟨rfl, BN.out⟩
  · have e1 : nbOk t l k 4 = false := by
      unfold nbOk
      rw [decide_eq_false (by omega : ¬ (t.length : Int) = 2 * 4)]
      simp
    rw [e1]
    have q1 : ((t.length : Int) == 8) = false := by rw [beq_eq_false_iff_ne]; omega
    clear e1 h1
    go_enter Try.func24, Try.ntmps24
    go_wp2_with fail
    refine (SZ.out _).mono ?_
    rintro e w1 ⟨rfl, hw⟩
    subst hw
    go_wp2
    go_ret
    exact ⟨rfl, BN.out⟩

set_option maxRecDepth 100000 in
set_option maxHeartbeats 2000000 in
theorem impl_nbok_8 (A : Option Addr) (cA : Nat) (B : Option Addr) (cB : Nat) (t l : List Int) (k : Int) (b1 b2 : Bool) (w : World) (hT : Ints w w.heap.size A t) (hL : Ints w w.heap.size B l) :
    Calls Try.prog 24 #[.agg #[.slice A t.length cA, .slice B l.length cB, .int .i64 k, .bool b1, .bool b2], .int .i64 8] w fun e w' => e = .returned (.bool (nbOk t l k 8)) ∧ Below w.heap.size w w' := by
  have SZ := Lib.hid (impl_sizeok_any 8)
  rw [show okN 8 = true from rfl] at SZ
  have PT := Lib.hid fun w h => impl_samples_any A cA t w h
  have PL := Lib.hid fun w h => impl_samples_any B cB l w h
  have PK := Lib.hid (impl_sample_any k)
  have BN := Lib.hid (below_new w (.cells #[.slice A t.length cA, .slice B l.length cB, .int .i64 k, .bool b1, .bool b2] 38))
  have HT := Lib.hid ((hT.below BN.out (Nat.le_refl _)).mono BN.out.size)
  have HL := Lib.hid ((hL.below BN.out (Nat.le_refl _)).mono BN.out.size)
  have hnt := hT.1; have hnl := hL.1
  clear hT hL
  by_cases h1 : t.length = 2 * 8
  · by_cases h2 : l.length = 8
    · have e1 : nbOk t l k 8 = (t.all pixE && l.all pixE && pixE k) := by
        unfold nbOk
        rw [show okN 8 = true from rfl, decide_eq_true (by omega : (t.length : Int) = 2 * 8), decide_eq_true (by omega : (l.length : Int) = 8)]
        simp
      rw [e1]
      clear e1
      have ht : t.length = 16 := h1
      rw [ht] at PT HT BN ⊢
      rw [h2] at PL HT BN HL ⊢
      rw [ht] at HL
      cases hp : t.all pixE with
      | false =>
        rw [hp] at PT
        clear hp
        go_enter Try.func24, Try.ntmps24
        go_wp2_with fail
        refine (SZ.out _).mono ?_
        rintro e w1 ⟨rfl, hw⟩
        subst hw
        go_wp2_with fail
        refine (PT.out _ HT.out).mono ?_
        rintro e w1 ⟨rfl, hw⟩
        subst hw
        go_wp2
        go_ret
        exact ⟨rfl, BN.out⟩
      | true =>
        rw [hp] at PT
        clear hp
        cases hp : l.all pixE with
        | false =>
          rw [hp] at PL
          clear hp
          go_enter Try.func24, Try.ntmps24
          go_wp2_with fail
          refine (SZ.out _).mono ?_
          rintro e w1 ⟨rfl, hw⟩
          subst hw
          go_wp2_with fail
          refine (PT.out _ HT.out).mono ?_
          rintro e w1 ⟨rfl, hw⟩
          subst hw
          go_wp2_with fail
          refine (PL.out _ HL.out).mono ?_
          rintro e w1 ⟨rfl, hw⟩
          subst hw
          go_wp2
          go_ret
          exact ⟨rfl, BN.out⟩
        | true =>
          rw [hp] at PL
          clear hp
          go_enter Try.func24, Try.ntmps24
          go_wp2_with fail
          refine (SZ.out _).mono ?_
          rintro e w1 ⟨rfl, hw⟩
          subst hw
          go_wp2_with fail
          refine (PT.out _ HT.out).mono ?_
          rintro e w1 ⟨rfl, hw⟩
          subst hw
          go_wp2_with fail
          refine (PL.out _ HL.out).mono ?_
          rintro e w1 ⟨rfl, hw⟩
          subst hw
          go_wp2_with fail
          refine (PK.out _).mono ?_
          rintro e w1 ⟨rfl, hw⟩
          subst hw
          go_wp2
          go_ret
          exact ⟨rfl, BN.out⟩
    · have e1 : nbOk t l k 8 = false := by
        unfold nbOk
        rw [decide_eq_false (by omega : ¬ (l.length : Int) = 8)]
        simp
      rw [e1]
      have q1 : ((t.length : Int) == 16) = true := by rw [beq_iff_eq]; omega
      have q2 : ((l.length : Int) == 8) = false := by rw [beq_eq_false_iff_ne]; omega
      clear e1 h1 h2
      go_enter Try.func24, Try.ntmps24
      go_wp2_with fail
      refine (SZ.out _).mono ?_
      rintro e w1 ⟨rfl, hw⟩
      subst hw
      go_wp2
      go_ret
      exact ⟨rfl, BN.out⟩
  · have e1 : nbOk t l k 8 = false := by
      unfold nbOk
      rw [decide_eq_false (by omega : ¬ (t.length : Int) = 2 * 8)]
      simp
    rw [e1]
    have q1 : ((t.length : Int) == 16) = false := by rw [beq_eq_false_iff_ne]; omega
    clear e1 h1
    go_enter Try.func24, Try.ntmps24
    go_wp2_with fail
    refine (SZ.out _).mono ?_
    rintro e w1 ⟨rfl, hw⟩
    subst hw
    go_wp2
    go_ret
    exact ⟨rfl, BN.out⟩

set_option maxRecDepth 100000 in
set_option maxHeartbeats 1000000 in
theorem impl_nbok_any (A : Option Addr) (cA : Nat) (B : Option Addr) (cB : Nat) (t l : List Int) (k : Int) (b1 b2 : Bool) (n : Int) (w : World) (hT : Ints w w.heap.size A t) (hL : Ints w w.heap.size B l) :
    Calls Try.prog 24 #[.agg #[.slice A t.length cA, .slice B l.length cB, .int .i64 k, .bool b1, .bool b2], .int .i64 n] w fun e w' => e = .returned (.bool (nbOk t l k n)) ∧ Below w.heap.size w w' := by
  cases hn : okN n with
  | true =>
    rcases okN_cases hn with rfl | rfl
    · exact impl_nbok_4 A cA B cB t l k b1 b2 w hT hL
    · exact impl_nbok_8 A cA B cB t l k b1 b2 w hT hL
  | false =>
    have SZ := Lib.hid (impl_sizeok_any n)
    rw [hn] at SZ
    have e1 : nbOk t l k n = false := by unfold nbOk; rw [hn]; simp
    rw [e1]
    have BN := Lib.hid (below_new w (.cells #[.slice A t.length cA, .slice B l.length cB, .int .i64 k, .bool b1, .bool b2] 38))
    clear hn e1 hT hL
    go_enter Try.func24, Try.ntmps24
    go_wp2_with fail
    refine (SZ.out _).mono ?_
    rintro e w1 ⟨rfl, hw⟩
    subst hw
    go_wp2
    go_ret
    exact ⟨rfl, BN.out⟩
end Go.Proofs.Ytemfiglflbfocaa
