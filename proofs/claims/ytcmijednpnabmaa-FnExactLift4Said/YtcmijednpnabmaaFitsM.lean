/-
  The contract of the model's l12Fits. No condition.
-/
import Derived.Test.YtcmijednpnabmaaFormP
namespace Go.Proofs.Ytcmijednpnabmaa
open Go.RowKit
set_option linter.unusedVariables false

theorem all_no' {l : List Int} {j : Nat} (hj : j < l.length) (h : fitE (l.getD j 0) = false) : l.all fitE = false := by
  rw [List.getD_eq_getElem?_getD, List.getElem?_eq_getElem hj] at h
  rw [List.all_eq_false]
  exact ⟨l[j], List.getElem_mem hj, by simpa using h⟩
theorem all_yes' {l : List Int} (h : ∀ t, t < l.length → fitE (l.getD t 0) = true) : l.all fitE = true := by
  rw [List.all_eq_true]
  intro x hx
  obtain ⟨i, hi, rfl⟩ := List.getElem_of_mem hx
  have := h i hi
  rwa [List.getD_eq_getElem?_getD, List.getElem?_eq_getElem hi] at this
set_option maxRecDepth 100000 in
set_option maxHeartbeats 1000000 in
theorem l1in_fit (x : Int) (w : World) : Calls Try.prog 65 #[.int .i64 x, .int .i64 (-1000000000), .int .i64 1000000000] w fun e w' => e = .returned (.bool (fitE x)) ∧ w = w' := by
  by_cases h1 : -1000000000 ≤ x
  · by_cases h2 : x ≤ 1000000000
    · have d1 : decide (-1000000000 ≤ x) = true := by simpa using h1
      have d2 : decide (x ≤ 1000000000) = true := by simpa using h2
      rw [show fitE x = true by simp [fitE]; omega]
      go_enter Try.func65, Try.ntmps65
      go_wp2
      go_ret
      exact ⟨rfl, rfl⟩
    · have d1 : decide (-1000000000 ≤ x) = true := by simpa using h1
      have d2 : decide (x ≤ 1000000000) = false := by simpa using h2
      rw [show fitE x = false by simp [fitE]; omega]
      go_enter Try.func65, Try.ntmps65
      go_wp2
      go_ret
      exact ⟨rfl, rfl⟩
  · have d1 : decide (-1000000000 ≤ x) = false := by simpa using h1
    rw [show fitE x = false by simp [fitE]; omega]
    go_enter Try.func65, Try.ntmps65
    go_wp2
    go_ret
    exact ⟨rfl, rfl⟩

set_option maxRecDepth 100000 in
set_option maxHeartbeats 1000000 in
theorem l12fits_4 (A : Option Addr) (ca : Nat) (l : List Int) (w : World) (hA : Ints w w.heap.size A l) :
    Calls Try.prog 55 #[.slice A l.length ca, .int .i64 4] w fun e w' => e = .returned (.bool (fitL 4 l)) ∧ w = w' := by
  obtain ⟨n, hn⟩ : ∃ n, n = l.length := ⟨_, rfl⟩
  have hnm := hA.1
  rw [← hn] at hnm
  rw [← hn]
  have LO := Lib.hid l1in_fit
  have HA := Lib.hid hA; have HN := Lib.hid hn
  clear hA hn
  go_enter Try.func55, Try.ntmps55
  go_wp2
  go_loop [5] (fun i => ∃ j : Nat, j ≤ n ∧ i = .int .i64 j ∧ ∀ t, t < j → fitE (l.getD t 0) = true)
    (fun i => n - (intOf i).toNat)
  case atStart => exact ⟨0, Nat.zero_le _, rfl, fun t ht => absurd ht (by omega)⟩
  case round =>
    obtain ⟨j, hj, rfl, hpre⟩ := hrel
    have HE := Lib.hid hpre; clear hpre
    by_cases hlt : j < n
    · obtain ⟨b, off, rfl, hb, hc⟩ := HA.out.at j (by rw [← HN.out]; exact hlt)
      have c1 := hc j (by rw [← HN.out]; exact hlt)
      clear hc
      obtain ⟨x, hx⟩ : ∃ x, x = l.getD j 0 := ⟨_, rfl⟩
      rw [← hx] at c1
      have HX := Lib.hid hx; clear hx
      have LX := Lib.hid (LO.out x)
      cases hv : fitE x with
      | true =>
        rw [hv] at LX
        have HV := Lib.hid hv; clear hv
        go_wp2_with fail
        refine (LX.out _).mono ?_
        rintro e w1 ⟨rfl, hw⟩
        subst hw
        go_wp2
        go_round
        case rel =>
          refine ⟨j + 1, by omega, by go_num, fun t ht => ?_⟩
          by_cases htj : t = j
          · subst htj; rw [← HX.out]; exact HV.out
          · exact HE.out t (by omega)
        case measure => simp [intOf]; omega
      | false =>
        rw [hv] at LX
        have HV : Hid (fitL 4 l = false) := Lib.hid (by unfold fitL; rw [all_no' (by rw [← HN.out]; exact hlt) (by rw [← HX.out]; exact hv), Bool.false_and])
        clear hv
        go_wp2_with fail
        refine (LX.out _).mono ?_
        rintro e w1 ⟨rfl, hw⟩
        subst hw
        go_wp2
        go_ret
        exact ⟨by rw [HV.out]; rfl, rfl⟩
    · obtain rfl : j = n := by omega
      have hall := all_yes' (l := l) (by rw [← HN.out]; exact HE.out)
      by_cases h16 : j = 16
      · have HV : Hid (fitL 4 l = true) := Lib.hid (by unfold fitL; rw [hall, ← HN.out, h16]; rfl)
        subst h16
        clear hall
        go_wp2
        go_ret
        exact ⟨by rw [HV.out]; rfl, rfl⟩
      · have HV : Hid (fitL 4 l = false) := Lib.hid (by unfold fitL; rw [hall, ← HN.out, decide_eq_false (by omega)]; rfl)
        have hq : ((j : Int) == 16) = false := by rw [beq_eq_false_iff_ne]; omega
        clear hall h16
        go_wp2
        go_ret
        exact ⟨by rw [HV.out]; rfl, rfl⟩

set_option maxRecDepth 100000 in
set_option maxHeartbeats 1000000 in
theorem l12fits_8 (A : Option Addr) (ca : Nat) (l : List Int) (w : World) (hA : Ints w w.heap.size A l) :
    Calls Try.prog 55 #[.slice A l.length ca, .int .i64 8] w fun e w' => e = .returned (.bool (fitL 8 l)) ∧ w = w' := by
  obtain ⟨n, hn⟩ : ∃ n, n = l.length := ⟨_, rfl⟩
  have hnm := hA.1
  rw [← hn] at hnm
  rw [← hn]
  have LO := Lib.hid l1in_fit
  have HA := Lib.hid hA; have HN := Lib.hid hn
  clear hA hn
  go_enter Try.func55, Try.ntmps55
  go_wp2
  go_loop [5] (fun i => ∃ j : Nat, j ≤ n ∧ i = .int .i64 j ∧ ∀ t, t < j → fitE (l.getD t 0) = true)
    (fun i => n - (intOf i).toNat)
  case atStart => exact ⟨0, Nat.zero_le _, rfl, fun t ht => absurd ht (by omega)⟩
  case round =>
    obtain ⟨j, hj, rfl, hpre⟩ := hrel
    have HE := Lib.hid hpre; clear hpre
    by_cases hlt : j < n
    · obtain ⟨b, off, rfl, hb, hc⟩ := HA.out.at j (by rw [← HN.out]; exact hlt)
      have c1 := hc j (by rw [← HN.out]; exact hlt)
      clear hc
      obtain ⟨x, hx⟩ : ∃ x, x = l.getD j 0 := ⟨_, rfl⟩
      rw [← hx] at c1
      have HX := Lib.hid hx; clear hx
      have LX := Lib.hid (LO.out x)
      cases hv : fitE x with
      | true =>
        rw [hv] at LX
        have HV := Lib.hid hv; clear hv
        go_wp2_with fail
        refine (LX.out _).mono ?_
        rintro e w1 ⟨rfl, hw⟩
        subst hw
        go_wp2
        go_round
        case rel =>
          refine ⟨j + 1, by omega, by go_num, fun t ht => ?_⟩
          by_cases htj : t = j
          · subst htj; rw [← HX.out]; exact HV.out
          · exact HE.out t (by omega)
        case measure => simp [intOf]; omega
      | false =>
        rw [hv] at LX
        have HV : Hid (fitL 8 l = false) := Lib.hid (by unfold fitL; rw [all_no' (by rw [← HN.out]; exact hlt) (by rw [← HX.out]; exact hv), Bool.false_and])
        clear hv
        go_wp2_with fail
        refine (LX.out _).mono ?_
        rintro e w1 ⟨rfl, hw⟩
        subst hw
        go_wp2
        go_ret
        exact ⟨by rw [HV.out]; rfl, rfl⟩
    · obtain rfl : j = n := by omega
      have hall := all_yes' (l := l) (by rw [← HN.out]; exact HE.out)
      by_cases h16 : j = 64
      · have HV : Hid (fitL 8 l = true) := Lib.hid (by unfold fitL; rw [hall, ← HN.out, h16]; rfl)
        subst h16
        clear hall
        go_wp2
        go_ret
        exact ⟨by rw [HV.out]; rfl, rfl⟩
      · have HV : Hid (fitL 8 l = false) := Lib.hid (by unfold fitL; rw [hall, ← HN.out, decide_eq_false (by omega)]; rfl)
        have hq : ((j : Int) == 64) = false := by rw [beq_eq_false_iff_ne]; omega
        clear hall h16
        go_wp2
        go_ret
        exact ⟨by rw [HV.out]; rfl, rfl⟩
end Go.Proofs.Ytcmijednpnabmaa
