/-
  Contracts of the program's NbOk, Border and Mean. Condition: a slice is no longer than it holds.
-/
import Derived.Test.YtbiffijjmhpkpaaNbD
namespace Go.Proofs.Ytbiffijjmhpkpaa
open Go.RowKit
set_option linter.unusedVariables false

set_option maxRecDepth 100000 in
set_option maxHeartbeats 1000000 in
theorem impl_sample_any (x : Int) (w : World) :
    Calls Try.prog 43 #[.int .i64 x] w fun e w' => e = .returned (.bool (pixE x)) ∧ w = w' := by
  unfold pixE
  by_cases h1 : 0 ≤ x
  · have d1 : decide (0 ≤ x) = true := by simpa using h1
    rw [d1]
    by_cases h2 : x ≤ 255
    · have d2 : decide (x ≤ 255) = true := by simpa using h2
      rw [d2]
      clear h1 h2
      go_enter Try.func43, Try.ntmps43
      go_wp2
      go_ret
      exact ⟨rfl, rfl⟩
    · have d2 : decide (x ≤ 255) = false := by simpa using h2
      rw [d2]
      clear h1 h2
      go_enter Try.func43, Try.ntmps43
      go_wp2
      go_ret
      exact ⟨rfl, rfl⟩
  · have d1 : decide (0 ≤ x) = false := by simpa using h1
    rw [d1]
    clear h1
    go_enter Try.func43, Try.ntmps43
    go_wp2
    go_ret
    exact ⟨rfl, rfl⟩
set_option maxRecDepth 100000 in
set_option maxHeartbeats 1000000 in
theorem impl_samples_any (A : Option Addr) (ca : Nat) (l : List Int) (w : World) (hA : Ints w w.heap.size A l) :
    Calls Try.prog 37 #[.slice A l.length ca] w fun e w' => e = .returned (.bool (l.all pixE)) ∧ w = w' := by
  obtain ⟨n, hn⟩ : ∃ n, n = l.length := ⟨_, rfl⟩
  have hnm := hA.1
  rw [← hn] at hnm
  rw [← hn]
  have LO := Lib.hid impl_sample_any
  have HA := Lib.hid hA; have HN := Lib.hid hn
  clear hA hn
  go_enter Try.func37, Try.ntmps37
  go_wp2
  go_loop [4, 7] (fun x i => ∃ j : Nat, j ≤ n ∧ i = .int .i64 j ∧ ∀ t, t < j → pixE (l.getD t 0) = true)
    (fun _ i => n - (intOf i).toNat)
  case atStart => exact ⟨0, Nat.zero_le _, rfl, fun t ht => absurd ht (by omega)⟩
  case round =>
    obtain ⟨j, hj, rfl, hpre⟩ := hrel
    have HE := Lib.hid hpre; clear hpre
    by_cases hlt : j < n
    · obtain ⟨b, off, rfl, hb, hc⟩ := HA.out.at j (by rw [← HN.out]; exact hlt)
      have c1 := hc j (by rw [← HN.out]; exact hlt)
      clear hc
      obtain ⟨x, hx⟩ : ∃ x, x = l.getD j 0 := ⟨_, rfl⟩
      rw [← hx] at c1
      have HX := Lib.hid hx; clear hx
      have LX := Lib.hid (LO.out x)
      cases hv : pixE x with
      | true =>
        rw [hv] at LX
        have HV := Lib.hid hv; clear hv
        go_wp2_with fail
        refine (LX.out _).mono ?_
        rintro e w1 ⟨rfl, hw⟩
        subst hw
        go_wp2
        go_round
        case rel =>
          refine ⟨j + 1, by omega, by go_num, fun t ht => ?_⟩
          by_cases htj : t = j
          · subst htj; rw [← HX.out]; exact HV.out
          · exact HE.out t (by omega)
        case measure => simp [intOf]; omega
      | false =>
        rw [hv] at LX
        have HV : Hid (l.all pixE = false) := Lib.hid (pix_no (by rw [← HN.out]; exact hlt) (by rw [← HX.out]; exact hv))
        clear hv
        go_wp2_with fail
        refine (LX.out _).mono ?_
        rintro e w1 ⟨rfl, hw⟩
        subst hw
        go_wp2
        go_ret
        exact ⟨by rw [HV.out]; rfl, rfl⟩
    · obtain rfl : j = n := by omega
      have HV : Hid (l.all pixE = true) := Lib.hid (pix_yes (by rw [← HN.out]; exact HE.out))
      go_wp2
      go_ret
      exact ⟨by rw [HV.out]; rfl, rfl⟩

end Go.Proofs.Ytbiffijjmhpkpaa
