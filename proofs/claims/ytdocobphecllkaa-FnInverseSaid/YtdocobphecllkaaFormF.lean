/-
  Contracts of the model's l12Fits, l12Some and the four transforms. Condition: the list is no longer than 1048576 (the laws ask no more).
-/
import Derived.Test.YtdocobphecllkaaForm4f
import Derived.Test.YtdocobphecllkaaForm4b
import Derived.Test.YtdocobphecllkaaForm8f
import Derived.Test.YtdocobphecllkaaForm8b
namespace Go.Proofs.Ytdocobphecllkaa
open Go.RowKit
set_option linter.unusedVariables false

theorem all_no' {l : List Int} {j : Nat} (hj : j < l.length) (h : fitE (l.getD j 0) = false) : l.all fitE = false := by
  rw [List.getD_eq_getElem?_getD, List.getElem?_eq_getElem hj] at h
  rw [List.all_eq_false]
  exact ⟨l[j], List.getElem_mem hj, by simpa using h⟩
theorem all_yes' {l : List Int} (h : ∀ t, t < l.length → fitE (l.getD t 0) = true) : l.all fitE = true := by
  rw [List.all_eq_true]
  intro x hx
  obtain ⟨i, hi, rfl⟩ := List.getElem_of_mem hx
  have := h i hi
  rwa [List.getD_eq_getElem?_getD, List.getElem?_eq_getElem hi] at this
set_option maxRecDepth 100000 in
set_option maxHeartbeats 1000000 in
theorem l1in_fit (x : Int) (w : World) : Calls Try.prog 21 #[.int .i64 x, .int .i64 (-1000000000), .int .i64 1000000000] w fun e w' => e = .returned (.bool (fitE x)) ∧ w = w' := by
  by_cases h1 : -1000000000 ≤ x
  · by_cases h2 : x ≤ 1000000000
    · have d1 : decide (-1000000000 ≤ x) = true := by simpa using h1
      have d2 : decide (x ≤ 1000000000) = true := by simpa using h2
      rw [show fitE x = true by simp [fitE]; omega]
      go_enter Try.func21, Try.ntmps21
      go_wp2
      go_ret
      exact ⟨rfl, rfl⟩
    · have d1 : decide (-1000000000 ≤ x) = true := by simpa using h1
      have d2 : decide (x ≤ 1000000000) = false := by simpa using h2
      rw [show fitE x = false by simp [fitE]; omega]
      go_enter Try.func21, Try.ntmps21
      go_wp2
      go_ret
      exact ⟨rfl, rfl⟩
  · have d1 : decide (-1000000000 ≤ x) = false := by simpa using h1
    rw [show fitE x = false by simp [fitE]; omega]
    go_enter Try.func21, Try.ntmps21
    go_wp2
    go_ret
    exact ⟨rfl, rfl⟩

set_option maxRecDepth 100000 in
set_option maxHeartbeats 1000000 in
theorem l12fits_4 (A : Option Addr) (ca : Nat) (l : List Int) (w : World) (hA : Ints w w.heap.size A l) :
    Calls Try.prog 31 #[.slice A l.length ca, .int .i64 4] w fun e w' => e = .returned (.bool (fitL 4 l)) ∧ w = w' := by
  obtain ⟨n, hn⟩ : ∃ n, n = l.length := ⟨_, rfl⟩
  have hnm := hA.1
  rw [← hn] at hnm
  rw [← hn]
  have LO := Lib.hid l1in_fit
  have HA := Lib.hid hA; have HN := Lib.hid hn
  clear hA hn
  go_enter Try.func31, Try.ntmps31
  go_wp2
  go_loop [5] (fun i => ∃ j : Nat, j ≤ n ∧ i = .int .i64 j ∧ ∀ t, t < j → fitE (l.getD t 0) = true)
    (fun i => n - (intOf i).toNat)
  case atStart => exact ⟨0, Nat.zero_le _, rfl, fun t ht => absurd ht (by omega)⟩
  case round =>
    obtain ⟨j, hj, rfl, hpre⟩ := hrel
    have HE := Lib.hid hpre; clear hpre
    by_cases hlt : j < n
    · obtain ⟨b, off, rfl, hb, hc⟩ := HA.out.at j (by rw [← HN.out]; exact hlt)
      have c1 := hc j (by rw [← HN.out]; exact hlt)
      clear hc
      obtain ⟨x, hx⟩ : ∃ x, x = l.getD j 0 := ⟨_, rfl⟩
      rw [← hx] at c1
      have HX := Lib.hid hx; clear hx
      have LX := Lib.hid (LO.out x)
      cases hv : fitE x with
      | true =>
        rw [hv] at LX
        have HV := Lib.hid hv; clear hv
        go_wp2_with fail
        refine (LX.out _).mono ?_
        rintro e w1 ⟨rfl, hw⟩
        subst hw
        go_wp2
        go_round
        case rel =>
          refine ⟨j + 1, by omega, by go_num, fun t ht => ?_⟩
          by_cases htj : t = j
          · subst htj; rw [← HX.out]; exact HV.out
          · exact HE.out t (by omega)
        case measure => simp [intOf]; omega
      | false =>
        rw [hv] at LX
        have HV : Hid (fitL 4 l = false) := Lib.hid (by unfold fitL; rw [all_no' (by rw [← HN.out]; exact hlt) (by rw [← HX.out]; exact hv), Bool.false_and])
        clear hv
        go_wp2_with fail
        refine (LX.out _).mono ?_
        rintro e w1 ⟨rfl, hw⟩
        subst hw
        go_wp2
        go_ret
        exact ⟨by rw [HV.out]; rfl, rfl⟩
    · obtain rfl : j = n := by omega
      have hall := all_yes' (l := l) (by rw [← HN.out]; exact HE.out)
      by_cases h16 : j = 16
      · have HV : Hid (fitL 4 l = true) := Lib.hid (by unfold fitL; rw [hall, ← HN.out, h16]; rfl)
        subst h16
        clear hall
        go_wp2
        go_ret
        exact ⟨by rw [HV.out]; rfl, rfl⟩
      · have HV : Hid (fitL 4 l = false) := Lib.hid (by unfold fitL; rw [hall, ← HN.out, decide_eq_false (by omega)]; rfl)
        have hq : ((j : Int) == 16) = false := by rw [beq_eq_false_iff_ne]; omega
        clear hall h16
        go_wp2
        go_ret
        exact ⟨by rw [HV.out]; rfl, rfl⟩

set_option maxRecDepth 100000 in
set_option maxHeartbeats 1000000 in
theorem l12fits_8 (A : Option Addr) (ca : Nat) (l : List Int) (w : World) (hA : Ints w w.heap.size A l) :
    Calls Try.prog 31 #[.slice A l.length ca, .int .i64 8] w fun e w' => e = .returned (.bool (fitL 8 l)) ∧ w = w' := by
  obtain ⟨n, hn⟩ : ∃ n, n = l.length := ⟨_, rfl⟩
  have hnm := hA.1
  rw [← hn] at hnm
  rw [← hn]
  have LO := Lib.hid l1in_fit
  have HA := Lib.hid hA; have HN := Lib.hid hn
  clear hA hn
  go_enter Try.func31, Try.ntmps31
  go_wp2
  go_loop [5] (fun i => ∃ j : Nat, j ≤ n ∧ i = .int .i64 j ∧ ∀ t, t < j → fitE (l.getD t 0) = true)
    (fun i => n - (intOf i).toNat)
  case atStart => exact ⟨0, Nat.zero_le _, rfl, fun t ht => absurd ht (by omega)⟩
  case round =>
    obtain ⟨j, hj, rfl, hpre⟩ := hrel
    have HE := Lib.hid hpre; clear hpre
    by_cases hlt : j < n
    · obtain ⟨b, off, rfl, hb, hc⟩ := HA.out.at j (by rw [← HN.out]; exact hlt)
      have c1 := hc j (by rw [← HN.out]; exact hlt)
      clear hc
      obtain ⟨x, hx⟩ : ∃ x, x = l.getD j 0 := ⟨_, rfl⟩
      rw [← hx] at c1
      have HX := Lib.hid hx; clear hx
      have LX := Lib.hid (LO.out x)
      cases hv : fitE x with
      | true =>
        rw [hv] at LX
        have HV := Lib.hid hv; clear hv
        go_wp2_with fail
        refine (LX.out _).mono ?_
        rintro e w1 ⟨rfl, hw⟩
        subst hw
        go_wp2
        go_round
        case rel =>
          refine ⟨j + 1, by omega, by go_num, fun t ht => ?_⟩
          by_cases htj : t = j
          · subst htj; rw [← HX.out]; exact HV.out
          · exact HE.out t (by omega)
        case measure => simp [intOf]; omega
      | false =>
        rw [hv] at LX
        have HV : Hid (fitL 8 l = false) := Lib.hid (by unfold fitL; rw [all_no' (by rw [← HN.out]; exact hlt) (by rw [← HX.out]; exact hv), Bool.false_and])
        clear hv
        go_wp2_with fail
        refine (LX.out _).mono ?_
        rintro e w1 ⟨rfl, hw⟩
        subst hw
        go_wp2
        go_ret
        exact ⟨by rw [HV.out]; rfl, rfl⟩
    · obtain rfl : j = n := by omega
      have hall := all_yes' (l := l) (by rw [← HN.out]; exact HE.out)
      by_cases h16 : j = 64
      · have HV : Hid (fitL 8 l = true) := Lib.hid (by unfold fitL; rw [hall, ← HN.out, h16]; rfl)
        subst h16
        clear hall
        go_wp2
        go_ret
        exact ⟨by rw [HV.out]; rfl, rfl⟩
      · have HV : Hid (fitL 8 l = false) := Lib.hid (by unfold fitL; rw [hall, ← HN.out, decide_eq_false (by omega)]; rfl)
        have hq : ((j : Int) == 64) = false := by rw [beq_eq_false_iff_ne]; omega
        clear hall h16
        go_wp2
        go_ret
        exact ⟨by rw [HV.out]; rfl, rfl⟩

set_option maxRecDepth 100000 in
set_option maxHeartbeats 1000000 in
theorem l12some_4_false (A : Option Addr) (ca : Nat) (l : List Int) (w : World) (hA : Ints w w.heap.size A l) :
    Calls Try.prog 19 #[.slice A l.length ca, .int .i64 4, .bool false] w fun e w' => ∃ A' c, e = .returned (.slice A' (xfR 4 false l).length c) ∧ OwnI w' w.heap.size A' c (xfR 4 false l) ∧ Below w.heap.size w w' := by
  have FI := Lib.hid (l12fits_4 A ca l w hA)
  cases hf : fitL 4 l with
  | false =>
    rw [hf] at FI
    rw [xfR_unfit false hf]
    have O0 := Lib.hid (own_ints w w.heap.size [] (Nat.le_refl _) (by simp))
    have B0 := Lib.hid ((Below.refl w.heap.size w).alloc (Nat.le_refl _) (.cells (ivs []).toArray 3))
    obtain ⟨n, hn⟩ : ∃ n, n = l.length := ⟨_, rfl⟩
    rw [← hn] at FI ⊢
    clear hA hf hn
    go_enter Try.func19, Try.ntmps19
    go_wp2_with fail
    refine FI.out.mono ?_
    rintro e w1 ⟨rfl, hw⟩
    subst hw
    go_wp2
    go_ret
    exact ⟨_, _, rfl, O0.out, B0.out⟩
  | true =>
    rw [hf] at FI
    have hl : l.length = 16 := fitL_len hf
    rw [xfR_fit false hf, show (mulF 4 (matE 4 false) l).length = 16 from mulF_len _ _ _]
    have MU := Lib.hid (l12mul_4_false A ca l hl (fitL_at hf) w hA)
    rw [hl] at FI ⊢
    obtain ⟨z, hz⟩ : ∃ z, z = mulF 4 (matE 4 false) l := ⟨_, rfl⟩
    rw [← hz] at MU ⊢
    clear hA hf hl hz
    go_enter Try.func19, Try.ntmps19
    go_wp2_with fail
    refine FI.out.mono ?_
    rintro e w1 ⟨rfl, hw⟩
    subst hw
    go_wp2_with fail
    refine MU.out.mono ?_
    rintro e w1 ⟨A1, c1, rfl, ho1, hb1⟩
    have O1 := Lib.hid ho1; have B1 := Lib.hid hb1
    clear ho1 hb1
    go_wp2
    go_ret
    exact ⟨_, _, rfl, O1.out, B1.out⟩
set_option maxRecDepth 100000 in
set_option maxHeartbeats 1000000 in
theorem spec_forward4_any (A : Option Addr) (ca : Nat) (l : List Int) (w : World) (hA : Ints w w.heap.size A l) :
    Calls Try.prog 7 #[.slice A l.length ca] w fun e w' => ∃ A' c, e = .returned (.slice A' (xfR 4 false l).length c) ∧ OwnI w' w.heap.size A' c (xfR 4 false l) ∧ Below w.heap.size w w' := by
  have SO := Lib.hid (l12some_4_false A ca l w hA)
  obtain ⟨z, hz⟩ : ∃ z, z = xfR 4 false l := ⟨_, rfl⟩
  rw [← hz] at SO ⊢
  obtain ⟨n, hn⟩ : ∃ n, n = l.length := ⟨_, rfl⟩
  rw [← hn] at SO ⊢
  clear hA hz hn
  go_enter Try.func7, Try.ntmps7
  go_wp2_with fail
  refine SO.out.mono ?_
  rintro e w1 ⟨A1, c1, rfl, ho1, hb1⟩
  have O1 := Lib.hid ho1; have B1 := Lib.hid hb1
  clear ho1 hb1
  go_wp2
  go_ret
  exact ⟨_, _, rfl, O1.out, B1.out⟩

set_option maxRecDepth 100000 in
set_option maxHeartbeats 1000000 in
theorem l12some_4_true (A : Option Addr) (ca : Nat) (l : List Int) (w : World) (hA : Ints w w.heap.size A l) :
    Calls Try.prog 19 #[.slice A l.length ca, .int .i64 4, .bool true] w fun e w' => ∃ A' c, e = .returned (.slice A' (xfR 4 true l).length c) ∧ OwnI w' w.heap.size A' c (xfR 4 true l) ∧ Below w.heap.size w w' := by
  have FI := Lib.hid (l12fits_4 A ca l w hA)
  cases hf : fitL 4 l with
  | false =>
    rw [hf] at FI
    rw [xfR_unfit true hf]
    have O0 := Lib.hid (own_ints w w.heap.size [] (Nat.le_refl _) (by simp))
    have B0 := Lib.hid ((Below.refl w.heap.size w).alloc (Nat.le_refl _) (.cells (ivs []).toArray 3))
    obtain ⟨n, hn⟩ : ∃ n, n = l.length := ⟨_, rfl⟩
    rw [← hn] at FI ⊢
    clear hA hf hn
    go_enter Try.func19, Try.ntmps19
    go_wp2_with fail
    refine FI.out.mono ?_
    rintro e w1 ⟨rfl, hw⟩
    subst hw
    go_wp2
    go_ret
    exact ⟨_, _, rfl, O0.out, B0.out⟩
  | true =>
    rw [hf] at FI
    have hl : l.length = 16 := fitL_len hf
    rw [xfR_fit true hf, show (mulF 4 (matE 4 true) l).length = 16 from mulF_len _ _ _]
    have MU := Lib.hid (l12mul_4_true A ca l hl (fitL_at hf) w hA)
    rw [hl] at FI ⊢
    obtain ⟨z, hz⟩ : ∃ z, z = mulF 4 (matE 4 true) l := ⟨_, rfl⟩
    rw [← hz] at MU ⊢
    clear hA hf hl hz
    go_enter Try.func19, Try.ntmps19
    go_wp2_with fail
    refine FI.out.mono ?_
    rintro e w1 ⟨rfl, hw⟩
    subst hw
    go_wp2_with fail
    refine MU.out.mono ?_
    rintro e w1 ⟨A1, c1, rfl, ho1, hb1⟩
    have O1 := Lib.hid ho1; have B1 := Lib.hid hb1
    clear ho1 hb1
    go_wp2
    go_ret
    exact ⟨_, _, rfl, O1.out, B1.out⟩
set_option maxRecDepth 100000 in
set_option maxHeartbeats 1000000 in
theorem l12some_8_false (A : Option Addr) (ca : Nat) (l : List Int) (w : World) (hA : Ints w w.heap.size A l) :
    Calls Try.prog 19 #[.slice A l.length ca, .int .i64 8, .bool false] w fun e w' => ∃ A' c, e = .returned (.slice A' (xfR 8 false l).length c) ∧ OwnI w' w.heap.size A' c (xfR 8 false l) ∧ Below w.heap.size w w' := by
  have FI := Lib.hid (l12fits_8 A ca l w hA)
  cases hf : fitL 8 l with
  | false =>
    rw [hf] at FI
    rw [xfR_unfit false hf]
    have O0 := Lib.hid (own_ints w w.heap.size [] (Nat.le_refl _) (by simp))
    have B0 := Lib.hid ((Below.refl w.heap.size w).alloc (Nat.le_refl _) (.cells (ivs []).toArray 3))
    obtain ⟨n, hn⟩ : ∃ n, n = l.length := ⟨_, rfl⟩
    rw [← hn] at FI ⊢
    clear hA hf hn
    go_enter Try.func19, Try.ntmps19
    go_wp2_with fail
    refine FI.out.mono ?_
    rintro e w1 ⟨rfl, hw⟩
    subst hw
    go_wp2
    go_ret
    exact ⟨_, _, rfl, O0.out, B0.out⟩
  | true =>
    rw [hf] at FI
    have hl : l.length = 64 := fitL_len hf
    rw [xfR_fit false hf, show (mulF 8 (matE 8 false) l).length = 64 from mulF_len _ _ _]
    have MU := Lib.hid (l12mul_8_false A ca l hl (fitL_at hf) w hA)
    rw [hl] at FI ⊢
    obtain ⟨z, hz⟩ : ∃ z, z = mulF 8 (matE 8 false) l := ⟨_, rfl⟩
    rw [← hz] at MU ⊢
    clear hA hf hl hz
    go_enter Try.func19, Try.ntmps19
    go_wp2_with fail
    refine FI.out.mono ?_
    rintro e w1 ⟨rfl, hw⟩
    subst hw
    go_wp2_with fail
    refine MU.out.mono ?_
    rintro e w1 ⟨A1, c1, rfl, ho1, hb1⟩
    have O1 := Lib.hid ho1; have B1 := Lib.hid hb1
    clear ho1 hb1
    go_wp2
    go_ret
    exact ⟨_, _, rfl, O1.out, B1.out⟩
set_option maxRecDepth 100000 in
set_option maxHeartbeats 1000000 in
theorem l12some_8_true (A : Option Addr) (ca : Nat) (l : List Int) (w : World) (hA : Ints w w.heap.size A l) :
    Calls Try.prog 19 #[.slice A l.length ca, .int .i64 8, .bool true] w fun e w' => ∃ A' c, e = .returned (.slice A' (xfR 8 true l).length c) ∧ OwnI w' w.heap.size A' c (xfR 8 true l) ∧ Below w.heap.size w w' := by
  have FI := Lib.hid (l12fits_8 A ca l w hA)
  cases hf : fitL 8 l with
  | false =>
    rw [hf] at FI
    rw [xfR_unfit true hf]
    have O0 := Lib.hid (own_ints w w.heap.size [] (Nat.le_refl _) (by simp))
    have B0 := Lib.hid ((Below.refl w.heap.size w).alloc (Nat.le_refl _) (.cells (ivs []).toArray 3))
    obtain ⟨n, hn⟩ : ∃ n, n = l.length := ⟨_, rfl⟩
    rw [← hn] at FI ⊢
    clear hA hf hn
    go_enter Try.func19, Try.ntmps19
    go_wp2_with fail
    refine FI.out.mono ?_
    rintro e w1 ⟨rfl, hw⟩
    subst hw
    go_wp2
    go_ret
    exact ⟨_, _, rfl, O0.out, B0.out⟩
  | true =>
    rw [hf] at FI
    have hl : l.length = 64 := fitL_len hf
    rw [xfR_fit true hf, show (mulF 8 (matE 8 true) l).length = 64 from mulF_len _ _ _]
    have MU := Lib.hid (l12mul_8_true A ca l hl (fitL_at hf) w hA)
    rw [hl] at FI ⊢
    obtain ⟨z, hz⟩ : ∃ z, z = mulF 8 (matE 8 true) l := ⟨_, rfl⟩
    rw [← hz] at MU ⊢
    clear hA hf hl hz
    go_enter Try.func19, Try.ntmps19
    go_wp2_with fail
    refine FI.out.mono ?_
    rintro e w1 ⟨rfl, hw⟩
    subst hw
    go_wp2_with fail
    refine MU.out.mono ?_
    rintro e w1 ⟨A1, c1, rfl, ho1, hb1⟩
    have O1 := Lib.hid ho1; have B1 := Lib.hid hb1
    clear ho1 hb1
    go_wp2
    go_ret
    exact ⟨_, _, rfl, O1.out, B1.out⟩
end Go.Proofs.Ytdocobphecllkaa
