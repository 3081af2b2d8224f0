/-
  Contracts of the program's four transforms and of what they call. Condition: the world is any; the list is any that a slice can hold.
-/
import Derived.Test.YtcmijednpnabmaaFormA
namespace Go.Proofs.Ytcmijednpnabmaa
open Go.RowKit
set_option linter.unusedVariables false

/-! ### The bits of a small number -/
theorem and_small : ∀ r : Nat, r < 8 → ∀ c : Nat, c < 8 → bits .and .i64 (r : Int) (c : Int) = ((r &&& c : Nat) : Int) := by decide +kernel

set_option maxRecDepth 100000 in
set_option maxHeartbeats 1000000 in
theorem ones64_0 (w : World) : Calls Try.prog 69 #[.int .u64 0] w fun e w' => e = .returned (.int .i64 0) ∧ w = w' := by
  go_enter Try.func69, Try.ntmps69
  go_wp2
  go_ret
  exact ⟨by kernel_rfl, rfl⟩

set_option maxRecDepth 100000 in
set_option maxHeartbeats 1000000 in
theorem ones64_1 (w : World) : Calls Try.prog 69 #[.int .u64 1] w fun e w' => e = .returned (.int .i64 1) ∧ w = w' := by
  go_enter Try.func69, Try.ntmps69
  go_wp2
  go_ret
  exact ⟨by kernel_rfl, rfl⟩

set_option maxRecDepth 100000 in
set_option maxHeartbeats 1000000 in
theorem ones64_2 (w : World) : Calls Try.prog 69 #[.int .u64 2] w fun e w' => e = .returned (.int .i64 1) ∧ w = w' := by
  go_enter Try.func69, Try.ntmps69
  go_wp2
  go_ret
  exact ⟨by kernel_rfl, rfl⟩

set_option maxRecDepth 100000 in
set_option maxHeartbeats 1000000 in
theorem ones64_3 (w : World) : Calls Try.prog 69 #[.int .u64 3] w fun e w' => e = .returned (.int .i64 2) ∧ w = w' := by
  go_enter Try.func69, Try.ntmps69
  go_wp2
  go_ret
  exact ⟨by kernel_rfl, rfl⟩

set_option maxRecDepth 100000 in
set_option maxHeartbeats 1000000 in
theorem ones64_4 (w : World) : Calls Try.prog 69 #[.int .u64 4] w fun e w' => e = .returned (.int .i64 1) ∧ w = w' := by
  go_enter Try.func69, Try.ntmps69
  go_wp2
  go_ret
  exact ⟨by kernel_rfl, rfl⟩

set_option maxRecDepth 100000 in
set_option maxHeartbeats 1000000 in
theorem ones64_5 (w : World) : Calls Try.prog 69 #[.int .u64 5] w fun e w' => e = .returned (.int .i64 2) ∧ w = w' := by
  go_enter Try.func69, Try.ntmps69
  go_wp2
  go_ret
  exact ⟨by kernel_rfl, rfl⟩

set_option maxRecDepth 100000 in
set_option maxHeartbeats 1000000 in
theorem ones64_6 (w : World) : Calls Try.prog 69 #[.int .u64 6] w fun e w' => e = .returned (.int .i64 2) ∧ w = w' := by
  go_enter Try.func69, Try.ntmps69
  go_wp2
  go_ret
  exact ⟨by kernel_rfl, rfl⟩

set_option maxRecDepth 100000 in
set_option maxHeartbeats 1000000 in
theorem ones64_7 (w : World) : Calls Try.prog 69 #[.int .u64 7] w fun e w' => e = .returned (.int .i64 3) ∧ w = w' := by
  go_enter Try.func69, Try.ntmps69
  go_wp2
  go_ret
  exact ⟨by kernel_rfl, rfl⟩

theorem setpre {p : List Int} {j : Nat} {z : Int} {f : Nat → Int} {N : Nat} (hp : p.length = N) (hj : j < N) (hpre : ∀ t, t < j → p.getD t 0 = f t) (hz : f j = z) : ∀ t, t < j + 1 → (p.set j z).getD t 0 = f t := by
  intro t ht
  by_cases htj : t = j
  · subst htj
    rw [List.getD_eq_getElem?_getD, List.getElem?_set_self (by omega), hz]
    rfl
  · rw [List.getD_eq_getElem?_getD, List.getElem?_set_ne (fun e => htj e.symm), ← List.getD_eq_getElem?_getD]
    exact hpre t (by omega)

theorem ones64_any (v : Nat) (hv : v < 8) (w : World) : Calls Try.prog 69 #[.int .u64 v] w fun e w' => e = .returned (.int .i64 (popN v)) ∧ w = w' := by
  rcases (show v = 0 ∨ v = 1 ∨ v = 2 ∨ v = 3 ∨ v = 4 ∨ v = 5 ∨ v = 6 ∨ v = 7 by omega) with rfl | rfl | rfl | rfl | rfl | rfl | rfl | rfl
  · exact ones64_0 w
  · exact ones64_1 w
  · exact ones64_2 w
  · exact ones64_3 w
  · exact ones64_4 w
  · exact ones64_5 w
  · exact ones64_6 w
  · exact ones64_7 w
set_option maxRecDepth 100000 in
set_option maxHeartbeats 1000000 in
theorem ones_any (v : Nat) (hv : v < 8) (w : World) : Calls Try.prog 62 #[.int .u64 v] w fun e w' => e = .returned (.int .i64 (popN v)) ∧ w = w' := by
  have LO := Lib.hid (ones64_any v hv w)
  obtain ⟨s, hs⟩ : ∃ s, s = popN v := ⟨_, rfl⟩
  rw [← hs] at LO ⊢
  clear hs
  go_enter Try.func62, Try.ntmps62
  go_wp2_with fail
  refine LO.out.mono ?_
  rintro e w1 ⟨rfl, hw⟩
  subst hw
  go_wp2
  go_ret
  exact ⟨rfl, rfl⟩

/-! ### The matrices -/
set_option maxRecDepth 100000 in
set_option maxHeartbeats 1000000 in
theorem impl_matrixa_any (w : World) : Calls Try.prog 49 #[] w fun e w' => ∃ A' c, e = .returned (.slice A' 16 c) ∧ OwnI w' w.heap.size A' c (matL 4 false) ∧ Below w.heap.size w w' := by
  have O0 := Lib.hid (own_ints w w.heap.size (matL 4 false) (Nat.le_refl _) (by rw [matL_len]; simp [maxLen]))
  have B0 := Lib.hid (below_new w (.cells (ivs (matL 4 false)).toArray 3))
  rw [matL_four] at O0 B0 ⊢
  go_enter Try.func49, Try.ntmps49
  go_wp2
  go_ret
  exact ⟨_, _, rfl, O0.out, B0.out⟩
set_option maxRecDepth 100000 in
set_option maxHeartbeats 2000000 in
theorem impl_matrixh_any (back : Bool) (w : World) : Calls Try.prog 50 #[] w fun e w' => ∃ A' c, e = .returned (.slice A' 64 c) ∧ OwnI w' w.heap.size A' c (matL 8 back) ∧ Below w.heap.size w w' := by
  have hmk := make_ints 64 (64 : Int) rfl (by omega)
  have O0 := Lib.hid (zer_row 64 (by decide) w)
  have B0 := Lib.hid (below_new w (.cells (ivs (List.replicate 64 0)).toArray 3))
  have HON := Lib.hid ones_any
  go_enter Try.func50, Try.ntmps50
  go_wp2
  clear hmk
  go_loopw [2, 3, 4, 8] (fun x2 x3 x4 i wr => ∃ (j : Nat) (p : List Int), j ≤ 64 ∧ i = .int .i64 j ∧ p.length = 64 ∧ (∀ t, t < j → p.getD t 0 = matH (t / 8) (t % 8)) ∧ wr.ownsRow w.heap.size 3 1 (.slice (some ⟨w.heap.size, 0, none⟩) 64 64) 64 (ivs p) ∧ Below w.heap.size w wr)
    (fun _ _ _ i _ => 64 - (intOf i).toNat)
  case atStart => exact ⟨0, List.replicate 64 0, Nat.zero_le _, rfl, List.length_replicate, fun t ht => absurd ht (by omega), O0.out, B0.out⟩
  case round =>
    obtain ⟨j, p, hj, rfl, hp, hpre, hown, hbel⟩ := hrel
    have HP := Lib.hid hp; have HE := Lib.hid hpre
    clear hp hpre
    by_cases hlt : j < 64
    · have d1 : decide ((j : Int) < 64) = true := by simp; omega
      obtain ⟨y, hy⟩ : ∃ y, y = j / 8 := ⟨_, rfl⟩
      obtain ⟨x, hx⟩ : ∃ x, x = j % 8 := ⟨_, rfl⟩
      have e1 : (j : Int).tmod 8 = (x : Int) := by rw [Int.tmod_eq_emod_of_nonneg (by omega)]; omega
      have e2 : (j : Int).tdiv 8 = (y : Int) := by rw [Int.tdiv_eq_ediv_of_nonneg (by omega)]; omega
      have hy8 : y < 8 := by omega
      have hx8 : x < 8 := by omega
      have hbit := matH_bits y hy8 x hx8
      have hand := and_small y hy8 x hx8
      obtain ⟨v, hv⟩ : ∃ v, v = y &&& x := ⟨_, rfl⟩
      rw [← hv] at hbit hand
      obtain ⟨hv8, hmat⟩ := hbit
      have hcv : IntKind.u64.wrap (v : Int) = (v : Int) := IntWalk.u64_in _ (by omega)
      have LO := Lib.hid (HON.out v hv8)
      have hsm := popN_small v hv8
      have hsg : sgE v = if popN v % 2 = 0 then 1 else -1 := rfl
      obtain ⟨s, hs⟩ : ∃ s, s = popN v := ⟨_, rfl⟩
      rw [← hs] at LO hsm hsg
      obtain ⟨b0, hcell⟩ : ∃ b0 : Int, wr.cell? ⟨w.heap.size, j, none⟩ = some (.int .i64 b0) := ⟨_, (hown.cellAt j (by omega)).trans (ivs_at p j (by rw [HP.out]; omega))⟩
      have hfz := hown.frozenAt j
      have s1 := hown.stored j (.int .i64 1)
      rw [ivs_set] at s1
      have S1 := Lib.hid s1.1
      have S3 := Lib.hid (hbel.setCell (p := ⟨w.heap.size, j, none⟩) (Nat.le_refl _) (.int .i64 1))
      have hcell2 : (wr.setCell ⟨w.heap.size, j, none⟩ (.int .i64 1)).cell? ⟨w.heap.size, j, none⟩ = some (.int .i64 1) := by
        have := (s1.1.cellAt j (by omega)).trans (ivs_at (p.set j 1) j (by rw [List.length_set, HP.out]; omega))
        rw [this, List.getD_eq_getElem?_getD, List.getElem?_set_self (by rw [HP.out]; omega)]
        rfl
      have hfz2 := s1.1.frozenAt j
      have s2 := s1.1.stored j (.int .i64 (-1))
      rw [ivs_set] at s2
      have T1 := Lib.hid s2.1
      have T3 := Lib.hid (S3.out.setCell (p := ⟨w.heap.size, j, none⟩) (Nat.le_refl _) (.int .i64 (-1)))
      have HM : Hid (matH (j / 8) (j % 8) = if s % 2 = 0 then 1 else -1) := Lib.hid (by rw [← hy, ← hx, hmat]; exact hsg)
      clear s1 s2 hown hbel hy hx hv hmat hsg hs
      rcases (show s = 0 ∨ s = 2 ∨ s = 1 ∨ s = 3 by omega) with rfl | rfl | rfl | rfl
      all_goals go_wp2_with fail
      all_goals refine (LO.out _).mono ?_
      all_goals rintro e w1 ⟨rfl, hw⟩
      all_goals subst hw
      all_goals go_wp2
      all_goals go_roundw
      all_goals try (simp [intOf]; omega)
      case rel =>
        refine ⟨j + 1, p.set j 1, by omega, by go_num, by rw [List.length_set]; exact HP.out, ?_, S1.out, S3.out⟩
        exact setpre HP.out hlt HE.out HM.out
      case rel =>
        refine ⟨j + 1, p.set j 1, by omega, by go_num, by rw [List.length_set]; exact HP.out, ?_, S1.out, S3.out⟩
        exact setpre HP.out hlt HE.out HM.out
      case rel =>
        refine ⟨j + 1, (p.set j 1).set j (-1), by omega, by go_num, by rw [List.length_set, List.length_set]; exact HP.out, ?_, T1.out, T3.out⟩
        rw [List.set_set]
        exact setpre HP.out hlt HE.out HM.out
      case rel =>
        refine ⟨j + 1, (p.set j 1).set j (-1), by omega, by go_num, by rw [List.length_set, List.length_set]; exact HP.out, ?_, T1.out, T3.out⟩
        rw [List.set_set]
        exact setpre HP.out hlt HE.out HM.out
    · obtain rfl : j = 64 := by omega
      have e : p = matL 8 back := lsq_of HP.out fun a b ha hb => by
        rw [HE.out (a * 8 + b) (by omega), show (a * 8 + b) / 8 = a by omega, show (a * 8 + b) % 8 = b by omega]
        rfl
      have O3 := Lib.hid hown; have B3 := Lib.hid hbel; have HEQ := Lib.hid e
      clear hown hbel e
      go_wp2
      go_ret
      exact ⟨_, _, rfl, own_back (by rw [← HEQ.out]; exact O3.out) (matL_len 8 back), B3.out⟩

/-! ### The transforms -/
theorem fitE_true {x : Int} (h : fitE x = true) : -1000000000 ≤ x ∧ x ≤ 1000000000 := by simpa [fitE] using h
theorem all_no {l : List Int} {j : Nat} (hj : j < l.length) (h : fitE (l.getD j 0) = false) : l.all fitE = false := by
  rw [List.getD_eq_getElem?_getD, List.getElem?_eq_getElem hj] at h
  rw [List.all_eq_false]
  exact ⟨l[j], List.getElem_mem hj, by simpa using h⟩
theorem all_yes {l : List Int} (h : ∀ t, t < l.length → fitE (l.getD t 0) = true) : l.all fitE = true := by
  rw [List.all_eq_true]
  intro x hx
  obtain ⟨i, hi, rfl⟩ := List.getElem_of_mem hx
  have := h i hi
  rwa [List.getD_eq_getElem?_getD, List.getElem?_eq_getElem hi] at this
set_option maxRecDepth 100000 in
set_option maxHeartbeats 1000000 in
theorem impl_elements_any (A : Option Addr) (ca : Nat) (l : List Int) (w : World) (hA : Ints w w.heap.size A l) :
    Calls Try.prog 57 #[.slice A l.length ca] w fun e w' => e = .returned (.bool (l.all fitE)) ∧ w = w' := by
  obtain ⟨n, hn⟩ : ∃ n, n = l.length := ⟨_, rfl⟩
  have hnm := hA.1
  rw [← hn] at hnm
  rw [← hn]
  have HA := Lib.hid hA; have HN := Lib.hid hn
  clear hA hn
  go_enter Try.func57, Try.ntmps57
  go_wp2
  go_loop [4, 7] (fun x i => ∃ j : Nat, j ≤ n ∧ i = .int .i64 j ∧ ∀ t, t < j → fitE (l.getD t 0) = true)
    (fun _ i => n - (intOf i).toNat)
  case atStart => exact ⟨0, Nat.zero_le _, rfl, fun t ht => absurd ht (by omega)⟩
  case round =>
    obtain ⟨j, hj, rfl, hpre⟩ := hrel
    have HE := Lib.hid hpre; clear hpre
    by_cases hlt : j < n
    · obtain ⟨b, off, rfl, hb, hc⟩ := HA.out.at j (by rw [← HN.out]; exact hlt)
      have c1 := hc j (by rw [← HN.out]; exact hlt)
      clear hc
      obtain ⟨x, hx⟩ : ∃ x, x = l.getD j 0 := ⟨_, rfl⟩
      rw [← hx] at c1
      have HX := Lib.hid hx; clear hx
      by_cases h1 : x < -1000000000
      · have d1 : decide (x < -1000000000) = true := by simpa using h1
        have HV : Hid (l.all fitE = false) := Lib.hid (all_no (by rw [← HN.out]; exact hlt) (by rw [← HX.out]; simp [fitE]; omega))
        clear h1
        go_wp2
        go_ret
        exact ⟨by rw [HV.out]; rfl, rfl⟩
      · have d1 : decide (x < -1000000000) = false := by simpa using h1
        by_cases h2 : 1000000000 < x
        · have d2 : decide (1000000000 < x) = true := by simpa using h2
          have HV : Hid (l.all fitE = false) := Lib.hid (all_no (by rw [← HN.out]; exact hlt) (by rw [← HX.out]; simp [fitE]; omega))
          clear h1 h2
          go_wp2
          go_ret
          exact ⟨by rw [HV.out]; rfl, rfl⟩
        · have d2 : decide (1000000000 < x) = false := by simpa using h2
          have HV : Hid (fitE x = true) := Lib.hid (by simp [fitE]; omega)
          clear h1 h2
          go_wp2
          go_round
          case rel =>
            refine ⟨j + 1, by omega, by go_num, fun t ht => ?_⟩
            by_cases htj : t = j
            · subst htj; rw [← HX.out]; exact HV.out
            · exact HE.out t (by omega)
          case measure => simp [intOf]; omega
    · obtain rfl : j = n := by omega
      have HV : Hid (l.all fitE = true) := Lib.hid (all_yes (by rw [← HN.out]; exact HE.out))
      go_wp2
      go_ret
      exact ⟨by rw [HV.out]; rfl, rfl⟩
theorem fitL_no {n : Nat} {l : List Int} (h : l.length ≠ n * n) : fitL n l = false := by
  unfold fitL
  rw [decide_eq_false h, Bool.and_false]
theorem fitL_yes {n : Nat} {l : List Int} (h : l.length = n * n) : fitL n l = l.all fitE := by
  unfold fitL
  rw [decide_eq_true h, Bool.and_true]

set_option maxRecDepth 100000 in
set_option maxHeartbeats 2000000 in
theorem impl_transformed_4 (back : Bool) (A Am : Option Addr) (ca cm : Nat) (l : List Int) (w : World) (hA : Ints w w.heap.size A l) (hM : Ints w w.heap.size Am (matL 4 back)) :
    Calls Try.prog 48 #[.slice Am 16 cm, .slice A l.length ca] w fun e w' => ∃ A' c, e = .returned (.slice A' (xfR 4 back l).length c) ∧ OwnI w' w.heap.size A' c (xfR 4 back l) ∧ Below w.heap.size w w' := by
  have HON : Hid (OwnI w w.heap.size none 0 []) := Lib.hid (World.ownsRow_nil w w.heap.size 3 1)
  have EL := Lib.hid (impl_elements_any A ca l w hA)
  have SI := Lib.hid (impl_side_any 16)
  rw [show sideN 16 = 4 by rfl] at SI
  have hnm := hA.1
  obtain ⟨n, hn⟩ : ∃ n, n = l.length := ⟨_, rfl⟩
  by_cases h16 : n = 16
  · have hfy := fitL_yes (n := 4) (l := l) (by omega)
    rw [← hn, h16] at EL ⊢
    cases hall : l.all fitE with
    | false =>
      rw [hall] at EL hfy
      rw [xfR_unfit back hfy]
      clear hn hA hM hall hfy h16
      go_enter Try.func48, Try.ntmps48
      go_wp2_with fail
      refine EL.out.mono ?_
      rintro e w1 ⟨rfl, hw⟩
      subst hw
      go_wp2
      go_ret
      exact ⟨none, 0, rfl, HON.out, Below.refl _ _⟩
    | true =>
      rw [hall] at EL hfy
      rw [xfR_fit back hfy, show (mulF 4 (matE 4 back) l).length = 16 from mulF_len _ _ _]
      have hel := fitL_at hfy
      have P1 := Lib.hid (impl_product_4 Am A cm ca (matL 4 back) l (matL_len 4 back) (by omega) (fun y x k hy hx hk => by
        rw [prG_first back l y x k hy hk]
        have := term_first back (l := l) (by decide) hel y x k hy hx hk
        omega) w hM hA)
      have TR := Lib.hid fun w h => impl_transposed_4 Am cm (matL 4 back) (matL_len 4 back) w h
      have P2 := Lib.hid fun A1 c1 A2 c2 w h1 h2 => impl_product_4 A1 A2 c1 c2 (prF 4 (matL 4 back) l) (trL 4 (matL 4 back)) (prF_len _ _ _) (trL_len _ _) (fun y x k hy hx hk => by
        rw [prG_second back l y x k hy hx hk]
        exact term_second back (l := l) (by decide) hel y x k hy hx hk) w h1 h2
      rw [mul_prF] at P2
      have HM := Lib.hid hM
      have l1 := prF_len 4 (matL 4 back) l
      have l2 := trL_len 4 (matL 4 back)
      obtain ⟨p1, hp1⟩ : ∃ p, p = prF 4 (matL 4 back) l := ⟨_, rfl⟩
      obtain ⟨p2, hp2⟩ : ∃ p, p = trL 4 (matL 4 back) := ⟨_, rfl⟩
      obtain ⟨p3, hp3⟩ : ∃ p, p = mulF 4 (matE 4 back) l := ⟨_, rfl⟩
      rw [← hp1] at P1 l1
      rw [← hp2] at TR l2
      rw [← hp1, ← hp2, ← hp3] at P2
      rw [← hp3]
      clear hn hA hM hall hfy h16 hel hp1 hp2 hp3
      go_enter Try.func48, Try.ntmps48
      go_wp2_with fail
      refine EL.out.mono ?_
      rintro e w1 ⟨rfl, hw⟩
      subst hw
      go_wp2_with fail
      refine (SI.out _).mono ?_
      rintro e w1 ⟨rfl, hw⟩
      subst hw
      go_wp2_with fail
      refine P1.out.mono ?_
      rintro e w1 ⟨A1, c1, rfl, ho1, hb1⟩
      have O1 := Lib.hid ho1; have B1 := Lib.hid hb1
      clear ho1 hb1
      go_wp2_with fail
      refine (TR.out w1 ((HM.out.below B1.out (Nat.le_refl _)).mono B1.out.size)).mono ?_
      rintro e w2 ⟨A2, c2, rfl, ho2, hb2⟩
      have O2 := Lib.hid ho2; have O12 := Lib.hid (O1.out.kept hb2 (Nat.le_refl _)); have B2 := Lib.hid (below_up B1.out hb2 B1.out.size)
      clear ho2 hb2
      go_wp2_with fail
      refine (P2.out A1 c1 A2 c2 w2 (O12.out.ints (by omega)) (O2.out.ints (by omega))).mono ?_
      rintro e w3 ⟨A3, c3, rfl, ho3, hb3⟩
      have O3 := Lib.hid (own_lower ho3 B2.out.size); have B3 := Lib.hid (below_up B2.out hb3 B2.out.size)
      clear ho3 hb3
      go_wp2
      go_ret
      exact ⟨_, _, rfl, O3.out, B3.out⟩
  · have hne : ((n : Int) != 16) = true := by rw [bne_iff_ne]; omega
    rw [xfR_unfit back (fitL_no (n := 4) (by omega))]
    rw [← hn] at hnm ⊢
    clear hn hA hM h16 EL SI
    go_enter Try.func48, Try.ntmps48
    go_wp2
    go_ret
    exact ⟨none, 0, rfl, HON.out, Below.refl _ _⟩

set_option maxRecDepth 100000 in
set_option maxHeartbeats 2000000 in
theorem impl_transformed_8 (back : Bool) (A Am : Option Addr) (ca cm : Nat) (l : List Int) (w : World) (hA : Ints w w.heap.size A l) (hM : Ints w w.heap.size Am (matL 8 back)) :
    Calls Try.prog 48 #[.slice Am 64 cm, .slice A l.length ca] w fun e w' => ∃ A' c, e = .returned (.slice A' (xfR 8 back l).length c) ∧ OwnI w' w.heap.size A' c (xfR 8 back l) ∧ Below w.heap.size w w' := by
  have HON : Hid (OwnI w w.heap.size none 0 []) := Lib.hid (World.ownsRow_nil w w.heap.size 3 1)
  have EL := Lib.hid (impl_elements_any A ca l w hA)
  have SI := Lib.hid (impl_side_any 64)
  rw [show sideN 64 = 8 by rfl] at SI
  have hnm := hA.1
  obtain ⟨n, hn⟩ : ∃ n, n = l.length := ⟨_, rfl⟩
  by_cases h16 : n = 64
  · have hfy := fitL_yes (n := 8) (l := l) (by omega)
    rw [← hn, h16] at EL ⊢
    cases hall : l.all fitE with
    | false =>
      rw [hall] at EL hfy
      rw [xfR_unfit back hfy]
      clear hn hA hM hall hfy h16
      go_enter Try.func48, Try.ntmps48
      go_wp2_with fail
      refine EL.out.mono ?_
      rintro e w1 ⟨rfl, hw⟩
      subst hw
      go_wp2
      go_ret
      exact ⟨none, 0, rfl, HON.out, Below.refl _ _⟩
    | true =>
      rw [hall] at EL hfy
      rw [xfR_fit back hfy, show (mulF 8 (matE 8 back) l).length = 64 from mulF_len _ _ _]
      have hel := fitL_at hfy
      have P1 := Lib.hid (impl_product_8 Am A cm ca (matL 8 back) l (matL_len 8 back) (by omega) (fun y x k hy hx hk => by
        rw [prG_first back l y x k hy hk]
        have := term_first back (l := l) (by decide) hel y x k hy hx hk
        omega) w hM hA)
      have TR := Lib.hid fun w h => impl_transposed_8 Am cm (matL 8 back) (matL_len 8 back) w h
      have P2 := Lib.hid fun A1 c1 A2 c2 w h1 h2 => impl_product_8 A1 A2 c1 c2 (prF 8 (matL 8 back) l) (trL 8 (matL 8 back)) (prF_len _ _ _) (trL_len _ _) (fun y x k hy hx hk => by
        rw [prG_second back l y x k hy hx hk]
        exact term_second back (l := l) (by decide) hel y x k hy hx hk) w h1 h2
      rw [mul_prF] at P2
      have HM := Lib.hid hM
      have l1 := prF_len 8 (matL 8 back) l
      have l2 := trL_len 8 (matL 8 back)
      obtain ⟨p1, hp1⟩ : ∃ p, p = prF 8 (matL 8 back) l := ⟨_, rfl⟩
      obtain ⟨p2, hp2⟩ : ∃ p, p = trL 8 (matL 8 back) := ⟨_, rfl⟩
      obtain ⟨p3, hp3⟩ : ∃ p, p = mulF 8 (matE 8 back) l := ⟨_, rfl⟩
      rw [← hp1] at P1 l1
      rw [← hp2] at TR l2
      rw [← hp1, ← hp2, ← hp3] at P2
      rw [← hp3]
      clear hn hA hM hall hfy h16 hel hp1 hp2 hp3
      go_enter Try.func48, Try.ntmps48
      go_wp2_with fail
      refine EL.out.mono ?_
      rintro e w1 ⟨rfl, hw⟩
      subst hw
      go_wp2_with fail
      refine (SI.out _).mono ?_
      rintro e w1 ⟨rfl, hw⟩
      subst hw
      go_wp2_with fail
      refine P1.out.mono ?_
      rintro e w1 ⟨A1, c1, rfl, ho1, hb1⟩
      have O1 := Lib.hid ho1; have B1 := Lib.hid hb1
      clear ho1 hb1
      go_wp2_with fail
      refine (TR.out w1 ((HM.out.below B1.out (Nat.le_refl _)).mono B1.out.size)).mono ?_
      rintro e w2 ⟨A2, c2, rfl, ho2, hb2⟩
      have O2 := Lib.hid ho2; have O12 := Lib.hid (O1.out.kept hb2 (Nat.le_refl _)); have B2 := Lib.hid (below_up B1.out hb2 B1.out.size)
      clear ho2 hb2
      go_wp2_with fail
      refine (P2.out A1 c1 A2 c2 w2 (O12.out.ints (by omega)) (O2.out.ints (by omega))).mono ?_
      rintro e w3 ⟨A3, c3, rfl, ho3, hb3⟩
      have O3 := Lib.hid (own_lower ho3 B2.out.size); have B3 := Lib.hid (below_up B2.out hb3 B2.out.size)
      clear ho3 hb3
      go_wp2
      go_ret
      exact ⟨_, _, rfl, O3.out, B3.out⟩
  · have hne : ((n : Int) != 64) = true := by rw [bne_iff_ne]; omega
    rw [xfR_unfit back (fitL_no (n := 8) (by omega))]
    rw [← hn] at hnm ⊢
    clear hn hA hM h16 EL SI
    go_enter Try.func48, Try.ntmps48
    go_wp2
    go_ret
    exact ⟨none, 0, rfl, HON.out, Below.refl _ _⟩

set_option maxRecDepth 100000 in
set_option maxHeartbeats 1000000 in
theorem impl_inverse4_any (A : Option Addr) (ca : Nat) (l : List Int) (w : World) (hA : Ints w w.heap.size A l) :
    Calls Try.prog 30 #[.slice A l.length ca] w fun e w' => ∃ A' c, e = .returned (.slice A' (xfR 4 true l).length c) ∧ OwnI w' w.heap.size A' c (xfR 4 true l) ∧ Below w.heap.size w w' := by
  have MA := Lib.hid (impl_matrixa_any w)
  have TF := Lib.hid fun Am cm w h1 h2 => impl_transformed_4 true A Am ca cm l w h1 h2
  have HA := Lib.hid hA
  have hlm := matL_len 4 false
  obtain ⟨z, hz⟩ : ∃ z, z = xfR 4 true l := ⟨_, rfl⟩
  obtain ⟨m, hm⟩ : ∃ m, m = matL 4 false := ⟨_, rfl⟩
  have TR := Lib.hid fun A c w h => impl_transposed_4 A c (matL 4 false) (matL_len 4 false) w h
  rw [matL_turn] at TR
  have hl2 := matL_len 4 true
  obtain ⟨m2, hm2⟩ : ∃ m, m = matL 4 true := ⟨_, rfl⟩
  rw [← hm2] at TR TF hl2
  clear hm2
  rw [← hz] at TF ⊢
  rw [← hm] at MA hlm TR
  have hnm := hA.1
  clear hA hz hm
  go_enter Try.func30, Try.ntmps30
  go_wp2_with fail
  refine MA.out.mono ?_
  rintro e w1 ⟨A1, c1, rfl, ho1, hb1⟩
  have O1 := Lib.hid ho1; have B1 := Lib.hid hb1
  clear ho1 hb1
  go_wp2_with fail
  refine (TR.out _ _ _ (O1.out.ints (by omega))).mono ?_
  rintro e w2 ⟨A2, c2, rfl, ho2, hb2⟩
  have O2 := Lib.hid ho2; have B2 := Lib.hid (below_up B1.out hb2 B1.out.size)
  clear ho2 hb2 O1 B1
  have O1 := O2; have B1 := B2
  clear O2 B2
  go_wp2_with fail
  refine (TF.out _ _ _ ((HA.out.below B1.out (Nat.le_refl _)).mono B1.out.size) (O1.out.ints (by omega))).mono ?_
  rintro e w3 ⟨A3, c3, rfl, ho3, hb3⟩
  have O3 := Lib.hid (own_lower ho3 B1.out.size); have B3 := Lib.hid (below_up B1.out hb3 B1.out.size)
  clear ho3 hb3
  go_wp2
  go_ret
  exact ⟨_, _, rfl, O3.out, B3.out⟩

set_option maxRecDepth 100000 in
set_option maxHeartbeats 1000000 in
theorem impl_forward8_any (A : Option Addr) (ca : Nat) (l : List Int) (w : World) (hA : Ints w w.heap.size A l) :
    Calls Try.prog 37 #[.slice A l.length ca] w fun e w' => ∃ A' c, e = .returned (.slice A' (xfR 8 false l).length c) ∧ OwnI w' w.heap.size A' c (xfR 8 false l) ∧ Below w.heap.size w w' := by
  have MA := Lib.hid (impl_matrixh_any false w)
  have TF := Lib.hid fun Am cm w h1 h2 => impl_transformed_8 false A Am ca cm l w h1 h2
  have HA := Lib.hid hA
  have hlm := matL_len 8 false
  obtain ⟨z, hz⟩ : ∃ z, z = xfR 8 false l := ⟨_, rfl⟩
  obtain ⟨m, hm⟩ : ∃ m, m = matL 8 false := ⟨_, rfl⟩
  rw [← hz] at TF ⊢
  rw [← hm] at MA hlm TF
  have hnm := hA.1
  clear hA hz hm
  go_enter Try.func37, Try.ntmps37
  go_wp2_with fail
  refine MA.out.mono ?_
  rintro e w1 ⟨A1, c1, rfl, ho1, hb1⟩
  have O1 := Lib.hid ho1; have B1 := Lib.hid hb1
  clear ho1 hb1
  go_wp2_with fail
  refine (TF.out _ _ _ ((HA.out.below B1.out (Nat.le_refl _)).mono B1.out.size) (O1.out.ints (by omega))).mono ?_
  rintro e w3 ⟨A3, c3, rfl, ho3, hb3⟩
  have O3 := Lib.hid (own_lower ho3 B1.out.size); have B3 := Lib.hid (below_up B1.out hb3 B1.out.size)
  clear ho3 hb3
  go_wp2
  go_ret
  exact ⟨_, _, rfl, O3.out, B3.out⟩

set_option maxRecDepth 100000 in
set_option maxHeartbeats 1000000 in
theorem impl_inverse8_any (A : Option Addr) (ca : Nat) (l : List Int) (w : World) (hA : Ints w w.heap.size A l) :
    Calls Try.prog 31 #[.slice A l.length ca] w fun e w' => ∃ A' c, e = .returned (.slice A' (xfR 8 true l).length c) ∧ OwnI w' w.heap.size A' c (xfR 8 true l) ∧ Below w.heap.size w w' := by
  have MA := Lib.hid (impl_matrixh_any true w)
  have TF := Lib.hid fun Am cm w h1 h2 => impl_transformed_8 true A Am ca cm l w h1 h2
  have HA := Lib.hid hA
  have hlm := matL_len 8 true
  obtain ⟨z, hz⟩ : ∃ z, z = xfR 8 true l := ⟨_, rfl⟩
  obtain ⟨m, hm⟩ : ∃ m, m = matL 8 true := ⟨_, rfl⟩
  rw [← hz] at TF ⊢
  rw [← hm] at MA hlm TF
  have hnm := hA.1
  clear hA hz hm
  go_enter Try.func31, Try.ntmps31
  go_wp2_with fail
  refine MA.out.mono ?_
  rintro e w1 ⟨A1, c1, rfl, ho1, hb1⟩
  have O1 := Lib.hid ho1; have B1 := Lib.hid hb1
  clear ho1 hb1
  go_wp2_with fail
  refine (TF.out _ _ _ ((HA.out.below B1.out (Nat.le_refl _)).mono B1.out.size) (O1.out.ints (by omega))).mono ?_
  rintro e w3 ⟨A3, c3, rfl, ho3, hb3⟩
  have O3 := Lib.hid (own_lower ho3 B1.out.size); have B3 := Lib.hid (below_up B1.out hb3 B1.out.size)
  clear ho3 hb3
  go_wp2
  go_ret
  exact ⟨_, _, rfl, O3.out, B3.out⟩
end Go.Proofs.Ytcmijednpnabmaa
