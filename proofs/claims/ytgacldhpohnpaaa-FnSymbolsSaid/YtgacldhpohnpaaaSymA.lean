/-
  Contracts of CodeOk and of what it calls, in both texts. Condition: the list is no longer than 1048576 (the laws ask no more).
-/
import Derived.Test.YtgacldhpohnpaaaBits1
namespace Go.Proofs.Ytgacldhpohnpaaa
open Go.RowKit
set_option linter.unusedVariables false

/-- How many numbers of seven bits begin with a code of this length. -/
def krI (x : Int) : Int := if x = 0 then 0 else 2 ^ (7 - x).toNat
def krS : List Int → Int
  | [] => 0
  | x :: l => krI x + krS l
theorem krS_snoc : ∀ (l : List Int) (x : Int), krS (l ++ [x]) = krS l + krI x
  | [], x => by simp [krS]
  | y :: l, x => by rw [List.cons_append, krS, krS, krS_snoc l x]; omega
/-- A length that a code may have. -/
def inC (x : Int) : Bool := decide (0 ≤ x) && decide (x ≤ 7)
def okC (l : List Int) : Bool := decide (l.length = 6) && (l.all inC && decide (krS l = 128))
theorem inC_cases {x : Int} (h : inC x = true) : x = 0 ∨ x = 1 ∨ x = 2 ∨ x = 3 ∨ x = 4 ∨ x = 5 ∨ x = 6 ∨ x = 7 := by
  simp [inC] at h
  omega
theorem krI_range {x : Int} (h : inC x = true) : 0 ≤ krI x ∧ krI x ≤ 64 := by
  rcases inC_cases h with rfl | rfl | rfl | rfl | rfl | rfl | rfl | rfl <;> decide
theorem krS_range : ∀ (l : List Int), l.all inC = true → 0 ≤ krS l ∧ krS l ≤ 64 * (l.length : Int)
  | [], _ => by simp [krS]
  | x :: l, h => by
    rw [List.all_cons, Bool.and_eq_true] at h
    have h1 := krI_range h.1
    have h2 := krS_range l h.2
    rw [krS, List.length_cons]
    omega
theorem all_take {l : List Int} {j : Nat} (h : (l.take j).all inC = true) (hj : j < l.length) : (l.take (j + 1)).all inC = inC (l.getD j 0) := by
  rw [take_snoc_i l j hj, List.all_append, h]
  simp
theorem all_bad {l : List Int} {j : Nat} (hj : j < l.length) (h : inC (l.getD j 0) = false) : l.all inC = false := by
  cases hb : l.all inC with
  | false => rfl
  | true =>
    rw [List.all_eq_true] at hb
    have := hb (l.getD j 0) (by rw [List.getD_eq_getElem?_getD, List.getElem?_eq_getElem hj]; exact List.getElem_mem _)
    rw [h] at this
    exact absurd this (by decide)

set_option maxRecDepth 100000 in
set_option maxHeartbeats 1000000 in
theorem peeks_any (x : Int) (hx : inC x = true) (w : World) :
    Calls Try.prog 83 #[.int .i64 x] w fun e w' => e = .returned (.int .i64 (krI x)) ∧ w = w' := by
  rcases inC_cases hx with rfl | rfl | rfl | rfl | rfl | rfl | rfl | rfl <;>
    (clear hx; go_enter Try.func83, Try.ntmps83; go_wp2; go_ret; exact ⟨rfl, rfl⟩)

set_option maxRecDepth 100000 in
set_option maxHeartbeats 1000000 in
theorem impl_codeok_any (A : Option Addr) (ca : Nat) (l : List Int) (w : World) (hA : Ints w w.heap.size A l) :
    Calls Try.prog 28 #[.slice A l.length ca] w fun e w' => e = .returned (.bool (okC l)) ∧ w = w' := by
  have PK := Lib.hid peeks_any
  obtain ⟨n, hn⟩ : ∃ n, n = l.length := ⟨_, rfl⟩
  have hnm := hA.1
  rw [← hn] at hnm ⊢
  have HA := Lib.hid hA; clear hA
  have HN := Lib.hid hn; clear hn
  by_cases h6 : n = 6
  · subst h6
    have hok : okC l = (l.all inC && decide (krS l = 128)) := by unfold okC; rw [← HN.out]; simp
    rw [hok]
    clear hok
    go_enter Try.func28, Try.ntmps28
    go_wp2
    go_loop [3, 11] (fun t i => ∃ (j : Nat) (T : Int), j ≤ 6 ∧ T = krS (l.take j) ∧ (l.take j).all inC = true ∧ t = .int .i64 T ∧ i = .int .i64 j) (fun _ i => 6 - (intOf i).toNat)
    case atStart => exact ⟨0, 0, by omega, rfl, rfl, rfl, rfl⟩
    case round =>
      obtain ⟨j, T, hj, hT, hall, rfl, rfl⟩ := hrel
      have hTr := krS_range _ hall
      rw [← hT] at hTr
      have hT9 : T ≤ 384 := by
        have : (l.take j).length ≤ 6 := by rw [List.length_take]; omega
        omega
      have hT0 := hTr.1
      have HT := Lib.hid hT
      have HL := Lib.hid hall
      clear hT hall hTr
      by_cases hlt : j < 6
      · obtain ⟨b, off, rfl, hb, hc⟩ := HA.out.at j (by rw [← HN.out]; exact hlt)
        have c := hc j (by rw [← HN.out]; exact hlt)
        clear hc
        obtain ⟨x, hx⟩ : ∃ x, x = l.getD j 0 := ⟨_, rfl⟩
        rw [← hx] at c
        have HX := Lib.hid hx; clear hx
        cases hin : inC x with
        | true =>
          have hk := krI_range hin
          have P := Lib.hid (PK.out x hin)
          obtain ⟨K, hK⟩ : ∃ K, K = krI x := ⟨_, rfl⟩
          rw [← hK] at P hk
          have HK := Lib.hid hK; clear hK
          have HIN := Lib.hid hin
          have hn1 : decide (x < 0) = false := by simp [inC] at hin; simp; omega
          have hn2 : decide (7 < x) = false := by simp [inC] at hin; simp; omega
          clear hin
          go_wp2_with fail
          refine (P.out _).mono ?_
          rintro e w' ⟨rfl, rfl⟩
          go_wp2
          go_round
          case rel =>
            refine ⟨j + 1, T + K, by omega, ?_, ?_, by go_num, by go_num⟩
            · rw [take_snoc_i l j (by rw [← HN.out]; exact hlt), krS_snoc, ← HX.out, HK.out, HT.out]
            · rw [all_take HL.out (by rw [← HN.out]; exact hlt), ← HX.out]; exact HIN.out
          case measure => simp [intOf]; omega
        | false =>
          have hres : (l.all inC && decide (krS l = 128)) = false := by
            rw [all_bad (j := j) (by rw [← HN.out]; exact hlt) (by rw [← HX.out]; exact hin)]; rfl
          have HRES := Lib.hid hres
          clear hres
          by_cases h0 : x < 0
          · have hn1 : decide (x < 0) = true := by simpa using h0
            clear hin
            go_wp2
            go_ret
            refine ⟨?_, rfl⟩
            rw [HRES.out]
            rfl
          · have hn1 : decide (x < 0) = false := by simpa using h0
            have hn2 : decide (7 < x) = true := by simp [inC] at hin; simp; omega
            clear hin
            go_wp2
            go_ret
            refine ⟨?_, rfl⟩
            rw [HRES.out]
            rfl
      · obtain rfl : j = 6 := by omega
        have e1 : l.take 6 = l := List.take_of_length_le (by rw [← HN.out]; exact Nat.le_refl _)
        have hres : (l.all inC && decide (krS l = 128)) = (T == 128) := by
          have h1 := HL.out
          have h2 := HT.out
          rw [e1] at h1 h2
          rw [h1, ← h2, Bool.true_and]
          rfl
        have HRES := Lib.hid hres
        clear hres e1
        go_wp2
        go_ret
        refine ⟨?_, rfl⟩
        rw [HRES.out]
        rfl
  · have hok : okC l = false := by unfold okC; rw [← HN.out, decide_eq_false h6]; rfl
    rw [hok]
    have hq : ((n : Int) != 6) = true := by rw [bne_iff_ne]; omega
    clear hok h6
    go_enter Try.func28, Try.ntmps28
    go_wp2
    go_ret
    exact ⟨rfl, rfl⟩

set_option maxRecDepth 100000 in
set_option maxHeartbeats 1000000 in
theorem l1in_v (x a b : Int) (w : World) :
    Calls Try.prog 73 #[.int .i64 x, .int .i64 a, .int .i64 b] w fun e w' => e = .returned (.bool (decide (a ≤ x) && decide (x ≤ b))) ∧ w = w' := by
  cases h1 : decide (a ≤ x) with
  | true =>
    cases h2 : decide (x ≤ b) with
    | true =>
      go_enter Try.func73, Try.ntmps73
      go_wp2
      go_ret
      exact ⟨rfl, rfl⟩
    | false =>
      go_enter Try.func73, Try.ntmps73
      go_wp2
      go_ret
      exact ⟨rfl, rfl⟩
  | false =>
    go_enter Try.func73, Try.ntmps73
    go_wp2
    go_ret
    exact ⟨rfl, rfl⟩

set_option maxRecDepth 100000 in
set_option maxHeartbeats 1000000 in
theorem spec_codeok_any (A : Option Addr) (ca : Nat) (l : List Int) (hl : l.length ≤ 1048576) (w : World) (hA : Ints w w.heap.size A l) :
    Calls Try.prog 27 #[.slice A l.length ca] w fun e w' => e = .returned (.bool (okC l)) ∧ w = w' := by
  have L1 := Lib.hid (fun x => l1in_v x 0 7)
  obtain ⟨n, hn⟩ : ∃ n, n = l.length := ⟨_, rfl⟩
  rw [← hn] at hl ⊢
  have HA := Lib.hid hA; clear hA
  have HN := Lib.hid hn; clear hn
  obtain ⟨R, hR⟩ : ∃ R, R = okC l := ⟨_, rfl⟩
  rw [← hR]
  have HR := Lib.hid hR; clear hR
  go_enter Try.func27, Try.ntmps27
  go_wp2
  go_loop [3, 4] (fun t i => ∃ (j : Nat) (T : Int), j ≤ n ∧ T = krS (l.take j) ∧ (l.take j).all inC = true ∧ t = .int .i64 T ∧ i = .int .i64 j) (fun _ i => n - (intOf i).toNat)
  case atStart => exact ⟨0, 0, by omega, rfl, rfl, rfl, rfl⟩
  case round =>
    obtain ⟨j, T, hj, hT, hall, rfl, rfl⟩ := hrel
    have hTr := krS_range _ hall
    rw [← hT] at hTr
    have hT9 : T ≤ 67108864 := by
      have : (l.take j).length ≤ 1048576 := by rw [List.length_take]; omega
      omega
    have hT0 := hTr.1
    have HT := Lib.hid hT
    have HL := Lib.hid hall
    clear hT hall hTr
    by_cases hlt : j < n
    · obtain ⟨b, off, rfl, hb, hc⟩ := HA.out.at j (by rw [← HN.out]; exact hlt)
      have c := hc j (by rw [← HN.out]; exact hlt)
      clear hc
      obtain ⟨x, hx⟩ : ∃ x, x = l.getD j 0 := ⟨_, rfl⟩
      rw [← hx] at c
      have HX := Lib.hid hx; clear hx
      have L := Lib.hid (L1.out x)
      cases hin : inC x with
      | true =>
        have hin2 := hin
        unfold inC at hin2
        rw [hin2] at L
        clear hin2
        have key : ∀ K : Int, krI x = K → ∃ (j' : Nat) (T' : Int), j' ≤ n ∧ T' = krS (l.take j') ∧ (l.take j').all inC = true ∧ Value.int .i64 (T + K) = .int .i64 T' ∧ Value.int .i64 ((j : Int) + 1) = .int .i64 j' := by
          intro K hK
          refine ⟨j + 1, T + K, by omega, ?_, ?_, by go_num, by go_num⟩
          · rw [take_snoc_i l j (by rw [← HN.out]; exact hlt), krS_snoc, ← HX.out, hK, HT.out]
          · rw [all_take HL.out (by rw [← HN.out]; exact hlt), ← HX.out]; exact hin
        have KEY := Lib.hid key; clear key
        rcases inC_cases hin with rfl | rfl | rfl | rfl | rfl | rfl | rfl | rfl
        case inl =>
          have K0 := Lib.hid (KEY.out 0 rfl)
          clear hin KEY
          go_wp2_with fail
          refine (L.out _).mono ?_
          rintro e w' ⟨rfl, rfl⟩
          go_wp2
          go_round
          case rel =>
            obtain ⟨j', T', h1, h2, h3, h4, h5⟩ := K0.out
            refine ⟨j', T', h1, h2, h3, ?_, ?_⟩
            · rw [← h4]; go_num
            · rw [← h5]
          case measure => simp [intOf]; omega
        all_goals
          have K0 := Lib.hid (KEY.out _ rfl)
          clear hin KEY
          go_wp2_with fail
          refine (L.out _).mono ?_
          rintro e w' ⟨rfl, rfl⟩
          go_wp2
          go_round
          case rel =>
            obtain ⟨j', T', h1, h2, h3, h4, h5⟩ := K0.out
            refine ⟨j', T', h1, h2, h3, ?_, ?_⟩
            · rw [← h4]; first | rfl | go_num
            · rw [← h5]
          case measure => simp [intOf]; omega
      | false =>
        have hin2 := hin
        unfold inC at hin2
        rw [hin2] at L
        clear hin2
        have hres : okC l = false := by
          unfold okC
          rw [all_bad (j := j) (by rw [← HN.out]; exact hlt) (by rw [← HX.out]; exact hin)]; simp
        have hR2 := HR.out
        rw [hres] at hR2
        subst hR2
        clear hin hres
        go_wp2_with fail
        refine (L.out _).mono ?_
        rintro e w' ⟨rfl, rfl⟩
        go_wp2
        go_ret
        exact ⟨rfl, rfl⟩
    · obtain rfl : j = n := by omega
      have e1 : l.take j = l := List.take_of_length_le (by rw [← HN.out]; exact Nat.le_refl _)
      have hres : R = (decide (j = 6) && (T == 128)) := by
        have h1 := HL.out
        have h2 := HT.out
        rw [e1] at h1 h2
        rw [HR.out]
        unfold okC
        rw [h1, ← h2, Bool.true_and, HN.out]
        rfl
      clear e1
      by_cases h6 : j = 6
      · subst h6
        have HRES := Lib.hid hres
        clear hres
        go_wp2
        go_ret
        refine ⟨?_, rfl⟩
        rw [HRES.out]
        rfl
      · have hq : ((j : Int) == 6) = false := by rw [beq_eq_false_iff_ne]; omega
        rw [decide_eq_false h6, Bool.false_and] at hres
        subst hres
        clear h6
        go_wp2
        go_ret
        exact ⟨rfl, rfl⟩
end Go.Proofs.Ytgacldhpohnpaaa
