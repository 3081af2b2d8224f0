/-
  Chapter 18: contracts of the program's sideOk, SidesOk, FrameOk, FrameNew, startOk, hasBlock. No condition but that startOk's size is 4 or 8 and its side from 8 to 32.
-/
import Derived.Test.YtemfiglflbfocaaNbX
import Derived.Test.YtemfiglflbfocaaFrB
import Derived.Test.YtemfiglflbfocaaFrD
namespace Go.Proofs.Ytemfiglflbfocaa
open Go.RowKit
set_option linter.unusedVariables false

set_option maxRecDepth 100000 in
set_option maxHeartbeats 2000000 in
theorem impl_sideok_any (v : Int) (w : World) : Calls Try.prog 64 #[.int .i64 v] w fun e w' => e = .returned (.bool (sidE v && decide (v % 8 = 0))) ∧ w = w' := by
  unfold sidE
  by_cases h1 : 8 ≤ v
  · have d1 : decide (8 ≤ v) = true := by simpa using h1
    by_cases h2 : v ≤ 32
    · have d2 : decide (v ≤ 32) = true := by simpa using h2
      have e1 : v.tmod 8 = v % 8 := Int.tmod_eq_emod_of_nonneg (by omega)
      have q1 : 0 ≤ v % 8 ∧ v % 8 < 8 := by omega
      rw [d1, d2]
      obtain ⟨u, hu⟩ : ∃ u, u = v % 8 := ⟨_, rfl⟩
      rw [← hu] at e1 q1 ⊢
      clear hu h1 h2
      by_cases hu0 : u = 0
      · subst hu0
        go_enter Try.func64, Try.ntmps64
        go_wp2
        go_ret
        exact ⟨rfl, rfl⟩
      · rw [decide_eq_false hu0]
        have z1 : (v.tmod 8 == 0) = false := by rw [e1]; simpa using hu0
        have z2 : (u == 0) = false := by simpa using hu0
        go_enter Try.func64, Try.ntmps64
        go_wp2
        go_ret
        exact ⟨rfl, rfl⟩
    · have d2 : decide (v ≤ 32) = false := by simpa using h2
      rw [d1, d2]
      clear h1 h2
      go_enter Try.func64, Try.ntmps64
      go_wp2
      go_ret
      exact ⟨rfl, rfl⟩
  · have d1 : decide (8 ≤ v) = false := by simpa using h1
    rw [d1]
    clear h1
    go_enter Try.func64, Try.ntmps64
    go_wp2
    go_ret
    exact ⟨rfl, rfl⟩
set_option maxRecDepth 100000 in
set_option maxHeartbeats 2000000 in
theorem impl_sidesok_any (a b : Int) (w : World) : Calls Try.prog 28 #[.int .i64 a, .int .i64 b] w fun e w' => e = .returned (.bool (sidesE a b)) ∧ w = w' := by
  have LA := Lib.hid (impl_sideok_any a); have LB := Lib.hid (impl_sideok_any b)
  have es : sidesE a b = ((sidE a && decide (a % 8 = 0)) && (sidE b && decide (b % 8 = 0))) := by
    unfold sidesE
    cases sidE a <;> cases sidE b <;> simp
  rw [es]
  obtain ⟨p, hp⟩ : ∃ p, p = (sidE a && decide (a % 8 = 0)) := ⟨_, rfl⟩
  obtain ⟨q, hq⟩ : ∃ q, q = (sidE b && decide (b % 8 = 0)) := ⟨_, rfl⟩
  rw [← hp] at LA ⊢
  rw [← hq] at LB ⊢
  clear hp hq es
  cases p with
  | false =>
    go_enter Try.func28, Try.ntmps28
    go_wp2_with fail
    refine (LA.out _).mono ?_
    rintro e w1 ⟨rfl, hw⟩
    subst hw
    go_wp2
    go_ret
    exact ⟨rfl, rfl⟩
  | true =>
    go_enter Try.func28, Try.ntmps28
    go_wp2_with fail
    refine (LA.out _).mono ?_
    rintro e w1 ⟨rfl, hw⟩
    subst hw
    go_wp2_with fail
    refine (LB.out _).mono ?_
    rintro e w1 ⟨rfl, hw⟩
    subst hw
    go_wp2
    go_ret
    exact ⟨by rw [Bool.true_and]; rfl, rfl⟩
set_option maxRecDepth 100000 in
set_option maxHeartbeats 2000000 in
theorem impl_frameok_any (a b : Int) (A : Option Addr) (ca : Nat) (l : List Int) (w : World) (hA : Ints w w.heap.size A l) : Calls Try.prog 19 #[.agg #[.int .i64 a, .int .i64 b, .slice A l.length ca]] w fun e w' => e = .returned (.bool (frameE a b l)) ∧ Below w.heap.size w w' := by
  have SI := Lib.hid (impl_sidesok_any a b)
  have BN := Lib.hid (below_new w (.cells #[.int .i64 a, .int .i64 b, .slice A l.length ca] 26))
  have HB := Lib.hid ((hA.below (below_new w (.cells #[.int .i64 a, .int .i64 b, .slice A l.length ca] 26)) (Nat.le_refl _)).mono (below_new w (.cells #[.int .i64 a, .int .i64 b, .slice A l.length ca] 26)).size)
  have PX := Lib.hid fun w h => impl_samples_any A ca l w h
  have hnl := hA.1
  clear hA
  cases hs : sidesE a b with
  | false =>
    rw [show frameE a b l = false by simp [frameE, hs]]
    rw [hs] at SI
    clear hs
    go_enter Try.func19, Try.ntmps19
    go_wp2_with fail
    refine (SI.out _).mono ?_
    rintro e w1 ⟨rfl, hw⟩
    subst hw
    go_wp2
    go_ret
    exact ⟨rfl, BN.out⟩
  | true =>
    obtain ⟨h1, h2, _, _⟩ := sidesE_parts hs
    have hp1 : (8 : Int) * 8 ≤ a * b := Int.mul_le_mul h1.1 h2.1 (by decide) (by omega)
    have hp2 : a * b ≤ (32 : Int) * 32 := Int.mul_le_mul h1.2 h2.2 (by omega) (by decide)
    have ef : frameE a b l = (decide ((l.length : Int) = a * b) && l.all pixE) := by simp [frameE, hs]
    have hw : IntKind.i64.wrap (a * b) = a * b := IntWalk.i64_in _ (by omega)
    rw [ef]
    rw [hs] at SI
    obtain ⟨p, hp⟩ : ∃ p, p = a * b := ⟨_, rfl⟩
    rw [← hp] at hp1 hp2 hw ⊢
    rw [hp] at hw
    rw [← hp] at hw
    have hw' : IntKind.i64.wrap (a * b) = p := by rw [← hp]; exact hw
    obtain ⟨n, hn⟩ : ∃ n, n = l.length := ⟨_, rfl⟩
    rw [← hn] at BN HB PX hnl ⊢
    clear hs ef hw hn
    by_cases hl : (n : Int) = p
    · rw [decide_eq_true hl, Bool.true_and]
      have d1 : ((n : Int) == p) = true := by simpa using hl
      clear hp
      go_enter Try.func19, Try.ntmps19
      go_wp2_with fail
      refine (SI.out _).mono ?_
      rintro e w1 ⟨rfl, hw⟩
      subst hw
      go_wp2_with fail
      refine (PX.out _ HB.out).mono ?_
      rintro e w1 ⟨rfl, hw⟩
      subst hw
      go_wp2
      go_ret
      exact ⟨rfl, BN.out⟩
    · rw [decide_eq_false hl, Bool.false_and]
      have d1 : ((n : Int) == p) = false := by simpa using hl
      clear hp
      go_enter Try.func19, Try.ntmps19
      go_wp2_with fail
      refine (SI.out _).mono ?_
      rintro e w1 ⟨rfl, hw⟩
      subst hw
      go_wp2
      go_ret
      exact ⟨rfl, BN.out⟩
set_option maxRecDepth 100000 in
set_option maxHeartbeats 2000000 in
theorem impl_framenew_any (a b : Int) (w : World) : Calls Try.prog 33 #[.int .i64 a, .int .i64 b] w fun e w' => ∃ A' c, e = .returned (.agg #[.int .i64 (newW a b), .int .i64 (newH a b), .slice A' (newL a b).length c]) ∧ OwnI w' w.heap.size A' c (newL a b) ∧ Below w.heap.size w w' := by
  have SI := Lib.hid (impl_sidesok_any a b)
  cases hs : sidesE a b with
  | false =>
    rw [hs] at SI
    rw [show newW a b = 0 by simp [newW, hs], show newH a b = 0 by simp [newH, hs], show newL a b = [] by simp [newL, hs]]
    clear hs
    go_enter Try.func33, Try.ntmps33
    go_wp2_with fail
    refine (SI.out _).mono ?_
    rintro e w1 ⟨rfl, hw⟩
    subst hw
    go_wp2
    exact bodyPost_ret (v := .agg #[.int .i64 0, .int .i64 0, .slice none 0 0]) (by simp [results, Try.results33, go_sem]) rfl ⟨none, 0, rfl, ⟨by simp [ivs], .inl ⟨rfl, rfl⟩⟩, below_new _ _⟩
  | true =>
    obtain ⟨h1, h2, _, _⟩ := sidesE_parts hs
    have hp1 : (8 : Int) * 8 ≤ a * b := Int.mul_le_mul h1.1 h2.1 (by decide) (by omega)
    have hp2 : a * b ≤ (32 : Int) * 32 := Int.mul_le_mul h1.2 h2.2 (by omega) (by decide)
    have hw' : IntKind.i64.wrap (a * b) = a * b := IntWalk.i64_in _ (by omega)
    rw [hs] at SI
    rw [show newW a b = a by simp [newW, hs], show newH a b = b by simp [newH, hs], show newL a b = List.replicate (a * b).toNat 0 by simp [newL, hs]]
    obtain ⟨n, hn⟩ := Int.eq_ofNat_of_zero_le (show 0 ≤ a * b by omega)
    rw [hn] at hp1 hp2 hw' ⊢
    rw [← hn] at hw'
    have hw2 : IntKind.i64.wrap (a * b) = (n : Int) := by rw [← hn, hn]; rw [hn] at hw'; exact hw'
    rw [Int.toNat_natCast, List.length_replicate]
    have HMK := Lib.hid (make_ints n (n : Int) rfl (by omega))
    have b1 := below_new w (.cells #[.int .i64 a, .int .i64 b, .slice (some ⟨w.heap.size + 1, 0, none⟩) n n] 26)
    have o := own_ints (w.alloc (.cells #[.int .i64 a, .int .i64 b, .slice (some ⟨w.heap.size + 1, 0, none⟩) n n] 26)) w.heap.size (List.replicate n 0) b1.size (by simp [maxLen]; omega)
    rw [List.length_replicate, World.size_alloc] at o
    have O0 := Lib.hid o
    have B0 := Lib.hid (b1.alloc b1.size (.cells (ivs (List.replicate n 0)).toArray 3))
    clear b1 o
    have hmk := HMK.out
    clear hs hn hw'
    go_enter Try.func33, Try.ntmps33
    go_wp2_with fail
    refine (SI.out _).mono ?_
    rintro e w1 ⟨rfl, hw⟩
    subst hw
    go_wp2
    exact bodyPost_ret (v := .agg #[.int .i64 a, .int .i64 b, .slice (some ⟨w.heap.size + 1, 0, none⟩) n n]) (by simp [results, Try.results33, go_sem]) rfl ⟨_, _, rfl, O0.out, B0.out⟩
set_option maxRecDepth 100000 in
set_option maxHeartbeats 2000000 in
theorem impl_startok_4 (v s : Int) (hs : 8 ≤ s ∧ s ≤ 32) (w : World) : Calls Try.prog 69 #[.int .i64 v, .int .i64 4, .int .i64 s] w fun e w' => e = .returned (.bool (betE v (s - 4) && decide (v % 4 = 0))) ∧ w = w' := by
  unfold betE
  have hw : IntKind.i64.wrap (s - 4) = s - 4 := IntWalk.i64_in _ (by omega)
  by_cases h1 : 0 ≤ v
  · have d1 : decide (0 ≤ v) = true := by simpa using h1
    by_cases h2 : v ≤ s - 4
    · have d2 : decide (v ≤ s - 4) = true := by simpa using h2
      have e1 : v.tmod 4 = v % 4 := Int.tmod_eq_emod_of_nonneg (by omega)
      have q1 : 0 ≤ v % 4 ∧ v % 4 < 4 := by omega
      rw [d1, d2]
      obtain ⟨u, hu⟩ : ∃ u, u = v % 4 := ⟨_, rfl⟩
      rw [← hu] at e1 q1 ⊢
      clear hu h1 h2 hs
      by_cases hu0 : u = 0
      · subst hu0
        go_enter Try.func69, Try.ntmps69
        go_wp2
        go_ret
        exact ⟨rfl, rfl⟩
      · rw [decide_eq_false hu0]
        have z1 : (v.tmod 4 == 0) = false := by rw [e1]; simpa using hu0
        have z2 : (u == 0) = false := by simpa using hu0
        go_enter Try.func69, Try.ntmps69
        go_wp2
        go_ret
        exact ⟨rfl, rfl⟩
    · have d2 : decide (v ≤ s - 4) = false := by simpa using h2
      rw [d1, d2]
      clear h1 h2 hs
      go_enter Try.func69, Try.ntmps69
      go_wp2
      go_ret
      exact ⟨rfl, rfl⟩
  · have d1 : decide (0 ≤ v) = false := by simpa using h1
    rw [d1]
    clear h1 hs
    go_enter Try.func69, Try.ntmps69
    go_wp2
    go_ret
    exact ⟨rfl, rfl⟩
set_option maxRecDepth 100000 in
set_option maxHeartbeats 2000000 in
theorem impl_startok_8 (v s : Int) (hs : 8 ≤ s ∧ s ≤ 32) (w : World) : Calls Try.prog 69 #[.int .i64 v, .int .i64 8, .int .i64 s] w fun e w' => e = .returned (.bool (betE v (s - 8) && decide (v % 8 = 0))) ∧ w = w' := by
  unfold betE
  have hw : IntKind.i64.wrap (s - 8) = s - 8 := IntWalk.i64_in _ (by omega)
  by_cases h1 : 0 ≤ v
  · have d1 : decide (0 ≤ v) = true := by simpa using h1
    by_cases h2 : v ≤ s - 8
    · have d2 : decide (v ≤ s - 8) = true := by simpa using h2
      have e1 : v.tmod 8 = v % 8 := Int.tmod_eq_emod_of_nonneg (by omega)
      have q1 : 0 ≤ v % 8 ∧ v % 8 < 8 := by omega
      rw [d1, d2]
      obtain ⟨u, hu⟩ : ∃ u, u = v % 8 := ⟨_, rfl⟩
      rw [← hu] at e1 q1 ⊢
      clear hu h1 h2 hs
      by_cases hu0 : u = 0
      · subst hu0
        go_enter Try.func69, Try.ntmps69
        go_wp2
        go_ret
        exact ⟨rfl, rfl⟩
      · rw [decide_eq_false hu0]
        have z1 : (v.tmod 8 == 0) = false := by rw [e1]; simpa using hu0
        have z2 : (u == 0) = false := by simpa using hu0
        go_enter Try.func69, Try.ntmps69
        go_wp2
        go_ret
        exact ⟨rfl, rfl⟩
    · have d2 : decide (v ≤ s - 8) = false := by simpa using h2
      rw [d1, d2]
      clear h1 h2 hs
      go_enter Try.func69, Try.ntmps69
      go_wp2
      go_ret
      exact ⟨rfl, rfl⟩
  · have d1 : decide (0 ≤ v) = false := by simpa using h1
    rw [d1]
    clear h1 hs
    go_enter Try.func69, Try.ntmps69
    go_wp2
    go_ret
    exact ⟨rfl, rfl⟩
set_option maxRecDepth 100000 in
set_option maxHeartbeats 2000000 in
theorem impl_hasblock_4 (a b : Int) (A : Option Addr) (ca : Nat) (l : List Int) (x y : Int) (hf : frameE a b l = true) (w : World) (hA : Ints w w.heap.size A l) : Calls Try.prog 49 #[.agg #[.int .i64 a, .int .i64 b, .slice A l.length ca], .int .i64 x, .int .i64 y, .int .i64 4] w fun e w' => e = .returned (.bool ((betE x (a - 4) && decide (x % 4 = 0)) && (betE y (b - 4) && decide (y % 4 = 0)))) ∧ Below w.heap.size w w' := by
  have FO := Lib.hid fun w h => impl_frameok_any a b A ca l w h
  have HB := Lib.hid ((hA.below (below_new w (.cells #[.int .i64 a, .int .i64 b, .slice A l.length ca] 26)) (Nat.le_refl _)).mono (below_new w (.cells #[.int .i64 a, .int .i64 b, .slice A l.length ca] 26)).size)
  have BN := Lib.hid (below_new w (.cells #[.int .i64 a, .int .i64 b, .slice A l.length ca] 26))
  have HK := Lib.hid (heap_alloc_new w (.cells #[.int .i64 a, .int .i64 b, .slice A l.length ca] 26))
  have hsz : (w.alloc (.cells #[.int .i64 a, .int .i64 b, .slice A l.length ca] 26)).heap.size = w.heap.size + 1 := by simp
  have HSZ := Lib.hid hsz
  have hnl := hA.1
  clear hA hsz
  have SZ := Lib.hid (impl_sizeok_any 4)
  rw [show okN 4 = true from rfl] at SZ
  obtain ⟨s1, s2, _, _⟩ := sidesE_parts (frameE_sides hf).1
  have SX := Lib.hid (impl_startok_4 x a s1)
  have SY := Lib.hid (impl_startok_4 y b s2)
  rw [hf] at FO
  obtain ⟨p, hp⟩ : ∃ p, p = (betE x (a - 4) && decide (x % 4 = 0)) := ⟨_, rfl⟩
  obtain ⟨q, hq⟩ : ∃ q, q = (betE y (b - 4) && decide (y % 4 = 0)) := ⟨_, rfl⟩
  rw [← hp] at SX ⊢
  rw [← hq] at SY ⊢
  clear hp hq hf s1 s2
  cases p with
  | false =>
    go_enter Try.func49, Try.ntmps49
    go_wp2_with fail
    refine (FO.out _ HB.out).mono ?_
    rintro e w1 ⟨rfl, hb1⟩
    have B1 := Lib.hid (below_up BN.out hb1 BN.out.size)
    have k1 : w1.heap[w.heap.size]? = some (.cells #[.int .i64 a, .int .i64 b, .slice A l.length ca] 26 (0, 0)) := by rw [hb1.block w.heap.size (by rw [HSZ.out]; omega)]; exact HK.out
    obtain ⟨c0, c1, c2⟩ := cells3 k1
    clear hb1 k1
    go_wp2_with fail
    refine (SZ.out _).mono ?_
    rintro e w2 ⟨rfl, hw⟩
    subst hw
    go_wp2_with fail
    refine (SX.out _).mono ?_
    rintro e w2 ⟨rfl, hw⟩
    subst hw
    go_wp2
    go_ret
    exact ⟨rfl, B1.out⟩
  | true =>
    go_enter Try.func49, Try.ntmps49
    go_wp2_with fail
    refine (FO.out _ HB.out).mono ?_
    rintro e w1 ⟨rfl, hb1⟩
    have B1 := Lib.hid (below_up BN.out hb1 BN.out.size)
    have k1 : w1.heap[w.heap.size]? = some (.cells #[.int .i64 a, .int .i64 b, .slice A l.length ca] 26 (0, 0)) := by rw [hb1.block w.heap.size (by rw [HSZ.out]; omega)]; exact HK.out
    obtain ⟨c0, c1, c2⟩ := cells3 k1
    clear hb1 k1
    go_wp2_with fail
    refine (SZ.out _).mono ?_
    rintro e w2 ⟨rfl, hw⟩
    subst hw
    go_wp2_with fail
    refine (SX.out _).mono ?_
    rintro e w2 ⟨rfl, hw⟩
    subst hw
    go_wp2_with fail
    refine (SY.out _).mono ?_
    rintro e w2 ⟨rfl, hw⟩
    subst hw
    go_wp2
    go_ret
    exact ⟨by rw [Bool.true_and]; rfl, B1.out⟩
set_option maxRecDepth 100000 in
set_option maxHeartbeats 2000000 in
theorem impl_hasblock_8 (a b : Int) (A : Option Addr) (ca : Nat) (l : List Int) (x y : Int) (hf : frameE a b l = true) (w : World) (hA : Ints w w.heap.size A l) : Calls Try.prog 49 #[.agg #[.int .i64 a, .int .i64 b, .slice A l.length ca], .int .i64 x, .int .i64 y, .int .i64 8] w fun e w' => e = .returned (.bool ((betE x (a - 8) && decide (x % 8 = 0)) && (betE y (b - 8) && decide (y % 8 = 0)))) ∧ Below w.heap.size w w' := by
  have FO := Lib.hid fun w h => impl_frameok_any a b A ca l w h
  have HB := Lib.hid ((hA.below (below_new w (.cells #[.int .i64 a, .int .i64 b, .slice A l.length ca] 26)) (Nat.le_refl _)).mono (below_new w (.cells #[.int .i64 a, .int .i64 b, .slice A l.length ca] 26)).size)
  have BN := Lib.hid (below_new w (.cells #[.int .i64 a, .int .i64 b, .slice A l.length ca] 26))
  have HK := Lib.hid (heap_alloc_new w (.cells #[.int .i64 a, .int .i64 b, .slice A l.length ca] 26))
  have hsz : (w.alloc (.cells #[.int .i64 a, .int .i64 b, .slice A l.length ca] 26)).heap.size = w.heap.size + 1 := by simp
  have HSZ := Lib.hid hsz
  have hnl := hA.1
  clear hA hsz
  have SZ := Lib.hid (impl_sizeok_any 8)
  rw [show okN 8 = true from rfl] at SZ
  obtain ⟨s1, s2, _, _⟩ := sidesE_parts (frameE_sides hf).1
  have SX := Lib.hid (impl_startok_8 x a s1)
  have SY := Lib.hid (impl_startok_8 y b s2)
  rw [hf] at FO
  obtain ⟨p, hp⟩ : ∃ p, p = (betE x (a - 8) && decide (x % 8 = 0)) := ⟨_, rfl⟩
  obtain ⟨q, hq⟩ : ∃ q, q = (betE y (b - 8) && decide (y % 8 = 0)) := ⟨_, rfl⟩
  rw [← hp] at SX ⊢
  rw [← hq] at SY ⊢
  clear hp hq hf s1 s2
  cases p with
  | false =>
    go_enter Try.func49, Try.ntmps49
    go_wp2_with fail
    refine (FO.out _ HB.out).mono ?_
    rintro e w1 ⟨rfl, hb1⟩
    have B1 := Lib.hid (below_up BN.out hb1 BN.out.size)
    have k1 : w1.heap[w.heap.size]? = some (.cells #[.int .i64 a, .int .i64 b, .slice A l.length ca] 26 (0, 0)) := by rw [hb1.block w.heap.size (by rw [HSZ.out]; omega)]; exact HK.out
    obtain ⟨c0, c1, c2⟩ := cells3 k1
    clear hb1 k1
    go_wp2_with fail
    refine (SZ.out _).mono ?_
    rintro e w2 ⟨rfl, hw⟩
    subst hw
    go_wp2_with fail
    refine (SX.out _).mono ?_
    rintro e w2 ⟨rfl, hw⟩
    subst hw
    go_wp2
    go_ret
    exact ⟨rfl, B1.out⟩
  | true =>
    go_enter Try.func49, Try.ntmps49
    go_wp2_with fail
    refine (FO.out _ HB.out).mono ?_
    rintro e w1 ⟨rfl, hb1⟩
    have B1 := Lib.hid (below_up BN.out hb1 BN.out.size)
    have k1 : w1.heap[w.heap.size]? = some (.cells #[.int .i64 a, .int .i64 b, .slice A l.length ca] 26 (0, 0)) := by rw [hb1.block w.heap.size (by rw [HSZ.out]; omega)]; exact HK.out
    obtain ⟨c0, c1, c2⟩ := cells3 k1
    clear hb1 k1
    go_wp2_with fail
    refine (SZ.out _).mono ?_
    rintro e w2 ⟨rfl, hw⟩
    subst hw
    go_wp2_with fail
    refine (SX.out _).mono ?_
    rintro e w2 ⟨rfl, hw⟩
    subst hw
    go_wp2_with fail
    refine (SY.out _).mono ?_
    rintro e w2 ⟨rfl, hw⟩
    subst hw
    go_wp2
    go_ret
    exact ⟨by rw [Bool.true_and]; rfl, B1.out⟩
set_option maxRecDepth 100000 in
set_option maxHeartbeats 2000000 in
theorem impl_hasblock_any (a b : Int) (A : Option Addr) (ca : Nat) (l : List Int) (x y n : Int) (w : World) (hA : Ints w w.heap.size A l) : Calls Try.prog 49 #[.agg #[.int .i64 a, .int .i64 b, .slice A l.length ca], .int .i64 x, .int .i64 y, .int .i64 n] w fun e w' => e = .returned (.bool (inE a b l x y n)) ∧ Below w.heap.size w w' := by
  cases hf : frameE a b l with
  | false =>
    have FO := Lib.hid fun w h => impl_frameok_any a b A ca l w h
    have HB := Lib.hid ((hA.below (below_new w (.cells #[.int .i64 a, .int .i64 b, .slice A l.length ca] 26)) (Nat.le_refl _)).mono (below_new w (.cells #[.int .i64 a, .int .i64 b, .slice A l.length ca] 26)).size)
    have BN := Lib.hid (below_new w (.cells #[.int .i64 a, .int .i64 b, .slice A l.length ca] 26))
    have HK := Lib.hid (heap_alloc_new w (.cells #[.int .i64 a, .int .i64 b, .slice A l.length ca] 26))
    have hsz : (w.alloc (.cells #[.int .i64 a, .int .i64 b, .slice A l.length ca] 26)).heap.size = w.heap.size + 1 := by simp
    have HSZ := Lib.hid hsz
    have hnl := hA.1
    clear hA hsz
    rw [show inE a b l x y n = false by simp [inE, hf]]
    rw [hf] at FO
    clear hf
    go_enter Try.func49, Try.ntmps49
    go_wp2_with fail
    refine (FO.out _ HB.out).mono ?_
    rintro e w1 ⟨rfl, hb1⟩
    have B1 := Lib.hid (below_up BN.out hb1 BN.out.size)
    have k1 : w1.heap[w.heap.size]? = some (.cells #[.int .i64 a, .int .i64 b, .slice A l.length ca] 26 (0, 0)) := by rw [hb1.block w.heap.size (by rw [HSZ.out]; omega)]; exact HK.out
    obtain ⟨c0, c1, c2⟩ := cells3 k1
    clear hb1 k1
    go_wp2
    go_ret
    exact ⟨rfl, B1.out⟩
  | true =>
    cases ho : okN n with
    | false =>
      have FO := Lib.hid fun w h => impl_frameok_any a b A ca l w h
      have HB := Lib.hid ((hA.below (below_new w (.cells #[.int .i64 a, .int .i64 b, .slice A l.length ca] 26)) (Nat.le_refl _)).mono (below_new w (.cells #[.int .i64 a, .int .i64 b, .slice A l.length ca] 26)).size)
      have BN := Lib.hid (below_new w (.cells #[.int .i64 a, .int .i64 b, .slice A l.length ca] 26))
      have HK := Lib.hid (heap_alloc_new w (.cells #[.int .i64 a, .int .i64 b, .slice A l.length ca] 26))
      have hsz : (w.alloc (.cells #[.int .i64 a, .int .i64 b, .slice A l.length ca] 26)).heap.size = w.heap.size + 1 := by simp
      have HSZ := Lib.hid hsz
      have hnl := hA.1
      clear hA hsz
      have SZ := Lib.hid (impl_sizeok_any n)
      rw [show inE a b l x y n = false by simp [inE, ho]]
      rw [hf] at FO
      rw [ho] at SZ
      clear hf ho
      go_enter Try.func49, Try.ntmps49
      go_wp2_with fail
      refine (FO.out _ HB.out).mono ?_
      rintro e w1 ⟨rfl, hb1⟩
      have B1 := Lib.hid (below_up BN.out hb1 BN.out.size)
      have k1 : w1.heap[w.heap.size]? = some (.cells #[.int .i64 a, .int .i64 b, .slice A l.length ca] 26 (0, 0)) := by rw [hb1.block w.heap.size (by rw [HSZ.out]; omega)]; exact HK.out
      obtain ⟨c0, c1, c2⟩ := cells3 k1
      clear hb1 k1
      go_wp2_with fail
      refine (SZ.out _).mono ?_
      rintro e w2 ⟨rfl, hw⟩
      subst hw
      go_wp2
      go_ret
      exact ⟨rfl, B1.out⟩
    | true =>
      rcases okN_cases ho with rfl | rfl
      · have h := impl_hasblock_4 a b A ca l x y hf w hA
        rw [show inE a b l x y 4 = ((betE x (a - 4) && decide (x % 4 = 0)) && (betE y (b - 4) && decide (y % 4 = 0))) by unfold inE; rw [hf, show okN 4 = true from rfl]; cases betE x (a - 4) <;> cases betE y (b - 4) <;> simp]
        exact h
      · have h := impl_hasblock_8 a b A ca l x y hf w hA
        rw [show inE a b l x y 8 = ((betE x (a - 8) && decide (x % 8 = 0)) && (betE y (b - 8) && decide (y % 8 = 0))) by unfold inE; rw [hf, show okN 8 = true from rfl]; cases betE x (a - 8) <;> cases betE y (b - 8) <;> simp]
        exact h
end Go.Proofs.Ytemfiglflbfocaa
