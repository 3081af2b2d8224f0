/-
  The contract of the program's SameFrame, and of slices.Equal over integers. Condition: a row is no longer than 281474976710656 (the laws ask no more).
-/
import Derived.Test.YtemfiglflbfocaaFrS
import Derived.RegionTactic
namespace Go.Proofs.Ytemfiglflbfocaa
open Go.RowKit
set_option linter.unusedVariables false

set_option maxRecDepth 100000 in
set_option maxHeartbeats 2000000 in
theorem equal_ints (A B : Option Addr) (ca cb : Nat) (l m : List Int) (w : World) (hA : Ints w w.heap.size A l) (hB : Ints w w.heap.size B m) :
    Calls Try.prog 57 #[.slice A l.length ca, .slice B m.length cb] w fun e w' => e = .returned (.bool (decide (l = m))) ∧ Below w.heap.size w w' := by
  by_cases hne : l.length = m.length
  · obtain ⟨n, hn⟩ : ∃ n, n = l.length := ⟨_, rfl⟩
    have hn2 : m.length = n := by omega
    have hnm := hA.1
    rw [← hn] at hnm
    rw [hn2, ← hn]
    have HN := Lib.hid hn; clear hn hne
    have HN2 := Lib.hid hn2; clear hn2
    have HA := Lib.hid hA; clear hA
    have HB := Lib.hid hB; clear hB
    have d0 : ((n : Int) != (n : Int)) = false := by simp
    go_enter Try.func57, Try.ntmps57
    go_wp2
    go_loopw [13] (fun i wr => ∃ j : Nat, j ≤ n ∧ (∀ t, t < j → l.getD t 0 = m.getD t 0) ∧ i = .int .i64 j ∧ Below w.heap.size w wr)
      (fun i _ => n - (intOf i).toNat)
    case atStart => exact ⟨0, Nat.zero_le _, fun t ht => absurd ht (by omega), rfl, Below.refl _ _⟩
    case round =>
      obtain ⟨j, hj, hpre, rfl, hbel⟩ := hrel
      have HE := Lib.hid hpre; clear hpre
      by_cases hlt : j < n
      · have t1 : decide ((j : Int) < (n : Int)) = true := by simp; omega
        obtain ⟨ba, oa, rfl, ha1, ha2⟩ := HA.out.at j (by rw [← HN.out]; exact hlt)
        obtain ⟨bb, ob, rfl, hb1, hb2⟩ := HB.out.at j (by rw [HN2.out]; exact hlt)
        have c1 := ha2 j (by rw [← HN.out]; exact hlt)
        have c3 := hb2 j (by rw [HN2.out]; exact hlt)
        rw [← hbel.cell (p := ⟨ba, oa + j, none⟩) ha1] at c1
        rw [← hbel.cell (p := ⟨bb, ob + j, none⟩) hb1] at c3
        clear ha2 hb2
        obtain ⟨x, hx⟩ : ∃ x, x = l.getD j 0 := ⟨_, rfl⟩
        obtain ⟨y, hy⟩ : ∃ y, y = m.getD j 0 := ⟨_, rfl⟩
        rw [← hx] at c1
        rw [← hy] at c3
        have HX := Lib.hid hx; clear hx
        have HY := Lib.hid hy; clear hy
        have j0 : (0 : Int) ≤ (j : Int) := by omega
        have jn : (j : Int) < (n : Int) := by omega
        by_cases hxy : x = y
        · subst hxy
          have e1 : (x != x) = false := by simp
          go_wp2
          go_region
          go_wp2
          go_roundw
          case rel =>
            refine ⟨j + 1, by omega, fun t ht => ?_, by go_num, hbel.drew⟩
            by_cases htj : t = j
            · subst htj; rw [← HX.out, ← HY.out]
            · exact HE.out t (by omega)
          case measure => simp [intOf]; omega
        · have e1 : (x != y) = true := by simp [hxy]
          have HNE : Hid (decide (l = m) = false) := Lib.hid (decide_eq_false fun e => hxy (by rw [HX.out, HY.out, e]))
          clear hxy
          go_wp2
          go_region
          go_wp2
          go_ret
          exact ⟨by rw [HNE.out]; rfl, hbel.drew⟩
      · have t1 : decide ((j : Int) < (n : Int)) = false := by simp; omega
        have HEQ : Hid (decide (l = m) = true) := Lib.hid (decide_eq_true (ints_same HN.out.symm HN2.out fun i hi => HE.out i (by omega)))
        go_wp2
        go_ret
        exact ⟨by rw [HEQ.out]; rfl, hbel⟩
  · have hq : ((l.length : Int) != (m.length : Int)) = true := by rw [bne_iff_ne]; omega
    have HNE : Hid (decide (l = m) = false) := Lib.hid (decide_eq_false fun e => hne (by rw [e]))
    clear hne
    go_enter Try.func57, Try.ntmps57
    go_wp2
    go_ret
    exact ⟨by rw [HNE.out]; rfl, Below.refl _ _⟩
set_option maxRecDepth 100000 in
set_option maxHeartbeats 2000000 in
theorem impl_sameframe_any (A : Option Addr) (cA : Nat) (l : List Int) (a b : Int) (B : Option Addr) (cB : Nat) (m : List Int) (a2 b2 : Int) (hl : l.length ≤ 1048576) (w : World) (hA : Ints w w.heap.size A l) (hB : Ints w w.heap.size B m) :
    Calls Try.prog 20 #[.agg #[.int .i64 a, .int .i64 b, .slice A l.length cA], .agg #[.int .i64 a2, .int .i64 b2, .slice B m.length cB]] w fun e w' => e = .returned (.bool (sfE a b l a2 b2 m)) ∧ Below w.heap.size w w' := by
  unfold sfE
  have BW := Lib.hid (below_two w (.cells #[.int .i64 a, .int .i64 b, .slice A l.length cA] 26) (.cells #[.int .i64 a2, .int .i64 b2, .slice B m.length cB] 26))
  have IA := Lib.hid ((hA.below BW.out (Nat.le_refl _)).mono BW.out.size)
  have IB := Lib.hid ((hB.below BW.out (Nat.le_refl _)).mono BW.out.size)
  have EQ := Lib.hid fun w h1 h2 => equal_ints A B cA cB l m w h1 h2
  have hlm := hB.1
  obtain ⟨n, hn⟩ : ∃ n, n = l.length := ⟨_, rfl⟩
  obtain ⟨k, hk⟩ : ∃ k, k = m.length := ⟨_, rfl⟩
  rw [← hn, ← hk] at BW IA IB EQ ⊢
  rw [← hn] at hl; rw [← hk] at hlm
  obtain ⟨d, hd⟩ : ∃ d, d = decide (l = m) := ⟨_, rfl⟩
  rw [← hd] at EQ ⊢
  clear hA hB hn hk hd
  by_cases h1 : a = a2
  · have q1 : (a == a2) = true := by simp [h1]
    rw [decide_eq_true h1]
    by_cases h2 : b = b2
    · have q2 : (b == b2) = true := by simp [h2]
      rw [decide_eq_true h2]
      clear h1 h2
      go_enter Try.func20, Try.ntmps20
      go_wp2_with fail
      refine (EQ.out _ IA.out IB.out).mono ?_
      rintro e w1 ⟨rfl, hb1⟩
      have B1 := Lib.hid (below_up BW.out hb1 BW.out.size)
      clear hb1
      go_wp2
      go_ret
      exact ⟨by rw [Bool.true_and, Bool.true_and]; rfl, B1.out⟩
    · have q2 : (b == b2) = false := by simp [h2]
      rw [decide_eq_false h2]
      clear h1 h2
      go_enter Try.func20, Try.ntmps20
      go_wp2
      go_ret
      exact ⟨rfl, BW.out⟩
  · have q1 : (a == a2) = false := by simp [h1]
    rw [decide_eq_false h1]
    clear h1
    go_enter Try.func20, Try.ntmps20
    go_wp2
    go_ret
    exact ⟨rfl, BW.out⟩
end Go.Proofs.Ytemfiglflbfocaa
