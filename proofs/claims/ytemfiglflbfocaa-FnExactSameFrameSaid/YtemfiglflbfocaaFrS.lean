/-
  The contract of the model's SameFrame. Condition: a row is no longer than 1048576 (the laws ask no more).
-/
import Derived.Test.YtemfiglflbfocaaFrB
import Derived.Test.YtemfiglflbfocaaFrD
import Derived.Test.YtemfiglflbfocaaApp
import Derived.Test.YtemfiglflbfocaaNbE
import Derived.RegionTactic
import Derived.BigQuiet
import Derived.Deep.QuietTactic
namespace Go.Proofs.Ytemfiglflbfocaa
open Go.RowKit
set_option linter.unusedVariables false

/-- What SameFrame answers. -/
def sfE (a b : Int) (l : List Int) (a2 b2 : Int) (m : List Int) : Bool := decide (a = a2) && decide (b = b2) && decide (l = m)
set_option maxRecDepth 100000 in
set_option maxHeartbeats 1000000 in
theorem sameframe_w (A : Option Addr) (cA : Nat) (l : List Int) (a b : Int) (B : Option Addr) (cB : Nat) (m : List Int) (a2 b2 : Int) (h : a ≠ a2) (w : World) :
    Calls Try.prog 16 #[.agg #[.int .i64 a, .int .i64 b, .slice A l.length cA], .agg #[.int .i64 a2, .int .i64 b2, .slice B m.length cB]] w fun e w' => e = .returned (.bool false) ∧ Below w.heap.size w w' := by
  have q1 : (a != a2) = true := by simp [h]
  have BW := Lib.hid (below_two w (.cells #[.int .i64 a, .int .i64 b, .slice A l.length cA] 26) (.cells #[.int .i64 a2, .int .i64 b2, .slice B m.length cB] 26))
  go_enter Try.func16, Try.ntmps16
  go_wp2
  go_ret
  exact ⟨rfl, BW.out⟩
set_option maxRecDepth 100000 in
set_option maxHeartbeats 1000000 in
theorem sameframe_h (A : Option Addr) (cA : Nat) (l : List Int) (a b : Int) (B : Option Addr) (cB : Nat) (m : List Int) (a2 b2 : Int) (h1 : a = a2) (h : b ≠ b2) (w : World) :
    Calls Try.prog 16 #[.agg #[.int .i64 a, .int .i64 b, .slice A l.length cA], .agg #[.int .i64 a2, .int .i64 b2, .slice B m.length cB]] w fun e w' => e = .returned (.bool false) ∧ Below w.heap.size w w' := by
  have q1 : (a != a2) = false := by simp [h1]
  have q2 : (b != b2) = true := by simp [h]
  clear h1
  have BW := Lib.hid (below_two w (.cells #[.int .i64 a, .int .i64 b, .slice A l.length cA] 26) (.cells #[.int .i64 a2, .int .i64 b2, .slice B m.length cB] 26))
  go_enter Try.func16, Try.ntmps16
  go_wp2
  go_ret
  exact ⟨rfl, BW.out⟩
set_option maxRecDepth 100000 in
set_option maxHeartbeats 1000000 in
theorem sameframe_n (A : Option Addr) (cA : Nat) (l : List Int) (a b : Int) (B : Option Addr) (cB : Nat) (m : List Int) (a2 b2 : Int) (h1 : a = a2) (h2 : b = b2) (h : l.length ≠ m.length) (w : World) :
    Calls Try.prog 16 #[.agg #[.int .i64 a, .int .i64 b, .slice A l.length cA], .agg #[.int .i64 a2, .int .i64 b2, .slice B m.length cB]] w fun e w' => e = .returned (.bool false) ∧ Below w.heap.size w w' := by
  have q1 : (a != a2) = false := by simp [h1]
  have q2 : (b != b2) = false := by simp [h2]
  have q3 : ((l.length : Int) != (m.length : Int)) = true := by simp; omega
  clear h1 h2
  have BW := Lib.hid (below_two w (.cells #[.int .i64 a, .int .i64 b, .slice A l.length cA] 26) (.cells #[.int .i64 a2, .int .i64 b2, .slice B m.length cB] 26))
  go_enter Try.func16, Try.ntmps16
  go_wp2
  go_ret
  exact ⟨rfl, BW.out⟩
set_option maxRecDepth 100000 in
set_option maxHeartbeats 2000000 in
theorem sameframe_in (A : Option Addr) (cA : Nat) (l : List Int) (a b : Int) (B : Option Addr) (cB : Nat) (m : List Int) (hlm : l.length = m.length) (hl : l.length ≤ 1048576) (w : World) (hA : Ints w w.heap.size A l) (hB : Ints w w.heap.size B m) :
    Calls Try.prog 16 #[.agg #[.int .i64 a, .int .i64 b, .slice A l.length cA], .agg #[.int .i64 a, .int .i64 b, .slice B m.length cB]] w fun e w' => e = .returned (.bool (decide (l = m))) ∧ Below w.heap.size w w' := by
  obtain ⟨n, hn⟩ : ∃ n, n = l.length := ⟨_, rfl⟩
  rw [← hlm]
  rw [← hn] at hl ⊢
  have BW := Lib.hid (below_two w (.cells #[.int .i64 a, .int .i64 b, .slice A n cA] 26) (.cells #[.int .i64 a, .int .i64 b, .slice B n cB] 26))
  have KK := heap_two w (.cells #[.int .i64 a, .int .i64 b, .slice A n cA] 26) (.cells #[.int .i64 a, .int .i64 b, .slice B n cB] 26)
  obtain ⟨W2, hW2⟩ : ∃ W2, W2 = ((w.alloc (.cells #[.int .i64 a, .int .i64 b, .slice A n cA] 26)).alloc (.cells #[.int .i64 a, .int .i64 b, .slice B n cB] 26)) := ⟨_, rfl⟩
  rw [← hW2] at BW KK
  have SB : Hid (∀ wx, Below W2.heap.size W2 wx → wx.heap[w.heap.size]? = some (.cells #[.int .i64 a, .int .i64 b, .slice A n cA] 26 (0, 0)) ∧ wx.heap[w.heap.size + 1]? = some (.cells #[.int .i64 a, .int .i64 b, .slice B n cB] 26 (0, 0)) ∧ Ints wx wx.heap.size A l ∧ Ints wx wx.heap.size B m) := Lib.hid fun wx h => by
    have q := below_up BW.out h BW.out.size
    exact ⟨(h.block _ (heap_lt KK.1)).trans KK.1, (h.block _ (heap_lt KK.2)).trans KK.2, (hA.below q (Nat.le_refl _)).mono q.size, (hB.below q (Nat.le_refl _)).mono q.size⟩
  have HN := Lib.hid hn; have HM := Lib.hid (hn.trans hlm); have HW := Lib.hid hW2
  obtain ⟨r, hr⟩ : ∃ r, r = decide (l = m) := ⟨_, rfl⟩
  rw [← hr]
  have HR := Lib.hid hr
  clear hr
  have q1 : (a != a) = false := by simp
  have q2 : (b != b) = false := by simp
  have q3 : ((n : Int) != (n : Int)) = false := by simp
  clear KK hA hB hn hlm hW2
  go_enter Try.func16, Try.ntmps16
  go_wp2
  go_loopw [5] (fun x5 wr => ∃ j : Nat, j ≤ n ∧ x5 = .int .i64 j ∧ (∀ t, t < j → l.getD t 0 = m.getD t 0) ∧ Below W2.heap.size W2 wr) (fun x5 _ => n - (intOf x5).toNat)
  case atStart => exact ⟨0, Nat.zero_le _, rfl, fun t ht => by omega, by rw [HW.out]; exact Below.refl _ _⟩
  case round =>
    obtain ⟨j, hj, rfl, hall, hbel⟩ := hrel
    obtain ⟨k1, k2, h1, h2⟩ := SB.out _ hbel
    obtain ⟨c0, c1, c2⟩ := cells3 k1
    obtain ⟨d0, d1, d2⟩ := cells3 k2
    have HB := Lib.hid hbel; have HL := Lib.hid hall
    have BE := Lib.hid (below_up BW.out hbel BW.out.size)
    clear k1 k2 hbel hall
    by_cases hlt : j < n
    · have t1 : decide ((j : Int) < (n : Int)) = true := by simp; omega
      obtain ⟨p, o, rfl, hp, hc⟩ := h1.at j (by rw [← HN.out]; exact hlt)
      obtain ⟨p', o', rfl, hp', hc'⟩ := h2.at j (by rw [← HM.out]; exact hlt)
      have cu := hc j (by rw [← HN.out]; exact hlt)
      have cv := hc' j (by rw [← HM.out]; exact hlt)
      obtain ⟨u, hu⟩ : ∃ u, u = l.getD j 0 := ⟨_, rfl⟩
      obtain ⟨v, hv⟩ : ∃ v, v = m.getD j 0 := ⟨_, rfl⟩
      rw [← hu] at cu
      rw [← hv] at cv
      have HU := Lib.hid hu; have HV := Lib.hid hv
      have j0 : (0 : Int) ≤ (j : Int) := by omega
      have jn : (j : Int) < (n : Int) := by omega
      clear hc hc' hu hv h1 h2 hp hp'
      go_wp2
      go_quiet (fail)
      by_cases huv : u = v
      · have e1 : (u != v) = false := by simp [huv]
        have HUV := Lib.hid huv
        clear huv
        go_wp2
        go_roundw
        case rel =>
          refine ⟨j + 1, by omega, by go_num, fun t ht => ?_, below_drews HB.out _⟩
          by_cases e : t = j
          · rw [e, ← HU.out, ← HV.out]; exact HUV.out
          · exact HL.out t (by omega)
        case measure => simp [intOf]; omega
      · have e1 : (u != v) = true := by simp [huv]
        have hne : decide (l = m) = false := decide_eq_false fun e => huv (by rw [HU.out, HV.out, e])
        have HNE := Lib.hid hne
        clear huv hne
        go_wp2
        go_ret
        exact ⟨by rw [HR.out, HNE.out]; rfl, below_drews BE.out _⟩
    · have t1 : decide ((j : Int) < (n : Int)) = false := by simp; omega
      have hjn : j = n := by omega
      have heq : decide (l = m) = true := decide_eq_true (ints_same HN.out.symm HM.out.symm fun i hi => HL.out i (by omega))
      have HEQ := Lib.hid heq
      clear hjn h1 h2 heq
      go_wp2
      go_ret
      exact ⟨by rw [HR.out, HEQ.out]; rfl, BE.out⟩
theorem spec_sameframe_any (A : Option Addr) (cA : Nat) (l : List Int) (a b : Int) (B : Option Addr) (cB : Nat) (m : List Int) (a2 b2 : Int) (hl : l.length ≤ 1048576) (w : World) (hA : Ints w w.heap.size A l) (hB : Ints w w.heap.size B m) :
    Calls Try.prog 16 #[.agg #[.int .i64 a, .int .i64 b, .slice A l.length cA], .agg #[.int .i64 a2, .int .i64 b2, .slice B m.length cB]] w fun e w' => e = .returned (.bool (sfE a b l a2 b2 m)) ∧ Below w.heap.size w w' := by
  unfold sfE
  by_cases h1 : a = a2
  · by_cases h2 : b = b2
    · by_cases h3 : l.length = m.length
      · subst h1 h2
        rw [decide_eq_true rfl, decide_eq_true rfl, Bool.true_and, Bool.true_and]
        exact sameframe_in A cA l a b B cB m h3 hl w hA hB
      · rw [decide_eq_false (p := l = m) (fun e => h3 (by rw [e])), Bool.and_false]
        exact sameframe_n A cA l a b B cB m a2 b2 h1 h2 h3 w
    · rw [decide_eq_false h2, Bool.and_false, Bool.false_and]
      exact sameframe_h A cA l a b B cB m a2 b2 h1 h2 w
  · rw [decide_eq_false h1, Bool.false_and, Bool.false_and]
    exact sameframe_w A cA l a b B cB m a2 b2 h1 w
end Go.Proofs.Ytemfiglflbfocaa
