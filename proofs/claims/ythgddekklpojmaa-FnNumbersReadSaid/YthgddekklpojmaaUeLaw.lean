/-
  The walk of the law on reading numbers. No condition.
-/
import Derived.Test.YthgddekklpojmaaUeM
import Derived.Test.YthgddekklpojmaaUeDraw
namespace Go.Proofs.Ythgddekklpojmaa
open Go.RowKit
set_option linter.unusedVariables false

set_option maxRecDepth 100000 in
set_option maxHeartbeats 400000 in
theorem nread_big (a : Option Addr) (cap len : Nat) (hbig : 1048576 < len) (hm : len ≤ 9223372036854775807) (w : World) :
    Calls Try.prog 3 #[.slice a len cap] w fun e w' => e = .returned (.bool true) ∧ Below w.heap.size w w' := by
  have h := big_any a len cap hm
  rw [decide_eq_true (by omega)] at h
  have HB := Lib.hid h
  clear h
  go_enter Try.func3, Try.ntmps3
  go_wp2_with fail
  refine (HB.out _).mono ?_
  rintro e w' ⟨rfl, rfl⟩
  go_wp2
  go_ret
  exact ⟨rfl, Below.refl _ _⟩

set_option maxRecDepth 100000 in
set_option maxHeartbeats 1000000 in
/-- A number that has no code. -/
theorem nread_bad (A : Option Addr) (cap : Nat) (ys : List Int) (w : World) (hw : Code w A ys) (N : Nat) (n : Int) (hno : n < 0 ∨ 65534 < n)
    (hbig : decide (1048576 < (N : Int)) = false)
    (BG : Hid (∀ w, Calls Try.prog 10 #[.slice A N cap] w fun e w' => e = .returned (.bool (decide (1048576 < (N : Int)))) ∧ w = w'))
    (DU : Hid (∀ w, Code w A ys → Calls Try.prog 11 #[.slice A N cap] w fun e w' => e = .returned (.int .i64 n) ∧ Below w.heap.size w w'))
    (IU : Hid (∀ w, Calls Try.prog 12 #[.int .i64 n] w fun e w' => ∃ A cap, e = .returned (.slice A 0 cap) ∧ OwnI w' w.heap.size A cap [] ∧ Below w.heap.size w w'))
    (US : Hid (∀ w, Calls Try.prog 13 #[.int .i64 n] w fun e w' => e = .returned (.int .i64 0) ∧ Below w.heap.size w w')) :
    Calls Try.prog 3 #[.slice A N cap] w fun e w' => e = .returned (.bool true) ∧ Below w.heap.size w w' := by
  have W0 := Lib.hid hw
  clear hw
  rcases hno with h1 | h1
  case' inl => have q1 : decide (n < 0) = true := by simpa using h1
  case' inr =>
    have q1 : decide (n < 0) = false := by simp; omega
    have q2 : decide (65534 < n) = true := by simpa using h1
  all_goals
    clear h1
    go_enter Try.func3, Try.ntmps3
    go_wp2_with fail
    refine (BG.out _).mono ?_
    rintro e w' ⟨rfl, rfl⟩
    go_wp2_with fail
    refine (DU.out _ W0.out).mono ?_
    rintro e w1 ⟨rfl, hb⟩
    have B1 := Lib.hid hb; clear hb
    go_wp2_with fail
    refine (IU.out _).mono ?_
    rintro e w2 ⟨A2, c2, rfl, ho, hb⟩
    have B2 := Lib.hid (below_step B1.out hb); clear hb ho
    go_wp2_with fail
    refine (US.out _).mono ?_
    rintro e w3 ⟨rfl, hb⟩
    have B3 := Lib.hid (below_step B2.out hb); clear hb
    go_wp2
    go_ret
    exact ⟨rfl, B3.out⟩

set_option maxRecDepth 100000 in
set_option maxHeartbeats 2000000 in
/-- A number that has a code. -/
theorem nread_ok (A : Option Addr) (cap : Nat) (ys : List Int) (w : World) (hw : Code w A ys) (N : Nat) (n k : Int) (l : List Int) (s : ByteArray) (h0 : 0 ≤ n) (h1 : n ≤ 65534)
    (hbig : decide (1048576 < (N : Int)) = false) (hl : l.length ≤ 31) (hk : (k != 0) = true)
    (BG : Hid (∀ w, Calls Try.prog 10 #[.slice A N cap] w fun e w' => e = .returned (.bool (decide (1048576 < (N : Int)))) ∧ w = w'))
    (DU : Hid (∀ w, Code w A ys → Calls Try.prog 11 #[.slice A N cap] w fun e w' => e = .returned (.int .i64 n) ∧ Below w.heap.size w w'))
    (IU : Hid (∀ w, Calls Try.prog 12 #[.int .i64 n] w fun e w' => ∃ A cap, e = .returned (.slice A l.length cap) ∧ OwnI w' w.heap.size A cap l ∧ Below w.heap.size w w'))
    (IS : Hid (∀ A ca w, Ints w w.heap.size A l → Placed A ca → Calls Try.prog 14 #[.slice A l.length ca] w fun e w' => e = .returned (.string s) ∧ Below w.heap.size w w'))
    (RU : Hid (∀ w, Calls Try.prog 15 #[.agg #[.string s, .int .i64 0]] w fun e w' => e = .returned (.tuple #[.agg #[.string s, .int .i64 (l.length : Int)], .int .i64 n, .int .i64 0]) ∧ Below w.heap.size w w'))
    (LV : Hid (∀ w, Calls Try.prog 16 #[.int .i64 n] w fun e w' => e = .returned (.int .i64 k) ∧ w = w'))
    (NL : Hid (∀ w, Calls Try.prog 17 #[.int .i64 k] w fun e w' => e = .returned (.int .i64 n) ∧ w = w'))
    (US : Hid (∀ w, Calls Try.prog 13 #[.int .i64 n] w fun e w' => e = .returned (.int .i64 (l.length : Int)) ∧ Below w.heap.size w w')) :
    Calls Try.prog 3 #[.slice A N cap] w fun e w' => e = .returned (.bool true) ∧ Below w.heap.size w w' := by
  have W0 := Lib.hid hw
  clear hw
  have q1 : decide (n < 0) = false := by simpa using h0
  have q2 : decide (65534 < n) = false := by simpa using h1
  have q3 : (n == n) = true := by simp
  have q4 : ((l.length : Int) == (l.length : Int)) = true := by simp
  have q5 : decide ((l.length : Int) ≤ 31) = true := by simp; omega
  go_enter Try.func3, Try.ntmps3
  go_wp2_with fail
  refine (BG.out _).mono ?_
  rintro e w' ⟨rfl, rfl⟩
  go_wp2_with fail
  refine (DU.out _ W0.out).mono ?_
  rintro e w1 ⟨rfl, hb⟩
  have B1 := Lib.hid hb; clear hb
  go_wp2_with fail
  refine (IU.out _).mono ?_
  rintro e w2 ⟨A2, c2, rfl, ho, hb⟩
  have P2 := Lib.hid ho.placed
  have R2 := Lib.hid (ho.ints (by omega))
  have B2 := Lib.hid (below_step B1.out hb); clear hb ho
  go_wp2_with fail
  refine (IS.out _ _ _ R2.out P2.out).mono ?_
  rintro e w3 ⟨rfl, hb⟩
  have B3 := Lib.hid (below_step B2.out hb); clear hb
  go_wp2_with fail
  refine (RU.out _).mono ?_
  rintro e w4 ⟨rfl, hb⟩
  have B4 := Lib.hid (below_step B3.out hb); clear hb
  go_wp2_with fail
  refine (LV.out _).mono ?_
  rintro e w' ⟨rfl, rfl⟩
  have H5 := Lib.hid (heap_alloc_new w4 (.cells #[.string s, .int .i64 (l.length : Int)] 30))
  have B5 := Lib.hid (B4.out.alloc B4.out.size (.cells #[.string s, .int .i64 (l.length : Int)] 30))
  go_wp2_with fail
  refine (US.out _).mono ?_
  rintro e w6 ⟨rfl, hb⟩
  have B6 := Lib.hid (below_step B5.out hb); clear hb
  go_wp2_with fail
  refine (NL.out _).mono ?_
  rintro e w' ⟨rfl, rfl⟩
  go_wp2_with fail
  refine (US.out _).mono ?_
  rintro e w7 ⟨rfl, hb⟩
  have B7 := Lib.hid (below_step B6.out hb); clear hb
  go_wp2
  go_ret
  exact ⟨rfl, B7.out⟩

theorem fnNumbersRead_walk (a : Option Addr) (len cap : Nat) (zs : List Int) (w : World) (h : IsRow .u8 w a len cap zs) :
    Calls Try.prog 3 #[.slice a len cap] w fun e w' => e = .returned (.bool true) ∧ Below w.heap.size w w' := by
  have hlm := h.len_le
  unfold maxLen at hlm
  by_cases hbig : 1048576 < len
  · exact nread_big a cap len hbig (by omega) w
  · obtain ⟨ys, rfl, hW⟩ := code_of h (by omega)
    have hbigF : decide (1048576 < (ys.length : Int)) = false := by simp; omega
    have BG := Lib.hid (big_any a ys.length cap (by omega))
    obtain ⟨n, n0, n1, DU⟩ := drawUeBits_det a cap ys
    have DU := Lib.hid DU
    have IU := impl_uebits_any n
    have US := impl_uesize_any n
    cases hok : ueOk n with
    | false =>
      have e : ueR n = [] := by rw [ueR, hok]; rfl
      have e2 : usV n = 0 := by rw [usV, e]; rfl
      rw [e] at IU
      rw [e2] at US
      simp only [ueOk, Bool.and_eq_false_iff, decide_eq_false_iff_not] at hok
      exact nread_bad a cap ys w hW ys.length n (by omega) hbigF BG DU (Lib.hid IU) (Lib.hid US)
    | true =>
      have hok2 := hok
      simp only [ueOk, Bool.and_eq_true, decide_eq_true_eq] at hok2
      obtain ⟨m, rfl⟩ := Int.eq_ofNat_of_zero_le hok2.1
      have hm : m ≤ 65534 := by omega
      have e : ueR m = ueL m := by rw [ueR, hok]; rfl
      have e2 : usV m = ((ueL m).length : Int) := by rw [usV, e]
      have hl := ueR_len m
      rw [e] at IU hl
      rw [e2] at US
      obtain ⟨r1, r2, r3, r4⟩ := ue_read m hm
      have RU := impl_readue_any (stopS (ueL m)) 0 r1
      rw [r2, r3, r4] at RU
      obtain ⟨k0, k1, k2, k3⟩ := level_back m hok2.1 hok2.2
      have LV := impl_levelof_any m (by simp [Lit.wf, IntKind.min, IntKind.max, IntKind.signed, IntKind.bits]; omega)
      have NL := impl_numoflevel_any (levV m) (by simp [Lit.wf, IntKind.min, IntKind.max, IntKind.signed, IntKind.bits]; omega)
      rw [k1] at NL
      have hk : (levV m != 0) = true := by rw [bne_iff_ne]; exact k0
      exact nread_ok a cap ys w hW ys.length m (levV m) (ueL m) (stopS (ueL m)) hok2.1 hok2.2 hbigF hl hk BG DU (Lib.hid IU)
        (Lib.hid fun A ca w hA hP => impl_stopped_any A ca (ueL m) (by omega) w hA hP) (Lib.hid RU) (Lib.hid LV) (Lib.hid NL) (Lib.hid US)
end Go.Proofs.Ythgddekklpojmaa
