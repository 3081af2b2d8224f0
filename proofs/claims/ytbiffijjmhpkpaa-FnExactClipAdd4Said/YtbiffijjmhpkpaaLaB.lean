/-
  Chapter 16: contracts of the program's packedOk, filledLanes, AddLanes, ClipLanes, Unpack4. Condition: the numbers are those of an int.
-/
import Derived.Test.YtbiffijjmhpkpaaLaP
import Derived.Test.YtbiffijjmhpkpaaApp
import Derived.Deep.RegionHeld3
import Derived.Deep.QuietTactic
import Derived.BigQuiet
namespace Go.Proofs.Ytbiffijjmhpkpaa
open Go.RowKit
set_option linter.unusedVariables false

set_option maxRecDepth 100000 in
set_option maxHeartbeats 400000 in
theorem impl_packedok_any (n : Int) (h0 : -9223372036854775808 ≤ n) (h1 : n ≤ 9223372036854775807) (w : World) :
    Calls Try.prog 32 #[.int .i64 n] w fun e w' => e = .returned (.bool (upE n)) ∧ w = w' := by
  have T := pk_test h0 h1
  obtain ⟨x, hx⟩ : ∃ x, x = upE n := ⟨_, rfl⟩
  rw [← hx] at T ⊢
  clear hx
  go_enter Try.func32, Try.ntmps32
  go_wp2
  go_ret
  exact ⟨by simp, rfl⟩
set_option maxRecDepth 100000 in
set_option maxHeartbeats 400000 in
theorem impl_filled_any (a b c d : Nat) (ha : a < 65536) (hb : b < 65536) (hc : c < 65536) (hd : d < 65536) (w : World) :
    Calls Try.prog 34 #[.int .u64 (ln a b c d : Nat)] w fun e w' => e = .returned (.int .u64 (ln (fl a) (fl b) (fl c) (fl d) : Nat)) ∧ w = w' := by
  have hl := ln_lt ha hb hc hd
  have T : bits .and .u64 ((ln a b c d : Nat) : Int) 9223512776490647552 = ((ln a b c d &&& 9223512776490647552 : Nat) : Int) := by
    rw [show (9223512776490647552 : Int) = ((9223512776490647552 : Nat) : Int) from rfl]
    exact u64_and_nat _ _ hl (by decide)
  have F := filled_ln ha hb hc hd
  have hf : ln (fl a) (fl b) (fl c) (fl d) < 18446744073709551616 := ln_lt (by have := fl_le a; omega) (by have := fl_le b; omega) (by have := fl_le c; omega) (by have := fl_le d; omega)
  obtain ⟨X, hX⟩ : ∃ X, X = ln a b c d := ⟨_, rfl⟩
  obtain ⟨Z, hZ⟩ : ∃ Z, Z = ln (fl a) (fl b) (fl c) (fl d) := ⟨_, rfl⟩
  rw [← hX] at T F hl ⊢
  rw [← hZ] at F hf ⊢
  obtain ⟨Y, hY⟩ : ∃ Y, Y = X &&& 9223512776490647552 := ⟨_, rfl⟩
  rw [← hY] at T F
  clear hX hZ hY
  go_enter Try.func34, Try.ntmps34
  go_wp2
  go_ret
  have e : (X : Int) = X := rfl
  refine ⟨?_, rfl⟩
  show Ending.returned (Value.int IntKind.u64 ((Y : Int) / 32768 * 32767)) = _
  rw [show (Y : Int) / 32768 * 32767 = (Z : Nat) by omega]
/-- The program's own sum of two packed numbers. -/
theorem up_ln {p q r s : Nat} (hp : p < 65536) (hq : q < 65536) (hr : r < 65536) (hs : s < 65536) : upE (IntKind.i64.wrap (ln p q r s : Nat)) = smE p q r s ∧ (smE p q r s = true → IntKind.i64.wrap (ln p q r s : Nat) = (ln p q r s : Nat)) := by
  by_cases h : s < 32768
  · have hl := ln_small hp hq hr h
    rw [IntWalk.i64_in _ (by omega)]
    refine ⟨?_, fun _ => rfl⟩
    obtain ⟨p1, p2, p3, p4⟩ := ln_parts hp hq hr hs
    unfold upE
    rw [p1, p2, p3, p4]
    simp
  · have hm : smE p q r s = false := by unfold smE; rw [decide_eq_false h]; simp
    rw [hm]
    refine ⟨?_, fun h => by cases h⟩
    unfold upE
    rw [decide_eq_false (by rw [IntKind.wrap_i64]; unfold ln; omega), Bool.false_and]
theorem add_lanes {a b : Int} (h1 : a ≤ 9223372036854775807) (h2 : b ≤ 9223372036854775807) (ha : upE a = true) (hb : upE b = true) : lnA a + lnA b < 65536 ∧ lnB a + lnB b < 65536 ∧ lnC a + lnC b < 65536 ∧ lnD a + lnD b < 65536 ∧ a + b = (ln (lnA a + lnA b) (lnB a + lnB b) (lnC a + lnC b) (lnD a + lnD b) : Nat) := by
  unfold upE at ha hb
  simp only [Bool.and_eq_true, decide_eq_true_eq, smE] at ha hb
  obtain ⟨a0, ⟨⟨⟨a1, a2⟩, a3⟩, a4⟩⟩ := ha
  obtain ⟨b0, ⟨⟨⟨b1, b2⟩, b3⟩, b4⟩⟩ := hb
  have ea := ln_of a0 (by omega)
  have eb := ln_of b0 (by omega)
  unfold ln at ea eb ⊢
  omega
theorem add_test {a b : Int} (h1 : a ≤ 9223372036854775807) (h2 : b ≤ 9223372036854775807) (ha : upE a = true) (hb : upE b = true) : upE (IntKind.i64.wrap (a + b)) = smE (lnA a + lnA b) (lnB a + lnB b) (lnC a + lnC b) (lnD a + lnD b) ∧ (smE (lnA a + lnA b) (lnB a + lnB b) (lnC a + lnC b) (lnD a + lnD b) = true → IntKind.i64.wrap (a + b) = a + b) := by
  obtain ⟨p1, p2, p3, p4, e⟩ := add_lanes h1 h2 ha hb
  rw [e]
  exact up_ln p1 p2 p3 p4
theorem wrap64_in (x : Int) : -9223372036854775808 ≤ IntKind.i64.wrap x ∧ IntKind.i64.wrap x ≤ 9223372036854775807 := by
  rw [IntKind.wrap_i64]; omega
theorem w64 (x : Int) : IntKind.i64.wrap x = wrap64 x := by rw [IntKind.wrap_i64]; unfold wrap64; omega
set_option maxRecDepth 100000 in
set_option maxHeartbeats 1000000 in
theorem impl_addlanes_any (a b : Int) (a0 : -9223372036854775808 ≤ a) (a1 : a ≤ 9223372036854775807) (b0 : -9223372036854775808 ≤ b) (b1 : b ≤ 9223372036854775807) (w : World) :
    Calls Try.prog 16 #[.int .i64 a, .int .i64 b] w fun e w' => e = .returned (.tuple #[.int .i64 (adV a b), .bool (adE a b)]) ∧ w' = w := by
  have PA := Lib.hid (impl_packedok_any a a0 a1)
  have PB := Lib.hid (impl_packedok_any b b0 b1)
  have PC : Hid (∀ w, Calls Try.prog 32 #[.int .i64 (wrap64 (a + b))] w fun e w' => e = .returned (.bool (upE (wrap64 (a + b)))) ∧ w = w') := Lib.hid (impl_packedok_any (wrap64 (a + b)) (by have := wrap64_in (a + b); rw [← w64 (a + b)]; exact this.1) (by have := wrap64_in (a + b); rw [← w64 (a + b)]; exact this.2))
  cases ha : upE a with
  | false =>
    have e1 : adE a b = false := by unfold adE; rw [ha]; rfl
    have e2 : adV a b = 0 := by unfold adV; rw [e1]; rfl
    rw [e1, e2]
    rw [ha] at PA
    clear e1 e2 ha
    go_enter Try.func16, Try.ntmps16
    go_wp2_with fail
    refine (PA.out _).mono ?_
    rintro e w1 ⟨rfl, rfl⟩
    go_wp2
    go_ret2
    exact ⟨rfl, rfl⟩
  | true =>
    rw [ha] at PA
    cases hb : upE b with
    | false =>
      have e1 : adE a b = false := by unfold adE; rw [ha, hb]; rfl
      have e2 : adV a b = 0 := by unfold adV; rw [e1]; rfl
      rw [e1, e2]
      rw [hb] at PB
      clear e1 e2 ha hb
      go_enter Try.func16, Try.ntmps16
      go_wp2_with fail
      refine (PA.out _).mono ?_
      rintro e w1 ⟨rfl, rfl⟩
      go_wp2_with fail
      refine (PB.out _).mono ?_
      rintro e w1 ⟨rfl, rfl⟩
      go_wp2
      go_ret2
      exact ⟨rfl, rfl⟩
    | true =>
      rw [hb] at PB
      obtain ⟨t1, t2⟩ := add_test a1 b1 ha hb
      rw [w64] at t1 t2
      have e1 : adE a b = smE (lnA a + lnA b) (lnB a + lnB b) (lnC a + lnC b) (lnD a + lnD b) := by unfold adE; rw [ha, hb]; rfl
      rw [t1] at PC
      rw [← e1] at PC t2
      clear e1 t1 ha hb
      cases hs : adE a b with
      | false =>
        have e2 : adV a b = 0 := by unfold adV; rw [hs]; rfl
        rw [e2]
        rw [hs] at PC
        clear hs t2 e2
        go_enter Try.func16, Try.ntmps16
        go_wp2_with fail
        refine (PA.out _).mono ?_
        rintro e w1 ⟨rfl, rfl⟩
        go_wp2_with fail
        refine (PB.out _).mono ?_
        rintro e w1 ⟨rfl, rfl⟩
        go_wp2_with fail
        refine (PC.out _).mono ?_
        rintro e w1 ⟨rfl, rfl⟩
        go_wp2
        go_ret2
        exact ⟨rfl, rfl⟩
      | true =>
        have e2 : adV a b = a + b := by unfold adV; rw [if_pos hs]
        have hw := t2 hs
        rw [e2]
        rw [hs] at PC
        have HW := Lib.hid hw
        clear hs t2 e2 hw
        go_enter Try.func16, Try.ntmps16
        go_wp2_with fail
        refine (PA.out _).mono ?_
        rintro e w1 ⟨rfl, rfl⟩
        go_wp2_with fail
        refine (PB.out _).mono ?_
        rintro e w1 ⟨rfl, rfl⟩
        go_wp2_with fail
        refine (PC.out _).mono ?_
        rintro e w1 ⟨rfl, rfl⟩
        go_wp2
        go_ret2
        exact ⟨by show Ending.returned (.tuple #[.int .i64 (wrap64 (a + b)), .bool true]) = _; rw [HW.out], rfl⟩
theorem up_small {n : Int} (h1 : n ≤ 9223372036854775807) (h : upE n = true) : lnA n < 32768 ∧ lnB n < 32768 ∧ lnC n < 32768 ∧ lnD n < 32768 ∧ n = (ln (lnA n) (lnB n) (lnC n) (lnD n) : Nat) := by
  unfold upE smE at h
  simp only [Bool.and_eq_true, decide_eq_true_eq] at h
  obtain ⟨a0, ⟨⟨⟨a1, a2⟩, a3⟩, a4⟩⟩ := h
  exact ⟨a1, a2, a3, a4, ln_of a0 (by omega)⟩
set_option maxRecDepth 100000 in
set_option maxHeartbeats 1000000 in
theorem impl_cliplanes_in (a b c d : Nat) (ha : a < 32768) (hb : b < 32768) (hc : c < 32768) (hd : d < 32768) (PK : Hid (∀ w, Calls Try.prog 32 #[.int .i64 (ln a b c d : Nat)] w fun e w' => e = .returned (.bool true) ∧ w = w')) (w : World) :
    Calls Try.prog 19 #[.int .i64 (ln a b c d : Nat)] w fun e w' => e = .returned (.int .i64 (ln (clN a) (clN b) (clN c) (clN d) : Nat)) ∧ w' = w := by
  have l0 : ∀ x, x < 32768 → x - 1024 < 32768 := fun x h => by omega
  have N0 : ln a b c d < 9223372036854775808 := ln_small (by omega) (by omega) (by omega) hd
  have F1 : bits .or .u64 ((ln a b c d : Nat) : Int) 9223512776490647552 = (ln (a + 32768) (b + 32768) (c + 32768) (d + 32768) : Nat) := by
    rw [show (9223512776490647552 : Int) = ((9223512776490647552 : Nat) : Int) from rfl, u64_or_nat _ _ (by omega) (by decide), tops_eq, ln_or (by omega) (by omega) (by omega) (by decide) (by decide) (by decide), or_top ha, or_top hb, or_top hc, or_top hd]
  have N1 : ln (a + 32768) (b + 32768) (c + 32768) (d + 32768) < 18446744073709551616 := ln_lt (by omega) (by omega) (by omega) (by omega)
  have F2 : ((ln (a + 32768) (b + 32768) (c + 32768) (d + 32768) : Nat) : Int) - 288234774265332736 = (ln (a + 31744) (b + 31744) (c + 31744) (d + 31744) : Nat) := by unfold ln; omega
  have N2 : ln (a + 31744) (b + 31744) (c + 31744) (d + 31744) < 18446744073709551616 := ln_lt (by omega) (by omega) (by omega) (by omega)
  have C1 := Lib.hid (impl_filled_any (a + 31744) (b + 31744) (c + 31744) (d + 31744) (by omega) (by omega) (by omega) (by omega))
  have f1 := fun x => fl_le (x + 31744)
  have N3 : ln (fl (a + 31744)) (fl (b + 31744)) (fl (c + 31744)) (fl (d + 31744)) < 18446744073709551616 := ln_lt (by have := f1 a; omega) (by have := f1 b; omega) (by have := f1 c; omega) (by have := f1 d; omega)
  have F3 : bits .and .u64 ((ln (a + 31744) (b + 31744) (c + 31744) (d + 31744) : Nat) : Int) ((ln (fl (a + 31744)) (fl (b + 31744)) (fl (c + 31744)) (fl (d + 31744)) : Nat) : Int) = (ln (lo1 a) (lo1 b) (lo1 c) (lo1 d) : Nat) := by
    rw [u64_and_nat _ _ N2 N3, ln_and (by omega) (by omega) (by omega) (by have := f1 a; omega) (by have := f1 b; omega) (by have := f1 c; omega), lane_lowered ha, lane_lowered hb, lane_lowered hc, lane_lowered hd]
  have m : ∀ x, x < 32768 → lo1 x < 31744 := fun x h => by unfold lo1; omega
  have ma := m a ha; have mb := m b hb; have mc := m c hc; have md := m d hd
  have N4 : ln (lo1 a) (lo1 b) (lo1 c) (lo1 d) < 9000000000000000000 := by unfold ln; omega
  have F4 : ((ln (lo1 a) (lo1 b) (lo1 c) (lo1 d) : Nat) : Int) + 9151454082924314368 = (ln (lo1 a + 32512) (lo1 b + 32512) (lo1 c + 32512) (lo1 d + 32512) : Nat) := by unfold ln; omega
  have N5 : ln (lo1 a + 32512) (lo1 b + 32512) (lo1 c + 32512) (lo1 d + 32512) < 18446744073709551616 := ln_lt (by omega) (by omega) (by omega) (by omega)
  have C2 := Lib.hid (impl_filled_any (lo1 a + 32512) (lo1 b + 32512) (lo1 c + 32512) (lo1 d + 32512) (by omega) (by omega) (by omega) (by omega))
  have f2 := fun x => fl_le (lo1 x + 32512)
  have N6 : ln (fl (lo1 a + 32512)) (fl (lo1 b + 32512)) (fl (lo1 c + 32512)) (fl (lo1 d + 32512)) < 18446744073709551616 := ln_lt (by have := f2 a; omega) (by have := f2 b; omega) (by have := f2 c; omega) (by have := f2 d; omega)
  have o := fun x (h : x < 32768) => or_zero_lt (m := lo1 x) (by have := m x h; omega)
  have F5 : bits .or .u64 ((ln (lo1 a) (lo1 b) (lo1 c) (lo1 d) : Nat) : Int) ((ln (fl (lo1 a + 32512)) (fl (lo1 b + 32512)) (fl (lo1 c + 32512)) (fl (lo1 d + 32512)) : Nat) : Int) = (ln (lo1 a ||| fl (lo1 a + 32512)) (lo1 b ||| fl (lo1 b + 32512)) (lo1 c ||| fl (lo1 c + 32512)) (lo1 d ||| fl (lo1 d + 32512)) : Nat) := by
    rw [u64_or_nat _ _ (by omega) N6, ln_or (by omega) (by omega) (by omega) (by have := f2 a; omega) (by have := f2 b; omega) (by have := f2 c; omega)]
  have N7 : ln (lo1 a ||| fl (lo1 a + 32512)) (lo1 b ||| fl (lo1 b + 32512)) (lo1 c ||| fl (lo1 c + 32512)) (lo1 d ||| fl (lo1 d + 32512)) < 18446744073709551616 := ln_lt (o a ha) (o b hb) (o c hc) (o d hd)
  have F6 : bits .and .u64 ((ln (lo1 a ||| fl (lo1 a + 32512)) (lo1 b ||| fl (lo1 b + 32512)) (lo1 c ||| fl (lo1 c + 32512)) (lo1 d ||| fl (lo1 d + 32512)) : Nat) : Int) 71777214294589695 = (ln (clN a) (clN b) (clN c) (clN d) : Nat) := by
    rw [show (71777214294589695 : Int) = ((71777214294589695 : Nat) : Int) from rfl, u64_and_nat _ _ N7 (by decide), show (71777214294589695 : Nat) = ln 255 255 255 255 from rfl, ln_and (o a ha) (o b hb) (o c hc) (by decide) (by decide) (by decide), lane_raised (by omega), lane_raised (by omega), lane_raised (by omega), lane_raised (by omega)]
    rfl
  have q := fun x => clN_le x
  have N8 : ln (clN a) (clN b) (clN c) (clN d) < 9223372036854775808 := ln_small (by have := q a; omega) (by have := q b; omega) (by have := q c; omega) (by have := q d; omega)
  obtain ⟨X0, hX0⟩ : ∃ X, X = ln a b c d := ⟨_, rfl⟩
  obtain ⟨X1, hX1⟩ : ∃ X, X = ln (a + 32768) (b + 32768) (c + 32768) (d + 32768) := ⟨_, rfl⟩
  obtain ⟨X2, hX2⟩ : ∃ X, X = ln (a + 31744) (b + 31744) (c + 31744) (d + 31744) := ⟨_, rfl⟩
  obtain ⟨X3, hX3⟩ : ∃ X, X = ln (fl (a + 31744)) (fl (b + 31744)) (fl (c + 31744)) (fl (d + 31744)) := ⟨_, rfl⟩
  obtain ⟨X4, hX4⟩ : ∃ X, X = ln (lo1 a) (lo1 b) (lo1 c) (lo1 d) := ⟨_, rfl⟩
  obtain ⟨X5, hX5⟩ : ∃ X, X = ln (lo1 a + 32512) (lo1 b + 32512) (lo1 c + 32512) (lo1 d + 32512) := ⟨_, rfl⟩
  obtain ⟨X6, hX6⟩ : ∃ X, X = ln (fl (lo1 a + 32512)) (fl (lo1 b + 32512)) (fl (lo1 c + 32512)) (fl (lo1 d + 32512)) := ⟨_, rfl⟩
  obtain ⟨X7, hX7⟩ : ∃ X, X = ln (lo1 a ||| fl (lo1 a + 32512)) (lo1 b ||| fl (lo1 b + 32512)) (lo1 c ||| fl (lo1 c + 32512)) (lo1 d ||| fl (lo1 d + 32512)) := ⟨_, rfl⟩
  obtain ⟨X8, hX8⟩ : ∃ X, X = ln (clN a) (clN b) (clN c) (clN d) := ⟨_, rfl⟩
  rw [← hX0] at PK F1 N0 ⊢
  rw [← hX1] at F1 N1 F2
  rw [← hX2] at F2 N2 C1 F3
  rw [← hX3] at C1 N3 F3
  rw [← hX4] at F3 N4 F4 F5
  rw [← hX5] at F4 N5 C2
  rw [← hX6] at C2 N6 F5
  rw [← hX7] at F5 N7 F6
  rw [← hX8] at F6 N8 ⊢
  clear l0 f1 m ma mb mc md f2 o q hX0 hX1 hX2 hX3 hX4 hX5 hX6 hX7 hX8 ha hb hc hd
  go_enter Try.func19, Try.ntmps19
  go_wp2_with fail
  refine (PK.out _).mono ?_
  rintro e w1 ⟨rfl, rfl⟩
  go_wp2_with fail
  refine (C1.out _).mono ?_
  rintro e w1 ⟨rfl, rfl⟩
  go_wp2_with fail
  refine (C2.out _).mono ?_
  rintro e w1 ⟨rfl, rfl⟩
  go_wp2
  go_ret
  exact ⟨by simp, rfl⟩
set_option maxRecDepth 100000 in
set_option maxHeartbeats 1000000 in
theorem impl_cliplanes_any (n : Int) (n0 : -9223372036854775808 ≤ n) (n1 : n ≤ 9223372036854775807) (w : World) :
    Calls Try.prog 19 #[.int .i64 n] w fun e w' => e = .returned (.int .i64 (clV n)) ∧ w' = w := by
  have PK := Lib.hid (impl_packedok_any n n0 n1)
  cases hn : upE n with
  | true =>
    obtain ⟨a1, a2, a3, a4, e⟩ := up_small n1 hn
    have ev : clV n = (ln (clN (lnA n)) (clN (lnB n)) (clN (lnC n)) (clN (lnD n)) : Nat) := by unfold clV; rw [if_pos hn]
    rw [ev]
    rw [hn] at PK
    generalize lnA n = a, lnB n = b, lnC n = c, lnD n = d at *
    subst e
    exact impl_cliplanes_in a b c d a1 a2 a3 a4 PK w
  | false =>
    have ev : clV n = 0 := by unfold clV; rw [hn]; rfl
    rw [ev]
    rw [hn] at PK
    clear ev hn
    go_enter Try.func19, Try.ntmps19
    go_wp2_with fail
    refine (PK.out _).mono ?_
    rintro e w1 ⟨rfl, rfl⟩
    go_wp2
    go_ret
    exact ⟨rfl, rfl⟩
end Go.Proofs.Ytbiffijjmhpkpaa
