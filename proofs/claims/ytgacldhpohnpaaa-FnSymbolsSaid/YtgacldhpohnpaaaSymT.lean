/-
  Contracts of SymBits and SymTable, in both texts. Condition: the list is no longer than 1048576 (the laws ask no more).
-/
import Derived.Test.YtgacldhpohnpaaaSymC
import Derived.Deep.RegionWith
namespace Go.Proofs.Ytgacldhpohnpaaa
open Go.RowKit
set_option linter.unusedVariables false

theorem OwnI.down {w : World} {base base' : Nat} {A : Option Addr} {cap : Nat} {l : List Int} (h : OwnI w base A cap l) (hb : base' ≤ base) : OwnI w base' A cap l := by
  refine ⟨h.1, ?_⟩
  rcases h.2 with h1 | ⟨g', cap', cur', q1, q2, q3⟩
  · exact .inl h1
  · exact .inr ⟨g', cap', cur', q1, Nat.le_trans hb q2, q3⟩

/-- What SymBits gives. -/
def symB (l : List Int) (m : Int) : List Int := if okC l = true ∧ 0 ≤ m ∧ m < 6 then inR ((codeL l).getD m.toNat 0) (lenC l m.toNat) else []
theorem symB_len (l : List Int) (m : Int) : (symB l m).length ≤ 48 := by
  unfold symB
  split
  · exact inR_len _ _
  · simp
theorem codeL_small {l : List Int} (h : okC l = true) (p : Nat) (hp : p < 6) : -1 ≤ (codeL l).getD p 0 ∧ (codeL l).getD p 0 < 128 := by
  have hr := lenC_range h p
  simp only [inC, Bool.and_eq_true, decide_eq_true_eq] at hr
  by_cases h0 : lenC l p = 0
  · rw [valid_none h p hp h0]; omega
  · obtain ⟨q, hq⟩ : ∃ q : Nat, lenC l p = (q : Int) + 1 := ⟨(lenC l p - 1).toNat, by omega⟩
    obtain ⟨_, k, h1, h2, _⟩ := valid_one h p q hp hq
    have := Nat.two_pow_pos (6 - q)
    have : (k + 1) * 1 ≤ (k + 1) * 2 ^ (6 - q) := Nat.mul_le_mul_left _ this
    rw [h1]
    omega

set_option maxRecDepth 100000 in
set_option maxHeartbeats 2000000 in
theorem impl_symbits_any (A : Option Addr) (ca : Nat) (l : List Int) (m : Int) (w : World) (hA : Ints w w.heap.size A l) :
    Calls Try.prog 30 #[.slice A l.length ca, .int .i64 m] w fun e w' => ∃ A' c, e = .returned (.slice A' (symB l m).length c) ∧ OwnI w' w.heap.size A' c (symB l m) ∧ Below w.heap.size w w' := by
  have IC := Lib.hid (impl_codesof_any A ca l w hA)
  by_cases h0 : m < 0
  · have hr : symB l m = [] := by unfold symB; rw [if_neg (by omega)]
    rw [hr]
    have hneg : decide (m < 0) = true := by simpa using h0
    clear hr
    go_enter Try.func30, Try.ntmps30
    go_wp2_with fail
    refine IC.out.mono ?_
    rintro e w1 ⟨A1, c1, rfl, ho1, hb1⟩
    have O := Lib.hid (own_none w1 w.heap.size)
    have B1 := Lib.hid hb1; clear ho1 hb1
    go_wp2
    go_ret
    exact ⟨none, 0, rfl, O.out, B1.out⟩
  · have hneg : decide (m < 0) = false := by simpa using h0
    by_cases hin : okC l = true ∧ m < 6
    · obtain ⟨hok, hm6⟩ := hin
      obtain ⟨p, rfl⟩ := Int.eq_ofNat_of_zero_le (show 0 ≤ m by omega)
      have hp : p < 6 := by omega
      have hr : symB l (p : Int) = inR ((codeL l).getD p 0) (lenC l p) := by unfold symB; rw [if_pos ⟨hok, by omega, hm6⟩, Int.toNat_natCast]
      have hcr : codesR l = codeL l := by unfold codesR; rw [hok]; rfl
      have hcl := codeL_len hok
      rw [hcr, hcl] at IC
      rw [hr]
      have hcs := codeL_small hok p hp
      have hl6 := (okC_parts hok).1
      obtain ⟨y, hy⟩ : ∃ y, y = (codeL l).getD p 0 := ⟨_, rfl⟩
      obtain ⟨x, hx⟩ : ∃ x, x = lenC l p := ⟨_, rfl⟩
      rw [← hy] at hcs
      rw [← hy, ← hx]
      have BI := Lib.hid (impl_bitsin_any y x (WalkArith.wf_i64 (by omega)))
      obtain ⟨b, off, rfl, hb, hc⟩ := hA.at p (by omega)
      have cl : w.cell? ⟨b, off + p, none⟩ = some (.int .i64 x) := by rw [hx]; exact hc p (by omega)
      have HY := Lib.hid hy
      have HCL := Lib.hid hcl
      clear hr hcr hcl hy hx hc hA hok hm6 hcs h0
      rw [hl6] at IC ⊢
      clear hl6
      go_enter Try.func30, Try.ntmps30
      go_wp2_with fail
      refine IC.out.mono ?_
      rintro e w1 ⟨A1, c1, rfl, ho1, hb1⟩
      have hR := ho1.ints (by rw [HCL.out]; omega)
      obtain ⟨b1, o1, rfl, hb1', hc1⟩ := hR.at p (by rw [HCL.out]; exact hp)
      have cc := hc1 p (by rw [HCL.out]; exact hp)
      rw [← HY.out] at cc
      rw [← hb1.cell (p := ⟨b, off + p, none⟩) hb] at cl
      have B1 := Lib.hid hb1
      clear hc1 hR ho1 hb1
      go_wp2
      go_region_with (go_at_call 84; (with_reducible refine (BI.out _).mono ?_); rintro e w3 ⟨A3, c3, rfl, ho3, hb3⟩; have O3 := Lib.hid ho3; have B3 := Lib.hid hb3; clear ho3 hb3)
      all_goals
        go_wp2
        go_ret
        exact ⟨_, _, rfl, O3.out.down B1.out.size, below_up B1.out.drew B3.out B1.out.size⟩
    · have hr : symB l m = [] := by unfold symB; rw [if_neg (fun h => hin ⟨h.1, h.2.2⟩)]
      rw [hr]
      have hge : decide (((codesR l).length : Int) ≤ m) = true := by
        unfold codesR
        by_cases hok : okC l = true
        · have h6 : ¬ m < 6 := fun h => hin ⟨hok, h⟩
          rw [if_pos hok, codeL_len hok]; simp; omega
        · rw [if_neg hok]; simp; omega
      clear hr hin h0
      go_enter Try.func30, Try.ntmps30
      go_wp2_with fail
      refine IC.out.mono ?_
      rintro e w1 ⟨A1, c1, rfl, ho1, hb1⟩
      have O := Lib.hid (own_none w1 w.heap.size)
      have B1 := Lib.hid hb1; clear ho1 hb1
      go_wp2
      go_ret
      exact ⟨none, 0, rfl, O.out, B1.out⟩

set_option maxRecDepth 100000 in
set_option maxHeartbeats 2000000 in
theorem spec_symbits_any (A : Option Addr) (ca : Nat) (l : List Int) (m : Int) (hll : l.length ≤ 1048576) (w : World) (hA : Ints w w.heap.size A l) :
    Calls Try.prog 53 #[.slice A l.length ca, .int .i64 m] w fun e w' => ∃ A' c, e = .returned (.slice A' (symB l m).length c) ∧ OwnI w' w.heap.size A' c (symB l m) ∧ Below w.heap.size w w' := by
  have CO := Lib.hid (spec_codeok_any A ca l hll w hA)
  have O0 := Lib.hid (own_ints w w.heap.size [] (Nat.le_refl _) (by simp))
  have B0 := Lib.hid ((Below.refl w.heap.size w).alloc (Nat.le_refl _) (.cells (ivs []).toArray 3))
  have L1 := Lib.hid (l1in_v m 0 5)
  cases hok : okC l with
  | false =>
    rw [hok] at CO
    have hr : symB l m = [] := by unfold symB; rw [if_neg (by simp [hok])]
    rw [hr]
    clear hr hok hA hll
    go_enter Try.func53, Try.ntmps53
    go_wp2_with fail
    refine CO.out.mono ?_
    rintro e w1 ⟨rfl, hw⟩
    subst hw
    go_wp2
    go_ret
    exact ⟨_, _, rfl, O0.out, B0.out⟩
  | true =>
    rw [hok] at CO
    by_cases hm : 0 ≤ m ∧ m ≤ 5
    · rw [decide_eq_true hm.1, decide_eq_true hm.2] at L1
      obtain ⟨p, rfl⟩ := Int.eq_ofNat_of_zero_le hm.1
      have hp : p < 6 := by omega
      have hr : symB l (p : Int) = inR ((codeL l).getD p 0) (lenC l p) := by unfold symB; rw [if_pos ⟨hok, by omega, by omega⟩, Int.toNat_natCast]
      have hcr : codesR l = codeL l := by unfold codesR; rw [hok]; rfl
      have hcl := codeL_len hok
      have SC := Lib.hid (fun w hA => spec_codesof_any A ca l hll w hA)
      rw [hcr, hcl] at SC
      have hcs := codeL_small hok p hp
      have hl6 := (okC_parts hok).1
      have hn := valid_none hok p hp
      obtain ⟨y, hy⟩ : ∃ y, y = (codeL l).getD p 0 := ⟨_, rfl⟩
      obtain ⟨x, hx⟩ : ∃ x, x = lenC l p := ⟨_, rfl⟩
      rw [← hy] at hcs
      rw [← hx, ← hy] at hn
      rw [hr, ← hy, ← hx]
      have BI := Lib.hid (spec_bitsin_any y x (WalkArith.wf_i64 (by omega)))
      have HA := Lib.hid hA
      obtain ⟨b, off, rfl, hb, hc⟩ := hA.at p (by omega)
      have cl : w.cell? ⟨b, off + p, none⟩ = some (.int .i64 x) := by rw [hx]; exact hc p (by omega)
      have HY := Lib.hid hy
      have HCL := Lib.hid hcl
      clear hr hcr hcl hy hx hc hA hok hcs hm
      rw [hl6] at CO SC ⊢
      clear hl6
      by_cases hx0 : x = 0
      · subst hx0
        have hy := hn rfl
        have he : inR y 0 = [] := by rw [hy]; rfl
        rw [he]
        clear he hn hy
        go_enter Try.func53, Try.ntmps53
        go_wp2_with fail
        refine CO.out.mono ?_
        rintro e w1 ⟨rfl, hw⟩
        subst hw
        go_wp2_with fail
        refine (L1.out _).mono ?_
        rintro e w1 ⟨rfl, hw⟩
        subst hw
        go_wp2
        go_ret
        exact ⟨_, _, rfl, O0.out, B0.out⟩
      · have hq : (x == 0) = false := by rw [beq_eq_false_iff_ne]; exact hx0
        have HX0 := Lib.hid hx0; clear hx0 hn
        go_enter Try.func53, Try.ntmps53
        go_wp2_with fail
        refine CO.out.mono ?_
        rintro e w1 ⟨rfl, hw⟩
        subst hw
        go_wp2_with fail
        refine (L1.out _).mono ?_
        rintro e w1 ⟨rfl, hw⟩
        subst hw
        have HCE := Lib.hid cl
        have HAD : Hid (Ints w.drew w.drew.heap.size (some ⟨b, off, none⟩) l) := Lib.hid (HA.out.below (Below.refl w.heap.size w).drew (Nat.le_refl _))
        go_wp2
        go_region_with (first | (go_at_call 47; (with_reducible refine (SC.out _ HAD.out).mono ?_); rintro e w2 ⟨A2, c2, rfl, ho2, hb2⟩; have hR := ho2.ints (by rw [HCL.out]; omega); obtain ⟨b1, o1, rfl, hb1', hc1⟩ := hR.at p (by rw [HCL.out]; exact hp); have cc := hc1 p (by rw [HCL.out]; exact hp); rw [← HY.out] at cc; have cl2 := (hb2.cell (p := ⟨b, off + p, none⟩) hb).trans HCE.out; have B2 := Lib.hid hb2; clear hc1 hR ho2 hb2) | (go_at_call 90; (with_reducible refine (BI.out _).mono ?_); rintro e w3 ⟨A3, c3, rfl, ho3, hb3⟩; have O3 := Lib.hid ho3; have B3 := Lib.hid hb3; clear ho3 hb3) | fail)
        all_goals
          go_wp2
          go_ret
          exact ⟨_, _, rfl, O3.out.down B2.out.size, below_up ((Below.refl _ _).drew.trans B2.out) B3.out B2.out.size⟩
    · have hr : symB l m = [] := by unfold symB; rw [if_neg (by omega)]
      have hL : (decide (0 ≤ m) && decide (m ≤ 5)) = false := by
        rw [Bool.and_eq_false_iff, decide_eq_false_iff_not, decide_eq_false_iff_not]; omega
      rw [hL] at L1
      rw [hr]
      clear hr hok hA hll hL hm
      go_enter Try.func53, Try.ntmps53
      go_wp2_with fail
      refine CO.out.mono ?_
      rintro e w1 ⟨rfl, hw⟩
      subst hw
      go_wp2_with fail
      refine (L1.out _).mono ?_
      rintro e w1 ⟨rfl, hw⟩
      subst hw
      go_wp2
      go_ret
      exact ⟨_, _, rfl, O0.out, B0.out⟩
end Go.Proofs.Ytgacldhpohnpaaa
