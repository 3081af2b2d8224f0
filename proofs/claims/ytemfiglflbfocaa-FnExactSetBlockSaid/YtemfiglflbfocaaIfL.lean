/-
  The exact laws' walks of chapter 18, by the contracts of the two texts. No condition.
-/
import Derived.Test.YtemfiglflbfocaaTrG
import Derived.Test.YtemfiglflbfocaaGen
import Derived.Test.YtemfiglflbfocaaRsF
import Derived.Test.YtemfiglflbfocaaFrK
import Derived.Test.YtemfiglflbfocaaFrS
import Derived.Test.YtemfiglflbfocaaFrC
import Derived.Test.YtemfiglflbfocaaFrD
import Derived.Test.YtemfiglflbfocaaIfC
import Derived.Test.YtemfiglflbfocaaIfD
namespace Go.Proofs.Ytemfiglflbfocaa
open Go.RowKit
set_option linter.unusedVariables false

theorem spec_sidesok_b (a b : Int) (w : World) : Calls Try.prog 27 #[.int .i64 a, .int .i64 b] w fun e w' => e = .returned (.bool (sidesE a b)) ∧ Below w.heap.size w w' := (spec_sidesok_any a b w).mono (by rintro e w' ⟨h, rfl⟩; exact ⟨h, Below.refl _ _⟩)
theorem impl_sidesok_b (a b : Int) (w : World) : Calls Try.prog 28 #[.int .i64 a, .int .i64 b] w fun e w' => e = .returned (.bool (sidesE a b)) ∧ Below w.heap.size w w' := (impl_sidesok_any a b w).mono (by rintro e w' ⟨h, rfl⟩; exact ⟨h, Below.refl _ _⟩)
theorem blkL_len (a b : Int) (l : List Int) (x y n : Int) : (blkL a b l x y n).length ≤ 64 := by
  unfold blkL
  split
  · rename_i h
    simp only [inE, Bool.and_eq_true] at h
    rw [blkF_len]
    rcases okN_cases h.1.1.1.1.2 with rfl | rfl <;> decide
  · decide
set_option maxRecDepth 100000 in
set_option maxHeartbeats 8000000 in
/-- The law's own walk, by contracts of the two texts. -/
theorem fnExactSidesOk_walk (x : Int) (y : Int) (wf_x : (Lit.int .i64 x).wf = true) (wf_y : (Lit.int .i64 y).wf = true) (w : World) :
    Calls Try.prog 5 #[.int .i64 x, .int .i64 y] w fun e w' => e = .returned (.bool true) ∧ Below w.heap.size w w' := by
  have ENT := Lib.hid (Below.refl w.heap.size w)
  have SP := Lib.hid (fun (w : World) => spec_sidesok_b x y w)
  have IM := Lib.hid (fun (w : World) => impl_sidesok_b x y w)
  obtain ⟨r0, hr0⟩ : ∃ r, r = sidesE x y := ⟨_, rfl⟩
  rw [← hr0] at SP IM
  clear hr0
  have hqr0 : (r0 != r0) = false := by simp
  go_enter Try.func5, Try.ntmps5
  go_wp2_with fail
  refine (SP.out  _ ).mono ?_
  rintro e w1 ⟨rfl, hb⟩
  have hbc := hb
  have C_0_1 : Hid (Wrote w w1 []) := Lib.hid (Wrote.of_below [] hbc)
  have Z_1 : Hid (w.heap.size ≤ w1.heap.size) := Lib.hid hb.size
  clear hb
  go_wp2_with fail
  refine (IM.out  _ ).mono ?_
  rintro e w2 ⟨rfl, hb⟩
  have hbc := hb
  have C_0_2 := Lib.hid (C_0_1.out.trans (Wrote.of_below _ hbc))
  have Z_2 : Hid (w1.heap.size ≤ w2.heap.size) := Lib.hid hb.size
  clear C_0_1 hb
  go_wp2
  go_ret
  exact ⟨rfl, C_0_2.out.os, C_0_2.out.tape, C_0_2.out.output, C_0_2.out.size, fun k hk => C_0_2.out.block k hk (by simp)⟩
set_option maxRecDepth 100000 in
set_option maxHeartbeats 8000000 in
/-- The law's own walk, by contracts of the two texts. -/
theorem fnExactFrameOk_walk (f0 : Int) (f1 : Int) (a_f : Option Addr) (len_f cap_f : Nat) (zs_f : List Int) (wf_f0 : (Lit.int .i64 f0).wf = true) (wf_f1 : (Lit.int .i64 f1).wf = true) (w : World) (hr_f : IsRow .i64 w a_f len_f cap_f zs_f) :
    Calls Try.prog 6 #[.agg #[.int .i64 f0, .int .i64 f1, .slice a_f len_f cap_f]] w fun e w' => e = .returned (.bool true) ∧ Below w.heap.size w w' := by
  have hlm_f := hr_f.len_le
  unfold maxLen at hlm_f
  have SZ_f := Lib.hid fun wz (hz : Below w.heap.size w wz) => szframe_any a_f len_f cap_f f0 f1 (1048576) (by omega) (by omega) (by omega) wz
  by_cases hbig_f : 1048576 < ((len_f : Nat) : Int)
  · rw [if_pos hbig_f] at SZ_f
    have ENT := Lib.hid (below_new w (.cells #[.int .i64 f0, .int .i64 f1, .slice a_f len_f cap_f] 44))
    go_enter Try.func6, Try.ntmps6
    go_wp2_with fail
    refine (SZ_f.out _ ENT.out).mono ?_
    rintro e w1 ⟨rfl, hb1⟩
    have BZ1 := Lib.hid (below_up ENT.out hb1 ENT.out.size)
    clear hb1
    go_wp2
    go_ret
    exact ⟨rfl, BZ1.out⟩
  · rw [if_neg hbig_f] at SZ_f
    have hqz_f : decide (1048576 - ((len_f : Nat) : Int) < 0) = false := by simp; omega
    obtain ⟨l_f, rfl, hI_f, _, hcap_f⟩ := ints_of hr_f (by omega)
    have hll_f : l_f.length ≤ 1048576 := by omega
    have R_f := Lib.hid hI_f; clear hI_f hr_f
    have ENT := Lib.hid (below_new w (.cells #[.int .i64 f0, .int .i64 f1, .slice a_f l_f.length cap_f] 44))
    have SP := Lib.hid (fun (Af : Option Addr) (cf : Nat) (w : World) (hf : Ints w w.heap.size Af l_f) (hcf : l_f.length ≤ cf) (hpf : Placed Af cf) => spec_frameok_any f0 f1 Af cf l_f w hf)
    have IM := Lib.hid (fun (Af : Option Addr) (cf : Nat) (w : World) (hf : Ints w w.heap.size Af l_f) (hcf : l_f.length ≤ cf) (hpf : Placed Af cf) => impl_frameok_any f0 f1 Af cf l_f w hf)
    obtain ⟨r0, hr0⟩ : ∃ r, r = frameE f0 f1 l_f := ⟨_, rfl⟩
    rw [← hr0] at SP IM
    clear hr0
    have hqr0 : (r0 != r0) = false := by simp
    clear hbig_f hlm_f
    go_enter Try.func6, Try.ntmps6
    go_wp2_with fail
    refine (SZ_f.out _ ENT.out).mono ?_
    rintro e w1 ⟨rfl, hb⟩
    have hbc := below_up ENT.out hb (ENT.out).size
    have C_0_1 : Hid (Wrote w w1 []) := Lib.hid (Wrote.of_below [] hbc)
    have HPf := Lib.hid (cell_kept (heap_alloc_new w (.cells #[.int .i64 f0, .int .i64 f1, .slice a_f l_f.length cap_f] 44)) hb)
    have Z_1 : Hid (w.heap.size + 1 ≤ w1.heap.size) := Lib.hid (by have := hb.size; simp only [World.size_alloc] at this; exact this)
    clear hbc hb
    have kkPf := HPf.out
    obtain ⟨kPf_0, kPf_1, kPf_2⟩ := cellsn3 kkPf
    go_wp2_with fail
    refine (toframe_any a_f cap_f l_f f0 f1 hll_f _ ((R_f.out.kept (fun k hk => C_0_1.out.block k hk (by simp))).mono C_0_1.out.size)).mono ?_
    rintro e w2 ⟨Afs, cfs, rfl, hofs, hb⟩
    have hbc := hb
    have C_0_2 := Lib.hid (C_0_1.out.trans (Wrote.of_below _ hbc))
    have C_1_2 : Hid (Wrote w1 w2 []) := Lib.hid (Wrote.of_below [] hbc)
    have Z_2 : Hid (w1.heap.size ≤ w2.heap.size) := Lib.hid hb.size
    clear kPf_0 kPf_1 kPf_2 kkPf C_0_1 hb
    have Xfs := Lib.hid hofs; have BKXfs := Lib.hid (hofs.fp); clear hofs
    have kkPf := (C_1_2.out.heap HPf.out (by simp))
    obtain ⟨kPf_0, kPf_1, kPf_2⟩ := cellsn3 kkPf
    go_wp2_with fail
    refine (SP.out Afs cfs _ (OwnI.ints Xfs.out (by omega)) (OwnI.cap_le Xfs.out) (OwnI.placed Xfs.out)).mono ?_
    rintro e w3 ⟨rfl, hb⟩
    have hbc := hb
    have C_0_3 := Lib.hid (C_0_2.out.trans (Wrote.of_below _ hbc))
    have C_1_3 := Lib.hid (C_1_2.out.trans (Wrote.of_below _ hbc))
    have C_2_3 : Hid (Wrote w2 w3 []) := Lib.hid (Wrote.of_below [] hbc)
    have Z_3 : Hid (w2.heap.size ≤ w3.heap.size) := Lib.hid hb.size
    clear kPf_0 kPf_1 kPf_2 kkPf C_0_2 C_1_2 hb
    clear Xfs
    have kkPf := (C_1_3.out.heap HPf.out (by simp))
    obtain ⟨kPf_0, kPf_1, kPf_2⟩ := cellsn3 kkPf
    go_wp2_with fail
    refine (toframe_any a_f cap_f l_f f0 f1 hll_f _ ((R_f.out.kept (fun k hk => C_0_3.out.block k hk (by simp))).mono C_0_3.out.size)).mono ?_
    rintro e w4 ⟨Af, cf, rfl, hof, hb⟩
    have hbc := hb
    have C_0_4 := Lib.hid (C_0_3.out.trans (Wrote.of_below _ hbc))
    have C_1_4 := Lib.hid (C_1_3.out.trans (Wrote.of_below _ hbc))
    have Z_4 : Hid (w3.heap.size ≤ w4.heap.size) := Lib.hid hb.size
    clear kPf_0 kPf_1 kPf_2 kkPf C_0_3 C_1_3 hb
    have Xf := Lib.hid hof; have BKXf := Lib.hid (hof.fp); clear hof
    have kkPf := (C_1_4.out.heap HPf.out (by simp))
    obtain ⟨kPf_0, kPf_1, kPf_2⟩ := cellsn3 kkPf
    have qPf := heap_lt kkPf
    go_wp2_with fail
    refine (IM.out Af cf _ (OwnI.ints (Xf.out.same (fun k hk => (Wrote.of_below [] (below_new w4 (.cells #[.int .i64 f0, .int .i64 f1, .slice Af l_f.length cf] 26))).block k (Xf.out.fp k hk).2 (by simp))) (by omega)) (OwnI.cap_le (Xf.out.same (fun k hk => (Wrote.of_below [] (below_new w4 (.cells #[.int .i64 f0, .int .i64 f1, .slice Af l_f.length cf] 26))).block k (Xf.out.fp k hk).2 (by simp)))) (OwnI.placed (Xf.out.same (fun k hk => (Wrote.of_below [] (below_new w4 (.cells #[.int .i64 f0, .int .i64 f1, .slice Af l_f.length cf] 26))).block k (Xf.out.fp k hk).2 (by simp))))).mono ?_
    rintro e w5 ⟨rfl, hb⟩
    have hbc := below_up (below_new w4 (.cells #[.int .i64 f0, .int .i64 f1, .slice Af l_f.length cf] 26)) hb ((below_new w4 (.cells #[.int .i64 f0, .int .i64 f1, .slice Af l_f.length cf] 26))).size
    have C_0_5 := Lib.hid (C_0_4.out.trans (Wrote.of_below _ hbc))
    have C_1_5 := Lib.hid (C_1_4.out.trans (Wrote.of_below _ hbc))
    have C_4_5 : Hid (Wrote w4 w5 []) := Lib.hid (Wrote.of_below [] hbc)
    have HXf := Lib.hid (cell_kept (heap_alloc_new w4 (.cells #[.int .i64 f0, .int .i64 f1, .slice Af l_f.length cf] 26)) hb)
    have Z_5 : Hid (w4.heap.size + 1 ≤ w5.heap.size) := Lib.hid (by have := hb.size; simp only [World.size_alloc] at this; exact this)
    clear kPf_0 kPf_1 kPf_2 kkPf qPf C_0_4 C_1_4 hbc hb
    have kkPf := (C_1_5.out.heap HPf.out (by simp))
    obtain ⟨kPf_0, kPf_1, kPf_2⟩ := cellsn3 kkPf
    have kkXf := HXf.out
    obtain ⟨kXf_0, kXf_1, kXf_2⟩ := cellsn3 kkXf
    have hS : w5.cell? ⟨w.heap.size, 0, none⟩ = some (.int .i64 f0) ∧ w5.cell? ⟨w.heap.size, 1, none⟩ = some (.int .i64 f1) ∧ w5.cell? ⟨w.heap.size, 2, none⟩ = some (.slice a_f l_f.length cap_f) ∧ w5.cell? ⟨w4.heap.size, 0, none⟩ = some (.int .i64 f0) ∧ w5.cell? ⟨w4.heap.size, 1, none⟩ = some (.int .i64 f1) ∧ w5.cell? ⟨w4.heap.size, 2, none⟩ = some (.slice Af l_f.length cf) ∧ Below w5.heap.size w5 w5 ∧ w5.heap.size ≤ w5.heap.size := ⟨kPf_0, kPf_1, kPf_2, kXf_0, kXf_1, kXf_2, Below.refl _ _, Nat.le_refl _⟩
    have OX := Lib.hid (Xf.out.same (fun k hk => C_4_5.out.block k (Xf.out.fp k hk).2 (by simp)))
    have RV0 := Lib.hid ((R_f.out.kept (fun k hk => C_0_5.out.block k hk (by simp))).mono C_0_5.out.size)
    have TOS := Lib.hid fun wr (h : Below w5.heap.size w5 wr) => toframe_any a_f cap_f l_f f0 f1 hll_f wr ((RV0.out.below h (Nat.le_refl _)).mono h.size)
    have EQS := Lib.hid fun (Aft : Option Addr) (cft : Nat) (b : Nat) wr (h : Below w5.heap.size w5 wr) (ho : OwnI wr (b) Aft cft l_f) => eqframe_same Af Aft cf cft l_f f0 f1 wr (OwnI.ints (OX.out.same (fun k hk => h.block k (OX.out.fp k hk).2)) (by omega)) (OwnI.ints ho (by omega))
    clear kPf_0 kPf_1 kPf_2 kkPf kXf_0 kXf_1 kXf_2 kkXf
    go_wp2_with fail
    go_region_held3 (fun w' => w'.cell? ⟨w.heap.size, 0, none⟩ = some (.int .i64 f0) ∧ w'.cell? ⟨w.heap.size, 1, none⟩ = some (.int .i64 f1) ∧ w'.cell? ⟨w.heap.size, 2, none⟩ = some (.slice a_f l_f.length cap_f) ∧ w'.cell? ⟨w4.heap.size, 0, none⟩ = some (.int .i64 f0) ∧ w'.cell? ⟨w4.heap.size, 1, none⟩ = some (.int .i64 f1) ∧ w'.cell? ⟨w4.heap.size, 2, none⟩ = some (.slice Af l_f.length cf) ∧ Below w5.heap.size w5 w' ∧ w5.heap.size ≤ w'.heap.size)
      (first | with_reducible assumption | (with_reducible refine heldx6_drew ?_; with_reducible assumption) | (with_reducible refine heldx6 ?_ (by with_reducible assumption); with_reducible assumption))
      (first
        | (go_at_call 31; (with_reducible refine (TOS.out _ (heldx6_below (by with_reducible assumption))).mono ?_); rintro e wt ⟨Aft, cft, rfl, ho', hb'⟩)
        | (go_at_call 32; (with_reducible refine (EQS.out _ _ _ _ (heldx6_below (by with_reducible assumption)) (by first | with_reducible assumption | (with_reducible refine World.ownsRow.drew ?_; with_reducible assumption))).mono ?_); rintro e w6 ⟨rfl, hbt⟩))
    all_goals
      have hb : Below w5.heap.size w5 w6 := heldx6_below (by with_reducible assumption)
      have hbc := hb
      have C_0_6 := Lib.hid (C_0_5.out.trans (Wrote.of_below _ hbc))
      have C_1_6 := Lib.hid (C_1_5.out.trans (Wrote.of_below _ hbc))
      have C_4_6 := Lib.hid (C_4_5.out.trans (Wrote.of_below _ hbc))
      have C_5_6 : Hid (Wrote w5 w6 []) := Lib.hid (Wrote.of_below [] hbc)
      have Z_6 : Hid (w5.heap.size ≤ w6.heap.size) := Lib.hid hb.size
      clear C_0_5 C_1_5 C_4_5 hb
      clear TOS EQS OX RV0
      go_wp2
      go_ret
      exact ⟨rfl, C_0_6.out.os, C_0_6.out.tape, C_0_6.out.output, C_0_6.out.size, fun k hk => C_0_6.out.block k hk (by simp)⟩
set_option maxRecDepth 100000 in
set_option maxHeartbeats 8000000 in
/-- The law's own walk, by contracts of the two texts. -/
theorem fnExactFrameNew_walk (x : Int) (y : Int) (wf_x : (Lit.int .i64 x).wf = true) (wf_y : (Lit.int .i64 y).wf = true) (w : World) :
    Calls Try.prog 7 #[.int .i64 x, .int .i64 y] w fun e w' => e = .returned (.bool true) ∧ Below w.heap.size w w' := by
  have ENT := Lib.hid (Below.refl w.heap.size w)
  have SP := Lib.hid (fun (w : World) => spec_framenew_any x y w)
  have IM := Lib.hid (fun (w : World) => impl_framenew_any x y w)
  have hll_r0 : (newL x y).length ≤ 1048576 := Nat.le_trans (newL_len x y) (by decide)
  obtain ⟨l_r0, hl_r0⟩ : ∃ r, r = newL x y := ⟨_, rfl⟩
  rw [← hl_r0] at SP IM hll_r0
  clear hl_r0
  obtain ⟨r00, hr00⟩ : ∃ r, r = newW x y := ⟨_, rfl⟩
  rw [← hr00] at SP IM
  clear hr00
  obtain ⟨r01, hr01⟩ : ∃ r, r = newH x y := ⟨_, rfl⟩
  rw [← hr01] at SP IM
  clear hr01
  go_enter Try.func7, Try.ntmps7
  go_wp2_with fail
  refine (SP.out  _ ).mono ?_
  rintro e w1 ⟨AYr0, cYr0, rfl, hoYr0, hb⟩
  have hbc := hb
  have C_0_1 : Hid (Wrote w w1 []) := Lib.hid (Wrote.of_below [] hbc)
  have Z_1 : Hid (w.heap.size ≤ w1.heap.size) := Lib.hid hb.size
  clear hb
  have Yr0 := Lib.hid hoYr0; have BKYr0 := Lib.hid (hoYr0.fp); clear hoYr0
  go_wp2_with fail
  refine (IM.out  _ ).mono ?_
  rintro e w2 ⟨AGr0, cGr0, rfl, hoGr0, hb⟩
  have hbc := below_up (below_new w1 (.cells #[.int .i64 r00, .int .i64 r01, .slice AYr0 l_r0.length cYr0] 26)) hb ((below_new w1 (.cells #[.int .i64 r00, .int .i64 r01, .slice AYr0 l_r0.length cYr0] 26))).size
  have C_0_2 := Lib.hid (C_0_1.out.trans (Wrote.of_below _ hbc))
  have C_1_2 : Hid (Wrote w1 w2 []) := Lib.hid (Wrote.of_below [] hbc)
  have HBYr0 := Lib.hid (cell_kept (heap_alloc_new w1 (.cells #[.int .i64 r00, .int .i64 r01, .slice AYr0 l_r0.length cYr0] 26)) hb)
  have Z_2 : Hid (w1.heap.size + 1 ≤ w2.heap.size) := Lib.hid (by have := hb.size; simp only [World.size_alloc] at this; exact this)
  clear C_0_1 hbc hb
  simp only [World.size_alloc] at hoGr0
  have Gr0 := Lib.hid hoGr0; have BKGr0 := Lib.hid (hoGr0.fp); clear hoGr0
  have kkBYr0 := HBYr0.out
  obtain ⟨kBYr0_0, kBYr0_1, kBYr0_2⟩ := cellsn3 kkBYr0
  have qBYr0 := heap_lt kkBYr0
  go_wp2_with fail
  refine (eqframe_same AGr0 AYr0 cGr0 cYr0 l_r0 r00 r01 _ (OwnI.ints (Gr0.out.same (fun k hk => (Wrote.of_below [] (below_new w2 (.cells #[.int .i64 r00, .int .i64 r01, .slice AGr0 l_r0.length cGr0] 26))).block k (Gr0.out.fp k hk).2 (by simp))) (by omega)) (OwnI.ints (Yr0.out.same (fun k hk => (C_1_2.out.trans (Wrote.of_below _ (below_new w2 (.cells #[.int .i64 r00, .int .i64 r01, .slice AGr0 l_r0.length cGr0] 26)))).block k (Yr0.out.fp k hk).2 (by simp))) (by omega))).mono ?_
  rintro e w3 ⟨rfl, hb⟩
  have hbc := below_up (below_new w2 (.cells #[.int .i64 r00, .int .i64 r01, .slice AGr0 l_r0.length cGr0] 26)) hb ((below_new w2 (.cells #[.int .i64 r00, .int .i64 r01, .slice AGr0 l_r0.length cGr0] 26))).size
  have C_0_3 := Lib.hid (C_0_2.out.trans (Wrote.of_below _ hbc))
  have C_1_3 := Lib.hid (C_1_2.out.trans (Wrote.of_below _ hbc))
  have C_2_3 : Hid (Wrote w2 w3 []) := Lib.hid (Wrote.of_below [] hbc)
  have HBGr0 := Lib.hid (cell_kept (heap_alloc_new w2 (.cells #[.int .i64 r00, .int .i64 r01, .slice AGr0 l_r0.length cGr0] 26)) hb)
  have Z_3 : Hid (w2.heap.size + 1 ≤ w3.heap.size) := Lib.hid (by have := hb.size; simp only [World.size_alloc] at this; exact this)
  clear kBYr0_0 kBYr0_1 kBYr0_2 kkBYr0 qBYr0 C_0_2 C_1_2 hbc hb
  have MKX := Lib.hid (markframe_at _ AGr0 cGr0 l_r0 r00 r01 (1) (by omega) (by omega) _ (Gr0.out.same (fun k hk => C_2_3.out.block k (Gr0.out.fp k hk).2 (by simp))))
  rw [show ((1 : Nat) : Int) = 1 from rfl] at MKX
  obtain ⟨K1, hK1⟩ : ∃ K : Nat, K = 1 + l_r0.length := ⟨_, rfl⟩
  rw [← hK1] at MKX
  have hbK1 : K1 ≤ 4194304 := by omega
  have HHK1 := Lib.hid hK1; clear hK1
  have kkBYr0 := (C_2_3.out.heap HBYr0.out (by simp))
  obtain ⟨kBYr0_0, kBYr0_1, kBYr0_2⟩ := cellsn3 kkBYr0
  have kkBGr0 := HBGr0.out
  obtain ⟨kBGr0_0, kBGr0_1, kBGr0_2⟩ := cellsn3 kkBGr0
  go_wp2_with fail
  refine (MKX.out).mono ?_
  rintro e w4 ⟨rfl, ho, hg⟩
  have hwc := hg
  have C_0_4 := Lib.hid ((C_0_3.out.mono (fun _ h => List.mem_append_left (obk AGr0) h)).trans (hwc.mono (fun _ h => List.mem_append_right _ h)))
  have C_1_4 := Lib.hid ((C_1_3.out.mono (fun _ h => List.mem_append_left (obk AGr0) h)).trans (hwc.mono (fun _ h => List.mem_append_right _ h)))
  have C_2_4 := Lib.hid ((C_2_3.out.mono (fun _ h => List.mem_append_left (obk AGr0) h)).trans (hwc.mono (fun _ h => List.mem_append_right _ h)))
  have C_3_4 : Hid (Wrote w3 w4 ([] ++ (obk AGr0))) := Lib.hid hwc
  have Z_4 : Hid (w3.heap.size ≤ w4.heap.size) := Lib.hid hg.size
  clear kBYr0_0 kBYr0_1 kBYr0_2 kkBYr0 kBGr0_0 kBGr0_1 kBGr0_2 kkBGr0 C_0_3 C_1_3 C_2_3 hg
  clear MKX Gr0
  have GMr0 := Lib.hid ho; clear ho
  have hqmK1 : decide ((K1 : Int) < 0) = false := by simp
  have hqq : ((K1 : Int) != (K1 : Int)) = false := by simp
  have HDX := Lib.hid (heldframe_at AGr0 cGr0 l_r0.length r00 r01 (1) (by omega) (by omega) _ (OwnI.ints GMr0.out (by rw [markL_len]; omega)))
  rw [show ((1 : Nat) : Int) = 1 from rfl] at HDX
  rw [← HHK1.out] at HDX
  have kkBYr0 := (C_2_4.out.heap HBYr0.out (by intro hm; have z0 := Z_1.out; have z1 := Z_2.out; have z2 := Z_3.out; have z3 := Z_4.out; skip; simp only [List.nil_append] at hm; have u := BKGr0.out _ hm; omega))
  obtain ⟨kBYr0_0, kBYr0_1, kBYr0_2⟩ := cellsn3 kkBYr0
  have kkBGr0 := (C_3_4.out.heap HBGr0.out (by intro hm; have z0 := Z_1.out; have z1 := Z_2.out; have z2 := Z_3.out; have z3 := Z_4.out; skip; simp only [List.nil_append] at hm; have u := BKGr0.out _ hm; omega))
  obtain ⟨kBGr0_0, kBGr0_1, kBGr0_2⟩ := cellsn3 kkBGr0
  go_wp2_with fail
  refine (HDX.out).mono ?_
  rintro e w5 ⟨rfl, hb⟩
  have hbc := hb
  have C_0_5 := Lib.hid (C_0_4.out.trans (Wrote.of_below _ hbc))
  have C_1_5 := Lib.hid (C_1_4.out.trans (Wrote.of_below _ hbc))
  have C_2_5 := Lib.hid (C_2_4.out.trans (Wrote.of_below _ hbc))
  have C_3_5 := Lib.hid (C_3_4.out.trans (Wrote.of_below _ hbc))
  have C_4_5 : Hid (Wrote w4 w5 []) := Lib.hid (Wrote.of_below [] hbc)
  have Z_5 : Hid (w4.heap.size ≤ w5.heap.size) := Lib.hid hb.size
  clear kBYr0_0 kBYr0_1 kBYr0_2 kkBYr0 kBGr0_0 kBGr0_1 kBGr0_2 kkBGr0 C_0_4 C_1_4 C_2_4 C_3_4 hb
  clear HDX
  have kkBYr0 := (C_2_5.out.heap HBYr0.out (by intro hm; have z0 := Z_1.out; have z1 := Z_2.out; have z2 := Z_3.out; have z3 := Z_4.out; have z4 := Z_5.out; skip; simp only [List.nil_append] at hm; have u := BKGr0.out _ hm; omega))
  obtain ⟨kBYr0_0, kBYr0_1, kBYr0_2⟩ := cellsn3 kkBYr0
  have kkBGr0 := (C_3_5.out.heap HBGr0.out (by intro hm; have z0 := Z_1.out; have z1 := Z_2.out; have z2 := Z_3.out; have z3 := Z_4.out; have z4 := Z_5.out; skip; simp only [List.nil_append] at hm; have u := BKGr0.out _ hm; omega))
  obtain ⟨kBGr0_0, kBGr0_1, kBGr0_2⟩ := cellsn3 kkBGr0
  go_wp2_with fail
  refine (IM.out  _ ).mono ?_
  rintro e w6 ⟨AHr0, cHr0, rfl, hoHr0, hb⟩
  have hbc := hb
  have C_0_6 := Lib.hid (C_0_5.out.trans (Wrote.of_below _ hbc))
  have C_1_6 := Lib.hid (C_1_5.out.trans (Wrote.of_below _ hbc))
  have C_2_6 := Lib.hid (C_2_5.out.trans (Wrote.of_below _ hbc))
  have C_3_6 := Lib.hid (C_3_5.out.trans (Wrote.of_below _ hbc))
  have C_4_6 := Lib.hid (C_4_5.out.trans (Wrote.of_below _ hbc))
  have Z_6 : Hid (w5.heap.size ≤ w6.heap.size) := Lib.hid hb.size
  clear kBYr0_0 kBYr0_1 kBYr0_2 kkBYr0 kBGr0_0 kBGr0_1 kBGr0_2 kkBGr0 C_0_5 C_1_5 C_2_5 C_3_5 C_4_5 hb
  have Hr0 := Lib.hid hoHr0; have BKHr0 := Lib.hid (hoHr0.fp); clear hoHr0
  have kkBYr0 := (C_2_6.out.heap HBYr0.out (by intro hm; have z0 := Z_1.out; have z1 := Z_2.out; have z2 := Z_3.out; have z3 := Z_4.out; have z4 := Z_5.out; have z5 := Z_6.out; skip; simp only [List.nil_append] at hm; have u := BKGr0.out _ hm; omega))
  obtain ⟨kBYr0_0, kBYr0_1, kBYr0_2⟩ := cellsn3 kkBYr0
  have qBYr0 := heap_lt kkBYr0
  have kkBGr0 := (C_3_6.out.heap HBGr0.out (by intro hm; have z0 := Z_1.out; have z1 := Z_2.out; have z2 := Z_3.out; have z3 := Z_4.out; have z4 := Z_5.out; have z5 := Z_6.out; skip; simp only [List.nil_append] at hm; have u := BKGr0.out _ hm; omega))
  obtain ⟨kBGr0_0, kBGr0_1, kBGr0_2⟩ := cellsn3 kkBGr0
  have qBGr0 := heap_lt kkBGr0
  go_wp2_with fail
  refine (eqframe_same AHr0 AYr0 cHr0 cYr0 l_r0 r00 r01 _ (OwnI.ints (Hr0.out.same (fun k hk => (Wrote.of_below [] (below_new w6 (.cells #[.int .i64 r00, .int .i64 r01, .slice AHr0 l_r0.length cHr0] 26))).block k (Hr0.out.fp k hk).2 (by simp))) (by omega)) (OwnI.ints (Yr0.out.same (fun k hk => (C_1_6.out.trans (Wrote.of_below _ (below_new w6 (.cells #[.int .i64 r00, .int .i64 r01, .slice AHr0 l_r0.length cHr0] 26)))).block k (Yr0.out.fp k hk).2 (by intro hm; have z0 := Z_1.out; have z1 := Z_2.out; have z2 := Z_3.out; have z3 := Z_4.out; have z4 := Z_5.out; have z5 := Z_6.out; have d := Yr0.out.fp k hk; simp only [List.nil_append] at hm; have u := BKGr0.out _ hm; omega))) (by omega))).mono ?_
  rintro e w7 ⟨rfl, hb⟩
  have hbc := below_up (below_new w6 (.cells #[.int .i64 r00, .int .i64 r01, .slice AHr0 l_r0.length cHr0] 26)) hb ((below_new w6 (.cells #[.int .i64 r00, .int .i64 r01, .slice AHr0 l_r0.length cHr0] 26))).size
  have C_0_7 := Lib.hid (C_0_6.out.trans (Wrote.of_below _ hbc))
  have C_1_7 := Lib.hid (C_1_6.out.trans (Wrote.of_below _ hbc))
  have C_2_7 := Lib.hid (C_2_6.out.trans (Wrote.of_below _ hbc))
  have C_3_7 := Lib.hid (C_3_6.out.trans (Wrote.of_below _ hbc))
  have C_4_7 := Lib.hid (C_4_6.out.trans (Wrote.of_below _ hbc))
  have C_6_7 : Hid (Wrote w6 w7 []) := Lib.hid (Wrote.of_below [] hbc)
  have HBHr0 := Lib.hid (cell_kept (heap_alloc_new w6 (.cells #[.int .i64 r00, .int .i64 r01, .slice AHr0 l_r0.length cHr0] 26)) hb)
  have Z_7 : Hid (w6.heap.size + 1 ≤ w7.heap.size) := Lib.hid (by have := hb.size; simp only [World.size_alloc] at this; exact this)
  clear kBYr0_0 kBYr0_1 kBYr0_2 kkBYr0 qBYr0 kBGr0_0 kBGr0_1 kBGr0_2 kkBGr0 qBGr0 C_0_6 C_1_6 C_2_6 C_3_6 C_4_6 hbc hb
  have HDX := Lib.hid (heldframe_at AGr0 cGr0 l_r0.length r00 r01 (1) (by omega) (by omega) _ (OwnI.ints (GMr0.out.same (fun k hk => C_4_7.out.block k (GMr0.out.fp k hk).2 (by simp))) (by rw [markL_len]; omega)))
  rw [show ((1 : Nat) : Int) = 1 from rfl] at HDX
  rw [← HHK1.out] at HDX
  have kkBYr0 := (C_2_7.out.heap HBYr0.out (by intro hm; have z0 := Z_1.out; have z1 := Z_2.out; have z2 := Z_3.out; have z3 := Z_4.out; have z4 := Z_5.out; have z5 := Z_6.out; have z6 := Z_7.out; skip; simp only [List.nil_append] at hm; have u := BKGr0.out _ hm; omega))
  obtain ⟨kBYr0_0, kBYr0_1, kBYr0_2⟩ := cellsn3 kkBYr0
  have kkBGr0 := (C_3_7.out.heap HBGr0.out (by intro hm; have z0 := Z_1.out; have z1 := Z_2.out; have z2 := Z_3.out; have z3 := Z_4.out; have z4 := Z_5.out; have z5 := Z_6.out; have z6 := Z_7.out; skip; simp only [List.nil_append] at hm; have u := BKGr0.out _ hm; omega))
  obtain ⟨kBGr0_0, kBGr0_1, kBGr0_2⟩ := cellsn3 kkBGr0
  have kkBHr0 := HBHr0.out
  obtain ⟨kBHr0_0, kBHr0_1, kBHr0_2⟩ := cellsn3 kkBHr0
  go_wp2_with fail
  refine (HDX.out).mono ?_
  rintro e w8 ⟨rfl, hb⟩
  have hbc := hb
  have C_0_8 := Lib.hid (C_0_7.out.trans (Wrote.of_below _ hbc))
  have C_1_8 := Lib.hid (C_1_7.out.trans (Wrote.of_below _ hbc))
  have C_2_8 := Lib.hid (C_2_7.out.trans (Wrote.of_below _ hbc))
  have C_3_8 := Lib.hid (C_3_7.out.trans (Wrote.of_below _ hbc))
  have C_4_8 := Lib.hid (C_4_7.out.trans (Wrote.of_below _ hbc))
  have C_6_8 := Lib.hid (C_6_7.out.trans (Wrote.of_below _ hbc))
  have C_7_8 : Hid (Wrote w7 w8 []) := Lib.hid (Wrote.of_below [] hbc)
  have Z_8 : Hid (w7.heap.size ≤ w8.heap.size) := Lib.hid hb.size
  clear kBYr0_0 kBYr0_1 kBYr0_2 kkBYr0 kBGr0_0 kBGr0_1 kBGr0_2 kkBGr0 kBHr0_0 kBHr0_1 kBHr0_2 kkBHr0 C_0_7 C_1_7 C_2_7 C_3_7 C_4_7 C_6_7 hb
  clear HDX
  go_wp2
  go_ret
  exact ⟨rfl, C_0_8.out.os, C_0_8.out.tape, C_0_8.out.output, C_0_8.out.size, fun k hk => C_0_8.out.block k hk (by intro hm; have z0 := Z_1.out; have z1 := Z_2.out; have z2 := Z_3.out; have z3 := Z_4.out; have z4 := Z_5.out; have z5 := Z_6.out; have z6 := Z_7.out; have z7 := Z_8.out; have d := hk; simp only [List.nil_append] at hm; have u := BKGr0.out _ hm; omega)⟩
set_option maxRecDepth 100000 in
set_option maxHeartbeats 8000000 in
/-- The law's own walk, by contracts of the two texts. -/
theorem fnExactBlockAt_walk (f0 : Int) (f1 : Int) (a_f : Option Addr) (len_f cap_f : Nat) (zs_f : List Int) (x : Int) (y : Int) (n : Int) (wf_f0 : (Lit.int .i64 f0).wf = true) (wf_f1 : (Lit.int .i64 f1).wf = true) (wf_x : (Lit.int .i64 x).wf = true) (wf_y : (Lit.int .i64 y).wf = true) (wf_n : (Lit.int .i64 n).wf = true) (w : World) (hr_f : IsRow .i64 w a_f len_f cap_f zs_f) :
    Calls Try.prog 8 #[.agg #[.int .i64 f0, .int .i64 f1, .slice a_f len_f cap_f], .int .i64 x, .int .i64 y, .int .i64 n] w fun e w' => e = .returned (.bool true) ∧ Below w.heap.size w w' := by
  have hlm_f := hr_f.len_le
  unfold maxLen at hlm_f
  have SZ_f := Lib.hid fun wz (hz : Below w.heap.size w wz) => szframe_any a_f len_f cap_f f0 f1 (1048576) (by omega) (by omega) (by omega) wz
  by_cases hbig_f : 1048576 < ((len_f : Nat) : Int)
  · rw [if_pos hbig_f] at SZ_f
    have ENT := Lib.hid (below_new w (.cells #[.int .i64 f0, .int .i64 f1, .slice a_f len_f cap_f] 44))
    go_enter Try.func8, Try.ntmps8
    go_wp2_with fail
    refine (SZ_f.out _ ENT.out).mono ?_
    rintro e w1 ⟨rfl, hb1⟩
    have BZ1 := Lib.hid (below_up ENT.out hb1 ENT.out.size)
    clear hb1
    go_wp2
    go_ret
    exact ⟨rfl, BZ1.out⟩
  · rw [if_neg hbig_f] at SZ_f
    have hqz_f : decide (1048576 - ((len_f : Nat) : Int) < 0) = false := by simp; omega
    obtain ⟨l_f, rfl, hI_f, _, hcap_f⟩ := ints_of hr_f (by omega)
    have hll_f : l_f.length ≤ 1048576 := by omega
    have R_f := Lib.hid hI_f; clear hI_f hr_f
    have ENT := Lib.hid (below_new w (.cells #[.int .i64 f0, .int .i64 f1, .slice a_f l_f.length cap_f] 44))
    have SP := Lib.hid (fun (Af : Option Addr) (cf : Nat) (w : World) (hf : Ints w w.heap.size Af l_f) (hcf : l_f.length ≤ cf) (hpf : Placed Af cf) => spec_blockat_any f0 f1 Af cf l_f x y n w hf hcf)
    have IM := Lib.hid (fun (Af : Option Addr) (cf : Nat) (w : World) (hf : Ints w w.heap.size Af l_f) (hcf : l_f.length ≤ cf) (hpf : Placed Af cf) => impl_blockat_any f0 f1 Af cf l_f x y n w hf hcf)
    have hll_r0 : (blkL f0 f1 l_f x y n).length ≤ 1048576 := Nat.le_trans (blkL_len f0 f1 l_f x y n) (by decide)
    obtain ⟨l_r0, hl_r0⟩ : ∃ r, r = blkL f0 f1 l_f x y n := ⟨_, rfl⟩
    rw [← hl_r0] at SP IM hll_r0
    clear hl_r0
    clear hbig_f hlm_f
    go_enter Try.func8, Try.ntmps8
    go_wp2_with fail
    refine (SZ_f.out _ ENT.out).mono ?_
    rintro e w1 ⟨rfl, hb⟩
    have hbc := below_up ENT.out hb (ENT.out).size
    have C_0_1 : Hid (Wrote w w1 []) := Lib.hid (Wrote.of_below [] hbc)
    have HPf := Lib.hid (cell_kept (heap_alloc_new w (.cells #[.int .i64 f0, .int .i64 f1, .slice a_f l_f.length cap_f] 44)) hb)
    have Z_1 : Hid (w.heap.size + 1 ≤ w1.heap.size) := Lib.hid (by have := hb.size; simp only [World.size_alloc] at this; exact this)
    clear hbc hb
    have kkPf := HPf.out
    obtain ⟨kPf_0, kPf_1, kPf_2⟩ := cellsn3 kkPf
    go_wp2_with fail
    refine (toframe_any a_f cap_f l_f f0 f1 hll_f _ ((R_f.out.kept (fun k hk => C_0_1.out.block k hk (by simp))).mono C_0_1.out.size)).mono ?_
    rintro e w2 ⟨Afs, cfs, rfl, hofs, hb⟩
    have hbc := hb
    have C_0_2 := Lib.hid (C_0_1.out.trans (Wrote.of_below _ hbc))
    have C_1_2 : Hid (Wrote w1 w2 []) := Lib.hid (Wrote.of_below [] hbc)
    have Z_2 : Hid (w1.heap.size ≤ w2.heap.size) := Lib.hid hb.size
    clear kPf_0 kPf_1 kPf_2 kkPf C_0_1 hb
    have Xfs := Lib.hid hofs; have BKXfs := Lib.hid (hofs.fp); clear hofs
    have kkPf := (C_1_2.out.heap HPf.out (by simp))
    obtain ⟨kPf_0, kPf_1, kPf_2⟩ := cellsn3 kkPf
    go_wp2_with fail
    refine (SP.out Afs cfs _ (OwnI.ints Xfs.out (by omega)) (OwnI.cap_le Xfs.out) (OwnI.placed Xfs.out)).mono ?_
    rintro e w3 ⟨AYr0, cYr0, rfl, hoYr0, hb⟩
    have hbc := hb
    have C_0_3 := Lib.hid (C_0_2.out.trans (Wrote.of_below _ hbc))
    have C_1_3 := Lib.hid (C_1_2.out.trans (Wrote.of_below _ hbc))
    have C_2_3 : Hid (Wrote w2 w3 []) := Lib.hid (Wrote.of_below [] hbc)
    have Z_3 : Hid (w2.heap.size ≤ w3.heap.size) := Lib.hid hb.size
    clear kPf_0 kPf_1 kPf_2 kkPf C_0_2 C_1_2 hb
    have Yr0 := Lib.hid hoYr0; have BKYr0 := Lib.hid (hoYr0.fp); clear hoYr0
    clear Xfs
    have kkPf := (C_1_3.out.heap HPf.out (by simp))
    obtain ⟨kPf_0, kPf_1, kPf_2⟩ := cellsn3 kkPf
    go_wp2_with fail
    refine (toframe_any a_f cap_f l_f f0 f1 hll_f _ ((R_f.out.kept (fun k hk => C_0_3.out.block k hk (by simp))).mono C_0_3.out.size)).mono ?_
    rintro e w4 ⟨Af, cf, rfl, hof, hb⟩
    have hbc := hb
    have C_0_4 := Lib.hid (C_0_3.out.trans (Wrote.of_below _ hbc))
    have C_1_4 := Lib.hid (C_1_3.out.trans (Wrote.of_below _ hbc))
    have C_3_4 : Hid (Wrote w3 w4 []) := Lib.hid (Wrote.of_below [] hbc)
    have Z_4 : Hid (w3.heap.size ≤ w4.heap.size) := Lib.hid hb.size
    clear kPf_0 kPf_1 kPf_2 kkPf C_0_3 C_1_3 hb
    have Xf := Lib.hid hof; have BKXf := Lib.hid (hof.fp); clear hof
    have kkPf := (C_1_4.out.heap HPf.out (by simp))
    obtain ⟨kPf_0, kPf_1, kPf_2⟩ := cellsn3 kkPf
    have qPf := heap_lt kkPf
    go_wp2_with fail
    refine (IM.out Af cf _ (OwnI.ints (Xf.out.same (fun k hk => (Wrote.of_below [] (below_new w4 (.cells #[.int .i64 f0, .int .i64 f1, .slice Af l_f.length cf] 26))).block k (Xf.out.fp k hk).2 (by simp))) (by omega)) (OwnI.cap_le (Xf.out.same (fun k hk => (Wrote.of_below [] (below_new w4 (.cells #[.int .i64 f0, .int .i64 f1, .slice Af l_f.length cf] 26))).block k (Xf.out.fp k hk).2 (by simp)))) (OwnI.placed (Xf.out.same (fun k hk => (Wrote.of_below [] (below_new w4 (.cells #[.int .i64 f0, .int .i64 f1, .slice Af l_f.length cf] 26))).block k (Xf.out.fp k hk).2 (by simp))))).mono ?_
    rintro e w5 ⟨AGr0, cGr0, rfl, hoGr0, hb⟩
    have hbc := below_up (below_new w4 (.cells #[.int .i64 f0, .int .i64 f1, .slice Af l_f.length cf] 26)) hb ((below_new w4 (.cells #[.int .i64 f0, .int .i64 f1, .slice Af l_f.length cf] 26))).size
    have C_0_5 := Lib.hid (C_0_4.out.trans (Wrote.of_below _ hbc))
    have C_1_5 := Lib.hid (C_1_4.out.trans (Wrote.of_below _ hbc))
    have C_3_5 := Lib.hid (C_3_4.out.trans (Wrote.of_below _ hbc))
    have C_4_5 : Hid (Wrote w4 w5 []) := Lib.hid (Wrote.of_below [] hbc)
    have HXf := Lib.hid (cell_kept (heap_alloc_new w4 (.cells #[.int .i64 f0, .int .i64 f1, .slice Af l_f.length cf] 26)) hb)
    have Z_5 : Hid (w4.heap.size + 1 ≤ w5.heap.size) := Lib.hid (by have := hb.size; simp only [World.size_alloc] at this; exact this)
    clear kPf_0 kPf_1 kPf_2 kkPf qPf C_0_4 C_1_4 C_3_4 hbc hb
    simp only [World.size_alloc] at hoGr0
    have Gr0 := Lib.hid hoGr0; have BKGr0 := Lib.hid (hoGr0.fp); clear hoGr0
    have kkPf := (C_1_5.out.heap HPf.out (by simp))
    obtain ⟨kPf_0, kPf_1, kPf_2⟩ := cellsn3 kkPf
    have kkXf := HXf.out
    obtain ⟨kXf_0, kXf_1, kXf_2⟩ := cellsn3 kkXf
    go_wp2_with fail
    refine (eqints_at AGr0 AYr0 cGr0 cYr0 l_r0.length l_r0 rfl _ (OwnI.ints Gr0.out (by omega)) (OwnI.ints (Yr0.out.same (fun k hk => C_3_5.out.block k (Yr0.out.fp k hk).2 (by simp))) (by omega))).mono ?_
    rintro e w6 ⟨rfl, hb⟩
    have hbc := hb
    have C_0_6 := Lib.hid (C_0_5.out.trans (Wrote.of_below _ hbc))
    have C_1_6 := Lib.hid (C_1_5.out.trans (Wrote.of_below _ hbc))
    have C_3_6 := Lib.hid (C_3_5.out.trans (Wrote.of_below _ hbc))
    have C_4_6 := Lib.hid (C_4_5.out.trans (Wrote.of_below _ hbc))
    have C_5_6 : Hid (Wrote w5 w6 []) := Lib.hid (Wrote.of_below [] hbc)
    have Z_6 : Hid (w5.heap.size ≤ w6.heap.size) := Lib.hid hb.size
    clear kPf_0 kPf_1 kPf_2 kkPf kXf_0 kXf_1 kXf_2 kkXf C_0_5 C_1_5 C_3_5 C_4_5 hb
    have kkPf := (C_1_6.out.heap HPf.out (by simp))
    obtain ⟨kPf_0, kPf_1, kPf_2⟩ := cellsn3 kkPf
    have kkXf := (C_5_6.out.heap HXf.out (by simp))
    obtain ⟨kXf_0, kXf_1, kXf_2⟩ := cellsn3 kkXf
    have hS : w6.cell? ⟨w.heap.size, 0, none⟩ = some (.int .i64 f0) ∧ w6.cell? ⟨w.heap.size, 1, none⟩ = some (.int .i64 f1) ∧ w6.cell? ⟨w.heap.size, 2, none⟩ = some (.slice a_f l_f.length cap_f) ∧ w6.cell? ⟨w4.heap.size, 0, none⟩ = some (.int .i64 f0) ∧ w6.cell? ⟨w4.heap.size, 1, none⟩ = some (.int .i64 f1) ∧ w6.cell? ⟨w4.heap.size, 2, none⟩ = some (.slice Af l_f.length cf) ∧ Below w6.heap.size w6 w6 ∧ w6.heap.size ≤ w6.heap.size := ⟨kPf_0, kPf_1, kPf_2, kXf_0, kXf_1, kXf_2, Below.refl _ _, Nat.le_refl _⟩
    have OX := Lib.hid (Xf.out.same (fun k hk => C_4_6.out.block k (Xf.out.fp k hk).2 (by simp)))
    have RV0 := Lib.hid ((R_f.out.kept (fun k hk => C_0_6.out.block k hk (by simp))).mono C_0_6.out.size)
    have TOS := Lib.hid fun wr (h : Below w6.heap.size w6 wr) => toframe_any a_f cap_f l_f f0 f1 hll_f wr ((RV0.out.below h (Nat.le_refl _)).mono h.size)
    have EQS := Lib.hid fun (Aft : Option Addr) (cft : Nat) (b : Nat) wr (h : Below w6.heap.size w6 wr) (ho : OwnI wr (b) Aft cft l_f) => eqframe_same Af Aft cf cft l_f f0 f1 wr (OwnI.ints (OX.out.same (fun k hk => h.block k (OX.out.fp k hk).2)) (by omega)) (OwnI.ints ho (by omega))
    clear kPf_0 kPf_1 kPf_2 kkPf kXf_0 kXf_1 kXf_2 kkXf
    go_wp2_with fail
    go_region_held3 (fun w' => w'.cell? ⟨w.heap.size, 0, none⟩ = some (.int .i64 f0) ∧ w'.cell? ⟨w.heap.size, 1, none⟩ = some (.int .i64 f1) ∧ w'.cell? ⟨w.heap.size, 2, none⟩ = some (.slice a_f l_f.length cap_f) ∧ w'.cell? ⟨w4.heap.size, 0, none⟩ = some (.int .i64 f0) ∧ w'.cell? ⟨w4.heap.size, 1, none⟩ = some (.int .i64 f1) ∧ w'.cell? ⟨w4.heap.size, 2, none⟩ = some (.slice Af l_f.length cf) ∧ Below w6.heap.size w6 w' ∧ w6.heap.size ≤ w'.heap.size)
      (first | with_reducible assumption | (with_reducible refine heldx6_drew ?_; with_reducible assumption) | (with_reducible refine heldx6 ?_ (by with_reducible assumption); with_reducible assumption))
      (first
        | (go_at_call 31; (with_reducible refine (TOS.out _ (heldx6_below (by with_reducible assumption))).mono ?_); rintro e wt ⟨Aft, cft, rfl, ho', hb'⟩)
        | (go_at_call 32; (with_reducible refine (EQS.out _ _ _ _ (heldx6_below (by with_reducible assumption)) (by first | with_reducible assumption | (with_reducible refine World.ownsRow.drew ?_; with_reducible assumption))).mono ?_); rintro e w7 ⟨rfl, hbt⟩))
    all_goals
      have hb : Below w6.heap.size w6 w7 := heldx6_below (by with_reducible assumption)
      have hbc := hb
      have C_0_7 := Lib.hid (C_0_6.out.trans (Wrote.of_below _ hbc))
      have C_1_7 := Lib.hid (C_1_6.out.trans (Wrote.of_below _ hbc))
      have C_3_7 := Lib.hid (C_3_6.out.trans (Wrote.of_below _ hbc))
      have C_4_7 := Lib.hid (C_4_6.out.trans (Wrote.of_below _ hbc))
      have C_5_7 := Lib.hid (C_5_6.out.trans (Wrote.of_below _ hbc))
      have Z_7 : Hid (w6.heap.size ≤ w7.heap.size) := Lib.hid hb.size
      clear C_0_6 C_1_6 C_3_6 C_4_6 C_5_6 hb
      clear TOS EQS OX RV0
      have MKX := Lib.hid (markframe_at _ Af cf l_f f0 f1 (1) (by omega) (by omega) _ (Xf.out.same (fun k hk => C_4_7.out.block k (Xf.out.fp k hk).2 (by simp))))
      rw [show ((1 : Nat) : Int) = 1 from rfl] at MKX
      obtain ⟨K1, hK1⟩ : ∃ K : Nat, K = 1 + l_f.length := ⟨_, rfl⟩
      rw [← hK1] at MKX
      have hbK1 : K1 ≤ 4194304 := by omega
      have HHK1 := Lib.hid hK1; clear hK1
      have kkPf := (C_1_7.out.heap HPf.out (by simp))
      obtain ⟨kPf_0, kPf_1, kPf_2⟩ := cellsn3 kkPf
      have kkXf := (C_5_7.out.heap HXf.out (by simp))
      obtain ⟨kXf_0, kXf_1, kXf_2⟩ := cellsn3 kkXf
      go_wp2_with fail
      refine (MKX.out).mono ?_
      rintro e w8 ⟨rfl, ho, hg⟩
      have hwc := hg
      have C_0_8 := Lib.hid ((C_0_7.out.mono (fun _ h => List.mem_append_left (obk Af) h)).trans (hwc.mono (fun _ h => List.mem_append_right _ h)))
      have C_1_8 := Lib.hid ((C_1_7.out.mono (fun _ h => List.mem_append_left (obk Af) h)).trans (hwc.mono (fun _ h => List.mem_append_right _ h)))
      have C_3_8 := Lib.hid ((C_3_7.out.mono (fun _ h => List.mem_append_left (obk Af) h)).trans (hwc.mono (fun _ h => List.mem_append_right _ h)))
      have C_5_8 := Lib.hid ((C_5_7.out.mono (fun _ h => List.mem_append_left (obk Af) h)).trans (hwc.mono (fun _ h => List.mem_append_right _ h)))
      have Z_8 : Hid (w7.heap.size ≤ w8.heap.size) := Lib.hid hg.size
      clear kPf_0 kPf_1 kPf_2 kkPf kXf_0 kXf_1 kXf_2 kkXf C_0_7 C_1_7 C_3_7 C_5_7 hg
      clear MKX Xf
      clear ho
      have hmk : decide ((K1 : Int) < 0) = false := by simp
      have kkPf := (C_1_8.out.heap HPf.out (by intro hm; have z0 := Z_1.out; have z1 := Z_2.out; have z2 := Z_3.out; have z3 := Z_4.out; have z4 := Z_5.out; have z5 := Z_6.out; have z6 := Z_7.out; have z7 := Z_8.out; skip; simp only [List.nil_append] at hm; have u := BKXf.out _ hm; omega))
      obtain ⟨kPf_0, kPf_1, kPf_2⟩ := cellsn3 kkPf
      have kkXf := (C_5_8.out.heap HXf.out (by intro hm; have z0 := Z_1.out; have z1 := Z_2.out; have z2 := Z_3.out; have z3 := Z_4.out; have z4 := Z_5.out; have z5 := Z_6.out; have z6 := Z_7.out; have z7 := Z_8.out; skip; simp only [List.nil_append] at hm; have u := BKXf.out _ hm; omega))
      obtain ⟨kXf_0, kXf_1, kXf_2⟩ := cellsn3 kkXf
      go_wp2_with fail
      refine (eqints_at AGr0 AYr0 cGr0 cYr0 l_r0.length l_r0 rfl _ (OwnI.ints (Gr0.out.same (fun k hk => C_5_8.out.block k (Gr0.out.fp k hk).2 (by intro hm; have z0 := Z_1.out; have z1 := Z_2.out; have z2 := Z_3.out; have z3 := Z_4.out; have z4 := Z_5.out; have z5 := Z_6.out; have z6 := Z_7.out; have z7 := Z_8.out; have d := Gr0.out.fp k hk; simp only [List.nil_append] at hm; have u := BKXf.out _ hm; omega))) (by omega)) (OwnI.ints (Yr0.out.same (fun k hk => C_3_8.out.block k (Yr0.out.fp k hk).2 (by intro hm; have z0 := Z_1.out; have z1 := Z_2.out; have z2 := Z_3.out; have z3 := Z_4.out; have z4 := Z_5.out; have z5 := Z_6.out; have z6 := Z_7.out; have z7 := Z_8.out; have d := Yr0.out.fp k hk; simp only [List.nil_append] at hm; have u := BKXf.out _ hm; omega))) (by omega))).mono ?_
      rintro e w9 ⟨rfl, hb⟩
      have hbc := hb
      have C_0_9 := Lib.hid (C_0_8.out.trans (Wrote.of_below _ hbc))
      have C_1_9 := Lib.hid (C_1_8.out.trans (Wrote.of_below _ hbc))
      have C_3_9 := Lib.hid (C_3_8.out.trans (Wrote.of_below _ hbc))
      have C_5_9 := Lib.hid (C_5_8.out.trans (Wrote.of_below _ hbc))
      have Z_9 : Hid (w8.heap.size ≤ w9.heap.size) := Lib.hid hb.size
      clear kPf_0 kPf_1 kPf_2 kkPf kXf_0 kXf_1 kXf_2 kkXf C_0_8 C_1_8 C_3_8 C_5_8 hb
      have MKX := Lib.hid (markints_at _ AGr0 cGr0 l_r0.length l_r0 (1) rfl (by omega) (by omega) _ (Gr0.out.same (fun k hk => C_5_9.out.block k (Gr0.out.fp k hk).2 (by intro hm; have z0 := Z_1.out; have z1 := Z_2.out; have z2 := Z_3.out; have z3 := Z_4.out; have z4 := Z_5.out; have z5 := Z_6.out; have z6 := Z_7.out; have z7 := Z_8.out; have z8 := Z_9.out; have d := Gr0.out.fp k hk; simp only [List.nil_append] at hm; have u := BKXf.out _ hm; omega))))
      rw [show ((1 : Nat) : Int) = 1 from rfl] at MKX
      obtain ⟨K2, hK2⟩ : ∃ K : Nat, K = 1 + l_r0.length := ⟨_, rfl⟩
      rw [← hK2] at MKX
      have hbK2 : K2 ≤ 6291456 := by omega
      have HHK2 := Lib.hid hK2; clear hK2
      have kkPf := (C_1_9.out.heap HPf.out (by intro hm; have z0 := Z_1.out; have z1 := Z_2.out; have z2 := Z_3.out; have z3 := Z_4.out; have z4 := Z_5.out; have z5 := Z_6.out; have z6 := Z_7.out; have z7 := Z_8.out; have z8 := Z_9.out; skip; simp only [List.nil_append] at hm; have u := BKXf.out _ hm; omega))
      obtain ⟨kPf_0, kPf_1, kPf_2⟩ := cellsn3 kkPf
      have kkXf := (C_5_9.out.heap HXf.out (by intro hm; have z0 := Z_1.out; have z1 := Z_2.out; have z2 := Z_3.out; have z3 := Z_4.out; have z4 := Z_5.out; have z5 := Z_6.out; have z6 := Z_7.out; have z7 := Z_8.out; have z8 := Z_9.out; skip; simp only [List.nil_append] at hm; have u := BKXf.out _ hm; omega))
      obtain ⟨kXf_0, kXf_1, kXf_2⟩ := cellsn3 kkXf
      go_wp2_with fail
      refine (MKX.out).mono ?_
      rintro e w10 ⟨rfl, ho, hg⟩
      have hwc := hg
      have C_0_10 := Lib.hid ((C_0_9.out.mono (fun _ h => List.mem_append_left (obk AGr0) h)).trans (hwc.mono (fun _ h => List.mem_append_right _ h)))
      have C_1_10 := Lib.hid ((C_1_9.out.mono (fun _ h => List.mem_append_left (obk AGr0) h)).trans (hwc.mono (fun _ h => List.mem_append_right _ h)))
      have C_3_10 := Lib.hid ((C_3_9.out.mono (fun _ h => List.mem_append_left (obk AGr0) h)).trans (hwc.mono (fun _ h => List.mem_append_right _ h)))
      have C_5_10 := Lib.hid ((C_5_9.out.mono (fun _ h => List.mem_append_left (obk AGr0) h)).trans (hwc.mono (fun _ h => List.mem_append_right _ h)))
      have Z_10 : Hid (w9.heap.size ≤ w10.heap.size) := Lib.hid hg.size
      clear kPf_0 kPf_1 kPf_2 kkPf kXf_0 kXf_1 kXf_2 kkXf C_0_9 C_1_9 C_3_9 C_5_9 hg
      clear MKX Gr0
      have GMr0 := Lib.hid ho; clear ho
      have hqmK2 : decide ((K2 : Int) < 0) = false := by simp
      have hqq : ((K2 : Int) != (K2 : Int)) = false := by simp
      have HDX := Lib.hid (heldints_at AGr0 cGr0 l_r0.length (1) (by omega) (by omega) _ (OwnI.ints GMr0.out (by rw [markL_len]; omega)))
      rw [show ((1 : Nat) : Int) = 1 from rfl] at HDX
      rw [← HHK2.out] at HDX
      have kkPf := (C_1_10.out.heap HPf.out (by intro hm; have z0 := Z_1.out; have z1 := Z_2.out; have z2 := Z_3.out; have z3 := Z_4.out; have z4 := Z_5.out; have z5 := Z_6.out; have z6 := Z_7.out; have z7 := Z_8.out; have z8 := Z_9.out; have z9 := Z_10.out; skip; simp only [List.nil_append, List.mem_append] at hm; rcases hm with (hm) | hm <;> first | (have u := BKXf.out _ hm; omega) | (have u := BKGr0.out _ hm; omega)))
      obtain ⟨kPf_0, kPf_1, kPf_2⟩ := cellsn3 kkPf
      have kkXf := (C_5_10.out.heap HXf.out (by intro hm; have z0 := Z_1.out; have z1 := Z_2.out; have z2 := Z_3.out; have z3 := Z_4.out; have z4 := Z_5.out; have z5 := Z_6.out; have z6 := Z_7.out; have z7 := Z_8.out; have z8 := Z_9.out; have z9 := Z_10.out; skip; simp only [List.nil_append, List.mem_append] at hm; rcases hm with (hm) | hm <;> first | (have u := BKXf.out _ hm; omega) | (have u := BKGr0.out _ hm; omega)))
      obtain ⟨kXf_0, kXf_1, kXf_2⟩ := cellsn3 kkXf
      go_wp2_with fail
      refine (HDX.out).mono ?_
      rintro e w11 ⟨rfl, hb⟩
      have hbc := hb
      have C_0_11 := Lib.hid (C_0_10.out.trans (Wrote.of_below _ hbc))
      have C_1_11 := Lib.hid (C_1_10.out.trans (Wrote.of_below _ hbc))
      have C_3_11 := Lib.hid (C_3_10.out.trans (Wrote.of_below _ hbc))
      have C_5_11 := Lib.hid (C_5_10.out.trans (Wrote.of_below _ hbc))
      have C_10_11 : Hid (Wrote w10 w11 []) := Lib.hid (Wrote.of_below [] hbc)
      have Z_11 : Hid (w10.heap.size ≤ w11.heap.size) := Lib.hid hb.size
      clear kPf_0 kPf_1 kPf_2 kkPf kXf_0 kXf_1 kXf_2 kkXf C_0_10 C_1_10 C_3_10 C_5_10 hb
      clear HDX
      have kkPf := (C_1_11.out.heap HPf.out (by intro hm; have z0 := Z_1.out; have z1 := Z_2.out; have z2 := Z_3.out; have z3 := Z_4.out; have z4 := Z_5.out; have z5 := Z_6.out; have z6 := Z_7.out; have z7 := Z_8.out; have z8 := Z_9.out; have z9 := Z_10.out; have z10 := Z_11.out; skip; simp only [List.nil_append, List.mem_append] at hm; rcases hm with (hm) | hm <;> first | (have u := BKXf.out _ hm; omega) | (have u := BKGr0.out _ hm; omega)))
      obtain ⟨kPf_0, kPf_1, kPf_2⟩ := cellsn3 kkPf
      have kkXf := (C_5_11.out.heap HXf.out (by intro hm; have z0 := Z_1.out; have z1 := Z_2.out; have z2 := Z_3.out; have z3 := Z_4.out; have z4 := Z_5.out; have z5 := Z_6.out; have z6 := Z_7.out; have z7 := Z_8.out; have z8 := Z_9.out; have z9 := Z_10.out; have z10 := Z_11.out; skip; simp only [List.nil_append, List.mem_append] at hm; rcases hm with (hm) | hm <;> first | (have u := BKXf.out _ hm; omega) | (have u := BKGr0.out _ hm; omega)))
      obtain ⟨kXf_0, kXf_1, kXf_2⟩ := cellsn3 kkXf
      go_wp2_with fail
      refine (toframe_any a_f cap_f l_f f0 f1 hll_f _ ((R_f.out.kept (fun k hk => C_0_11.out.block k hk (by intro hm; have z0 := Z_1.out; have z1 := Z_2.out; have z2 := Z_3.out; have z3 := Z_4.out; have z4 := Z_5.out; have z5 := Z_6.out; have z6 := Z_7.out; have z7 := Z_8.out; have z8 := Z_9.out; have z9 := Z_10.out; have z10 := Z_11.out; have d := hk; simp only [List.nil_append, List.mem_append] at hm; rcases hm with (hm) | hm <;> first | (have u := BKXf.out _ hm; omega) | (have u := BKGr0.out _ hm; omega)))).mono C_0_11.out.size)).mono ?_
      rintro e w12 ⟨Afh, cfh, rfl, hofh, hb⟩
      have hbc := hb
      have C_0_12 := Lib.hid (C_0_11.out.trans (Wrote.of_below _ hbc))
      have C_1_12 := Lib.hid (C_1_11.out.trans (Wrote.of_below _ hbc))
      have C_3_12 := Lib.hid (C_3_11.out.trans (Wrote.of_below _ hbc))
      have C_5_12 := Lib.hid (C_5_11.out.trans (Wrote.of_below _ hbc))
      have C_10_12 := Lib.hid (C_10_11.out.trans (Wrote.of_below _ hbc))
      have Z_12 : Hid (w11.heap.size ≤ w12.heap.size) := Lib.hid hb.size
      clear kPf_0 kPf_1 kPf_2 kkPf kXf_0 kXf_1 kXf_2 kkXf C_0_11 C_1_11 C_3_11 C_5_11 C_10_11 hb
      have Xfh := Lib.hid hofh; have BKXfh := Lib.hid (hofh.fp); clear hofh
      have kkPf := (C_1_12.out.heap HPf.out (by intro hm; have z0 := Z_1.out; have z1 := Z_2.out; have z2 := Z_3.out; have z3 := Z_4.out; have z4 := Z_5.out; have z5 := Z_6.out; have z6 := Z_7.out; have z7 := Z_8.out; have z8 := Z_9.out; have z9 := Z_10.out; have z10 := Z_11.out; have z11 := Z_12.out; skip; simp only [List.nil_append, List.mem_append] at hm; rcases hm with (hm) | hm <;> first | (have u := BKXf.out _ hm; omega) | (have u := BKGr0.out _ hm; omega)))
      obtain ⟨kPf_0, kPf_1, kPf_2⟩ := cellsn3 kkPf
      have kkXf := (C_5_12.out.heap HXf.out (by intro hm; have z0 := Z_1.out; have z1 := Z_2.out; have z2 := Z_3.out; have z3 := Z_4.out; have z4 := Z_5.out; have z5 := Z_6.out; have z6 := Z_7.out; have z7 := Z_8.out; have z8 := Z_9.out; have z9 := Z_10.out; have z10 := Z_11.out; have z11 := Z_12.out; skip; simp only [List.nil_append, List.mem_append] at hm; rcases hm with (hm) | hm <;> first | (have u := BKXf.out _ hm; omega) | (have u := BKGr0.out _ hm; omega)))
      obtain ⟨kXf_0, kXf_1, kXf_2⟩ := cellsn3 kkXf
      go_wp2_with fail
      refine (IM.out Afh cfh _ (OwnI.ints Xfh.out (by omega)) (OwnI.cap_le Xfh.out) (OwnI.placed Xfh.out)).mono ?_
      rintro e w13 ⟨AHr0, cHr0, rfl, hoHr0, hb⟩
      have hbc := hb
      have C_0_13 := Lib.hid (C_0_12.out.trans (Wrote.of_below _ hbc))
      have C_1_13 := Lib.hid (C_1_12.out.trans (Wrote.of_below _ hbc))
      have C_3_13 := Lib.hid (C_3_12.out.trans (Wrote.of_below _ hbc))
      have C_5_13 := Lib.hid (C_5_12.out.trans (Wrote.of_below _ hbc))
      have C_10_13 := Lib.hid (C_10_12.out.trans (Wrote.of_below _ hbc))
      have C_12_13 : Hid (Wrote w12 w13 []) := Lib.hid (Wrote.of_below [] hbc)
      have Z_13 : Hid (w12.heap.size ≤ w13.heap.size) := Lib.hid hb.size
      clear kPf_0 kPf_1 kPf_2 kkPf kXf_0 kXf_1 kXf_2 kkXf C_0_12 C_1_12 C_3_12 C_5_12 C_10_12 hb
      have Hr0 := Lib.hid hoHr0; have BKHr0 := Lib.hid (hoHr0.fp); clear hoHr0
      clear Xfh
      have kkPf := (C_1_13.out.heap HPf.out (by intro hm; have z0 := Z_1.out; have z1 := Z_2.out; have z2 := Z_3.out; have z3 := Z_4.out; have z4 := Z_5.out; have z5 := Z_6.out; have z6 := Z_7.out; have z7 := Z_8.out; have z8 := Z_9.out; have z9 := Z_10.out; have z10 := Z_11.out; have z11 := Z_12.out; have z12 := Z_13.out; skip; simp only [List.nil_append, List.mem_append] at hm; rcases hm with (hm) | hm <;> first | (have u := BKXf.out _ hm; omega) | (have u := BKGr0.out _ hm; omega)))
      obtain ⟨kPf_0, kPf_1, kPf_2⟩ := cellsn3 kkPf
      have kkXf := (C_5_13.out.heap HXf.out (by intro hm; have z0 := Z_1.out; have z1 := Z_2.out; have z2 := Z_3.out; have z3 := Z_4.out; have z4 := Z_5.out; have z5 := Z_6.out; have z6 := Z_7.out; have z7 := Z_8.out; have z8 := Z_9.out; have z9 := Z_10.out; have z10 := Z_11.out; have z11 := Z_12.out; have z12 := Z_13.out; skip; simp only [List.nil_append, List.mem_append] at hm; rcases hm with (hm) | hm <;> first | (have u := BKXf.out _ hm; omega) | (have u := BKGr0.out _ hm; omega)))
      obtain ⟨kXf_0, kXf_1, kXf_2⟩ := cellsn3 kkXf
      go_wp2_with fail
      refine (eqints_at AHr0 AYr0 cHr0 cYr0 l_r0.length l_r0 rfl _ (OwnI.ints Hr0.out (by omega)) (OwnI.ints (Yr0.out.same (fun k hk => C_3_13.out.block k (Yr0.out.fp k hk).2 (by intro hm; have z0 := Z_1.out; have z1 := Z_2.out; have z2 := Z_3.out; have z3 := Z_4.out; have z4 := Z_5.out; have z5 := Z_6.out; have z6 := Z_7.out; have z7 := Z_8.out; have z8 := Z_9.out; have z9 := Z_10.out; have z10 := Z_11.out; have z11 := Z_12.out; have z12 := Z_13.out; have d := Yr0.out.fp k hk; simp only [List.nil_append, List.mem_append] at hm; rcases hm with (hm) | hm <;> first | (have u := BKXf.out _ hm; omega) | (have u := BKGr0.out _ hm; omega)))) (by omega))).mono ?_
      rintro e w14 ⟨rfl, hb⟩
      have hbc := hb
      have C_0_14 := Lib.hid (C_0_13.out.trans (Wrote.of_below _ hbc))
      have C_1_14 := Lib.hid (C_1_13.out.trans (Wrote.of_below _ hbc))
      have C_3_14 := Lib.hid (C_3_13.out.trans (Wrote.of_below _ hbc))
      have C_5_14 := Lib.hid (C_5_13.out.trans (Wrote.of_below _ hbc))
      have C_10_14 := Lib.hid (C_10_13.out.trans (Wrote.of_below _ hbc))
      have C_13_14 : Hid (Wrote w13 w14 []) := Lib.hid (Wrote.of_below [] hbc)
      have Z_14 : Hid (w13.heap.size ≤ w14.heap.size) := Lib.hid hb.size
      clear kPf_0 kPf_1 kPf_2 kkPf kXf_0 kXf_1 kXf_2 kkXf C_0_13 C_1_13 C_3_13 C_5_13 C_10_13 hb
      have HDX := Lib.hid (heldints_at AGr0 cGr0 l_r0.length (1) (by omega) (by omega) _ (OwnI.ints (GMr0.out.same (fun k hk => C_10_14.out.block k (GMr0.out.fp k hk).2 (by simp))) (by rw [markL_len]; omega)))
      rw [show ((1 : Nat) : Int) = 1 from rfl] at HDX
      rw [← HHK2.out] at HDX
      have kkPf := (C_1_14.out.heap HPf.out (by intro hm; have z0 := Z_1.out; have z1 := Z_2.out; have z2 := Z_3.out; have z3 := Z_4.out; have z4 := Z_5.out; have z5 := Z_6.out; have z6 := Z_7.out; have z7 := Z_8.out; have z8 := Z_9.out; have z9 := Z_10.out; have z10 := Z_11.out; have z11 := Z_12.out; have z12 := Z_13.out; have z13 := Z_14.out; skip; simp only [List.nil_append, List.mem_append] at hm; rcases hm with (hm) | hm <;> first | (have u := BKXf.out _ hm; omega) | (have u := BKGr0.out _ hm; omega)))
      obtain ⟨kPf_0, kPf_1, kPf_2⟩ := cellsn3 kkPf
      have kkXf := (C_5_14.out.heap HXf.out (by intro hm; have z0 := Z_1.out; have z1 := Z_2.out; have z2 := Z_3.out; have z3 := Z_4.out; have z4 := Z_5.out; have z5 := Z_6.out; have z6 := Z_7.out; have z7 := Z_8.out; have z8 := Z_9.out; have z9 := Z_10.out; have z10 := Z_11.out; have z11 := Z_12.out; have z12 := Z_13.out; have z13 := Z_14.out; skip; simp only [List.nil_append, List.mem_append] at hm; rcases hm with (hm) | hm <;> first | (have u := BKXf.out _ hm; omega) | (have u := BKGr0.out _ hm; omega)))
      obtain ⟨kXf_0, kXf_1, kXf_2⟩ := cellsn3 kkXf
      go_wp2_with fail
      refine (HDX.out).mono ?_
      rintro e w15 ⟨rfl, hb⟩
      have hbc := hb
      have C_0_15 := Lib.hid (C_0_14.out.trans (Wrote.of_below _ hbc))
      have C_1_15 := Lib.hid (C_1_14.out.trans (Wrote.of_below _ hbc))
      have C_3_15 := Lib.hid (C_3_14.out.trans (Wrote.of_below _ hbc))
      have C_5_15 := Lib.hid (C_5_14.out.trans (Wrote.of_below _ hbc))
      have C_10_15 := Lib.hid (C_10_14.out.trans (Wrote.of_below _ hbc))
      have C_13_15 := Lib.hid (C_13_14.out.trans (Wrote.of_below _ hbc))
      have Z_15 : Hid (w14.heap.size ≤ w15.heap.size) := Lib.hid hb.size
      clear kPf_0 kPf_1 kPf_2 kkPf kXf_0 kXf_1 kXf_2 kkXf C_0_14 C_1_14 C_3_14 C_5_14 C_10_14 C_13_14 hb
      clear HDX
      go_wp2
      go_ret
      exact ⟨rfl, C_0_15.out.os, C_0_15.out.tape, C_0_15.out.output, C_0_15.out.size, fun k hk => C_0_15.out.block k hk (by intro hm; have z0 := Z_1.out; have z1 := Z_2.out; have z2 := Z_3.out; have z3 := Z_4.out; have z4 := Z_5.out; have z5 := Z_6.out; have z6 := Z_7.out; have z7 := Z_8.out; have z8 := Z_9.out; have z9 := Z_10.out; have z10 := Z_11.out; have z11 := Z_12.out; have z12 := Z_13.out; have z13 := Z_14.out; have z14 := Z_15.out; have d := hk; simp only [List.nil_append, List.mem_append] at hm; rcases hm with (hm) | hm <;> first | (have u := BKXf.out _ hm; omega) | (have u := BKGr0.out _ hm; omega))⟩
set_option maxRecDepth 100000 in
set_option maxHeartbeats 8000000 in
/-- The law's own walk, by contracts of the two texts. -/
theorem fnExactSetBlock_walk (f0 : Int) (f1 : Int) (a_f : Option Addr) (len_f cap_f : Nat) (zs_f : List Int) (x : Int) (y : Int) (a_m : Option Addr) (len_m cap_m : Nat) (zs_m : List Int) (wf_f0 : (Lit.int .i64 f0).wf = true) (wf_f1 : (Lit.int .i64 f1).wf = true) (wf_x : (Lit.int .i64 x).wf = true) (wf_y : (Lit.int .i64 y).wf = true) (w : World) (hr_f : IsRow .i64 w a_f len_f cap_f zs_f) (hr_m : IsRow .i64 w a_m len_m cap_m zs_m) :
    Calls Try.prog 9 #[.agg #[.int .i64 f0, .int .i64 f1, .slice a_f len_f cap_f], .int .i64 x, .int .i64 y, .slice a_m len_m cap_m] w fun e w' => e = .returned (.bool true) ∧ Below w.heap.size w w' := by
  have hlm_f := hr_f.len_le
  unfold maxLen at hlm_f
  have hlm_m := hr_m.len_le
  unfold maxLen at hlm_m
  by_cases hbig_m : 1048576 < len_m
  · have hqb : decide (1048576 < (len_m : Int)) = true := by simp; omega
    go_enter Try.func9, Try.ntmps9
    go_wp2
    go_ret
    exact ⟨rfl, (below_new _ _)⟩
  · have hqb_m : decide (1048576 < (len_m : Int)) = false := by simp; omega
    have SZ_f := Lib.hid fun wz (hz : Below w.heap.size w wz) => szframe_any a_f len_f cap_f f0 f1 (1048576) (by omega) (by omega) (by omega) wz
    by_cases hbig_f : 1048576 < ((len_f : Nat) : Int)
    · rw [if_pos hbig_f] at SZ_f
      have ENT := Lib.hid (below_new w (.cells #[.int .i64 f0, .int .i64 f1, .slice a_f len_f cap_f] 44))
      go_enter Try.func9, Try.ntmps9
      go_wp2_with fail
      refine (SZ_f.out _ ENT.out).mono ?_
      rintro e w1 ⟨rfl, hb1⟩
      have BZ1 := Lib.hid (below_up ENT.out hb1 ENT.out.size)
      clear hb1
      go_wp2
      go_ret
      exact ⟨rfl, BZ1.out⟩
    · rw [if_neg hbig_f] at SZ_f
      have hqz_f : decide (1048576 - ((len_f : Nat) : Int) < 0) = false := by simp; omega
      obtain ⟨l_f, rfl, hI_f, _, hcap_f⟩ := ints_of hr_f (by omega)
      have hll_f : l_f.length ≤ 1048576 := by omega
      have R_f := Lib.hid hI_f; clear hI_f hr_f
      obtain ⟨l_m, rfl, hI_m, _, hcap_m⟩ := ints_of hr_m (by omega)
      have hll_m : l_m.length ≤ 1048576 := by omega
      have R_m := Lib.hid hI_m; clear hI_m hr_m
      have ENT := Lib.hid (below_new w (.cells #[.int .i64 f0, .int .i64 f1, .slice a_f l_f.length cap_f] 44))
      have SP := Lib.hid (fun (Af : Option Addr) (cf : Nat) (Am : Option Addr) (cm : Nat) (w : World) (hf : Ints w w.heap.size Af l_f) (hcf : l_f.length ≤ cf) (hpf : Placed Af cf) (hm : Ints w w.heap.size Am l_m) (hcm : l_m.length ≤ cm) (hpm : Placed Am cm) => spec_setblock_any Af cf l_f f0 f1 x y Am cm l_m (by omega) hpf w hf hm)
      have IM := Lib.hid (fun (Af : Option Addr) (cf : Nat) (Am : Option Addr) (cm : Nat) (w : World) (hf : Ints w w.heap.size Af l_f) (hcf : l_f.length ≤ cf) (hpf : Placed Af cf) (hm : Ints w w.heap.size Am l_m) (hcm : l_m.length ≤ cm) (hpm : Placed Am cm) => impl_setblock_any Af cf l_f f0 f1 x y Am cm l_m (by omega) hpf hcm w hf hm)
      have hll_r0 : (sbL f0 f1 l_f x y l_m).length ≤ 1048576 := (by rw [sbL_len]; omega)
      obtain ⟨l_r0, hl_r0⟩ : ∃ r, r = sbL f0 f1 l_f x y l_m := ⟨_, rfl⟩
      rw [← hl_r0] at SP IM hll_r0
      clear hl_r0
      obtain ⟨r1, hr1⟩ : ∃ r, r = sbE f0 f1 l_f x y l_m := ⟨_, rfl⟩
      rw [← hr1] at SP IM
      clear hr1
      have hqr1 : (r1 != r1) = false := by simp
      clear hbig_f hbig_m hlm_f hlm_m
      go_enter Try.func9, Try.ntmps9
      go_wp2_with fail
      refine (SZ_f.out _ ENT.out).mono ?_
      rintro e w1 ⟨rfl, hb⟩
      have hbc := below_up ENT.out hb (ENT.out).size
      have C_0_1 : Hid (Wrote w w1 []) := Lib.hid (Wrote.of_below [] hbc)
      have HPf := Lib.hid (cell_kept (heap_alloc_new w (.cells #[.int .i64 f0, .int .i64 f1, .slice a_f l_f.length cap_f] 44)) hb)
      have Z_1 : Hid (w.heap.size + 1 ≤ w1.heap.size) := Lib.hid (by have := hb.size; simp only [World.size_alloc] at this; exact this)
      clear hbc hb
      have kkPf := HPf.out
      obtain ⟨kPf_0, kPf_1, kPf_2⟩ := cellsn3 kkPf
      go_wp2_with fail
      refine (toframe_any a_f cap_f l_f f0 f1 hll_f _ ((R_f.out.kept (fun k hk => C_0_1.out.block k hk (by simp))).mono C_0_1.out.size)).mono ?_
      rintro e w2 ⟨Afs, cfs, rfl, hofs, hb⟩
      have hbc := hb
      have C_0_2 := Lib.hid (C_0_1.out.trans (Wrote.of_below _ hbc))
      have C_1_2 : Hid (Wrote w1 w2 []) := Lib.hid (Wrote.of_below [] hbc)
      have Z_2 : Hid (w1.heap.size ≤ w2.heap.size) := Lib.hid hb.size
      clear kPf_0 kPf_1 kPf_2 kkPf C_0_1 hb
      have Xfs := Lib.hid hofs; have BKXfs := Lib.hid (hofs.fp); clear hofs
      have kkPf := (C_1_2.out.heap HPf.out (by simp))
      obtain ⟨kPf_0, kPf_1, kPf_2⟩ := cellsn3 kkPf
      go_wp2_with fail
      refine (toints_any a_m cap_m l_m hll_m _ ((R_m.out.kept (fun k hk => C_0_2.out.block k hk (by simp))).mono C_0_2.out.size)).mono ?_
      rintro e w3 ⟨Ams, cms, rfl, homs, hb⟩
      have hbc := hb
      have C_0_3 := Lib.hid (C_0_2.out.trans (Wrote.of_below _ hbc))
      have C_1_3 := Lib.hid (C_1_2.out.trans (Wrote.of_below _ hbc))
      have C_2_3 : Hid (Wrote w2 w3 []) := Lib.hid (Wrote.of_below [] hbc)
      have Z_3 : Hid (w2.heap.size ≤ w3.heap.size) := Lib.hid hb.size
      clear kPf_0 kPf_1 kPf_2 kkPf C_0_2 C_1_2 hb
      have Xms := Lib.hid homs; have BKXms := Lib.hid (homs.fp); clear homs
      have kkPf := (C_1_3.out.heap HPf.out (by simp))
      obtain ⟨kPf_0, kPf_1, kPf_2⟩ := cellsn3 kkPf
      go_wp2_with fail
      refine (SP.out Afs cfs Ams cms _ (OwnI.ints (Xfs.out.same (fun k hk => C_2_3.out.block k (Xfs.out.fp k hk).2 (by simp))) (by omega)) (OwnI.cap_le (Xfs.out.same (fun k hk => C_2_3.out.block k (Xfs.out.fp k hk).2 (by simp)))) (OwnI.placed (Xfs.out.same (fun k hk => C_2_3.out.block k (Xfs.out.fp k hk).2 (by simp)))) (OwnI.ints Xms.out (by omega)) (OwnI.cap_le Xms.out) (OwnI.placed Xms.out)).mono ?_
      rintro e w4 ⟨AYr0, cYr0, rfl, hoYr0, hb⟩
      have hbc := hb
      have C_0_4 := Lib.hid (C_0_3.out.trans (Wrote.of_below _ hbc))
      have C_1_4 := Lib.hid (C_1_3.out.trans (Wrote.of_below _ hbc))
      have C_2_4 := Lib.hid (C_2_3.out.trans (Wrote.of_below _ hbc))
      have C_3_4 : Hid (Wrote w3 w4 []) := Lib.hid (Wrote.of_below [] hbc)
      have Z_4 : Hid (w3.heap.size ≤ w4.heap.size) := Lib.hid hb.size
      clear kPf_0 kPf_1 kPf_2 kkPf C_0_3 C_1_3 C_2_3 hb
      have Yr0 := Lib.hid hoYr0; have BKYr0 := Lib.hid (hoYr0.fp); clear hoYr0
      clear Xfs Xms
      have kkPf := (C_1_4.out.heap HPf.out (by simp))
      obtain ⟨kPf_0, kPf_1, kPf_2⟩ := cellsn3 kkPf
      have qPf := heap_lt kkPf
      go_wp2_with fail
      refine (toframe_any a_f cap_f l_f f0 f1 hll_f _ ((R_f.out.kept (fun k hk => (C_0_4.out.trans (Wrote.of_below _ (below_new w4 (.cells #[.int .i64 f0, .int .i64 f1, .slice AYr0 l_r0.length cYr0] 26)))).block k hk (by simp))).mono (C_0_4.out.trans (Wrote.of_below _ (below_new w4 (.cells #[.int .i64 f0, .int .i64 f1, .slice AYr0 l_r0.length cYr0] 26)))).size)).mono ?_
      rintro e w5 ⟨Af, cf, rfl, hof, hb⟩
      have hbc := below_up (below_new w4 (.cells #[.int .i64 f0, .int .i64 f1, .slice AYr0 l_r0.length cYr0] 26)) hb ((below_new w4 (.cells #[.int .i64 f0, .int .i64 f1, .slice AYr0 l_r0.length cYr0] 26))).size
      have C_0_5 := Lib.hid (C_0_4.out.trans (Wrote.of_below _ hbc))
      have C_1_5 := Lib.hid (C_1_4.out.trans (Wrote.of_below _ hbc))
      have C_4_5 : Hid (Wrote w4 w5 []) := Lib.hid (Wrote.of_below [] hbc)
      have HBYr0 := Lib.hid (cell_kept (heap_alloc_new w4 (.cells #[.int .i64 f0, .int .i64 f1, .slice AYr0 l_r0.length cYr0] 26)) hb)
      have Z_5 : Hid (w4.heap.size + 1 ≤ w5.heap.size) := Lib.hid (by have := hb.size; simp only [World.size_alloc] at this; exact this)
      clear kPf_0 kPf_1 kPf_2 kkPf qPf C_0_4 C_1_4 hbc hb
      simp only [World.size_alloc] at hof
      have Xf := Lib.hid hof; have BKXf := Lib.hid (hof.fp); clear hof
      have kkPf := (C_1_5.out.heap HPf.out (by simp))
      obtain ⟨kPf_0, kPf_1, kPf_2⟩ := cellsn3 kkPf
      have qPf := heap_lt kkPf
      have kkBYr0 := HBYr0.out
      obtain ⟨kBYr0_0, kBYr0_1, kBYr0_2⟩ := cellsn3 kkBYr0
      have qBYr0 := heap_lt kkBYr0
      go_wp2_with fail
      refine (toints_any a_m cap_m l_m hll_m _ ((R_m.out.kept (fun k hk => (C_0_5.out.trans (Wrote.of_below _ (below_new w5 (.cells #[.int .i64 f0, .int .i64 f1, .slice Af l_f.length cf] 26)))).block k hk (by simp))).mono (C_0_5.out.trans (Wrote.of_below _ (below_new w5 (.cells #[.int .i64 f0, .int .i64 f1, .slice Af l_f.length cf] 26)))).size)).mono ?_
      rintro e w6 ⟨Am, cm, rfl, hom, hb⟩
      have hbc := below_up (below_new w5 (.cells #[.int .i64 f0, .int .i64 f1, .slice Af l_f.length cf] 26)) hb ((below_new w5 (.cells #[.int .i64 f0, .int .i64 f1, .slice Af l_f.length cf] 26))).size
      have C_0_6 := Lib.hid (C_0_5.out.trans (Wrote.of_below _ hbc))
      have C_1_6 := Lib.hid (C_1_5.out.trans (Wrote.of_below _ hbc))
      have C_4_6 := Lib.hid (C_4_5.out.trans (Wrote.of_below _ hbc))
      have C_5_6 : Hid (Wrote w5 w6 []) := Lib.hid (Wrote.of_below [] hbc)
      have HXf := Lib.hid (cell_kept (heap_alloc_new w5 (.cells #[.int .i64 f0, .int .i64 f1, .slice Af l_f.length cf] 26)) hb)
      have Z_6 : Hid (w5.heap.size + 1 ≤ w6.heap.size) := Lib.hid (by have := hb.size; simp only [World.size_alloc] at this; exact this)
      clear kPf_0 kPf_1 kPf_2 kkPf qPf kBYr0_0 kBYr0_1 kBYr0_2 kkBYr0 qBYr0 C_0_5 C_1_5 C_4_5 hbc hb
      simp only [World.size_alloc] at hom
      have Xm := Lib.hid hom; have BKXm := Lib.hid (hom.fp); clear hom
      have kkPf := (C_1_6.out.heap HPf.out (by simp))
      obtain ⟨kPf_0, kPf_1, kPf_2⟩ := cellsn3 kkPf
      have kkBYr0 := (C_5_6.out.heap HBYr0.out (by simp))
      obtain ⟨kBYr0_0, kBYr0_1, kBYr0_2⟩ := cellsn3 kkBYr0
      have kkXf := HXf.out
      obtain ⟨kXf_0, kXf_1, kXf_2⟩ := cellsn3 kkXf
      go_wp2_with fail
      refine (IM.out Af cf Am cm _ (OwnI.ints (Xf.out.same (fun k hk => C_5_6.out.block k (Xf.out.fp k hk).2 (by simp))) (by omega)) (OwnI.cap_le (Xf.out.same (fun k hk => C_5_6.out.block k (Xf.out.fp k hk).2 (by simp)))) (OwnI.placed (Xf.out.same (fun k hk => C_5_6.out.block k (Xf.out.fp k hk).2 (by simp)))) (OwnI.ints Xm.out (by omega)) (OwnI.cap_le Xm.out) (OwnI.placed Xm.out)).mono ?_
      rintro e w7 ⟨AGr0, cGr0, rfl, hoGr0, hb⟩
      have hbc := hb
      have C_0_7 := Lib.hid (C_0_6.out.trans (Wrote.of_below _ hbc))
      have C_1_7 := Lib.hid (C_1_6.out.trans (Wrote.of_below _ hbc))
      have C_4_7 := Lib.hid (C_4_6.out.trans (Wrote.of_below _ hbc))
      have C_5_7 := Lib.hid (C_5_6.out.trans (Wrote.of_below _ hbc))
      have C_6_7 : Hid (Wrote w6 w7 []) := Lib.hid (Wrote.of_below [] hbc)
      have Z_7 : Hid (w6.heap.size ≤ w7.heap.size) := Lib.hid hb.size
      clear kPf_0 kPf_1 kPf_2 kkPf kBYr0_0 kBYr0_1 kBYr0_2 kkBYr0 kXf_0 kXf_1 kXf_2 kkXf C_0_6 C_1_6 C_4_6 C_5_6 hb
      have Gr0 := Lib.hid hoGr0; have BKGr0 := Lib.hid (hoGr0.fp); clear hoGr0
      have kkPf := (C_1_7.out.heap HPf.out (by simp))
      obtain ⟨kPf_0, kPf_1, kPf_2⟩ := cellsn3 kkPf
      have qPf := heap_lt kkPf
      have kkBYr0 := (C_5_7.out.heap HBYr0.out (by simp))
      obtain ⟨kBYr0_0, kBYr0_1, kBYr0_2⟩ := cellsn3 kkBYr0
      have qBYr0 := heap_lt kkBYr0
      have kkXf := (C_6_7.out.heap HXf.out (by simp))
      obtain ⟨kXf_0, kXf_1, kXf_2⟩ := cellsn3 kkXf
      have qXf := heap_lt kkXf
      go_wp2_with fail
      refine (eqframe_same AGr0 AYr0 cGr0 cYr0 l_r0 f0 f1 _ (OwnI.ints (Gr0.out.same (fun k hk => (Wrote.of_below [] (below_new w7 (.cells #[.int .i64 f0, .int .i64 f1, .slice AGr0 l_r0.length cGr0] 26))).block k (Gr0.out.fp k hk).2 (by simp))) (by omega)) (OwnI.ints (Yr0.out.same (fun k hk => (C_4_7.out.trans (Wrote.of_below _ (below_new w7 (.cells #[.int .i64 f0, .int .i64 f1, .slice AGr0 l_r0.length cGr0] 26)))).block k (Yr0.out.fp k hk).2 (by simp))) (by omega))).mono ?_
      rintro e w8 ⟨rfl, hb⟩
      have hbc := below_up (below_new w7 (.cells #[.int .i64 f0, .int .i64 f1, .slice AGr0 l_r0.length cGr0] 26)) hb ((below_new w7 (.cells #[.int .i64 f0, .int .i64 f1, .slice AGr0 l_r0.length cGr0] 26))).size
      have C_0_8 := Lib.hid (C_0_7.out.trans (Wrote.of_below _ hbc))
      have C_1_8 := Lib.hid (C_1_7.out.trans (Wrote.of_below _ hbc))
      have C_4_8 := Lib.hid (C_4_7.out.trans (Wrote.of_below _ hbc))
      have C_5_8 := Lib.hid (C_5_7.out.trans (Wrote.of_below _ hbc))
      have C_6_8 := Lib.hid (C_6_7.out.trans (Wrote.of_below _ hbc))
      have C_7_8 : Hid (Wrote w7 w8 []) := Lib.hid (Wrote.of_below [] hbc)
      have HBGr0 := Lib.hid (cell_kept (heap_alloc_new w7 (.cells #[.int .i64 f0, .int .i64 f1, .slice AGr0 l_r0.length cGr0] 26)) hb)
      have Z_8 : Hid (w7.heap.size + 1 ≤ w8.heap.size) := Lib.hid (by have := hb.size; simp only [World.size_alloc] at this; exact this)
      clear kPf_0 kPf_1 kPf_2 kkPf qPf kBYr0_0 kBYr0_1 kBYr0_2 kkBYr0 qBYr0 kXf_0 kXf_1 kXf_2 kkXf qXf C_0_7 C_1_7 C_4_7 C_5_7 C_6_7 hbc hb
      have kkPf := (C_1_8.out.heap HPf.out (by simp))
      obtain ⟨kPf_0, kPf_1, kPf_2⟩ := cellsn3 kkPf
      have kkBYr0 := (C_5_8.out.heap HBYr0.out (by simp))
      obtain ⟨kBYr0_0, kBYr0_1, kBYr0_2⟩ := cellsn3 kkBYr0
      have kkXf := (C_6_8.out.heap HXf.out (by simp))
      obtain ⟨kXf_0, kXf_1, kXf_2⟩ := cellsn3 kkXf
      have kkBGr0 := HBGr0.out
      obtain ⟨kBGr0_0, kBGr0_1, kBGr0_2⟩ := cellsn3 kkBGr0
      have hS : w8.cell? ⟨w.heap.size, 0, none⟩ = some (.int .i64 f0) ∧ w8.cell? ⟨w.heap.size, 1, none⟩ = some (.int .i64 f1) ∧ w8.cell? ⟨w.heap.size, 2, none⟩ = some (.slice a_f l_f.length cap_f) ∧ w8.cell? ⟨w5.heap.size, 0, none⟩ = some (.int .i64 f0) ∧ w8.cell? ⟨w5.heap.size, 1, none⟩ = some (.int .i64 f1) ∧ w8.cell? ⟨w5.heap.size, 2, none⟩ = some (.slice Af l_f.length cf) ∧ Below w8.heap.size w8 w8 ∧ w8.heap.size ≤ w8.heap.size := ⟨kPf_0, kPf_1, kPf_2, kXf_0, kXf_1, kXf_2, Below.refl _ _, Nat.le_refl _⟩
      have OX := Lib.hid (Xf.out.same (fun k hk => C_5_8.out.block k (Xf.out.fp k hk).2 (by simp)))
      have RV0 := Lib.hid ((R_f.out.kept (fun k hk => C_0_8.out.block k hk (by simp))).mono C_0_8.out.size)
      have TOS := Lib.hid fun wr (h : Below w8.heap.size w8 wr) => toframe_any a_f cap_f l_f f0 f1 hll_f wr ((RV0.out.below h (Nat.le_refl _)).mono h.size)
      have EQS := Lib.hid fun (Aft : Option Addr) (cft : Nat) (b : Nat) wr (h : Below w8.heap.size w8 wr) (ho : OwnI wr (b) Aft cft l_f) => eqframe_same Af Aft cf cft l_f f0 f1 wr (OwnI.ints (OX.out.same (fun k hk => h.block k (OX.out.fp k hk).2)) (by omega)) (OwnI.ints ho (by omega))
      clear kPf_0 kPf_1 kPf_2 kkPf kBYr0_0 kBYr0_1 kBYr0_2 kkBYr0 kXf_0 kXf_1 kXf_2 kkXf kBGr0_0 kBGr0_1 kBGr0_2 kkBGr0
      go_wp2_with fail
      go_region_held3 (fun w' => w'.cell? ⟨w.heap.size, 0, none⟩ = some (.int .i64 f0) ∧ w'.cell? ⟨w.heap.size, 1, none⟩ = some (.int .i64 f1) ∧ w'.cell? ⟨w.heap.size, 2, none⟩ = some (.slice a_f l_f.length cap_f) ∧ w'.cell? ⟨w5.heap.size, 0, none⟩ = some (.int .i64 f0) ∧ w'.cell? ⟨w5.heap.size, 1, none⟩ = some (.int .i64 f1) ∧ w'.cell? ⟨w5.heap.size, 2, none⟩ = some (.slice Af l_f.length cf) ∧ Below w8.heap.size w8 w' ∧ w8.heap.size ≤ w'.heap.size)
        (first | with_reducible assumption | (with_reducible refine heldx6_drew ?_; with_reducible assumption) | (with_reducible refine heldx6 ?_ (by with_reducible assumption); with_reducible assumption))
        (first
          | (go_at_call 31; (with_reducible refine (TOS.out _ (heldx6_below (by with_reducible assumption))).mono ?_); rintro e wt ⟨Aft, cft, rfl, ho', hb'⟩)
          | (go_at_call 32; (with_reducible refine (EQS.out _ _ _ _ (heldx6_below (by with_reducible assumption)) (by first | with_reducible assumption | (with_reducible refine World.ownsRow.drew ?_; with_reducible assumption))).mono ?_); rintro e w9 ⟨rfl, hbt⟩))
      all_goals
        have hb : Below w8.heap.size w8 w9 := heldx6_below (by with_reducible assumption)
        have hbc := hb
        have C_0_9 := Lib.hid (C_0_8.out.trans (Wrote.of_below _ hbc))
        have C_1_9 := Lib.hid (C_1_8.out.trans (Wrote.of_below _ hbc))
        have C_4_9 := Lib.hid (C_4_8.out.trans (Wrote.of_below _ hbc))
        have C_5_9 := Lib.hid (C_5_8.out.trans (Wrote.of_below _ hbc))
        have C_6_9 := Lib.hid (C_6_8.out.trans (Wrote.of_below _ hbc))
        have C_7_9 := Lib.hid (C_7_8.out.trans (Wrote.of_below _ hbc))
        have C_8_9 : Hid (Wrote w8 w9 []) := Lib.hid (Wrote.of_below [] hbc)
        have Z_9 : Hid (w8.heap.size ≤ w9.heap.size) := Lib.hid hb.size
        clear C_0_8 C_1_8 C_4_8 C_5_8 C_6_8 C_7_8 hb
        clear TOS EQS OX RV0
        have kkPf := (C_1_9.out.heap HPf.out (by simp))
        obtain ⟨kPf_0, kPf_1, kPf_2⟩ := cellsn3 kkPf
        have kkBYr0 := (C_5_9.out.heap HBYr0.out (by simp))
        obtain ⟨kBYr0_0, kBYr0_1, kBYr0_2⟩ := cellsn3 kkBYr0
        have kkXf := (C_6_9.out.heap HXf.out (by simp))
        obtain ⟨kXf_0, kXf_1, kXf_2⟩ := cellsn3 kkXf
        have kkBGr0 := (C_8_9.out.heap HBGr0.out (by simp))
        obtain ⟨kBGr0_0, kBGr0_1, kBGr0_2⟩ := cellsn3 kkBGr0
        go_wp2_with fail
        refine (toints_any a_m cap_m l_m hll_m _ ((R_m.out.kept (fun k hk => C_0_9.out.block k hk (by simp))).mono C_0_9.out.size)).mono ?_
        rintro e w10 ⟨Amt, cmt, rfl, homt, hb⟩
        have hbc := hb
        have C_0_10 := Lib.hid (C_0_9.out.trans (Wrote.of_below _ hbc))
        have C_1_10 := Lib.hid (C_1_9.out.trans (Wrote.of_below _ hbc))
        have C_4_10 := Lib.hid (C_4_9.out.trans (Wrote.of_below _ hbc))
        have C_5_10 := Lib.hid (C_5_9.out.trans (Wrote.of_below _ hbc))
        have C_6_10 := Lib.hid (C_6_9.out.trans (Wrote.of_below _ hbc))
        have C_7_10 := Lib.hid (C_7_9.out.trans (Wrote.of_below _ hbc))
        have C_8_10 := Lib.hid (C_8_9.out.trans (Wrote.of_below _ hbc))
        have Z_10 : Hid (w9.heap.size ≤ w10.heap.size) := Lib.hid hb.size
        clear kPf_0 kPf_1 kPf_2 kkPf kBYr0_0 kBYr0_1 kBYr0_2 kkBYr0 kXf_0 kXf_1 kXf_2 kkXf kBGr0_0 kBGr0_1 kBGr0_2 kkBGr0 C_0_9 C_1_9 C_4_9 C_5_9 C_6_9 C_7_9 C_8_9 hb
        have Xmt := Lib.hid homt; have BKXmt := Lib.hid (homt.fp); clear homt
        have kkPf := (C_1_10.out.heap HPf.out (by simp))
        obtain ⟨kPf_0, kPf_1, kPf_2⟩ := cellsn3 kkPf
        have kkBYr0 := (C_5_10.out.heap HBYr0.out (by simp))
        obtain ⟨kBYr0_0, kBYr0_1, kBYr0_2⟩ := cellsn3 kkBYr0
        have kkXf := (C_6_10.out.heap HXf.out (by simp))
        obtain ⟨kXf_0, kXf_1, kXf_2⟩ := cellsn3 kkXf
        have kkBGr0 := (C_8_10.out.heap HBGr0.out (by simp))
        obtain ⟨kBGr0_0, kBGr0_1, kBGr0_2⟩ := cellsn3 kkBGr0
        go_wp2_with fail
        refine (eqints_at Am Amt cm cmt l_m.length l_m rfl _ (OwnI.ints (Xm.out.same (fun k hk => C_6_10.out.block k (Xm.out.fp k hk).2 (by simp))) (by omega)) (OwnI.ints Xmt.out (by omega))).mono ?_
        rintro e w11 ⟨rfl, hb⟩
        have hbc := hb
        have C_0_11 := Lib.hid (C_0_10.out.trans (Wrote.of_below _ hbc))
        have C_1_11 := Lib.hid (C_1_10.out.trans (Wrote.of_below _ hbc))
        have C_4_11 := Lib.hid (C_4_10.out.trans (Wrote.of_below _ hbc))
        have C_5_11 := Lib.hid (C_5_10.out.trans (Wrote.of_below _ hbc))
        have C_6_11 := Lib.hid (C_6_10.out.trans (Wrote.of_below _ hbc))
        have C_7_11 := Lib.hid (C_7_10.out.trans (Wrote.of_below _ hbc))
        have C_8_11 := Lib.hid (C_8_10.out.trans (Wrote.of_below _ hbc))
        have C_10_11 : Hid (Wrote w10 w11 []) := Lib.hid (Wrote.of_below [] hbc)
        have Z_11 : Hid (w10.heap.size ≤ w11.heap.size) := Lib.hid hb.size
        clear kPf_0 kPf_1 kPf_2 kkPf kBYr0_0 kBYr0_1 kBYr0_2 kkBYr0 kXf_0 kXf_1 kXf_2 kkXf kBGr0_0 kBGr0_1 kBGr0_2 kkBGr0 C_0_10 C_1_10 C_4_10 C_5_10 C_6_10 C_7_10 C_8_10 hb
        clear Xmt
        have MKX := Lib.hid (markframe_at _ Af cf l_f f0 f1 (1) (by omega) (by omega) _ (Xf.out.same (fun k hk => C_5_11.out.block k (Xf.out.fp k hk).2 (by simp))))
        rw [show ((1 : Nat) : Int) = 1 from rfl] at MKX
        obtain ⟨K1, hK1⟩ : ∃ K : Nat, K = 1 + l_f.length := ⟨_, rfl⟩
        rw [← hK1] at MKX
        have hbK1 : K1 ≤ 4194304 := by omega
        have HHK1 := Lib.hid hK1; clear hK1
        have kkPf := (C_1_11.out.heap HPf.out (by simp))
        obtain ⟨kPf_0, kPf_1, kPf_2⟩ := cellsn3 kkPf
        have kkBYr0 := (C_5_11.out.heap HBYr0.out (by simp))
        obtain ⟨kBYr0_0, kBYr0_1, kBYr0_2⟩ := cellsn3 kkBYr0
        have kkXf := (C_6_11.out.heap HXf.out (by simp))
        obtain ⟨kXf_0, kXf_1, kXf_2⟩ := cellsn3 kkXf
        have kkBGr0 := (C_8_11.out.heap HBGr0.out (by simp))
        obtain ⟨kBGr0_0, kBGr0_1, kBGr0_2⟩ := cellsn3 kkBGr0
        go_wp2_with fail
        refine (MKX.out).mono ?_
        rintro e w12 ⟨rfl, ho, hg⟩
        have hwc := hg
        have C_0_12 := Lib.hid ((C_0_11.out.mono (fun _ h => List.mem_append_left (obk Af) h)).trans (hwc.mono (fun _ h => List.mem_append_right _ h)))
        have C_1_12 := Lib.hid ((C_1_11.out.mono (fun _ h => List.mem_append_left (obk Af) h)).trans (hwc.mono (fun _ h => List.mem_append_right _ h)))
        have C_4_12 := Lib.hid ((C_4_11.out.mono (fun _ h => List.mem_append_left (obk Af) h)).trans (hwc.mono (fun _ h => List.mem_append_right _ h)))
        have C_5_12 := Lib.hid ((C_5_11.out.mono (fun _ h => List.mem_append_left (obk Af) h)).trans (hwc.mono (fun _ h => List.mem_append_right _ h)))
        have C_6_12 := Lib.hid ((C_6_11.out.mono (fun _ h => List.mem_append_left (obk Af) h)).trans (hwc.mono (fun _ h => List.mem_append_right _ h)))
        have C_7_12 := Lib.hid ((C_7_11.out.mono (fun _ h => List.mem_append_left (obk Af) h)).trans (hwc.mono (fun _ h => List.mem_append_right _ h)))
        have C_8_12 := Lib.hid ((C_8_11.out.mono (fun _ h => List.mem_append_left (obk Af) h)).trans (hwc.mono (fun _ h => List.mem_append_right _ h)))
        have Z_12 : Hid (w11.heap.size ≤ w12.heap.size) := Lib.hid hg.size
        clear kPf_0 kPf_1 kPf_2 kkPf kBYr0_0 kBYr0_1 kBYr0_2 kkBYr0 kXf_0 kXf_1 kXf_2 kkXf kBGr0_0 kBGr0_1 kBGr0_2 kkBGr0 C_0_11 C_1_11 C_4_11 C_5_11 C_6_11 C_7_11 C_8_11 hg
        clear MKX Xf
        clear ho
        have MKX := Lib.hid (markints_at _ Am cm l_m.length l_m (K1) rfl (by omega) (by omega) _ (Xm.out.same (fun k hk => C_6_12.out.block k (Xm.out.fp k hk).2 (by intro hm; have z0 := Z_1.out; have z1 := Z_2.out; have z2 := Z_3.out; have z3 := Z_4.out; have z4 := Z_5.out; have z5 := Z_6.out; have z6 := Z_7.out; have z7 := Z_8.out; have z8 := Z_9.out; have z9 := Z_10.out; have z10 := Z_11.out; have z11 := Z_12.out; have d := Xm.out.fp k hk; simp only [List.nil_append] at hm; have u := BKXf.out _ hm; omega))))
        obtain ⟨K2, hK2⟩ : ∃ K : Nat, K = K1 + l_m.length := ⟨_, rfl⟩
        rw [← hK2] at MKX
        have hbK2 : K2 ≤ 6291456 := by omega
        have HHK2 := Lib.hid hK2; clear hK2
        have kkPf := (C_1_12.out.heap HPf.out (by intro hm; have z0 := Z_1.out; have z1 := Z_2.out; have z2 := Z_3.out; have z3 := Z_4.out; have z4 := Z_5.out; have z5 := Z_6.out; have z6 := Z_7.out; have z7 := Z_8.out; have z8 := Z_9.out; have z9 := Z_10.out; have z10 := Z_11.out; have z11 := Z_12.out; skip; simp only [List.nil_append] at hm; have u := BKXf.out _ hm; omega))
        obtain ⟨kPf_0, kPf_1, kPf_2⟩ := cellsn3 kkPf
        have kkBYr0 := (C_5_12.out.heap HBYr0.out (by intro hm; have z0 := Z_1.out; have z1 := Z_2.out; have z2 := Z_3.out; have z3 := Z_4.out; have z4 := Z_5.out; have z5 := Z_6.out; have z6 := Z_7.out; have z7 := Z_8.out; have z8 := Z_9.out; have z9 := Z_10.out; have z10 := Z_11.out; have z11 := Z_12.out; skip; simp only [List.nil_append] at hm; have u := BKXf.out _ hm; omega))
        obtain ⟨kBYr0_0, kBYr0_1, kBYr0_2⟩ := cellsn3 kkBYr0
        have kkXf := (C_6_12.out.heap HXf.out (by intro hm; have z0 := Z_1.out; have z1 := Z_2.out; have z2 := Z_3.out; have z3 := Z_4.out; have z4 := Z_5.out; have z5 := Z_6.out; have z6 := Z_7.out; have z7 := Z_8.out; have z8 := Z_9.out; have z9 := Z_10.out; have z10 := Z_11.out; have z11 := Z_12.out; skip; simp only [List.nil_append] at hm; have u := BKXf.out _ hm; omega))
        obtain ⟨kXf_0, kXf_1, kXf_2⟩ := cellsn3 kkXf
        have kkBGr0 := (C_8_12.out.heap HBGr0.out (by intro hm; have z0 := Z_1.out; have z1 := Z_2.out; have z2 := Z_3.out; have z3 := Z_4.out; have z4 := Z_5.out; have z5 := Z_6.out; have z6 := Z_7.out; have z7 := Z_8.out; have z8 := Z_9.out; have z9 := Z_10.out; have z10 := Z_11.out; have z11 := Z_12.out; skip; simp only [List.nil_append] at hm; have u := BKXf.out _ hm; omega))
        obtain ⟨kBGr0_0, kBGr0_1, kBGr0_2⟩ := cellsn3 kkBGr0
        go_wp2_with fail
        refine (MKX.out).mono ?_
        rintro e w13 ⟨rfl, ho, hg⟩
        have hwc := hg
        have C_0_13 := Lib.hid ((C_0_12.out.mono (fun _ h => List.mem_append_left (obk Am) h)).trans (hwc.mono (fun _ h => List.mem_append_right _ h)))
        have C_1_13 := Lib.hid ((C_1_12.out.mono (fun _ h => List.mem_append_left (obk Am) h)).trans (hwc.mono (fun _ h => List.mem_append_right _ h)))
        have C_4_13 := Lib.hid ((C_4_12.out.mono (fun _ h => List.mem_append_left (obk Am) h)).trans (hwc.mono (fun _ h => List.mem_append_right _ h)))
        have C_5_13 := Lib.hid ((C_5_12.out.mono (fun _ h => List.mem_append_left (obk Am) h)).trans (hwc.mono (fun _ h => List.mem_append_right _ h)))
        have C_6_13 := Lib.hid ((C_6_12.out.mono (fun _ h => List.mem_append_left (obk Am) h)).trans (hwc.mono (fun _ h => List.mem_append_right _ h)))
        have C_7_13 := Lib.hid ((C_7_12.out.mono (fun _ h => List.mem_append_left (obk Am) h)).trans (hwc.mono (fun _ h => List.mem_append_right _ h)))
        have C_8_13 := Lib.hid ((C_8_12.out.mono (fun _ h => List.mem_append_left (obk Am) h)).trans (hwc.mono (fun _ h => List.mem_append_right _ h)))
        have Z_13 : Hid (w12.heap.size ≤ w13.heap.size) := Lib.hid hg.size
        clear kPf_0 kPf_1 kPf_2 kkPf kBYr0_0 kBYr0_1 kBYr0_2 kkBYr0 kXf_0 kXf_1 kXf_2 kkXf kBGr0_0 kBGr0_1 kBGr0_2 kkBGr0 C_0_12 C_1_12 C_4_12 C_5_12 C_6_12 C_7_12 C_8_12 hg
        clear MKX Xm
        clear ho
        have hmk : decide ((K2 : Int) < 0) = false := by simp
        have kkPf := (C_1_13.out.heap HPf.out (by intro hm; have z0 := Z_1.out; have z1 := Z_2.out; have z2 := Z_3.out; have z3 := Z_4.out; have z4 := Z_5.out; have z5 := Z_6.out; have z6 := Z_7.out; have z7 := Z_8.out; have z8 := Z_9.out; have z9 := Z_10.out; have z10 := Z_11.out; have z11 := Z_12.out; have z12 := Z_13.out; skip; simp only [List.nil_append, List.mem_append] at hm; rcases hm with (hm) | hm <;> first | (have u := BKXf.out _ hm; omega) | (have u := BKXm.out _ hm; omega)))
        obtain ⟨kPf_0, kPf_1, kPf_2⟩ := cellsn3 kkPf
        have kkBYr0 := (C_5_13.out.heap HBYr0.out (by intro hm; have z0 := Z_1.out; have z1 := Z_2.out; have z2 := Z_3.out; have z3 := Z_4.out; have z4 := Z_5.out; have z5 := Z_6.out; have z6 := Z_7.out; have z7 := Z_8.out; have z8 := Z_9.out; have z9 := Z_10.out; have z10 := Z_11.out; have z11 := Z_12.out; have z12 := Z_13.out; skip; simp only [List.nil_append, List.mem_append] at hm; rcases hm with (hm) | hm <;> first | (have u := BKXf.out _ hm; omega) | (have u := BKXm.out _ hm; omega)))
        obtain ⟨kBYr0_0, kBYr0_1, kBYr0_2⟩ := cellsn3 kkBYr0
        have kkXf := (C_6_13.out.heap HXf.out (by intro hm; have z0 := Z_1.out; have z1 := Z_2.out; have z2 := Z_3.out; have z3 := Z_4.out; have z4 := Z_5.out; have z5 := Z_6.out; have z6 := Z_7.out; have z7 := Z_8.out; have z8 := Z_9.out; have z9 := Z_10.out; have z10 := Z_11.out; have z11 := Z_12.out; have z12 := Z_13.out; skip; simp only [List.nil_append, List.mem_append] at hm; rcases hm with (hm) | hm <;> first | (have u := BKXf.out _ hm; omega) | (have u := BKXm.out _ hm; omega)))
        obtain ⟨kXf_0, kXf_1, kXf_2⟩ := cellsn3 kkXf
        have kkBGr0 := (C_8_13.out.heap HBGr0.out (by intro hm; have z0 := Z_1.out; have z1 := Z_2.out; have z2 := Z_3.out; have z3 := Z_4.out; have z4 := Z_5.out; have z5 := Z_6.out; have z6 := Z_7.out; have z7 := Z_8.out; have z8 := Z_9.out; have z9 := Z_10.out; have z10 := Z_11.out; have z11 := Z_12.out; have z12 := Z_13.out; skip; simp only [List.nil_append, List.mem_append] at hm; rcases hm with (hm) | hm <;> first | (have u := BKXf.out _ hm; omega) | (have u := BKXm.out _ hm; omega)))
        obtain ⟨kBGr0_0, kBGr0_1, kBGr0_2⟩ := cellsn3 kkBGr0
        go_wp2_with fail
        refine (eqframe_same AGr0 AYr0 cGr0 cYr0 l_r0 f0 f1 _ (OwnI.ints (Gr0.out.same (fun k hk => C_7_13.out.block k (Gr0.out.fp k hk).2 (by intro hm; have z0 := Z_1.out; have z1 := Z_2.out; have z2 := Z_3.out; have z3 := Z_4.out; have z4 := Z_5.out; have z5 := Z_6.out; have z6 := Z_7.out; have z7 := Z_8.out; have z8 := Z_9.out; have z9 := Z_10.out; have z10 := Z_11.out; have z11 := Z_12.out; have z12 := Z_13.out; have d := Gr0.out.fp k hk; simp only [List.nil_append, List.mem_append] at hm; rcases hm with (hm) | hm <;> first | (have u := BKXf.out _ hm; omega) | (have u := BKXm.out _ hm; omega)))) (by omega)) (OwnI.ints (Yr0.out.same (fun k hk => C_4_13.out.block k (Yr0.out.fp k hk).2 (by intro hm; have z0 := Z_1.out; have z1 := Z_2.out; have z2 := Z_3.out; have z3 := Z_4.out; have z4 := Z_5.out; have z5 := Z_6.out; have z6 := Z_7.out; have z7 := Z_8.out; have z8 := Z_9.out; have z9 := Z_10.out; have z10 := Z_11.out; have z11 := Z_12.out; have z12 := Z_13.out; have d := Yr0.out.fp k hk; simp only [List.nil_append, List.mem_append] at hm; rcases hm with (hm) | hm <;> first | (have u := BKXf.out _ hm; omega) | (have u := BKXm.out _ hm; omega)))) (by omega))).mono ?_
        rintro e w14 ⟨rfl, hb⟩
        have hbc := hb
        have C_0_14 := Lib.hid (C_0_13.out.trans (Wrote.of_below _ hbc))
        have C_1_14 := Lib.hid (C_1_13.out.trans (Wrote.of_below _ hbc))
        have C_4_14 := Lib.hid (C_4_13.out.trans (Wrote.of_below _ hbc))
        have C_5_14 := Lib.hid (C_5_13.out.trans (Wrote.of_below _ hbc))
        have C_6_14 := Lib.hid (C_6_13.out.trans (Wrote.of_below _ hbc))
        have C_7_14 := Lib.hid (C_7_13.out.trans (Wrote.of_below _ hbc))
        have C_8_14 := Lib.hid (C_8_13.out.trans (Wrote.of_below _ hbc))
        have Z_14 : Hid (w13.heap.size ≤ w14.heap.size) := Lib.hid hb.size
        clear kPf_0 kPf_1 kPf_2 kkPf kBYr0_0 kBYr0_1 kBYr0_2 kkBYr0 kXf_0 kXf_1 kXf_2 kkXf kBGr0_0 kBGr0_1 kBGr0_2 kkBGr0 C_0_13 C_1_13 C_4_13 C_5_13 C_6_13 C_7_13 C_8_13 hb
        have MKX := Lib.hid (markframe_at _ AGr0 cGr0 l_r0 f0 f1 (1) (by omega) (by omega) _ (Gr0.out.same (fun k hk => C_7_14.out.block k (Gr0.out.fp k hk).2 (by intro hm; have z0 := Z_1.out; have z1 := Z_2.out; have z2 := Z_3.out; have z3 := Z_4.out; have z4 := Z_5.out; have z5 := Z_6.out; have z6 := Z_7.out; have z7 := Z_8.out; have z8 := Z_9.out; have z9 := Z_10.out; have z10 := Z_11.out; have z11 := Z_12.out; have z12 := Z_13.out; have z13 := Z_14.out; have d := Gr0.out.fp k hk; simp only [List.nil_append, List.mem_append] at hm; rcases hm with (hm) | hm <;> first | (have u := BKXf.out _ hm; omega) | (have u := BKXm.out _ hm; omega)))))
        rw [show ((1 : Nat) : Int) = 1 from rfl] at MKX
        obtain ⟨K3, hK3⟩ : ∃ K : Nat, K = 1 + l_r0.length := ⟨_, rfl⟩
        rw [← hK3] at MKX
        have hbK3 : K3 ≤ 8388608 := by omega
        have HHK3 := Lib.hid hK3; clear hK3
        have kkPf := (C_1_14.out.heap HPf.out (by intro hm; have z0 := Z_1.out; have z1 := Z_2.out; have z2 := Z_3.out; have z3 := Z_4.out; have z4 := Z_5.out; have z5 := Z_6.out; have z6 := Z_7.out; have z7 := Z_8.out; have z8 := Z_9.out; have z9 := Z_10.out; have z10 := Z_11.out; have z11 := Z_12.out; have z12 := Z_13.out; have z13 := Z_14.out; skip; simp only [List.nil_append, List.mem_append] at hm; rcases hm with (hm) | hm <;> first | (have u := BKXf.out _ hm; omega) | (have u := BKXm.out _ hm; omega)))
        obtain ⟨kPf_0, kPf_1, kPf_2⟩ := cellsn3 kkPf
        have kkBYr0 := (C_5_14.out.heap HBYr0.out (by intro hm; have z0 := Z_1.out; have z1 := Z_2.out; have z2 := Z_3.out; have z3 := Z_4.out; have z4 := Z_5.out; have z5 := Z_6.out; have z6 := Z_7.out; have z7 := Z_8.out; have z8 := Z_9.out; have z9 := Z_10.out; have z10 := Z_11.out; have z11 := Z_12.out; have z12 := Z_13.out; have z13 := Z_14.out; skip; simp only [List.nil_append, List.mem_append] at hm; rcases hm with (hm) | hm <;> first | (have u := BKXf.out _ hm; omega) | (have u := BKXm.out _ hm; omega)))
        obtain ⟨kBYr0_0, kBYr0_1, kBYr0_2⟩ := cellsn3 kkBYr0
        have kkXf := (C_6_14.out.heap HXf.out (by intro hm; have z0 := Z_1.out; have z1 := Z_2.out; have z2 := Z_3.out; have z3 := Z_4.out; have z4 := Z_5.out; have z5 := Z_6.out; have z6 := Z_7.out; have z7 := Z_8.out; have z8 := Z_9.out; have z9 := Z_10.out; have z10 := Z_11.out; have z11 := Z_12.out; have z12 := Z_13.out; have z13 := Z_14.out; skip; simp only [List.nil_append, List.mem_append] at hm; rcases hm with (hm) | hm <;> first | (have u := BKXf.out _ hm; omega) | (have u := BKXm.out _ hm; omega)))
        obtain ⟨kXf_0, kXf_1, kXf_2⟩ := cellsn3 kkXf
        have kkBGr0 := (C_8_14.out.heap HBGr0.out (by intro hm; have z0 := Z_1.out; have z1 := Z_2.out; have z2 := Z_3.out; have z3 := Z_4.out; have z4 := Z_5.out; have z5 := Z_6.out; have z6 := Z_7.out; have z7 := Z_8.out; have z8 := Z_9.out; have z9 := Z_10.out; have z10 := Z_11.out; have z11 := Z_12.out; have z12 := Z_13.out; have z13 := Z_14.out; skip; simp only [List.nil_append, List.mem_append] at hm; rcases hm with (hm) | hm <;> first | (have u := BKXf.out _ hm; omega) | (have u := BKXm.out _ hm; omega)))
        obtain ⟨kBGr0_0, kBGr0_1, kBGr0_2⟩ := cellsn3 kkBGr0
        go_wp2_with fail
        refine (MKX.out).mono ?_
        rintro e w15 ⟨rfl, ho, hg⟩
        have hwc := hg
        have C_0_15 := Lib.hid ((C_0_14.out.mono (fun _ h => List.mem_append_left (obk AGr0) h)).trans (hwc.mono (fun _ h => List.mem_append_right _ h)))
        have C_1_15 := Lib.hid ((C_1_14.out.mono (fun _ h => List.mem_append_left (obk AGr0) h)).trans (hwc.mono (fun _ h => List.mem_append_right _ h)))
        have C_4_15 := Lib.hid ((C_4_14.out.mono (fun _ h => List.mem_append_left (obk AGr0) h)).trans (hwc.mono (fun _ h => List.mem_append_right _ h)))
        have C_5_15 := Lib.hid ((C_5_14.out.mono (fun _ h => List.mem_append_left (obk AGr0) h)).trans (hwc.mono (fun _ h => List.mem_append_right _ h)))
        have C_6_15 := Lib.hid ((C_6_14.out.mono (fun _ h => List.mem_append_left (obk AGr0) h)).trans (hwc.mono (fun _ h => List.mem_append_right _ h)))
        have C_8_15 := Lib.hid ((C_8_14.out.mono (fun _ h => List.mem_append_left (obk AGr0) h)).trans (hwc.mono (fun _ h => List.mem_append_right _ h)))
        have Z_15 : Hid (w14.heap.size ≤ w15.heap.size) := Lib.hid hg.size
        clear kPf_0 kPf_1 kPf_2 kkPf kBYr0_0 kBYr0_1 kBYr0_2 kkBYr0 kXf_0 kXf_1 kXf_2 kkXf kBGr0_0 kBGr0_1 kBGr0_2 kkBGr0 C_0_14 C_1_14 C_4_14 C_5_14 C_6_14 C_8_14 hg
        clear MKX Gr0
        have GMr0 := Lib.hid ho; clear ho
        have hqmK3 : decide ((K3 : Int) < 0) = false := by simp
        have hqq : ((K3 : Int) != (K3 : Int)) = false := by simp
        have HDX := Lib.hid (heldframe_at AGr0 cGr0 l_r0.length f0 f1 (1) (by omega) (by omega) _ (OwnI.ints GMr0.out (by rw [markL_len]; omega)))
        rw [show ((1 : Nat) : Int) = 1 from rfl] at HDX
        rw [← HHK3.out] at HDX
        have kkPf := (C_1_15.out.heap HPf.out (by intro hm; have z0 := Z_1.out; have z1 := Z_2.out; have z2 := Z_3.out; have z3 := Z_4.out; have z4 := Z_5.out; have z5 := Z_6.out; have z6 := Z_7.out; have z7 := Z_8.out; have z8 := Z_9.out; have z9 := Z_10.out; have z10 := Z_11.out; have z11 := Z_12.out; have z12 := Z_13.out; have z13 := Z_14.out; have z14 := Z_15.out; skip; simp only [List.nil_append, List.mem_append] at hm; rcases hm with ((hm) | hm) | hm <;> first | (have u := BKXf.out _ hm; omega) | (have u := BKXm.out _ hm; omega) | (have u := BKGr0.out _ hm; omega)))
        obtain ⟨kPf_0, kPf_1, kPf_2⟩ := cellsn3 kkPf
        have kkBYr0 := (C_5_15.out.heap HBYr0.out (by intro hm; have z0 := Z_1.out; have z1 := Z_2.out; have z2 := Z_3.out; have z3 := Z_4.out; have z4 := Z_5.out; have z5 := Z_6.out; have z6 := Z_7.out; have z7 := Z_8.out; have z8 := Z_9.out; have z9 := Z_10.out; have z10 := Z_11.out; have z11 := Z_12.out; have z12 := Z_13.out; have z13 := Z_14.out; have z14 := Z_15.out; skip; simp only [List.nil_append, List.mem_append] at hm; rcases hm with ((hm) | hm) | hm <;> first | (have u := BKXf.out _ hm; omega) | (have u := BKXm.out _ hm; omega) | (have u := BKGr0.out _ hm; omega)))
        obtain ⟨kBYr0_0, kBYr0_1, kBYr0_2⟩ := cellsn3 kkBYr0
        have kkXf := (C_6_15.out.heap HXf.out (by intro hm; have z0 := Z_1.out; have z1 := Z_2.out; have z2 := Z_3.out; have z3 := Z_4.out; have z4 := Z_5.out; have z5 := Z_6.out; have z6 := Z_7.out; have z7 := Z_8.out; have z8 := Z_9.out; have z9 := Z_10.out; have z10 := Z_11.out; have z11 := Z_12.out; have z12 := Z_13.out; have z13 := Z_14.out; have z14 := Z_15.out; skip; simp only [List.nil_append, List.mem_append] at hm; rcases hm with ((hm) | hm) | hm <;> first | (have u := BKXf.out _ hm; omega) | (have u := BKXm.out _ hm; omega) | (have u := BKGr0.out _ hm; omega)))
        obtain ⟨kXf_0, kXf_1, kXf_2⟩ := cellsn3 kkXf
        have kkBGr0 := (C_8_15.out.heap HBGr0.out (by intro hm; have z0 := Z_1.out; have z1 := Z_2.out; have z2 := Z_3.out; have z3 := Z_4.out; have z4 := Z_5.out; have z5 := Z_6.out; have z6 := Z_7.out; have z7 := Z_8.out; have z8 := Z_9.out; have z9 := Z_10.out; have z10 := Z_11.out; have z11 := Z_12.out; have z12 := Z_13.out; have z13 := Z_14.out; have z14 := Z_15.out; skip; simp only [List.nil_append, List.mem_append] at hm; rcases hm with ((hm) | hm) | hm <;> first | (have u := BKXf.out _ hm; omega) | (have u := BKXm.out _ hm; omega) | (have u := BKGr0.out _ hm; omega)))
        obtain ⟨kBGr0_0, kBGr0_1, kBGr0_2⟩ := cellsn3 kkBGr0
        go_wp2_with fail
        refine (HDX.out).mono ?_
        rintro e w16 ⟨rfl, hb⟩
        have hbc := hb
        have C_0_16 := Lib.hid (C_0_15.out.trans (Wrote.of_below _ hbc))
        have C_1_16 := Lib.hid (C_1_15.out.trans (Wrote.of_below _ hbc))
        have C_4_16 := Lib.hid (C_4_15.out.trans (Wrote.of_below _ hbc))
        have C_5_16 := Lib.hid (C_5_15.out.trans (Wrote.of_below _ hbc))
        have C_6_16 := Lib.hid (C_6_15.out.trans (Wrote.of_below _ hbc))
        have C_8_16 := Lib.hid (C_8_15.out.trans (Wrote.of_below _ hbc))
        have C_15_16 : Hid (Wrote w15 w16 []) := Lib.hid (Wrote.of_below [] hbc)
        have Z_16 : Hid (w15.heap.size ≤ w16.heap.size) := Lib.hid hb.size
        clear kPf_0 kPf_1 kPf_2 kkPf kBYr0_0 kBYr0_1 kBYr0_2 kkBYr0 kXf_0 kXf_1 kXf_2 kkXf kBGr0_0 kBGr0_1 kBGr0_2 kkBGr0 C_0_15 C_1_15 C_4_15 C_5_15 C_6_15 C_8_15 hb
        clear HDX
        have kkPf := (C_1_16.out.heap HPf.out (by intro hm; have z0 := Z_1.out; have z1 := Z_2.out; have z2 := Z_3.out; have z3 := Z_4.out; have z4 := Z_5.out; have z5 := Z_6.out; have z6 := Z_7.out; have z7 := Z_8.out; have z8 := Z_9.out; have z9 := Z_10.out; have z10 := Z_11.out; have z11 := Z_12.out; have z12 := Z_13.out; have z13 := Z_14.out; have z14 := Z_15.out; have z15 := Z_16.out; skip; simp only [List.nil_append, List.mem_append] at hm; rcases hm with ((hm) | hm) | hm <;> first | (have u := BKXf.out _ hm; omega) | (have u := BKXm.out _ hm; omega) | (have u := BKGr0.out _ hm; omega)))
        obtain ⟨kPf_0, kPf_1, kPf_2⟩ := cellsn3 kkPf
        have kkBYr0 := (C_5_16.out.heap HBYr0.out (by intro hm; have z0 := Z_1.out; have z1 := Z_2.out; have z2 := Z_3.out; have z3 := Z_4.out; have z4 := Z_5.out; have z5 := Z_6.out; have z6 := Z_7.out; have z7 := Z_8.out; have z8 := Z_9.out; have z9 := Z_10.out; have z10 := Z_11.out; have z11 := Z_12.out; have z12 := Z_13.out; have z13 := Z_14.out; have z14 := Z_15.out; have z15 := Z_16.out; skip; simp only [List.nil_append, List.mem_append] at hm; rcases hm with ((hm) | hm) | hm <;> first | (have u := BKXf.out _ hm; omega) | (have u := BKXm.out _ hm; omega) | (have u := BKGr0.out _ hm; omega)))
        obtain ⟨kBYr0_0, kBYr0_1, kBYr0_2⟩ := cellsn3 kkBYr0
        have kkXf := (C_6_16.out.heap HXf.out (by intro hm; have z0 := Z_1.out; have z1 := Z_2.out; have z2 := Z_3.out; have z3 := Z_4.out; have z4 := Z_5.out; have z5 := Z_6.out; have z6 := Z_7.out; have z7 := Z_8.out; have z8 := Z_9.out; have z9 := Z_10.out; have z10 := Z_11.out; have z11 := Z_12.out; have z12 := Z_13.out; have z13 := Z_14.out; have z14 := Z_15.out; have z15 := Z_16.out; skip; simp only [List.nil_append, List.mem_append] at hm; rcases hm with ((hm) | hm) | hm <;> first | (have u := BKXf.out _ hm; omega) | (have u := BKXm.out _ hm; omega) | (have u := BKGr0.out _ hm; omega)))
        obtain ⟨kXf_0, kXf_1, kXf_2⟩ := cellsn3 kkXf
        have kkBGr0 := (C_8_16.out.heap HBGr0.out (by intro hm; have z0 := Z_1.out; have z1 := Z_2.out; have z2 := Z_3.out; have z3 := Z_4.out; have z4 := Z_5.out; have z5 := Z_6.out; have z6 := Z_7.out; have z7 := Z_8.out; have z8 := Z_9.out; have z9 := Z_10.out; have z10 := Z_11.out; have z11 := Z_12.out; have z12 := Z_13.out; have z13 := Z_14.out; have z14 := Z_15.out; have z15 := Z_16.out; skip; simp only [List.nil_append, List.mem_append] at hm; rcases hm with ((hm) | hm) | hm <;> first | (have u := BKXf.out _ hm; omega) | (have u := BKXm.out _ hm; omega) | (have u := BKGr0.out _ hm; omega)))
        obtain ⟨kBGr0_0, kBGr0_1, kBGr0_2⟩ := cellsn3 kkBGr0
        go_wp2_with fail
        refine (toframe_any a_f cap_f l_f f0 f1 hll_f _ ((R_f.out.kept (fun k hk => C_0_16.out.block k hk (by intro hm; have z0 := Z_1.out; have z1 := Z_2.out; have z2 := Z_3.out; have z3 := Z_4.out; have z4 := Z_5.out; have z5 := Z_6.out; have z6 := Z_7.out; have z7 := Z_8.out; have z8 := Z_9.out; have z9 := Z_10.out; have z10 := Z_11.out; have z11 := Z_12.out; have z12 := Z_13.out; have z13 := Z_14.out; have z14 := Z_15.out; have z15 := Z_16.out; have d := hk; simp only [List.nil_append, List.mem_append] at hm; rcases hm with ((hm) | hm) | hm <;> first | (have u := BKXf.out _ hm; omega) | (have u := BKXm.out _ hm; omega) | (have u := BKGr0.out _ hm; omega)))).mono C_0_16.out.size)).mono ?_
        rintro e w17 ⟨Afh, cfh, rfl, hofh, hb⟩
        have hbc := hb
        have C_0_17 := Lib.hid (C_0_16.out.trans (Wrote.of_below _ hbc))
        have C_1_17 := Lib.hid (C_1_16.out.trans (Wrote.of_below _ hbc))
        have C_4_17 := Lib.hid (C_4_16.out.trans (Wrote.of_below _ hbc))
        have C_5_17 := Lib.hid (C_5_16.out.trans (Wrote.of_below _ hbc))
        have C_6_17 := Lib.hid (C_6_16.out.trans (Wrote.of_below _ hbc))
        have C_8_17 := Lib.hid (C_8_16.out.trans (Wrote.of_below _ hbc))
        have C_15_17 := Lib.hid (C_15_16.out.trans (Wrote.of_below _ hbc))
        have Z_17 : Hid (w16.heap.size ≤ w17.heap.size) := Lib.hid hb.size
        clear kPf_0 kPf_1 kPf_2 kkPf kBYr0_0 kBYr0_1 kBYr0_2 kkBYr0 kXf_0 kXf_1 kXf_2 kkXf kBGr0_0 kBGr0_1 kBGr0_2 kkBGr0 C_0_16 C_1_16 C_4_16 C_5_16 C_6_16 C_8_16 C_15_16 hb
        have Xfh := Lib.hid hofh; have BKXfh := Lib.hid (hofh.fp); clear hofh
        have kkPf := (C_1_17.out.heap HPf.out (by intro hm; have z0 := Z_1.out; have z1 := Z_2.out; have z2 := Z_3.out; have z3 := Z_4.out; have z4 := Z_5.out; have z5 := Z_6.out; have z6 := Z_7.out; have z7 := Z_8.out; have z8 := Z_9.out; have z9 := Z_10.out; have z10 := Z_11.out; have z11 := Z_12.out; have z12 := Z_13.out; have z13 := Z_14.out; have z14 := Z_15.out; have z15 := Z_16.out; have z16 := Z_17.out; skip; simp only [List.nil_append, List.mem_append] at hm; rcases hm with ((hm) | hm) | hm <;> first | (have u := BKXf.out _ hm; omega) | (have u := BKXm.out _ hm; omega) | (have u := BKGr0.out _ hm; omega)))
        obtain ⟨kPf_0, kPf_1, kPf_2⟩ := cellsn3 kkPf
        have kkBYr0 := (C_5_17.out.heap HBYr0.out (by intro hm; have z0 := Z_1.out; have z1 := Z_2.out; have z2 := Z_3.out; have z3 := Z_4.out; have z4 := Z_5.out; have z5 := Z_6.out; have z6 := Z_7.out; have z7 := Z_8.out; have z8 := Z_9.out; have z9 := Z_10.out; have z10 := Z_11.out; have z11 := Z_12.out; have z12 := Z_13.out; have z13 := Z_14.out; have z14 := Z_15.out; have z15 := Z_16.out; have z16 := Z_17.out; skip; simp only [List.nil_append, List.mem_append] at hm; rcases hm with ((hm) | hm) | hm <;> first | (have u := BKXf.out _ hm; omega) | (have u := BKXm.out _ hm; omega) | (have u := BKGr0.out _ hm; omega)))
        obtain ⟨kBYr0_0, kBYr0_1, kBYr0_2⟩ := cellsn3 kkBYr0
        have kkXf := (C_6_17.out.heap HXf.out (by intro hm; have z0 := Z_1.out; have z1 := Z_2.out; have z2 := Z_3.out; have z3 := Z_4.out; have z4 := Z_5.out; have z5 := Z_6.out; have z6 := Z_7.out; have z7 := Z_8.out; have z8 := Z_9.out; have z9 := Z_10.out; have z10 := Z_11.out; have z11 := Z_12.out; have z12 := Z_13.out; have z13 := Z_14.out; have z14 := Z_15.out; have z15 := Z_16.out; have z16 := Z_17.out; skip; simp only [List.nil_append, List.mem_append] at hm; rcases hm with ((hm) | hm) | hm <;> first | (have u := BKXf.out _ hm; omega) | (have u := BKXm.out _ hm; omega) | (have u := BKGr0.out _ hm; omega)))
        obtain ⟨kXf_0, kXf_1, kXf_2⟩ := cellsn3 kkXf
        have kkBGr0 := (C_8_17.out.heap HBGr0.out (by intro hm; have z0 := Z_1.out; have z1 := Z_2.out; have z2 := Z_3.out; have z3 := Z_4.out; have z4 := Z_5.out; have z5 := Z_6.out; have z6 := Z_7.out; have z7 := Z_8.out; have z8 := Z_9.out; have z9 := Z_10.out; have z10 := Z_11.out; have z11 := Z_12.out; have z12 := Z_13.out; have z13 := Z_14.out; have z14 := Z_15.out; have z15 := Z_16.out; have z16 := Z_17.out; skip; simp only [List.nil_append, List.mem_append] at hm; rcases hm with ((hm) | hm) | hm <;> first | (have u := BKXf.out _ hm; omega) | (have u := BKXm.out _ hm; omega) | (have u := BKGr0.out _ hm; omega)))
        obtain ⟨kBGr0_0, kBGr0_1, kBGr0_2⟩ := cellsn3 kkBGr0
        go_wp2_with fail
        refine (toints_any a_m cap_m l_m hll_m _ ((R_m.out.kept (fun k hk => C_0_17.out.block k hk (by intro hm; have z0 := Z_1.out; have z1 := Z_2.out; have z2 := Z_3.out; have z3 := Z_4.out; have z4 := Z_5.out; have z5 := Z_6.out; have z6 := Z_7.out; have z7 := Z_8.out; have z8 := Z_9.out; have z9 := Z_10.out; have z10 := Z_11.out; have z11 := Z_12.out; have z12 := Z_13.out; have z13 := Z_14.out; have z14 := Z_15.out; have z15 := Z_16.out; have z16 := Z_17.out; have d := hk; simp only [List.nil_append, List.mem_append] at hm; rcases hm with ((hm) | hm) | hm <;> first | (have u := BKXf.out _ hm; omega) | (have u := BKXm.out _ hm; omega) | (have u := BKGr0.out _ hm; omega)))).mono C_0_17.out.size)).mono ?_
        rintro e w18 ⟨Amh, cmh, rfl, homh, hb⟩
        have hbc := hb
        have C_0_18 := Lib.hid (C_0_17.out.trans (Wrote.of_below _ hbc))
        have C_1_18 := Lib.hid (C_1_17.out.trans (Wrote.of_below _ hbc))
        have C_4_18 := Lib.hid (C_4_17.out.trans (Wrote.of_below _ hbc))
        have C_5_18 := Lib.hid (C_5_17.out.trans (Wrote.of_below _ hbc))
        have C_6_18 := Lib.hid (C_6_17.out.trans (Wrote.of_below _ hbc))
        have C_8_18 := Lib.hid (C_8_17.out.trans (Wrote.of_below _ hbc))
        have C_15_18 := Lib.hid (C_15_17.out.trans (Wrote.of_below _ hbc))
        have C_17_18 : Hid (Wrote w17 w18 []) := Lib.hid (Wrote.of_below [] hbc)
        have Z_18 : Hid (w17.heap.size ≤ w18.heap.size) := Lib.hid hb.size
        clear kPf_0 kPf_1 kPf_2 kkPf kBYr0_0 kBYr0_1 kBYr0_2 kkBYr0 kXf_0 kXf_1 kXf_2 kkXf kBGr0_0 kBGr0_1 kBGr0_2 kkBGr0 C_0_17 C_1_17 C_4_17 C_5_17 C_6_17 C_8_17 C_15_17 hb
        have Xmh := Lib.hid homh; have BKXmh := Lib.hid (homh.fp); clear homh
        have kkPf := (C_1_18.out.heap HPf.out (by intro hm; have z0 := Z_1.out; have z1 := Z_2.out; have z2 := Z_3.out; have z3 := Z_4.out; have z4 := Z_5.out; have z5 := Z_6.out; have z6 := Z_7.out; have z7 := Z_8.out; have z8 := Z_9.out; have z9 := Z_10.out; have z10 := Z_11.out; have z11 := Z_12.out; have z12 := Z_13.out; have z13 := Z_14.out; have z14 := Z_15.out; have z15 := Z_16.out; have z16 := Z_17.out; have z17 := Z_18.out; skip; simp only [List.nil_append, List.mem_append] at hm; rcases hm with ((hm) | hm) | hm <;> first | (have u := BKXf.out _ hm; omega) | (have u := BKXm.out _ hm; omega) | (have u := BKGr0.out _ hm; omega)))
        obtain ⟨kPf_0, kPf_1, kPf_2⟩ := cellsn3 kkPf
        have kkBYr0 := (C_5_18.out.heap HBYr0.out (by intro hm; have z0 := Z_1.out; have z1 := Z_2.out; have z2 := Z_3.out; have z3 := Z_4.out; have z4 := Z_5.out; have z5 := Z_6.out; have z6 := Z_7.out; have z7 := Z_8.out; have z8 := Z_9.out; have z9 := Z_10.out; have z10 := Z_11.out; have z11 := Z_12.out; have z12 := Z_13.out; have z13 := Z_14.out; have z14 := Z_15.out; have z15 := Z_16.out; have z16 := Z_17.out; have z17 := Z_18.out; skip; simp only [List.nil_append, List.mem_append] at hm; rcases hm with ((hm) | hm) | hm <;> first | (have u := BKXf.out _ hm; omega) | (have u := BKXm.out _ hm; omega) | (have u := BKGr0.out _ hm; omega)))
        obtain ⟨kBYr0_0, kBYr0_1, kBYr0_2⟩ := cellsn3 kkBYr0
        have kkXf := (C_6_18.out.heap HXf.out (by intro hm; have z0 := Z_1.out; have z1 := Z_2.out; have z2 := Z_3.out; have z3 := Z_4.out; have z4 := Z_5.out; have z5 := Z_6.out; have z6 := Z_7.out; have z7 := Z_8.out; have z8 := Z_9.out; have z9 := Z_10.out; have z10 := Z_11.out; have z11 := Z_12.out; have z12 := Z_13.out; have z13 := Z_14.out; have z14 := Z_15.out; have z15 := Z_16.out; have z16 := Z_17.out; have z17 := Z_18.out; skip; simp only [List.nil_append, List.mem_append] at hm; rcases hm with ((hm) | hm) | hm <;> first | (have u := BKXf.out _ hm; omega) | (have u := BKXm.out _ hm; omega) | (have u := BKGr0.out _ hm; omega)))
        obtain ⟨kXf_0, kXf_1, kXf_2⟩ := cellsn3 kkXf
        have kkBGr0 := (C_8_18.out.heap HBGr0.out (by intro hm; have z0 := Z_1.out; have z1 := Z_2.out; have z2 := Z_3.out; have z3 := Z_4.out; have z4 := Z_5.out; have z5 := Z_6.out; have z6 := Z_7.out; have z7 := Z_8.out; have z8 := Z_9.out; have z9 := Z_10.out; have z10 := Z_11.out; have z11 := Z_12.out; have z12 := Z_13.out; have z13 := Z_14.out; have z14 := Z_15.out; have z15 := Z_16.out; have z16 := Z_17.out; have z17 := Z_18.out; skip; simp only [List.nil_append, List.mem_append] at hm; rcases hm with ((hm) | hm) | hm <;> first | (have u := BKXf.out _ hm; omega) | (have u := BKXm.out _ hm; omega) | (have u := BKGr0.out _ hm; omega)))
        obtain ⟨kBGr0_0, kBGr0_1, kBGr0_2⟩ := cellsn3 kkBGr0
        go_wp2_with fail
        refine (IM.out Afh cfh Amh cmh _ (OwnI.ints (Xfh.out.same (fun k hk => C_17_18.out.block k (Xfh.out.fp k hk).2 (by simp))) (by omega)) (OwnI.cap_le (Xfh.out.same (fun k hk => C_17_18.out.block k (Xfh.out.fp k hk).2 (by simp)))) (OwnI.placed (Xfh.out.same (fun k hk => C_17_18.out.block k (Xfh.out.fp k hk).2 (by simp)))) (OwnI.ints Xmh.out (by omega)) (OwnI.cap_le Xmh.out) (OwnI.placed Xmh.out)).mono ?_
        rintro e w19 ⟨AHr0, cHr0, rfl, hoHr0, hb⟩
        have hbc := hb
        have C_0_19 := Lib.hid (C_0_18.out.trans (Wrote.of_below _ hbc))
        have C_1_19 := Lib.hid (C_1_18.out.trans (Wrote.of_below _ hbc))
        have C_4_19 := Lib.hid (C_4_18.out.trans (Wrote.of_below _ hbc))
        have C_5_19 := Lib.hid (C_5_18.out.trans (Wrote.of_below _ hbc))
        have C_6_19 := Lib.hid (C_6_18.out.trans (Wrote.of_below _ hbc))
        have C_8_19 := Lib.hid (C_8_18.out.trans (Wrote.of_below _ hbc))
        have C_15_19 := Lib.hid (C_15_18.out.trans (Wrote.of_below _ hbc))
        have C_17_19 := Lib.hid (C_17_18.out.trans (Wrote.of_below _ hbc))
        have C_18_19 : Hid (Wrote w18 w19 []) := Lib.hid (Wrote.of_below [] hbc)
        have Z_19 : Hid (w18.heap.size ≤ w19.heap.size) := Lib.hid hb.size
        clear kPf_0 kPf_1 kPf_2 kkPf kBYr0_0 kBYr0_1 kBYr0_2 kkBYr0 kXf_0 kXf_1 kXf_2 kkXf kBGr0_0 kBGr0_1 kBGr0_2 kkBGr0 C_0_18 C_1_18 C_4_18 C_5_18 C_6_18 C_8_18 C_15_18 C_17_18 hb
        have Hr0 := Lib.hid hoHr0; have BKHr0 := Lib.hid (hoHr0.fp); clear hoHr0
        clear Xfh Xmh
        have kkPf := (C_1_19.out.heap HPf.out (by intro hm; have z0 := Z_1.out; have z1 := Z_2.out; have z2 := Z_3.out; have z3 := Z_4.out; have z4 := Z_5.out; have z5 := Z_6.out; have z6 := Z_7.out; have z7 := Z_8.out; have z8 := Z_9.out; have z9 := Z_10.out; have z10 := Z_11.out; have z11 := Z_12.out; have z12 := Z_13.out; have z13 := Z_14.out; have z14 := Z_15.out; have z15 := Z_16.out; have z16 := Z_17.out; have z17 := Z_18.out; have z18 := Z_19.out; skip; simp only [List.nil_append, List.mem_append] at hm; rcases hm with ((hm) | hm) | hm <;> first | (have u := BKXf.out _ hm; omega) | (have u := BKXm.out _ hm; omega) | (have u := BKGr0.out _ hm; omega)))
        obtain ⟨kPf_0, kPf_1, kPf_2⟩ := cellsn3 kkPf
        have qPf := heap_lt kkPf
        have kkBYr0 := (C_5_19.out.heap HBYr0.out (by intro hm; have z0 := Z_1.out; have z1 := Z_2.out; have z2 := Z_3.out; have z3 := Z_4.out; have z4 := Z_5.out; have z5 := Z_6.out; have z6 := Z_7.out; have z7 := Z_8.out; have z8 := Z_9.out; have z9 := Z_10.out; have z10 := Z_11.out; have z11 := Z_12.out; have z12 := Z_13.out; have z13 := Z_14.out; have z14 := Z_15.out; have z15 := Z_16.out; have z16 := Z_17.out; have z17 := Z_18.out; have z18 := Z_19.out; skip; simp only [List.nil_append, List.mem_append] at hm; rcases hm with ((hm) | hm) | hm <;> first | (have u := BKXf.out _ hm; omega) | (have u := BKXm.out _ hm; omega) | (have u := BKGr0.out _ hm; omega)))
        obtain ⟨kBYr0_0, kBYr0_1, kBYr0_2⟩ := cellsn3 kkBYr0
        have qBYr0 := heap_lt kkBYr0
        have kkXf := (C_6_19.out.heap HXf.out (by intro hm; have z0 := Z_1.out; have z1 := Z_2.out; have z2 := Z_3.out; have z3 := Z_4.out; have z4 := Z_5.out; have z5 := Z_6.out; have z6 := Z_7.out; have z7 := Z_8.out; have z8 := Z_9.out; have z9 := Z_10.out; have z10 := Z_11.out; have z11 := Z_12.out; have z12 := Z_13.out; have z13 := Z_14.out; have z14 := Z_15.out; have z15 := Z_16.out; have z16 := Z_17.out; have z17 := Z_18.out; have z18 := Z_19.out; skip; simp only [List.nil_append, List.mem_append] at hm; rcases hm with ((hm) | hm) | hm <;> first | (have u := BKXf.out _ hm; omega) | (have u := BKXm.out _ hm; omega) | (have u := BKGr0.out _ hm; omega)))
        obtain ⟨kXf_0, kXf_1, kXf_2⟩ := cellsn3 kkXf
        have qXf := heap_lt kkXf
        have kkBGr0 := (C_8_19.out.heap HBGr0.out (by intro hm; have z0 := Z_1.out; have z1 := Z_2.out; have z2 := Z_3.out; have z3 := Z_4.out; have z4 := Z_5.out; have z5 := Z_6.out; have z6 := Z_7.out; have z7 := Z_8.out; have z8 := Z_9.out; have z9 := Z_10.out; have z10 := Z_11.out; have z11 := Z_12.out; have z12 := Z_13.out; have z13 := Z_14.out; have z14 := Z_15.out; have z15 := Z_16.out; have z16 := Z_17.out; have z17 := Z_18.out; have z18 := Z_19.out; skip; simp only [List.nil_append, List.mem_append] at hm; rcases hm with ((hm) | hm) | hm <;> first | (have u := BKXf.out _ hm; omega) | (have u := BKXm.out _ hm; omega) | (have u := BKGr0.out _ hm; omega)))
        obtain ⟨kBGr0_0, kBGr0_1, kBGr0_2⟩ := cellsn3 kkBGr0
        have qBGr0 := heap_lt kkBGr0
        go_wp2_with fail
        refine (eqframe_same AHr0 AYr0 cHr0 cYr0 l_r0 f0 f1 _ (OwnI.ints (Hr0.out.same (fun k hk => (Wrote.of_below [] (below_new w19 (.cells #[.int .i64 f0, .int .i64 f1, .slice AHr0 l_r0.length cHr0] 26))).block k (Hr0.out.fp k hk).2 (by simp))) (by omega)) (OwnI.ints (Yr0.out.same (fun k hk => (C_4_19.out.trans (Wrote.of_below _ (below_new w19 (.cells #[.int .i64 f0, .int .i64 f1, .slice AHr0 l_r0.length cHr0] 26)))).block k (Yr0.out.fp k hk).2 (by intro hm; have z0 := Z_1.out; have z1 := Z_2.out; have z2 := Z_3.out; have z3 := Z_4.out; have z4 := Z_5.out; have z5 := Z_6.out; have z6 := Z_7.out; have z7 := Z_8.out; have z8 := Z_9.out; have z9 := Z_10.out; have z10 := Z_11.out; have z11 := Z_12.out; have z12 := Z_13.out; have z13 := Z_14.out; have z14 := Z_15.out; have z15 := Z_16.out; have z16 := Z_17.out; have z17 := Z_18.out; have z18 := Z_19.out; have d := Yr0.out.fp k hk; simp only [List.nil_append, List.mem_append] at hm; rcases hm with ((hm) | hm) | hm <;> first | (have u := BKXf.out _ hm; omega) | (have u := BKXm.out _ hm; omega) | (have u := BKGr0.out _ hm; omega)))) (by omega))).mono ?_
        rintro e w20 ⟨rfl, hb⟩
        have hbc := below_up (below_new w19 (.cells #[.int .i64 f0, .int .i64 f1, .slice AHr0 l_r0.length cHr0] 26)) hb ((below_new w19 (.cells #[.int .i64 f0, .int .i64 f1, .slice AHr0 l_r0.length cHr0] 26))).size
        have C_0_20 := Lib.hid (C_0_19.out.trans (Wrote.of_below _ hbc))
        have C_1_20 := Lib.hid (C_1_19.out.trans (Wrote.of_below _ hbc))
        have C_4_20 := Lib.hid (C_4_19.out.trans (Wrote.of_below _ hbc))
        have C_5_20 := Lib.hid (C_5_19.out.trans (Wrote.of_below _ hbc))
        have C_6_20 := Lib.hid (C_6_19.out.trans (Wrote.of_below _ hbc))
        have C_8_20 := Lib.hid (C_8_19.out.trans (Wrote.of_below _ hbc))
        have C_15_20 := Lib.hid (C_15_19.out.trans (Wrote.of_below _ hbc))
        have C_19_20 : Hid (Wrote w19 w20 []) := Lib.hid (Wrote.of_below [] hbc)
        have HBHr0 := Lib.hid (cell_kept (heap_alloc_new w19 (.cells #[.int .i64 f0, .int .i64 f1, .slice AHr0 l_r0.length cHr0] 26)) hb)
        have Z_20 : Hid (w19.heap.size + 1 ≤ w20.heap.size) := Lib.hid (by have := hb.size; simp only [World.size_alloc] at this; exact this)
        clear kPf_0 kPf_1 kPf_2 kkPf qPf kBYr0_0 kBYr0_1 kBYr0_2 kkBYr0 qBYr0 kXf_0 kXf_1 kXf_2 kkXf qXf kBGr0_0 kBGr0_1 kBGr0_2 kkBGr0 qBGr0 C_0_19 C_1_19 C_4_19 C_5_19 C_6_19 C_8_19 C_15_19 hbc hb
        have HDX := Lib.hid (heldframe_at AGr0 cGr0 l_r0.length f0 f1 (1) (by omega) (by omega) _ (OwnI.ints (GMr0.out.same (fun k hk => C_15_20.out.block k (GMr0.out.fp k hk).2 (by simp))) (by rw [markL_len]; omega)))
        rw [show ((1 : Nat) : Int) = 1 from rfl] at HDX
        rw [← HHK3.out] at HDX
        have kkPf := (C_1_20.out.heap HPf.out (by intro hm; have z0 := Z_1.out; have z1 := Z_2.out; have z2 := Z_3.out; have z3 := Z_4.out; have z4 := Z_5.out; have z5 := Z_6.out; have z6 := Z_7.out; have z7 := Z_8.out; have z8 := Z_9.out; have z9 := Z_10.out; have z10 := Z_11.out; have z11 := Z_12.out; have z12 := Z_13.out; have z13 := Z_14.out; have z14 := Z_15.out; have z15 := Z_16.out; have z16 := Z_17.out; have z17 := Z_18.out; have z18 := Z_19.out; have z19 := Z_20.out; skip; simp only [List.nil_append, List.mem_append] at hm; rcases hm with ((hm) | hm) | hm <;> first | (have u := BKXf.out _ hm; omega) | (have u := BKXm.out _ hm; omega) | (have u := BKGr0.out _ hm; omega)))
        obtain ⟨kPf_0, kPf_1, kPf_2⟩ := cellsn3 kkPf
        have kkBYr0 := (C_5_20.out.heap HBYr0.out (by intro hm; have z0 := Z_1.out; have z1 := Z_2.out; have z2 := Z_3.out; have z3 := Z_4.out; have z4 := Z_5.out; have z5 := Z_6.out; have z6 := Z_7.out; have z7 := Z_8.out; have z8 := Z_9.out; have z9 := Z_10.out; have z10 := Z_11.out; have z11 := Z_12.out; have z12 := Z_13.out; have z13 := Z_14.out; have z14 := Z_15.out; have z15 := Z_16.out; have z16 := Z_17.out; have z17 := Z_18.out; have z18 := Z_19.out; have z19 := Z_20.out; skip; simp only [List.nil_append, List.mem_append] at hm; rcases hm with ((hm) | hm) | hm <;> first | (have u := BKXf.out _ hm; omega) | (have u := BKXm.out _ hm; omega) | (have u := BKGr0.out _ hm; omega)))
        obtain ⟨kBYr0_0, kBYr0_1, kBYr0_2⟩ := cellsn3 kkBYr0
        have kkXf := (C_6_20.out.heap HXf.out (by intro hm; have z0 := Z_1.out; have z1 := Z_2.out; have z2 := Z_3.out; have z3 := Z_4.out; have z4 := Z_5.out; have z5 := Z_6.out; have z6 := Z_7.out; have z7 := Z_8.out; have z8 := Z_9.out; have z9 := Z_10.out; have z10 := Z_11.out; have z11 := Z_12.out; have z12 := Z_13.out; have z13 := Z_14.out; have z14 := Z_15.out; have z15 := Z_16.out; have z16 := Z_17.out; have z17 := Z_18.out; have z18 := Z_19.out; have z19 := Z_20.out; skip; simp only [List.nil_append, List.mem_append] at hm; rcases hm with ((hm) | hm) | hm <;> first | (have u := BKXf.out _ hm; omega) | (have u := BKXm.out _ hm; omega) | (have u := BKGr0.out _ hm; omega)))
        obtain ⟨kXf_0, kXf_1, kXf_2⟩ := cellsn3 kkXf
        have kkBGr0 := (C_8_20.out.heap HBGr0.out (by intro hm; have z0 := Z_1.out; have z1 := Z_2.out; have z2 := Z_3.out; have z3 := Z_4.out; have z4 := Z_5.out; have z5 := Z_6.out; have z6 := Z_7.out; have z7 := Z_8.out; have z8 := Z_9.out; have z9 := Z_10.out; have z10 := Z_11.out; have z11 := Z_12.out; have z12 := Z_13.out; have z13 := Z_14.out; have z14 := Z_15.out; have z15 := Z_16.out; have z16 := Z_17.out; have z17 := Z_18.out; have z18 := Z_19.out; have z19 := Z_20.out; skip; simp only [List.nil_append, List.mem_append] at hm; rcases hm with ((hm) | hm) | hm <;> first | (have u := BKXf.out _ hm; omega) | (have u := BKXm.out _ hm; omega) | (have u := BKGr0.out _ hm; omega)))
        obtain ⟨kBGr0_0, kBGr0_1, kBGr0_2⟩ := cellsn3 kkBGr0
        have kkBHr0 := HBHr0.out
        obtain ⟨kBHr0_0, kBHr0_1, kBHr0_2⟩ := cellsn3 kkBHr0
        go_wp2_with fail
        refine (HDX.out).mono ?_
        rintro e w21 ⟨rfl, hb⟩
        have hbc := hb
        have C_0_21 := Lib.hid (C_0_20.out.trans (Wrote.of_below _ hbc))
        have C_1_21 := Lib.hid (C_1_20.out.trans (Wrote.of_below _ hbc))
        have C_4_21 := Lib.hid (C_4_20.out.trans (Wrote.of_below _ hbc))
        have C_5_21 := Lib.hid (C_5_20.out.trans (Wrote.of_below _ hbc))
        have C_6_21 := Lib.hid (C_6_20.out.trans (Wrote.of_below _ hbc))
        have C_8_21 := Lib.hid (C_8_20.out.trans (Wrote.of_below _ hbc))
        have C_15_21 := Lib.hid (C_15_20.out.trans (Wrote.of_below _ hbc))
        have C_19_21 := Lib.hid (C_19_20.out.trans (Wrote.of_below _ hbc))
        have C_20_21 : Hid (Wrote w20 w21 []) := Lib.hid (Wrote.of_below [] hbc)
        have Z_21 : Hid (w20.heap.size ≤ w21.heap.size) := Lib.hid hb.size
        clear kPf_0 kPf_1 kPf_2 kkPf kBYr0_0 kBYr0_1 kBYr0_2 kkBYr0 kXf_0 kXf_1 kXf_2 kkXf kBGr0_0 kBGr0_1 kBGr0_2 kkBGr0 kBHr0_0 kBHr0_1 kBHr0_2 kkBHr0 C_0_20 C_1_20 C_4_20 C_5_20 C_6_20 C_8_20 C_15_20 C_19_20 hb
        clear HDX
        go_wp2
        go_ret
        exact ⟨rfl, C_0_21.out.os, C_0_21.out.tape, C_0_21.out.output, C_0_21.out.size, fun k hk => C_0_21.out.block k hk (by intro hm; have z0 := Z_1.out; have z1 := Z_2.out; have z2 := Z_3.out; have z3 := Z_4.out; have z4 := Z_5.out; have z5 := Z_6.out; have z6 := Z_7.out; have z7 := Z_8.out; have z8 := Z_9.out; have z9 := Z_10.out; have z10 := Z_11.out; have z11 := Z_12.out; have z12 := Z_13.out; have z13 := Z_14.out; have z14 := Z_15.out; have z15 := Z_16.out; have z16 := Z_17.out; have z17 := Z_18.out; have z18 := Z_19.out; have z19 := Z_20.out; have z20 := Z_21.out; have d := hk; simp only [List.nil_append, List.mem_append] at hm; rcases hm with ((hm) | hm) | hm <;> first | (have u := BKXf.out _ hm; omega) | (have u := BKXm.out _ hm; omega) | (have u := BKGr0.out _ hm; omega))⟩
set_option maxRecDepth 100000 in
set_option maxHeartbeats 8000000 in
/-- The law's own walk, by contracts of the two texts. -/
theorem fnExactSameFrame_walk (f0 : Int) (f1 : Int) (a_f : Option Addr) (len_f cap_f : Nat) (zs_f : List Int) (k0 : Int) (k1 : Int) (a_k : Option Addr) (len_k cap_k : Nat) (zs_k : List Int) (wf_f0 : (Lit.int .i64 f0).wf = true) (wf_f1 : (Lit.int .i64 f1).wf = true) (wf_k0 : (Lit.int .i64 k0).wf = true) (wf_k1 : (Lit.int .i64 k1).wf = true) (w : World) (hr_f : IsRow .i64 w a_f len_f cap_f zs_f) (hr_k : IsRow .i64 w a_k len_k cap_k zs_k) :
    Calls Try.prog 11 #[.agg #[.int .i64 f0, .int .i64 f1, .slice a_f len_f cap_f], .agg #[.int .i64 k0, .int .i64 k1, .slice a_k len_k cap_k]] w fun e w' => e = .returned (.bool true) ∧ Below w.heap.size w w' := by
  have hlm_f := hr_f.len_le
  unfold maxLen at hlm_f
  have hlm_k := hr_k.len_le
  unfold maxLen at hlm_k
  have SZ_f := Lib.hid fun wz (hz : Below w.heap.size w wz) => szframe_any a_f len_f cap_f f0 f1 (1048576) (by omega) (by omega) (by omega) wz
  by_cases hbig_f : 1048576 < ((len_f : Nat) : Int)
  · rw [if_pos hbig_f] at SZ_f
    have ENT := Lib.hid (below_two w (.cells #[.int .i64 f0, .int .i64 f1, .slice a_f len_f cap_f] 44) (.cells #[.int .i64 k0, .int .i64 k1, .slice a_k len_k cap_k] 44))
    go_enter Try.func11, Try.ntmps11
    go_wp2_with fail
    refine (SZ_f.out _ ENT.out).mono ?_
    rintro e w1 ⟨rfl, hb1⟩
    have BZ1 := Lib.hid (below_up ENT.out hb1 ENT.out.size)
    clear hb1
    go_wp2
    go_ret
    exact ⟨rfl, BZ1.out⟩
  · rw [if_neg hbig_f] at SZ_f
    have hqz_f : decide (1048576 - ((len_f : Nat) : Int) < 0) = false := by simp; omega
    have SZ_k := Lib.hid fun wz (hz : Below w.heap.size w wz) => szframe_any a_k len_k cap_k k0 k1 (1048576 - ((len_f : Nat) : Int)) (by omega) (by omega) (by omega) wz
    by_cases hbig_k : 1048576 - ((len_f : Nat) : Int) < ((len_k : Nat) : Int)
    · rw [if_pos hbig_k] at SZ_k
      have ENT := Lib.hid (below_two w (.cells #[.int .i64 f0, .int .i64 f1, .slice a_f len_f cap_f] 44) (.cells #[.int .i64 k0, .int .i64 k1, .slice a_k len_k cap_k] 44))
      go_enter Try.func11, Try.ntmps11
      go_wp2_with fail
      refine (SZ_f.out _ ENT.out).mono ?_
      rintro e w1 ⟨rfl, hb1⟩
      have BZ1 := Lib.hid (below_up ENT.out hb1 ENT.out.size)
      have EB0_0 := Lib.hid (cell_kept (heap_two w (.cells #[.int .i64 f0, .int .i64 f1, .slice a_f len_f cap_f] 44) (.cells #[.int .i64 k0, .int .i64 k1, .slice a_k len_k cap_k] 44)).1 hb1)
      obtain ⟨ke0_0, ke0_1, ke0_2⟩ := cellsn3 EB0_0.out
      have EB0_1 := Lib.hid (cell_kept (heap_two w (.cells #[.int .i64 f0, .int .i64 f1, .slice a_f len_f cap_f] 44) (.cells #[.int .i64 k0, .int .i64 k1, .slice a_k len_k cap_k] 44)).2 hb1)
      obtain ⟨ke1_0, ke1_1, ke1_2⟩ := cellsn3 EB0_1.out
      clear hb1
      go_wp2_with fail
      refine (SZ_k.out _ BZ1.out).mono ?_
      rintro e w2 ⟨rfl, hb2⟩
      have BZ2 := Lib.hid (below_up BZ1.out hb2 BZ1.out.size)
      clear hb2
      go_wp2
      go_ret
      exact ⟨rfl, BZ2.out⟩
    · rw [if_neg hbig_k] at SZ_k
      have hqz_k : decide (1048576 - ((len_f : Nat) : Int) - ((len_k : Nat) : Int) < 0) = false := by simp; omega
      obtain ⟨l_f, rfl, hI_f, _, hcap_f⟩ := ints_of hr_f (by omega)
      have hll_f : l_f.length ≤ 1048576 := by omega
      have R_f := Lib.hid hI_f; clear hI_f hr_f
      obtain ⟨l_k, rfl, hI_k, _, hcap_k⟩ := ints_of hr_k (by omega)
      have hll_k : l_k.length ≤ 1048576 := by omega
      have R_k := Lib.hid hI_k; clear hI_k hr_k
      have ENT := Lib.hid (below_two w (.cells #[.int .i64 f0, .int .i64 f1, .slice a_f l_f.length cap_f] 44) (.cells #[.int .i64 k0, .int .i64 k1, .slice a_k l_k.length cap_k] 44))
      have SP := Lib.hid (fun (Af : Option Addr) (cf : Nat) (Ak : Option Addr) (ck : Nat) (w : World) (hf : Ints w w.heap.size Af l_f) (hcf : l_f.length ≤ cf) (hpf : Placed Af cf) (hk : Ints w w.heap.size Ak l_k) (hck : l_k.length ≤ ck) (hpk : Placed Ak ck) => spec_sameframe_any Af cf l_f f0 f1 Ak ck l_k k0 k1 (by omega) w hf hk)
      have IM := Lib.hid (fun (Af : Option Addr) (cf : Nat) (Ak : Option Addr) (ck : Nat) (w : World) (hf : Ints w w.heap.size Af l_f) (hcf : l_f.length ≤ cf) (hpf : Placed Af cf) (hk : Ints w w.heap.size Ak l_k) (hck : l_k.length ≤ ck) (hpk : Placed Ak ck) => impl_sameframe_any Af cf l_f f0 f1 Ak ck l_k k0 k1 (by omega) w hf hk)
      obtain ⟨r0, hr0⟩ : ∃ r, r = sfE f0 f1 l_f k0 k1 l_k := ⟨_, rfl⟩
      rw [← hr0] at SP IM
      clear hr0
      have hqr0 : (r0 != r0) = false := by simp
      clear hbig_f hbig_k hlm_f hlm_k
      go_enter Try.func11, Try.ntmps11
      go_wp2_with fail
      refine (SZ_f.out _ ENT.out).mono ?_
      rintro e w1 ⟨rfl, hb⟩
      have hbc := below_up ENT.out hb (ENT.out).size
      have C_0_1 : Hid (Wrote w w1 []) := Lib.hid (Wrote.of_below [] hbc)
      have HPf := Lib.hid (cell_kept (heap_two w (.cells #[.int .i64 f0, .int .i64 f1, .slice a_f l_f.length cap_f] 44) (.cells #[.int .i64 k0, .int .i64 k1, .slice a_k l_k.length cap_k] 44)).1 hb)
      have HPk := Lib.hid (cell_kept (heap_two w (.cells #[.int .i64 f0, .int .i64 f1, .slice a_f l_f.length cap_f] 44) (.cells #[.int .i64 k0, .int .i64 k1, .slice a_k l_k.length cap_k] 44)).2 hb)
      have Z_1 : Hid (w.heap.size + 1 + 1 ≤ w1.heap.size) := Lib.hid (by have := hb.size; simp only [World.size_alloc] at this; exact this)
      clear hbc hb
      have kkPf := HPf.out
      obtain ⟨kPf_0, kPf_1, kPf_2⟩ := cellsn3 kkPf
      have kkPk := HPk.out
      obtain ⟨kPk_0, kPk_1, kPk_2⟩ := cellsn3 kkPk
      go_wp2_with fail
      refine (SZ_k.out _ (by have h := C_0_1.out; exact ⟨h.os, h.tape, h.output, h.size, fun k hk => h.block k hk (by simp)⟩)).mono ?_
      rintro e w2 ⟨rfl, hb⟩
      have hbc := hb
      have C_0_2 := Lib.hid (C_0_1.out.trans (Wrote.of_below _ hbc))
      have C_1_2 : Hid (Wrote w1 w2 []) := Lib.hid (Wrote.of_below [] hbc)
      have Z_2 : Hid (w1.heap.size ≤ w2.heap.size) := Lib.hid hb.size
      clear kPf_0 kPf_1 kPf_2 kkPf kPk_0 kPk_1 kPk_2 kkPk C_0_1 hb
      have kkPf := (C_1_2.out.heap HPf.out (by simp))
      obtain ⟨kPf_0, kPf_1, kPf_2⟩ := cellsn3 kkPf
      have kkPk := (C_1_2.out.heap HPk.out (by simp))
      obtain ⟨kPk_0, kPk_1, kPk_2⟩ := cellsn3 kkPk
      have hS : w2.cell? ⟨w.heap.size, 0, none⟩ = some (.int .i64 f0) ∧ w2.cell? ⟨w.heap.size, 1, none⟩ = some (.int .i64 f1) ∧ w2.cell? ⟨w.heap.size, 2, none⟩ = some (.slice a_f l_f.length cap_f) ∧ w2.cell? ⟨w.heap.size + 1, 0, none⟩ = some (.int .i64 k0) ∧ w2.cell? ⟨w.heap.size + 1, 1, none⟩ = some (.int .i64 k1) ∧ w2.cell? ⟨w.heap.size + 1, 2, none⟩ = some (.slice a_k l_k.length cap_k) ∧ Below w2.heap.size w2 w2 ∧ w2.heap.size ≤ w2.heap.size := ⟨kPf_0, kPf_1, kPf_2, kPk_0, kPk_1, kPk_2, Below.refl _ _, Nat.le_refl _⟩
      have RVf0 := Lib.hid ((R_f.out.kept (fun k hk => C_0_2.out.block k hk (by simp))).mono C_0_2.out.size)
      have TOSf := Lib.hid fun wr (h : Below w2.heap.size w2 wr) => toframe_any a_f cap_f l_f f0 f1 hll_f wr ((RVf0.out.below h (Nat.le_refl _)).mono h.size)
      have RVk0 := Lib.hid ((R_k.out.kept (fun k hk => C_0_2.out.block k hk (by simp))).mono C_0_2.out.size)
      have TOSk := Lib.hid fun wr (h : Below w2.heap.size w2 wr) => toframe_any a_k cap_k l_k k0 k1 hll_k wr ((RVk0.out.below h (Nat.le_refl _)).mono h.size)
      clear kPf_0 kPf_1 kPf_2 kkPf kPk_0 kPk_1 kPk_2 kkPk
      go_wp2_with fail
      go_region_held3 (fun w' => w'.cell? ⟨w.heap.size, 0, none⟩ = some (.int .i64 f0) ∧ w'.cell? ⟨w.heap.size, 1, none⟩ = some (.int .i64 f1) ∧ w'.cell? ⟨w.heap.size, 2, none⟩ = some (.slice a_f l_f.length cap_f) ∧ w'.cell? ⟨w.heap.size + 1, 0, none⟩ = some (.int .i64 k0) ∧ w'.cell? ⟨w.heap.size + 1, 1, none⟩ = some (.int .i64 k1) ∧ w'.cell? ⟨w.heap.size + 1, 2, none⟩ = some (.slice a_k l_k.length cap_k) ∧ Below w2.heap.size w2 w' ∧ w2.heap.size ≤ w'.heap.size)
        (first | with_reducible assumption | (with_reducible refine heldx6_drew ?_; with_reducible assumption) | (with_reducible refine heldx6 ?_ (by with_reducible assumption); with_reducible assumption))
        (first
          | (go_at_call 31; (with_reducible refine (TOSf.out _ (heldx6_below (by with_reducible assumption))).mono ?_); rintro e wt0 ⟨Afs, cfs, rfl, hofs, hb0⟩; have O0_0 := Lib.hid hofs)
          | (go_at_call 31; (with_reducible refine (TOSk.out _ (heldx6_below (by with_reducible assumption))).mono ?_); rintro e wt1 ⟨Aks, cks, rfl, hoks, hb1⟩; have O1_1 := Lib.hid hoks; have O0_1 := Lib.hid (O0_0.out.same fun k hk => hb1.block k (O0_0.out.fp k hk).2))
          | (go_at_call 16; have SPX := SP.out Afs cfs Aks cks _ (OwnI.ints O0_1.out (by omega)) (OwnI.cap_le O0_1.out) (OwnI.placed O0_1.out) (OwnI.ints O1_1.out (by omega)) (OwnI.cap_le O1_1.out) (OwnI.placed O1_1.out); (with_reducible refine SPX.mono ?_); clear SPX; rintro e w3 ⟨rfl, hbz⟩))
      all_goals
        have hb : Below w2.heap.size w2 w3 := heldx6_below (by with_reducible assumption)
        have hbc := hb
        have C_0_3 := Lib.hid (C_0_2.out.trans (Wrote.of_below _ hbc))
        have C_1_3 := Lib.hid (C_1_2.out.trans (Wrote.of_below _ hbc))
        have Z_3 : Hid (w2.heap.size ≤ w3.heap.size) := Lib.hid hb.size
        clear C_0_2 C_1_2 hb
        clear TOSf RVf0 TOSk RVk0
        have kkPf := (C_1_3.out.heap HPf.out (by simp))
        obtain ⟨kPf_0, kPf_1, kPf_2⟩ := cellsn3 kkPf
        have kkPk := (C_1_3.out.heap HPk.out (by simp))
        obtain ⟨kPk_0, kPk_1, kPk_2⟩ := cellsn3 kkPk
        go_wp2_with fail
        refine (toframe_any a_f cap_f l_f f0 f1 hll_f _ ((R_f.out.kept (fun k hk => C_0_3.out.block k hk (by simp))).mono C_0_3.out.size)).mono ?_
        rintro e w4 ⟨Af, cf, rfl, hof, hb⟩
        have hbc := hb
        have C_0_4 := Lib.hid (C_0_3.out.trans (Wrote.of_below _ hbc))
        have C_1_4 := Lib.hid (C_1_3.out.trans (Wrote.of_below _ hbc))
        have Z_4 : Hid (w3.heap.size ≤ w4.heap.size) := Lib.hid hb.size
        clear kPf_0 kPf_1 kPf_2 kkPf kPk_0 kPk_1 kPk_2 kkPk C_0_3 C_1_3 hb
        have Xf := Lib.hid hof; have BKXf := Lib.hid (hof.fp); clear hof
        have kkPf := (C_1_4.out.heap HPf.out (by simp))
        obtain ⟨kPf_0, kPf_1, kPf_2⟩ := cellsn3 kkPf
        have qPf := heap_lt kkPf
        have kkPk := (C_1_4.out.heap HPk.out (by simp))
        obtain ⟨kPk_0, kPk_1, kPk_2⟩ := cellsn3 kkPk
        have qPk := heap_lt kkPk
        go_wp2_with fail
        refine (toframe_any a_k cap_k l_k k0 k1 hll_k _ ((R_k.out.kept (fun k hk => (C_0_4.out.trans (Wrote.of_below _ (below_new w4 (.cells #[.int .i64 f0, .int .i64 f1, .slice Af l_f.length cf] 26)))).block k hk (by simp))).mono (C_0_4.out.trans (Wrote.of_below _ (below_new w4 (.cells #[.int .i64 f0, .int .i64 f1, .slice Af l_f.length cf] 26)))).size)).mono ?_
        rintro e w5 ⟨Ak, ck, rfl, hok, hb⟩
        have hbc := below_up (below_new w4 (.cells #[.int .i64 f0, .int .i64 f1, .slice Af l_f.length cf] 26)) hb ((below_new w4 (.cells #[.int .i64 f0, .int .i64 f1, .slice Af l_f.length cf] 26))).size
        have C_0_5 := Lib.hid (C_0_4.out.trans (Wrote.of_below _ hbc))
        have C_1_5 := Lib.hid (C_1_4.out.trans (Wrote.of_below _ hbc))
        have C_4_5 : Hid (Wrote w4 w5 []) := Lib.hid (Wrote.of_below [] hbc)
        have HXf := Lib.hid (cell_kept (heap_alloc_new w4 (.cells #[.int .i64 f0, .int .i64 f1, .slice Af l_f.length cf] 26)) hb)
        have Z_5 : Hid (w4.heap.size + 1 ≤ w5.heap.size) := Lib.hid (by have := hb.size; simp only [World.size_alloc] at this; exact this)
        clear kPf_0 kPf_1 kPf_2 kkPf qPf kPk_0 kPk_1 kPk_2 kkPk qPk C_0_4 C_1_4 hbc hb
        simp only [World.size_alloc] at hok
        have Xk := Lib.hid hok; have BKXk := Lib.hid (hok.fp); clear hok
        have kkPf := (C_1_5.out.heap HPf.out (by simp))
        obtain ⟨kPf_0, kPf_1, kPf_2⟩ := cellsn3 kkPf
        have qPf := heap_lt kkPf
        have kkPk := (C_1_5.out.heap HPk.out (by simp))
        obtain ⟨kPk_0, kPk_1, kPk_2⟩ := cellsn3 kkPk
        have qPk := heap_lt kkPk
        have kkXf := HXf.out
        obtain ⟨kXf_0, kXf_1, kXf_2⟩ := cellsn3 kkXf
        have qXf := heap_lt kkXf
        go_wp2_with fail
        refine (IM.out Af cf Ak ck _ (OwnI.ints (Xf.out.same (fun k hk => (C_4_5.out.trans (Wrote.of_below _ (below_new w5 (.cells #[.int .i64 k0, .int .i64 k1, .slice Ak l_k.length ck] 26)))).block k (Xf.out.fp k hk).2 (by simp))) (by omega)) (OwnI.cap_le (Xf.out.same (fun k hk => (C_4_5.out.trans (Wrote.of_below _ (below_new w5 (.cells #[.int .i64 k0, .int .i64 k1, .slice Ak l_k.length ck] 26)))).block k (Xf.out.fp k hk).2 (by simp)))) (OwnI.placed (Xf.out.same (fun k hk => (C_4_5.out.trans (Wrote.of_below _ (below_new w5 (.cells #[.int .i64 k0, .int .i64 k1, .slice Ak l_k.length ck] 26)))).block k (Xf.out.fp k hk).2 (by simp)))) (OwnI.ints (Xk.out.same (fun k hk => (Wrote.of_below [] (below_new w5 (.cells #[.int .i64 k0, .int .i64 k1, .slice Ak l_k.length ck] 26))).block k (Xk.out.fp k hk).2 (by simp))) (by omega)) (OwnI.cap_le (Xk.out.same (fun k hk => (Wrote.of_below [] (below_new w5 (.cells #[.int .i64 k0, .int .i64 k1, .slice Ak l_k.length ck] 26))).block k (Xk.out.fp k hk).2 (by simp)))) (OwnI.placed (Xk.out.same (fun k hk => (Wrote.of_below [] (below_new w5 (.cells #[.int .i64 k0, .int .i64 k1, .slice Ak l_k.length ck] 26))).block k (Xk.out.fp k hk).2 (by simp))))).mono ?_
        rintro e w6 ⟨rfl, hb⟩
        have hbc := below_up (below_new w5 (.cells #[.int .i64 k0, .int .i64 k1, .slice Ak l_k.length ck] 26)) hb ((below_new w5 (.cells #[.int .i64 k0, .int .i64 k1, .slice Ak l_k.length ck] 26))).size
        have C_0_6 := Lib.hid (C_0_5.out.trans (Wrote.of_below _ hbc))
        have C_1_6 := Lib.hid (C_1_5.out.trans (Wrote.of_below _ hbc))
        have C_4_6 := Lib.hid (C_4_5.out.trans (Wrote.of_below _ hbc))
        have C_5_6 : Hid (Wrote w5 w6 []) := Lib.hid (Wrote.of_below [] hbc)
        have HXk := Lib.hid (cell_kept (heap_alloc_new w5 (.cells #[.int .i64 k0, .int .i64 k1, .slice Ak l_k.length ck] 26)) hb)
        have Z_6 : Hid (w5.heap.size + 1 ≤ w6.heap.size) := Lib.hid (by have := hb.size; simp only [World.size_alloc] at this; exact this)
        clear kPf_0 kPf_1 kPf_2 kkPf qPf kPk_0 kPk_1 kPk_2 kkPk qPk kXf_0 kXf_1 kXf_2 kkXf qXf C_0_5 C_1_5 C_4_5 hbc hb
        have kkPf := (C_1_6.out.heap HPf.out (by simp))
        obtain ⟨kPf_0, kPf_1, kPf_2⟩ := cellsn3 kkPf
        have kkPk := (C_1_6.out.heap HPk.out (by simp))
        obtain ⟨kPk_0, kPk_1, kPk_2⟩ := cellsn3 kkPk
        have kkXf := (C_5_6.out.heap HXf.out (by simp))
        obtain ⟨kXf_0, kXf_1, kXf_2⟩ := cellsn3 kkXf
        have kkXk := HXk.out
        obtain ⟨kXk_0, kXk_1, kXk_2⟩ := cellsn3 kkXk
        have hS : w6.cell? ⟨w.heap.size, 0, none⟩ = some (.int .i64 f0) ∧ w6.cell? ⟨w.heap.size, 1, none⟩ = some (.int .i64 f1) ∧ w6.cell? ⟨w.heap.size, 2, none⟩ = some (.slice a_f l_f.length cap_f) ∧ w6.cell? ⟨w4.heap.size, 0, none⟩ = some (.int .i64 f0) ∧ w6.cell? ⟨w4.heap.size, 1, none⟩ = some (.int .i64 f1) ∧ w6.cell? ⟨w4.heap.size, 2, none⟩ = some (.slice Af l_f.length cf) ∧ Below w6.heap.size w6 w6 ∧ w6.heap.size ≤ w6.heap.size := ⟨kPf_0, kPf_1, kPf_2, kXf_0, kXf_1, kXf_2, Below.refl _ _, Nat.le_refl _⟩
        have OX := Lib.hid (Xf.out.same (fun k hk => C_4_6.out.block k (Xf.out.fp k hk).2 (by simp)))
        have RV0 := Lib.hid ((R_f.out.kept (fun k hk => C_0_6.out.block k hk (by simp))).mono C_0_6.out.size)
        have TOS := Lib.hid fun wr (h : Below w6.heap.size w6 wr) => toframe_any a_f cap_f l_f f0 f1 hll_f wr ((RV0.out.below h (Nat.le_refl _)).mono h.size)
        have EQS := Lib.hid fun (Aft : Option Addr) (cft : Nat) (b : Nat) wr (h : Below w6.heap.size w6 wr) (ho : OwnI wr (b) Aft cft l_f) => eqframe_same Af Aft cf cft l_f f0 f1 wr (OwnI.ints (OX.out.same (fun k hk => h.block k (OX.out.fp k hk).2)) (by omega)) (OwnI.ints ho (by omega))
        clear kPf_0 kPf_1 kPf_2 kkPf kPk_0 kPk_1 kPk_2 kkPk kXf_0 kXf_1 kXf_2 kkXf kXk_0 kXk_1 kXk_2 kkXk
        go_wp2_with fail
        go_region_held3 (fun w' => w'.cell? ⟨w.heap.size, 0, none⟩ = some (.int .i64 f0) ∧ w'.cell? ⟨w.heap.size, 1, none⟩ = some (.int .i64 f1) ∧ w'.cell? ⟨w.heap.size, 2, none⟩ = some (.slice a_f l_f.length cap_f) ∧ w'.cell? ⟨w4.heap.size, 0, none⟩ = some (.int .i64 f0) ∧ w'.cell? ⟨w4.heap.size, 1, none⟩ = some (.int .i64 f1) ∧ w'.cell? ⟨w4.heap.size, 2, none⟩ = some (.slice Af l_f.length cf) ∧ Below w6.heap.size w6 w' ∧ w6.heap.size ≤ w'.heap.size)
          (first | with_reducible assumption | (with_reducible refine heldx6_drew ?_; with_reducible assumption) | (with_reducible refine heldx6 ?_ (by with_reducible assumption); with_reducible assumption))
          (first
            | (go_at_call 31; (with_reducible refine (TOS.out _ (heldx6_below (by with_reducible assumption))).mono ?_); rintro e wt ⟨Aft, cft, rfl, ho', hb'⟩)
            | (go_at_call 32; (with_reducible refine (EQS.out _ _ _ _ (heldx6_below (by with_reducible assumption)) (by first | with_reducible assumption | (with_reducible refine World.ownsRow.drew ?_; with_reducible assumption))).mono ?_); rintro e w7 ⟨rfl, hbt⟩))
        all_goals
          have hb : Below w6.heap.size w6 w7 := heldx6_below (by with_reducible assumption)
          have hbc := hb
          have C_0_7 := Lib.hid (C_0_6.out.trans (Wrote.of_below _ hbc))
          have C_1_7 := Lib.hid (C_1_6.out.trans (Wrote.of_below _ hbc))
          have C_4_7 := Lib.hid (C_4_6.out.trans (Wrote.of_below _ hbc))
          have C_5_7 := Lib.hid (C_5_6.out.trans (Wrote.of_below _ hbc))
          have C_6_7 : Hid (Wrote w6 w7 []) := Lib.hid (Wrote.of_below [] hbc)
          have Z_7 : Hid (w6.heap.size ≤ w7.heap.size) := Lib.hid hb.size
          clear C_0_6 C_1_6 C_4_6 C_5_6 hb
          clear TOS EQS OX RV0
          have kkPf := (C_1_7.out.heap HPf.out (by simp))
          obtain ⟨kPf_0, kPf_1, kPf_2⟩ := cellsn3 kkPf
          have kkPk := (C_1_7.out.heap HPk.out (by simp))
          obtain ⟨kPk_0, kPk_1, kPk_2⟩ := cellsn3 kkPk
          have kkXf := (C_5_7.out.heap HXf.out (by simp))
          obtain ⟨kXf_0, kXf_1, kXf_2⟩ := cellsn3 kkXf
          have kkXk := (C_6_7.out.heap HXk.out (by simp))
          obtain ⟨kXk_0, kXk_1, kXk_2⟩ := cellsn3 kkXk
          have hS : w7.cell? ⟨w.heap.size + 1, 0, none⟩ = some (.int .i64 k0) ∧ w7.cell? ⟨w.heap.size + 1, 1, none⟩ = some (.int .i64 k1) ∧ w7.cell? ⟨w.heap.size + 1, 2, none⟩ = some (.slice a_k l_k.length cap_k) ∧ w7.cell? ⟨w5.heap.size, 0, none⟩ = some (.int .i64 k0) ∧ w7.cell? ⟨w5.heap.size, 1, none⟩ = some (.int .i64 k1) ∧ w7.cell? ⟨w5.heap.size, 2, none⟩ = some (.slice Ak l_k.length ck) ∧ Below w7.heap.size w7 w7 ∧ w7.heap.size ≤ w7.heap.size := ⟨kPk_0, kPk_1, kPk_2, kXk_0, kXk_1, kXk_2, Below.refl _ _, Nat.le_refl _⟩
          have OX := Lib.hid (Xk.out.same (fun k hk => C_5_7.out.block k (Xk.out.fp k hk).2 (by simp)))
          have RV0 := Lib.hid ((R_k.out.kept (fun k hk => C_0_7.out.block k hk (by simp))).mono C_0_7.out.size)
          have TOS := Lib.hid fun wr (h : Below w7.heap.size w7 wr) => toframe_any a_k cap_k l_k k0 k1 hll_k wr ((RV0.out.below h (Nat.le_refl _)).mono h.size)
          have EQS := Lib.hid fun (Akt : Option Addr) (ckt : Nat) (b : Nat) wr (h : Below w7.heap.size w7 wr) (ho : OwnI wr (b) Akt ckt l_k) => eqframe_same Ak Akt ck ckt l_k k0 k1 wr (OwnI.ints (OX.out.same (fun k hk => h.block k (OX.out.fp k hk).2)) (by omega)) (OwnI.ints ho (by omega))
          clear kPf_0 kPf_1 kPf_2 kkPf kPk_0 kPk_1 kPk_2 kkPk kXf_0 kXf_1 kXf_2 kkXf kXk_0 kXk_1 kXk_2 kkXk
          go_wp2_with fail
          go_region_held3 (fun w' => w'.cell? ⟨w.heap.size + 1, 0, none⟩ = some (.int .i64 k0) ∧ w'.cell? ⟨w.heap.size + 1, 1, none⟩ = some (.int .i64 k1) ∧ w'.cell? ⟨w.heap.size + 1, 2, none⟩ = some (.slice a_k l_k.length cap_k) ∧ w'.cell? ⟨w5.heap.size, 0, none⟩ = some (.int .i64 k0) ∧ w'.cell? ⟨w5.heap.size, 1, none⟩ = some (.int .i64 k1) ∧ w'.cell? ⟨w5.heap.size, 2, none⟩ = some (.slice Ak l_k.length ck) ∧ Below w7.heap.size w7 w' ∧ w7.heap.size ≤ w'.heap.size)
            (first | with_reducible assumption | (with_reducible refine heldx6_drew ?_; with_reducible assumption) | (with_reducible refine heldx6 ?_ (by with_reducible assumption); with_reducible assumption))
            (first
              | (go_at_call 31; (with_reducible refine (TOS.out _ (heldx6_below (by with_reducible assumption))).mono ?_); rintro e wt ⟨Akt, ckt, rfl, ho', hb'⟩)
              | (go_at_call 32; (with_reducible refine (EQS.out _ _ _ _ (heldx6_below (by with_reducible assumption)) (by first | with_reducible assumption | (with_reducible refine World.ownsRow.drew ?_; with_reducible assumption))).mono ?_); rintro e w8 ⟨rfl, hbt⟩))
          all_goals
            have hb : Below w7.heap.size w7 w8 := heldx6_below (by with_reducible assumption)
            have hbc := hb
            have C_0_8 := Lib.hid (C_0_7.out.trans (Wrote.of_below _ hbc))
            have C_1_8 := Lib.hid (C_1_7.out.trans (Wrote.of_below _ hbc))
            have C_4_8 := Lib.hid (C_4_7.out.trans (Wrote.of_below _ hbc))
            have C_5_8 := Lib.hid (C_5_7.out.trans (Wrote.of_below _ hbc))
            have C_6_8 := Lib.hid (C_6_7.out.trans (Wrote.of_below _ hbc))
            have Z_8 : Hid (w7.heap.size ≤ w8.heap.size) := Lib.hid hb.size
            clear C_0_7 C_1_7 C_4_7 C_5_7 C_6_7 hb
            clear TOS EQS OX RV0
            go_wp2
            go_ret
            exact ⟨rfl, C_0_8.out.os, C_0_8.out.tape, C_0_8.out.output, C_0_8.out.size, fun k hk => C_0_8.out.block k hk (by simp)⟩
end Go.Proofs.Ytemfiglflbfocaa
