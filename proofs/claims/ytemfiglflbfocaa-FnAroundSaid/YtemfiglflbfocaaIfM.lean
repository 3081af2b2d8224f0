/-
  The exact laws' walks of chapter 18, by the contracts of the two texts. No condition.
-/
import Derived.Test.YtemfiglflbfocaaTrM
import Derived.Test.YtemfiglflbfocaaGen
import Derived.Test.YtemfiglflbfocaaRsM
import Derived.Test.YtemfiglflbfocaaNbW
import Derived.Test.YtemfiglflbfocaaIfF
namespace Go.Proofs.Ytemfiglflbfocaa
open Go.RowKit
set_option linter.unusedVariables false

theorem own_nbtwo {w : World} {base : Nat} {A : Option Addr} {cA : Nat} {B : Option Addr} {cB : Nat} {t l : List Int} (h : NbTwo w base A cA B cB t l) : OwnNb w base A cA B cB t l :=
  ⟨h.1, h.2.1, fun k h1 h2 => h.2.2 k (obk_own.2 h1) (obk_own.2 h2)⟩
theorem spec_nbat_o (a b : Int) (A : Option Addr) (ca : Nat) (l : List Int) (x y n : Int) (w : World) (hA : Ints w w.heap.size A l) :
    Calls Try.prog 23 #[.agg #[.int .i64 a, .int .i64 b, .slice A l.length ca], .int .i64 x, .int .i64 y, .int .i64 n] w fun e w' => ∃ A' cA B' cB, e = .returned (.agg #[.slice A' (nbTop a b l x y n).length cA, .slice B' (nbLeft a b l x y n).length cB, .int .i64 (nbCo a b l x y n), .bool (nbHas a b l x y n y), .bool (nbHas a b l x y n x)]) ∧ OwnNb w' w.heap.size A' cA B' cB (nbTop a b l x y n) (nbLeft a b l x y n) ∧ Below w.heap.size w w' := by
  refine (spec_nbat_any a b A ca l x y n w hA).mono ?_
  rintro e w' ⟨A', cA, B', cB, h1, h2, h3⟩
  exact ⟨A', cA, B', cB, h1, own_nbtwo h2, h3⟩
theorem impl_nbat_o (a b : Int) (A : Option Addr) (ca : Nat) (l : List Int) (x y n : Int) (w : World) (hA : Ints w w.heap.size A l) (hca : l.length ≤ ca) :
    Calls Try.prog 22 #[.agg #[.int .i64 a, .int .i64 b, .slice A l.length ca], .int .i64 x, .int .i64 y, .int .i64 n] w fun e w' => ∃ A' cA B' cB, e = .returned (.agg #[.slice A' (nbTop a b l x y n).length cA, .slice B' (nbLeft a b l x y n).length cB, .int .i64 (nbCo a b l x y n), .bool (nbHas a b l x y n y), .bool (nbHas a b l x y n x)]) ∧ OwnNb w' w.heap.size A' cA B' cB (nbTop a b l x y n) (nbLeft a b l x y n) ∧ Below w.heap.size w w' := by
  refine (impl_nbat_any a b A ca l x y n w hA hca).mono ?_
  rintro e w' ⟨A', cA, B', cB, h1, h2, h3⟩
  exact ⟨A', cA, B', cB, h1, own_nbtwo h2, h3⟩
set_option maxRecDepth 100000 in
set_option maxHeartbeats 8000000 in
/-- The law's own walk, by contracts of the two texts. -/
theorem fnExactNbAt_walk (f0 : Int) (f1 : Int) (a_f : Option Addr) (len_f cap_f : Nat) (zs_f : List Int) (x : Int) (y : Int) (n : Int) (wf_f0 : (Lit.int .i64 f0).wf = true) (wf_f1 : (Lit.int .i64 f1).wf = true) (wf_x : (Lit.int .i64 x).wf = true) (wf_y : (Lit.int .i64 y).wf = true) (wf_n : (Lit.int .i64 n).wf = true) (w : World) (hr_f : IsRow .i64 w a_f len_f cap_f zs_f) :
    Calls Try.prog 10 #[.agg #[.int .i64 f0, .int .i64 f1, .slice a_f len_f cap_f], .int .i64 x, .int .i64 y, .int .i64 n] w fun e w' => e = .returned (.bool true) ∧ Below w.heap.size w w' := by
  have hlm_f := hr_f.len_le
  unfold maxLen at hlm_f
  have SZ_f := Lib.hid fun wz (hz : Below w.heap.size w wz) => szframe_any a_f len_f cap_f f0 f1 (1048576) (by omega) (by omega) (by omega) wz
  by_cases hbig_f : 1048576 < ((len_f : Nat) : Int)
  · rw [if_pos hbig_f] at SZ_f
    have ENT := Lib.hid (below_new w (.cells #[.int .i64 f0, .int .i64 f1, .slice a_f len_f cap_f] 44))
    go_enter Try.func10, Try.ntmps10
    go_wp2_with fail
    refine (SZ_f.out _ ENT.out).mono ?_
    rintro e w1 ⟨rfl, hb1⟩
    have BZ1 := Lib.hid (below_up ENT.out hb1 ENT.out.size)
    clear hb1
    go_wp2
    go_ret
    exact ⟨rfl, BZ1.out⟩
  · rw [if_neg hbig_f] at SZ_f
    have hqz_f : decide (1048576 - ((len_f : Nat) : Int) < 0) = false := by simp; omega
    obtain ⟨l_f, rfl, hI_f, _, hcap_f⟩ := ints_of hr_f (by omega)
    have hll_f : l_f.length ≤ 1048576 := by omega
    have R_f := Lib.hid hI_f; clear hI_f hr_f
    have ENT := Lib.hid (below_new w (.cells #[.int .i64 f0, .int .i64 f1, .slice a_f l_f.length cap_f] 44))
    have SP := Lib.hid (fun (Af : Option Addr) (cf : Nat) (w : World) (hf : Ints w w.heap.size Af l_f) (hcf : l_f.length ≤ cf) (hpf : Placed Af cf) => spec_nbat_o f0 f1 Af cf l_f x y n w hf)
    have IM := Lib.hid (fun (Af : Option Addr) (cf : Nat) (w : World) (hf : Ints w w.heap.size Af l_f) (hcf : l_f.length ≤ cf) (hpf : Placed Af cf) => impl_nbat_o f0 f1 Af cf l_f x y n w hf hcf)
    have hll_r0 : (nbTop f0 f1 l_f x y n).length ≤ 1048576 := Nat.le_trans (nbTop_len f0 f1 l_f x y n) (by decide)
    obtain ⟨l_r0, hl_r0⟩ : ∃ r, r = nbTop f0 f1 l_f x y n := ⟨_, rfl⟩
    rw [← hl_r0] at SP IM hll_r0
    clear hl_r0
    have hmm_r0 : (nbLeft f0 f1 l_f x y n).length ≤ 1048576 := Nat.le_trans (nbLeft_len f0 f1 l_f x y n) (by decide)
    obtain ⟨m_r0, hm_r0⟩ : ∃ r, r = nbLeft f0 f1 l_f x y n := ⟨_, rfl⟩
    rw [← hm_r0] at SP IM hmm_r0
    clear hm_r0
    obtain ⟨r00, hr00⟩ : ∃ r, r = nbCo f0 f1 l_f x y n := ⟨_, rfl⟩
    rw [← hr00] at SP IM
    clear hr00
    obtain ⟨r01, hr01⟩ : ∃ r, r = nbHas f0 f1 l_f x y n y := ⟨_, rfl⟩
    rw [← hr01] at SP IM
    clear hr01
    obtain ⟨r02, hr02⟩ : ∃ r, r = nbHas f0 f1 l_f x y n x := ⟨_, rfl⟩
    rw [← hr02] at SP IM
    clear hr02
    clear hbig_f hlm_f
    go_enter Try.func10, Try.ntmps10
    go_wp2_with fail
    refine (SZ_f.out _ ENT.out).mono ?_
    rintro e w1 ⟨rfl, hb⟩
    have hbc := below_up ENT.out hb (ENT.out).size
    have C_0_1 : Hid (Wrote w w1 []) := Lib.hid (Wrote.of_below [] hbc)
    have HPf := Lib.hid (cell_kept (heap_alloc_new w (.cells #[.int .i64 f0, .int .i64 f1, .slice a_f l_f.length cap_f] 44)) hb)
    have Z_1 : Hid (w.heap.size + 1 ≤ w1.heap.size) := Lib.hid (by have := hb.size; simp only [World.size_alloc] at this; exact this)
    clear hbc hb
    have kkPf := HPf.out
    obtain ⟨kPf_0, kPf_1, kPf_2⟩ := cellsn3 kkPf
    go_wp2_with fail
    refine (toframe_any a_f cap_f l_f f0 f1 hll_f _ ((R_f.out.kept (fun k hk => C_0_1.out.block k hk (by simp))).mono C_0_1.out.size)).mono ?_
    rintro e w2 ⟨Afs, cfs, rfl, hofs, hb⟩
    have hbc := hb
    have C_0_2 := Lib.hid (C_0_1.out.trans (Wrote.of_below _ hbc))
    have C_1_2 : Hid (Wrote w1 w2 []) := Lib.hid (Wrote.of_below [] hbc)
    have Z_2 : Hid (w1.heap.size ≤ w2.heap.size) := Lib.hid hb.size
    clear kPf_0 kPf_1 kPf_2 kkPf C_0_1 hb
    have Xfs := Lib.hid hofs; have BKXfs := Lib.hid (hofs.fp); clear hofs
    have kkPf := (C_1_2.out.heap HPf.out (by simp))
    obtain ⟨kPf_0, kPf_1, kPf_2⟩ := cellsn3 kkPf
    go_wp2_with fail
    refine (SP.out Afs cfs _ (OwnI.ints Xfs.out (by omega)) (OwnI.cap_le Xfs.out) (OwnI.placed Xfs.out)).mono ?_
    rintro e w3 ⟨AYr0, cYr0, BYr0, dYr0, rfl, hoYr0, hb⟩
    have hbc := hb
    have C_0_3 := Lib.hid (C_0_2.out.trans (Wrote.of_below _ hbc))
    have C_1_3 := Lib.hid (C_1_2.out.trans (Wrote.of_below _ hbc))
    have C_2_3 : Hid (Wrote w2 w3 []) := Lib.hid (Wrote.of_below [] hbc)
    have Z_3 : Hid (w2.heap.size ≤ w3.heap.size) := Lib.hid hb.size
    clear kPf_0 kPf_1 kPf_2 kkPf C_0_2 C_1_2 hb
    have Yr0 := Lib.hid hoYr0; have BKYr0 := Lib.hid (hoYr0.fp); clear hoYr0
    clear Xfs
    have kkPf := (C_1_3.out.heap HPf.out (by simp))
    obtain ⟨kPf_0, kPf_1, kPf_2⟩ := cellsn3 kkPf
    have qPf := heap_lt kkPf
    go_wp2_with fail
    refine (toframe_any a_f cap_f l_f f0 f1 hll_f _ ((R_f.out.kept (fun k hk => (C_0_3.out.trans (Wrote.of_below _ (below_new w3 (.cells #[.slice AYr0 l_r0.length cYr0, .slice BYr0 m_r0.length dYr0, .int .i64 r00, .bool r01, .bool r02] 38)))).block k hk (by simp))).mono (C_0_3.out.trans (Wrote.of_below _ (below_new w3 (.cells #[.slice AYr0 l_r0.length cYr0, .slice BYr0 m_r0.length dYr0, .int .i64 r00, .bool r01, .bool r02] 38)))).size)).mono ?_
    rintro e w4 ⟨Af, cf, rfl, hof, hb⟩
    have hbc := below_up (below_new w3 (.cells #[.slice AYr0 l_r0.length cYr0, .slice BYr0 m_r0.length dYr0, .int .i64 r00, .bool r01, .bool r02] 38)) hb ((below_new w3 (.cells #[.slice AYr0 l_r0.length cYr0, .slice BYr0 m_r0.length dYr0, .int .i64 r00, .bool r01, .bool r02] 38))).size
    have C_0_4 := Lib.hid (C_0_3.out.trans (Wrote.of_below _ hbc))
    have C_1_4 := Lib.hid (C_1_3.out.trans (Wrote.of_below _ hbc))
    have C_3_4 : Hid (Wrote w3 w4 []) := Lib.hid (Wrote.of_below [] hbc)
    have HBYr0 := Lib.hid (cell_kept (heap_alloc_new w3 (.cells #[.slice AYr0 l_r0.length cYr0, .slice BYr0 m_r0.length dYr0, .int .i64 r00, .bool r01, .bool r02] 38)) hb)
    have Z_4 : Hid (w3.heap.size + 1 ≤ w4.heap.size) := Lib.hid (by have := hb.size; simp only [World.size_alloc] at this; exact this)
    clear kPf_0 kPf_1 kPf_2 kkPf qPf C_0_3 C_1_3 hbc hb
    simp only [World.size_alloc] at hof
    have Xf := Lib.hid hof; have BKXf := Lib.hid (hof.fp); clear hof
    have kkPf := (C_1_4.out.heap HPf.out (by simp))
    obtain ⟨kPf_0, kPf_1, kPf_2⟩ := cellsn3 kkPf
    have qPf := heap_lt kkPf
    have kkBYr0 := HBYr0.out
    obtain ⟨kBYr0_0, kBYr0_1, kBYr0_2, kBYr0_3, kBYr0_4⟩ := cellsn5 kkBYr0
    have qBYr0 := heap_lt kkBYr0
    go_wp2_with fail
    refine (IM.out Af cf _ (OwnI.ints (Xf.out.same (fun k hk => (Wrote.of_below [] (below_new w4 (.cells #[.int .i64 f0, .int .i64 f1, .slice Af l_f.length cf] 26))).block k (Xf.out.fp k hk).2 (by simp))) (by omega)) (OwnI.cap_le (Xf.out.same (fun k hk => (Wrote.of_below [] (below_new w4 (.cells #[.int .i64 f0, .int .i64 f1, .slice Af l_f.length cf] 26))).block k (Xf.out.fp k hk).2 (by simp)))) (OwnI.placed (Xf.out.same (fun k hk => (Wrote.of_below [] (below_new w4 (.cells #[.int .i64 f0, .int .i64 f1, .slice Af l_f.length cf] 26))).block k (Xf.out.fp k hk).2 (by simp))))).mono ?_
    rintro e w5 ⟨AGr0, cGr0, BGr0, dGr0, rfl, hoGr0, hb⟩
    have hbc := below_up (below_new w4 (.cells #[.int .i64 f0, .int .i64 f1, .slice Af l_f.length cf] 26)) hb ((below_new w4 (.cells #[.int .i64 f0, .int .i64 f1, .slice Af l_f.length cf] 26))).size
    have C_0_5 := Lib.hid (C_0_4.out.trans (Wrote.of_below _ hbc))
    have C_1_5 := Lib.hid (C_1_4.out.trans (Wrote.of_below _ hbc))
    have C_3_5 := Lib.hid (C_3_4.out.trans (Wrote.of_below _ hbc))
    have C_4_5 : Hid (Wrote w4 w5 []) := Lib.hid (Wrote.of_below [] hbc)
    have HXf := Lib.hid (cell_kept (heap_alloc_new w4 (.cells #[.int .i64 f0, .int .i64 f1, .slice Af l_f.length cf] 26)) hb)
    have Z_5 : Hid (w4.heap.size + 1 ≤ w5.heap.size) := Lib.hid (by have := hb.size; simp only [World.size_alloc] at this; exact this)
    clear kPf_0 kPf_1 kPf_2 kkPf qPf kBYr0_0 kBYr0_1 kBYr0_2 kBYr0_3 kBYr0_4 kkBYr0 qBYr0 C_0_4 C_1_4 C_3_4 hbc hb
    simp only [World.size_alloc] at hoGr0
    have Gr0 := Lib.hid hoGr0; have BKGr0 := Lib.hid (hoGr0.fp); clear hoGr0
    have kkPf := (C_1_5.out.heap HPf.out (by simp))
    obtain ⟨kPf_0, kPf_1, kPf_2⟩ := cellsn3 kkPf
    have qPf := heap_lt kkPf
    have kkBYr0 := (C_4_5.out.heap HBYr0.out (by simp))
    obtain ⟨kBYr0_0, kBYr0_1, kBYr0_2, kBYr0_3, kBYr0_4⟩ := cellsn5 kkBYr0
    have qBYr0 := heap_lt kkBYr0
    have kkXf := HXf.out
    obtain ⟨kXf_0, kXf_1, kXf_2⟩ := cellsn3 kkXf
    have qXf := heap_lt kkXf
    go_wp2_with fail
    refine (eqnb_same AGr0 BGr0 AYr0 BYr0 cGr0 dGr0 cYr0 dYr0 l_r0 m_r0 r00 r01 r02 hll_r0 hmm_r0 _ (OwnI.ints ((Gr0.out.same (fun k hk => (Wrote.of_below [] (below_new w5 (.cells #[.slice AGr0 l_r0.length cGr0, .slice BGr0 m_r0.length dGr0, .int .i64 r00, .bool r01, .bool r02] 38))).block k (Gr0.out.fp k hk).2 (by simp)))).1 (by omega)) (OwnI.ints ((Gr0.out.same (fun k hk => (Wrote.of_below [] (below_new w5 (.cells #[.slice AGr0 l_r0.length cGr0, .slice BGr0 m_r0.length dGr0, .int .i64 r00, .bool r01, .bool r02] 38))).block k (Gr0.out.fp k hk).2 (by simp)))).2.1 (by omega)) (OwnI.ints ((Yr0.out.same (fun k hk => (C_3_5.out.trans (Wrote.of_below _ (below_new w5 (.cells #[.slice AGr0 l_r0.length cGr0, .slice BGr0 m_r0.length dGr0, .int .i64 r00, .bool r01, .bool r02] 38)))).block k (Yr0.out.fp k hk).2 (by simp)))).1 (by omega)) (OwnI.ints ((Yr0.out.same (fun k hk => (C_3_5.out.trans (Wrote.of_below _ (below_new w5 (.cells #[.slice AGr0 l_r0.length cGr0, .slice BGr0 m_r0.length dGr0, .int .i64 r00, .bool r01, .bool r02] 38)))).block k (Yr0.out.fp k hk).2 (by simp)))).2.1 (by omega))).mono ?_
    rintro e w6 ⟨rfl, hb⟩
    have hbc := below_up (below_new w5 (.cells #[.slice AGr0 l_r0.length cGr0, .slice BGr0 m_r0.length dGr0, .int .i64 r00, .bool r01, .bool r02] 38)) hb ((below_new w5 (.cells #[.slice AGr0 l_r0.length cGr0, .slice BGr0 m_r0.length dGr0, .int .i64 r00, .bool r01, .bool r02] 38))).size
    have C_0_6 := Lib.hid (C_0_5.out.trans (Wrote.of_below _ hbc))
    have C_1_6 := Lib.hid (C_1_5.out.trans (Wrote.of_below _ hbc))
    have C_3_6 := Lib.hid (C_3_5.out.trans (Wrote.of_below _ hbc))
    have C_4_6 := Lib.hid (C_4_5.out.trans (Wrote.of_below _ hbc))
    have C_5_6 : Hid (Wrote w5 w6 []) := Lib.hid (Wrote.of_below [] hbc)
    have HBGr0 := Lib.hid (cell_kept (heap_alloc_new w5 (.cells #[.slice AGr0 l_r0.length cGr0, .slice BGr0 m_r0.length dGr0, .int .i64 r00, .bool r01, .bool r02] 38)) hb)
    have Z_6 : Hid (w5.heap.size + 1 ≤ w6.heap.size) := Lib.hid (by have := hb.size; simp only [World.size_alloc] at this; exact this)
    clear kPf_0 kPf_1 kPf_2 kkPf qPf kBYr0_0 kBYr0_1 kBYr0_2 kBYr0_3 kBYr0_4 kkBYr0 qBYr0 kXf_0 kXf_1 kXf_2 kkXf qXf C_0_5 C_1_5 C_3_5 C_4_5 hbc hb
    have kkPf := (C_1_6.out.heap HPf.out (by simp))
    obtain ⟨kPf_0, kPf_1, kPf_2⟩ := cellsn3 kkPf
    have kkBYr0 := (C_4_6.out.heap HBYr0.out (by simp))
    obtain ⟨kBYr0_0, kBYr0_1, kBYr0_2, kBYr0_3, kBYr0_4⟩ := cellsn5 kkBYr0
    have kkXf := (C_5_6.out.heap HXf.out (by simp))
    obtain ⟨kXf_0, kXf_1, kXf_2⟩ := cellsn3 kkXf
    have kkBGr0 := HBGr0.out
    obtain ⟨kBGr0_0, kBGr0_1, kBGr0_2, kBGr0_3, kBGr0_4⟩ := cellsn5 kkBGr0
    have hS : w6.cell? ⟨w.heap.size, 0, none⟩ = some (.int .i64 f0) ∧ w6.cell? ⟨w.heap.size, 1, none⟩ = some (.int .i64 f1) ∧ w6.cell? ⟨w.heap.size, 2, none⟩ = some (.slice a_f l_f.length cap_f) ∧ w6.cell? ⟨w4.heap.size, 0, none⟩ = some (.int .i64 f0) ∧ w6.cell? ⟨w4.heap.size, 1, none⟩ = some (.int .i64 f1) ∧ w6.cell? ⟨w4.heap.size, 2, none⟩ = some (.slice Af l_f.length cf) ∧ Below w6.heap.size w6 w6 ∧ w6.heap.size ≤ w6.heap.size := ⟨kPf_0, kPf_1, kPf_2, kXf_0, kXf_1, kXf_2, Below.refl _ _, Nat.le_refl _⟩
    have OX := Lib.hid (Xf.out.same (fun k hk => C_4_6.out.block k (Xf.out.fp k hk).2 (by simp)))
    have RV0 := Lib.hid ((R_f.out.kept (fun k hk => C_0_6.out.block k hk (by simp))).mono C_0_6.out.size)
    have TOS := Lib.hid fun wr (h : Below w6.heap.size w6 wr) => toframe_any a_f cap_f l_f f0 f1 hll_f wr ((RV0.out.below h (Nat.le_refl _)).mono h.size)
    have EQS := Lib.hid fun (Aft : Option Addr) (cft : Nat) (b : Nat) wr (h : Below w6.heap.size w6 wr) (ho : OwnI wr (b) Aft cft l_f) => eqframe_same Af Aft cf cft l_f f0 f1 wr (OwnI.ints (OX.out.same (fun k hk => h.block k (OX.out.fp k hk).2)) (by omega)) (OwnI.ints ho (by omega))
    clear kPf_0 kPf_1 kPf_2 kkPf kBYr0_0 kBYr0_1 kBYr0_2 kBYr0_3 kBYr0_4 kkBYr0 kXf_0 kXf_1 kXf_2 kkXf kBGr0_0 kBGr0_1 kBGr0_2 kBGr0_3 kBGr0_4 kkBGr0
    go_wp2_with fail
    go_region_held3 (fun w' => w'.cell? ⟨w.heap.size, 0, none⟩ = some (.int .i64 f0) ∧ w'.cell? ⟨w.heap.size, 1, none⟩ = some (.int .i64 f1) ∧ w'.cell? ⟨w.heap.size, 2, none⟩ = some (.slice a_f l_f.length cap_f) ∧ w'.cell? ⟨w4.heap.size, 0, none⟩ = some (.int .i64 f0) ∧ w'.cell? ⟨w4.heap.size, 1, none⟩ = some (.int .i64 f1) ∧ w'.cell? ⟨w4.heap.size, 2, none⟩ = some (.slice Af l_f.length cf) ∧ Below w6.heap.size w6 w' ∧ w6.heap.size ≤ w'.heap.size)
      (first | with_reducible assumption | (with_reducible refine heldx6_drew ?_; with_reducible assumption) | (with_reducible refine heldx6 ?_ (by with_reducible assumption); with_reducible assumption))
      (first
        | (go_at_call 31; (with_reducible refine (TOS.out _ (heldx6_below (by with_reducible assumption))).mono ?_); rintro e wt ⟨Aft, cft, rfl, ho', hb'⟩)
        | (go_at_call 32; (with_reducible refine (EQS.out _ _ _ _ (heldx6_below (by with_reducible assumption)) (by first | with_reducible assumption | (with_reducible refine World.ownsRow.drew ?_; with_reducible assumption))).mono ?_); rintro e w7 ⟨rfl, hbt⟩))
    all_goals
      have hb : Below w6.heap.size w6 w7 := heldx6_below (by with_reducible assumption)
      have hbc := hb
      have C_0_7 := Lib.hid (C_0_6.out.trans (Wrote.of_below _ hbc))
      have C_1_7 := Lib.hid (C_1_6.out.trans (Wrote.of_below _ hbc))
      have C_3_7 := Lib.hid (C_3_6.out.trans (Wrote.of_below _ hbc))
      have C_4_7 := Lib.hid (C_4_6.out.trans (Wrote.of_below _ hbc))
      have C_5_7 := Lib.hid (C_5_6.out.trans (Wrote.of_below _ hbc))
      have C_6_7 : Hid (Wrote w6 w7 []) := Lib.hid (Wrote.of_below [] hbc)
      have Z_7 : Hid (w6.heap.size ≤ w7.heap.size) := Lib.hid hb.size
      clear C_0_6 C_1_6 C_3_6 C_4_6 C_5_6 hb
      clear TOS EQS OX RV0
      have MKX := Lib.hid (markframe_at _ Af cf l_f f0 f1 (1) (by omega) (by omega) _ (Xf.out.same (fun k hk => C_4_7.out.block k (Xf.out.fp k hk).2 (by simp))))
      rw [show ((1 : Nat) : Int) = 1 from rfl] at MKX
      obtain ⟨K1, hK1⟩ : ∃ K : Nat, K = 1 + l_f.length := ⟨_, rfl⟩
      rw [← hK1] at MKX
      have hbK1 : K1 ≤ 4194304 := by omega
      have HHK1 := Lib.hid hK1; clear hK1
      have kkPf := (C_1_7.out.heap HPf.out (by simp))
      obtain ⟨kPf_0, kPf_1, kPf_2⟩ := cellsn3 kkPf
      have kkBYr0 := (C_4_7.out.heap HBYr0.out (by simp))
      obtain ⟨kBYr0_0, kBYr0_1, kBYr0_2, kBYr0_3, kBYr0_4⟩ := cellsn5 kkBYr0
      have kkXf := (C_5_7.out.heap HXf.out (by simp))
      obtain ⟨kXf_0, kXf_1, kXf_2⟩ := cellsn3 kkXf
      have kkBGr0 := (C_6_7.out.heap HBGr0.out (by simp))
      obtain ⟨kBGr0_0, kBGr0_1, kBGr0_2, kBGr0_3, kBGr0_4⟩ := cellsn5 kkBGr0
      go_wp2_with fail
      refine (MKX.out).mono ?_
      rintro e w8 ⟨rfl, ho, hg⟩
      have hwc := hg
      have C_0_8 := Lib.hid ((C_0_7.out.mono (fun _ h => List.mem_append_left (obk Af) h)).trans (hwc.mono (fun _ h => List.mem_append_right _ h)))
      have C_1_8 := Lib.hid ((C_1_7.out.mono (fun _ h => List.mem_append_left (obk Af) h)).trans (hwc.mono (fun _ h => List.mem_append_right _ h)))
      have C_3_8 := Lib.hid ((C_3_7.out.mono (fun _ h => List.mem_append_left (obk Af) h)).trans (hwc.mono (fun _ h => List.mem_append_right _ h)))
      have C_4_8 := Lib.hid ((C_4_7.out.mono (fun _ h => List.mem_append_left (obk Af) h)).trans (hwc.mono (fun _ h => List.mem_append_right _ h)))
      have C_5_8 := Lib.hid ((C_5_7.out.mono (fun _ h => List.mem_append_left (obk Af) h)).trans (hwc.mono (fun _ h => List.mem_append_right _ h)))
      have C_6_8 := Lib.hid ((C_6_7.out.mono (fun _ h => List.mem_append_left (obk Af) h)).trans (hwc.mono (fun _ h => List.mem_append_right _ h)))
      have Z_8 : Hid (w7.heap.size ≤ w8.heap.size) := Lib.hid hg.size
      clear kPf_0 kPf_1 kPf_2 kkPf kBYr0_0 kBYr0_1 kBYr0_2 kBYr0_3 kBYr0_4 kkBYr0 kXf_0 kXf_1 kXf_2 kkXf kBGr0_0 kBGr0_1 kBGr0_2 kBGr0_3 kBGr0_4 kkBGr0 C_0_7 C_1_7 C_3_7 C_4_7 C_5_7 C_6_7 hg
      clear MKX Xf
      clear ho
      have hmk : decide ((K1 : Int) < 0) = false := by simp
      have kkPf := (C_1_8.out.heap HPf.out (by intro hm; have z0 := Z_1.out; have z1 := Z_2.out; have z2 := Z_3.out; have z3 := Z_4.out; have z4 := Z_5.out; have z5 := Z_6.out; have z6 := Z_7.out; have z7 := Z_8.out; skip; simp only [List.nil_append] at hm; have u := BKXf.out _ hm; omega))
      obtain ⟨kPf_0, kPf_1, kPf_2⟩ := cellsn3 kkPf
      have kkBYr0 := (C_4_8.out.heap HBYr0.out (by intro hm; have z0 := Z_1.out; have z1 := Z_2.out; have z2 := Z_3.out; have z3 := Z_4.out; have z4 := Z_5.out; have z5 := Z_6.out; have z6 := Z_7.out; have z7 := Z_8.out; skip; simp only [List.nil_append] at hm; have u := BKXf.out _ hm; omega))
      obtain ⟨kBYr0_0, kBYr0_1, kBYr0_2, kBYr0_3, kBYr0_4⟩ := cellsn5 kkBYr0
      have kkXf := (C_5_8.out.heap HXf.out (by intro hm; have z0 := Z_1.out; have z1 := Z_2.out; have z2 := Z_3.out; have z3 := Z_4.out; have z4 := Z_5.out; have z5 := Z_6.out; have z6 := Z_7.out; have z7 := Z_8.out; skip; simp only [List.nil_append] at hm; have u := BKXf.out _ hm; omega))
      obtain ⟨kXf_0, kXf_1, kXf_2⟩ := cellsn3 kkXf
      have kkBGr0 := (C_6_8.out.heap HBGr0.out (by intro hm; have z0 := Z_1.out; have z1 := Z_2.out; have z2 := Z_3.out; have z3 := Z_4.out; have z4 := Z_5.out; have z5 := Z_6.out; have z6 := Z_7.out; have z7 := Z_8.out; skip; simp only [List.nil_append] at hm; have u := BKXf.out _ hm; omega))
      obtain ⟨kBGr0_0, kBGr0_1, kBGr0_2, kBGr0_3, kBGr0_4⟩ := cellsn5 kkBGr0
      go_wp2_with fail
      refine (eqnb_same AGr0 BGr0 AYr0 BYr0 cGr0 dGr0 cYr0 dYr0 l_r0 m_r0 r00 r01 r02 hll_r0 hmm_r0 _ (OwnI.ints ((Gr0.out.same (fun k hk => C_5_8.out.block k (Gr0.out.fp k hk).2 (by intro hm; have z0 := Z_1.out; have z1 := Z_2.out; have z2 := Z_3.out; have z3 := Z_4.out; have z4 := Z_5.out; have z5 := Z_6.out; have z6 := Z_7.out; have z7 := Z_8.out; have d := Gr0.out.fp k hk; simp only [List.nil_append] at hm; have u := BKXf.out _ hm; omega)))).1 (by omega)) (OwnI.ints ((Gr0.out.same (fun k hk => C_5_8.out.block k (Gr0.out.fp k hk).2 (by intro hm; have z0 := Z_1.out; have z1 := Z_2.out; have z2 := Z_3.out; have z3 := Z_4.out; have z4 := Z_5.out; have z5 := Z_6.out; have z6 := Z_7.out; have z7 := Z_8.out; have d := Gr0.out.fp k hk; simp only [List.nil_append] at hm; have u := BKXf.out _ hm; omega)))).2.1 (by omega)) (OwnI.ints ((Yr0.out.same (fun k hk => C_3_8.out.block k (Yr0.out.fp k hk).2 (by intro hm; have z0 := Z_1.out; have z1 := Z_2.out; have z2 := Z_3.out; have z3 := Z_4.out; have z4 := Z_5.out; have z5 := Z_6.out; have z6 := Z_7.out; have z7 := Z_8.out; have d := Yr0.out.fp k hk; simp only [List.nil_append] at hm; have u := BKXf.out _ hm; omega)))).1 (by omega)) (OwnI.ints ((Yr0.out.same (fun k hk => C_3_8.out.block k (Yr0.out.fp k hk).2 (by intro hm; have z0 := Z_1.out; have z1 := Z_2.out; have z2 := Z_3.out; have z3 := Z_4.out; have z4 := Z_5.out; have z5 := Z_6.out; have z6 := Z_7.out; have z7 := Z_8.out; have d := Yr0.out.fp k hk; simp only [List.nil_append] at hm; have u := BKXf.out _ hm; omega)))).2.1 (by omega))).mono ?_
      rintro e w9 ⟨rfl, hb⟩
      have hbc := hb
      have C_0_9 := Lib.hid (C_0_8.out.trans (Wrote.of_below _ hbc))
      have C_1_9 := Lib.hid (C_1_8.out.trans (Wrote.of_below _ hbc))
      have C_3_9 := Lib.hid (C_3_8.out.trans (Wrote.of_below _ hbc))
      have C_4_9 := Lib.hid (C_4_8.out.trans (Wrote.of_below _ hbc))
      have C_5_9 := Lib.hid (C_5_8.out.trans (Wrote.of_below _ hbc))
      have C_6_9 := Lib.hid (C_6_8.out.trans (Wrote.of_below _ hbc))
      have Z_9 : Hid (w8.heap.size ≤ w9.heap.size) := Lib.hid hb.size
      clear kPf_0 kPf_1 kPf_2 kkPf kBYr0_0 kBYr0_1 kBYr0_2 kBYr0_3 kBYr0_4 kkBYr0 kXf_0 kXf_1 kXf_2 kkXf kBGr0_0 kBGr0_1 kBGr0_2 kBGr0_3 kBGr0_4 kkBGr0 C_0_8 C_1_8 C_3_8 C_4_8 C_5_8 C_6_8 hb
      have MKX := Lib.hid (marknb_at _ AGr0 cGr0 BGr0 dGr0 l_r0 m_r0 r00 r01 r02 (1) (by omega) (by omega) _ (Gr0.out.same (fun k hk => C_5_9.out.block k (Gr0.out.fp k hk).2 (by intro hm; have z0 := Z_1.out; have z1 := Z_2.out; have z2 := Z_3.out; have z3 := Z_4.out; have z4 := Z_5.out; have z5 := Z_6.out; have z6 := Z_7.out; have z7 := Z_8.out; have z8 := Z_9.out; have d := Gr0.out.fp k hk; simp only [List.nil_append] at hm; have u := BKXf.out _ hm; omega))))
      rw [show ((1 : Nat) : Int) = 1 from rfl] at MKX
      obtain ⟨K2, hK2⟩ : ∃ K : Nat, K = 1 + l_r0.length + m_r0.length := ⟨_, rfl⟩
      rw [← hK2] at MKX
      have hbK2 : K2 ≤ 6291456 := by omega
      have HHK2 := Lib.hid hK2; clear hK2
      have kkPf := (C_1_9.out.heap HPf.out (by intro hm; have z0 := Z_1.out; have z1 := Z_2.out; have z2 := Z_3.out; have z3 := Z_4.out; have z4 := Z_5.out; have z5 := Z_6.out; have z6 := Z_7.out; have z7 := Z_8.out; have z8 := Z_9.out; skip; simp only [List.nil_append] at hm; have u := BKXf.out _ hm; omega))
      obtain ⟨kPf_0, kPf_1, kPf_2⟩ := cellsn3 kkPf
      have kkBYr0 := (C_4_9.out.heap HBYr0.out (by intro hm; have z0 := Z_1.out; have z1 := Z_2.out; have z2 := Z_3.out; have z3 := Z_4.out; have z4 := Z_5.out; have z5 := Z_6.out; have z6 := Z_7.out; have z7 := Z_8.out; have z8 := Z_9.out; skip; simp only [List.nil_append] at hm; have u := BKXf.out _ hm; omega))
      obtain ⟨kBYr0_0, kBYr0_1, kBYr0_2, kBYr0_3, kBYr0_4⟩ := cellsn5 kkBYr0
      have kkXf := (C_5_9.out.heap HXf.out (by intro hm; have z0 := Z_1.out; have z1 := Z_2.out; have z2 := Z_3.out; have z3 := Z_4.out; have z4 := Z_5.out; have z5 := Z_6.out; have z6 := Z_7.out; have z7 := Z_8.out; have z8 := Z_9.out; skip; simp only [List.nil_append] at hm; have u := BKXf.out _ hm; omega))
      obtain ⟨kXf_0, kXf_1, kXf_2⟩ := cellsn3 kkXf
      have kkBGr0 := (C_6_9.out.heap HBGr0.out (by intro hm; have z0 := Z_1.out; have z1 := Z_2.out; have z2 := Z_3.out; have z3 := Z_4.out; have z4 := Z_5.out; have z5 := Z_6.out; have z6 := Z_7.out; have z7 := Z_8.out; have z8 := Z_9.out; skip; simp only [List.nil_append] at hm; have u := BKXf.out _ hm; omega))
      obtain ⟨kBGr0_0, kBGr0_1, kBGr0_2, kBGr0_3, kBGr0_4⟩ := cellsn5 kkBGr0
      go_wp2_with fail
      refine (MKX.out).mono ?_
      rintro e w10 ⟨rfl, ho, hg⟩
      have hwc := hg
      have C_0_10 := Lib.hid ((C_0_9.out.mono (fun _ h => List.mem_append_left (fpNb AGr0 BGr0) h)).trans (hwc.mono (fun _ h => List.mem_append_right _ h)))
      have C_1_10 := Lib.hid ((C_1_9.out.mono (fun _ h => List.mem_append_left (fpNb AGr0 BGr0) h)).trans (hwc.mono (fun _ h => List.mem_append_right _ h)))
      have C_3_10 := Lib.hid ((C_3_9.out.mono (fun _ h => List.mem_append_left (fpNb AGr0 BGr0) h)).trans (hwc.mono (fun _ h => List.mem_append_right _ h)))
      have C_4_10 := Lib.hid ((C_4_9.out.mono (fun _ h => List.mem_append_left (fpNb AGr0 BGr0) h)).trans (hwc.mono (fun _ h => List.mem_append_right _ h)))
      have C_5_10 := Lib.hid ((C_5_9.out.mono (fun _ h => List.mem_append_left (fpNb AGr0 BGr0) h)).trans (hwc.mono (fun _ h => List.mem_append_right _ h)))
      have C_6_10 := Lib.hid ((C_6_9.out.mono (fun _ h => List.mem_append_left (fpNb AGr0 BGr0) h)).trans (hwc.mono (fun _ h => List.mem_append_right _ h)))
      have Z_10 : Hid (w9.heap.size ≤ w10.heap.size) := Lib.hid hg.size
      clear kPf_0 kPf_1 kPf_2 kkPf kBYr0_0 kBYr0_1 kBYr0_2 kBYr0_3 kBYr0_4 kkBYr0 kXf_0 kXf_1 kXf_2 kkXf kBGr0_0 kBGr0_1 kBGr0_2 kBGr0_3 kBGr0_4 kkBGr0 C_0_9 C_1_9 C_3_9 C_4_9 C_5_9 C_6_9 hg
      clear MKX Gr0
      have GMr0 := Lib.hid ho; clear ho
      have hqmK2 : decide ((K2 : Int) < 0) = false := by simp
      have hqq : ((K2 : Int) != (K2 : Int)) = false := by simp
      have HDX := Lib.hid (heldnb_at AGr0 cGr0 l_r0.length BGr0 dGr0 m_r0.length r00 r01 r02 (1) (by omega) (by omega) _ (OwnI.ints (GMr0.out).1 (by rw [markL_len]; omega)) (OwnI.ints (GMr0.out).2.1 (by rw [markL_len]; omega)))
      rw [show ((1 : Nat) : Int) = 1 from rfl] at HDX
      rw [← HHK2.out] at HDX
      have kkPf := (C_1_10.out.heap HPf.out (by intro hm; have z0 := Z_1.out; have z1 := Z_2.out; have z2 := Z_3.out; have z3 := Z_4.out; have z4 := Z_5.out; have z5 := Z_6.out; have z6 := Z_7.out; have z7 := Z_8.out; have z8 := Z_9.out; have z9 := Z_10.out; skip; simp only [List.nil_append, List.mem_append] at hm; rcases hm with (hm) | hm <;> first | (have u := BKXf.out _ hm; omega) | (have u := BKGr0.out _ hm; omega)))
      obtain ⟨kPf_0, kPf_1, kPf_2⟩ := cellsn3 kkPf
      have kkBYr0 := (C_4_10.out.heap HBYr0.out (by intro hm; have z0 := Z_1.out; have z1 := Z_2.out; have z2 := Z_3.out; have z3 := Z_4.out; have z4 := Z_5.out; have z5 := Z_6.out; have z6 := Z_7.out; have z7 := Z_8.out; have z8 := Z_9.out; have z9 := Z_10.out; skip; simp only [List.nil_append, List.mem_append] at hm; rcases hm with (hm) | hm <;> first | (have u := BKXf.out _ hm; omega) | (have u := BKGr0.out _ hm; omega)))
      obtain ⟨kBYr0_0, kBYr0_1, kBYr0_2, kBYr0_3, kBYr0_4⟩ := cellsn5 kkBYr0
      have kkXf := (C_5_10.out.heap HXf.out (by intro hm; have z0 := Z_1.out; have z1 := Z_2.out; have z2 := Z_3.out; have z3 := Z_4.out; have z4 := Z_5.out; have z5 := Z_6.out; have z6 := Z_7.out; have z7 := Z_8.out; have z8 := Z_9.out; have z9 := Z_10.out; skip; simp only [List.nil_append, List.mem_append] at hm; rcases hm with (hm) | hm <;> first | (have u := BKXf.out _ hm; omega) | (have u := BKGr0.out _ hm; omega)))
      obtain ⟨kXf_0, kXf_1, kXf_2⟩ := cellsn3 kkXf
      have kkBGr0 := (C_6_10.out.heap HBGr0.out (by intro hm; have z0 := Z_1.out; have z1 := Z_2.out; have z2 := Z_3.out; have z3 := Z_4.out; have z4 := Z_5.out; have z5 := Z_6.out; have z6 := Z_7.out; have z7 := Z_8.out; have z8 := Z_9.out; have z9 := Z_10.out; skip; simp only [List.nil_append, List.mem_append] at hm; rcases hm with (hm) | hm <;> first | (have u := BKXf.out _ hm; omega) | (have u := BKGr0.out _ hm; omega)))
      obtain ⟨kBGr0_0, kBGr0_1, kBGr0_2, kBGr0_3, kBGr0_4⟩ := cellsn5 kkBGr0
      go_wp2_with fail
      refine (HDX.out).mono ?_
      rintro e w11 ⟨rfl, hb⟩
      have hbc := hb
      have C_0_11 := Lib.hid (C_0_10.out.trans (Wrote.of_below _ hbc))
      have C_1_11 := Lib.hid (C_1_10.out.trans (Wrote.of_below _ hbc))
      have C_3_11 := Lib.hid (C_3_10.out.trans (Wrote.of_below _ hbc))
      have C_4_11 := Lib.hid (C_4_10.out.trans (Wrote.of_below _ hbc))
      have C_5_11 := Lib.hid (C_5_10.out.trans (Wrote.of_below _ hbc))
      have C_6_11 := Lib.hid (C_6_10.out.trans (Wrote.of_below _ hbc))
      have C_10_11 : Hid (Wrote w10 w11 []) := Lib.hid (Wrote.of_below [] hbc)
      have Z_11 : Hid (w10.heap.size ≤ w11.heap.size) := Lib.hid hb.size
      clear kPf_0 kPf_1 kPf_2 kkPf kBYr0_0 kBYr0_1 kBYr0_2 kBYr0_3 kBYr0_4 kkBYr0 kXf_0 kXf_1 kXf_2 kkXf kBGr0_0 kBGr0_1 kBGr0_2 kBGr0_3 kBGr0_4 kkBGr0 C_0_10 C_1_10 C_3_10 C_4_10 C_5_10 C_6_10 hb
      clear HDX
      have kkPf := (C_1_11.out.heap HPf.out (by intro hm; have z0 := Z_1.out; have z1 := Z_2.out; have z2 := Z_3.out; have z3 := Z_4.out; have z4 := Z_5.out; have z5 := Z_6.out; have z6 := Z_7.out; have z7 := Z_8.out; have z8 := Z_9.out; have z9 := Z_10.out; have z10 := Z_11.out; skip; simp only [List.nil_append, List.mem_append] at hm; rcases hm with (hm) | hm <;> first | (have u := BKXf.out _ hm; omega) | (have u := BKGr0.out _ hm; omega)))
      obtain ⟨kPf_0, kPf_1, kPf_2⟩ := cellsn3 kkPf
      have kkBYr0 := (C_4_11.out.heap HBYr0.out (by intro hm; have z0 := Z_1.out; have z1 := Z_2.out; have z2 := Z_3.out; have z3 := Z_4.out; have z4 := Z_5.out; have z5 := Z_6.out; have z6 := Z_7.out; have z7 := Z_8.out; have z8 := Z_9.out; have z9 := Z_10.out; have z10 := Z_11.out; skip; simp only [List.nil_append, List.mem_append] at hm; rcases hm with (hm) | hm <;> first | (have u := BKXf.out _ hm; omega) | (have u := BKGr0.out _ hm; omega)))
      obtain ⟨kBYr0_0, kBYr0_1, kBYr0_2, kBYr0_3, kBYr0_4⟩ := cellsn5 kkBYr0
      have kkXf := (C_5_11.out.heap HXf.out (by intro hm; have z0 := Z_1.out; have z1 := Z_2.out; have z2 := Z_3.out; have z3 := Z_4.out; have z4 := Z_5.out; have z5 := Z_6.out; have z6 := Z_7.out; have z7 := Z_8.out; have z8 := Z_9.out; have z9 := Z_10.out; have z10 := Z_11.out; skip; simp only [List.nil_append, List.mem_append] at hm; rcases hm with (hm) | hm <;> first | (have u := BKXf.out _ hm; omega) | (have u := BKGr0.out _ hm; omega)))
      obtain ⟨kXf_0, kXf_1, kXf_2⟩ := cellsn3 kkXf
      have kkBGr0 := (C_6_11.out.heap HBGr0.out (by intro hm; have z0 := Z_1.out; have z1 := Z_2.out; have z2 := Z_3.out; have z3 := Z_4.out; have z4 := Z_5.out; have z5 := Z_6.out; have z6 := Z_7.out; have z7 := Z_8.out; have z8 := Z_9.out; have z9 := Z_10.out; have z10 := Z_11.out; skip; simp only [List.nil_append, List.mem_append] at hm; rcases hm with (hm) | hm <;> first | (have u := BKXf.out _ hm; omega) | (have u := BKGr0.out _ hm; omega)))
      obtain ⟨kBGr0_0, kBGr0_1, kBGr0_2, kBGr0_3, kBGr0_4⟩ := cellsn5 kkBGr0
      go_wp2_with fail
      refine (toframe_any a_f cap_f l_f f0 f1 hll_f _ ((R_f.out.kept (fun k hk => C_0_11.out.block k hk (by intro hm; have z0 := Z_1.out; have z1 := Z_2.out; have z2 := Z_3.out; have z3 := Z_4.out; have z4 := Z_5.out; have z5 := Z_6.out; have z6 := Z_7.out; have z7 := Z_8.out; have z8 := Z_9.out; have z9 := Z_10.out; have z10 := Z_11.out; have d := hk; simp only [List.nil_append, List.mem_append] at hm; rcases hm with (hm) | hm <;> first | (have u := BKXf.out _ hm; omega) | (have u := BKGr0.out _ hm; omega)))).mono C_0_11.out.size)).mono ?_
      rintro e w12 ⟨Afh, cfh, rfl, hofh, hb⟩
      have hbc := hb
      have C_0_12 := Lib.hid (C_0_11.out.trans (Wrote.of_below _ hbc))
      have C_1_12 := Lib.hid (C_1_11.out.trans (Wrote.of_below _ hbc))
      have C_3_12 := Lib.hid (C_3_11.out.trans (Wrote.of_below _ hbc))
      have C_4_12 := Lib.hid (C_4_11.out.trans (Wrote.of_below _ hbc))
      have C_5_12 := Lib.hid (C_5_11.out.trans (Wrote.of_below _ hbc))
      have C_6_12 := Lib.hid (C_6_11.out.trans (Wrote.of_below _ hbc))
      have C_10_12 := Lib.hid (C_10_11.out.trans (Wrote.of_below _ hbc))
      have Z_12 : Hid (w11.heap.size ≤ w12.heap.size) := Lib.hid hb.size
      clear kPf_0 kPf_1 kPf_2 kkPf kBYr0_0 kBYr0_1 kBYr0_2 kBYr0_3 kBYr0_4 kkBYr0 kXf_0 kXf_1 kXf_2 kkXf kBGr0_0 kBGr0_1 kBGr0_2 kBGr0_3 kBGr0_4 kkBGr0 C_0_11 C_1_11 C_3_11 C_4_11 C_5_11 C_6_11 C_10_11 hb
      have Xfh := Lib.hid hofh; have BKXfh := Lib.hid (hofh.fp); clear hofh
      have kkPf := (C_1_12.out.heap HPf.out (by intro hm; have z0 := Z_1.out; have z1 := Z_2.out; have z2 := Z_3.out; have z3 := Z_4.out; have z4 := Z_5.out; have z5 := Z_6.out; have z6 := Z_7.out; have z7 := Z_8.out; have z8 := Z_9.out; have z9 := Z_10.out; have z10 := Z_11.out; have z11 := Z_12.out; skip; simp only [List.nil_append, List.mem_append] at hm; rcases hm with (hm) | hm <;> first | (have u := BKXf.out _ hm; omega) | (have u := BKGr0.out _ hm; omega)))
      obtain ⟨kPf_0, kPf_1, kPf_2⟩ := cellsn3 kkPf
      have kkBYr0 := (C_4_12.out.heap HBYr0.out (by intro hm; have z0 := Z_1.out; have z1 := Z_2.out; have z2 := Z_3.out; have z3 := Z_4.out; have z4 := Z_5.out; have z5 := Z_6.out; have z6 := Z_7.out; have z7 := Z_8.out; have z8 := Z_9.out; have z9 := Z_10.out; have z10 := Z_11.out; have z11 := Z_12.out; skip; simp only [List.nil_append, List.mem_append] at hm; rcases hm with (hm) | hm <;> first | (have u := BKXf.out _ hm; omega) | (have u := BKGr0.out _ hm; omega)))
      obtain ⟨kBYr0_0, kBYr0_1, kBYr0_2, kBYr0_3, kBYr0_4⟩ := cellsn5 kkBYr0
      have kkXf := (C_5_12.out.heap HXf.out (by intro hm; have z0 := Z_1.out; have z1 := Z_2.out; have z2 := Z_3.out; have z3 := Z_4.out; have z4 := Z_5.out; have z5 := Z_6.out; have z6 := Z_7.out; have z7 := Z_8.out; have z8 := Z_9.out; have z9 := Z_10.out; have z10 := Z_11.out; have z11 := Z_12.out; skip; simp only [List.nil_append, List.mem_append] at hm; rcases hm with (hm) | hm <;> first | (have u := BKXf.out _ hm; omega) | (have u := BKGr0.out _ hm; omega)))
      obtain ⟨kXf_0, kXf_1, kXf_2⟩ := cellsn3 kkXf
      have kkBGr0 := (C_6_12.out.heap HBGr0.out (by intro hm; have z0 := Z_1.out; have z1 := Z_2.out; have z2 := Z_3.out; have z3 := Z_4.out; have z4 := Z_5.out; have z5 := Z_6.out; have z6 := Z_7.out; have z7 := Z_8.out; have z8 := Z_9.out; have z9 := Z_10.out; have z10 := Z_11.out; have z11 := Z_12.out; skip; simp only [List.nil_append, List.mem_append] at hm; rcases hm with (hm) | hm <;> first | (have u := BKXf.out _ hm; omega) | (have u := BKGr0.out _ hm; omega)))
      obtain ⟨kBGr0_0, kBGr0_1, kBGr0_2, kBGr0_3, kBGr0_4⟩ := cellsn5 kkBGr0
      go_wp2_with fail
      refine (IM.out Afh cfh _ (OwnI.ints Xfh.out (by omega)) (OwnI.cap_le Xfh.out) (OwnI.placed Xfh.out)).mono ?_
      rintro e w13 ⟨AHr0, cHr0, BHr0, dHr0, rfl, hoHr0, hb⟩
      have hbc := hb
      have C_0_13 := Lib.hid (C_0_12.out.trans (Wrote.of_below _ hbc))
      have C_1_13 := Lib.hid (C_1_12.out.trans (Wrote.of_below _ hbc))
      have C_3_13 := Lib.hid (C_3_12.out.trans (Wrote.of_below _ hbc))
      have C_4_13 := Lib.hid (C_4_12.out.trans (Wrote.of_below _ hbc))
      have C_5_13 := Lib.hid (C_5_12.out.trans (Wrote.of_below _ hbc))
      have C_6_13 := Lib.hid (C_6_12.out.trans (Wrote.of_below _ hbc))
      have C_10_13 := Lib.hid (C_10_12.out.trans (Wrote.of_below _ hbc))
      have C_12_13 : Hid (Wrote w12 w13 []) := Lib.hid (Wrote.of_below [] hbc)
      have Z_13 : Hid (w12.heap.size ≤ w13.heap.size) := Lib.hid hb.size
      clear kPf_0 kPf_1 kPf_2 kkPf kBYr0_0 kBYr0_1 kBYr0_2 kBYr0_3 kBYr0_4 kkBYr0 kXf_0 kXf_1 kXf_2 kkXf kBGr0_0 kBGr0_1 kBGr0_2 kBGr0_3 kBGr0_4 kkBGr0 C_0_12 C_1_12 C_3_12 C_4_12 C_5_12 C_6_12 C_10_12 hb
      have Hr0 := Lib.hid hoHr0; have BKHr0 := Lib.hid (hoHr0.fp); clear hoHr0
      clear Xfh
      have kkPf := (C_1_13.out.heap HPf.out (by intro hm; have z0 := Z_1.out; have z1 := Z_2.out; have z2 := Z_3.out; have z3 := Z_4.out; have z4 := Z_5.out; have z5 := Z_6.out; have z6 := Z_7.out; have z7 := Z_8.out; have z8 := Z_9.out; have z9 := Z_10.out; have z10 := Z_11.out; have z11 := Z_12.out; have z12 := Z_13.out; skip; simp only [List.nil_append, List.mem_append] at hm; rcases hm with (hm) | hm <;> first | (have u := BKXf.out _ hm; omega) | (have u := BKGr0.out _ hm; omega)))
      obtain ⟨kPf_0, kPf_1, kPf_2⟩ := cellsn3 kkPf
      have qPf := heap_lt kkPf
      have kkBYr0 := (C_4_13.out.heap HBYr0.out (by intro hm; have z0 := Z_1.out; have z1 := Z_2.out; have z2 := Z_3.out; have z3 := Z_4.out; have z4 := Z_5.out; have z5 := Z_6.out; have z6 := Z_7.out; have z7 := Z_8.out; have z8 := Z_9.out; have z9 := Z_10.out; have z10 := Z_11.out; have z11 := Z_12.out; have z12 := Z_13.out; skip; simp only [List.nil_append, List.mem_append] at hm; rcases hm with (hm) | hm <;> first | (have u := BKXf.out _ hm; omega) | (have u := BKGr0.out _ hm; omega)))
      obtain ⟨kBYr0_0, kBYr0_1, kBYr0_2, kBYr0_3, kBYr0_4⟩ := cellsn5 kkBYr0
      have qBYr0 := heap_lt kkBYr0
      have kkXf := (C_5_13.out.heap HXf.out (by intro hm; have z0 := Z_1.out; have z1 := Z_2.out; have z2 := Z_3.out; have z3 := Z_4.out; have z4 := Z_5.out; have z5 := Z_6.out; have z6 := Z_7.out; have z7 := Z_8.out; have z8 := Z_9.out; have z9 := Z_10.out; have z10 := Z_11.out; have z11 := Z_12.out; have z12 := Z_13.out; skip; simp only [List.nil_append, List.mem_append] at hm; rcases hm with (hm) | hm <;> first | (have u := BKXf.out _ hm; omega) | (have u := BKGr0.out _ hm; omega)))
      obtain ⟨kXf_0, kXf_1, kXf_2⟩ := cellsn3 kkXf
      have qXf := heap_lt kkXf
      have kkBGr0 := (C_6_13.out.heap HBGr0.out (by intro hm; have z0 := Z_1.out; have z1 := Z_2.out; have z2 := Z_3.out; have z3 := Z_4.out; have z4 := Z_5.out; have z5 := Z_6.out; have z6 := Z_7.out; have z7 := Z_8.out; have z8 := Z_9.out; have z9 := Z_10.out; have z10 := Z_11.out; have z11 := Z_12.out; have z12 := Z_13.out; skip; simp only [List.nil_append, List.mem_append] at hm; rcases hm with (hm) | hm <;> first | (have u := BKXf.out _ hm; omega) | (have u := BKGr0.out _ hm; omega)))
      obtain ⟨kBGr0_0, kBGr0_1, kBGr0_2, kBGr0_3, kBGr0_4⟩ := cellsn5 kkBGr0
      have qBGr0 := heap_lt kkBGr0
      go_wp2_with fail
      refine (eqnb_same AHr0 BHr0 AYr0 BYr0 cHr0 dHr0 cYr0 dYr0 l_r0 m_r0 r00 r01 r02 hll_r0 hmm_r0 _ (OwnI.ints ((Hr0.out.same (fun k hk => (Wrote.of_below [] (below_new w13 (.cells #[.slice AHr0 l_r0.length cHr0, .slice BHr0 m_r0.length dHr0, .int .i64 r00, .bool r01, .bool r02] 38))).block k (Hr0.out.fp k hk).2 (by simp)))).1 (by omega)) (OwnI.ints ((Hr0.out.same (fun k hk => (Wrote.of_below [] (below_new w13 (.cells #[.slice AHr0 l_r0.length cHr0, .slice BHr0 m_r0.length dHr0, .int .i64 r00, .bool r01, .bool r02] 38))).block k (Hr0.out.fp k hk).2 (by simp)))).2.1 (by omega)) (OwnI.ints ((Yr0.out.same (fun k hk => (C_3_13.out.trans (Wrote.of_below _ (below_new w13 (.cells #[.slice AHr0 l_r0.length cHr0, .slice BHr0 m_r0.length dHr0, .int .i64 r00, .bool r01, .bool r02] 38)))).block k (Yr0.out.fp k hk).2 (by intro hm; have z0 := Z_1.out; have z1 := Z_2.out; have z2 := Z_3.out; have z3 := Z_4.out; have z4 := Z_5.out; have z5 := Z_6.out; have z6 := Z_7.out; have z7 := Z_8.out; have z8 := Z_9.out; have z9 := Z_10.out; have z10 := Z_11.out; have z11 := Z_12.out; have z12 := Z_13.out; have d := Yr0.out.fp k hk; simp only [List.nil_append, List.mem_append] at hm; rcases hm with (hm) | hm <;> first | (have u := BKXf.out _ hm; omega) | (have u := BKGr0.out _ hm; omega))))).1 (by omega)) (OwnI.ints ((Yr0.out.same (fun k hk => (C_3_13.out.trans (Wrote.of_below _ (below_new w13 (.cells #[.slice AHr0 l_r0.length cHr0, .slice BHr0 m_r0.length dHr0, .int .i64 r00, .bool r01, .bool r02] 38)))).block k (Yr0.out.fp k hk).2 (by intro hm; have z0 := Z_1.out; have z1 := Z_2.out; have z2 := Z_3.out; have z3 := Z_4.out; have z4 := Z_5.out; have z5 := Z_6.out; have z6 := Z_7.out; have z7 := Z_8.out; have z8 := Z_9.out; have z9 := Z_10.out; have z10 := Z_11.out; have z11 := Z_12.out; have z12 := Z_13.out; have d := Yr0.out.fp k hk; simp only [List.nil_append, List.mem_append] at hm; rcases hm with (hm) | hm <;> first | (have u := BKXf.out _ hm; omega) | (have u := BKGr0.out _ hm; omega))))).2.1 (by omega))).mono ?_
      rintro e w14 ⟨rfl, hb⟩
      have hbc := below_up (below_new w13 (.cells #[.slice AHr0 l_r0.length cHr0, .slice BHr0 m_r0.length dHr0, .int .i64 r00, .bool r01, .bool r02] 38)) hb ((below_new w13 (.cells #[.slice AHr0 l_r0.length cHr0, .slice BHr0 m_r0.length dHr0, .int .i64 r00, .bool r01, .bool r02] 38))).size
      have C_0_14 := Lib.hid (C_0_13.out.trans (Wrote.of_below _ hbc))
      have C_1_14 := Lib.hid (C_1_13.out.trans (Wrote.of_below _ hbc))
      have C_3_14 := Lib.hid (C_3_13.out.trans (Wrote.of_below _ hbc))
      have C_4_14 := Lib.hid (C_4_13.out.trans (Wrote.of_below _ hbc))
      have C_5_14 := Lib.hid (C_5_13.out.trans (Wrote.of_below _ hbc))
      have C_6_14 := Lib.hid (C_6_13.out.trans (Wrote.of_below _ hbc))
      have C_10_14 := Lib.hid (C_10_13.out.trans (Wrote.of_below _ hbc))
      have C_13_14 : Hid (Wrote w13 w14 []) := Lib.hid (Wrote.of_below [] hbc)
      have HBHr0 := Lib.hid (cell_kept (heap_alloc_new w13 (.cells #[.slice AHr0 l_r0.length cHr0, .slice BHr0 m_r0.length dHr0, .int .i64 r00, .bool r01, .bool r02] 38)) hb)
      have Z_14 : Hid (w13.heap.size + 1 ≤ w14.heap.size) := Lib.hid (by have := hb.size; simp only [World.size_alloc] at this; exact this)
      clear kPf_0 kPf_1 kPf_2 kkPf qPf kBYr0_0 kBYr0_1 kBYr0_2 kBYr0_3 kBYr0_4 kkBYr0 qBYr0 kXf_0 kXf_1 kXf_2 kkXf qXf kBGr0_0 kBGr0_1 kBGr0_2 kBGr0_3 kBGr0_4 kkBGr0 qBGr0 C_0_13 C_1_13 C_3_13 C_4_13 C_5_13 C_6_13 C_10_13 hbc hb
      have HDX := Lib.hid (heldnb_at AGr0 cGr0 l_r0.length BGr0 dGr0 m_r0.length r00 r01 r02 (1) (by omega) (by omega) _ (OwnI.ints ((GMr0.out.same (fun k hk => C_10_14.out.block k (GMr0.out.fp k hk).2 (by simp)))).1 (by rw [markL_len]; omega)) (OwnI.ints ((GMr0.out.same (fun k hk => C_10_14.out.block k (GMr0.out.fp k hk).2 (by simp)))).2.1 (by rw [markL_len]; omega)))
      rw [show ((1 : Nat) : Int) = 1 from rfl] at HDX
      rw [← HHK2.out] at HDX
      have kkPf := (C_1_14.out.heap HPf.out (by intro hm; have z0 := Z_1.out; have z1 := Z_2.out; have z2 := Z_3.out; have z3 := Z_4.out; have z4 := Z_5.out; have z5 := Z_6.out; have z6 := Z_7.out; have z7 := Z_8.out; have z8 := Z_9.out; have z9 := Z_10.out; have z10 := Z_11.out; have z11 := Z_12.out; have z12 := Z_13.out; have z13 := Z_14.out; skip; simp only [List.nil_append, List.mem_append] at hm; rcases hm with (hm) | hm <;> first | (have u := BKXf.out _ hm; omega) | (have u := BKGr0.out _ hm; omega)))
      obtain ⟨kPf_0, kPf_1, kPf_2⟩ := cellsn3 kkPf
      have kkBYr0 := (C_4_14.out.heap HBYr0.out (by intro hm; have z0 := Z_1.out; have z1 := Z_2.out; have z2 := Z_3.out; have z3 := Z_4.out; have z4 := Z_5.out; have z5 := Z_6.out; have z6 := Z_7.out; have z7 := Z_8.out; have z8 := Z_9.out; have z9 := Z_10.out; have z10 := Z_11.out; have z11 := Z_12.out; have z12 := Z_13.out; have z13 := Z_14.out; skip; simp only [List.nil_append, List.mem_append] at hm; rcases hm with (hm) | hm <;> first | (have u := BKXf.out _ hm; omega) | (have u := BKGr0.out _ hm; omega)))
      obtain ⟨kBYr0_0, kBYr0_1, kBYr0_2, kBYr0_3, kBYr0_4⟩ := cellsn5 kkBYr0
      have kkXf := (C_5_14.out.heap HXf.out (by intro hm; have z0 := Z_1.out; have z1 := Z_2.out; have z2 := Z_3.out; have z3 := Z_4.out; have z4 := Z_5.out; have z5 := Z_6.out; have z6 := Z_7.out; have z7 := Z_8.out; have z8 := Z_9.out; have z9 := Z_10.out; have z10 := Z_11.out; have z11 := Z_12.out; have z12 := Z_13.out; have z13 := Z_14.out; skip; simp only [List.nil_append, List.mem_append] at hm; rcases hm with (hm) | hm <;> first | (have u := BKXf.out _ hm; omega) | (have u := BKGr0.out _ hm; omega)))
      obtain ⟨kXf_0, kXf_1, kXf_2⟩ := cellsn3 kkXf
      have kkBGr0 := (C_6_14.out.heap HBGr0.out (by intro hm; have z0 := Z_1.out; have z1 := Z_2.out; have z2 := Z_3.out; have z3 := Z_4.out; have z4 := Z_5.out; have z5 := Z_6.out; have z6 := Z_7.out; have z7 := Z_8.out; have z8 := Z_9.out; have z9 := Z_10.out; have z10 := Z_11.out; have z11 := Z_12.out; have z12 := Z_13.out; have z13 := Z_14.out; skip; simp only [List.nil_append, List.mem_append] at hm; rcases hm with (hm) | hm <;> first | (have u := BKXf.out _ hm; omega) | (have u := BKGr0.out _ hm; omega)))
      obtain ⟨kBGr0_0, kBGr0_1, kBGr0_2, kBGr0_3, kBGr0_4⟩ := cellsn5 kkBGr0
      have kkBHr0 := HBHr0.out
      obtain ⟨kBHr0_0, kBHr0_1, kBHr0_2, kBHr0_3, kBHr0_4⟩ := cellsn5 kkBHr0
      go_wp2_with fail
      refine (HDX.out).mono ?_
      rintro e w15 ⟨rfl, hb⟩
      have hbc := hb
      have C_0_15 := Lib.hid (C_0_14.out.trans (Wrote.of_below _ hbc))
      have C_1_15 := Lib.hid (C_1_14.out.trans (Wrote.of_below _ hbc))
      have C_3_15 := Lib.hid (C_3_14.out.trans (Wrote.of_below _ hbc))
      have C_4_15 := Lib.hid (C_4_14.out.trans (Wrote.of_below _ hbc))
      have C_5_15 := Lib.hid (C_5_14.out.trans (Wrote.of_below _ hbc))
      have C_6_15 := Lib.hid (C_6_14.out.trans (Wrote.of_below _ hbc))
      have C_10_15 := Lib.hid (C_10_14.out.trans (Wrote.of_below _ hbc))
      have C_13_15 := Lib.hid (C_13_14.out.trans (Wrote.of_below _ hbc))
      have C_14_15 : Hid (Wrote w14 w15 []) := Lib.hid (Wrote.of_below [] hbc)
      have Z_15 : Hid (w14.heap.size ≤ w15.heap.size) := Lib.hid hb.size
      clear kPf_0 kPf_1 kPf_2 kkPf kBYr0_0 kBYr0_1 kBYr0_2 kBYr0_3 kBYr0_4 kkBYr0 kXf_0 kXf_1 kXf_2 kkXf kBGr0_0 kBGr0_1 kBGr0_2 kBGr0_3 kBGr0_4 kkBGr0 kBHr0_0 kBHr0_1 kBHr0_2 kBHr0_3 kBHr0_4 kkBHr0 C_0_14 C_1_14 C_3_14 C_4_14 C_5_14 C_6_14 C_10_14 C_13_14 hb
      clear HDX
      go_wp2
      go_ret
      exact ⟨rfl, C_0_15.out.os, C_0_15.out.tape, C_0_15.out.output, C_0_15.out.size, fun k hk => C_0_15.out.block k hk (by intro hm; have z0 := Z_1.out; have z1 := Z_2.out; have z2 := Z_3.out; have z3 := Z_4.out; have z4 := Z_5.out; have z5 := Z_6.out; have z6 := Z_7.out; have z7 := Z_8.out; have z8 := Z_9.out; have z9 := Z_10.out; have z10 := Z_11.out; have z11 := Z_12.out; have z12 := Z_13.out; have z13 := Z_14.out; have z14 := Z_15.out; have d := hk; simp only [List.nil_append, List.mem_append] at hm; rcases hm with (hm) | hm <;> first | (have u := BKXf.out _ hm; omega) | (have u := BKGr0.out _ hm; omega))⟩
end Go.Proofs.Ytemfiglflbfocaa
