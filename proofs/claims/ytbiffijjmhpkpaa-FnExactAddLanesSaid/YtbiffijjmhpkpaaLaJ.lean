/-
  Chapter 16: the contract of the program's ClipAdd4. Condition: a row is no longer than its slice holds.
-/
import Derived.Test.YtbiffijjmhpkpaaLaI
import Derived.Test.YtbiffijjmhpkpaaLaG
import Derived.Test.YtbiffijjmhpkpaaLaA
import Derived.Test.YtbiffijjmhpkpaaNbX
namespace Go.Proofs.Ytbiffijjmhpkpaa
open Go.RowKit
set_option linter.unusedVariables false

set_option maxRecDepth 100000 in
set_option maxHeartbeats 400000 in
theorem limited_lane (v : Int) (w : World) :
    Calls Try.prog 38 #[.int .i64 v, .int .i64 1023] w fun e w' => e = .returned (.int .i64 (lim 1023 v)) ∧ w = w' := by
  obtain ⟨y, hmin⟩ : ∃ y : Int, (if (1023 : Int) < v then (1023 : Int) else v) = y := ⟨_, rfl⟩
  have hmax : (if (-1023 : Int) < y then y else -1023) = lim 1023 v := by unfold lim; split <;> split at hmin <;> omega
  obtain ⟨z, hz⟩ : ∃ z, z = lim 1023 v := ⟨_, rfl⟩
  rw [← hz] at hmax ⊢
  clear hz
  go_enter Try.func38, Try.ntmps38
  go_wp2
  go_ret
  exact ⟨rfl, rfl⟩
/-- The summands with the bias. -/
def biF (r : List Int) : List Int := [lim 1023 (r.getD 0 0) + 1024, lim 1023 (r.getD 1 0) + 1024, lim 1023 (r.getD 2 0) + 1024, lim 1023 (r.getD 3 0) + 1024]
theorem biF_at (r : List Int) {j : Nat} (hj : j < 4) : (biF r).getD j 0 = lim 1023 (r.getD j 0) + 1024 := by
  rcases (show j = 0 ∨ j = 1 ∨ j = 2 ∨ j = 3 by omega) with rfl | rfl | rfl | rfl
  all_goals rfl
theorem lane_val {a b c d : Nat} (ha : a < 32768) (hb : b < 32768) (hc : c < 32768) (hd : d < 32768) : upE (ln a b c d : Nat) = true ∧ lnA (ln a b c d : Nat) = a ∧ lnB (ln a b c d : Nat) = b ∧ lnC (ln a b c d : Nat) = c ∧ lnD (ln a b c d : Nat) = d := by
  obtain ⟨p1, p2, p3, p4⟩ := ln_parts (a := a) (b := b) (c := c) (d := d) (by omega) (by omega) (by omega) (by omega)
  refine ⟨?_, p1, p2, p3, p4⟩
  unfold upE smE
  rw [p1, p2, p3, p4]
  simp
  omega
theorem paq_nat {a b c d : Nat} (ha : a < 32768) (hb : b < 32768) (hc : c < 32768) (hd : d < 32768) : paqE [(a : Int), b, c, d] = true ∧ paqV [(a : Int), b, c, d] = (ln a b c d : Nat) := by
  have e : paqE [(a : Int), b, c, d] = true := by
    rw [paqE_four]
    have q : ∀ x : Nat, x < 32768 → laE (x : Int) = true := fun x h => by rw [laE_true]; omega
    rw [q a ha, q b hb, q c hc, q d hd]
    rfl
  exact ⟨e, by rw [paqV_four e, paqN_nat]⟩
/-- What the program reckons from four samples and four summands. -/
theorem clip_add {p r : List Int} (hp : p.length = 4) (hr : r.length = 4) (hpx : p.all pixE = true) :
    upE (clV (adV (paqV p) (paqV (biF r)))) = true ∧ upF (clV (adV (paqV p) (paqV (biF r)))) = caF p r ∧ (0 ≤ adV (paqV p) (paqV (biF r)) ∧ adV (paqV p) (paqV (biF r)) ≤ 9223372036854775807) ∧ 0 ≤ clV (adV (paqV p) (paqV (biF r))) ∧ clV (adV (paqV p) (paqV (biF r))) ≤ 9223372036854775807 := by
  have lr : ∀ v, -1023 ≤ lim 1023 v ∧ lim 1023 v ≤ 1023 := fun v => lim_range (m := 1023) (v := v) (by decide)
  have px : ∀ i, i < 4 → 0 ≤ p.getD i 0 ∧ p.getD i 0 ≤ 255 := fun i hi => by
    rw [List.all_eq_true] at hpx
    have := hpx (p[i]'(by omega)) (List.getElem_mem _)
    rw [List.getD_eq_getElem?_getD, List.getElem?_eq_getElem (by omega)]
    exact pixE_true this
  have cf : caF p r = [clipV (p.getD 0 0 + lim 1023 (r.getD 0 0)), clipV (p.getD 1 0 + lim 1023 (r.getD 1 0)), clipV (p.getD 2 0 + lim 1023 (r.getD 2 0)), clipV (p.getD 3 0 + lim 1023 (r.getD 3 0))] := rfl
  have p0 := px 0 (by decide); have p1 := px 1 (by decide); have p2 := px 2 (by decide); have p3 := px 3 (by decide)
  have r0 := lr (r.getD 0 0); have r1 := lr (r.getD 1 0); have r2 := lr (r.getD 2 0); have r3 := lr (r.getD 3 0)
  rw [cf]
  unfold biF
  rw [list_four hp]
  generalize p.getD 0 0 = a at *; generalize p.getD 1 0 = b at *; generalize p.getD 2 0 = c at *; generalize p.getD 3 0 = d at *
  generalize lim 1023 (r.getD 0 0) = s at *; generalize lim 1023 (r.getD 1 0) = t at *; generalize lim 1023 (r.getD 2 0) = u at *; generalize lim 1023 (r.getD 3 0) = v at *
  obtain ⟨a, rfl⟩ := Int.eq_ofNat_of_zero_le p0.1
  obtain ⟨b, rfl⟩ := Int.eq_ofNat_of_zero_le p1.1
  obtain ⟨c, rfl⟩ := Int.eq_ofNat_of_zero_le p2.1
  obtain ⟨d, rfl⟩ := Int.eq_ofNat_of_zero_le p3.1
  obtain ⟨S, hS⟩ := Int.eq_ofNat_of_zero_le (show 0 ≤ s + 1024 by omega)
  obtain ⟨T, hT⟩ := Int.eq_ofNat_of_zero_le (show 0 ≤ t + 1024 by omega)
  obtain ⟨U, hU⟩ := Int.eq_ofNat_of_zero_le (show 0 ≤ u + 1024 by omega)
  obtain ⟨V, hV⟩ := Int.eq_ofNat_of_zero_le (show 0 ≤ v + 1024 by omega)
  rw [hS, hT, hU, hV]
  rw [(paq_nat (a := a) (b := b) (c := c) (d := d) (by omega) (by omega) (by omega) (by omega)).2]
  rw [(paq_nat (a := S) (b := T) (c := U) (d := V) (by omega) (by omega) (by omega) (by omega)).2]
  obtain ⟨e1, a1, a2, a3, a4⟩ := lane_val (a := a) (b := b) (c := c) (d := d) (by omega) (by omega) (by omega) (by omega)
  obtain ⟨e2, b1, b2, b3, b4⟩ := lane_val (a := S) (b := T) (c := U) (d := V) (by omega) (by omega) (by omega) (by omega)
  have eA : adE (ln a b c d : Nat) (ln S T U V : Nat) = true := by
    unfold adE smE
    rw [e1, e2, a1, a2, a3, a4, b1, b2, b3, b4]
    simp
    omega
  have vA : adV (ln a b c d : Nat) (ln S T U V : Nat) = (ln (a + S) (b + T) (c + U) (d + V) : Nat) := by
    unfold adV
    rw [if_pos eA]
    unfold ln
    omega
  rw [vA]
  obtain ⟨e3, c1, c2, c3, c4⟩ := lane_val (a := a + S) (b := b + T) (c := c + U) (d := d + V) (by omega) (by omega) (by omega) (by omega)
  have vC : clV (ln (a + S) (b + T) (c + U) (d + V) : Nat) = (ln (clN (a + S)) (clN (b + T)) (clN (c + U)) (clN (d + V)) : Nat) := by
    unfold clV
    rw [if_pos e3, c1, c2, c3, c4]
  rw [vC]
  have q := fun x => clN_le x
  obtain ⟨e4, d1, d2, d3, d4⟩ := lane_val (a := clN (a + S)) (b := clN (b + T)) (c := clN (c + U)) (d := clN (d + V)) (by have := q (a + S); omega) (by have := q (b + T); omega) (by have := q (c + U); omega) (by have := q (d + V); omega)
  have g1 := q (a + S); have g2 := q (b + T); have g3 := q (c + U); have g4 := q (d + V)
  refine ⟨e4, ?_, by unfold ln; omega, by unfold ln; omega⟩
  unfold upF
  rw [d1, d2, d3, d4, clN_clip, clN_clip, clN_clip, clN_clip]
  rw [show ((a + S : Nat) : Int) - 1024 = a + s by omega, show ((b + T : Nat) : Int) - 1024 = b + t by omega, show ((c + U : Nat) : Int) - 1024 = c + u by omega, show ((d + V : Nat) : Int) - 1024 = d + v by omega]
  rfl
set_option maxRecDepth 100000 in
set_option maxHeartbeats 4000000 in
theorem impl_clipadd_four (A B : Option Addr) (ca cb : Nat) (p r : List Int) (hp : p.length = 4) (hr : r.length = 4) (hpx : p.all pixE = true) (w : World) (hA : Ints w w.heap.size A p) (hB : Ints w w.heap.size B r) :
    Calls Try.prog 27 #[.slice A 4 ca, .slice B 4 cb] w fun e w' => ∃ A' c, e = .returned (.slice A' 4 c) ∧ OwnI w' w.heap.size A' c (caF p r) ∧ Below w.heap.size w w' := by
  have PX := Lib.hid (impl_samples_any A ca p w hA)
  rw [hpx, hp] at PX
  obtain ⟨q1, q2, ⟨q3, q4⟩, q5, q6⟩ := clip_add hp hr hpx
  have P1 : Hid (∀ w', Below w.heap.size w w' → Calls Try.prog 11 #[.slice A 4 ca] w' fun e w'' => e = .returned (.tuple #[.int .i64 (paqV p), .bool (paqE p)]) ∧ Below w'.heap.size w' w'') := Lib.hid fun w' hb => by
    have := impl_pack_any A ca p w' ((hA.below hb (Nat.le_refl _)).mono hb.size)
    rw [hp] at this
    exact this
  have P2 := Lib.hid fun A c w hI => impl_pack_any A c (biF r) w hI
  have AD := Lib.hid fun w => impl_addlanes_any (paqV p) (paqV (biF r)) (by have := (pack_range (l := p)).1; omega) (pack_range (l := p)).2 (by have := (pack_range (l := biF r)).1; omega) (pack_range (l := biF r)).2 w
  have CL := Lib.hid fun w => impl_cliplanes_any (adV (paqV p) (paqV (biF r))) (by omega) q4 w
  have UP := Lib.hid fun w => impl_unpack_any (clV (adV (paqV p) (paqV (biF r)))) (by omega) q6 w
  rw [upE_len q1, upE_on q1, q2] at UP
  have O1 := Lib.hid (own_ints w w.heap.size (biF r) (Nat.le_refl _) (by simp [biF, maxLen]))
  have B1 := Lib.hid (below_new w (.cells (ivs (biF r)).toArray 3))
  have LM := Lib.hid limited_lane
  have lr : ∀ v, -1023 ≤ lim 1023 v ∧ lim 1023 v ≤ 1023 := fun v => lim_range (m := 1023) (v := v) (by decide)
  have r0 := lr (r.getD 0 0); have r1 := lr (r.getD 1 0); have r2 := lr (r.getD 2 0); have r3 := lr (r.getD 3 0)
  obtain ⟨rb, roff, rfl, hrb, hrc⟩ := hB.at 0 (by omega)
  have c0 := hrc 0 (by omega); have c1 := hrc 1 (by omega); have c2 := hrc 2 (by omega); have c3 := hrc 3 (by omega)
  have l0 := Lib.hid (limited_lane (r.getD 0 0)); have l1 := Lib.hid (limited_lane (r.getD 1 0)); have l2 := Lib.hid (limited_lane (r.getD 2 0)); have l3 := Lib.hid (limited_lane (r.getD 3 0))
  obtain ⟨R, hR⟩ : ∃ R, R = biF r := ⟨_, rfl⟩
  have hRe : R = [lim 1023 (r.getD 0 0) + 1024, lim 1023 (r.getD 1 0) + 1024, lim 1023 (r.getD 2 0) + 1024, lim 1023 (r.getD 3 0) + 1024] := hR
  rw [← hR] at P2 AD CL UP O1 B1
  generalize r.getD 0 0 = x0 at *; generalize r.getD 1 0 = x1 at *; generalize r.getD 2 0 = x2 at *; generalize r.getD 3 0 = x3 at *
  generalize lim 1023 x0 = y0 at *; generalize lim 1023 x1 = y1 at *; generalize lim 1023 x2 = y2 at *; generalize lim 1023 x3 = y3 at *
  have RE := Lib.hid hRe
  have RL : Hid (R.length = 4) := Lib.hid (by rw [hRe]; rfl)
  have O2 : Hid (OwnI (w.alloc (.cells #[.int .i64 (y0 + 1024), .int .i64 (y1 + 1024), .int .i64 (y2 + 1024), .int .i64 (y3 + 1024)] 3)) w.heap.size (some ⟨w.heap.size, 0, none⟩) 4 R) := Lib.hid (by
    have := O1.out
    rw [RL.out] at this
    rw [hRe] at this ⊢
    exact this)
  have B2 : Hid (Below w.heap.size w (w.alloc (.cells #[.int .i64 (y0 + 1024), .int .i64 (y1 + 1024), .int .i64 (y2 + 1024), .int .i64 (y3 + 1024)] 3))) := Lib.hid (below_new w _)
  have hmk : ∀ w : World, (Instr.makeSlice 24 (.int .i64 4) (.int .i64 4)).run Try.prog w = .ok (.slice (some ⟨w.heap.size, 0, none⟩) 4 4) (w.alloc (.cells #[.int .i64 0, .int .i64 0, .int .i64 0, .int .i64 0] 3)) := make_ints 4 4 (by decide) (by decide)
  have I2 : Hid (∀ w', Below (w.heap.size + 1) (w.alloc (.cells #[.int .i64 (y0 + 1024), .int .i64 (y1 + 1024), .int .i64 (y2 + 1024), .int .i64 (y3 + 1024)] 3)) w' → Calls Try.prog 11 #[.slice (some ⟨w.heap.size, 0, none⟩) 4 4] w' fun e w'' => e = .returned (.tuple #[.int .i64 (paqV R), .bool (paqE R)]) ∧ Below w'.heap.size w' w'') := Lib.hid fun w' hb => by
    have hi := O2.out.ints (by rw [RL.out]; decide)
    have hz : (w.alloc (.cells #[.int .i64 (y0 + 1024), .int .i64 (y1 + 1024), .int .i64 (y2 + 1024), .int .i64 (y3 + 1024)] 3)).heap.size = w.heap.size + 1 := by simp
    rw [hz] at hi
    have := P2.out (some ⟨w.heap.size, 0, none⟩) 4 w' ((hi.below hb (Nat.le_refl _)).mono (by have := hb.size; omega))
    rw [RL.out] at this
    exact this
  generalize paqV p = vp at *; generalize paqE p = ep at *; generalize paqV R = vr at *; generalize paqE R = er at *
  generalize adV vp vr = va at *; generalize adE vp vr = ea at *; generalize clV va = vc at *
  obtain ⟨C, hC⟩ : ∃ C, C = caF p r := ⟨_, rfl⟩
  rw [← hC] at UP ⊢
  clear hC hRe O1 B1 P2 lr hrc hR q1 q2 q3 q4 q5 q6 hpx hp hr hA hB LM
  simp only [Nat.add_zero] at c0
  go_enter Try.func27, Try.ntmps27
  go_wp2_with fail
  refine PX.out.mono ?_
  rintro e w9 ⟨rfl, hw9⟩
  subst hw9
  go_wp2
  refine wp_loop_rounds 5 ?_
  rw [rounds_succ]
  go_wp2_with fail
  refine (l0.out _).mono ?_
  rintro e w9 ⟨rfl, rfl⟩
  go_wp2
  rw [rounds_succ]
  go_wp2_with fail
  refine (l1.out _).mono ?_
  rintro e w9 ⟨rfl, rfl⟩
  go_wp2
  rw [rounds_succ]
  go_wp2_with fail
  refine (l2.out _).mono ?_
  rintro e w9 ⟨rfl, rfl⟩
  go_wp2
  rw [rounds_succ]
  go_wp2_with fail
  refine (l3.out _).mono ?_
  rintro e w9 ⟨rfl, rfl⟩
  go_wp2
  rw [rounds_succ]
  go_wp2_with fail
  refine (P1.out _ B2.out).mono ?_
  rintro e w3 ⟨rfl, hb3⟩
  have hz : (w.alloc (.cells #[.int .i64 (y0 + 1024), .int .i64 (y1 + 1024), .int .i64 (y2 + 1024), .int .i64 (y3 + 1024)] 3)).heap.size = w.heap.size + 1 := by simp
  rw [hz] at hb3
  have B3 := Lib.hid hb3
  have D3 := Lib.hid (B2.out.trans (hb3.mono (Nat.le_succ _)))
  clear hz hb3
  go_wp2_with fail
  refine (I2.out _ B3.out).mono ?_
  rintro e w4 ⟨rfl, hb4⟩
  have D4 := Lib.hid (below_up D3.out hb4 D3.out.size)
  clear hb4
  go_wp2_with fail
  refine (AD.out _).mono ?_
  rintro e w5 ⟨rfl, hw5⟩
  subst hw5
  go_wp2_with fail
  refine (CL.out _).mono ?_
  rintro e w5 ⟨rfl, hw5⟩
  subst hw5
  go_wp2_with fail
  refine (UP.out _).mono ?_
  rintro e w6 ⟨A6, c6, rfl, ho6, hb6⟩
  have O6 := Lib.hid (own_lower ho6 D4.out.size)
  have D6 := Lib.hid (below_up D4.out hb6 D4.out.size)
  clear ho6 hb6
  go_wp2
  go_ret
  exact ⟨_, _, rfl, O6.out, D6.out⟩
set_option maxRecDepth 100000 in
set_option maxHeartbeats 1000000 in
theorem impl_clipadd_off (A B : Option Addr) (ca cb n m : Nat) (h : n ≠ 4 ∨ m ≠ 4) (hn : n ≤ 281474976710656) (hm : m ≤ 281474976710656) (w : World) :
    Calls Try.prog 27 #[.slice A n ca, .slice B m cb] w fun e w' => ∃ A' c, e = .returned (.slice A' 0 c) ∧ OwnI w' w.heap.size A' c [] ∧ Below w.heap.size w w' := by
  have O0 : Hid (OwnI w w.heap.size none 0 []) := Lib.hid (World.ownsRow_nil _ w.heap.size 3 1)
  by_cases h1 : n = 4
  · have h2 : m ≠ 4 := by omega
    subst h1
    have q : ((m : Int) != 4) = true := by rw [bne_iff_ne]; omega
    clear h h2
    go_enter Try.func27, Try.ntmps27
    go_wp2
    go_ret
    exact ⟨_, _, rfl, O0.out, Below.refl _ _⟩
  · have q : ((n : Int) != 4) = true := by rw [bne_iff_ne]; omega
    clear h h1
    go_enter Try.func27, Try.ntmps27
    go_wp2
    go_ret
    exact ⟨_, _, rfl, O0.out, Below.refl _ _⟩
set_option maxRecDepth 100000 in
set_option maxHeartbeats 1000000 in
theorem impl_clipadd_bad (A B : Option Addr) (ca cb : Nat) (p : List Int) (hp : p.length = 4) (hpx : p.all pixE = false) (w : World) (hA : Ints w w.heap.size A p) :
    Calls Try.prog 27 #[.slice A 4 ca, .slice B 4 cb] w fun e w' => ∃ A' c, e = .returned (.slice A' 0 c) ∧ OwnI w' w.heap.size A' c [] ∧ Below w.heap.size w w' := by
  have O0 : Hid (OwnI w w.heap.size none 0 []) := Lib.hid (World.ownsRow_nil _ w.heap.size 3 1)
  have PX := Lib.hid (impl_samples_any A ca p w hA)
  rw [hpx, hp] at PX
  clear hpx hp hA
  go_enter Try.func27, Try.ntmps27
  go_wp2_with fail
  refine PX.out.mono ?_
  rintro e w9 ⟨rfl, hw9⟩
  subst hw9
  go_wp2
  go_ret
  exact ⟨_, _, rfl, O0.out, Below.refl _ _⟩
theorem impl_clipadd4_any (A B : Option Addr) (ca cb : Nat) (p r : List Int) (w : World) (hA : Ints w w.heap.size A p) (hB : Ints w w.heap.size B r) :
    Calls Try.prog 27 #[.slice A p.length ca, .slice B r.length cb] w fun e w' => ∃ A' c, e = .returned (.slice A' (caL p r).length c) ∧ OwnI w' w.heap.size A' c (caL p r) ∧ Below w.heap.size w w' := by
  by_cases h : p.length = 4 ∧ r.length = 4
  · obtain ⟨h1, h2⟩ := h
    cases hpx : p.all pixE with
    | true =>
      have e : caL p r = caF p r := by unfold caL; rw [if_pos ⟨h1, h2, hpx⟩]
      rw [e, caF_len, h1, h2]
      exact impl_clipadd_four A B ca cb p r h1 h2 hpx w hA hB
    | false =>
      have e : caL p r = [] := by unfold caL; rw [if_neg (by rw [hpx]; simp)]
      rw [e, h1, h2]
      exact impl_clipadd_bad A B ca cb p h1 hpx w hA
  · have e : caL p r = [] := by unfold caL; rw [if_neg (fun k => h ⟨k.1, k.2.1⟩)]
    rw [e]
    exact impl_clipadd_off A B ca cb p.length r.length (by omega) hA.1 hB.1 w
end Go.Proofs.Ytbiffijjmhpkpaa
