/-
  Contracts of chapter 1's draws as wholes: a number, a text, a text that may begin with a varint: each returns, and its answer depends on the input's bytes alone. Condition: the input is no longer than 1048576 bytes.
-/
import Derived.Test.YtbpghjnkjakhnaaDoorDraw4
import Derived.Test.YtbpghjnkjakhnaaDoorNumL
namespace Go.Proofs.YtbpghjnkjakhnaaDoor
open Go.RowKit
set_option linter.unusedVariables false

/-- The input: its bytes lie before the heap's end. -/
structure Code (w : World) (A : Option Addr) (zs : List Int) : Prop where
  few : zs.length ≤ 1048576
  bytes : ∀ j, j < zs.length → 0 ≤ zs.getD j 0 ∧ zs.getD j 0 < 256
  lies : Lies w w.heap.size A zs
theorem Lies.mono {w : World} {g g' : Nat} {A : Option Addr} {zs : List Int} (h : Lies w g A zs) (hg : g ≤ g') : Lies w g' A zs := by
  rcases h with h0 | ⟨b, off, hA, hbg, hc⟩
  · exact .inl h0
  · exact .inr ⟨b, off, hA, Nat.lt_of_lt_of_le hbg hg, hc⟩
theorem Code.below {w w' : World} {A : Option Addr} {zs : List Int} (h : Code w A zs) (hb : Below w.heap.size w w') : Code w' A zs :=
  ⟨h.few, h.bytes, (h.lies.kept fun k hk => hb.block k hk).mono hb.size⟩

set_option maxHeartbeats 400000 in
theorem drawVar_det (A : Option Addr) (cap : Nat) (zs : List Int) : ∃ x : Int, -9223372036854775808 ≤ x ∧ x ≤ 9223372036854775807 ∧ ∀ w : World, Code w A zs →
    Calls Tryd.prog 7 #[.slice A zs.length cap] w fun e w' => e = .returned (.int .i64 x) ∧ Below w.heap.size w w' := by
  obtain ⟨x, i1, h1, a1, b1, l1, C1⟩ := num_det A cap zs 0 (hashF zs (min zs.length 4000)) (Nat.zero_le _)
  refine ⟨x, a1, b1, fun w hW => ?_⟩
  have HN := Lib.hid (new_any A cap zs hW.few hW.bytes w hW.lies)
  have HC1 := Lib.hid C1
  clear C1 hW a1 b1
  go_enter Tryd.func7, Tryd.ntmps7
  go_wp2_with fail
  refine HN.out.mono ?_
  rintro e w1 ⟨rfl, hC, hb1⟩
  have HC := Lib.hid hC; clear hC
  go_wp2_with fail
  refine (HC1.out _ _ HC.out).mono ?_
  rintro e w2 ⟨rfl, hC2, hg2⟩
  have G2 := Lib.hid hC2; clear hC2
  go_wp2
  go_ret
  exact ⟨rfl, hb1.trans (grown_below hg2 (Nat.le_refl _) hb1.size)⟩

set_option maxHeartbeats 400000 in
theorem drawHex_det (A : Option Addr) (cap : Nat) (zs : List Int) : ∃ l : List UInt8, l.length ≤ 40 ∧ ∀ w : World, Code w A zs →
    Calls Tryd.prog 8 #[.slice A zs.length cap] w fun e w' => e = .returned (.string (bs l)) ∧ Below w.heap.size w w' := by
  obtain ⟨l, i1, h1, a1, l1, C1⟩ := text_det A cap zs 0 (hashF zs (min zs.length 4000)) (Nat.zero_le _) 40 (by decide)
  refine ⟨l, a1, fun w hW => ?_⟩
  have HN := Lib.hid (new_any A cap zs hW.few hW.bytes w hW.lies)
  have HC1 := Lib.hid C1
  clear C1 hW a1
  go_enter Tryd.func8, Tryd.ntmps8
  go_wp2_with fail
  refine HN.out.mono ?_
  rintro e w1 ⟨rfl, hC, hb1⟩
  have HC := Lib.hid hC; clear hC
  go_wp2_with fail
  refine (HC1.out _ _ HC.out).mono ?_
  rintro e w2 ⟨rfl, hC2, hg2⟩
  have G2 := Lib.hid hC2; clear hC2
  go_wp2
  go_ret
  exact ⟨rfl, hb1.trans (grown_below hg2 (Nat.le_refl _) hb1.size)⟩

theorem varS_size (n : Int) : (varS n).size ≤ 7 := by
  unfold varS
  split
  · rw [bs_size]; exact varL_len _
  · rw [bs_size]; simp

set_option maxRecDepth 100000 in
set_option maxHeartbeats 1000000 in
theorem drawReadVar_det (A : Option Addr) (cap : Nat) (zs : List Int) : ∃ r : ByteArray, r.size ≤ 14 ∧ ∀ w : World, Code w A zs →
    Calls Tryd.prog 17 #[.slice A zs.length cap] w fun e w' => e = .returned (.string r) ∧ Below w.heap.size w w' := by
  obtain ⟨x, i1, h1, a1, b1, l1, C1⟩ := num_det A cap zs 0 (hashF zs (min zs.length 4000)) (Nat.zero_le _)
  obtain ⟨t, i2, h2, a2, l2, C2⟩ := text_det A cap zs i1 h1 l1 4 (by decide)
  obtain ⟨b, i3, h3, l3, C3⟩ := once_det A cap zs i2 h2 l2 4
  have hvs := varS_size x
  obtain ⟨S, hS⟩ : ∃ S, S = varS x := ⟨_, rfl⟩
  have HV := Lib.hid (spec_var_any x)
  rw [← hS] at hvs HV
  clear hS
  have hts : (bs t).size ≤ 4 := by rw [bs_size]; exact a2
  have hsz : (S ++ bs t).size ≤ 11 := by rw [ByteArray.size_append]; omega
  obtain ⟨r, i4, h4, a4, l4, C4⟩ := spoil_det A cap zs i3 h3 l3 (S ++ bs t) (by omega)
  have HC1 := Lib.hid C1; clear C1
  have HC2 := Lib.hid C2; clear C2
  have HC3 := Lib.hid C3; clear C3
  have HC4 := Lib.hid C4; clear C4
  have hadd : ¬ 9223372036854775807 < S.size + (bs t).size := by omega
  cases b with
  | true =>
    refine ⟨r, by omega, fun w hW => ?_⟩
    have HN := Lib.hid (new_any A cap zs hW.few hW.bytes w hW.lies)
    clear hW a1 b1 a2 a4 hsz
    go_enter Tryd.func17, Tryd.ntmps17
    go_wp2_with fail
    refine HN.out.mono ?_
    rintro e w1 ⟨rfl, hC, hb1⟩
    have HC := Lib.hid hC; clear hC
    go_wp2_with fail
    refine (HC1.out _ _ HC.out).mono ?_
    rintro e w2 ⟨rfl, hC2, hg2⟩
    have G2 := Lib.hid hC2; clear hC2
    go_wp2_with fail
    refine (HV.out _).mono ?_
    rintro e w3 ⟨rfl, hb3⟩
    have G3 := Lib.hid (G2.out.kept (w' := w3) fun k hk => hb3.block k (by have := G2.out.lt; omega))
    go_wp2_with fail
    refine (HC2.out _ _ G3.out).mono ?_
    rintro e w4 ⟨rfl, hC4, hg4⟩
    have G4 := Lib.hid hC4; clear hC4
    go_wp2_with fail
    refine (HC3.out _ _ G4.out).mono ?_
    rintro e w5 ⟨rfl, hC5, hg5⟩
    have G5 := Lib.hid hC5; clear hC5
    go_wp2_with fail
    refine (HC4.out _ _ G5.out).mono ?_
    rintro e w6 ⟨rfl, hC6, hg6⟩
    go_wp2
    go_ret
    have e2 := hb1.trans (grown_below hg2 (Nat.le_refl _) hb1.size)
    have e3 := below_step e2 hb3
    have e4 := e3.trans (grown_below hg4 (Nat.le_refl _) e3.size)
    have e5 := e4.trans (grown_below hg5 (Nat.le_refl _) e4.size)
    exact ⟨rfl, e5.trans (grown_below hg6 (Nat.le_refl _) e5.size)⟩
  | false =>
    refine ⟨S ++ bs t, by omega, fun w hW => ?_⟩
    have HN := Lib.hid (new_any A cap zs hW.few hW.bytes w hW.lies)
    clear hW a1 b1 a2 a4 hsz
    go_enter Tryd.func17, Tryd.ntmps17
    go_wp2_with fail
    refine HN.out.mono ?_
    rintro e w1 ⟨rfl, hC, hb1⟩
    have HC := Lib.hid hC; clear hC
    go_wp2_with fail
    refine (HC1.out _ _ HC.out).mono ?_
    rintro e w2 ⟨rfl, hC2, hg2⟩
    have G2 := Lib.hid hC2; clear hC2
    go_wp2_with fail
    refine (HV.out _).mono ?_
    rintro e w3 ⟨rfl, hb3⟩
    have G3 := Lib.hid (G2.out.kept (w' := w3) fun k hk => hb3.block k (by have := G2.out.lt; omega))
    go_wp2_with fail
    refine (HC2.out _ _ G3.out).mono ?_
    rintro e w4 ⟨rfl, hC4, hg4⟩
    have G4 := Lib.hid hC4; clear hC4
    go_wp2_with fail
    refine (HC3.out _ _ G4.out).mono ?_
    rintro e w5 ⟨rfl, hC5, hg5⟩
    have G5 := Lib.hid hC5; clear hC5
    go_wp2
    go_ret
    have e2 := hb1.trans (grown_below hg2 (Nat.le_refl _) hb1.size)
    have e3 := below_step e2 hb3
    have e4 := e3.trans (grown_below hg4 (Nat.le_refl _) e3.size)
    exact ⟨rfl, e4.trans (grown_below hg5 (Nat.le_refl _) e4.size)⟩
end Go.Proofs.YtbpghjnkjakhnaaDoor
