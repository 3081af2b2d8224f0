/-
  Contracts of the draw that spoils a text, and of chapter 1's draws as wholes. Condition: the input is no longer than 1048576 bytes.
-/
import Derived.Test.YtbpghjnkjakhnaaDoorDraw2
import Derived.Test.YtbpghjnkjakhnaaDoorDraw3
namespace Go.Proofs.YtbpghjnkjakhnaaDoor
open Go.RowKit
set_option linter.unusedVariables false

set_option maxRecDepth 100000 in
set_option maxHeartbeats 2000000 in
theorem spoil_det (A : Option Addr) (cap : Nat) (zs : List Int) (i : Nat) (h : Int) (hi : i ≤ zs.length) (s : ByteArray) (hs : s.size ≤ 1000000) : ∃ (r : ByteArray) (i' : Nat) (h' : Int), r.size ≤ s.size + 3 ∧ i' ≤ zs.length ∧ ∀ (w : World) (g : Nat), Cursor w g A cap zs i h →
    Calls Tryd.prog 30 #[.pointer (some ⟨g, 0, none⟩), .string s] w fun e w' => e = .returned (.string r) ∧ Cursor w' g A cap zs i' h' ∧ w.grownBy w' (some g) := by
  by_cases h0 : s.size = 0
  · obtain ⟨l, i1, h1, hl, l1, C1⟩ := text_det A cap zs i h hi 3 (by decide)
    refine ⟨bs l, i1, h1, by rw [bs_size]; omega, l1, fun w g hC => ?_⟩
    have HC := Lib.hid hC
    have HC1 := Lib.hid C1
    have q0 : ((s.size : Int) == 0) = true := by rw [beq_iff_eq]; omega
    clear hC C1 hl h0
    go_enter Tryd.func30, Tryd.ntmps30
    go_wp2_with fail
    refine (HC1.out _ _ HC.out).mono ?_
    rintro e w1 ⟨rfl, hC1, hg1⟩
    have G1 := Lib.hid hC1; clear hC1
    go_wp2
    go_ret
    exact ⟨rfl, G1.out, hg1⟩
  · have q0 : ((s.size : Int) == 0) = false := by rw [beq_eq_false_iff_ne]; omega
    obtain ⟨k, i1, h1, a1, b1, _, l1, C1⟩ := below_det A cap zs i h hi (s.size : Int)
    have b1 := b1 (by omega)
    obtain ⟨k, rfl⟩ := Int.eq_ofNat_of_zero_le a1
    have HC1 := Lib.hid C1; clear C1
    obtain ⟨x, i2, h2, a2, b2, _, l2, C2⟩ := below_det A cap zs i1 h1 l1 4
    have b2 := b2 (by decide)
    have HC2 := Lib.hid C2; clear C2
    have hk : k < s.size := by omega
    by_cases e0 : x = 0
    · subst e0
      refine ⟨s.extract 0 k ++ s.extract (k + 1) s.size, i2, h2, by simp [ByteArray.size_append, ByteArray.size_extract]; omega, l2, fun w g hC => ?_⟩
      have HC := Lib.hid hC
      clear hC h0
      have hkI : (k : Int) ≤ (s.size : Int) := by omega
      have hk1 : (k : Int) + 1 ≤ (s.size : Int) := by omega
      go_enter Tryd.func30, Tryd.ntmps30
      go_wp2_with fail
      refine (HC1.out _ _ HC.out).mono ?_
      rintro e w1 ⟨rfl, hC1, hg1⟩
      have G1 := Lib.hid hC1; clear hC1
      go_wp2_with fail
      refine (HC2.out _ _ G1.out).mono ?_
      rintro e w2 ⟨rfl, hC2, hg2⟩
      have G2 := Lib.hid hC2; clear hC2
      go_wp2
      have hwr : IntKind.i64.wrap ((k : Int) + 1) = (k : Int) + 1 := IntWalk.i64_in _ (by omega)
      go_quiet (fail)
      go_wp2
      go_ret
      exact ⟨rfl, G2.out.drewN _, grown_drewN (hg1.trans hg2) _⟩
    · have p0 : (x == 0) = false := by rw [beq_eq_false_iff_ne]; exact e0
      by_cases e1 : x = 1
      · subst e1
        obtain ⟨y, i3, h3, a3, b3, l3, C3⟩ := byte_det A cap zs i2 h2 l2
        have HC3 := Lib.hid C3; clear C3
        refine ⟨s.extract 0 k ++ bs [UInt8.ofNat y.toNat] ++ s.extract k s.size, i3, h3, by simp [ByteArray.size_append, ByteArray.size_extract, bs_size]; omega, l3, fun w g hC => ?_⟩
        have HC := Lib.hid hC
        clear hC h0 e0
        have hkI : (k : Int) ≤ (s.size : Int) := by omega
        have hsz := bs_size
        go_enter Tryd.func30, Tryd.ntmps30
        go_wp2_with fail
        refine (HC1.out _ _ HC.out).mono ?_
        rintro e w1 ⟨rfl, hC1, hg1⟩
        have G1 := Lib.hid hC1; clear hC1
        go_wp2_with fail
        refine (HC2.out _ _ G1.out).mono ?_
        rintro e w2 ⟨rfl, hC2, hg2⟩
        have G2 := Lib.hid hC2; clear hC2
        go_wp2
        have hA1 : ¬ 9223372036854775807 < min k s.size + 1 := by omega
        have hA2 : ¬ 9223372036854775807 < min k s.size + 1 + (s.size - k) := by omega
        have hwy : IntKind.u8.wrap y = y := by rw [IntKind.wrap_u8]; omega
        go_region_with (go_at_call 33; refine (HC3.out _ _ G2.out.drew).mono ?_; rintro e w3 ⟨rfl, hC3, hg3⟩; have G3 := Lib.hid hC3; clear hC3; have hcv := conv_byte Tryd.underlying22 Tryd.underlying5 Tryd.underlying9 w3 y a3 (by omega))
        go_wp2
        go_ret
        exact ⟨rfl, G3.out.alloc _, grown_alloc (((hg1.trans hg2).trans (grown_drew (grown_refl _ _))).trans hg3) _⟩
      · have p1 : (x == 1) = false := by rw [beq_eq_false_iff_ne]; exact e1
        by_cases e2 : x = 2
        · subst e2
          refine ⟨s.extract 0 k, i2, h2, by simp [ByteArray.size_extract]; omega, l2, fun w g hC => ?_⟩
          have HC := Lib.hid hC
          clear hC h0 e0 e1
          have hkI : (k : Int) ≤ (s.size : Int) := by omega
          go_enter Tryd.func30, Tryd.ntmps30
          go_wp2_with fail
          refine (HC1.out _ _ HC.out).mono ?_
          rintro e w1 ⟨rfl, hC1, hg1⟩
          have G1 := Lib.hid hC1; clear hC1
          go_wp2_with fail
          refine (HC2.out _ _ G1.out).mono ?_
          rintro e w2 ⟨rfl, hC2, hg2⟩
          have G2 := Lib.hid hC2; clear hC2
          go_wp2
          go_ret
          exact ⟨rfl, G2.out, hg1.trans hg2⟩
        · have p2 : (x == 2) = false := by rw [beq_eq_false_iff_ne]; exact e2
          obtain ⟨y, i3, h3, a3, b3, _, l3, C3⟩ := below_det A cap zs i2 h2 l2 255
          have b3 := b3 (by decide)
          have HC3 := Lib.hid C3; clear C3
          obtain ⟨V, hV⟩ : ∃ V : Int, V = bits .xor .i64 (byteAt s k : Int) (1 + y) := ⟨_, rfl⟩
          obtain ⟨U, hU⟩ : ∃ U : Int, U = V % 256 := ⟨_, rfl⟩
          have hu0 : 0 ≤ U := by omega
          have hu1 : U < 256 := by omega
          have hU1 : IntKind.u8.wrap V = U := by rw [IntKind.wrap_u8, hU]
          have hU2 : V % 256 = U := hU.symm
          clear hU
          refine ⟨s.extract 0 k ++ bs [UInt8.ofNat U.toNat] ++ s.extract (k + 1) s.size, i3, h3, by simp [ByteArray.size_append, ByteArray.size_extract, bs_size]; omega, l3, fun w g hC => ?_⟩
          have HC := Lib.hid hC
          have HVV := Lib.hid hV
          clear hC h0 e0 e1 e2 hV
          have hkI : (k : Int) ≤ (s.size : Int) := by omega
          have hk1 : (k : Int) + 1 ≤ (s.size : Int) := by omega
          have hsz := bs_size
          have hix := index_at Tryd.underlying9 s k hk
          have hb8 := byteAt_lt s k
          go_enter Tryd.func30, Tryd.ntmps30
          go_wp2_with fail
          refine (HC1.out _ _ HC.out).mono ?_
          rintro e w1 ⟨rfl, hC1, hg1⟩
          have G1 := Lib.hid hC1; clear hC1
          go_wp2_with fail
          refine (HC2.out _ _ G1.out).mono ?_
          rintro e w2 ⟨rfl, hC2, hg2⟩
          have G2 := Lib.hid hC2; clear hC2
          go_wp2
          have hA1 : ¬ 9223372036854775807 < min k s.size + 1 := by omega
          have hA2 : ¬ 9223372036854775807 < min k s.size + 1 + (s.size - (k + 1)) := by omega
          have hwk : IntKind.i64.wrap ((k : Int) + 1) = (k : Int) + 1 := IntWalk.i64_in _ (by omega)
          have hwb : IntKind.i64.wrap (byteAt s k : Int) = (byteAt s k : Int) := IntWalk.i64_in _ (by omega)
          have hwy : IntKind.i64.wrap (1 + y) = 1 + y := IntWalk.i64_in _ (by omega)
          have hxor : bits .xor .i64 (byteAt s k : Int) (1 + y) = V := HVV.out.symm
          go_region_with (go_at_call 31; refine (HC3.out _ _ G2.out.drew).mono ?_; rintro e w3 ⟨rfl, hC3, hg3⟩; have G3 := Lib.hid hC3; clear hC3; have hcv := conv_byte Tryd.underlying22 Tryd.underlying5 Tryd.underlying9 w3 U hu0 hu1)
          all_goals
            go_wp2
            go_ret
            exact ⟨rfl, G3.out.alloc _, grown_alloc (((hg1.trans hg2).trans (grown_drew (grown_refl _ _))).trans hg3) _⟩
end Go.Proofs.YtbpghjnkjakhnaaDoor
