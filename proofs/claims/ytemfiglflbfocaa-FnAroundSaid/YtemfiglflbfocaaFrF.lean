/-
  Chapter 18: what NbAt answers, and the contract of the model's own.
-/
import Derived.Test.YtemfiglflbfocaaFrE
import Derived.Test.YtemfiglflbfocaaFrG
import Derived.Test.YtemfiglflbfocaaFrH
import Derived.Test.YtemfiglflbfocaaFrI
import Derived.Test.YtemfiglflbfocaaFrJ
import Derived.Test.YtemfiglflbfocaaNbB
import Derived.Test.YtemfiglflbfocaaScanC
namespace Go.Proofs.Ytemfiglflbfocaa
open Go.RowKit
set_option linter.unusedVariables false


/-- What NbAt answers. -/
def nbTop (a b : Int) (l : List Int) (x y n : Int) : List Int := if inE a b l x y n = true then tpL l a.toNat x.toNat y.toNat n.toNat (2 * n.toNat) else []
def nbLeft (a b : Int) (l : List Int) (x y n : Int) : List Int := if inE a b l x y n = true then leL l a.toNat x.toNat y.toNat n.toNat else []
def nbCo (a b : Int) (l : List Int) (x y n : Int) : Int := if inE a b l x y n = true then coV l a.toNat x.toNat y.toNat else 0
def nbHas (a b : Int) (l : List Int) (x y n z : Int) : Bool := inE a b l x y n && decide (0 < z)
theorem nbTop_len (a b : Int) (l : List Int) (x y n : Int) : (nbTop a b l x y n).length ≤ 16 := by
  unfold nbTop
  split
  · rename_i h
    have h2 := h
    simp only [inE, Bool.and_eq_true] at h2
    rw [tpL_len]
    rcases okN_cases h2.1.1.1.1.2 with rfl | rfl <;> decide
  · decide
theorem nbLeft_len (a b : Int) (l : List Int) (x y n : Int) : (nbLeft a b l x y n).length ≤ 8 := by
  unfold nbLeft
  split
  · rename_i h
    have h2 := h
    simp only [inE, Bool.and_eq_true] at h2
    rw [leL_len]
    rcases okN_cases h2.1.1.1.1.2 with rfl | rfl <;> decide
  · decide
set_option maxRecDepth 100000 in
set_option maxHeartbeats 4000000 in
theorem spec_nbat_any (a b : Int) (A : Option Addr) (ca : Nat) (l : List Int) (x y n : Int) (w : World) (hA : Ints w w.heap.size A l) :
    Calls Try.prog 23 #[.agg #[.int .i64 a, .int .i64 b, .slice A l.length ca], .int .i64 x, .int .i64 y, .int .i64 n] w fun e w' => ∃ A' cA B' cB, e = .returned (.agg #[.slice A' (nbTop a b l x y n).length cA, .slice B' (nbLeft a b l x y n).length cB, .int .i64 (nbCo a b l x y n), .bool (nbHas a b l x y n y), .bool (nbHas a b l x y n x)]) ∧ NbTwo w' w.heap.size A' cA B' cB (nbTop a b l x y n) (nbLeft a b l x y n) ∧ Below w.heap.size w w' := by
  cases hin : inE a b l x y n with
  | false =>
    have IN := Lib.hid fun w h => spec_l18in_any a b A ca l x y n w h
    rw [hin] at IN
    rw [show nbTop a b l x y n = [] by simp [nbTop, hin], show nbLeft a b l x y n = [] by simp [nbLeft, hin], show nbCo a b l x y n = 0 by simp [nbCo, hin], show nbHas a b l x y n y = false by simp [nbHas, hin], show nbHas a b l x y n x = false by simp [nbHas, hin]]
    have hb2 := below_two w (.cells #[.int .i64 a, .int .i64 b, .slice A l.length ca] 26) (.cells #[.slice none 0 0, .slice none 0 0, .int .i64 0, .bool false, .bool false] 38)
    obtain ⟨g0, g1⟩ := heap_two w (.cells #[.int .i64 a, .int .i64 b, .slice A l.length ca] 26) (.cells #[.slice none 0 0, .slice none 0 0, .int .i64 0, .bool false, .bool false] 38)
    have I2 := Lib.hid ((hA.below hb2 (Nat.le_refl _)).mono hb2.size); have B2 := Lib.hid hb2; have G1 := Lib.hid g1
    have hnl := hA.1
    obtain ⟨pn, hpn⟩ : ∃ pn, pn = l.length := ⟨_, rfl⟩
    rw [← hpn] at IN I2 B2 G1 hnl ⊢
    clear hA hin hb2 g0 g1 hpn
    go_enter Try.func23, Try.ntmps23
    go_wp2_with fail
    refine (IN.out _ I2.out).mono ?_
    rintro e w1 ⟨rfl, hb1⟩
    have hk1 := cell_kept G1.out hb1
    have B3 := Lib.hid (below_up B2.out hb1 B2.out.size)
    obtain ⟨r0, r1, r2, r3, r4⟩ := cells5 hk1
    obtain ⟨q0, q1, q2, q3, q4⟩ := frozen5 hk1
    have gb := grown_five w1 (w.heap.size + 1) (.slice none 0 0) (.slice none 0 0) (.int .i64 0) (.bool false) (.bool false)
    have hm := cells5 (put_five hk1 (.slice none 0 0) (.slice none 0 0) (.int .i64 0) (.bool false) (.bool false))
    have GB := Lib.hid gb; have HM := Lib.hid hm
    clear gb hm hb1 hk1
    go_wp2
    obtain ⟨m0, m1, m2, m3, m4⟩ := HM.out
    refine bodyPost_ret (v := .agg #[.slice none 0 0, .slice none 0 0, .int .i64 0, .bool false, .bool false]) (by simp [results, Try.results23, go_sem, m0, m1, m2, m3, m4]) rfl ⟨none, 0, none, 0, rfl, ⟨World.ownsRow_nil _ w.heap.size 3 1, World.ownsRow_nil _ w.heap.size 3 1, fun k h _ => by simp [Value.ownBlock] at h⟩, B3.out.grown GB.out B3.out.size fun k hk => by have := Option.some.inj hk; omega⟩
  | true =>
    rw [show nbTop a b l x y n = tpL l a.toNat x.toNat y.toNat n.toNat (2 * n.toNat) by simp [nbTop, hin], show nbLeft a b l x y n = leL l a.toNat x.toNat y.toNat n.toNat by simp [nbLeft, hin], show nbCo a b l x y n = coV l a.toNat x.toNat y.toNat by simp [nbCo, hin], show nbHas a b l x y n y = decide (0 < y) by simp [nbHas, hin], show nbHas a b l x y n x = decide (0 < x) by simp [nbHas, hin], tpL_len, leL_len]
    have hh := hin
    simp only [inE, Bool.and_eq_true] at hh
    obtain ⟨⟨⟨⟨⟨hf, ho⟩, hx⟩, hy⟩, _⟩, _⟩ := hh
    obtain ⟨hs, hl, _⟩ := frameE_sides hf
    obtain ⟨h1, h2, _, _⟩ := sidesE_parts hs
    have hx := betE_true hx; have hy := betE_true hy
    obtain ⟨a', rfl⟩ := Int.eq_ofNat_of_zero_le (show 0 ≤ a by omega)
    obtain ⟨b', rfl⟩ := Int.eq_ofNat_of_zero_le (show 0 ≤ b by omega)
    obtain ⟨x', rfl⟩ := Int.eq_ofNat_of_zero_le hx.1
    obtain ⟨y', rfl⟩ := Int.eq_ofNat_of_zero_le hy.1
    have hl' : l.length = a' * b' := by rw [← Int.natCast_mul] at hl; exact Int.ofNat.inj hl
    have hpos : 8 * 8 ≤ a' * b' := Nat.mul_le_mul (by omega) (by omega)
    obtain ⟨pb, poff, rfl, hpb, hc⟩ := hA.at 0 (by omega)
    by_cases hx0 : x' = 0
    · by_cases hy0 : y' = 0
      · rw [show decide ((0 : Int) < (y' : Int)) = false by simp; omega, show decide ((0 : Int) < (x' : Int)) = false by simp; omega]
        rcases okN_cases ho with rfl | rfl
        · exact spec_nbat_4_00 a' b' x' y' pb poff l.length ca l rfl hin (by omega) (by omega) (by omega) (by omega) hl' hx0 hy0 w hpb hc
        · exact spec_nbat_8_00 a' b' x' y' pb poff l.length ca l rfl hin (by omega) (by omega) (by omega) (by omega) hl' hx0 hy0 w hpb hc
      · rw [show decide ((0 : Int) < (y' : Int)) = true by simp; omega, show decide ((0 : Int) < (x' : Int)) = false by simp; omega]
        rcases okN_cases ho with rfl | rfl
        · exact spec_nbat_4_01 a' b' x' y' pb poff l.length ca l rfl hin (by omega) (by omega) (by omega) (by omega) hl' hx0 (by omega) w hpb hc
        · exact spec_nbat_8_01 a' b' x' y' pb poff l.length ca l rfl hin (by omega) (by omega) (by omega) (by omega) hl' hx0 (by omega) w hpb hc
    · by_cases hy0 : y' = 0
      · rw [show decide ((0 : Int) < (y' : Int)) = false by simp; omega, show decide ((0 : Int) < (x' : Int)) = true by simp; omega]
        rcases okN_cases ho with rfl | rfl
        · exact spec_nbat_4_10 a' b' x' y' pb poff l.length ca l rfl hin (by omega) (by omega) (by omega) (by omega) hl' (by omega) hy0 w hpb hc
        · exact spec_nbat_8_10 a' b' x' y' pb poff l.length ca l rfl hin (by omega) (by omega) (by omega) (by omega) hl' (by omega) hy0 w hpb hc
      · rw [show decide ((0 : Int) < (y' : Int)) = true by simp; omega, show decide ((0 : Int) < (x' : Int)) = true by simp; omega]
        rcases okN_cases ho with rfl | rfl
        · exact spec_nbat_4_11 a' b' x' y' pb poff l.length ca l rfl hin (by omega) (by omega) (by omega) (by omega) hl' (by omega) (by omega) w hpb hc
        · exact spec_nbat_8_11 a' b' x' y' pb poff l.length ca l rfl hin (by omega) (by omega) (by omega) (by omega) hl' (by omega) (by omega) w hpb hc
end Go.Proofs.Ytemfiglflbfocaa
