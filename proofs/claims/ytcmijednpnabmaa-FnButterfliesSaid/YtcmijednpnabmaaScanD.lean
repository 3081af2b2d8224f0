/-
  Contracts of chapter 9's draws: the size of a block, and the numbers of a block. Condition: the input is no longer than 1048576 bytes.
-/
import Derived.Test.YtcmijednpnabmaaScanC
import Derived.Test.YtcmijednpnabmaaDrawB
namespace Go.Proofs.Ytcmijednpnabmaa
open Go.RowKit
set_option linter.unusedVariables false

/-- What the draw of a square leaves. -/
def SqOut (w : World) (g : Nat) (M : Nat) (A : Option Addr) (cap : Nat) (zs : List Int) (e : Ending) (w' : World) : Prop :=
  ∃ (l : List Int) (A' : Option Addr) (c : Nat) (i' : Nat) (h' : Int), e = .returned (.slice A' l.length c) ∧ (l.length = 16 ∨ l.length = 64 ∨ l.length = 0 ∨ l.length = 15 ∨ l.length = 63) ∧ (∀ t, t < l.length → -(M : Int) ≤ l.getD t 0 ∧ l.getD t 0 ≤ (M : Int)) ∧ OwnI w' w.heap.size A' c l ∧ i' ≤ zs.length ∧ Cursor w' g A cap zs i' h' ∧ w.grownBy w' (some g)

def lenOf : Value → Nat
  | .slice _ n _ => n
  | _ => 0
theorem own_form2 {w : World} {base : Nat} {e : TypeId} {size : Nat} {v : Value} {n : Nat} {xs : List Value} (h : w.ownsRow base e size v n xs) : ∃ A c, v = .slice A n c := by
  rcases h.2 with ⟨h1, h2⟩ | ⟨g, cap, cur, h1, _⟩
  · exact ⟨none, 0, by rw [h1, h2]⟩
  · exact ⟨_, _, h1⟩
theorem snoc_range {p : List Int} {j M : Nat} {x : Int} (hp : p.length = j) (h : ∀ t, t < j → -(M : Int) ≤ p.getD t 0 ∧ p.getD t 0 ≤ (M : Int)) (h1 : -(M : Int) ≤ x) (h2 : x ≤ (M : Int)) : ∀ t, t < j + 1 → -(M : Int) ≤ (p ++ [x]).getD t 0 ∧ (p ++ [x]).getD t 0 ≤ (M : Int) := by
  intro t ht
  rw [List.getD_eq_getElem?_getD]
  by_cases htj : t < j
  · rw [List.getElem?_append_left (by omega), ← List.getD_eq_getElem?_getD]
    exact h t htj
  · obtain rfl : t = j := by omega
    subst hp
    simp
    omega

set_option maxRecDepth 100000 in
set_option maxHeartbeats 4000000 in
theorem l9square_ex (M : Nat) (hM : M ≤ 100000) (A : Option Addr) (cap : Nat) (zs : List Int) (i : Nat) (h : Int) (hi : i ≤ zs.length) (w : World) (g : Nat) (hC : Cursor w g A cap zs i h) :
    Calls Try.prog 53 #[.pointer (some ⟨g, 0, none⟩), .int .i64 M] w (SqOut w g M A cap zs) := by
  have hgw := hC.lt
  obtain ⟨b1, i1, h1, l1, C1⟩ := once_det A cap zs i h hi 3
  obtain ⟨b2, i2, h2, l2, C2⟩ := once_det A cap zs i1 h1 l1 14
  obtain ⟨p, i3, h3, hp, l3, C3⟩ := pickint_det A cap zs i2 h2 l2 [0, 15, 63] (by decide) (by decide)
  have HC1 := Lib.hid C1; have HC2 := Lib.hid C2; have HC3 := Lib.hid C3; have HC := Lib.hid hC
  obtain ⟨i0, hii, hz0, hz1, hz2⟩ := info_parts Try.iinfo
  clear C1 C2 C3 hC
  have HP2 := Lib.hid hp
  cases b2 with
  | false =>
    cases b1 with
    | false =>
      go_enter Try.func53, Try.ntmps53
      go_wp2_with fail
      refine (HC1.out _ _ HC.out).mono ?_
      rintro e w1 ⟨rfl, hC1, hg1⟩
      have G1 := Lib.hid hC1; have Q1 := Lib.hid hg1; clear hC1 hg1
      go_wp2_with fail
      refine (HC2.out _ _ G1.out).mono ?_
      rintro e w2 ⟨rfl, hC2, hg2⟩
      have G2 := Lib.hid hC2; have Q2 := Lib.hid (Q1.out.trans hg2); clear hC2 hg2
      have hs2 : w.heap.size ≤ w2.heap.size := Q2.out.size
      have O0 : Hid ((w2.alloc (.cells (ivs []).toArray 3)).ownsRow w.heap.size 3 1 (.slice (some ⟨w2.heap.size, 0, none⟩) 0 0) 0 (ivs [])) := Lib.hid (own_ints w2 w.heap.size [] hs2 (by simp))
      have G3 := Lib.hid (G2.out.alloc (.cells (ivs []).toArray 3))
      have Q3 := Lib.hid (grown_alloc Q2.out (.cells (ivs []).toArray 3))
      go_wp2
      go_loopw [6, 7] (fun v x7 wr => ∃ (j i5 : Nat) (h5 : Int) (p : List Int), j ≤ 16 ∧ p.length = j ∧ (∀ t, t < j → -(M : Int) ≤ p.getD t 0 ∧ p.getD t 0 ≤ (M : Int)) ∧ i5 ≤ zs.length ∧ wr.ownsRow w.heap.size 3 1 v j (ivs p) ∧ Cursor wr g A cap zs i5 h5 ∧ w.grownBy wr (some g))
        (fun v _ _ => 16 - lenOf v)
      case atStart => exact ⟨0, i2, h2, [], Nat.zero_le _, rfl, fun t ht => absurd ht (by omega), l2, O0.out, G3.out, Q3.out⟩
      case round =>
        obtain ⟨j, i5, h5, p, hj, hpl, hpr, l5, hown, hC5, hg5⟩ := hrel
        obtain ⟨Av, cv, rfl⟩ := own_form2 hown
        have HPL := Lib.hid hpl; have HPR := Lib.hid hpr
        have G5 := Lib.hid hC5; have Q5 := Lib.hid hg5; have O5 := Lib.hid hown
        clear hpl hpr hC5 hg5 hown
        by_cases hlt : j < 16
        · have d1 : decide ((j : Int) < 16) = true := by simp; omega
          obtain ⟨b, i6, h6, l6, C6⟩ := once_det A cap zs i5 h5 l5 2
          have HC6 := Lib.hid C6; clear C6
          go_wp2_with fail
          refine (HC6.out _ _ G5.out).mono ?_
          rintro e w6 ⟨rfl, hC6, hg6⟩
          have G6 := Lib.hid hC6
          have Q6 := Lib.hid (Q5.out.trans hg6)
          have O6 := World.ownsRow.kept O5.out hg6 (own_far O5.out hgw)
          have hs6 : w.heap.size ≤ w6.heap.size := Q6.out.size
          clear hC6 hg6
          cases b with
          | false =>
            go_wp2_with (at_builtin; refine append_int w6 rfl (.tmp 29) (.tmp 31) 22 rfl w.heap.size 3 i0 Try.underlying22 hii hz0 hz1 hz2 _ _ _ rfl O6 _ rfl rfl (by omega) hs6 ?_; intro v' w' hown' hgr hvb)
            have hgr : World.grownBy w6 w' (Value.slice Av j cv).ownBlock := hgr
            have G7 := Lib.hid (G6.out.grown hgr (fun k hk => by have := (O6.lt k hk).1; omega))
            have Q7 := Lib.hid (grown_own Q6.out hgr fun k hk => (O6.lt k hk).1)
            have O7 := Lib.hid hown'
            obtain ⟨Av2, cv2, hv2⟩ := own_form2 hown'
            clear hvb hown' hgr O6
            subst hv2
            go_roundw
            case rel => exact ⟨j + 1, i6, h6, p ++ [0], by omega, by rw [List.length_append, HPL.out]; rfl, snoc_range HPL.out HPR.out (by omega) (by omega), l6, O7.out, G7.out, Q7.out⟩
            case measure => simp [lenOf]; omega
          | true =>
            obtain ⟨x, i8, h8, x0, x9, _, l8, C8⟩ := below_det A cap zs i6 h6 l6 (2 * (M : Int) + 1)
            have x9 := x9 (by omega)
            have HC8 := Lib.hid C8; clear C8
            go_wp2_with fail
            refine (HC8.out _ _ G6.out).mono ?_
            rintro e w8 ⟨rfl, hC8, hg8⟩
            have G8 := Lib.hid hC8
            have Q8 := Lib.hid (Q6.out.trans hg8)
            have O8 := World.ownsRow.kept O6 hg8 (own_far O6 hgw)
            have hs8 : w.heap.size ≤ w8.heap.size := Q8.out.size
            clear hC8 hg8 O6
            go_wp2_with (at_builtin; refine append_int w8 rfl (.tmp 29) (.tmp 31) 22 rfl w.heap.size 3 i0 Try.underlying22 hii hz0 hz1 hz2 _ _ _ rfl O8 _ rfl rfl (by omega) hs8 ?_; intro v' w' hown' hgr hvb)
            have hgr : World.grownBy w8 w' (Value.slice Av j cv).ownBlock := hgr
            have G7 := Lib.hid (G8.out.grown hgr (fun k hk => by have := (O8.lt k hk).1; omega))
            have Q7 := Lib.hid (grown_own Q8.out hgr fun k hk => (O8.lt k hk).1)
            have O7 := Lib.hid hown'
            obtain ⟨Av2, cv2, hv2⟩ := own_form2 hown'
            clear hvb hown' hgr O8
            subst hv2
            go_roundw
            case rel => exact ⟨j + 1, i8, h8, p ++ [x - (M : Int)], by omega, by rw [List.length_append, HPL.out]; rfl, snoc_range HPL.out HPR.out (by omega) (by omega), l8, O7.out, G7.out, Q7.out⟩
            case measure => simp [lenOf]; omega
        · obtain rfl : j = 16 := by omega
          obtain ⟨A3, c3, hv3, ho3⟩ := own_slice O5.out
          have O3 := Lib.hid ho3
          rw [HPL.out] at hv3
          obtain ⟨rfl, -, rfl⟩ := Value.slice.inj hv3
          clear ho3 hv3
          go_wp2
          go_ret
          exact ⟨p, _, _, i5, h5, congrArg Ending.returned (congrArg (fun n => Value.slice _ n _) HPL.out.symm), by rw [HPL.out]; omega, by rw [HPL.out]; exact HPR.out, O3.out, l5, G5.out, Q5.out⟩
    | true =>
      go_enter Try.func53, Try.ntmps53
      go_wp2_with fail
      refine (HC1.out _ _ HC.out).mono ?_
      rintro e w1 ⟨rfl, hC1, hg1⟩
      have G1 := Lib.hid hC1; have Q1 := Lib.hid hg1; clear hC1 hg1
      go_wp2_with fail
      refine (HC2.out _ _ G1.out).mono ?_
      rintro e w2 ⟨rfl, hC2, hg2⟩
      have G2 := Lib.hid hC2; have Q2 := Lib.hid (Q1.out.trans hg2); clear hC2 hg2
      have hs2 : w.heap.size ≤ w2.heap.size := Q2.out.size
      have O0 : Hid ((w2.alloc (.cells (ivs []).toArray 3)).ownsRow w.heap.size 3 1 (.slice (some ⟨w2.heap.size, 0, none⟩) 0 0) 0 (ivs [])) := Lib.hid (own_ints w2 w.heap.size [] hs2 (by simp))
      have G3 := Lib.hid (G2.out.alloc (.cells (ivs []).toArray 3))
      have Q3 := Lib.hid (grown_alloc Q2.out (.cells (ivs []).toArray 3))
      go_wp2
      go_loopw [6, 7] (fun v x7 wr => ∃ (j i5 : Nat) (h5 : Int) (p : List Int), j ≤ 64 ∧ p.length = j ∧ (∀ t, t < j → -(M : Int) ≤ p.getD t 0 ∧ p.getD t 0 ≤ (M : Int)) ∧ i5 ≤ zs.length ∧ wr.ownsRow w.heap.size 3 1 v j (ivs p) ∧ Cursor wr g A cap zs i5 h5 ∧ w.grownBy wr (some g))
        (fun v _ _ => 64 - lenOf v)
      case atStart => exact ⟨0, i2, h2, [], Nat.zero_le _, rfl, fun t ht => absurd ht (by omega), l2, O0.out, G3.out, Q3.out⟩
      case round =>
        obtain ⟨j, i5, h5, p, hj, hpl, hpr, l5, hown, hC5, hg5⟩ := hrel
        obtain ⟨Av, cv, rfl⟩ := own_form2 hown
        have HPL := Lib.hid hpl; have HPR := Lib.hid hpr
        have G5 := Lib.hid hC5; have Q5 := Lib.hid hg5; have O5 := Lib.hid hown
        clear hpl hpr hC5 hg5 hown
        by_cases hlt : j < 64
        · have d1 : decide ((j : Int) < 64) = true := by simp; omega
          obtain ⟨b, i6, h6, l6, C6⟩ := once_det A cap zs i5 h5 l5 2
          have HC6 := Lib.hid C6; clear C6
          go_wp2_with fail
          refine (HC6.out _ _ G5.out).mono ?_
          rintro e w6 ⟨rfl, hC6, hg6⟩
          have G6 := Lib.hid hC6
          have Q6 := Lib.hid (Q5.out.trans hg6)
          have O6 := World.ownsRow.kept O5.out hg6 (own_far O5.out hgw)
          have hs6 : w.heap.size ≤ w6.heap.size := Q6.out.size
          clear hC6 hg6
          cases b with
          | false =>
            go_wp2_with (at_builtin; refine append_int w6 rfl (.tmp 29) (.tmp 31) 22 rfl w.heap.size 3 i0 Try.underlying22 hii hz0 hz1 hz2 _ _ _ rfl O6 _ rfl rfl (by omega) hs6 ?_; intro v' w' hown' hgr hvb)
            have hgr : World.grownBy w6 w' (Value.slice Av j cv).ownBlock := hgr
            have G7 := Lib.hid (G6.out.grown hgr (fun k hk => by have := (O6.lt k hk).1; omega))
            have Q7 := Lib.hid (grown_own Q6.out hgr fun k hk => (O6.lt k hk).1)
            have O7 := Lib.hid hown'
            obtain ⟨Av2, cv2, hv2⟩ := own_form2 hown'
            clear hvb hown' hgr O6
            subst hv2
            go_roundw
            case rel => exact ⟨j + 1, i6, h6, p ++ [0], by omega, by rw [List.length_append, HPL.out]; rfl, snoc_range HPL.out HPR.out (by omega) (by omega), l6, O7.out, G7.out, Q7.out⟩
            case measure => simp [lenOf]; omega
          | true =>
            obtain ⟨x, i8, h8, x0, x9, _, l8, C8⟩ := below_det A cap zs i6 h6 l6 (2 * (M : Int) + 1)
            have x9 := x9 (by omega)
            have HC8 := Lib.hid C8; clear C8
            go_wp2_with fail
            refine (HC8.out _ _ G6.out).mono ?_
            rintro e w8 ⟨rfl, hC8, hg8⟩
            have G8 := Lib.hid hC8
            have Q8 := Lib.hid (Q6.out.trans hg8)
            have O8 := World.ownsRow.kept O6 hg8 (own_far O6 hgw)
            have hs8 : w.heap.size ≤ w8.heap.size := Q8.out.size
            clear hC8 hg8 O6
            go_wp2_with (at_builtin; refine append_int w8 rfl (.tmp 29) (.tmp 31) 22 rfl w.heap.size 3 i0 Try.underlying22 hii hz0 hz1 hz2 _ _ _ rfl O8 _ rfl rfl (by omega) hs8 ?_; intro v' w' hown' hgr hvb)
            have hgr : World.grownBy w8 w' (Value.slice Av j cv).ownBlock := hgr
            have G7 := Lib.hid (G8.out.grown hgr (fun k hk => by have := (O8.lt k hk).1; omega))
            have Q7 := Lib.hid (grown_own Q8.out hgr fun k hk => (O8.lt k hk).1)
            have O7 := Lib.hid hown'
            obtain ⟨Av2, cv2, hv2⟩ := own_form2 hown'
            clear hvb hown' hgr O8
            subst hv2
            go_roundw
            case rel => exact ⟨j + 1, i8, h8, p ++ [x - (M : Int)], by omega, by rw [List.length_append, HPL.out]; rfl, snoc_range HPL.out HPR.out (by omega) (by omega), l8, O7.out, G7.out, Q7.out⟩
            case measure => simp [lenOf]; omega
        · obtain rfl : j = 64 := by omega
          obtain ⟨A3, c3, hv3, ho3⟩ := own_slice O5.out
          have O3 := Lib.hid ho3
          rw [HPL.out] at hv3
          obtain ⟨rfl, -, rfl⟩ := Value.slice.inj hv3
          clear ho3 hv3
          go_wp2
          go_ret
          exact ⟨p, _, _, i5, h5, congrArg Ending.returned (congrArg (fun n => Value.slice _ n _) HPL.out.symm), by rw [HPL.out]; omega, by rw [HPL.out]; exact HPR.out, O3.out, l5, G5.out, Q5.out⟩
  | true =>
    cases b1 with
    | false =>
      go_enter Try.func53, Try.ntmps53
      go_wp2_with fail
      refine (HC1.out _ _ HC.out).mono ?_
      rintro e w1 ⟨rfl, hC1, hg1⟩
      have G1 := Lib.hid hC1; have Q1 := Lib.hid hg1; clear hC1 hg1
      go_wp2_with fail
      refine (HC2.out _ _ G1.out).mono ?_
      rintro e w2 ⟨rfl, hC2, hg2⟩
      have G2 := Lib.hid hC2; have Q2 := Lib.hid (Q1.out.trans hg2); clear hC2 hg2
      have G2a := Lib.hid (G2.out.alloc (.cells #[.int .i64 0, .int .i64 15, .int .i64 63] 3))
      have Q2a := Lib.hid (grown_alloc Q2.out (.cells #[.int .i64 0, .int .i64 15, .int .i64 63] 3))
      have hne : w2.heap.size ≠ g := by have := G2.out.lt; omega
      go_wp2_with fail
      refine (HC3.out _ _ w2.heap.size G2a.out (heap_alloc_new w2 _) hne).mono ?_
      rintro e w3 ⟨rfl, hC3, hg3⟩
      have G3 := Lib.hid hC3; have Q3 := Lib.hid (Q2a.out.trans hg3); clear hC3 hg3
      have hs3 : w.heap.size ≤ w3.heap.size := Q3.out.size
      obtain ⟨N, hN, hN2⟩ : ∃ N : Nat, [0, 15, (63 : Int)].getD p 0 = (N : Int) ∧ (N = 0 ∨ N = 15 ∨ N = 63) := by
        have := HP2.out
        rcases (show p = 0 ∨ p = 1 ∨ p = 2 by simp at this; omega) with rfl | rfl | rfl
        · exact ⟨0, rfl, by omega⟩
        · exact ⟨15, rfl, by omega⟩
        · exact ⟨63, rfl, by omega⟩
      rw [hN]
      clear hN
      have O0 : Hid ((w3.alloc (.cells (ivs []).toArray 3)).ownsRow w.heap.size 3 1 (.slice (some ⟨w3.heap.size, 0, none⟩) 0 0) 0 (ivs [])) := Lib.hid (own_ints w3 w.heap.size [] hs3 (by simp))
      have G4 := Lib.hid (G3.out.alloc (.cells (ivs []).toArray 3))
      have Q4 := Lib.hid (grown_alloc Q3.out (.cells (ivs []).toArray 3))
      go_wp2
      go_loopw [6, 7] (fun v x7 wr => ∃ (j i5 : Nat) (h5 : Int) (p : List Int), j ≤ N ∧ p.length = j ∧ (∀ t, t < j → -(M : Int) ≤ p.getD t 0 ∧ p.getD t 0 ≤ (M : Int)) ∧ i5 ≤ zs.length ∧ wr.ownsRow w.heap.size 3 1 v j (ivs p) ∧ Cursor wr g A cap zs i5 h5 ∧ w.grownBy wr (some g))
        (fun v _ _ => N - lenOf v)
      case atStart => exact ⟨0, i3, h3, [], Nat.zero_le _, rfl, fun t ht => absurd ht (by omega), l3, O0.out, G4.out, Q4.out⟩
      case round =>
        obtain ⟨j, i5, h5, p, hj, hpl, hpr, l5, hown, hC5, hg5⟩ := hrel
        obtain ⟨Av, cv, rfl⟩ := own_form2 hown
        have HPL := Lib.hid hpl; have HPR := Lib.hid hpr
        have G5 := Lib.hid hC5; have Q5 := Lib.hid hg5; have O5 := Lib.hid hown
        clear hpl hpr hC5 hg5 hown
        by_cases hlt : j < N
        · have d1 : decide ((j : Int) < (N : Int)) = true := by simp; omega
          obtain ⟨b, i6, h6, l6, C6⟩ := once_det A cap zs i5 h5 l5 2
          have HC6 := Lib.hid C6; clear C6
          go_wp2_with fail
          refine (HC6.out _ _ G5.out).mono ?_
          rintro e w6 ⟨rfl, hC6, hg6⟩
          have G6 := Lib.hid hC6
          have Q6 := Lib.hid (Q5.out.trans hg6)
          have O6 := World.ownsRow.kept O5.out hg6 (own_far O5.out hgw)
          have hs6 : w.heap.size ≤ w6.heap.size := Q6.out.size
          clear hC6 hg6
          cases b with
          | false =>
            go_wp2_with (at_builtin; refine append_int w6 rfl (.tmp 29) (.tmp 31) 22 rfl w.heap.size 3 i0 Try.underlying22 hii hz0 hz1 hz2 _ _ _ rfl O6 _ rfl rfl (by omega) hs6 ?_; intro v' w' hown' hgr hvb)
            have hgr : World.grownBy w6 w' (Value.slice Av j cv).ownBlock := hgr
            have G7 := Lib.hid (G6.out.grown hgr (fun k hk => by have := (O6.lt k hk).1; omega))
            have Q7 := Lib.hid (grown_own Q6.out hgr fun k hk => (O6.lt k hk).1)
            have O7 := Lib.hid hown'
            obtain ⟨Av2, cv2, hv2⟩ := own_form2 hown'
            clear hvb hown' hgr O6
            subst hv2
            go_roundw
            case rel => exact ⟨j + 1, i6, h6, p ++ [0], by omega, by rw [List.length_append, HPL.out]; rfl, snoc_range HPL.out HPR.out (by omega) (by omega), l6, O7.out, G7.out, Q7.out⟩
            case measure => simp [lenOf]; omega
          | true =>
            obtain ⟨x, i8, h8, x0, x9, _, l8, C8⟩ := below_det A cap zs i6 h6 l6 (2 * (M : Int) + 1)
            have x9 := x9 (by omega)
            have HC8 := Lib.hid C8; clear C8
            go_wp2_with fail
            refine (HC8.out _ _ G6.out).mono ?_
            rintro e w8 ⟨rfl, hC8, hg8⟩
            have G8 := Lib.hid hC8
            have Q8 := Lib.hid (Q6.out.trans hg8)
            have O8 := World.ownsRow.kept O6 hg8 (own_far O6 hgw)
            have hs8 : w.heap.size ≤ w8.heap.size := Q8.out.size
            clear hC8 hg8 O6
            go_wp2_with (at_builtin; refine append_int w8 rfl (.tmp 29) (.tmp 31) 22 rfl w.heap.size 3 i0 Try.underlying22 hii hz0 hz1 hz2 _ _ _ rfl O8 _ rfl rfl (by omega) hs8 ?_; intro v' w' hown' hgr hvb)
            have hgr : World.grownBy w8 w' (Value.slice Av j cv).ownBlock := hgr
            have G7 := Lib.hid (G8.out.grown hgr (fun k hk => by have := (O8.lt k hk).1; omega))
            have Q7 := Lib.hid (grown_own Q8.out hgr fun k hk => (O8.lt k hk).1)
            have O7 := Lib.hid hown'
            obtain ⟨Av2, cv2, hv2⟩ := own_form2 hown'
            clear hvb hown' hgr O8
            subst hv2
            go_roundw
            case rel => exact ⟨j + 1, i8, h8, p ++ [x - (M : Int)], by omega, by rw [List.length_append, HPL.out]; rfl, snoc_range HPL.out HPR.out (by omega) (by omega), l8, O7.out, G7.out, Q7.out⟩
            case measure => simp [lenOf]; omega
        · obtain rfl : j = N := by omega
          obtain ⟨A3, c3, hv3, ho3⟩ := own_slice O5.out
          have O3 := Lib.hid ho3
          rw [HPL.out] at hv3
          obtain ⟨rfl, -, rfl⟩ := Value.slice.inj hv3
          clear ho3 hv3
          go_wp2
          go_ret
          exact ⟨p, _, _, i5, h5, congrArg Ending.returned (congrArg (fun n => Value.slice _ n _) HPL.out.symm), by rw [HPL.out]; omega, by rw [HPL.out]; exact HPR.out, O3.out, l5, G5.out, Q5.out⟩
    | true =>
      go_enter Try.func53, Try.ntmps53
      go_wp2_with fail
      refine (HC1.out _ _ HC.out).mono ?_
      rintro e w1 ⟨rfl, hC1, hg1⟩
      have G1 := Lib.hid hC1; have Q1 := Lib.hid hg1; clear hC1 hg1
      go_wp2_with fail
      refine (HC2.out _ _ G1.out).mono ?_
      rintro e w2 ⟨rfl, hC2, hg2⟩
      have G2 := Lib.hid hC2; have Q2 := Lib.hid (Q1.out.trans hg2); clear hC2 hg2
      have G2a := Lib.hid (G2.out.alloc (.cells #[.int .i64 0, .int .i64 15, .int .i64 63] 3))
      have Q2a := Lib.hid (grown_alloc Q2.out (.cells #[.int .i64 0, .int .i64 15, .int .i64 63] 3))
      have hne : w2.heap.size ≠ g := by have := G2.out.lt; omega
      go_wp2_with fail
      refine (HC3.out _ _ w2.heap.size G2a.out (heap_alloc_new w2 _) hne).mono ?_
      rintro e w3 ⟨rfl, hC3, hg3⟩
      have G3 := Lib.hid hC3; have Q3 := Lib.hid (Q2a.out.trans hg3); clear hC3 hg3
      have hs3 : w.heap.size ≤ w3.heap.size := Q3.out.size
      obtain ⟨N, hN, hN2⟩ : ∃ N : Nat, [0, 15, (63 : Int)].getD p 0 = (N : Int) ∧ (N = 0 ∨ N = 15 ∨ N = 63) := by
        have := HP2.out
        rcases (show p = 0 ∨ p = 1 ∨ p = 2 by simp at this; omega) with rfl | rfl | rfl
        · exact ⟨0, rfl, by omega⟩
        · exact ⟨15, rfl, by omega⟩
        · exact ⟨63, rfl, by omega⟩
      rw [hN]
      clear hN
      have O0 : Hid ((w3.alloc (.cells (ivs []).toArray 3)).ownsRow w.heap.size 3 1 (.slice (some ⟨w3.heap.size, 0, none⟩) 0 0) 0 (ivs [])) := Lib.hid (own_ints w3 w.heap.size [] hs3 (by simp))
      have G4 := Lib.hid (G3.out.alloc (.cells (ivs []).toArray 3))
      have Q4 := Lib.hid (grown_alloc Q3.out (.cells (ivs []).toArray 3))
      go_wp2
      go_loopw [6, 7] (fun v x7 wr => ∃ (j i5 : Nat) (h5 : Int) (p : List Int), j ≤ N ∧ p.length = j ∧ (∀ t, t < j → -(M : Int) ≤ p.getD t 0 ∧ p.getD t 0 ≤ (M : Int)) ∧ i5 ≤ zs.length ∧ wr.ownsRow w.heap.size 3 1 v j (ivs p) ∧ Cursor wr g A cap zs i5 h5 ∧ w.grownBy wr (some g))
        (fun v _ _ => N - lenOf v)
      case atStart => exact ⟨0, i3, h3, [], Nat.zero_le _, rfl, fun t ht => absurd ht (by omega), l3, O0.out, G4.out, Q4.out⟩
      case round =>
        obtain ⟨j, i5, h5, p, hj, hpl, hpr, l5, hown, hC5, hg5⟩ := hrel
        obtain ⟨Av, cv, rfl⟩ := own_form2 hown
        have HPL := Lib.hid hpl; have HPR := Lib.hid hpr
        have G5 := Lib.hid hC5; have Q5 := Lib.hid hg5; have O5 := Lib.hid hown
        clear hpl hpr hC5 hg5 hown
        by_cases hlt : j < N
        · have d1 : decide ((j : Int) < (N : Int)) = true := by simp; omega
          obtain ⟨b, i6, h6, l6, C6⟩ := once_det A cap zs i5 h5 l5 2
          have HC6 := Lib.hid C6; clear C6
          go_wp2_with fail
          refine (HC6.out _ _ G5.out).mono ?_
          rintro e w6 ⟨rfl, hC6, hg6⟩
          have G6 := Lib.hid hC6
          have Q6 := Lib.hid (Q5.out.trans hg6)
          have O6 := World.ownsRow.kept O5.out hg6 (own_far O5.out hgw)
          have hs6 : w.heap.size ≤ w6.heap.size := Q6.out.size
          clear hC6 hg6
          cases b with
          | false =>
            go_wp2_with (at_builtin; refine append_int w6 rfl (.tmp 29) (.tmp 31) 22 rfl w.heap.size 3 i0 Try.underlying22 hii hz0 hz1 hz2 _ _ _ rfl O6 _ rfl rfl (by omega) hs6 ?_; intro v' w' hown' hgr hvb)
            have hgr : World.grownBy w6 w' (Value.slice Av j cv).ownBlock := hgr
            have G7 := Lib.hid (G6.out.grown hgr (fun k hk => by have := (O6.lt k hk).1; omega))
            have Q7 := Lib.hid (grown_own Q6.out hgr fun k hk => (O6.lt k hk).1)
            have O7 := Lib.hid hown'
            obtain ⟨Av2, cv2, hv2⟩ := own_form2 hown'
            clear hvb hown' hgr O6
            subst hv2
            go_roundw
            case rel => exact ⟨j + 1, i6, h6, p ++ [0], by omega, by rw [List.length_append, HPL.out]; rfl, snoc_range HPL.out HPR.out (by omega) (by omega), l6, O7.out, G7.out, Q7.out⟩
            case measure => simp [lenOf]; omega
          | true =>
            obtain ⟨x, i8, h8, x0, x9, _, l8, C8⟩ := below_det A cap zs i6 h6 l6 (2 * (M : Int) + 1)
            have x9 := x9 (by omega)
            have HC8 := Lib.hid C8; clear C8
            go_wp2_with fail
            refine (HC8.out _ _ G6.out).mono ?_
            rintro e w8 ⟨rfl, hC8, hg8⟩
            have G8 := Lib.hid hC8
            have Q8 := Lib.hid (Q6.out.trans hg8)
            have O8 := World.ownsRow.kept O6 hg8 (own_far O6 hgw)
            have hs8 : w.heap.size ≤ w8.heap.size := Q8.out.size
            clear hC8 hg8 O6
            go_wp2_with (at_builtin; refine append_int w8 rfl (.tmp 29) (.tmp 31) 22 rfl w.heap.size 3 i0 Try.underlying22 hii hz0 hz1 hz2 _ _ _ rfl O8 _ rfl rfl (by omega) hs8 ?_; intro v' w' hown' hgr hvb)
            have hgr : World.grownBy w8 w' (Value.slice Av j cv).ownBlock := hgr
            have G7 := Lib.hid (G8.out.grown hgr (fun k hk => by have := (O8.lt k hk).1; omega))
            have Q7 := Lib.hid (grown_own Q8.out hgr fun k hk => (O8.lt k hk).1)
            have O7 := Lib.hid hown'
            obtain ⟨Av2, cv2, hv2⟩ := own_form2 hown'
            clear hvb hown' hgr O8
            subst hv2
            go_roundw
            case rel => exact ⟨j + 1, i8, h8, p ++ [x - (M : Int)], by omega, by rw [List.length_append, HPL.out]; rfl, snoc_range HPL.out HPR.out (by omega) (by omega), l8, O7.out, G7.out, Q7.out⟩
            case measure => simp [lenOf]; omega
        · obtain rfl : j = N := by omega
          obtain ⟨A3, c3, hv3, ho3⟩ := own_slice O5.out
          have O3 := Lib.hid ho3
          rw [HPL.out] at hv3
          obtain ⟨rfl, -, rfl⟩ := Value.slice.inj hv3
          clear ho3 hv3
          go_wp2
          go_ret
          exact ⟨p, _, _, i5, h5, congrArg Ending.returned (congrArg (fun n => Value.slice _ n _) HPL.out.symm), by rw [HPL.out]; omega, by rw [HPL.out]; exact HPR.out, O3.out, l5, G5.out, Q5.out⟩


end Go.Proofs.Ytcmijednpnabmaa
