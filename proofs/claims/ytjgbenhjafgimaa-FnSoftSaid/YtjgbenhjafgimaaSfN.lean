/-
  The walk of the law FnSoft. No condition.
-/
import Derived.Test.YtjgbenhjafgimaaPdD
import Derived.Test.YtjgbenhjafgimaaFpL
import Derived.Test.YtjgbenhjafgimaaK7
import Derived.RegionTactic
import Derived.BigRegion
import Derived.BigQuiet
import Derived.Deep.QuietTactic
import Derived.Deep.Cut
import Derived.Deep.DeepCutAuto
import Derived.Deep.RegionHeld3
namespace Go.Proofs.Ytjgbenhjafgimaa
open Go.RowKit
set_option linter.unusedVariables false

/-- The least and the greatest of three, limited, in the forms that the walk meets. -/
theorem lo_facts (x y z : Int) : ∃ a b c d : Int, (min y z = a ∧ (if y < z then y else z) = a ∧ (if z < y then z else y) = a) ∧ (min x a = b ∧ (if x < a then x else a) = b ∧ (if a < x then a else x) = b) ∧ (min 255 b = c ∧ (if 255 < b then 255 else b) = c ∧ (if b < 255 then b else 255) = c) ∧ (max 0 c = d ∧ (if (0 : Int) < c then c else 0) = d ∧ (if c < (0 : Int) then 0 else c) = d) ∧ d ≤ softV (clipV x) (clipV y) (clipV z) := by
  refine ⟨min y z, min x (min y z), min 255 (min x (min y z)), max 0 (min 255 (min x (min y z))), ⟨rfl, ?_, ?_⟩, ⟨rfl, ?_, ?_⟩, ⟨rfl, ?_, ?_⟩, ⟨rfl, ?_, ?_⟩, ?_⟩
  all_goals first | (split <;> omega) | (unfold softV clipV; omega)
theorem hi_facts (x y z : Int) : ∃ a b c d : Int, (max y z = a ∧ (if y < z then z else y) = a ∧ (if z < y then y else z) = a) ∧ (max x a = b ∧ (if x < a then a else x) = b ∧ (if a < x then x else a) = b) ∧ (min 255 b = c ∧ (if 255 < b then 255 else b) = c ∧ (if b < 255 then b else 255) = c) ∧ (max 0 c = d ∧ (if (0 : Int) < c then c else 0) = d ∧ (if c < (0 : Int) then 0 else c) = d) ∧ softV (clipV x) (clipV y) (clipV z) ≤ d := by
  refine ⟨max y z, max x (max y z), min 255 (max x (max y z)), max 0 (min 255 (max x (max y z))), ⟨rfl, ?_, ?_⟩, ⟨rfl, ?_, ?_⟩, ⟨rfl, ?_, ?_⟩, ⟨rfl, ?_, ?_⟩, ?_⟩
  all_goals first | (split <;> omega) | (unfold softV clipV; omega)

set_option maxRecDepth 100000 in
set_option maxHeartbeats 8000000 in
/-- The law's own walk. -/
theorem fnSoft_walk (a : Option Addr) (len cap : Nat) (zs : List Int) (w : World) (hr : IsRow .u8 w a len cap zs) :
    Calls Try.prog 5 #[.slice a len cap] w fun e w' => e = .returned (.bool true) ∧ Below w.heap.size w w' := by
  obtain ⟨i0, hii, hz0, hz1, hz2⟩ := info_parts Try.iinfo
  have hlm := hr.len_le
  unfold maxLen at hlm
  by_cases hbig : 1048576 < len
  · have BG := Lib.hid (big_any a len cap (by omega))
    have hb : decide (1048576 < (len : Int)) = true := decide_eq_true (by omega)
    rw [hb] at BG
    clear hr hlm hbig hb
    go_enter Try.func5, Try.ntmps5
    go_wp2_with fail
    refine (BG.out _).mono ?_
    rintro e w1 ⟨rfl, hw⟩
    subst hw
    go_wp2
    go_ret
    exact ⟨rfl, Below.refl _ _⟩
  · have hbigF : decide (1048576 < (len : Int)) = false := decide_eq_false (by omega)
    obtain ⟨ys, rfl, hW⟩ := code_of hr (by omega)
    have BG := Lib.hid (big_any a ys.length cap hlm)
    rw [hbigF] at BG
    have HW := Lib.hid hW
    have DS := Lib.hid (drawsoftened_ex a cap ys w hW)
    have DR := Lib.hid fun w hW => drawsloperow_ex a cap ys w hW
    have SI := Lib.hid @sameints_any; have SO := Lib.hid impl_softened_any; have SS := Lib.hid spec_softened_any
    have IR := Lib.hid impl_sloperow_any; have SR := Lib.hid spec_sloperow_any
    clear hr hbig hbigF hlm hW
    go_enter Try.func5, Try.ntmps5
    go_wp2_with fail
    refine (BG.out _).mono ?_
    rintro e w1 ⟨rfl, hw⟩
    subst hw
    go_wp2_with fail
    refine DS.out.mono ?_
    rintro e w2 ⟨l, A1, c1, rfl, hl11, hI, hb⟩
    have BB := Lib.hid hb; have IL := Lib.hid hI; have HL := Lib.hid hl11
    have SOX := Lib.hid fun w h => SO.out A1 c1 l (by omega) w h
    have SSX := Lib.hid fun w h => SS.out A1 c1 l (by omega) w h
    have HAT : Hid (∀ i, i < l.length - 2 → (soL l).getD i 0 = softV (clipV (l.getD i 0)) (clipV (l.getD (i + 1) 0)) (clipV (l.getD (i + 2) 0))) := Lib.hid fun i h => soL_at l h
    have hxl := soL_len l
    have SIX : Hid (∀ A B ca cb w, Ints w w.heap.size A (soL l) → Ints w w.heap.size B (soL l) → Calls Try.prog 13 #[.slice A (soL l).length ca, .slice B (soL l).length cb] w fun e w' => e = .returned (.bool true) ∧ Below w.heap.size w w') := Lib.hid fun A B ca cb w h1 h2 => by
      have := SI.out A B ca cb (soL l) (soL l) w h1 h2
      simpa using this
    obtain ⟨X, hX⟩ : ∃ X, X = soL l := ⟨_, rfl⟩
    rw [← hX] at SOX SSX HAT hxl SIX
    obtain ⟨n, hn⟩ : ∃ n, n = l.length := ⟨_, rfl⟩
    rw [← hn] at SOX SSX HAT hxl hl11 ⊢
    obtain ⟨N, hN⟩ : ∃ N, N = X.length := ⟨_, rfl⟩
    rw [← hN] at SOX SSX SIX hxl
    have HXL := Lib.hid hN; have HNL := Lib.hid hn
    have HXN := Lib.hid hxl
    clear hI hb hX hn hN DS hxl
    go_wp2_with fail
    refine (SOX.out _ IL.out).mono ?_
    rintro e w3 ⟨A2, c2, rfl, ho, hb⟩
    have IX := Lib.hid (ho.ints (by rw [← HXL.out, HXN.out]; omega))
    have IL := Lib.hid ((IL.out.below hb (Nat.le_refl _)).mono hb.size)
    have BB := Lib.hid (below_up BB.out hb BB.out.size)
    clear ho hb
    go_wp2
    go_loopw [5, 6, 7] (fun x5 x6 x7 wr => ∃ j : Nat, j ≤ N ∧ x5 = .int .i64 j ∧ Below w3.heap.size w3 wr) (fun x5 _ _ _ => N - (intOf x5).toNat)
    case atStart => exact ⟨0, Nat.zero_le _, rfl, Below.refl _ _⟩
    case round =>
      obtain ⟨j, hj, rfl, hbel⟩ := hrel
      have IXr := Lib.hid ((IX.out.below hbel (Nat.le_refl _)).mono hbel.size)
      have ILr := Lib.hid ((IL.out.below hbel (Nat.le_refl _)).mono hbel.size)
      by_cases hlt : j < N
      · have hxl := HXN.out
        have d1 : decide ((j : Int) < (N : Int)) = true := by simp; omega
        obtain ⟨b1, o1, rfl, hb1, hc1⟩ := IXr.out.at j (by rw [← HXL.out]; exact hlt)
        obtain ⟨b2, o2, rfl, hb2, hc2⟩ := ILr.out.at 0 (by rw [← HNL.out]; omega)
        have cu := hc1 j (by rw [← HXL.out]; exact hlt)
        have k0 := hc2 j (by rw [← HNL.out]; omega)
        have k1 := hc2 (j + 1) (by rw [← HNL.out]; omega)
        have k2 := hc2 (j + 1 + 1) (by rw [← HNL.out]; omega)
        have hu := HAT.out j (by omega)
        obtain ⟨x, hx⟩ : ∃ x, x = l.getD j 0 := ⟨_, rfl⟩
        obtain ⟨y, hy⟩ : ∃ x, x = l.getD (j + 1) 0 := ⟨_, rfl⟩
        obtain ⟨z, hz⟩ : ∃ x, x = l.getD (j + 1 + 1) 0 := ⟨_, rfl⟩
        rw [← hx, ← hy, show l.getD (j + 2) 0 = z from hz.symm] at hu
        rw [← hx] at k0
        rw [← hy] at k1
        rw [← hz] at k2
        have hp := softV_pix (clipV_pix x) (clipV_pix y) (clipV_pix z)
        obtain ⟨u, huu⟩ : ∃ u, u = X.getD j 0 := ⟨_, rfl⟩
        rw [← huu] at cu hu
        rw [← hu] at hp
        have e1 : decide (u < 0) = false := by simp; omega
        have e2 : decide ((255 : Int) < u) = false := by simp; omega
        have e5 : ((N : Int) != (n : Int) - 2) = false := by simp; omega
        have j0 : (0 : Int) ≤ (j : Int) := by omega
        have jN : (j : Int) < (N : Int) := by omega
        have j1 : (j : Int) < (n : Int) := by omega
        have j2 : (j : Int) + 1 < (n : Int) := by omega
        have j3 : (j : Int) + 2 < (n : Int) := by omega
        have hw1 : IntKind.i64.wrap ((j : Int) + 1) = (j : Int) + 1 := IntWalk.i64_in _ (by omega)
        have hw2 : IntKind.i64.wrap ((j : Int) + 2) = (j : Int) + 2 := IntWalk.i64_in _ (by omega)
        have hw3 : IntKind.i64.wrap ((n : Int) - 2) = (n : Int) - 2 := IntWalk.i64_in _ (by omega)
        have ht1 : ((j : Int) + 1).toNat = j + 1 := by omega
        have ht2 : ((j : Int) + 2).toNat = j + 1 + 1 := by omega
        have hp2 : (0 : Int) ≤ (j : Int) + 2 := by omega
        have hp1 : (0 : Int) ≤ (j : Int) + 1 := by omega
        have BR := Lib.hid hbel
        obtain ⟨la, lb, lc, ld, ⟨p1, p2, p3⟩, ⟨p4, p5, p6⟩, ⟨p7, p8, p9⟩, ⟨p10, p11, p12⟩, hlo⟩ := lo_facts x y z
        obtain ⟨ha, hb, hc, hd, ⟨r1, r2, r3⟩, ⟨r4, r5, r6⟩, ⟨r7, r8, r9⟩, ⟨r10, r11, r12⟩, hhi⟩ := hi_facts x y z
        rw [← hu] at hlo hhi
        have e3 : decide (u < ld) = false := decide_eq_false (Int.not_lt.2 hlo)
        have e4 : decide (hd < u) = false := decide_eq_false (Int.not_lt.2 hhi)
        clear hc1 hc2 hx hy hz hu huu hbel hp hlo hhi hxl
        go_wp2
        go_quiet (fail)
        go_wp2
        go_quiet (fail)
        go_wp2
        go_roundw
        case rel => exact ⟨j + 1, by omega, by go_num, below_drews BR.out _⟩
        case measure => simp [intOf]; omega
      · have d1 : decide ((j : Int) < (N : Int)) = false := by simp; omega
        have BB := Lib.hid (below_up BB.out hbel BB.out.size)
        have HWk := Lib.hid (HW.out.below BB.out)
        have hN11 : N ≤ 11 := by have := HXN.out; omega
        clear hbel
        go_wp2_with fail
        refine (DR.out _ HWk.out).mono ?_
        rintro e w5 ⟨t, l2, k, b1, b2, TA, LB, cA, cB, m, y, rfl, hm, hT, hL, hcA, hcB, hb⟩
        have IX5 := Lib.hid ((IXr.out.below hb (Nat.le_refl _)).mono hb.size); have IL5 := Lib.hid ((ILr.out.below hb (Nat.le_refl _)).mono hb.size)
        have BB := Lib.hid (below_up BB.out hb BB.out.size)
        have IT5 := Lib.hid hT; have IB5 := Lib.hid hL
        have IRX := Lib.hid fun w h1 h2 => IR.out TA cA LB cB t l2 k b1 b2 m y w h1 h2
        have SRX := Lib.hid fun w h1 h2 => SR.out TA cA LB cB t l2 k b1 b2 m y w h1 h2 hcA
        have HYL := Lib.hid (slL_len t l2 k m y)
        have SIY : Hid (∀ A B ca cb w, Ints w w.heap.size A (slL t l2 k m y) → Ints w w.heap.size B (slL t l2 k m y) → Calls Try.prog 13 #[.slice A (slL t l2 k m y).length ca, .slice B (slL t l2 k m y).length cb] w fun e w' => e = .returned (.bool true) ∧ Below w.heap.size w w') := Lib.hid fun A B ca cb w h1 h2 => by
          have := SI.out A B ca cb (slL t l2 k m y) (slL t l2 k m y) w h1 h2
          simpa using this
        obtain ⟨Y, hY⟩ : ∃ Y, Y = slL t l2 k m y := ⟨_, rfl⟩
        rw [← hY] at IRX SRX SIY HYL
        have hB6 := below_new w5 (.cells #[.slice TA t.length cA, .slice LB l2.length cB, .int .i64 k, .bool b1, .bool b2] 26)
        have BW := Lib.hid hB6
        have I6 : Hid (∀ (A : Option Addr) (xs : List Int), Ints w5 w5.heap.size A xs → ∀ wr, Below (w5.alloc (.cells #[.slice TA t.length cA, .slice LB l2.length cB, .int .i64 k, .bool b1, .bool b2] 26)).heap.size (w5.alloc (.cells #[.slice TA t.length cA, .slice LB l2.length cB, .int .i64 k, .bool b1, .bool b2] 26)) wr → Ints wr wr.heap.size A xs) := Lib.hid fun A xs h wr hb => by
          have h1 := (h.below hB6 (Nat.le_refl _)).mono hB6.size
          exact (h1.below hb (Nat.le_refl _)).mono hb.size
        have S0 : (w5.alloc (.cells #[.slice TA t.length cA, .slice LB l2.length cB, .int .i64 k, .bool b1, .bool b2] 26)).cell? ⟨w5.heap.size, 0, none⟩ = some (.slice TA t.length cA) ∧ (w5.alloc (.cells #[.slice TA t.length cA, .slice LB l2.length cB, .int .i64 k, .bool b1, .bool b2] 26)).cell? ⟨w5.heap.size, 1, none⟩ = some (.slice LB l2.length cB) ∧ (w5.alloc (.cells #[.slice TA t.length cA, .slice LB l2.length cB, .int .i64 k, .bool b1, .bool b2] 26)).cell? ⟨w5.heap.size, 2, none⟩ = some (.int .i64 k) ∧ (w5.alloc (.cells #[.slice TA t.length cA, .slice LB l2.length cB, .int .i64 k, .bool b1, .bool b2] 26)).cell? ⟨w5.heap.size, 3, none⟩ = some (.bool b1) ∧ (w5.alloc (.cells #[.slice TA t.length cA, .slice LB l2.length cB, .int .i64 k, .bool b1, .bool b2] 26)).cell? ⟨w5.heap.size, 4, none⟩ = some (.bool b2) ∧ Below (w5.alloc (.cells #[.slice TA t.length cA, .slice LB l2.length cB, .int .i64 k, .bool b1, .bool b2] 26)).heap.size (w5.alloc (.cells #[.slice TA t.length cA, .slice LB l2.length cB, .int .i64 k, .bool b1, .bool b2] 26)) (w5.alloc (.cells #[.slice TA t.length cA, .slice LB l2.length cB, .int .i64 k, .bool b1, .bool b2] 26)) ∧ (w5.alloc (.cells #[.slice TA t.length cA, .slice LB l2.length cB, .int .i64 k, .bool b1, .bool b2] 26)).heap.size ≤ (w5.alloc (.cells #[.slice TA t.length cA, .slice LB l2.length cB, .int .i64 k, .bool b1, .bool b2] 26)).heap.size := by
          obtain ⟨q0, q1, q2, q3, q4⟩ := cells5 (heap_alloc_new w5 (.cells #[.slice TA t.length cA, .slice LB l2.length cB, .int .i64 k, .bool b1, .bool b2] 26))
          exact ⟨q0, q1, q2, q3, q4, Below.refl _ _, Nat.le_refl _⟩
        have S1 := heldx5_drew S0
        have BBX : Hid (∀ wr, Below (w5.alloc (.cells #[.slice TA t.length cA, .slice LB l2.length cB, .int .i64 k, .bool b1, .bool b2] 26)).heap.size (w5.alloc (.cells #[.slice TA t.length cA, .slice LB l2.length cB, .int .i64 k, .bool b1, .bool b2] 26)) wr → Below w.heap.size w wr) := Lib.hid fun wr hb => BB.out.trans ((hB6.trans (hb.mono hB6.size)).mono BB.out.size)
        clear hb hT hL hm hY hB6 IXr ILr
        go_wp2_with fail
        go_region_held3 (fun w' => w'.cell? ⟨w5.heap.size, 0, none⟩ = some (.slice TA t.length cA) ∧ w'.cell? ⟨w5.heap.size, 1, none⟩ = some (.slice LB l2.length cB) ∧ w'.cell? ⟨w5.heap.size, 2, none⟩ = some (.int .i64 k) ∧ w'.cell? ⟨w5.heap.size, 3, none⟩ = some (.bool b1) ∧ w'.cell? ⟨w5.heap.size, 4, none⟩ = some (.bool b2) ∧ Below (w5.alloc (.cells #[.slice TA t.length cA, .slice LB l2.length cB, .int .i64 k, .bool b1, .bool b2] 26)).heap.size (w5.alloc (.cells #[.slice TA t.length cA, .slice LB l2.length cB, .int .i64 k, .bool b1, .bool b2] 26)) w' ∧ (w5.alloc (.cells #[.slice TA t.length cA, .slice LB l2.length cB, .int .i64 k, .bool b1, .bool b2] 26)).heap.size ≤ w'.heap.size)
          (first | with_reducible assumption | (with_reducible refine heldx5_drew ?_; with_reducible assumption) | (with_reducible refine heldx5 ?_ (by with_reducible assumption); with_reducible assumption) | fail)
          (first
            | (go_at_call 25; (refine (SSX.out _ (I6.out _ _ IL5.out _ (heldx5_below (by with_reducible assumption)))).mono ?_); rintro e w6 ⟨A6, c6, rfl, ho6, hb6⟩; have J6 := Lib.hid (ho6.ints (by rw [← HXL.out]; omega)); clear ho6)
            | (go_at_call 26; (refine (IRX.out _ (I6.out _ _ IT5.out _ (heldx5_below (by with_reducible assumption))) (I6.out _ _ IB5.out _ (heldx5_below (by with_reducible assumption)))).mono ?_); rintro e w8 ⟨A8, c8, rfl, ho8, hb8⟩; have J8 := Lib.hid (ho8.ints (Nat.le_trans HYL.out (by decide))); clear ho8)
            | (go_at_call 27; (refine (SRX.out _ (I6.out _ _ IT5.out _ (heldx5_below (by with_reducible assumption))) (I6.out _ _ IB5.out _ (heldx5_below (by with_reducible assumption)))).mono ?_); rintro e w9 ⟨A9, c9, rfl, ho9, hb9⟩; have J9 := Lib.hid (ho9.ints (Nat.le_trans HYL.out (by decide))); have J89 := Lib.hid ((J8.out.below hb9 (Nat.le_refl _)).mono hb9.size); clear ho9)
            | (go_at_call 13; (refine (SIY.out _ _ _ _ _ J89.out J9.out).mono ?_); rintro e w10 ⟨rfl, hb10⟩)
            | (go_at_call 13; (refine (SIX.out _ _ _ _ _ (I6.out _ _ IX5.out _ (heldx5_below (by with_reducible assumption))) J6.out).mono ?_); rintro e w7 ⟨rfl, hb7⟩)
            | fail)
        all_goals
          go_wp2
          go_ret
          exact ⟨rfl, BBX.out _ (heldx5_below (by with_reducible assumption))⟩
end Go.Proofs.Ytjgbenhjafgimaa
