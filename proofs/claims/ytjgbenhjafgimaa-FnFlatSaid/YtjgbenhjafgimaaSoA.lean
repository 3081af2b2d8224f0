/-
  Chapter 17: what Softened answers, and the contract of the model's Softened. Condition: the list is no longer than 1048576 (the laws ask no more).
-/
import Derived.Test.YtjgbenhjafgimaaLaA
namespace Go.Proofs.Ytjgbenhjafgimaa
open Go.RowKit
set_option linter.unusedVariables false

/-- What Softened answers. -/
def soAt (l : List Int) (i : Nat) : Int := softV (clipV (l.getD i 0)) (clipV (l.getD (i + 1) 0)) (clipV (l.getD (i + 2) 0))
def soL (l : List Int) : List Int := (List.range (l.length - 2)).map (soAt l)
theorem soL_len (l : List Int) : (soL l).length = l.length - 2 := by simp [soL]
theorem soL_at (l : List Int) {i : Nat} (hi : i < l.length - 2) : (soL l).getD i 0 = soAt l i := by
  rw [List.getD_eq_getElem?_getD, soL, List.getElem?_map, List.getElem?_range hi]
  rfl
theorem soL_next (l : List Int) {i : Nat} (hi : i < l.length - 2) : (soL l).take (i + 1) = (soL l).take i ++ [soAt l i] := by
  rw [take_snoc_q _ i (by rw [soL_len]; exact hi), soL_at l hi]
theorem clip_facts (x : Int) : ∃ y : Int, (if x < 255 then x else (255 : Int)) = y ∧ max 0 y = clipV x ∧ (if (0 : Int) < y then y else 0) = clipV x ∧ max 0 (min 255 x) = clipV x :=
  ⟨_, rfl, by unfold clipV; split <;> omega, by unfold clipV; split <;> split <;> omega, by unfold clipV; omega⟩
set_option maxRecDepth 100000 in
set_option maxHeartbeats 4000000 in
theorem spec_softened_any (A : Option Addr) (ca : Nat) (l : List Int) (hll : l.length ≤ 1048576) (w : World) (hA : Ints w w.heap.size A l) :
    Calls Try.prog 25 #[.slice A l.length ca] w fun e w' => ∃ A' c, e = .returned (.slice A' (soL l).length c) ∧ OwnI w' w.heap.size A' c (soL l) ∧ Below w.heap.size w w' := by
  obtain ⟨i0, hi, hz0, hz1, hz2⟩ := info_parts Try.iinfo
  have HNX := Lib.hid fun i (hi : i < l.length - 2) => soL_next l hi
  have HCL := Lib.hid (soL_len l)
  have SF := Lib.hid l15soft_any
  have O0 := Lib.hid (own_ints w w.heap.size [] (Nat.le_refl _) (by simp))
  have B0 := Lib.hid ((Below.refl w.heap.size w).alloc (Nat.le_refl _) (.cells (ivs []).toArray 3))
  have HAT : Hid (∀ i, soAt l i = softV (clipV (l.getD i 0)) (clipV (l.getD (i + 1) 0)) (clipV (l.getD (i + 2) 0))) := Lib.hid fun i => rfl
  have HA := Lib.hid hA
  obtain ⟨C, hC⟩ : ∃ C, C = soL l := ⟨_, rfl⟩
  rw [← hC] at HNX HCL ⊢
  obtain ⟨n, hn⟩ : ∃ n, n = l.length := ⟨_, rfl⟩
  rw [← hn] at hll HNX HCL ⊢
  have HN := Lib.hid hn
  clear hC hA hn
  go_enter Try.func25, Try.ntmps25
  go_wp2
  go_loopw [3, 4, 5] (fun v i x5 wr => ∃ j : Nat, j ≤ n - 2 ∧ i = .int .i64 ((j : Int) + 1) ∧ wr.ownsRow w.heap.size 3 1 v j (ivs (C.take j)) ∧ Below w.heap.size w wr)
    (fun _ i _ _ => n - (intOf i).toNat)
  case atStart => exact ⟨0, Nat.zero_le _, rfl, O0.out, B0.out⟩
  case round =>
    obtain ⟨j, hj, rfl, hown, hbel⟩ := hrel
    by_cases hlt : j + 2 < n
    · have d1 : decide ((j : Int) + 1 + 1 < (n : Int)) = true := by simp; omega
      obtain ⟨b, off, rfl, hb, hc⟩ := HA.out.at 0 (by rw [← HN.out]; omega)
      have c1 := hc j (by rw [← HN.out]; omega)
      have c2 := hc (j + 1) (by rw [← HN.out]; omega)
      have c3 := hc (j + 1 + 1) (by rw [← HN.out]; omega)
      have hnx := HNX.out j (by omega)
      rw [HAT.out j] at hnx
      obtain ⟨x, hx⟩ : ∃ x, x = l.getD j 0 := ⟨_, rfl⟩
      obtain ⟨y, hy⟩ : ∃ x, x = l.getD (j + 1) 0 := ⟨_, rfl⟩
      obtain ⟨z, hz⟩ : ∃ x, x = l.getD (j + 1 + 1) 0 := ⟨_, rfl⟩
      rw [← hx, ← hy, show l.getD (j + 2) 0 = z from hz.symm] at hnx
      rw [← hx] at c1
      rw [← hy] at c2
      rw [← hz] at c3
      obtain ⟨x0, fx1, fx2, fx3, fx4⟩ := clip_facts x
      obtain ⟨y0, fy1, fy2, fy3, fy4⟩ := clip_facts y
      obtain ⟨zz0, fz1, fz2, fz3, fz4⟩ := clip_facts z
      have SX := Lib.hid (SF.out (clipV x) (clipV y) (clipV z) (clipV_pix x) (clipV_pix y) (clipV_pix z))
      have px := clipV_pix x; have py := clipV_pix y; have pz := clipV_pix z
      obtain ⟨u1, hu1⟩ : ∃ u, u = clipV x := ⟨_, rfl⟩
      obtain ⟨u2, hu2⟩ : ∃ u, u = clipV y := ⟨_, rfl⟩
      obtain ⟨u3, hu3⟩ : ∃ u, u = clipV z := ⟨_, rfl⟩
      rw [← hu1] at fx2 fx3 fx4 SX hnx px
      rw [← hu2] at fy2 fy3 fy4 SX hnx py
      rw [← hu3] at fz2 fz3 fz4 SX hnx pz
      obtain ⟨u, hu⟩ : ∃ u, u = softV u1 u2 u3 := ⟨_, rfl⟩
      rw [← hu] at SX hnx
      have HX := Lib.hid hnx; have C1 := Lib.hid c1; have C3 := Lib.hid c3
      have c2' : wr.cell? ⟨b, off + (j + 1), none⟩ = some (.int .i64 y) := by rw [hbel.cell (p := ⟨b, off + (j + 1), none⟩) hb]; exact c2
      obtain ⟨rowv, hrow⟩ : ∃ r, r = C.take j := ⟨_, rfl⟩
      rw [← hrow] at hown HX
      obtain ⟨Av, cv, rfl⟩ := own_shape hown
      have hO0 := hown
      have hO := hown.drew
      have hS0 : wr.cell? ⟨b, off + j, none⟩ = some (.int .i64 x) ∧ wr.cell? ⟨b, off + (j + 1 + 1), none⟩ = some (.int .i64 z) ∧ Below w.heap.size w wr := hold_two_at c1 c3 hb hb hbel
      have hS := hold_two_drew hS0
      have hj0 : (0 : Int) ≤ (j : Int) := by omega
      have hj1 : (j : Int) < (n : Int) := by omega
      have hj2 : (j : Int) + 1 < (n : Int) := by omega
      have hj3 : (j : Int) + 1 + 1 < (n : Int) := by omega
      have hw0 : IntKind.i64.wrap (j : Int) = (j : Int) := IntWalk.i64_in _ (by omega)
      have hw1 : IntKind.i64.wrap ((j : Int) + 1 - 1) = (j : Int) := by rw [show (j : Int) + 1 - 1 = (j : Int) by omega]; exact hw0
      have hw2 : IntKind.i64.wrap ((j : Int) + 1 + 1) = (j : Int) + 1 + 1 := IntWalk.i64_in _ (by omega)
      have ht2 : ((j : Int) + 1 + 1).toNat = j + 1 + 1 := by omega
      have hp2 : (0 : Int) ≤ (j : Int) + 1 + 1 := by omega
      have hp1 : (0 : Int) ≤ (j : Int) + 1 := by omega
      have hjn2 : j + 1 + 1 < n := by omega
      clear hx hy hz hnx hu hu1 hu2 hu3 hrow c1 c3 c2 hc hown hbel
      go_wp2_with fail
      go_region_held3 (fun w' => w'.cell? ⟨b, off + j, none⟩ = some (.int .i64 x) ∧ w'.cell? ⟨b, off + (j + 1 + 1), none⟩ = some (.int .i64 z) ∧ Below w.heap.size w w')
        (first | with_reducible assumption | (with_reducible refine hold_two_drew ?_; with_reducible assumption) | (with_reducible refine hold_two ?_ (by with_reducible assumption); with_reducible assumption) | (with_reducible refine hold_two_alloc ?_ _; with_reducible assumption) | (with_reducible refine hold_two_drew (hold_two_alloc ?_ _); with_reducible assumption) | (with_reducible exact hold_two_at C1.out C3.out (by assumption) (by assumption) (by with_reducible assumption)))
        (first
          | (go_at_call 64; with_reducible refine (SX.out _).mono ?_; rintro e w' ⟨rfl, rfl⟩)
          | (refine step_append_lit wr.drew rfl (.tmp 20) (.tmp 37) 24 rfl w 3 i0 (.int .i64 0) 8 Try.underlying24 hi hz0 hz1 hz2 rfl _ _ _ rfl (by assumption) [_] rfl (by simp [Value.oneCell']) rfl (by simp; omega) (by unfold maxLen; simp; omega) (by first | with_reducible assumption | exact hold_two_below (by with_reducible assumption)) ?_; intro v' w' hown' hb'))
      all_goals
        go_wp2
        go_roundw
        case rel =>
          refine ⟨j + 1, by omega, by go_num, ?_, by assumption⟩
          rw [HX.out, ivs_append]
          exact hown'
        case measure => simp [intOf]; omega
    · have d1 : decide ((j : Int) + 1 + 1 < (n : Int)) = false := by simp; omega
      have hjn : j = n - 2 := by omega
      have e1 : C.take j = C := List.take_of_length_le (by rw [HCL.out]; omega)
      rw [e1] at hown
      obtain ⟨A3, c3, hv3, ho3⟩ := own_slice hown
      subst hv3
      have O3 := Lib.hid ho3; have B3 := Lib.hid hbel
      clear hown hbel ho3 e1 hjn
      go_wp2
      go_ret
      exact ⟨_, _, rfl, O3.out, B3.out⟩
end Go.Proofs.Ytjgbenhjafgimaa
