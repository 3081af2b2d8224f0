/-
  The contract of the model's l12Row. Conditions: the size is 4 or 8, the row is one of the matrix.
-/
import Derived.Test.YtcmijednpnabmaaFormP
import Derived.Maps.AppendAt
namespace Go.Proofs.Ytcmijednpnabmaa
open Go.RowKit
set_option linter.unusedVariables false

def rowL (n r : Nat) : List Int := (List.range n).map fun k => matE n false r k
theorem rowL_len (n r : Nat) : (rowL n r).length = n := by simp [rowL]
theorem rowL_at {n r k : Nat} (hk : k < n) : (rowL n r).getD k 0 = matE n false r k := by
  rw [List.getD_eq_getElem?_getD, rowL, List.getElem?_map, List.getElem?_range hk]
  rfl
theorem rowL_next {n r k : Nat} (hk : k < n) : (rowL n r).take (k + 1) = (rowL n r).take k ++ [matE n false r k] := by
  rw [take_snoc_q _ k (by rw [rowL_len]; exact hk), rowL_at hk]
theorem and_small' : ∀ r : Nat, r < 8 → ∀ c : Nat, c < 8 → bits .and .i64 (r : Int) (c : Int) = ((r &&& c : Nat) : Int) := by decide +kernel
/-- Four rows and the list of them: each row is one's own. -/
def fourW (w : World) (r0 r1 r2 r3 : List Int) (o : Obj) : World :=
  ((((w.alloc (.cells (ivs r0).toArray 3)).alloc (.cells (ivs r1).toArray 3)).alloc (.cells (ivs r2).toArray 3)).alloc (.cells (ivs r3).toArray 3)).alloc o
theorem size_alloc (w : World) (o : Obj) : (w.alloc o).heap.size = w.heap.size + 1 := by simp
theorem own_at (w : World) (base k : Nat) (l : List Int) (hb : base ≤ w.heap.size) (hm : l.length ≤ maxLen) (hk : w.heap.size = k) : OwnI (w.alloc (.cells (ivs l).toArray 3)) base (some ⟨k, 0, none⟩) l.length l := by
  subst hk
  exact own_ints w base l hb hm
theorem four_below (w : World) (r0 r1 r2 r3 : List Int) (o : Obj) : Below w.heap.size w (fourW w r0 r1 r2 r3 o) := by
  unfold fourW
  exact (((((Below.refl _ w).alloc (Nat.le_refl _) _).alloc (by rw [size_alloc]; omega) _).alloc (by rw [size_alloc, size_alloc]; omega) _).alloc (by rw [size_alloc, size_alloc, size_alloc]; omega) _).alloc (by rw [size_alloc, size_alloc, size_alloc, size_alloc]; omega) _
theorem four_own (w : World) (r0 r1 r2 r3 : List Int) (o : Obj) (h0 : r0.length = 4) (h1 : r1.length = 4) (h2 : r2.length = 4) (h3 : r3.length = 4) :
    OwnI (fourW w r0 r1 r2 r3 o) w.heap.size (some ⟨w.heap.size, 0, none⟩) r0.length r0 ∧ OwnI (fourW w r0 r1 r2 r3 o) w.heap.size (some ⟨w.heap.size + 1, 0, none⟩) r1.length r1 ∧ OwnI (fourW w r0 r1 r2 r3 o) w.heap.size (some ⟨w.heap.size + 2, 0, none⟩) r2.length r2 ∧ OwnI (fourW w r0 r1 r2 r3 o) w.heap.size (some ⟨w.heap.size + 3, 0, none⟩) r3.length r3 := by
  have m : ∀ l : List Int, l.length = 4 → l.length ≤ maxLen := fun l h => by rw [h]; decide
  unfold fourW
  refine ⟨?_, ?_, ?_, ?_⟩
  · exact ((((own_at w w.heap.size w.heap.size r0 (Nat.le_refl _) (m _ h0) rfl).kept (below_new _ _) (Nat.le_refl _)).kept (below_new _ _) (Nat.le_refl _)).kept (below_new _ _) (Nat.le_refl _)).kept (below_new _ _) (Nat.le_refl _)
  · exact (((own_at _ w.heap.size (w.heap.size + 1) r1 (by rw [size_alloc]; omega) (m _ h1) (size_alloc _ _)).kept (below_new _ _) (Nat.le_refl _)).kept (below_new _ _) (Nat.le_refl _)).kept (below_new _ _) (Nat.le_refl _)
  · exact ((own_at _ w.heap.size (w.heap.size + 2) r2 (by rw [size_alloc, size_alloc]; omega) (m _ h2) (by rw [size_alloc, size_alloc])).kept (below_new _ _) (Nat.le_refl _)).kept (below_new _ _) (Nat.le_refl _)
  · exact (own_at _ w.heap.size (w.heap.size + 3) r3 (by rw [size_alloc, size_alloc, size_alloc]; omega) (m _ h3) (by rw [size_alloc, size_alloc, size_alloc])).kept (below_new _ _) (Nat.le_refl _)

set_option maxRecDepth 100000 in
set_option maxHeartbeats 1000000 in
theorem l12row_4_0 (w : World) : Calls Try.prog 70 #[.int .i64 4, .int .i64 0] w fun e w' => ∃ A' c, e = .returned (.slice A' 4 c) ∧ OwnI w' w.heap.size A' c (rowL 4 0) ∧ Below w.heap.size w w' := by
  have OW := Lib.hid fun o => four_own w [1, 1, 1, 1] [2, 1, -1, -2] [1, -1, -1, 1] [1, -2, 2, -1] o rfl rfl rfl rfl
  have BW := Lib.hid fun o => four_below w [1, 1, 1, 1] [2, 1, -1, -2] [1, -1, -1, 1] [1, -2, 2, -1] o
  rw [show rowL 4 0 = [1, 1, 1, 1] by decide]
  go_enter Try.func70, Try.ntmps70
  go_wp2
  go_ret
  exact ⟨_, _, rfl, (OW.out _).1, BW.out _⟩

set_option maxRecDepth 100000 in
set_option maxHeartbeats 1000000 in
theorem l12row_4_1 (w : World) : Calls Try.prog 70 #[.int .i64 4, .int .i64 1] w fun e w' => ∃ A' c, e = .returned (.slice A' 4 c) ∧ OwnI w' w.heap.size A' c (rowL 4 1) ∧ Below w.heap.size w w' := by
  have OW := Lib.hid fun o => four_own w [1, 1, 1, 1] [2, 1, -1, -2] [1, -1, -1, 1] [1, -2, 2, -1] o rfl rfl rfl rfl
  have BW := Lib.hid fun o => four_below w [1, 1, 1, 1] [2, 1, -1, -2] [1, -1, -1, 1] [1, -2, 2, -1] o
  rw [show rowL 4 1 = [2, 1, -1, -2] by decide]
  go_enter Try.func70, Try.ntmps70
  go_wp2
  go_ret
  exact ⟨_, _, rfl, (OW.out _).2.1, BW.out _⟩

set_option maxRecDepth 100000 in
set_option maxHeartbeats 1000000 in
theorem l12row_4_2 (w : World) : Calls Try.prog 70 #[.int .i64 4, .int .i64 2] w fun e w' => ∃ A' c, e = .returned (.slice A' 4 c) ∧ OwnI w' w.heap.size A' c (rowL 4 2) ∧ Below w.heap.size w w' := by
  have OW := Lib.hid fun o => four_own w [1, 1, 1, 1] [2, 1, -1, -2] [1, -1, -1, 1] [1, -2, 2, -1] o rfl rfl rfl rfl
  have BW := Lib.hid fun o => four_below w [1, 1, 1, 1] [2, 1, -1, -2] [1, -1, -1, 1] [1, -2, 2, -1] o
  rw [show rowL 4 2 = [1, -1, -1, 1] by decide]
  go_enter Try.func70, Try.ntmps70
  go_wp2
  go_ret
  exact ⟨_, _, rfl, (OW.out _).2.2.1, BW.out _⟩

set_option maxRecDepth 100000 in
set_option maxHeartbeats 1000000 in
theorem l12row_4_3 (w : World) : Calls Try.prog 70 #[.int .i64 4, .int .i64 3] w fun e w' => ∃ A' c, e = .returned (.slice A' 4 c) ∧ OwnI w' w.heap.size A' c (rowL 4 3) ∧ Below w.heap.size w w' := by
  have OW := Lib.hid fun o => four_own w [1, 1, 1, 1] [2, 1, -1, -2] [1, -1, -1, 1] [1, -2, 2, -1] o rfl rfl rfl rfl
  have BW := Lib.hid fun o => four_below w [1, 1, 1, 1] [2, 1, -1, -2] [1, -1, -1, 1] [1, -2, 2, -1] o
  rw [show rowL 4 3 = [1, -2, 2, -1] by decide]
  go_enter Try.func70, Try.ntmps70
  go_wp2
  go_ret
  exact ⟨_, _, rfl, (OW.out _).2.2.2, BW.out _⟩

theorem l12row_4 (r : Nat) (hr : r < 4) (w : World) : Calls Try.prog 70 #[.int .i64 4, .int .i64 r] w fun e w' => ∃ A' c, e = .returned (.slice A' 4 c) ∧ OwnI w' w.heap.size A' c (rowL 4 r) ∧ Below w.heap.size w w' := by
  rcases (show r = 0 ∨ r = 1 ∨ r = 2 ∨ r = 3 by omega) with rfl | rfl | rfl | rfl
  · exact l12row_4_0 w
  · exact l12row_4_1 w
  · exact l12row_4_2 w
  · exact l12row_4_3 w

set_option maxRecDepth 100000 in
set_option maxHeartbeats 2000000 in
theorem l12row_8 (r : Nat) (hr : r < 8) (w : World) : Calls Try.prog 70 #[.int .i64 8, .int .i64 r] w fun e w' => ∃ A' c, e = .returned (.slice A' 8 c) ∧ OwnI w' w.heap.size A' c (rowL 8 r) ∧ Below w.heap.size w w' := by
  obtain ⟨i0, hi, hz0, hz1, hz2⟩ := info_parts Try.iinfo
  have O0 := Lib.hid (own_ints w w.heap.size [] (Nat.le_refl _) (by simp))
  have B0 := Lib.hid ((Below.refl w.heap.size w).alloc (Nat.le_refl _) (.cells (ivs []).toArray 3))
  have HNX := Lib.hid fun k (hk : k < 8) => rowL_next (n := 8) (r := r) hk
  have HRL := Lib.hid (rowL_len 8 r)
  obtain ⟨R, hR⟩ : ∃ R, R = rowL 8 r := ⟨_, rfl⟩
  rw [← hR] at HNX HRL ⊢
  clear hR
  go_enter Try.func70, Try.ntmps70
  go_wp2
  go_loopw [5, 6, 7, 8] (fun v i x7 x8 wr => ∃ j : Nat, j ≤ 8 ∧ i = .int .i64 j ∧ wr.ownsRow w.heap.size 3 1 v j (ivs (R.take j)) ∧ Below w.heap.size w wr)
    (fun _ i _ _ _ => 8 - (intOf i).toNat)
  case atStart => exact ⟨0, Nat.zero_le _, rfl, O0.out, B0.out⟩
  case round =>
    obtain ⟨j, hj, rfl, hown, hbel⟩ := hrel
    by_cases hlt : j < 8
    · have d1 : decide ((j : Int) < 8) = true := by simp; omega
      have hnx := HNX.out j hlt
      have hbit := matH_bits r hr j hlt
      have hand := and_small' r hr j hlt
      obtain ⟨v0, hv⟩ : ∃ v, v = r &&& j := ⟨_, rfl⟩
      rw [← hv] at hbit hand
      obtain ⟨hv8, hmat⟩ := hbit
      have hme : matE 8 false r j = matH r j := rfl
      rw [hme] at hnx
      obtain ⟨M, hM⟩ : ∃ M, M = matH r j := ⟨_, rfl⟩
      rw [← hM] at hnx hmat
      have HX := Lib.hid hnx; have HO := Lib.hid hown; have HB := Lib.hid hbel; have HM := Lib.hid hmat
      clear hv hme hM hnx hown hbel hmat
      go_wp2
      go_loop [7, 8] (fun s b => ∃ (bn : Nat) (sv : Int), bn < 8 ∧ s = .int .i64 sv ∧ b = .int .i64 bn ∧ (sv = 1 ∨ sv = -1) ∧ sv * sgE bn = M)
        (fun _ b => (intOf b).toNat)
      case atStart => exact ⟨v0, 1, hv8, rfl, rfl, .inl rfl, by rw [HM.out, Int.one_mul]⟩
      case round =>
        obtain ⟨bn, sv, hb8, rfl, rfl, hsv, hprod⟩ := hrel
        have hhalf := sgE_half bn hb8
        have HPR := Lib.hid hprod; have HHF := Lib.hid hhalf
        clear hprod hhalf
        by_cases hb0 : bn = 0
        · subst hb0
          have hz : sv = M := by have := HPR.out; rw [sgE_zero, Int.mul_one] at this; exact this
          subst hz
          have O3 := HO.out
          go_wp2_with (at_builtin; refine append_int wr rfl (.tmp 36) (.tmp 38) 22 rfl w.heap.size 3 i0 Try.underlying22 hi hz0 hz1 hz2 _ _ _ rfl O3 _ rfl rfl (by omega) HB.out.size ?_; intro v' w' hown' hgr hvb)
          have HO' := Lib.hid hown'
          have HG := Lib.hid hgr
          have HL := Lib.hid O3.lt
          clear hown' hgr hvb O3
          go_roundw
          case rel => exact ⟨j + 1, by omega, by go_num, by rw [HX.out]; exact HO'.out, HB.out.grown HG.out HB.out.size fun k hk => (HL.out k hk).1⟩
          case measure => simp [intOf]; omega
        · have d2 : decide ((0 : Int) < (bn : Int)) = true := by simp; omega
          have ha : bits .and .i64 (bn : Int) 1 = (bn : Int) % 2 := and_i64 1 _ _ rfl (by omega) (by omega) (by omega)
          by_cases hodd : bn % 2 = 1
          · have hodd' : (bn : Int) % 2 = 1 := by omega
            have HS : Hid (-sv * sgE (bn / 2) = M) := Lib.hid (by
              have h1 := HPR.out; rw [HHF.out, if_pos hodd] at h1
              rw [← h1, Int.neg_mul, Int.neg_mul, Int.one_mul, Int.mul_neg])
            go_wp2
            go_round
            case rel => exact ⟨bn / 2, -sv, by omega, rfl, by go_num, by omega, HS.out⟩
            case measure => simp [intOf]; omega
          · have hodd' : (bn : Int) % 2 = 0 := by omega
            have HS : Hid (sv * sgE (bn / 2) = M) := Lib.hid (by
              have h1 := HPR.out; rw [HHF.out, if_neg hodd, Int.one_mul] at h1
              exact h1)
            go_wp2
            go_round
            case rel => exact ⟨bn / 2, sv, by omega, rfl, by go_num, by omega, HS.out⟩
            case measure => simp [intOf]; omega
    · obtain rfl : j = 8 := by omega
      have e1 : R.take 8 = R := List.take_of_length_le (by rw [HRL.out]; exact Nat.le_refl _)
      rw [e1] at hown
      obtain ⟨A3, c3, hv3, ho3⟩ := own_slice hown
      rw [HRL.out] at hv3
      subst hv3
      have O3 := Lib.hid ho3; have B3 := Lib.hid hbel
      clear hown hbel ho3 e1
      go_wp2
      go_ret
      exact ⟨_, _, rfl, O3.out, B3.out⟩
end Go.Proofs.Ytcmijednpnabmaa
