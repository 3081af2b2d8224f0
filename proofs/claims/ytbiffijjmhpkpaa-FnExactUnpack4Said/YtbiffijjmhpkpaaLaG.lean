/-
  Chapter 16: contracts of the model's AddLanes and ClipLanes. Condition: the numbers are those of an int.
-/
import Derived.Test.YtbiffijjmhpkpaaLaF
import Derived.Test.YtbiffijjmhpkpaaLaC
import Derived.Test.YtbiffijjmhpkpaaOwn
import Derived.RegionTactic
namespace Go.Proofs.Ytbiffijjmhpkpaa
open Go.RowKit
set_option linter.unusedVariables false

/-- One row, and another one behind its first j numbers. -/
def mixL (S X : List Int) (j : Nat) : List Int := S.take j ++ X.drop j
theorem mixL_zero (S X : List Int) : mixL S X 0 = X := by simp [mixL]
theorem mixL_full {S X : List Int} {n : Nat} (hS : S.length = n) (hX : X.length = n) : mixL S X n = S := by
  rw [mixL, List.take_of_length_le (by omega), List.drop_of_length_le (by omega), List.append_nil]
theorem mixL_len {S X : List Int} {n j : Nat} (hS : S.length = n) (hX : X.length = n) (hj : j ≤ n) : (mixL S X j).length = n := by
  simp only [mixL, List.length_append, List.length_take, List.length_drop]; omega
theorem mixL_at {S X : List Int} {n j : Nat} (hS : S.length = n) (hX : X.length = n) (hj : j < n) : (mixL S X j).getD j 0 = X.getD j 0 := by
  have hl : (S.take j).length = j := by rw [List.length_take]; omega
  simp only [mixL, List.getD_eq_getElem?_getD]
  rw [List.getElem?_append_right (by omega), hl, Nat.sub_self, List.getElem?_drop, Nat.add_zero]
theorem mixL_set {S X : List Int} {n j : Nat} (hS : S.length = n) (hX : X.length = n) (hj : j < n) : (mixL S X j).set j (S.getD j 0) = mixL S X (j + 1) := by
  have hl : (S.take j).length = j := by rw [List.length_take]; omega
  rw [mixL, mixL, List.set_append_right _ _ (by omega), hl, Nat.sub_self, List.drop_eq_getElem_cons (by omega), List.set_cons_zero, List.take_add_one, List.getD_eq_getElem?_getD, List.getElem?_eq_getElem (by omega), List.append_assoc]
  rfl
/-- The lanes of a sum. -/
def adF (a b : Int) : List Int := [(lnA a + lnA b : Nat), (lnB a + lnB b : Nat), (lnC a + lnC b : Nat), (lnD a + lnD b : Nat)]
theorem adF_pack {a b : Int} (h1 : a ≤ 9223372036854775807) (h2 : b ≤ 9223372036854775807) (ha : upE a = true) (hb : upE b = true) : paqE (adF a b) = adE a b ∧ paqV (adF a b) = adV a b := by
  have e : paqE (adF a b) = adE a b := by
    unfold adF adE smE
    rw [paqE_four, ha, hb]
    have e : ∀ x : Nat, laE (x : Int) = decide (x < 32768) := fun x => by
      rw [Bool.eq_iff_iff, laE_true, decide_eq_true_eq]; omega
    rw [e, e, e, e]
    rfl
  refine ⟨e, ?_⟩
  cases hs : adE a b with
  | false =>
    rw [hs] at e
    unfold paqV adV
    rw [e, hs]
    rfl
  | true =>
    rw [hs] at e
    have ev : adV a b = a + b := by unfold adV; rw [if_pos hs]
    rw [ev]
    unfold adF at e ⊢
    rw [paqV_four e, paqN_nat]
    exact (add_lanes h1 h2 ha hb).2.2.2.2.symm
theorem adF_at (a b : Int) {j : Nat} (hj : j < 4) : (adF a b).getD j 0 = (upF a).getD j 0 + (upF b).getD j 0 := by
  rcases (show j = 0 ∨ j = 1 ∨ j = 2 ∨ j = 3 by omega) with rfl | rfl | rfl | rfl
  all_goals simp [adF, upF]
theorem upF_range (a : Int) {j : Nat} (hj : j < 4) : 0 ≤ (upF a).getD j 0 ∧ (upF a).getD j 0 < 65536 := by
  have p1 := lnA_lt a; have p2 := lnB_lt a; have p3 := lnC_lt a; have p4 := lnD_lt a
  rcases (show j = 0 ∨ j = 1 ∨ j = 2 ∨ j = 3 by omega) with rfl | rfl | rfl | rfl
  all_goals simp [upF]; omega
set_option maxRecDepth 100000 in
set_option maxHeartbeats 4000000 in
theorem spec_add_in (a b : Int) (a1 : a ≤ 9223372036854775807) (b1 : b ≤ 9223372036854775807) (ha : upE a = true) (hb : upE b = true) (w : World) :
    Calls Try.prog 17 #[.int .i64 a, .int .i64 b] w fun e w' => e = .returned (.tuple #[.int .i64 (adV a b), .bool (adE a b)]) ∧ Below w.heap.size w w' := by
  have UA := Lib.hid (spec_unpack_any a a1)
  have UB := Lib.hid (spec_unpack_any b b1)
  rw [upE_len ha, upE_on ha] at UA
  rw [upE_len hb, upE_on hb] at UB
  obtain ⟨q1, q2⟩ := adF_pack a1 b1 ha hb
  have SP := Lib.hid fun A cA w => spec_pack_any A cA (adF a b) w
  rw [q1, q2] at SP
  have HS : Hid (∀ j, j < 4 → (adF a b).getD j 0 = (upF a).getD j 0 + (upF b).getD j 0) := Lib.hid fun j hj => adF_at a b hj
  have HRA : Hid (∀ j, j < 4 → 0 ≤ (upF a).getD j 0 ∧ (upF a).getD j 0 < 65536) := Lib.hid fun j hj => upF_range a hj
  have HRB : Hid (∀ j, j < 4 → 0 ≤ (upF b).getD j 0 ∧ (upF b).getD j 0 < 65536) := Lib.hid fun j hj => upF_range b hj
  obtain ⟨X, hX⟩ : ∃ X, X = upF a := ⟨_, rfl⟩
  obtain ⟨Y, hY⟩ : ∃ Y, Y = upF b := ⟨_, rfl⟩
  obtain ⟨S, hS⟩ : ∃ S, S = adF a b := ⟨_, rfl⟩
  have LX : Hid (X.length = 4) := Lib.hid (by rw [hX]; rfl)
  have LY : Hid (Y.length = 4) := Lib.hid (by rw [hY]; rfl)
  have LS : Hid (S.length = 4) := Lib.hid (by rw [hS]; rfl)
  rw [← hX] at UA HS HRA
  rw [← hY] at UB HS HRB
  rw [← hS] at SP HS
  obtain ⟨V, hV⟩ : ∃ V, V = adV a b := ⟨_, rfl⟩
  obtain ⟨E, hE⟩ : ∃ V, V = adE a b := ⟨_, rfl⟩
  rw [← hV, ← hE] at SP ⊢
  clear hX hY hS hV hE q1 q2 ha hb
  go_enter Try.func17, Try.ntmps17
  go_wp2_with fail
  refine (UA.out _).mono ?_
  rintro e w1 ⟨A1, c1, rfl, ho, hbel⟩
  unfold OwnI at ho
  rw [LX.out] at ho
  obtain ⟨g1, rfl, _, hg1, hcn, hcm⟩ := own_whereO ho LX.out (by decide)
  unfold maxLen at hcm
  have OX := Lib.hid ho; have B1 := Lib.hid hbel; have G1 := Lib.hid hg1
  clear ho hbel hg1
  go_wp2_with fail
  refine (UB.out _).mono ?_
  rintro e w2 ⟨A2, c2, rfl, ho, hbel⟩
  unfold OwnI at ho
  rw [LY.out] at ho
  obtain ⟨g2, rfl, hg2, _, hcn2, hcm2⟩ := own_whereO ho LY.out (by decide)
  unfold maxLen at hcm2
  have hne : g1 ≠ g2 := by have := G1.out; omega
  have OX2 := Lib.hid (own_keep OX.out hbel)
  have HY : Hid (∀ j, j < 4 → w2.cell? ⟨g2, j, none⟩ = some (.int .i64 (Y.getD j 0))) := Lib.hid fun j hj => own_cellsO ho LY.out j hj
  have B2 := Lib.hid (below_up B1.out hbel B1.out.size)
  clear ho hbel hg2
  go_wp2
  go_loopw [8] (fun i wr => ∃ j : Nat, j ≤ 4 ∧ i = .int .i64 j ∧ wr.ownsRow w.heap.size 3 1 (.slice (some ⟨g1, 0, none⟩) 4 c1) 4 (ivs (mixL S X j)) ∧ (∀ j, j < 4 → wr.cell? ⟨g2, j, none⟩ = some (.int .i64 (Y.getD j 0))) ∧ Below w.heap.size w wr)
    (fun i _ => 4 - (intOf i).toNat)
  case atStart => exact ⟨0, Nat.zero_le _, rfl, by rw [mixL_zero]; exact OX2.out, HY.out, B2.out⟩
  case round =>
    obtain ⟨j, hj, rfl, hown, hy, hbel⟩ := hrel
    by_cases hlt : j < 4
    · have d1 : decide ((j : Int) < 4) = true := by simp; omega
      have cx := own_cellsO hown (mixL_len LS.out LX.out hj) j hlt
      rw [mixL_at LS.out LX.out hlt] at cx
      have cy := hy j hlt
      have fz := hown.frozenAt j
      have hs := HS.out j hlt
      have hra := HRA.out j hlt; have hrb := HRB.out j hlt
      obtain ⟨x, hx⟩ : ∃ x, x = X.getD j 0 := ⟨_, rfl⟩
      obtain ⟨y, hy2⟩ : ∃ x, x = Y.getD j 0 := ⟨_, rfl⟩
      rw [← hx] at cx hs hra
      rw [← hy2] at cy hs hrb
      have hp1 : IntKind.i64.wrap (x + y) = x + y := IntWalk.i64_in _ (by omega)
      have s1 := hown.drew.stored j (.int .i64 (x + y))
      have e5 : (mixL S X j).set j (x + y) = mixL S X (j + 1) := by rw [← hs]; exact mixL_set LS.out LX.out hlt
      rw [ivs_set, e5] at s1
      have S1 := Lib.hid s1.1
      have HB := Lib.hid (hbel.drew.grown s1.2 hbel.size fun k hk => by cases hk; exact (own_whereO hown (mixL_len LS.out LX.out hj) (by decide)).elim fun b h => by obtain ⟨h1, h2, _⟩ := h; cases h1; exact h2)
      have HYN : Hid (∀ i, i < 4 → (wr.drew.setCell ⟨g1, j, none⟩ (.int .i64 (x + y))).cell? ⟨g2, i, none⟩ = some (.int .i64 (Y.getD i 0))) := Lib.hid fun i hi => by
        exact (World.cell?_setCell_other (w := wr.drew) (v := .int .i64 (x + y)) (h := show (⟨g1, j, none⟩ : Addr) ≠ ⟨g2, i, none⟩ from fun e => hne (by injection e))).trans (hy i hi)
      clear hx hy2 hs s1 e5 hown hy hbel
      go_wp2
      go_region
      go_wp2
      go_roundw
      case rel => exact ⟨j + 1, by omega, by go_num, S1.out, HYN.out, HB.out⟩
      case measure => simp [intOf]; omega
    · obtain rfl : j = 4 := by omega
      rw [mixL_full LS.out LX.out] at hown
      have S3 := Lib.hid (SP.out (some ⟨g1, 0, none⟩) c1 wr (OwnI.ints (own_backO hown LS.out) (by rw [LS.out]; decide)))
      rw [LS.out] at S3
      have B3 := Lib.hid hbel
      clear hown hy hbel
      go_wp2_with fail
      refine S3.out.mono ?_
      rintro e w5 ⟨rfl, rfl⟩
      go_wp2
      go_ret2
      exact ⟨rfl, B3.out⟩
set_option maxRecDepth 100000 in
set_option maxHeartbeats 2000000 in
theorem spec_add_off (a b : Int) (a1 : a ≤ 9223372036854775807) (b1 : b ≤ 9223372036854775807) (h : upE a = false ∨ upE b = false) (w : World) :
    Calls Try.prog 17 #[.int .i64 a, .int .i64 b] w fun e w' => e = .returned (.tuple #[.int .i64 0, .bool false]) ∧ Below w.heap.size w w' := by
  have UA := Lib.hid (spec_unpack_any a a1)
  have UB := Lib.hid (spec_unpack_any b b1)
  cases ha : upE a with
  | false =>
    rw [upE_off ha] at UA
    obtain ⟨Y, hY⟩ : ∃ Y, Y = upL b := ⟨_, rfl⟩
    rw [← hY] at UB
    clear hY h ha
    go_enter Try.func17, Try.ntmps17
    go_wp2_with fail
    refine (UA.out _).mono ?_
    rintro e w1 ⟨A1, c1, rfl, ho, hbel⟩
    have B1 := Lib.hid hbel
    clear ho hbel
    go_wp2_with fail
    refine (UB.out _).mono ?_
    rintro e w2 ⟨A2, c2, rfl, ho, hbel⟩
    have B2 := Lib.hid (below_up B1.out hbel B1.out.size)
    clear ho hbel
    go_wp2
    go_ret2
    exact ⟨rfl, B2.out⟩
  | true =>
    rw [upE_len ha] at UA
    rw [upE_off (by rcases h with h | h; · rw [ha] at h; cases h
                    · exact h)] at UB
    clear h ha
    go_enter Try.func17, Try.ntmps17
    go_wp2_with fail
    refine (UA.out _).mono ?_
    rintro e w1 ⟨A1, c1, rfl, ho, hbel⟩
    have B1 := Lib.hid hbel
    clear ho hbel
    go_wp2_with fail
    refine (UB.out _).mono ?_
    rintro e w2 ⟨A2, c2, rfl, ho, hbel⟩
    have B2 := Lib.hid (below_up B1.out hbel B1.out.size)
    clear ho hbel
    go_wp2
    go_ret2
    exact ⟨rfl, B2.out⟩
theorem spec_addlanes_any (a b : Int) (a1 : a ≤ 9223372036854775807) (b1 : b ≤ 9223372036854775807) (w : World) :
    Calls Try.prog 17 #[.int .i64 a, .int .i64 b] w fun e w' => e = .returned (.tuple #[.int .i64 (adV a b), .bool (adE a b)]) ∧ Below w.heap.size w w' := by
  cases ha : upE a with
  | false =>
    have e1 : adE a b = false := by unfold adE; rw [ha]; rfl
    have e2 : adV a b = 0 := by unfold adV; rw [e1]; rfl
    rw [e1, e2]
    exact spec_add_off a b a1 b1 (.inl ha) w
  | true =>
    cases hb : upE b with
    | false =>
      have e1 : adE a b = false := by unfold adE; rw [ha, hb]; rfl
      have e2 : adV a b = 0 := by unfold adV; rw [e1]; rfl
      rw [e1, e2]
      exact spec_add_off a b a1 b1 (.inr hb) w
    | true => exact spec_add_in a b a1 b1 ha hb w
/-- The lanes of ClipLanes. -/
def clF (n : Int) : List Int := (upF n).map fun x => clipV (x - 1024)
theorem clF_at (n : Int) {j : Nat} (hj : j < 4) : (clF n).getD j 0 = clipV ((upF n).getD j 0 - 1024) := by
  rcases (show j = 0 ∨ j = 1 ∨ j = 2 ∨ j = 3 by omega) with rfl | rfl | rfl | rfl
  all_goals simp [clF, upF]
set_option maxRecDepth 100000 in
set_option maxHeartbeats 4000000 in
theorem spec_clip_in (n : Int) (n1 : n ≤ 9223372036854775807) (hn : upE n = true) (w : World) :
    Calls Try.prog 25 #[.int .i64 n] w fun e w' => e = .returned (.int .i64 (clV n)) ∧ Below w.heap.size w w' := by
  have UA := Lib.hid (spec_unpack_any n n1)
  rw [upE_len hn, upE_on hn] at UA
  obtain ⟨q1, q2⟩ := clV_pack hn
  have SP := Lib.hid fun A cA w => spec_pack_any A cA (clF n) w
  rw [show paqE (clF n) = true from q2, show paqV (clF n) = clV n from q1.symm] at SP
  have CL := Lib.hid l15clip_any
  have HS : Hid (∀ j, j < 4 → (clF n).getD j 0 = clipV ((upF n).getD j 0 - 1024)) := Lib.hid fun j hj => clF_at n hj
  have HRA : Hid (∀ j, j < 4 → 0 ≤ (upF n).getD j 0 ∧ (upF n).getD j 0 < 65536) := Lib.hid fun j hj => upF_range n hj
  obtain ⟨X, hX⟩ : ∃ X, X = upF n := ⟨_, rfl⟩
  obtain ⟨S, hS⟩ : ∃ S, S = clF n := ⟨_, rfl⟩
  have LX : Hid (X.length = 4) := Lib.hid (by rw [hX]; rfl)
  have LS : Hid (S.length = 4) := Lib.hid (by rw [hS]; rfl)
  rw [← hX] at UA HS HRA
  rw [← hS] at SP HS
  obtain ⟨V, hV⟩ : ∃ V, V = clV n := ⟨_, rfl⟩
  rw [← hV] at SP ⊢
  clear hX hS hV q1 q2 hn
  go_enter Try.func25, Try.ntmps25
  go_wp2_with fail
  refine (UA.out _).mono ?_
  rintro e w1 ⟨A1, c1, rfl, ho, hbel⟩
  unfold OwnI at ho
  rw [LX.out] at ho
  obtain ⟨g1, rfl, _, hg1, hcn, hcm⟩ := own_whereO ho LX.out (by decide)
  unfold maxLen at hcm
  have OX := Lib.hid ho; have B1 := Lib.hid hbel
  clear ho hbel hg1
  go_wp2
  go_loopw [4] (fun i wr => ∃ j : Nat, j ≤ 4 ∧ i = .int .i64 j ∧ wr.ownsRow w.heap.size 3 1 (.slice (some ⟨g1, 0, none⟩) 4 c1) 4 (ivs (mixL S X j)) ∧ Below w.heap.size w wr)
    (fun i _ => 4 - (intOf i).toNat)
  case atStart => exact ⟨0, Nat.zero_le _, rfl, by rw [mixL_zero]; exact OX.out, B1.out⟩
  case round =>
    obtain ⟨j, hj, rfl, hown, hbel⟩ := hrel
    by_cases hlt : j < 4
    · have d1 : decide ((j : Int) < 4) = true := by simp; omega
      have cx := own_cellsO hown (mixL_len LS.out LX.out hj) j hlt
      rw [mixL_at LS.out LX.out hlt] at cx
      have fz := hown.frozenAt j
      have hs := HS.out j hlt
      have hra := HRA.out j hlt
      obtain ⟨x, hx⟩ : ∃ x, x = X.getD j 0 := ⟨_, rfl⟩
      rw [← hx] at cx hs hra
      obtain ⟨y, hy⟩ : ∃ y, y = clipV (x - 1024) := ⟨_, rfl⟩
      have CX := Lib.hid (CL.out (x - 1024))
      rw [← hy] at CX hs
      have s1 := hown.stored j (.int .i64 y)
      have e5 : (mixL S X j).set j y = mixL S X (j + 1) := by rw [← hs]; exact mixL_set LS.out LX.out hlt
      rw [ivs_set, e5] at s1
      have S1 := Lib.hid s1.1
      have HB := Lib.hid (hbel.grown s1.2 hbel.size fun k hk => by cases hk; exact (own_whereO hown (mixL_len LS.out LX.out hj) (by decide)).elim fun b h => by obtain ⟨h1, h2, _⟩ := h; cases h1; exact h2)
      clear hx hy hs s1 e5 hown hbel
      go_wp2_with fail
      refine (CX.out _).mono ?_
      rintro e w4 ⟨rfl, rfl⟩
      go_wp2
      go_roundw
      case rel => exact ⟨j + 1, by omega, by go_num, S1.out, HB.out⟩
      case measure => simp [intOf]; omega
    · obtain rfl : j = 4 := by omega
      rw [mixL_full LS.out LX.out] at hown
      have S3 := Lib.hid (SP.out (some ⟨g1, 0, none⟩) c1 wr (OwnI.ints (own_backO hown LS.out) (by rw [LS.out]; decide)))
      rw [LS.out] at S3
      have B3 := Lib.hid hbel
      clear hown hbel
      go_wp2_with fail
      refine S3.out.mono ?_
      rintro e w5 ⟨rfl, rfl⟩
      go_wp2
      go_ret
      exact ⟨rfl, B3.out⟩
set_option maxRecDepth 100000 in
set_option maxHeartbeats 2000000 in
theorem spec_cliplanes_any (n : Int) (n1 : n ≤ 9223372036854775807) (w : World) :
    Calls Try.prog 25 #[.int .i64 n] w fun e w' => e = .returned (.int .i64 (clV n)) ∧ Below w.heap.size w w' := by
  cases hn : upE n with
  | true => exact spec_clip_in n n1 hn w
  | false =>
    have UA := Lib.hid (spec_unpack_any n n1)
    have e : clV n = 0 := by unfold clV; rw [hn]; rfl
    rw [e]
    have SP := Lib.hid fun A cA w => spec_pack_any A cA [] w
    rw [show paqE [] = false from rfl, show paqV [] = 0 from rfl] at SP
    rw [upE_off hn] at UA
    clear e hn
    go_enter Try.func25, Try.ntmps25
    go_wp2_with fail
    refine (UA.out _).mono ?_
    rintro e w1 ⟨A1, c1, rfl, ho, hbel⟩
    have S3 := Lib.hid (SP.out A1 c1 w1 (ho.ints (by simp)))
    have B1 := Lib.hid hbel
    clear ho hbel
    go_wp2
    refine wp_loop_rounds 1 ?_
    rw [rounds_succ]
    go_wp2_with fail
    refine S3.out.mono ?_
    rintro e w5 ⟨rfl, rfl⟩
    go_wp2
    go_ret
    exact ⟨rfl, B1.out⟩
end Go.Proofs.Ytbiffijjmhpkpaa
