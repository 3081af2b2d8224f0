/-
  The contract of slices.Repeat over any row of integers that is not empty. Condition: the result has no more than 4000 elements.
-/
import Derived.Test.YtemfiglflbfocaaShelf
import Derived.Test.YtemfiglflbfocaaPut
namespace Go.Proofs.Ytemfiglflbfocaa
open Go.RowKit
set_option linter.unusedVariables false

/-- A row, k times. -/
def repR (l : List Int) (k : Nat) : List Int := (List.replicate k l).flatten
theorem repR_len (l : List Int) (k : Nat) : (repR l k).length = k * l.length := by
  induction k with
  | zero => simp [repR]
  | succ k ih => rw [repR, List.replicate_succ, List.flatten_cons, List.length_append, show (List.replicate k l).flatten = repR l k from rfl, ih, Nat.add_mul, Nat.one_mul, Nat.add_comm]
theorem repR_add (l : List Int) (i j : Nat) : repR l (i + j) = repR l i ++ repR l j := by
  unfold repR
  rw [← List.replicate_append_replicate, List.flatten_append]
theorem repR_one (l : List Int) : repR l 1 = l := by simp [repR]
theorem repR_take {l : List Int} {k i m : Nat} (hk : i * l.length + m ≤ k * l.length) (hi : i ≤ k) : (repR l k).take (i * l.length + m) = (repR l k).take (i * l.length) ++ (repR l k).take m := by
  obtain ⟨j, rfl⟩ : ∃ j, k = i + j := ⟨k - i, by omega⟩
  have e1 : (repR l (i + j)).take (i * l.length) = repR l i := by
    rw [repR_add, List.take_append_of_le_length (by rw [repR_len]; exact Nat.le_refl _), List.take_of_length_le (by rw [repR_len]; exact Nat.le_refl _)]
  have hm : m ≤ j * l.length := by
    rw [Nat.add_mul] at hk
    omega
  have e2 : (repR l (i + j)).take m = (repR l j).take m := by
    rw [Nat.add_comm i j, repR_add, List.take_append_of_le_length (by rw [repR_len]; exact hm)]
  rw [e1, e2, repR_add, List.take_append, List.take_of_length_le (by rw [repR_len]; omega), repR_len, show i * l.length + m - i * l.length = m by omega]

set_option maxRecDepth 100000 in
/-- What a copy within the row of slices.Repeat leaves. -/
theorem rep_step (R : List Int) (N n m : Nat) (hR : R.length = N) (hm : m = Nat.min n (N - n)) (hnN : n + m ≤ N) (hper : R.take (n + m) = R.take n ++ R.take m) (g cs : Nat) (w w0 : World) (B : Nat) (hb : Below B w0 w) (hBg : B ≤ g) (hg : w.heap[g]? = some (.cells (ivs (R.take n ++ List.replicate (N - n) 0)).toArray 3 (0, 0))) :
    ∃ w', (Builtin.copy_ #[24, 24] 3 #[.slice (some ⟨g, n, none⟩) (N - n) (N - n), .slice (some ⟨g, 0, none⟩) n cs]).run Try.prog w = .ok (.int .i64 m) w' ∧ w'.heap[g]? = some (.cells (ivs (R.take (n + m) ++ List.replicate (N - (n + m)) 0)).toArray 3 (0, 0)) ∧ Below B w0 w' := by
  have htn : (R.take n).length = n := by rw [List.length_take]; omega
  have htm : (R.take m).length = m := by rw [List.length_take]; omega
  have hl : (ivs (R.take m)).length = m := by rw [ivs_len, htm]
  have hmn : m ≤ n := by rw [hm]; exact Nat.min_le_left _ _
  have hcur : (ivs (R.take n ++ List.replicate (N - n) 0)).length = N := by rw [ivs_len, List.length_append, List.length_replicate, htn]; omega
  have hrun := run_copy_row (P := Try.prog) w 24 24 3 3 g n (N - n) (N - n) ⟨g, 0, none⟩ n cs (ivs (R.take n ++ List.replicate (N - n) 0)).toArray 3 (ivs (R.take m)) Try.underlying24 Try.iinfo1 hg (by rw [hl, hm])
    (fun j v hj => by
      have hj2 : j < m := by
        have := (List.getElem?_eq_some_iff.1 hj).1
        rwa [hl] at this
      have hcell : w.cell? ⟨g, j, none⟩ = (ivs (R.take n ++ List.replicate (N - n) 0))[j]? := by simp [World.cell?, hg]
      rw [Addr.add_lit, Nat.zero_add, hcell]
      rw [ivs_at _ j (by rw [List.length_append, List.length_replicate, htn]; omega)]
      rw [ivs_at _ j (by rw [htm]; exact hj2)] at hj
      rw [← hj, List.getD_eq_getElem?_getD, List.getD_eq_getElem?_getD, List.getElem?_append_left (by rw [htn]; omega), List.getElem?_take, List.getElem?_take, if_pos hj2, if_pos (by omega)])
    (by rw [hl]; simp only [List.size_toArray]; rw [hcur]; omega) (fun u hu => by
      simp only [ivs, List.mem_map] at hu
      obtain ⟨y, _, rfl⟩ := hu
      rfl)
  have e : ((ivs (R.take n ++ List.replicate (N - n) 0)).toArray.toList.take n ++ ivs (R.take m) ++ (ivs (R.take n ++ List.replicate (N - n) 0)).toArray.toList.drop (n + (ivs (R.take m)).length)) = ivs (R.take (n + m) ++ List.replicate (N - (n + m)) 0) := by
    rw [hl, hper]
    have q1 : (ivs (R.take n)).length = n := by rw [ivs_len, htn]
    show (ivs (R.take n ++ List.replicate (N - n) 0)).take n ++ ivs (R.take m) ++ (ivs (R.take n ++ List.replicate (N - n) 0)).drop (n + m) = _
    rw [ivs_append, ivs_append, ivs_append, List.take_append_of_le_length (by omega), List.take_of_length_le (by omega), List.drop_append, List.drop_eq_nil_of_le (by omega), q1, show n + m - n = m by omega, List.nil_append]
    have q2 : (ivs (List.replicate (N - n) 0)).drop m = ivs (List.replicate (N - (n + m)) 0) := by
      simp only [ivs, List.map_replicate, List.drop_replicate]
      congr 1
      omega
    rw [q2]
  rw [e] at hrun
  refine ⟨_, by rw [hrun]; congr 1; rw [hl]; rfl, setRow_heap w g _ _ 3 _ hg, below_setRow hb hBg _⟩

set_option maxRecDepth 100000 in
set_option maxHeartbeats 2000000 in
theorem repeat_rows (A : Option Addr) (l : List Int) (k cs N : Nat) (h1 : 1 ≤ l.length) (hk : 1 ≤ k) (hN : N = k * l.length) (hle : N ≤ 4000) (w : World) (hA : Ints w w.heap.size A l) :
    Calls Try.prog 58 #[.slice A l.length cs, .int .i64 k] w fun e w' => ∃ A' c, e = .returned (.slice A' N c) ∧ OwnI w' w.heap.size A' c (repR l k) ∧ Below w.heap.size w w' := by
  obtain ⟨p, hp⟩ : ∃ p, p = l.length := ⟨_, rfl⟩
  have hkN : k ≤ N := by rw [hN]; exact Nat.le_mul_of_pos_right _ (by omega)
  have hpN : p ≤ N := by rw [hN, ← hp]; exact Nat.le_mul_of_pos_left _ (by omega)
  have hRl : (repR l k).length = N := by rw [repR_len, hN]
  have hR1 : (repR l k).take p = l := by
    obtain ⟨j, rfl⟩ : ∃ j, k = 1 + j := ⟨k - 1, by omega⟩
    rw [repR_add, repR_one, hp, List.take_append_of_le_length (Nat.le_refl _), List.take_of_length_le (Nat.le_refl _)]
  have hper : ∀ i m, i ≤ k → i * p + m ≤ N → (repR l k).take (i * p + m) = (repR l k).take (i * p) ++ (repR l k).take m := fun i m hi hm => by
    rw [hp] at hm ⊢
    exact repR_take (by rw [← hN]; exact hm) hi
  have hmk := make_ints N (N : Int) rfl (by omega)
  obtain ⟨w2, hcp, hg2, hb2⟩ := copy_ints (P := Try.prog) (w.alloc (.cells (ivs (List.replicate N 0)).toArray 3)) 24 3 Try.underlying24 Try.iinfo1 w.heap.size N (List.replicate N 0) (by simp) (heap_alloc_new w _) A p cs l hp w.heap.size (hA.below (below_new w _) (Nat.le_refl _)) (by omega) w.heap.size w (below_new w _) (Nat.le_refl _)
  rw [List.drop_replicate, ← hR1] at hg2
  obtain ⟨R, hR⟩ : ∃ R, R = repR l k := ⟨_, rfl⟩
  rw [← hR] at hRl hR1 hg2 hper ⊢
  obtain ⟨z, hz⟩ : ∃ z : List Int, z = List.replicate N 0 := ⟨_, rfl⟩
  rw [← hz] at hmk hcp
  have MU := Lib.hid (Try.bits_Mul p k (by omega) (by omega))
  have q0 : p * k = N := by rw [hN, ← hp, Nat.mul_comm]
  rw [q0] at MU
  have q1 : N / 18446744073709551616 = 0 := Nat.div_eq_of_lt (by omega)
  have q2 : N % 18446744073709551616 = N := Nat.mod_eq_of_lt (by omega)
  rw [q1, q2] at MU
  have HP := Lib.hid hper; have HRL := Lib.hid hRl; have G2 := Lib.hid hg2; have B2 := Lib.hid hb2; have HKP := Lib.hid q0
  rw [← hp] at h1 ⊢
  have HE := Lib.hid hN
  clear hg2 hb2 hA hz hR hR1 hper hRl q0 q1 q2 hp hN
  have k0 : (0 : Int) ≤ (k : Int) := by omega
  have dk : decide ((k : Int) < 0) = false := by simp
  have uk : IntKind.u64.wrap (k : Int) = (k : Int) := Mul64.wrapN k (by omega)
  have up : IntKind.u64.wrap (p : Int) = (p : Int) := Mul64.wrapN p (by omega)
  have iN : IntKind.i64.wrap (N : Int) = (N : Int) := IntWalk.i64_in _ (by omega)
  have dN : decide ((9223372036854775807 : Int) < (N : Int)) = false := by simp; omega
  go_enter Try.func58, Try.ntmps58
  go_wp2_with fail
  refine (MU.out _).mono ?_
  rintro e w' ⟨rfl, hw⟩
  subst hw
  go_wp2
  go_loopw [8] (fun i wr => ∃ n : Nat, n ≤ N ∧ 1 ≤ n ∧ (n = N ∨ ∃ j, j ≤ k ∧ n = j * p) ∧ i = .int .i64 n ∧ wr.heap[w'.heap.size]? = some (.cells (ivs (R.take n ++ List.replicate (N - n) 0)).toArray 3 (0, 0)) ∧ Below w'.heap.size w' wr)
    (fun i _ => N - (intOf i).toNat)
  case atStart => exact ⟨p, hpN, h1, .inr ⟨1, hk, by omega⟩, rfl, G2.out, B2.out⟩
  case round =>
    obtain ⟨n, hn, hn1, hcase, rfl, hg, hb⟩ := hrel
    have HG := Lib.hid hg; have HB := Lib.hid hb
    by_cases hlt : n < N
    · have d1 : decide ((n : Int) < (N : Int)) = true := by simp; omega
      obtain ⟨j, hj, hnj⟩ : ∃ j, j ≤ k ∧ n = j * p := by
        rcases hcase with h | h
        · omega
        · exact h
      obtain ⟨m, hm⟩ : ∃ m, m = Nat.min n (N - n) := ⟨_, rfl⟩
      have hmle : m ≤ n := by rw [hm]; exact Nat.min_le_left _ _
      have hmle2 : m ≤ N - n := by rw [hm]; exact Nat.min_le_right _ _
      have hcase2 : n + m = N ∨ ∃ j, j ≤ k ∧ n + m = j * p := by
        by_cases hc : n ≤ N - n
        · refine .inr ⟨2 * j, ?_, ?_⟩
          · have : 2 * j * p ≤ k * p := by rw [Nat.mul_assoc, ← hnj, Nat.mul_comm k p, HKP.out]; omega
            exact Nat.le_of_mul_le_mul_right this (by omega)
          · have e : m = n := by rw [hm]; exact Nat.min_eq_left hc
            rw [e, Nat.mul_assoc, ← hnj]; omega
        · have e : m = N - n := by rw [hm]; exact Nat.min_eq_right (by omega)
          exact .inl (by omega)
      have hm1 : 1 ≤ m := by rw [hm]; exact Nat.le_min.2 ⟨by omega, by omega⟩
      have hpr : R.take (n + m) = R.take n ++ R.take m := by rw [hnj]; exact HP.out j m hj (by omega)
      obtain ⟨w3, hr, hg3, hb3⟩ := rep_step R N n m HRL.out hm (by omega) hpr w'.heap.size N wr.drew w' w'.heap.size hb.drew (Nat.le_refl _) hg
      have G3 := Lib.hid hg3; have B3 := Lib.hid hb3
      have HC2 := Lib.hid hcase2
      clear hg hb hg3 hb3 hcase hcase2 hpr hm hnj hj
      have s1 : (n : Int) ≤ (N : Int) := by omega
      have s2 : (N : Int) - (n : Int) = ((N - n : Nat) : Int) := by omega
      go_wp2
      go_region
      go_wp2
      go_roundw
      case rel => exact ⟨n + m, by omega, by omega, HC2.out, by go_num, G3.out, B3.out⟩
      case measure => simp [intOf]; omega
    · obtain rfl : n = N := by omega
      have d1 : decide ((n : Int) < (n : Int)) = false := by simp
      clear hg hb hcase
      go_wp2
      go_ret
      refine ⟨_, _, rfl, ?_, HB.out⟩
      have g := HG.out
      rw [Nat.sub_self, List.replicate_zero, List.append_nil, List.take_of_length_le (by rw [HRL.out]; exact Nat.le_refl _)] at g
      unfold OwnI
      rw [HRL.out]
      exact ⟨by rw [ivs_len, HRL.out, Nat.mul_one], .inr ⟨w'.heap.size, n, _, rfl, Nat.le_refl _, g, Nat.le_refl _, by unfold maxLen; omega, by simp [ivs_len, HRL.out], by rw [Nat.mul_one, List.take_of_length_le (by rw [ivs_len, HRL.out]; exact Nat.le_refl _)]⟩⟩
end Go.Proofs.Ytemfiglflbfocaa
