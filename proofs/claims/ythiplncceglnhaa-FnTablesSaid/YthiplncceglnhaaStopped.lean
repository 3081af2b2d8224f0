/-
  Contracts of Stopped, in both texts, and the walk of its exact law. Condition: no more than 1048576 bits (the law asks no more).
-/
import Derived.Test.YthiplncceglnhaaPutBits
import Derived.Laws.CopyOwn
namespace Go.Proofs.Ythiplncceglnhaa
open Go.RowKit
set_option linter.unusedVariables false

/-- How many bits fill the bytes: one more than `n` at least. -/
def stopN (n : Nat) : Nat := n / 8 * 8 + 8
/-- The bits, a 1, and 0s: `t` of them. -/
def stopT (l : List Int) (t : Nat) : List Int := l ++ 1 :: List.replicate (t - l.length - 1) 0
def stopL (l : List Int) : List Int := stopT l (stopN l.length)
/-- What Stopped gives. -/
def stopS (l : List Int) : ByteArray := bytesR (stopL l)
theorem stopN_gt (n : Nat) : n + 1 ≤ stopN n ∧ stopN n ≤ n + 8 ∧ stopN n % 8 = 0 := by unfold stopN; omega
theorem stopT_len (l : List Int) (t : Nat) (h : l.length + 1 ≤ t) : (stopT l t).length = t := by
  simp [stopT]; omega
theorem stopT_snoc (l : List Int) (t : Nat) (h : l.length + 1 ≤ t) : stopT l (t + 1) = stopT l t ++ [0] := by
  unfold stopT
  rw [show t + 1 - l.length - 1 = (t - l.length - 1) + 1 by omega, List.replicate_succ']
  simp
theorem stopL_len (l : List Int) : (stopL l).length = stopN l.length := stopT_len l _ (stopN_gt _).1
/-- A row of zeros after the bits were copied into it and the 1 was set. -/
theorem stopL_set (l : List Int) (N : Nat) (hN : N = stopN l.length) : (l ++ List.replicate (N - l.length) 0).set l.length 1 = stopL l := by
  have h := stopN_gt l.length
  unfold stopL stopT
  rw [← hN]
  rw [← hN] at h
  rw [show N - l.length = (N - l.length - 1) + 1 by omega, List.replicate_succ, List.set_append_right _ _ (Nat.le_refl _), Nat.sub_self]
  rfl

/-- `copy(row, A)` into a row that is known whole and has room. -/
theorem copy_ints {P : Program} (w : World) (dT ty : TypeId) (hu : P.underlying dT = some (.slice 3)) (hs : (P.info? 3).map (·.size) = some 1) (g N : Nat) (cur : List Int) (hcur : cur.length = N) (hg : w.heap[g]? = some (.cells (ivs cur).toArray 3 (0, 0)))
    (A : Option Addr) (m c : Nat) (l : List Int) (hm : m = l.length) (h : Nat) (hA : Ints w h A l) (hmN : m ≤ N) (B : Nat) (w0 : World) (hb : Below B w0 w) (hBg : B ≤ g) :
    ∃ w', (Builtin.copy_ #[dT, dT] ty #[.slice (some ⟨g, 0, none⟩) N N, .slice A m c]).run P w = .ok (.int .i64 m) w' ∧ w'.heap[g]? = some (.cells (ivs (l ++ cur.drop m)).toArray 3 (0, 0)) ∧ Below B w0 w' := by
  subst hm
  by_cases h0 : l.length = 0
  · have hl : l = [] := List.eq_nil_of_length_eq_zero h0
    subst hl
    exact ⟨w, run_copy_none (P := P) w dT dT ty 3 _ A N N _ c hu hs (by simp), by simpa using hg, hb⟩
  · obtain ⟨b, off, rfl, _, hc⟩ := hA.at 0 (by omega)
    have hrun := run_copy_row (P := P) w dT dT ty 3 g 0 N N ⟨b, off, none⟩ l.length c (ivs cur).toArray 3 (ivs l) hu hs hg (by rw [ivs_len]; exact (Nat.min_eq_left hmN).symm)
      (fun j v hj => by
        have hj2 : j < l.length := by
          have := (List.getElem?_eq_some_iff.1 hj).1
          rwa [ivs_len] at this
        rw [Addr.add_lit, hc j hj2, ← hj, ivs_at l j hj2]) (by simp [ivs_len]; omega) (fun u hu => by
          simp only [ivs, List.mem_map] at hu
          obtain ⟨y, _, rfl⟩ := hu
          rfl)
    have e : ((ivs cur).toArray.toList.take 0 ++ ivs l ++ (ivs cur).toArray.toList.drop (0 + (ivs l).length)) = ivs (l ++ cur.drop l.length) := by
      rw [ivs_append, ivs_len, Nat.zero_add]
      simp [ivs, List.map_drop]
    rw [e] at hrun
    refine ⟨_, by rw [hrun]; congr 1; rw [ivs_len]; rfl, setRow_heap w g _ _ 3 _ hg, below_setRow hb hBg _⟩

theorem Try.iinfo1 : (Try.prog.info? 3).map (·.size) = some 1 := by kernel_rfl

/-- The length of a row as a value. -/
def lenV : Value → Nat
  | .slice _ n _ => n
  | _ => 0

set_option maxRecDepth 100000 in
set_option maxHeartbeats 1000000 in
theorem spec_stopped_any (A : Option Addr) (ca : Nat) (l : List Int) (hl : l.length ≤ 1048576) (w : World) (hA : Ints w w.heap.size A l) (hP : Placed A ca) :
    Calls Try.prog 58 #[.slice A l.length ca] w fun e w' => e = .returned (.string (stopS l)) ∧ Below w.heap.size w w' := by
  obtain ⟨i0, hi, hz0, hz1, hz2⟩ := info_parts Try.iinfo
  obtain ⟨N, hN⟩ : ∃ N, N = stopN l.length := ⟨_, rfl⟩
  obtain ⟨n1, n2, n3⟩ := stopN_gt l.length
  have hy : (stopL l).length = N := by rw [stopL_len, hN]
  have hyt : stopT l N = stopL l := by rw [hN]; rfl
  have BY := fun A ca => spec_bytesof_any A ca (stopL l) (by omega)
  rw [hy] at BY
  have BY := Lib.hid BY
  rw [← hN] at n1 n2 n3
  have HY := Lib.hid hy; clear hy hN
  have HYT := Lib.hid hyt; clear hyt
  have HS := Lib.hid (stopT_snoc l)
  have HL := Lib.hid (stopT_len l)
  obtain ⟨b, hb⟩ : ∃ b, b = bytesOk (stopL l) := ⟨_, rfl⟩
  have hbs : b = false → stopS l = ⟨#[]⟩ := by
    intro h
    unfold stopS bytesR
    rw [← hb, h]
    rfl
  have HBS := Lib.hid hbs
  rw [← hb] at BY
  obtain ⟨s, hs⟩ : ∃ s, s = stopS l := ⟨_, rfl⟩
  have hs2 : bytesR (stopL l) = s := by rw [hs]; rfl
  rw [hs2] at BY
  rw [← hs] at HBS ⊢
  have hO := own_ints w w.heap.size [] (Nat.le_refl _) (by simp)
  have hB := (Below.refl w.heap.size w).alloc (Nat.le_refl _) (.cells (ivs []).toArray 3)
  have HO := Lib.hid hO
  have HB := Lib.hid hB
  have HI := Lib.hid (hA.below hB (Nat.le_refl _))
  have HP := Lib.hid hP
  clear hO hB hA hP hb hs hs2 hbs
  go_enter Try.func58, Try.ntmps58
  go_wp2_with (first
    | (at_builtin; refine append_ints rfl (.tmp 6) (.tmp 7) 82 rfl w i0 Try.underlying82 hi hz0 hz1 hz2 _ _ _ rfl HO.out _ _ _ _ rfl rfl _ HI.out HP.out (by simp; omega) HB.out ?_; intro v1 w1 hown1 hb1)
    | (at_builtin; refine append_one w1 rfl (.tmp 8) (.tmp 9) 82 rfl w 3 i0 (.int .i64 0) 8 Try.underlying82 hi hz0 hz1 hz2 rfl v1 l.length (ivs l) rfl (by simpa using hown1) (.int .i64 1) rfl rfl rfl (by omega) (by unfold maxLen; omega) hb1 ?_; intro v2 w2 hown2 hb2))
  have O2 := Lib.hid hown2
  have B2 := Lib.hid hb2
  clear hown1 hown2 hb1 hb2
  go_loopw [3] (fun v wr => ∃ t : Nat, l.length + 1 ≤ t ∧ t ≤ N ∧ wr.ownsRow w.heap.size 3 1 v t (ivs (stopT l t)) ∧ Below w.heap.size w wr)
    (fun v _ => N - lenV v)
  case atStart =>
    refine ⟨l.length + 1, Nat.le_refl _, n1, ?_, B2.out⟩
    have e : ivs (stopT l (l.length + 1)) = ivs l ++ [.int .i64 1] := by
      unfold stopT
      rw [show l.length + 1 - l.length - 1 = 0 by omega, ivs_append]
      rfl
    rw [e]
    exact O2.out
  case round =>
    obtain ⟨t, ht1, ht2, hown, hbel⟩ := hrel
    rcases id hown.2 with ⟨_, h0⟩ | ⟨g, cap, cur, rfl, hcu⟩
    · exact absurd h0 (by omega)
    clear hcu
    have HW := Lib.hid hown; clear hown
    by_cases hlt : t < N
    · have hq : (((t : Int) % 8) != 0) = true := by rw [bne_iff_ne]; omega
      go_wp2_with (at_builtin; refine append_one wr rfl (.tmp 15) (.tmp 16) 82 rfl w 3 i0 (.int .i64 0) 8 Try.underlying82 hi hz0 hz1 hz2 rfl _ _ _ rfl HW.out (.int .i64 0) rfl rfl rfl (by omega) (by unfold maxLen; omega) hbel ?_; intro v' w' hown' hb')
      go_roundw
      case rel =>
        refine ⟨t + 1, by omega, by omega, ?_, hb'⟩
        rw [HS.out t ht1, ivs_append]
        exact hown'
      case measure =>
        rcases hown'.2 with ⟨_, h0⟩ | ⟨g, cap, cur, rfl, _⟩
        · omega
        · simp [lenV]; omega
    · obtain rfl : t = N := by omega
      have hq : (((t : Int) % 8) != 0) = false := by rw [bne_eq_false_iff_eq]; omega
      have O3 : Hid (OwnI wr w.heap.size (some ⟨g, 0, none⟩) cap (stopL l)) := by
        refine Lib.hid ?_
        unfold OwnI
        rw [HY.out, ← HYT.out]
        exact HW.out
      have hcap := O3.out.cap_le
      rw [HY.out] at hcap
      cases b with
      | true =>
        go_wp2_with fail
        refine (BY.out _ _ hcap _ (O3.out.ints (by rw [HY.out]; omega))).mono ?_
        rintro e w4 ⟨rfl, hb4⟩
        have B4 := Lib.hid (below_up hbel hb4 hbel.size); clear hb4
        go_wp2
        go_ret
        exact ⟨rfl, B4.out⟩
      | false =>
        go_wp2_with fail
        refine (BY.out _ _ hcap _ (O3.out.ints (by rw [HY.out]; omega))).mono ?_
        rintro e w4 ⟨rfl, hb4⟩
        have B4 := Lib.hid (below_up hbel hb4 hbel.size); clear hb4
        go_wp2
        go_ret
        exact ⟨by rw [HBS.out (by trivial)]; rfl, B4.out⟩

end Go.Proofs.Ythiplncceglnhaa
