/-
  Contracts of Stopped, in both texts, and the walk of its exact law. Condition: no more than 1048576 bits (the law asks no more).
-/
import Derived.Test.YthgddekklpojmaaPutBits
import Derived.Laws.CopyOwn
namespace Go.Proofs.Ythgddekklpojmaa
open Go.RowKit
set_option linter.unusedVariables false

/-- How many bits fill the bytes: one more than `n` at least. -/
def stopN (n : Nat) : Nat := n / 8 * 8 + 8
/-- The bits, a 1, and 0s: `t` of them. -/
def stopT (l : List Int) (t : Nat) : List Int := l ++ 1 :: List.replicate (t - l.length - 1) 0
def stopL (l : List Int) : List Int := stopT l (stopN l.length)
/-- What Stopped gives. -/
def stopS (l : List Int) : ByteArray := bytesR (stopL l)
theorem stopN_gt (n : Nat) : n + 1 ≤ stopN n ∧ stopN n ≤ n + 8 ∧ stopN n % 8 = 0 := by unfold stopN; omega
theorem stopT_len (l : List Int) (t : Nat) (h : l.length + 1 ≤ t) : (stopT l t).length = t := by
  simp [stopT]; omega
theorem stopT_snoc (l : List Int) (t : Nat) (h : l.length + 1 ≤ t) : stopT l (t + 1) = stopT l t ++ [0] := by
  unfold stopT
  rw [show t + 1 - l.length - 1 = (t - l.length - 1) + 1 by omega, List.replicate_succ']
  simp
theorem stopL_len (l : List Int) : (stopL l).length = stopN l.length := stopT_len l _ (stopN_gt _).1
/-- A row of zeros after the bits were copied into it and the 1 was set. -/
theorem stopL_set (l : List Int) (N : Nat) (hN : N = stopN l.length) : (l ++ List.replicate (N - l.length) 0).set l.length 1 = stopL l := by
  have h := stopN_gt l.length
  unfold stopL stopT
  rw [← hN]
  rw [← hN] at h
  rw [show N - l.length = (N - l.length - 1) + 1 by omega, List.replicate_succ, List.set_append_right _ _ (Nat.le_refl _), Nat.sub_self]
  rfl

/-- `copy(row, A)` into a row that is known whole and has room. -/
theorem copy_ints {P : Program} (w : World) (dT ty : TypeId) (hu : P.underlying dT = some (.slice 3)) (hs : (P.info? 3).map (·.size) = some 1) (g N : Nat) (cur : List Int) (hcur : cur.length = N) (hg : w.heap[g]? = some (.cells (ivs cur).toArray 3 (0, 0)))
    (A : Option Addr) (m c : Nat) (l : List Int) (hm : m = l.length) (h : Nat) (hA : Ints w h A l) (hmN : m ≤ N) (B : Nat) (w0 : World) (hb : Below B w0 w) (hBg : B ≤ g) :
    ∃ w', (Builtin.copy_ #[dT, dT] ty #[.slice (some ⟨g, 0, none⟩) N N, .slice A m c]).run P w = .ok (.int .i64 m) w' ∧ w'.heap[g]? = some (.cells (ivs (l ++ cur.drop m)).toArray 3 (0, 0)) ∧ Below B w0 w' := by
  subst hm
  by_cases h0 : l.length = 0
  · have hl : l = [] := List.eq_nil_of_length_eq_zero h0
    subst hl
    exact ⟨w, run_copy_none (P := P) w dT dT ty 3 _ A N N _ c hu hs (by simp), by simpa using hg, hb⟩
  · obtain ⟨b, off, rfl, _, hc⟩ := hA.at 0 (by omega)
    have hrun := run_copy_row (P := P) w dT dT ty 3 g 0 N N ⟨b, off, none⟩ l.length c (ivs cur).toArray 3 (ivs l) hu hs hg (by rw [ivs_len]; exact (Nat.min_eq_left hmN).symm)
      (fun j v hj => by
        have hj2 : j < l.length := by
          have := (List.getElem?_eq_some_iff.1 hj).1
          rwa [ivs_len] at this
        rw [Addr.add_lit, hc j hj2, ← hj, ivs_at l j hj2]) (by simp [ivs_len]; omega) (fun u hu => by
          simp only [ivs, List.mem_map] at hu
          obtain ⟨y, _, rfl⟩ := hu
          rfl)
    have e : ((ivs cur).toArray.toList.take 0 ++ ivs l ++ (ivs cur).toArray.toList.drop (0 + (ivs l).length)) = ivs (l ++ cur.drop l.length) := by
      rw [ivs_append, ivs_len, Nat.zero_add]
      simp [ivs, List.map_drop]
    rw [e] at hrun
    refine ⟨_, by rw [hrun]; congr 1; rw [ivs_len]; rfl, setRow_heap w g _ _ 3 _ hg, below_setRow hb hBg _⟩

theorem Try.iinfo1 : (Try.prog.info? 3).map (·.size) = some 1 := by kernel_rfl

set_option maxRecDepth 100000 in
set_option maxHeartbeats 1000000 in
theorem impl_stopped_any (A : Option Addr) (ca : Nat) (l : List Int) (hl : l.length ≤ 1048576) (w : World) (hA : Ints w w.heap.size A l) (hP : Placed A ca) :
    Calls Try.prog 14 #[.slice A l.length ca] w fun e w' => e = .returned (.string (stopS l)) ∧ Below w.heap.size w w' := by
  obtain ⟨n, hn⟩ : ∃ n, n = l.length := ⟨_, rfl⟩
  obtain ⟨N, hN⟩ : ∃ N, N = stopN l.length := ⟨_, rfl⟩
  obtain ⟨n1, n2, n3⟩ := stopN_gt l.length
  have hy : (stopL l).length = N := by rw [stopL_len, hN]
  have HS := Lib.hid (stopL_set l N hN)
  have hx : (n : Int) / 8 * 8 + 8 = (N : Int) := by rw [hN, hn]; unfold stopN; omega
  have BY := fun A ca => impl_bytesof_any A ca (stopL l) (by omega)
  rw [hy] at BY
  have BY := Lib.hid BY
  rw [← hN] at n1 n2
  rw [← hn] at hl n1 n2 ⊢
  have hmk := make_ints N ((n : Int) / 8 * 8 + 8) hx (by omega)
  have HY := Lib.hid hy; clear hy
  have HNL := Lib.hid hn
  obtain ⟨w2, hcp, hg2, hb2⟩ := copy_ints (P := Try.prog) (w.alloc (.cells (ivs (List.replicate N 0)).toArray 3)) 25 3 Try.underlying25 Try.iinfo1 w.heap.size N (List.replicate N 0) (by simp) (heap_alloc_new w _) A n ca l hn w.heap.size (hA.below (below_new w _) (Nat.le_refl _)) (by omega) w.heap.size w (below_new w _) (Nat.le_refl _)
  have hown : w2.ownsRow w.heap.size 3 1 (.slice (some ⟨w.heap.size, 0, none⟩) N N) N (ivs (l ++ List.replicate (N - n) 0)) := by
    rw [List.drop_replicate] at hg2
    have hl2 : (ivs (l ++ List.replicate (N - n) 0)).length = N := by rw [ivs_len, List.length_append, List.length_replicate]; omega
    refine ⟨by rw [hl2, Nat.mul_one], .inr ⟨w.heap.size, N, _, rfl, Nat.le_refl _, hg2, Nat.le_refl _, by unfold maxLen; omega, by simpa using hl2, ?_⟩⟩
    show List.take (N * 1) (ivs (l ++ List.replicate (N - n) 0)) = _
    rw [Nat.mul_one, List.take_of_length_le (by omega)]
  have hs := hown.stored n (.int .i64 1)
  rw [ivs_set] at hs
  have hc : ∃ b0 : Int, w2.cell? ⟨w.heap.size, n, none⟩ = some (.int .i64 b0) := ⟨_, (hown.cellAt n (by omega)).trans (ivs_at _ n (by rw [List.length_append, List.length_replicate]; omega))⟩
  obtain ⟨b0, hc⟩ := hc
  have hz := hown.frozenAt n
  have e : (l ++ List.replicate (N - n) 0).set n 1 = stopL l := by rw [hn]; exact HS.out
  rw [e] at hs
  have hb3 : Below w.heap.size w (w2.setCell ⟨w.heap.size, n, none⟩ (.int .i64 1)) := hb2.setCell (p := ⟨w.heap.size, n, none⟩) (Nat.le_refl _) _
  have O3 : Hid (OwnI (w2.setCell ⟨w.heap.size, n, none⟩ (.int .i64 1)) w.heap.size (some ⟨w.heap.size, 0, none⟩) N (stopL l)) := by
    refine Lib.hid ?_
    unfold OwnI
    rw [HY.out]
    exact hs.1
  have B3 := Lib.hid hb3
  have hlt : n < N := by omega
  clear hn hN hx hA hP e hs hb3 hown hg2 hb2
  go_enter Try.func14, Try.ntmps14
  go_wp2_with fail
  refine (BY.out _ _ _ (O3.out.ints (by rw [HY.out]; omega))).mono ?_
  rintro e w4 ⟨rfl, hb4⟩
  have B4 := Lib.hid (below_up B3.out hb4 B3.out.size); clear hb4
  go_wp2
  go_ret
  exact ⟨rfl, B4.out⟩

/-- The length of a row as a value. -/
def lenV : Value → Nat
  | .slice _ n _ => n
  | _ => 0

end Go.Proofs.Ythgddekklpojmaa
