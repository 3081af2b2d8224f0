/-
  Contracts of PutBits, in both texts, and the walk of its exact law. Condition: no more than 1048576 bits (the law asks no more).
  Contracts of Stopped, in both texts, and the walk of its exact law. Condition: no more than 1048576 bits (the law asks no more).
  What the law on writing bits needs of numbers: the bits of the bytes are the bits that were written, and the end is seen where it is. No condition but those that each lemma states.
-/
import Derived.Test.YtgacldhpohnpaaaBits1
import Derived.Test.YtgacldhpohnpaaaRead
import Derived.Laws.CopyOwn
namespace Go.Proofs.Ytgacldhpohnpaaa
open Go.RowKit
set_option linter.unusedVariables false

theorem OwnI.low {w : World} {base base' : Nat} {A : Option Addr} {cap : Nat} {l : List Int} (h : OwnI w base A cap l) (hb : base' ≤ base) : OwnI w base' A cap l := by
  refine ⟨h.1, ?_⟩
  rcases h.2 with h1 | ⟨g, c, cur, h1, h2, h3⟩
  · exact .inl h1
  · exact .inr ⟨g, c, cur, h1, Nat.le_trans hb h2, h3⟩

/-- The bits are appended. -/
def putOk (l : List Int) (n k : Int) : Bool := decide (0 ≤ k) && decide (k ≤ 32) && decide (0 ≤ n) && decide (n < 2 ^ k.toNat) && decide ((l.length : Int) + k ≤ 200000)
/-- What PutBits gives. -/
def putR (l : List Int) (n k : Int) : List Int := if putOk l n k then l ++ inL n.toNat k.toNat k.toNat else l

theorem putOk_nat (l : List Int) (n k : Int) (h : putOk l n k = true) : ∃ a b : Nat, n = (a : Int) ∧ k = (b : Int) ∧ b ≤ 32 ∧ a < 2 ^ b ∧ l.length + b ≤ 200000 := by
  simp only [putOk, Bool.and_eq_true, decide_eq_true_eq] at h
  obtain ⟨⟨⟨⟨h1, h2⟩, h3⟩, h4⟩, h5⟩ := h
  obtain ⟨a, rfl⟩ := Int.eq_ofNat_of_zero_le h3
  obtain ⟨b, rfl⟩ := Int.eq_ofNat_of_zero_le h1
  rw [Int.toNat_natCast] at h4
  exact ⟨a, b, rfl, rfl, by omega, by exact_mod_cast h4, by omega⟩
/-- The ways in which they are not. -/
theorem putOk_ways (l : List Int) (n k : Int) (h : putOk l n k = false) : k < 0 ∨ (0 ≤ k ∧ 32 < k) ∨ (0 ≤ k ∧ k ≤ 32 ∧ n < 0) ∨ ∃ a b : Nat, n = (a : Int) ∧ k = (b : Int) ∧ b ≤ 32 ∧ (2 ^ b ≤ a ∨ a < 2 ^ b ∧ 200000 < l.length + b) := by
  by_cases h1 : k < 0
  · exact .inl h1
  · by_cases h2 : 32 < k
    · exact .inr (.inl ⟨by omega, h2⟩)
    · by_cases h3 : n < 0
      · exact .inr (.inr (.inl ⟨by omega, by omega, h3⟩))
      · obtain ⟨a, rfl⟩ := Int.eq_ofNat_of_zero_le (show 0 ≤ n by omega)
        obtain ⟨b, rfl⟩ := Int.eq_ofNat_of_zero_le (show 0 ≤ k by omega)
        refine .inr (.inr (.inr ⟨a, b, rfl, rfl, by omega, ?_⟩))
        by_cases h4 : 2 ^ b ≤ a
        · exact .inl h4
        · refine .inr ⟨by omega, Nat.lt_of_not_le fun h5 => ?_⟩
          have h6 : ((a : Int) < 2 ^ (b : Int).toNat) := by
            rw [Int.toNat_natCast]
            exact_mod_cast Nat.lt_of_not_le h4
          rw [putOk, decide_eq_true (by omega), decide_eq_true (by omega), decide_eq_true (by omega), decide_eq_true h6, decide_eq_true (by omega)] at h
          exact absurd h (by decide)

theorem putR_len (l : List Int) (n k : Int) (hl : l.length ≤ 1048576) : (putR l n k).length ≤ 1048576 := by
  cases h : putOk l n k with
  | true =>
    obtain ⟨a, b, rfl, rfl, hb, ha, hlb⟩ := putOk_nat l n k h
    have e : putR l a b = l ++ inL a b b := by rw [putR, h]; rfl
    rw [e, List.length_append, inL_len]
    omega
  | false =>
    have e : putR l n k = l := by rw [putR, h]; rfl
    rw [e]
    exact hl

/-- A row of one's own while another row is written that is older. -/
theorem OwnI.other {w w' : World} {base : Nat} {A : Option Addr} {cap : Nat} {l : List Int} {r : Option Nat} (h : OwnI w base A cap l) (hg : w.grownBy w' r) (hr : ∀ k, r = some k → k < base) : OwnI w' base A cap l := by
  refine World.ownsRow.kept (row := r) h hg ?_
  cases hv : (Value.slice A l.length cap).ownBlock with
  | none => simp
  | some b =>
    have h1 := (World.ownsRow.lt h b hv).1
    cases r with
    | none => simp
    | some k =>
      have h2 := hr k rfl
      simp
      omega
theorem OwnI.block {w : World} {base : Nat} {A : Option Addr} {cap : Nat} {l : List Int} (h : OwnI w base A cap l) : ∀ k, (Value.slice A l.length cap).ownBlock = some k → base ≤ k ∧ k < w.heap.size := World.ownsRow.lt h

end Go.Proofs.Ytgacldhpohnpaaa

namespace Go.Proofs.Ytgacldhpohnpaaa
open Go.RowKit
set_option linter.unusedVariables false

/-- How many bits fill the bytes: one more than `n` at least. -/
def stopN (n : Nat) : Nat := n / 8 * 8 + 8
/-- The bits, a 1, and 0s: `t` of them. -/
def stopT (l : List Int) (t : Nat) : List Int := l ++ 1 :: List.replicate (t - l.length - 1) 0
def stopL (l : List Int) : List Int := stopT l (stopN l.length)
/-- What Stopped gives. -/
def stopS (l : List Int) : ByteArray := bytesR (stopL l)
theorem stopN_gt (n : Nat) : n + 1 ≤ stopN n ∧ stopN n ≤ n + 8 ∧ stopN n % 8 = 0 := by unfold stopN; omega
theorem stopT_len (l : List Int) (t : Nat) (h : l.length + 1 ≤ t) : (stopT l t).length = t := by
  simp [stopT]; omega
theorem stopT_snoc (l : List Int) (t : Nat) (h : l.length + 1 ≤ t) : stopT l (t + 1) = stopT l t ++ [0] := by
  unfold stopT
  rw [show t + 1 - l.length - 1 = (t - l.length - 1) + 1 by omega, List.replicate_succ']
  simp
theorem stopL_len (l : List Int) : (stopL l).length = stopN l.length := stopT_len l _ (stopN_gt _).1
/-- A row of zeros after the bits were copied into it and the 1 was set. -/
theorem stopL_set (l : List Int) (N : Nat) (hN : N = stopN l.length) : (l ++ List.replicate (N - l.length) 0).set l.length 1 = stopL l := by
  have h := stopN_gt l.length
  unfold stopL stopT
  rw [← hN]
  rw [← hN] at h
  rw [show N - l.length = (N - l.length - 1) + 1 by omega, List.replicate_succ, List.set_append_right _ _ (Nat.le_refl _), Nat.sub_self]
  rfl

/-- `copy(row, A)` into a row that is known whole and has room. -/
theorem copy_ints {P : Program} (w : World) (dT ty : TypeId) (hu : P.underlying dT = some (.slice 3)) (hs : (P.info? 3).map (·.size) = some 1) (g N : Nat) (cur : List Int) (hcur : cur.length = N) (hg : w.heap[g]? = some (.cells (ivs cur).toArray 3 (0, 0)))
    (A : Option Addr) (m c : Nat) (l : List Int) (hm : m = l.length) (h : Nat) (hA : Ints w h A l) (hmN : m ≤ N) (B : Nat) (w0 : World) (hb : Below B w0 w) (hBg : B ≤ g) :
    ∃ w', (Builtin.copy_ #[dT, dT] ty #[.slice (some ⟨g, 0, none⟩) N N, .slice A m c]).run P w = .ok (.int .i64 m) w' ∧ w'.heap[g]? = some (.cells (ivs (l ++ cur.drop m)).toArray 3 (0, 0)) ∧ Below B w0 w' := by
  subst hm
  by_cases h0 : l.length = 0
  · have hl : l = [] := List.eq_nil_of_length_eq_zero h0
    subst hl
    exact ⟨w, run_copy_none (P := P) w dT dT ty 3 _ A N N _ c hu hs (by simp), by simpa using hg, hb⟩
  · obtain ⟨b, off, rfl, _, hc⟩ := hA.at 0 (by omega)
    have hrun := run_copy_row (P := P) w dT dT ty 3 g 0 N N ⟨b, off, none⟩ l.length c (ivs cur).toArray 3 (ivs l) hu hs hg (by rw [ivs_len]; exact (Nat.min_eq_left hmN).symm)
      (fun j v hj => by
        have hj2 : j < l.length := by
          have := (List.getElem?_eq_some_iff.1 hj).1
          rwa [ivs_len] at this
        rw [Addr.add_lit, hc j hj2, ← hj, ivs_at l j hj2]) (by simp [ivs_len]; omega) (fun u hu => by
          simp only [ivs, List.mem_map] at hu
          obtain ⟨y, _, rfl⟩ := hu
          rfl)
    have e : ((ivs cur).toArray.toList.take 0 ++ ivs l ++ (ivs cur).toArray.toList.drop (0 + (ivs l).length)) = ivs (l ++ cur.drop l.length) := by
      rw [ivs_append, ivs_len, Nat.zero_add]
      simp [ivs, List.map_drop]
    rw [e] at hrun
    refine ⟨_, by rw [hrun]; congr 1; rw [ivs_len]; rfl, setRow_heap w g _ _ 3 _ hg, below_setRow hb hBg _⟩

theorem Try.iinfo1 : (Try.prog.info? 3).map (·.size) = some 1 := by kernel_rfl

set_option maxRecDepth 100000 in
set_option maxHeartbeats 1000000 in
theorem impl_stopped_any (A : Option Addr) (ca : Nat) (l : List Int) (hl : l.length ≤ 1048576) (w : World) (hA : Ints w w.heap.size A l) (hP : Placed A ca) :
    Calls Try.prog 32 #[.slice A l.length ca] w fun e w' => e = .returned (.string (stopS l)) ∧ Below w.heap.size w w' := by
  obtain ⟨n, hn⟩ : ∃ n, n = l.length := ⟨_, rfl⟩
  obtain ⟨N, hN⟩ : ∃ N, N = stopN l.length := ⟨_, rfl⟩
  obtain ⟨n1, n2, n3⟩ := stopN_gt l.length
  have hy : (stopL l).length = N := by rw [stopL_len, hN]
  have HS := Lib.hid (stopL_set l N hN)
  have hx : (n : Int) / 8 * 8 + 8 = (N : Int) := by rw [hN, hn]; unfold stopN; omega
  have BY := fun A ca => impl_bytesof_any A ca (stopL l) (by omega)
  rw [hy] at BY
  have BY := Lib.hid BY
  rw [← hN] at n1 n2
  rw [← hn] at hl n1 n2 ⊢
  have hmk := make_ints N ((n : Int) / 8 * 8 + 8) hx (by omega)
  have HY := Lib.hid hy; clear hy
  have HNL := Lib.hid hn
  obtain ⟨w2, hcp, hg2, hb2⟩ := copy_ints (P := Try.prog) (w.alloc (.cells (ivs (List.replicate N 0)).toArray 3)) 39 3 Try.underlying39 Try.iinfo1 w.heap.size N (List.replicate N 0) (by simp) (heap_alloc_new w _) A n ca l hn w.heap.size (hA.below (below_new w _) (Nat.le_refl _)) (by omega) w.heap.size w (below_new w _) (Nat.le_refl _)
  have hown : w2.ownsRow w.heap.size 3 1 (.slice (some ⟨w.heap.size, 0, none⟩) N N) N (ivs (l ++ List.replicate (N - n) 0)) := by
    rw [List.drop_replicate] at hg2
    have hl2 : (ivs (l ++ List.replicate (N - n) 0)).length = N := by rw [ivs_len, List.length_append, List.length_replicate]; omega
    refine ⟨by rw [hl2, Nat.mul_one], .inr ⟨w.heap.size, N, _, rfl, Nat.le_refl _, hg2, Nat.le_refl _, by unfold maxLen; omega, by simpa using hl2, ?_⟩⟩
    show List.take (N * 1) (ivs (l ++ List.replicate (N - n) 0)) = _
    rw [Nat.mul_one, List.take_of_length_le (by omega)]
  have hs := hown.stored n (.int .i64 1)
  rw [ivs_set] at hs
  have hc : ∃ b0 : Int, w2.cell? ⟨w.heap.size, n, none⟩ = some (.int .i64 b0) := ⟨_, (hown.cellAt n (by omega)).trans (ivs_at _ n (by rw [List.length_append, List.length_replicate]; omega))⟩
  obtain ⟨b0, hc⟩ := hc
  have hz := hown.frozenAt n
  have e : (l ++ List.replicate (N - n) 0).set n 1 = stopL l := by rw [hn]; exact HS.out
  rw [e] at hs
  have hb3 : Below w.heap.size w (w2.setCell ⟨w.heap.size, n, none⟩ (.int .i64 1)) := hb2.setCell (p := ⟨w.heap.size, n, none⟩) (Nat.le_refl _) _
  have O3 : Hid (OwnI (w2.setCell ⟨w.heap.size, n, none⟩ (.int .i64 1)) w.heap.size (some ⟨w.heap.size, 0, none⟩) N (stopL l)) := by
    refine Lib.hid ?_
    unfold OwnI
    rw [HY.out]
    exact hs.1
  have B3 := Lib.hid hb3
  have hlt : n < N := by omega
  clear hn hN hx hA hP e hs hb3 hown hg2 hb2
  go_enter Try.func32, Try.ntmps32
  go_wp2_with fail
  refine (BY.out _ _ _ (O3.out.ints (by rw [HY.out]; omega))).mono ?_
  rintro e w4 ⟨rfl, hb4⟩
  have B4 := Lib.hid (below_up B3.out hb4 B3.out.size); clear hb4
  go_wp2
  go_ret
  exact ⟨rfl, B4.out⟩

/-- The length of a row as a value. -/
def lenV : Value → Nat
  | .slice _ n _ => n
  | _ => 0

set_option maxRecDepth 100000 in
set_option maxHeartbeats 1000000 in
theorem spec_stopped_any (A : Option Addr) (ca : Nat) (l : List Int) (hl : l.length ≤ 1048576) (w : World) (hA : Ints w w.heap.size A l) (hP : Placed A ca) :
    Calls Try.prog 95 #[.slice A l.length ca] w fun e w' => e = .returned (.string (stopS l)) ∧ Below w.heap.size w w' := by
  obtain ⟨i0, hi, hz0, hz1, hz2⟩ := info_parts Try.iinfo
  obtain ⟨N, hN⟩ : ∃ N, N = stopN l.length := ⟨_, rfl⟩
  obtain ⟨n1, n2, n3⟩ := stopN_gt l.length
  have hy : (stopL l).length = N := by rw [stopL_len, hN]
  have hyt : stopT l N = stopL l := by rw [hN]; rfl
  have BY := fun A ca => spec_bytesof_any A ca (stopL l) (by omega)
  rw [hy] at BY
  have BY := Lib.hid BY
  rw [← hN] at n1 n2 n3
  have HY := Lib.hid hy; clear hy hN
  have HYT := Lib.hid hyt; clear hyt
  have HS := Lib.hid (stopT_snoc l)
  have HL := Lib.hid (stopT_len l)
  obtain ⟨b, hb⟩ : ∃ b, b = bytesOk (stopL l) := ⟨_, rfl⟩
  have hbs : b = false → stopS l = ⟨#[]⟩ := by
    intro h
    unfold stopS bytesR
    rw [← hb, h]
    rfl
  have HBS := Lib.hid hbs
  rw [← hb] at BY
  obtain ⟨s, hs⟩ : ∃ s, s = stopS l := ⟨_, rfl⟩
  have hs2 : bytesR (stopL l) = s := by rw [hs]; rfl
  rw [hs2] at BY
  rw [← hs] at HBS ⊢
  have hO := own_ints w w.heap.size [] (Nat.le_refl _) (by simp)
  have hB := (Below.refl w.heap.size w).alloc (Nat.le_refl _) (.cells (ivs []).toArray 3)
  have HO := Lib.hid hO
  have HB := Lib.hid hB
  have HI := Lib.hid (hA.below hB (Nat.le_refl _))
  have HP := Lib.hid hP
  clear hO hB hA hP hb hs hs2 hbs
  go_enter Try.func95, Try.ntmps95
  go_wp2_with (first
    | (at_builtin; refine append_ints rfl (.tmp 6) (.tmp 7) 39 rfl w i0 Try.underlying39 hi hz0 hz1 hz2 _ _ _ rfl HO.out _ _ _ _ rfl rfl _ HI.out HP.out (by simp; omega) HB.out ?_; intro v1 w1 hown1 hb1)
    | (at_builtin; refine append_one w1 rfl (.tmp 8) (.tmp 9) 39 rfl w 3 i0 (.int .i64 0) 8 Try.underlying39 hi hz0 hz1 hz2 rfl v1 l.length (ivs l) rfl (by simpa using hown1) (.int .i64 1) rfl rfl rfl (by omega) (by unfold maxLen; omega) hb1 ?_; intro v2 w2 hown2 hb2))
  have O2 := Lib.hid hown2
  have B2 := Lib.hid hb2
  clear hown1 hown2 hb1 hb2
  go_loopw [3] (fun v wr => ∃ t : Nat, l.length + 1 ≤ t ∧ t ≤ N ∧ wr.ownsRow w.heap.size 3 1 v t (ivs (stopT l t)) ∧ Below w.heap.size w wr)
    (fun v _ => N - lenV v)
  case atStart =>
    refine ⟨l.length + 1, Nat.le_refl _, n1, ?_, B2.out⟩
    have e : ivs (stopT l (l.length + 1)) = ivs l ++ [.int .i64 1] := by
      unfold stopT
      rw [show l.length + 1 - l.length - 1 = 0 by omega, ivs_append]
      rfl
    rw [e]
    exact O2.out
  case round =>
    obtain ⟨t, ht1, ht2, hown, hbel⟩ := hrel
    rcases id hown.2 with ⟨_, h0⟩ | ⟨g, cap, cur, rfl, hcu⟩
    · exact absurd h0 (by omega)
    clear hcu
    have HW := Lib.hid hown; clear hown
    by_cases hlt : t < N
    · have hq : (((t : Int) % 8) != 0) = true := by rw [bne_iff_ne]; omega
      go_wp2_with (at_builtin; refine append_one wr rfl (.tmp 15) (.tmp 16) 39 rfl w 3 i0 (.int .i64 0) 8 Try.underlying39 hi hz0 hz1 hz2 rfl _ _ _ rfl HW.out (.int .i64 0) rfl rfl rfl (by omega) (by unfold maxLen; omega) hbel ?_; intro v' w' hown' hb')
      go_roundw
      case rel =>
        refine ⟨t + 1, by omega, by omega, ?_, hb'⟩
        rw [HS.out t ht1, ivs_append]
        exact hown'
      case measure =>
        rcases hown'.2 with ⟨_, h0⟩ | ⟨g, cap, cur, rfl, _⟩
        · omega
        · simp [lenV]; omega
    · obtain rfl : t = N := by omega
      have hq : (((t : Int) % 8) != 0) = false := by rw [bne_eq_false_iff_eq]; omega
      have O3 : Hid (OwnI wr w.heap.size (some ⟨g, 0, none⟩) cap (stopL l)) := by
        refine Lib.hid ?_
        unfold OwnI
        rw [HY.out, ← HYT.out]
        exact HW.out
      have hcap := O3.out.cap_le
      rw [HY.out] at hcap
      cases b with
      | true =>
        go_wp2_with fail
        refine (BY.out _ _ hcap _ (O3.out.ints (by rw [HY.out]; omega))).mono ?_
        rintro e w4 ⟨rfl, hb4⟩
        have B4 := Lib.hid (below_up hbel hb4 hbel.size); clear hb4
        go_wp2
        go_ret
        exact ⟨rfl, B4.out⟩
      | false =>
        go_wp2_with fail
        refine (BY.out _ _ hcap _ (O3.out.ints (by rw [HY.out]; omega))).mono ?_
        rintro e w4 ⟨rfl, hb4⟩
        have B4 := Lib.hid (below_up hbel hb4 hbel.size); clear hb4
        go_wp2
        go_ret
        exact ⟨by rw [HBS.out (by trivial)]; rfl, B4.out⟩

end Go.Proofs.Ytgacldhpohnpaaa

namespace Go.Proofs.Ytgacldhpohnpaaa
open Go.RowKit
set_option linter.unusedVariables false

theorem getD_bit (l : List Int) (h : isBits l = true) (t : Nat) (ht : t < l.length) : l.getD t 0 = 0 ∨ l.getD t 0 = 1 := isBit_cases (isBits_at l h t ht)
/-- A bit of the number of bits. -/
theorem bin_bit (l : List Int) (h : isBits l = true) : ∀ j, j ≤ l.length → ∀ i, i < j → (((binV (l.take j)).toNat / 2 ^ (j - 1 - i) % 2 : Nat) : Int) = l.getD i 0
  | 0, _, i, hi => absurd hi (by omega)
  | j + 1, hj, i, hi => by
    obtain ⟨b0, _⟩ := binV_range l j (by omega) fun t ht => isBits_at l h t (by omega)
    obtain ⟨B, hB⟩ := Int.eq_ofNat_of_zero_le b0
    have hx := getD_bit l h j (by omega)
    rw [take_snoc_i l j (by omega), binV_snoc, hB]
    by_cases e : i = j
    · subst e
      rw [show i + 1 - 1 - i = 0 by omega, Nat.pow_zero, Nat.div_one]
      omega
    · have ih := bin_bit l h j (by omega) i (by omega)
      rw [hB, Int.toNat_natCast] at ih
      rw [show j + 1 - 1 - i = (j - 1 - i) + 1 by omega, Nat.pow_succ', ← Nat.div_div_eq_div_mul]
      have e2 : (2 * (B : Int) + l.getD j 0).toNat / 2 = B := by omega
      rw [e2]
      exact ih
/-- A bit of the bytes. -/
theorem bitN_bytes (l : List Int) (k : Nat) (hl : l.length = 8 * k) (h : isBits l = true) (t : Nat) (ht : t < 8 * k) : (bitN (bs (bytesL l k)) t : Int) = l.getD t 0 := by
  have hk : t / 8 < k := by omega
  have hseg : (seg l (t / 8)).length = 8 := seg_len l (t / 8) (by omega)
  have hsb : isBits (seg l (t / 8)) = true := by rw [← part_all]; exact isBits_part l h _ _
  obtain ⟨r0, r1⟩ := binV_bits (seg l (t / 8)) hsb
  rw [hseg] at r1
  have hbyte : byteAt (bs (bytesL l k)) (t / 8) = (binV (seg l (t / 8))).toNat := by
    unfold byteAt
    rw [show (bs (bytesL l k)).data.toList = bytesL l k by simp [bs], List.getD_eq_getElem?_getD, List.getElem?_eq_getElem (by rw [bytesL_len]; exact hk)]
    have e : (bytesL l k)[t / 8]'(by rw [bytesL_len]; exact hk) = byteOf l (t / 8) := by simp [bytesL]
    rw [Option.getD_some, e]
    unfold byteOf
    simp
    omega
  have hb := bin_bit (seg l (t / 8)) hsb 8 (by omega) (t % 8) (by omega)
  rw [List.take_of_length_le (by omega), seg_at l (t / 8) (t % 8) (by omega) (by omega), show 8 * (t / 8) + t % 8 = t by omega] at hb
  unfold bitN
  rw [hbyte]
  exact hb

theorem isBits_append (a b : List Int) : isBits (a ++ b) = (isBits a && isBits b) := by unfold isBits; rw [List.all_append]
theorem isBits_zeros (n : Nat) : isBits (List.replicate n 0) = true := by
  unfold isBits
  rw [List.all_eq_true]
  intro x hx
  rw [List.eq_of_mem_replicate hx]
  rfl
theorem stopL_bits (l : List Int) : isBits (stopL l) = isBits l := by
  unfold stopL stopT
  rw [isBits_append]
  have e : isBits (1 :: List.replicate (stopN l.length - l.length - 1) 0) = true := by
    have := isBits_zeros (stopN l.length - l.length - 1)
    unfold isBits at this ⊢
    rw [List.all_cons, this]
    rfl
  rw [e, Bool.and_true]
theorem stopS_no (l : List Int) (h : isBits l = false) : stopS l = bs [] := by
  unfold stopS bytesR bytesOk
  rw [stopL_bits, h, Bool.and_false]
  rfl
theorem stopS_yes (l : List Int) (h : isBits l = true) : stopS l = bs (bytesL (stopL l) (stopN l.length / 8)) := by
  unfold stopS bytesR bytesOk
  have := (stopN_gt l.length).2.2
  rw [stopL_bits, h, stopL_len, decide_eq_true this]
  rfl
theorem stopS_len (l : List Int) (h : isBits l = true) : 8 * (stopS l).size = stopN l.length := by
  rw [stopS_yes l h, bs_size, bytesL_len]
  have := (stopN_gt l.length).2.2
  omega
theorem stopS_bit (l : List Int) (h : isBits l = true) (t : Nat) (ht : t < stopN l.length) : (bitN (stopS l) t : Int) = (stopL l).getD t 0 := by
  have h8 := (stopN_gt l.length).2.2
  rw [stopS_yes l h]
  exact bitN_bytes (stopL l) (stopN l.length / 8) (by rw [stopL_len]; omega) (by rw [stopL_bits, h]) t (by omega)
theorem stopL_old (l : List Int) (t : Nat) (ht : t < l.length) : (stopL l).getD t 0 = l.getD t 0 := by
  unfold stopL stopT
  rw [List.getD_eq_getElem?_getD, List.getElem?_append_left ht, ← List.getD_eq_getElem?_getD]
theorem stopL_one (l : List Int) : (stopL l).getD l.length 0 = 1 := by
  unfold stopL stopT
  rw [List.getD_eq_getElem?_getD, List.getElem?_append_right (Nat.le_refl _), Nat.sub_self]
  rfl
theorem stopL_zero (l : List Int) (t : Nat) (ht : l.length < t) : (stopL l).getD t 0 = 0 := by
  unfold stopL stopT
  rw [List.getD_eq_getElem?_getD, List.getElem?_append_right (by omega), show t - l.length = (t - l.length - 1) + 1 by omega, List.getElem?_cons_succ, List.getElem?_replicate]
  split <;> rfl

theorem stopS_left (l : List Int) (h : isBits l = true) (a : Nat) (ha : a ≤ stopN l.length) : rdOk (stopS l) (a : Int) = true ∧ leftV (stopS l) (a : Int) = (stopN l.length : Int) - (a : Int) := by
  have h8 := stopS_len l h
  have h1 : rdOk (stopS l) (a : Int) = true := by rw [rdOk_true]; omega
  refine ⟨h1, ?_⟩
  rw [leftV, if_pos h1]
  omega
theorem stopS_bitV (l : List Int) (h : isBits l = true) (a : Nat) (ha : a < stopN l.length) : bitV (stopS l) (a : Int) = (stopL l).getD a 0 := by
  have h8 := stopS_len l h
  rw [bitV, if_pos ⟨by omega, by omega⟩, Int.toNat_natCast, stopS_bit l h a ha]
/-- The end is seen behind the bits. -/
theorem stopS_end (l : List Int) (h : isBits l = true) : soV (stopS l) (l.length : Int) = 0 := by
  obtain ⟨n1, n2, n3⟩ := stopN_gt l.length
  have h8 := stopS_len l h
  have hL := (stopS_left l h l.length (by omega)).2
  have hB := stopS_bitV l h l.length (by omega)
  rw [stopL_one] at hB
  have hok : rdOk (stopS l) ((l.length : Int) + 1) = true := by rw [rdOk_true]; omega
  have hZ : zaV (stopS l) ((l.length : Int) + 1) = leftV (stopS l) (l.length : Int) - 1 := by
    rw [zaV, if_pos hok, hL, show ((l.length : Int) + 1).toNat = l.length + 1 by omega, h8]
    obtain ⟨z1, _, z3⟩ := zrun_spec (stopS l) (stopN l.length - (l.length + 1)) (l.length + 1)
    by_cases hlt : zrun (stopS l) (l.length + 1) (stopN l.length - (l.length + 1)) < stopN l.length - (l.length + 1)
    · have h1 := z3 hlt
      have h2 := stopS_bit l h (l.length + 1 + zrun (stopS l) (l.length + 1) (stopN l.length - (l.length + 1))) (by omega)
      rw [h1, stopL_zero l _ (by omega)] at h2
      exact absurd h2 (by decide)
    · omega
  rw [soV, if_neg (by omega), if_pos ⟨by omega, hB, hZ⟩]
/-- It is not seen at a bit that is 0. -/
theorem stopS_before (l : List Int) (h : isBits l = true) (K : Nat) (hK : K < l.length) (hne : l.getD K 0 ≠ 1) : soV (stopS l) (K : Int) ≠ 0 := by
  obtain ⟨n1, n2, n3⟩ := stopN_gt l.length
  have hB := stopS_bitV l h K (by omega)
  rw [stopL_old l K hK] at hB
  unfold soV
  split
  · decide
  · rw [if_neg (fun hh => hne (hB ▸ hh.2.1))]
    decide
/-- What was appended is read. -/
theorem rdN_put (s : ByteArray) (a n k : Nat) (hn : n < 2 ^ k) (h : ∀ j, j < k → (bitN s (a + j) : Int) = ((n / 2 ^ (k - 1 - j) % 2 : Nat) : Int)) : ∀ j, j ≤ k → rdN s a j = n / 2 ^ (k - j)
  | 0, _ => by rw [Nat.sub_zero, Nat.div_eq_of_lt hn]; rfl
  | j + 1, hj => by
    have hb := h j (by omega)
    have e : n / 2 ^ (k - j) = n / 2 ^ (k - 1 - j) / 2 := by
      rw [Nat.div_div_eq_div_mul, ← Nat.pow_succ, show (k - 1 - j).succ = k - j by omega]
    rw [rdN, rdN_put s a n k hn h j (by omega), e, show k - (j + 1) = k - 1 - j by omega]
    omega
theorem stopS_put (l : List Int) (n k : Nat) (hn : n < 2 ^ k) (h : isBits (l ++ inL n k k) = true) : rdN (stopS (l ++ inL n k k)) l.length k = n := by
  obtain ⟨n1, n2, n3⟩ := stopN_gt (l ++ inL n k k).length
  have hlen : (l ++ inL n k k).length = l.length + k := by rw [List.length_append, inL_len]
  have h1 := rdN_put (stopS (l ++ inL n k k)) l.length n k hn (fun j hj => by
    rw [stopS_bit _ h (l.length + j) (by omega), stopL_old _ _ (by omega), List.getD_eq_getElem?_getD, List.getElem?_append_right (by omega), Nat.add_sub_cancel_left, ← List.getD_eq_getElem?_getD, inL_at n k k j hj]) k (Nat.le_refl _)
  rw [h1, Nat.sub_self, Nat.pow_zero, Nat.div_one]
end Go.Proofs.Ytgacldhpohnpaaa
