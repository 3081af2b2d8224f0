/-
  Contracts of PutBits, in both texts, and the walk of its exact law. Condition: no more than 1048576 bits (the law asks no more).
  Contracts of Stopped, in both texts, and the walk of its exact law. Condition: no more than 1048576 bits (the law asks no more).
  What the law on writing bits needs of numbers: the bits of the bytes are the bits that were written, and the end is seen where it is. No condition but those that each lemma states.
-/
import Derived.Test.YtemfiglflbfocaaBits1
import Derived.Test.YtemfiglflbfocaaRead
import Derived.Laws.CopyOwn
namespace Go.Proofs.Ytemfiglflbfocaa
open Go.RowKit
set_option linter.unusedVariables false

theorem OwnI.low {w : World} {base base' : Nat} {A : Option Addr} {cap : Nat} {l : List Int} (h : OwnI w base A cap l) (hb : base' ≤ base) : OwnI w base' A cap l := by
  refine ⟨h.1, ?_⟩
  rcases h.2 with h1 | ⟨g, c, cur, h1, h2, h3⟩
  · exact .inl h1
  · exact .inr ⟨g, c, cur, h1, Nat.le_trans hb h2, h3⟩

theorem concat1 (A : Option Addr) (ca : Nat) (l : List Int) (hl : l.length ≤ 2000000) (w : World) (T : TypeId) (hI : Ints w w.heap.size A l) (hP : Placed A ca) :
    Calls Try.prog 51 #[.slice (some ⟨w.heap.size, 0, none⟩) 1 1] (w.alloc (.cells #[.slice A l.length ca] T)) fun e w' => ∃ A' cap', e = .returned (.slice A' l.length cap') ∧ OwnI w' w.heap.size A' cap' l ∧ Below w.heap.size w w' := by
  have hb := below_new w (.cells #[.slice A l.length ca] T)
  have e : catN (fun _ => l) 1 = l := rfl
  have hle : w.heap.size ≤ (w.alloc (.cells #[.slice A l.length ca] T)).heap.size := hb.size
  have h := concat_any 1 (by decide) w.heap.size (fun _ => A) (fun _ => l) (fun _ => ca) (by rw [e]; omega) 1 (w.alloc (.cells #[.slice A l.length ca] T)) (by simp)
    (fun j hj => by obtain rfl : j = 0 := by omega
                    exact cell_of_row _ _ 0 _ _ _ (heap_alloc_new w _)) (fun _ _ => (hI.below hb (Nat.le_refl _)).mono hb.size) (fun _ _ => hP)
  rw [e] at h
  refine h.mono ?_
  rintro e w' ⟨A', c', he, ho, hb'⟩
  exact ⟨A', c', he, ho.low hle, below_step hb hb'⟩

theorem concat2 (A B : Option Addr) (ca cb : Nat) (l m : List Int) (hl : l.length + m.length ≤ 2000000) (w : World) (T : TypeId) (hI : Ints w w.heap.size A l) (hP : Placed A ca) (hJ : Ints w w.heap.size B m) (hQ : Placed B cb) :
    Calls Try.prog 51 #[.slice (some ⟨w.heap.size, 0, none⟩) 2 2] (w.alloc (.cells #[.slice A l.length ca, .slice B m.length cb] T)) fun e w' => ∃ A' cap', e = .returned (.slice A' (l ++ m).length cap') ∧ OwnI w' w.heap.size A' cap' (l ++ m) ∧ Below w.heap.size w w' := by
  have hb := below_new w (.cells #[.slice A l.length ca, .slice B m.length cb] T)
  have e : catN (fun j => if j = 0 then l else m) 2 = l ++ m := rfl
  have hle : w.heap.size ≤ (w.alloc (.cells #[.slice A l.length ca, .slice B m.length cb] T)).heap.size := hb.size
  have h := concat_any 2 (by decide) w.heap.size (fun j => if j = 0 then A else B) (fun j => if j = 0 then l else m) (fun j => if j = 0 then ca else cb) (by rw [e, List.length_append]; omega) 2 (w.alloc (.cells #[.slice A l.length ca, .slice B m.length cb] T)) (by simp)
    (fun j hj => by
      by_cases h0 : j = 0
      · subst h0; exact cell_of_row _ _ 0 _ _ _ (heap_alloc_new w _)
      · obtain rfl : j = 1 := by omega
        exact cell_of_row _ _ 1 _ _ _ (heap_alloc_new w _))
    (fun j _ => by
      by_cases h0 : j = 0
      · simp only [h0, if_true]; exact (hI.below hb (Nat.le_refl _)).mono hb.size
      · simp only [if_neg h0]; exact (hJ.below hb (Nat.le_refl _)).mono hb.size)
    (fun j _ => by
      by_cases h0 : j = 0
      · simp only [h0, if_true]; exact hP
      · simp only [if_neg h0]; exact hQ)
  rw [e] at h
  refine h.mono ?_
  rintro e w' ⟨A', c', he, ho, hb'⟩
  exact ⟨A', c', he, ho.low hle, below_step hb hb'⟩

/-- The bits are appended. -/
def putOk (l : List Int) (n k : Int) : Bool := decide (0 ≤ k) && decide (k ≤ 32) && decide (0 ≤ n) && decide (n < 2 ^ k.toNat) && decide ((l.length : Int) + k ≤ 200000)
/-- What PutBits gives. -/
def putR (l : List Int) (n k : Int) : List Int := if putOk l n k then l ++ inL n.toNat k.toNat k.toNat else l

theorem putOk_nat (l : List Int) (n k : Int) (h : putOk l n k = true) : ∃ a b : Nat, n = (a : Int) ∧ k = (b : Int) ∧ b ≤ 32 ∧ a < 2 ^ b ∧ l.length + b ≤ 200000 := by
  simp only [putOk, Bool.and_eq_true, decide_eq_true_eq] at h
  obtain ⟨⟨⟨⟨h1, h2⟩, h3⟩, h4⟩, h5⟩ := h
  obtain ⟨a, rfl⟩ := Int.eq_ofNat_of_zero_le h3
  obtain ⟨b, rfl⟩ := Int.eq_ofNat_of_zero_le h1
  rw [Int.toNat_natCast] at h4
  exact ⟨a, b, rfl, rfl, by omega, by exact_mod_cast h4, by omega⟩
/-- The ways in which they are not. -/
theorem putOk_ways (l : List Int) (n k : Int) (h : putOk l n k = false) : k < 0 ∨ (0 ≤ k ∧ 32 < k) ∨ (0 ≤ k ∧ k ≤ 32 ∧ n < 0) ∨ ∃ a b : Nat, n = (a : Int) ∧ k = (b : Int) ∧ b ≤ 32 ∧ (2 ^ b ≤ a ∨ a < 2 ^ b ∧ 200000 < l.length + b) := by
  by_cases h1 : k < 0
  · exact .inl h1
  · by_cases h2 : 32 < k
    · exact .inr (.inl ⟨by omega, h2⟩)
    · by_cases h3 : n < 0
      · exact .inr (.inr (.inl ⟨by omega, by omega, h3⟩))
      · obtain ⟨a, rfl⟩ := Int.eq_ofNat_of_zero_le (show 0 ≤ n by omega)
        obtain ⟨b, rfl⟩ := Int.eq_ofNat_of_zero_le (show 0 ≤ k by omega)
        refine .inr (.inr (.inr ⟨a, b, rfl, rfl, by omega, ?_⟩))
        by_cases h4 : 2 ^ b ≤ a
        · exact .inl h4
        · refine .inr ⟨by omega, Nat.lt_of_not_le fun h5 => ?_⟩
          have h6 : ((a : Int) < 2 ^ (b : Int).toNat) := by
            rw [Int.toNat_natCast]
            exact_mod_cast Nat.lt_of_not_le h4
          rw [putOk, decide_eq_true (by omega), decide_eq_true (by omega), decide_eq_true (by omega), decide_eq_true h6, decide_eq_true (by omega)] at h
          exact absurd h (by decide)

theorem putR_len (l : List Int) (n k : Int) (hl : l.length ≤ 1048576) : (putR l n k).length ≤ 1048576 := by
  cases h : putOk l n k with
  | true =>
    obtain ⟨a, b, rfl, rfl, hb, ha, hlb⟩ := putOk_nat l n k h
    have e : putR l a b = l ++ inL a b b := by rw [putR, h]; rfl
    rw [e, List.length_append, inL_len]
    omega
  | false =>
    have e : putR l n k = l := by rw [putR, h]; rfl
    rw [e]
    exact hl

/-- A row of one's own while another row is written that is older. -/
theorem OwnI.other {w w' : World} {base : Nat} {A : Option Addr} {cap : Nat} {l : List Int} {r : Option Nat} (h : OwnI w base A cap l) (hg : w.grownBy w' r) (hr : ∀ k, r = some k → k < base) : OwnI w' base A cap l := by
  refine World.ownsRow.kept (row := r) h hg ?_
  cases hv : (Value.slice A l.length cap).ownBlock with
  | none => simp
  | some b =>
    have h1 := (World.ownsRow.lt h b hv).1
    cases r with
    | none => simp
    | some k =>
      have h2 := hr k rfl
      simp
      omega
theorem OwnI.block {w : World} {base : Nat} {A : Option Addr} {cap : Nat} {l : List Int} (h : OwnI w base A cap l) : ∀ k, (Value.slice A l.length cap).ownBlock = some k → base ≤ k ∧ k < w.heap.size := World.ownsRow.lt h

end Go.Proofs.Ytemfiglflbfocaa

namespace Go.Proofs.Ytemfiglflbfocaa
open Go.RowKit
set_option linter.unusedVariables false

/-- How many bits fill the bytes: one more than `n` at least. -/
def stopN (n : Nat) : Nat := n / 8 * 8 + 8
/-- The bits, a 1, and 0s: `t` of them. -/
def stopT (l : List Int) (t : Nat) : List Int := l ++ 1 :: List.replicate (t - l.length - 1) 0
def stopL (l : List Int) : List Int := stopT l (stopN l.length)
/-- What Stopped gives. -/
def stopS (l : List Int) : ByteArray := bytesR (stopL l)
theorem stopN_gt (n : Nat) : n + 1 ≤ stopN n ∧ stopN n ≤ n + 8 ∧ stopN n % 8 = 0 := by unfold stopN; omega
theorem stopT_len (l : List Int) (t : Nat) (h : l.length + 1 ≤ t) : (stopT l t).length = t := by
  simp [stopT]; omega
theorem stopT_snoc (l : List Int) (t : Nat) (h : l.length + 1 ≤ t) : stopT l (t + 1) = stopT l t ++ [0] := by
  unfold stopT
  rw [show t + 1 - l.length - 1 = (t - l.length - 1) + 1 by omega, List.replicate_succ']
  simp
theorem stopL_len (l : List Int) : (stopL l).length = stopN l.length := stopT_len l _ (stopN_gt _).1
/-- A row of zeros after the bits were copied into it and the 1 was set. -/
theorem stopL_set (l : List Int) (N : Nat) (hN : N = stopN l.length) : (l ++ List.replicate (N - l.length) 0).set l.length 1 = stopL l := by
  have h := stopN_gt l.length
  unfold stopL stopT
  rw [← hN]
  rw [← hN] at h
  rw [show N - l.length = (N - l.length - 1) + 1 by omega, List.replicate_succ, List.set_append_right _ _ (Nat.le_refl _), Nat.sub_self]
  rfl

/-- `copy(row, A)` into a row that is known whole and has room. -/
theorem copy_ints {P : Program} (w : World) (dT ty : TypeId) (hu : P.underlying dT = some (.slice 3)) (hs : (P.info? 3).map (·.size) = some 1) (g N : Nat) (cur : List Int) (hcur : cur.length = N) (hg : w.heap[g]? = some (.cells (ivs cur).toArray 3 (0, 0)))
    (A : Option Addr) (m c : Nat) (l : List Int) (hm : m = l.length) (h : Nat) (hA : Ints w h A l) (hmN : m ≤ N) (B : Nat) (w0 : World) (hb : Below B w0 w) (hBg : B ≤ g) :
    ∃ w', (Builtin.copy_ #[dT, dT] ty #[.slice (some ⟨g, 0, none⟩) N N, .slice A m c]).run P w = .ok (.int .i64 m) w' ∧ w'.heap[g]? = some (.cells (ivs (l ++ cur.drop m)).toArray 3 (0, 0)) ∧ Below B w0 w' := by
  subst hm
  by_cases h0 : l.length = 0
  · have hl : l = [] := List.eq_nil_of_length_eq_zero h0
    subst hl
    exact ⟨w, run_copy_none (P := P) w dT dT ty 3 _ A N N _ c hu hs (by simp), by simpa using hg, hb⟩
  · obtain ⟨b, off, rfl, _, hc⟩ := hA.at 0 (by omega)
    have hrun := run_copy_row (P := P) w dT dT ty 3 g 0 N N ⟨b, off, none⟩ l.length c (ivs cur).toArray 3 (ivs l) hu hs hg (by rw [ivs_len]; exact (Nat.min_eq_left hmN).symm)
      (fun j v hj => by
        have hj2 : j < l.length := by
          have := (List.getElem?_eq_some_iff.1 hj).1
          rwa [ivs_len] at this
        rw [Addr.add_lit, hc j hj2, ← hj, ivs_at l j hj2]) (by simp [ivs_len]; omega) (fun u hu => by
          simp only [ivs, List.mem_map] at hu
          obtain ⟨y, _, rfl⟩ := hu
          rfl)
    have e : ((ivs cur).toArray.toList.take 0 ++ ivs l ++ (ivs cur).toArray.toList.drop (0 + (ivs l).length)) = ivs (l ++ cur.drop l.length) := by
      rw [ivs_append, ivs_len, Nat.zero_add]
      simp [ivs, List.map_drop]
    rw [e] at hrun
    refine ⟨_, by rw [hrun]; congr 1; rw [ivs_len]; rfl, setRow_heap w g _ _ 3 _ hg, below_setRow hb hBg _⟩

theorem Try.iinfo1 : (Try.prog.info? 3).map (·.size) = some 1 := by kernel_rfl

/-- The length of a row as a value. -/
def lenV : Value → Nat
  | .slice _ n _ => n
  | _ => 0

end Go.Proofs.Ytemfiglflbfocaa

namespace Go.Proofs.Ytemfiglflbfocaa
open Go.RowKit
set_option linter.unusedVariables false

theorem getD_bit (l : List Int) (h : isBits l = true) (t : Nat) (ht : t < l.length) : l.getD t 0 = 0 ∨ l.getD t 0 = 1 := isBit_cases (isBits_at l h t ht)
/-- A bit of the number of bits. -/
theorem bin_bit (l : List Int) (h : isBits l = true) : ∀ j, j ≤ l.length → ∀ i, i < j → (((binV (l.take j)).toNat / 2 ^ (j - 1 - i) % 2 : Nat) : Int) = l.getD i 0
  | 0, _, i, hi => absurd hi (by omega)
  | j + 1, hj, i, hi => by
    obtain ⟨b0, _⟩ := binV_range l j (by omega) fun t ht => isBits_at l h t (by omega)
    obtain ⟨B, hB⟩ := Int.eq_ofNat_of_zero_le b0
    have hx := getD_bit l h j (by omega)
    rw [take_snoc_i l j (by omega), binV_snoc, hB]
    by_cases e : i = j
    · subst e
      rw [show i + 1 - 1 - i = 0 by omega, Nat.pow_zero, Nat.div_one]
      omega
    · have ih := bin_bit l h j (by omega) i (by omega)
      rw [hB, Int.toNat_natCast] at ih
      rw [show j + 1 - 1 - i = (j - 1 - i) + 1 by omega, Nat.pow_succ', ← Nat.div_div_eq_div_mul]
      have e2 : (2 * (B : Int) + l.getD j 0).toNat / 2 = B := by omega
      rw [e2]
      exact ih
/-- A bit of the bytes. -/
theorem bitN_bytes (l : List Int) (k : Nat) (hl : l.length = 8 * k) (h : isBits l = true) (t : Nat) (ht : t < 8 * k) : (bitN (bs (bytesL l k)) t : Int) = l.getD t 0 := by
  have hk : t / 8 < k := by omega
  have hseg : (seg l (t / 8)).length = 8 := seg_len l (t / 8) (by omega)
  have hsb : isBits (seg l (t / 8)) = true := by rw [← part_all]; exact isBits_part l h _ _
  obtain ⟨r0, r1⟩ := binV_bits (seg l (t / 8)) hsb
  rw [hseg] at r1
  have hbyte : byteAt (bs (bytesL l k)) (t / 8) = (binV (seg l (t / 8))).toNat := by
    unfold byteAt
    rw [show (bs (bytesL l k)).data.toList = bytesL l k by simp [bs], List.getD_eq_getElem?_getD, List.getElem?_eq_getElem (by rw [bytesL_len]; exact hk)]
    have e : (bytesL l k)[t / 8]'(by rw [bytesL_len]; exact hk) = byteOf l (t / 8) := by simp [bytesL]
    rw [Option.getD_some, e]
    unfold byteOf
    simp
    omega
  have hb := bin_bit (seg l (t / 8)) hsb 8 (by omega) (t % 8) (by omega)
  rw [List.take_of_length_le (by omega), seg_at l (t / 8) (t % 8) (by omega) (by omega), show 8 * (t / 8) + t % 8 = t by omega] at hb
  unfold bitN
  rw [hbyte]
  exact hb

theorem isBits_append (a b : List Int) : isBits (a ++ b) = (isBits a && isBits b) := by unfold isBits; rw [List.all_append]
theorem isBits_zeros (n : Nat) : isBits (List.replicate n 0) = true := by
  unfold isBits
  rw [List.all_eq_true]
  intro x hx
  rw [List.eq_of_mem_replicate hx]
  rfl
theorem stopL_bits (l : List Int) : isBits (stopL l) = isBits l := by
  unfold stopL stopT
  rw [isBits_append]
  have e : isBits (1 :: List.replicate (stopN l.length - l.length - 1) 0) = true := by
    have := isBits_zeros (stopN l.length - l.length - 1)
    unfold isBits at this ⊢
    rw [List.all_cons, this]
    rfl
  rw [e, Bool.and_true]
theorem stopS_no (l : List Int) (h : isBits l = false) : stopS l = bs [] := by
  unfold stopS bytesR bytesOk
  rw [stopL_bits, h, Bool.and_false]
  rfl
theorem stopS_yes (l : List Int) (h : isBits l = true) : stopS l = bs (bytesL (stopL l) (stopN l.length / 8)) := by
  unfold stopS bytesR bytesOk
  have := (stopN_gt l.length).2.2
  rw [stopL_bits, h, stopL_len, decide_eq_true this]
  rfl
theorem stopS_len (l : List Int) (h : isBits l = true) : 8 * (stopS l).size = stopN l.length := by
  rw [stopS_yes l h, bs_size, bytesL_len]
  have := (stopN_gt l.length).2.2
  omega
theorem stopS_bit (l : List Int) (h : isBits l = true) (t : Nat) (ht : t < stopN l.length) : (bitN (stopS l) t : Int) = (stopL l).getD t 0 := by
  have h8 := (stopN_gt l.length).2.2
  rw [stopS_yes l h]
  exact bitN_bytes (stopL l) (stopN l.length / 8) (by rw [stopL_len]; omega) (by rw [stopL_bits, h]) t (by omega)
theorem stopL_old (l : List Int) (t : Nat) (ht : t < l.length) : (stopL l).getD t 0 = l.getD t 0 := by
  unfold stopL stopT
  rw [List.getD_eq_getElem?_getD, List.getElem?_append_left ht, ← List.getD_eq_getElem?_getD]
theorem stopL_one (l : List Int) : (stopL l).getD l.length 0 = 1 := by
  unfold stopL stopT
  rw [List.getD_eq_getElem?_getD, List.getElem?_append_right (Nat.le_refl _), Nat.sub_self]
  rfl
theorem stopL_zero (l : List Int) (t : Nat) (ht : l.length < t) : (stopL l).getD t 0 = 0 := by
  unfold stopL stopT
  rw [List.getD_eq_getElem?_getD, List.getElem?_append_right (by omega), show t - l.length = (t - l.length - 1) + 1 by omega, List.getElem?_cons_succ, List.getElem?_replicate]
  split <;> rfl

theorem stopS_left (l : List Int) (h : isBits l = true) (a : Nat) (ha : a ≤ stopN l.length) : rdOk (stopS l) (a : Int) = true ∧ leftV (stopS l) (a : Int) = (stopN l.length : Int) - (a : Int) := by
  have h8 := stopS_len l h
  have h1 : rdOk (stopS l) (a : Int) = true := by rw [rdOk_true]; omega
  refine ⟨h1, ?_⟩
  rw [leftV, if_pos h1]
  omega
theorem stopS_bitV (l : List Int) (h : isBits l = true) (a : Nat) (ha : a < stopN l.length) : bitV (stopS l) (a : Int) = (stopL l).getD a 0 := by
  have h8 := stopS_len l h
  rw [bitV, if_pos ⟨by omega, by omega⟩, Int.toNat_natCast, stopS_bit l h a ha]
/-- The end is seen behind the bits. -/
theorem stopS_end (l : List Int) (h : isBits l = true) : soV (stopS l) (l.length : Int) = 0 := by
  obtain ⟨n1, n2, n3⟩ := stopN_gt l.length
  have h8 := stopS_len l h
  have hL := (stopS_left l h l.length (by omega)).2
  have hB := stopS_bitV l h l.length (by omega)
  rw [stopL_one] at hB
  have hok : rdOk (stopS l) ((l.length : Int) + 1) = true := by rw [rdOk_true]; omega
  have hZ : zaV (stopS l) ((l.length : Int) + 1) = leftV (stopS l) (l.length : Int) - 1 := by
    rw [zaV, if_pos hok, hL, show ((l.length : Int) + 1).toNat = l.length + 1 by omega, h8]
    obtain ⟨z1, _, z3⟩ := zrun_spec (stopS l) (stopN l.length - (l.length + 1)) (l.length + 1)
    by_cases hlt : zrun (stopS l) (l.length + 1) (stopN l.length - (l.length + 1)) < stopN l.length - (l.length + 1)
    · have h1 := z3 hlt
      have h2 := stopS_bit l h (l.length + 1 + zrun (stopS l) (l.length + 1) (stopN l.length - (l.length + 1))) (by omega)
      rw [h1, stopL_zero l _ (by omega)] at h2
      exact absurd h2 (by decide)
    · omega
  rw [soV, if_neg (by omega), if_pos ⟨by omega, hB, hZ⟩]
/-- It is not seen at a bit that is 0. -/
theorem stopS_before (l : List Int) (h : isBits l = true) (K : Nat) (hK : K < l.length) (hne : l.getD K 0 ≠ 1) : soV (stopS l) (K : Int) ≠ 0 := by
  obtain ⟨n1, n2, n3⟩ := stopN_gt l.length
  have hB := stopS_bitV l h K (by omega)
  rw [stopL_old l K hK] at hB
  unfold soV
  split
  · decide
  · rw [if_neg (fun hh => hne (hB ▸ hh.2.1))]
    decide
/-- What was appended is read. -/
theorem rdN_put (s : ByteArray) (a n k : Nat) (hn : n < 2 ^ k) (h : ∀ j, j < k → (bitN s (a + j) : Int) = ((n / 2 ^ (k - 1 - j) % 2 : Nat) : Int)) : ∀ j, j ≤ k → rdN s a j = n / 2 ^ (k - j)
  | 0, _ => by rw [Nat.sub_zero, Nat.div_eq_of_lt hn]; rfl
  | j + 1, hj => by
    have hb := h j (by omega)
    have e : n / 2 ^ (k - j) = n / 2 ^ (k - 1 - j) / 2 := by
      rw [Nat.div_div_eq_div_mul, ← Nat.pow_succ, show (k - 1 - j).succ = k - j by omega]
    rw [rdN, rdN_put s a n k hn h j (by omega), e, show k - (j + 1) = k - 1 - j by omega]
    omega
theorem stopS_put (l : List Int) (n k : Nat) (hn : n < 2 ^ k) (h : isBits (l ++ inL n k k) = true) : rdN (stopS (l ++ inL n k k)) l.length k = n := by
  obtain ⟨n1, n2, n3⟩ := stopN_gt (l ++ inL n k k).length
  have hlen : (l ++ inL n k k).length = l.length + k := by rw [List.length_append, inL_len]
  have h1 := rdN_put (stopS (l ++ inL n k k)) l.length n k hn (fun j hj => by
    rw [stopS_bit _ h (l.length + j) (by omega), stopL_old _ _ (by omega), List.getD_eq_getElem?_getD, List.getElem?_append_right (by omega), Nat.add_sub_cancel_left, ← List.getD_eq_getElem?_getD, inL_at n k k j hj]) k (Nat.le_refl _)
  rw [h1, Nat.sub_self, Nat.pow_zero, Nat.div_one]
end Go.Proofs.Ytemfiglflbfocaa
