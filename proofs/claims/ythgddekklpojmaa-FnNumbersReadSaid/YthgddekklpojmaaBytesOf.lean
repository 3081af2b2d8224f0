/-
  Contracts of BytesOf, in both texts, and the law of BytesOf. Condition: no more than 1048576 elements (the law asks no more).
-/
import Derived.Test.YthgddekklpojmaaNumOf
namespace Go.Proofs.Ythgddekklpojmaa
open Go.RowKit
set_option linter.unusedVariables false

/-- The eight bits of byte `t`, as far as the first `j` bits have them. -/
def part (l : List Int) (j t : Nat) : List Int := ((l.take j).drop (8 * t)).take 8
def seg (l : List Int) (t : Nat) : List Int := (l.drop (8 * t)).take 8
def byteOf (l : List Int) (t : Nat) : UInt8 := UInt8.ofNat (binV (seg l t)).toNat
def bytesL (l : List Int) (k : Nat) : List UInt8 := (List.range k).map (byteOf l)
def bytesOk (l : List Int) : Bool := decide (l.length % 8 = 0) && isBits l
/-- What BytesOf gives. -/
def bytesR (l : List Int) : ByteArray := if bytesOk l then bs (bytesL l (l.length / 8)) else bs []
theorem bytesL_len (l : List Int) (k : Nat) : (bytesL l k).length = k := by simp [bytesL]
theorem bytesL_snoc (l : List Int) (k : Nat) : bytesL l (k + 1) = bytesL l k ++ [byteOf l k] := by
  unfold bytesL
  rw [List.range_succ, List.map_append]
  rfl
theorem part_all (l : List Int) (t : Nat) : part l l.length t = seg l t := by unfold part seg; rw [List.take_length]
theorem part_next (l : List Int) (j : Nat) (h : j < l.length) : part l (j + 1) (j / 8) = part l j (j / 8) ++ [l.getD j 0] := by
  unfold part
  rw [take_snoc_i l j h, List.drop_append_of_le_length (by rw [List.length_take]; omega), List.take_of_length_le (l := List.drop (8 * (j / 8)) (List.take j l) ++ [l.getD j 0]) (by simp; omega), List.take_of_length_le (l := List.drop (8 * (j / 8)) (List.take j l)) (by simp; omega)]
theorem part_at (l : List Int) (j t i : Nat) : (part l j t)[i]? = if i < 8 ∧ 8 * t + i < j then l[8 * t + i]? else none := by
  unfold part
  simp only [List.getElem?_take, List.getElem?_drop]
  by_cases h1 : i < 8
  · by_cases h2 : 8 * t + i < j
    · simp [h1, h2]
    · simp [h1, h2]
  · simp [h1]
theorem part_other (l : List Int) (j t : Nat) (h : t ≠ j / 8) : part l (j + 1) t = part l j t := by
  apply List.ext_getElem?
  intro i
  rw [part_at, part_at]
  by_cases h1 : i < 8 ∧ 8 * t + i < j
  · rw [if_pos h1, if_pos ⟨h1.1, by omega⟩]
  · rw [if_neg h1, if_neg (by omega)]
theorem part_len (l : List Int) (j t : Nat) : (part l j t).length ≤ 8 ∧ (part l j t).length ≤ j - 8 * t := by
  unfold part
  simp only [List.length_take, List.length_drop]
  omega
theorem isBits_part (l : List Int) (h : isBits l = true) (j t : Nat) : isBits (part l j t) = true := by
  unfold isBits at h ⊢
  rw [List.all_eq_true] at h ⊢
  intro x hx
  exact h x (List.mem_of_mem_take (List.mem_of_mem_drop (List.mem_of_mem_take hx)))
theorem binV_bits (l : List Int) (h : isBits l = true) : 0 ≤ binV l ∧ binV l < 2 ^ l.length := by
  have := binV_range l l.length (Nat.le_refl _) fun t ht => isBits_at l h t ht
  rwa [List.take_length] at this
theorem binV_part (l : List Int) (h : isBits l = true) (j t k : Nat) (hk : (part l j t).length ≤ k) : 0 ≤ binV (part l j t) ∧ binV (part l j t) < 2 ^ k := by
  have h1 := binV_bits _ (isBits_part l h j t)
  have h2 : (2 : Int) ^ (part l j t).length ≤ 2 ^ k := by have := Nat.pow_le_pow_right (n := 2) (by decide) hk; exact_mod_cast this
  omega
def partB (l : List Int) (j t : Nat) : UInt8 := UInt8.ofNat (binV (part l j t)).toNat
def partL (l : List Int) (j k : Nat) : List UInt8 := (List.range k).map (partB l j)
theorem partL_len (l : List Int) (j k : Nat) : (partL l j k).length = k := by simp [partL]
theorem partL_all (l : List Int) (k : Nat) : partL l l.length k = bytesL l k := by
  unfold partL bytesL partB byteOf
  simp only [part_all]
theorem partL_none (l : List Int) (k : Nat) : partL l 0 k = List.replicate k 0 := by
  apply List.ext_getElem?
  intro i
  by_cases h : i < k
  · have e : part l 0 i = [] := by unfold part; simp
    simp [partL, h, partB, e, binV]
  · simp [partL, h]
theorem partL_next (l : List Int) (j k : Nat) : (partL l j k).set (j / 8) (partB l (j + 1) (j / 8)) = partL l (j + 1) k := by
  apply List.ext_getElem?
  intro i
  by_cases h : i < k
  · by_cases e : j / 8 = i
    · subst e
      rw [List.getElem?_set_self (by rw [partL_len]; exact h)]
      simp [partL, h]
    · rw [List.getElem?_set_ne e]
      simp [partL, h, partB, part_other l j i (fun e' => e e'.symm)]
  · rw [List.getElem?_eq_none (by rw [List.length_set, partL_len]; omega), List.getElem?_eq_none (by rw [partL_len]; omega)]
theorem or_u8 (i : Nat) (x y : Int) (hx0 : 0 ≤ x) (hx : x % 2 ^ i = 0) (hx1 : x < 2 ^ 8) (hy0 : 0 ≤ y) (hy : y < 2 ^ i) (hi : i ≤ 8) : bits .or .u8 x y = x + y :=
  bits_join .u8 8 (by decide) wraps_u8 i x y hx0 hx hx1 hy0 hy (Int.lt_of_lt_of_le hy (by have := Nat.pow_le_pow_right (n := 2) (by decide) hi; exact_mod_cast this))
theorem seg_at (l : List Int) (t : Nat) (i : Nat) (h : 8 * t + 8 ≤ l.length) (hi : i < 8) : (seg l t).getD i 0 = l.getD (8 * t + i) 0 := by
  unfold seg
  simp only [List.getD_eq_getElem?_getD, List.getElem?_take, List.getElem?_drop, if_pos hi]
theorem seg_len (l : List Int) (t : Nat) (h : 8 * t + 8 ≤ l.length) : (seg l t).length = 8 := by unfold seg; rw [List.length_take, List.length_drop]; omega

/-- A row of one's own while a call runs that leaves what was there. -/
theorem own_keep {w w' : World} {base : Nat} {e : TypeId} {size : Nat} {v : Value} {n : Nat} {xs : List Value} (h : w.ownsRow base e size v n xs) (hb : Below w.heap.size w w') : w'.ownsRow base e size v n xs := by
  refine World.ownsRow.kept (row := none) h ⟨hb.os, hb.tape, hb.output, hb.size, fun k hk _ => hb.block k hk⟩ ?_
  cases hv : v.ownBlock <;> simp
theorem Try.uinfoU8 : (Try.prog.info? 5).map (fun i => (i.zero, i.size, i.bytes)) = some (some (.int .u8 0), 1, 1) := by kernel_rfl

set_option maxRecDepth 100000 in
set_option maxHeartbeats 1000000 in
theorem impl_bytesof_any (A : Option Addr) (ca : Nat) (l : List Int) (hl : l.length ≤ 1048600) (w : World) (hA : Ints w w.heap.size A l) :
    Calls Try.prog 35 #[.slice A l.length ca] w fun e w' => e = .returned (.tuple #[.string (bytesR l), .bool (bytesOk l)]) ∧ Below w.heap.size w w' := by
  obtain ⟨n, hn⟩ : ∃ n, n = l.length := ⟨_, rfl⟩
  have AB := Lib.hid (arebits_any A ca l)
  rw [← hn] at hl AB ⊢
  have HN := Lib.hid hn; clear hn
  have HA := Lib.hid hA; clear hA
  by_cases h8 : n % 8 = 0
  · have q8 : (((n : Int) % 8) != 0) = false := by rw [bne_eq_false_iff_eq]; omega
    obtain ⟨b, hb⟩ : ∃ b, b = isBits l := ⟨_, rfl⟩
    rw [← hb] at AB
    cases b with
    | false =>
      have e1 : bytesOk l = false := by unfold bytesOk; rw [← hb, Bool.and_false]
      have e2 : bytesR l = bs [] := by unfold bytesR; rw [e1]; rfl
      rw [e1, e2]
      clear e1 e2 hb
      go_enter Try.func35, Try.ntmps35
      go_wp2_with fail
      refine (AB.out _ HA.out).mono ?_
      rintro e w1 ⟨rfl, hb1⟩
      go_wp2
      go_ret2
      exact ⟨rfl, hb1⟩
    | true =>
      have e1 : bytesOk l = true := by unfold bytesOk; rw [← hb, ← HN.out, decide_eq_true (by omega)]; rfl
      have e2 : bytesR l = bs (bytesL l (n / 8)) := by unfold bytesR; rw [e1, HN.out]; rfl
      rw [e1, e2]
      have HBB := Lib.hid hb.symm
      clear e1 e2 hb
      obtain ⟨k, hk⟩ : ∃ k, k = n / 8 := ⟨_, rfl⟩
      have hkn : n = 8 * k := by omega
      rw [← hk]
      obtain ⟨i0, hi, hz0, hz1, hz2⟩ := info_parts Try.uinfoU8
      have hmk := make_bytes' Try.underlying22 hi hz0 hz1 hz2 k ((n : Int) / 8) (by omega) (by omega)
      have hk1 : n ≤ 8 * k := by omega
      have hk2 : 8 * k ≤ n := by omega
      clear hk hkn
      go_enter Try.func35, Try.ntmps35
      go_wp2_with fail
      refine (AB.out _ HA.out).mono ?_
      rintro e w1 ⟨rfl, hb1⟩
      go_wp2
      clear hmk q8
      go_loopw [22] (fun i wr => ∃ (j : Nat), j ≤ n ∧ i = .int .i64 j ∧ wr.ownsRow w1.heap.size 5 1 (.slice (some ⟨w1.heap.size, 0, none⟩) k k) k (bvs (partL l j k)) ∧ Below w1.heap.size w1 wr)
        (fun i _ => n - (intOf i).toNat)
      case atStart =>
        refine ⟨0, Nat.zero_le _, rfl, ?_, (Below.refl _ _).alloc (Nat.le_refl _) _⟩
        have := own_lit (E := 5) w1 w1.heap.size (List.replicate k 0) (Nat.le_refl _) (by simp [maxLen]; omega)
        rw [partL_none]
        simpa using this
      case round =>
        obtain ⟨j, hj, rfl, hown, hbel⟩ := hrel
        by_cases hlt : j < n
        · obtain ⟨ba, oa, rfl, ha1, ha2⟩ := HA.out.at j (by rw [← HN.out]; exact hlt)
          have c1 := ha2 j (by rw [← HN.out]; exact hlt)
          rw [← hb1.cell (p := ⟨ba, oa + j, none⟩) ha1, ← hbel.cell (p := ⟨ba, oa + j, none⟩) (Nat.lt_of_lt_of_le ha1 hb1.size)] at c1
          clear ha2
          obtain ⟨y, hy⟩ : ∃ y, y = l.getD j 0 := ⟨_, rfl⟩
          rw [← hy] at c1
          have hyb : y = 0 ∨ y = 1 := isBit_cases (by rw [hy]; exact isBits_at l HBB.out j (by rw [← HN.out]; exact hlt))
          have HY := Lib.hid hy; clear hy
          obtain ⟨x, hx⟩ : ∃ x, x = binV (part l j (j / 8)) := ⟨_, rfl⟩
          have hxr := binV_part l HBB.out j (j / 8) 7 (by have := part_len l j (j / 8); omega)
          rw [← hx] at hxr
          have hx0 : 0 ≤ x := hxr.1
          have hx1 : x < 128 := hxr.2
          clear hxr
          have hjk : j / 8 < k := by omega
          have hc : wr.cell? ⟨w1.heap.size, j / 8, none⟩ = some (.int .u8 x) := by
            rw [hown.cellAt (j / 8) (by omega), bvs_at _ _ (by rw [partL_len]; exact hjk)]
            have e3 : (partL l j k)[j / 8]'(by rw [partL_len]; exact hjk) = UInt8.ofNat x.toNat := by simp [partL, partB, hx]
            rw [e3, bv_ofNat x hx0 (by omega)]
          have hz := hown.frozenAt (j / 8)
          have HX := Lib.hid hx; clear hx
          have hor : bits .or .u8 (x * 2) y = x * 2 + y := or_u8 1 _ _ (by omega) (by omega) (by omega) (by omega) (by omega) (by omega)
          go_wp2
          go_roundw
          case rel =>
            have e2 : partB l (j + 1) (j / 8) = UInt8.ofNat (x * 2 + y).toNat := by
              unfold partB
              rw [part_next l j (by rw [← HN.out]; exact hlt), binV_snoc, ← HX.out, ← HY.out, Int.mul_comm]
            have e3 := bv_ofNat (x * 2 + y) (by omega) (by omega)
            have s1 := hown.stored (j / 8) (bv (partB l (j + 1) (j / 8)))
            rw [bvs_set, partL_next, e2, e3] at s1
            exact ⟨j + 1, by omega, by go_num, s1.1, hbel.setCell (Nat.le_refl _) _⟩
          case measure => simp [intOf]; omega
        · obtain rfl : j = n := by omega
          have hcv := conv_own Try.underlying22 Try.underlying5 Try.underlying9 hown
          go_wp2
          go_ret2
          refine ⟨?_, below_up hb1 hbel hb1.size⟩
          have e := partL_all l k
          rw [← HN.out] at e
          rw [e]
          rfl
  · have q8 : (((n : Int) % 8) != 0) = true := by rw [bne_iff_ne]; omega
    have e1 : bytesOk l = false := by unfold bytesOk; rw [← HN.out, decide_eq_false (by omega), Bool.false_and]
    have e2 : bytesR l = bs [] := by unfold bytesR; rw [e1]; rfl
    rw [e1, e2]
    clear e1 e2
    go_enter Try.func35, Try.ntmps35
    go_wp2
    go_ret2
    exact ⟨rfl, Below.refl _ _⟩

end Go.Proofs.Ythgddekklpojmaa
