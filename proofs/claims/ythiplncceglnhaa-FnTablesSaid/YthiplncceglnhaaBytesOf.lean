/-
  Contracts of BytesOf, in both texts, and the law of BytesOf. Condition: no more than 1048576 elements (the law asks no more).
-/
import Derived.Test.YthiplncceglnhaaNumOf
namespace Go.Proofs.Ythiplncceglnhaa
open Go.RowKit
set_option linter.unusedVariables false

/-- The eight bits of byte `t`, as far as the first `j` bits have them. -/
def part (l : List Int) (j t : Nat) : List Int := ((l.take j).drop (8 * t)).take 8
def seg (l : List Int) (t : Nat) : List Int := (l.drop (8 * t)).take 8
def byteOf (l : List Int) (t : Nat) : UInt8 := UInt8.ofNat (binV (seg l t)).toNat
def bytesL (l : List Int) (k : Nat) : List UInt8 := (List.range k).map (byteOf l)
def bytesOk (l : List Int) : Bool := decide (l.length % 8 = 0) && isBits l
/-- What BytesOf gives. -/
def bytesR (l : List Int) : ByteArray := if bytesOk l then bs (bytesL l (l.length / 8)) else bs []
theorem bytesL_len (l : List Int) (k : Nat) : (bytesL l k).length = k := by simp [bytesL]
theorem bytesL_snoc (l : List Int) (k : Nat) : bytesL l (k + 1) = bytesL l k ++ [byteOf l k] := by
  unfold bytesL
  rw [List.range_succ, List.map_append]
  rfl
theorem part_all (l : List Int) (t : Nat) : part l l.length t = seg l t := by unfold part seg; rw [List.take_length]
theorem part_next (l : List Int) (j : Nat) (h : j < l.length) : part l (j + 1) (j / 8) = part l j (j / 8) ++ [l.getD j 0] := by
  unfold part
  rw [take_snoc_i l j h, List.drop_append_of_le_length (by rw [List.length_take]; omega), List.take_of_length_le (l := List.drop (8 * (j / 8)) (List.take j l) ++ [l.getD j 0]) (by simp; omega), List.take_of_length_le (l := List.drop (8 * (j / 8)) (List.take j l)) (by simp; omega)]
theorem part_at (l : List Int) (j t i : Nat) : (part l j t)[i]? = if i < 8 ∧ 8 * t + i < j then l[8 * t + i]? else none := by
  unfold part
  simp only [List.getElem?_take, List.getElem?_drop]
  by_cases h1 : i < 8
  · by_cases h2 : 8 * t + i < j
    · simp [h1, h2]
    · simp [h1, h2]
  · simp [h1]
theorem part_other (l : List Int) (j t : Nat) (h : t ≠ j / 8) : part l (j + 1) t = part l j t := by
  apply List.ext_getElem?
  intro i
  rw [part_at, part_at]
  by_cases h1 : i < 8 ∧ 8 * t + i < j
  · rw [if_pos h1, if_pos ⟨h1.1, by omega⟩]
  · rw [if_neg h1, if_neg (by omega)]
theorem part_len (l : List Int) (j t : Nat) : (part l j t).length ≤ 8 ∧ (part l j t).length ≤ j - 8 * t := by
  unfold part
  simp only [List.length_take, List.length_drop]
  omega
theorem isBits_part (l : List Int) (h : isBits l = true) (j t : Nat) : isBits (part l j t) = true := by
  unfold isBits at h ⊢
  rw [List.all_eq_true] at h ⊢
  intro x hx
  exact h x (List.mem_of_mem_take (List.mem_of_mem_drop (List.mem_of_mem_take hx)))
theorem binV_bits (l : List Int) (h : isBits l = true) : 0 ≤ binV l ∧ binV l < 2 ^ l.length := by
  have := binV_range l l.length (Nat.le_refl _) fun t ht => isBits_at l h t ht
  rwa [List.take_length] at this
theorem binV_part (l : List Int) (h : isBits l = true) (j t k : Nat) (hk : (part l j t).length ≤ k) : 0 ≤ binV (part l j t) ∧ binV (part l j t) < 2 ^ k := by
  have h1 := binV_bits _ (isBits_part l h j t)
  have h2 : (2 : Int) ^ (part l j t).length ≤ 2 ^ k := by have := Nat.pow_le_pow_right (n := 2) (by decide) hk; exact_mod_cast this
  omega
def partB (l : List Int) (j t : Nat) : UInt8 := UInt8.ofNat (binV (part l j t)).toNat
def partL (l : List Int) (j k : Nat) : List UInt8 := (List.range k).map (partB l j)
theorem partL_len (l : List Int) (j k : Nat) : (partL l j k).length = k := by simp [partL]
theorem partL_all (l : List Int) (k : Nat) : partL l l.length k = bytesL l k := by
  unfold partL bytesL partB byteOf
  simp only [part_all]
theorem partL_none (l : List Int) (k : Nat) : partL l 0 k = List.replicate k 0 := by
  apply List.ext_getElem?
  intro i
  by_cases h : i < k
  · have e : part l 0 i = [] := by unfold part; simp
    simp [partL, h, partB, e, binV]
  · simp [partL, h]
theorem partL_next (l : List Int) (j k : Nat) : (partL l j k).set (j / 8) (partB l (j + 1) (j / 8)) = partL l (j + 1) k := by
  apply List.ext_getElem?
  intro i
  by_cases h : i < k
  · by_cases e : j / 8 = i
    · subst e
      rw [List.getElem?_set_self (by rw [partL_len]; exact h)]
      simp [partL, h]
    · rw [List.getElem?_set_ne e]
      simp [partL, h, partB, part_other l j i (fun e' => e e'.symm)]
  · rw [List.getElem?_eq_none (by rw [List.length_set, partL_len]; omega), List.getElem?_eq_none (by rw [partL_len]; omega)]
theorem or_u8 (i : Nat) (x y : Int) (hx0 : 0 ≤ x) (hx : x % 2 ^ i = 0) (hx1 : x < 2 ^ 8) (hy0 : 0 ≤ y) (hy : y < 2 ^ i) (hi : i ≤ 8) : bits .or .u8 x y = x + y :=
  bits_join .u8 8 (by decide) wraps_u8 i x y hx0 hx hx1 hy0 hy (Int.lt_of_lt_of_le hy (by have := Nat.pow_le_pow_right (n := 2) (by decide) hi; exact_mod_cast this))
theorem seg_at (l : List Int) (t : Nat) (i : Nat) (h : 8 * t + 8 ≤ l.length) (hi : i < 8) : (seg l t).getD i 0 = l.getD (8 * t + i) 0 := by
  unfold seg
  simp only [List.getD_eq_getElem?_getD, List.getElem?_take, List.getElem?_drop, if_pos hi]
theorem seg_len (l : List Int) (t : Nat) (h : 8 * t + 8 ≤ l.length) : (seg l t).length = 8 := by unfold seg; rw [List.length_take, List.length_drop]; omega

/-- A row of one's own while a call runs that leaves what was there. -/
theorem own_keep {w w' : World} {base : Nat} {e : TypeId} {size : Nat} {v : Value} {n : Nat} {xs : List Value} (h : w.ownsRow base e size v n xs) (hb : Below w.heap.size w w') : w'.ownsRow base e size v n xs := by
  refine World.ownsRow.kept (row := none) h ⟨hb.os, hb.tape, hb.output, hb.size, fun k hk _ => hb.block k hk⟩ ?_
  cases hv : v.ownBlock <;> simp
theorem Try.uinfoU8 : (Try.prog.info? 5).map (fun i => (i.zero, i.size, i.bytes)) = some (some (.int .u8 0), 1, 1) := by kernel_rfl

set_option maxRecDepth 100000 in
set_option maxHeartbeats 1000000 in
theorem spec_bytesof_any (A : Option Addr) (ca : Nat) (l : List Int) (hl : l.length ≤ 1048600) (hca : l.length ≤ ca) (w : World) (hA : Ints w w.heap.size A l) :
    Calls Try.prog 73 #[.slice A l.length ca] w fun e w' => e = .returned (.tuple #[.string (bytesR l), .bool (bytesOk l)]) ∧ Below w.heap.size w w' := by
  obtain ⟨i0, hi, hz0, hz1, hz2⟩ := info_parts Try.uinfoU8
  obtain ⟨n, hn⟩ : ∃ n, n = l.length := ⟨_, rfl⟩
  have NO := Lib.hid @spec_numof_any
  rw [← hn] at hl hca ⊢
  have HN := Lib.hid hn; clear hn
  have HA := Lib.hid hA; clear hA
  by_cases h8 : n % 8 = 0
  · have q8 : (((n : Int) % 8) != 0) = false := by rw [bne_eq_false_iff_eq]; omega
    obtain ⟨k, hk⟩ : ∃ k, k = n / 8 := ⟨_, rfl⟩
    have hk1 : n ≤ 8 * k := by omega
    have hk2 : 8 * k ≤ n := by omega
    clear hk
    go_enter Try.func73, Try.ntmps73
    go_wp2
    clear q8
    go_loopw [4, 5] (fun v i wr => ∃ (j : Nat) (x : Int), j ≤ k ∧ x = 8 * (j : Int) ∧ (∀ t, t < j → isBits (seg l t) = true) ∧ i = .int .i64 x ∧ wr.ownsRow w.heap.size 5 1 v j (bvs (bytesL l j)) ∧ Below w.heap.size w wr)
      (fun _ i _ => n - (intOf i).toNat)
    case atStart => exact ⟨0, 0, Nat.zero_le _, rfl, fun t ht => absurd ht (by omega), rfl, own_lit (E := 5) w w.heap.size [] (Nat.le_refl _) (by simp), (Below.refl _ _).alloc (Nat.le_refl _) _⟩
    case round =>
      obtain ⟨j, x, hj, hx, hpre, rfl, hown, hbel⟩ := hrel
      have HE := Lib.hid hpre; clear hpre
      by_cases hlt : j < k
      · obtain ⟨m, rfl⟩ := Int.eq_ofNat_of_zero_le (show 0 ≤ x by omega)
        have hm1 : m ≤ 8 * j := by omega
        have hm2 : 8 * j ≤ m := by omega
        clear hx
        obtain ⟨ba, oa, rfl, ha1, ha2⟩ := HA.out.at m (by rw [← HN.out]; omega)
        have hjs : 8 * j + 8 ≤ l.length := by rw [← HN.out]; omega
        have NS := spec_numof_any (some ⟨ba, oa + m, none⟩) (ca - m) (seg l j)
        rw [seg_len l j hjs] at NS
        have hbo : binOk (seg l j) = isBits (seg l j) := by unfold binOk; rw [seg_len l j hjs]; rfl
        have IS : Ints wr wr.heap.size (some ⟨ba, oa + m, none⟩) (seg l j) := by
          refine ⟨by rw [seg_len l j hjs]; omega, .inr ⟨ba, oa + m, rfl, Nat.lt_of_lt_of_le ha1 hbel.size, fun i hi => ?_⟩⟩
          rw [seg_len l j hjs] at hi
          rw [seg_at l j i hjs hi, hbel.cell (p := ⟨ba, oa + m + i, none⟩) ha1]
          have := ha2 (m + i) (by omega)
          rw [show oa + m + i = oa + (m + i) by omega, this, show m + i = 8 * j + i by omega]
        have hrange := binV_bits (seg l j)
        rw [seg_len l j hjs] at hrange
        obtain ⟨b, hb⟩ : ∃ b, b = isBits (seg l j) := ⟨_, rfl⟩
        rw [hbo, ← hb] at NS
        have NS := Lib.hid NS
        have IS := Lib.hid IS
        clear ha2
        cases b with
        | false =>
          go_wp2_with fail
          refine (NS.out _ IS.out).mono ?_
          rintro e w' ⟨rfl, hb'⟩
          have HB := Lib.hid hb; clear hb
          go_wp2
          go_ret2
          refine ⟨?_, below_up hbel hb' hbel.size⟩
          have e1 : bytesOk l = false := by
            unfold bytesOk
            have : isBits l = false := by
              cases h : isBits l with
              | false => rfl
              | true =>
                exfalso
                have h2 : isBits (seg l j) = true := by
                  unfold isBits at h ⊢
                  rw [List.all_eq_true] at h ⊢
                  intro x hx
                  exact h x (List.mem_of_mem_drop (List.mem_of_mem_take hx))
                rw [← HB.out] at h2
                exact absurd h2 (by decide)
            rw [this, Bool.and_false]
          have e2 : bytesR l = bs [] := by unfold bytesR; rw [e1]; rfl
          rw [e1, e2]
          rfl
        | true =>
          have hr := hrange hb.symm
          have hbr : binR (seg l j) = binV (seg l j) := by unfold binR; rw [hbo, ← hb]; rfl
          obtain ⟨x, hx⟩ : ∃ x, x = binV (seg l j) := ⟨_, rfl⟩
          have NS2 := NS.out
          rw [hbr, ← hx] at NS2
          rw [← hx] at hr
          have NS2 := Lib.hid NS2
          have hr0 : 0 ≤ x := hr.1
          have hr1 : x < 256 := hr.2
          have HB := Lib.hid hb; clear hb
          have HX := Lib.hid hx; clear hx hr hrange hbr
          go_wp2_with fail
          refine (NS2.out _ IS.out).mono ?_
          rintro e w' ⟨rfl, hb'⟩
          have hown2 := own_keep hown hb'
          have hbel2 := below_up hbel hb' hbel.size
          clear hbel hown
          go_wp2_with (at_builtin; refine append_one w' rfl (.tmp 30) (.tmp 33) 22 rfl w 5 i0 (.int .u8 0) 1 Try.underlying22 hi hz0 hz1 hz2 rfl _ _ _ rfl hown2 _ rfl rfl rfl (by omega) (by unfold maxLen; omega) hbel2 ?_; intro v' w'' hown' hb'')
          go_roundw
          case rel =>
            refine ⟨j + 1, (m : Int) + 8, by omega, by omega, fun t ht => ?_, by go_num, ?_, hb''⟩
            · by_cases htj : t = j
              · subst htj; exact HB.out.symm
              · exact HE.out t (by omega)
            · have h := own_snoc hown' x.toNat (by omega) (by omega)
              rw [bytesL_snoc]
              have e2 : byteOf l j = UInt8.ofNat x.toNat := by unfold byteOf; rw [← HX.out]
              rw [e2]
              exact h
          case measure => simp [intOf]; omega
      · obtain rfl : j = k := by omega
        have hcv := conv_own Try.underlying22 Try.underlying5 Try.underlying9 hown
        have hxe : (n : Int) ≤ x := by omega
        clear hx
        go_wp2
        go_ret2
        refine ⟨?_, hbel⟩
        have e1 : bytesOk l = true := by
          unfold bytesOk
          rw [← HN.out, decide_eq_true (by omega), Bool.true_and]
          refine isBits_all l fun t ht => ?_
          have htj : t / 8 < j := by have := HN.out; omega
          have h := isBits_at _ (HE.out (t / 8) htj) (t % 8) (by rw [seg_len l (t / 8) (by have := HN.out; omega)]; omega)
          rw [seg_at l (t / 8) (t % 8) (by have := HN.out; omega) (by omega)] at h
          rwa [show 8 * (t / 8) + t % 8 = t by omega] at h
        have e2 : bytesR l = bs (bytesL l j) := by unfold bytesR; rw [e1, ← HN.out, show n / 8 = j by omega]; rfl
        rw [e1, e2]
        rfl
  · have q8 : (((n : Int) % 8) != 0) = true := by rw [bne_iff_ne]; omega
    have e1 : bytesOk l = false := by unfold bytesOk; rw [← HN.out, decide_eq_false (by omega), Bool.false_and]
    have e2 : bytesR l = bs [] := by unfold bytesR; rw [e1]; rfl
    rw [e1, e2]
    clear e1 e2
    go_enter Try.func73, Try.ntmps73
    go_wp2
    go_ret2
    exact ⟨rfl, (Below.refl _ _).alloc (Nat.le_refl _) _⟩
end Go.Proofs.Ythiplncceglnhaa
