/-
  Contracts of Dec, in both texts. Conditions: the number is an int; the library's table of powers of ten reads as Go lays it.
-/
import Derived.Test.YtbpghjnkjakhnaaDoorRows
import Derived.Test.YtbpghjnkjakhnaaDoorKit
import Derived.Test.YtbpghjnkjakhnaaDoorShelf
import Derived.Lib.ItoaLen
import Derived.Stop.LaidErr
import Derived.MakeChecks
import Derived.WalkSmall
namespace Go.Proofs.YtbpghjnkjakhnaaDoor
open Go.RowKit
set_option linter.unusedVariables false

/-- New blocks and draws turn nothing below. -/
theorem below_grow (w : World) (k : Nat) (os : Array Obj) : Below w.heap.size w (Go.Sort.grow (w.drewN k) os) :=
  ⟨rfl, rfl, rfl, by show w.heap.size ≤ (w.heap ++ os).size; simp, fun i hi => by
    show (w.heap ++ os)[i]? = w.heap[i]?
    rw [Array.getElem?_append_left hi]⟩

set_option maxHeartbeats 400000 in
theorem impl_dec_any (n : Int) (h0 : -9223372036854775808 ≤ n) (h1 : n ≤ 9223372036854775807) (w : World) (htab : Lib.TabIs Tryd.prog w "internal/strconv.uint64pow10" .u64 Lib.pow10Tab) :
    Calls Tryd.prog 14 #[.int .i64 n] w fun e w' => e = .returned (.string (bs (Lib.itoa n))) ∧ Below w.heap.size w w' := by
  have hc := Tryd.strconv_Itoa n h0 h1 w htab
  have HC := Lib.hid hc; clear hc
  clear h0 h1
  go_enter Tryd.func14, Tryd.ntmps14
  go_wp2_with fail
  refine HC.out.mono ?_
  rintro e w' ⟨rfl, k, os, rfl⟩
  go_wp2
  go_ret
  exact ⟨rfl, below_grow _ _ _⟩

/-- What is left to write, and what is written. -/
def decRest (v : Nat) (out : List UInt8) : List UInt8 := if v = 0 then out else Lib.decDigits v ++ out
theorem decRest_step (v : Nat) (out : List UInt8) (h : v ≠ 0) : decRest (v / 10) (UInt8.ofNat (48 + v % 10) :: out) = decRest v out := by
  unfold decRest
  rw [if_neg h]
  by_cases h10 : v < 10
  · rw [if_pos (by omega), Lib.decDigits_one h10, show v % 10 = v by omega]
    rfl
  · rw [if_neg (by omega)]
    conv => rhs; rw [Lib.decDigits, dif_neg h10]
    rw [List.append_assoc]
    rfl
theorem decDigits_len (v : Nat) (h : v ≤ 9223372036854775808) : (Lib.decDigits v).length ≤ 20 := by
  rw [Lib.decDigits_length]
  exact Lib.nDigits_le20 v (by omega)

set_option maxRecDepth 100000 in
set_option maxHeartbeats 400000 in
theorem spec_dec_pos (n : Nat) (hn : 0 < n) (h1 : n ≤ 9223372036854775807) (w : World) :
    Calls Tryd.prog 18 #[.int .i64 n] w fun e w' => e = .returned (.string (bs (Lib.itoa n))) ∧ Below w.heap.size w w' := by
  have hit : Lib.itoa (n : Int) = Lib.decDigits n := by rw [Lib.itoa, if_neg (by omega)]; rfl
  have hq : ((n : Int) == 0) = false := by rw [beq_eq_false_iff_ne]; omega
  have hlen := decDigits_len n (by omega)
  rw [hit]
  clear hit
  go_enter Tryd.func18, Tryd.ntmps18
  go_wp2
  clear hq
  go_loopw [0, 3, 5] (fun a out d wr => ∃ (v : Nat) (o : List UInt8), v ≤ n ∧ decRest v o = Lib.decDigits n ∧ a = .int .i64 v ∧ out = .string (bs o) ∧ Below w.heap.size w wr)
    (fun a _ _ _ => (intOf a).toNat)
  case atStart => exact ⟨n, [], Nat.le_refl _, by rw [decRest, if_neg (by omega), List.append_nil], rfl, rfl, Below.refl _ _⟩
  case round =>
    obtain ⟨v, o, hv, ho, rfl, rfl, hb⟩ := hrel
    by_cases hz : v = 0
    · subst hz
      have ho' : o = Lib.decDigits n := by rw [← ho, decRest, if_pos rfl]
      have HO := Lib.hid ho'; clear ho' ho
      go_wp2
      go_ret
      exact ⟨by rw [← HO.out]; rfl, hb⟩
    · have hqv : ((v : Int) != 0) = true := by rw [bne_iff_ne]; omega
      have hol : o.length ≤ 20 := by
        have h2 := congrArg List.length ho
        rw [decRest, if_neg hz, List.length_append] at h2
        omega
      have hos : (bs o).size ≤ 20 := hol
      have hsz := bs_size
      have HO := Lib.hid ho; clear ho
      obtain ⟨c, hcd⟩ : ∃ c : UInt8, c = UInt8.ofNat (48 + v % 10) := ⟨_, rfl⟩
      have hc : (convert 22 9 (.slice (some ⟨wr.heap.size, 0, none⟩) 1 1)).run Tryd.prog (wr.alloc (.cells #[.int .u8 (48 + (v : Int) % 10)] 5)) = .ok (.string (bs [c])) (wr.alloc (.cells #[.int .u8 (48 + (v : Int) % 10)] 5)) := by
        have h := conv_byte Tryd.underlying22 Tryd.underlying5 Tryd.underlying9 wr (48 + (v : Int) % 10) (by omega) (by omega)
        rw [h, hcd, show (48 + (v : Int) % 10).toNat = 48 + v % 10 by omega]
      have HC := Lib.hid hcd; clear hcd
      have hv1 : 0 < (v : Int) := by omega
      go_wp2
      go_roundw
      case rel =>
        refine ⟨v / 10, c :: o, by omega, by rw [HC.out, decRest_step v o hz, HO.out], by go_num, by rw [bs_cons], hb.alloc hb.size _⟩
      case measure => simp [intOf]; omega

set_option maxRecDepth 100000 in
set_option maxHeartbeats 400000 in
theorem spec_dec_neg (n : Nat) (hn : 0 < n) (h1 : n ≤ 9223372036854775808) (x : Int) (hx : x = -(n : Int)) (w : World) :
    Calls Tryd.prog 18 #[.int .i64 x] w fun e w' => e = .returned (.string (bs (Lib.itoa x))) ∧ Below w.heap.size w w' := by
  have hit : Lib.itoa x = 45 :: Lib.decDigits n := by rw [Lib.itoa, if_pos (by omega), show x.natAbs = n by omega]
  have hq : (x == 0) = false := by rw [beq_eq_false_iff_ne]; omega
  have hx0 : x < 0 := by omega
  have hlen := decDigits_len n h1
  rw [hit]
  clear hit
  have HX := Lib.hid hx; clear hx
  go_enter Tryd.func18, Tryd.ntmps18
  go_wp2
  clear hq
  go_loopw [0, 3, 5] (fun a out d wr => ∃ (v : Nat) (y : Int) (o : List UInt8), v ≤ n ∧ y = -(v : Int) ∧ decRest v o = Lib.decDigits n ∧ a = .int .i64 y ∧ out = .string (bs o) ∧ Below w.heap.size w wr)
    (fun a _ _ _ => (- intOf a).toNat)
  case atStart => exact ⟨n, x, [], Nat.le_refl _, HX.out, by rw [decRest, if_neg (by omega), List.append_nil], rfl, rfl, Below.refl _ _⟩
  case round =>
    obtain ⟨v, y, o, hv, hy, ho, rfl, rfl, hb⟩ := hrel
    by_cases hz : v = 0
    · subst hz
      have ho' : o = Lib.decDigits n := by rw [← ho, decRest, if_pos rfl]
      have hol : (bs o).size ≤ 20 := by rw [bs_size, ho']; exact hlen
      have h45 : (ByteArray.mk #[45] ++ bs o) = bs (45 :: o) := bs_cons 45 o
      have HO := Lib.hid ho'; clear ho' ho
      have hyq : (y != 0) = false := by rw [bne_eq_false_iff_eq]; omega
      have HY := Lib.hid hy; clear hy
      go_wp2
      go_ret
      exact ⟨by rw [← HO.out]; rfl, hb⟩
    · have hqv : (y != 0) = true := by rw [bne_iff_ne]; omega
      have hol : o.length ≤ 20 := by
        have h2 := congrArg List.length ho
        rw [decRest, if_neg hz, List.length_append] at h2
        omega
      have hos : (bs o).size ≤ 20 := hol
      have hsz := bs_size
      have HO := Lib.hid ho; clear ho
      obtain ⟨r, hr⟩ : ∃ r, r = v % 10 := ⟨_, rfl⟩
      obtain ⟨q, hqe⟩ : ∃ q, q = v / 10 := ⟨_, rfl⟩
      obtain ⟨z, hze⟩ : ∃ z : Int, z = -(r : Int) := ⟨_, rfl⟩
      obtain ⟨y', hy'⟩ : ∃ y' : Int, y' = -(q : Int) := ⟨_, rfl⟩
      have htm : y.tmod 10 = z := by rw [hze, hy, Int.neg_tmod, hr]; rfl
      have htd : y.tdiv 10 = y' := by rw [hy', hy, Int.neg_tdiv, hqe]; rfl
      have hwz : wrap64 y' = y' := IntWalk.wrap64_in _ ⟨by omega, by omega⟩
      have hz1 : -9 ≤ z := by omega
      have hz2 : z ≤ 0 := by omega
      have hy0 : y < 0 := by omega
      have hy9 : -9223372036854775808 ≤ y := by omega
      by_cases hr0 : r = 0
      · have hz0 : ¬ z < 0 := by omega
        obtain ⟨c, hcd⟩ : ∃ c : UInt8, c = UInt8.ofNat (48 + v % 10) := ⟨_, rfl⟩
        have hc : (convert 22 9 (.slice (some ⟨wr.heap.size, 0, none⟩) 1 1)).run Tryd.prog (wr.alloc (.cells #[.int .u8 (48 + z)] 5)) = .ok (.string (bs [c])) (wr.alloc (.cells #[.int .u8 (48 + z)] 5)) := by
          have h := conv_byte Tryd.underlying22 Tryd.underlying5 Tryd.underlying9 wr (48 + z) (by omega) (by omega)
          rw [h, hcd, show (48 + z).toNat = 48 + v % 10 by omega]
        have HC := Lib.hid hcd; clear hcd
        have HY := Lib.hid hy; have HR := Lib.hid hr; have HQ := Lib.hid hqe; have HZ := Lib.hid hze; have HY' := Lib.hid hy'
        clear hy hr hqe hze hy' hr0
        go_wp2
        go_roundw
        case rel =>
          exact ⟨q, y', c :: o, by have := HQ.out; omega, HY'.out, by rw [HC.out, HQ.out, decRest_step v o hz, HO.out], by rw [hwz], by rw [bs_cons], hb.alloc hb.size _⟩
        case measure => have := HY'.out; have := HY.out; have := HQ.out; simp [intOf]; omega
      · have hz0 : z < 0 := by omega
        obtain ⟨c, hcd⟩ : ∃ c : UInt8, c = UInt8.ofNat (48 + v % 10) := ⟨_, rfl⟩
        have hc : (convert 22 9 (.slice (some ⟨wr.heap.size, 0, none⟩) 1 1)).run Tryd.prog (wr.alloc (.cells #[.int .u8 (48 + -z)] 5)) = .ok (.string (bs [c])) (wr.alloc (.cells #[.int .u8 (48 + -z)] 5)) := by
          have h := conv_byte Tryd.underlying22 Tryd.underlying5 Tryd.underlying9 wr (48 + -z) (by omega) (by omega)
          rw [h, hcd, show (48 + -z).toNat = 48 + v % 10 by omega]
        have HC := Lib.hid hcd; clear hcd
        have HY := Lib.hid hy; have HR := Lib.hid hr; have HQ := Lib.hid hqe; have HZ := Lib.hid hze; have HY' := Lib.hid hy'
        clear hy hr hqe hze hy' hr0
        go_wp2
        go_roundw
        case rel =>
          exact ⟨q, y', c :: o, by have := HQ.out; omega, HY'.out, by rw [HC.out, HQ.out, decRest_step v o hz, HO.out], by rw [hwz], by rw [bs_cons], hb.alloc hb.size _⟩
        case measure => have := HY'.out; have := HY.out; have := HQ.out; simp [intOf]; omega

set_option maxHeartbeats 400000 in
theorem spec_dec_zero (w : World) :
    Calls Tryd.prog 18 #[.int .i64 0] w fun e w' => e = .returned (.string (bs (Lib.itoa 0))) ∧ Below w.heap.size w w' := by
  have hit : Lib.itoa 0 = [48] := by rw [Lib.itoa, if_neg (by omega)]; exact Lib.decDigits_one (by decide)
  rw [hit]
  clear hit
  go_enter Tryd.func18, Tryd.ntmps18
  go_wp2
  go_ret
  exact ⟨rfl, Below.refl _ _⟩

theorem spec_dec_any (n : Int) (h0 : -9223372036854775808 ≤ n) (h1 : n ≤ 9223372036854775807) (w : World) :
    Calls Tryd.prog 18 #[.int .i64 n] w fun e w' => e = .returned (.string (bs (Lib.itoa n))) ∧ Below w.heap.size w w' := by
  by_cases hz : n = 0
  · subst hz; exact spec_dec_zero w
  · by_cases hneg : n < 0
    · exact spec_dec_neg n.natAbs (by omega) (by omega) n (by omega) w
    · obtain ⟨m, rfl⟩ := Int.eq_ofNat_of_zero_le (show 0 ≤ n by omega)
      exact spec_dec_pos m (by omega) (by omega) w

/-! ### What the rows' conditions on the library's variables give -/
/-- The table stands first on the list. -/
theorem tab_of {W : World} {rest : List (String × DataW Unit)} (h : laidMet Tryd.prog (("internal/strconv.uint64pow10", Rows.laid_internal_strconv_uint64pow10) :: rest) W) : Lib.TabIs Tryd.prog W "internal/strconv.uint64pow10" .u64 Lib.pow10Tab := by
  have e : (Rows.laid_internal_strconv_uint64pow10 : DataW Unit) = Lib.tabData .u64 Lib.pow10Tab := by kernel_rfl
  rw [e] at h
  exact Lib.tabIs_of_head (g := 3) (by kernel_rfl) (by kernel_rfl) Tryd.underlying84 Tryd.underlying66 (by kernel_rfl) (by kernel_rfl) h

set_option maxHeartbeats 400000 in
/-- The law's own walk. -/
theorem fnExactDec_walk (n : Int) (hn : (Lit.int .i64 n).wf = true) (w : World) (hL : laidMetH Tryd.prog Rows.fnExactDecRow.laid w) :
    Calls Tryd.prog 4 #[.int .i64 n] w fun e w' => e = .returned (.bool true) ∧ Below w.heap.size w w' := by
  rw [MakeChecks.laidMetH_plain _ _ _ (by kernel_rfl)] at hL
  have htab : Lib.TabIs Tryd.prog w "internal/strconv.uint64pow10" .u64 Lib.pow10Tab := tab_of (laidMet.tail (laidMet.tail hL))
  have h01 : -9223372036854775808 ≤ n ∧ n ≤ 9223372036854775807 := by
    have e1 : IntKind.i64.min = -9223372036854775808 := rfl
    have e2 : IntKind.i64.max = 9223372036854775807 := rfl
    simp [Lit.wf, e1, e2] at hn
    omega
  obtain ⟨h0, h1⟩ := h01
  have hg : w.heap.size > 3 := by
    have := World.var?_cell (show Tryd.prog.globalNamed "internal/strconv.uint64pow10" = some 3 by kernel_rfl) htab 0
    exact Lib.lt_of_cell (v := .int .u64 1) (by rw [this]; kernel_rfl)
  have HT := Lib.hid htab; clear htab hL
  have c1 := spec_dec_any n h0 h1
  have C1 := Lib.hid c1
  have C2 := Lib.hid (impl_dec_any n h0 h1)
  clear c1 h0 h1 hn
  go_enter Tryd.func4, Tryd.ntmps4
  go_wp2_with fail
  refine (C1.out _).mono ?_
  rintro e w1 ⟨rfl, hb1⟩
  go_wp2_with fail
  refine (C2.out _ (var?_below hb1 (show Tryd.prog.globalNamed "internal/strconv.uint64pow10" = some 3 by kernel_rfl) hg HT.out)).mono ?_
  rintro e w2 ⟨rfl, hb2⟩
  go_wp2
  go_ret
  exact ⟨rfl, below_step hb1 hb2⟩
end Go.Proofs.YtbpghjnkjakhnaaDoor
