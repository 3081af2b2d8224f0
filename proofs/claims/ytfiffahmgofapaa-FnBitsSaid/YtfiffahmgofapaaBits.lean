/-
  The walk of the law on bits. No condition.
-/
import Derived.Test.YtfiffahmgofapaaBitsM
import Derived.Test.YtfiffahmgofapaaBitsDraw
namespace Go.Proofs.Ytfiffahmgofapaa
open Go.RowKit
set_option linter.unusedVariables false

set_option maxRecDepth 100000 in
set_option maxHeartbeats 1000000 in
theorem bits_e (a : Option Addr) (cap : Nat) (ys : List Int) (w : World) (hw : Code w a ys) (N : Nat) (hN : N = ys.length) (s : ByteArray) (hs : s.size ≤ 6) (l x : List Int) (n k v : Int) (fi : Bool)
    (hbig : decide (1048576 < (N : Int)) = false) (hll : l.length ≤ 48) (hxl : x.length ≤ 48) (hl8 : ((l.length : Int) != 8 * (s.size : Int)) = false)
    (hat : ∀ j, j < l.length → l.getD j 0 = bitV s (j : Int)) (hx0 : ((x.length : Int) == 0) = true)
    (BG : Hid (∀ w, Calls Try.prog 9 #[.slice a N cap] w fun e w' => e = .returned (.bool (decide (1048576 < (N : Int)))) ∧ w = w'))
    (DB : Hid (∀ w, Code w a ys → Calls Try.prog 10 #[.slice a N cap] w fun e w' => e = .returned (.string s) ∧ Below w.heap.size w w'))
    (DI : Hid (∀ w, Code w a ys → Calls Try.prog 14 #[.slice a N cap] w fun e w' => e = .returned (.tuple #[.int .i64 n, .int .i64 k]) ∧ Below w.heap.size w w'))
    (BO : Hid (∀ w, Calls Try.prog 11 #[.string s] w fun e w' => ∃ A cap, e = .returned (.slice A l.length cap) ∧ OwnI w' w.heap.size A cap l ∧ Below w.heap.size w w'))
    (BY : Hid (∀ A ca w, Ints w w.heap.size A l → Calls Try.prog 12 #[.slice A l.length ca] w fun e w' => e = .returned (.tuple #[.string s, .bool true]) ∧ Below w.heap.size w w'))
    (BA : Hid (∀ j : Nat, j < l.length → ∀ w, Calls Try.prog 13 #[.string s, .int .i64 j] w fun e w' => e = .returned (.int .i64 (bitV s j)) ∧ w = w'))
    (BE : Hid (∀ w, Calls Try.prog 13 #[.string s, .int .i64 l.length] w fun e w' => e = .returned (.int .i64 (-1)) ∧ w = w'))
    (BI : Hid (∀ w, Calls Try.prog 15 #[.int .i64 n, .int .i64 k] w fun e w' => ∃ A cap, e = .returned (.slice A x.length cap) ∧ OwnI w' w.heap.size A cap x ∧ Below w.heap.size w w'))
    (SI : Hid (∀ w, Calls Try.prog 18 #[.int .i64 n, .int .i64 k] w fun e w' => ∃ A cap, e = .returned (.slice A x.length cap) ∧ OwnI w' w.heap.size A cap x ∧ Below w.heap.size w w'))
    (NO : Hid (∀ A ca w, Ints w w.heap.size A x → Calls Try.prog 16 #[.slice A x.length ca] w fun e w' => e = .returned (.tuple #[.int .i64 v, .bool fi]) ∧ Below w.heap.size w w'))
    (SA : Hid (∀ A B ca cb w, Ints w w.heap.size A x → Ints w w.heap.size B x → Calls Try.prog 17 #[.slice A x.length ca, .slice B x.length cb] w fun e w' => e = .returned (.bool true) ∧ Below w.heap.size w w')) :
    Calls Try.prog 3 #[.slice a N cap] w fun e w' => e = .returned (.bool true) ∧ Below w.heap.size w w' := by
  have W0 := Lib.hid hw
  have HAT := Lib.hid hat; clear hat
  clear hw hN
  have O1 : Hid (∀ w base A c, OwnI w base A c l → Ints w w.heap.size A l) := Lib.hid fun w base A c h => h.ints (by omega)
  have O2 : Hid (∀ w base A c, OwnI w base A c x → Ints w w.heap.size A x) := Lib.hid fun w base A c h => h.ints (by omega)
  go_enter Try.func3, Try.ntmps3
  go_wp2_with fail
  refine (BG.out _).mono ?_
  rintro e w' ⟨rfl, rfl⟩
  go_wp2_with fail
  refine (DB.out _ W0.out).mono ?_
  rintro e w1 ⟨rfl, hb1⟩
  have B1 := Lib.hid hb1; clear hb1
  go_wp2_with fail
  refine (BO.out _).mono ?_
  rintro e w2 ⟨A0, c0, rfl, ho2, hb2⟩
  have R2 := Lib.hid (O1.out _ _ _ _ ho2); clear ho2
  have B2 := Lib.hid (below_up B1.out hb2 B1.out.size); clear hb2
  go_wp2_with fail
  refine (BY.out _ _ _ R2.out).mono ?_
  rintro e w3 ⟨rfl, hb3⟩
  have R3 := Lib.hid ((R2.out.below hb3 (Nat.le_refl _)).mono hb3.size)
  have B3 := Lib.hid (below_up B2.out hb3 B2.out.size); clear hb3
  go_wp2
  go_loopw [7] (fun i wr => ∃ (j : Nat), j ≤ l.length ∧ i = .int .i64 j ∧ Below w3.heap.size w3 wr)
    (fun i _ => l.length - (intOf i).toNat)
  case atStart => exact ⟨0, Nat.zero_le _, rfl, Below.refl _ _⟩
  case round =>
    obtain ⟨j, hj, rfl, hbel⟩ := hrel
    by_cases hlt : j < l.length
    · obtain ⟨ba, oa, rfl, ha1, ha2⟩ := R3.out.at j hlt
      have c1 := ha2 j hlt
      rw [HAT.out j hlt, ← hbel.cell (p := ⟨ba, oa + j, none⟩) ha1] at c1
      clear ha2
      obtain ⟨y, hy⟩ : ∃ y, y = bitV s j := ⟨_, rfl⟩
      have BJ := Lib.hid (BA.out j hlt)
      rw [← hy] at c1 BJ
      clear hy
      have hq : (y != y) = false := by simp
      go_wp2
      go_region_with (go_at_call 13; refine (BJ.out _).mono ?_; rintro e w' ⟨rfl, rfl⟩)
      all_goals
        go_wp2
        go_roundw
        case rel => exact ⟨j + 1, by omega, by go_num, hbel.drew⟩
        case measure => simp [intOf]; omega
    · obtain rfl : j = l.length := by omega
      have B4 := Lib.hid (below_up B3.out hbel B3.out.size); clear hbel hlt hj
      go_wp2_with fail
      refine (DI.out _ (W0.out.below B4.out)).mono ?_
      rintro e w5 ⟨rfl, hb5⟩
      have B5 := Lib.hid (below_up B4.out hb5 B4.out.size); clear hb5
      go_wp2_with fail
      refine (BI.out _).mono ?_
      rintro e w6 ⟨A1, c1, rfl, ho6, hb6⟩
      have R6 := Lib.hid (O2.out _ _ _ _ ho6); clear ho6
      have B6 := Lib.hid (below_up B5.out hb6 B5.out.size); clear hb6
      go_wp2_with fail
      refine (NO.out _ _ _ R6.out).mono ?_
      rintro e w7 ⟨rfl, hb7⟩
      have R7 := Lib.hid ((R6.out.below hb7 (Nat.le_refl _)).mono hb7.size)
      have B7 := Lib.hid (below_up B6.out hb7 B6.out.size); clear hb7
      go_wp2_with fail
      refine (BE.out _).mono ?_
      rintro e w' ⟨rfl, rfl⟩
      go_wp2_with fail
      refine (SI.out _).mono ?_
      rintro e w8 ⟨A2, c2, rfl, ho8, hb8⟩
      have R8 := Lib.hid (O2.out _ _ _ _ ho8); clear ho8
      have S8 := Lib.hid ((R7.out.below hb8 (Nat.le_refl _)).mono hb8.size)
      have B8 := Lib.hid (below_up B7.out hb8 B7.out.size); clear hb8
      go_wp2_with fail
      refine (SA.out _ _ _ _ _ S8.out R8.out).mono ?_
      rintro e w9 ⟨rfl, hb9⟩
      have B9 := Lib.hid (below_up B8.out hb9 B8.out.size); clear hb9
      go_wp2
      go_ret
      exact ⟨rfl, B9.out⟩

set_option maxRecDepth 100000 in
set_option maxHeartbeats 1000000 in
theorem bits_f (a : Option Addr) (cap : Nat) (ys : List Int) (w : World) (hw : Code w a ys) (N : Nat) (hN : N = ys.length) (s : ByteArray) (hs : s.size ≤ 6) (l x : List Int) (n k v : Int) (fi : Bool)
    (hbig : decide (1048576 < (N : Int)) = false) (hll : l.length ≤ 48) (hxl : x.length ≤ 48) (hl8 : ((l.length : Int) != 8 * (s.size : Int)) = false)
    (hat : ∀ j, j < l.length → l.getD j 0 = bitV s (j : Int)) (hx0 : ((x.length : Int) == 0) = false) (hfi : fi = true) (hvn : (v == n) = true) (hxk : ((x.length : Int) == k) = true)
    (BG : Hid (∀ w, Calls Try.prog 9 #[.slice a N cap] w fun e w' => e = .returned (.bool (decide (1048576 < (N : Int)))) ∧ w = w'))
    (DB : Hid (∀ w, Code w a ys → Calls Try.prog 10 #[.slice a N cap] w fun e w' => e = .returned (.string s) ∧ Below w.heap.size w w'))
    (DI : Hid (∀ w, Code w a ys → Calls Try.prog 14 #[.slice a N cap] w fun e w' => e = .returned (.tuple #[.int .i64 n, .int .i64 k]) ∧ Below w.heap.size w w'))
    (BO : Hid (∀ w, Calls Try.prog 11 #[.string s] w fun e w' => ∃ A cap, e = .returned (.slice A l.length cap) ∧ OwnI w' w.heap.size A cap l ∧ Below w.heap.size w w'))
    (BY : Hid (∀ A ca w, Ints w w.heap.size A l → Calls Try.prog 12 #[.slice A l.length ca] w fun e w' => e = .returned (.tuple #[.string s, .bool true]) ∧ Below w.heap.size w w'))
    (BA : Hid (∀ j : Nat, j < l.length → ∀ w, Calls Try.prog 13 #[.string s, .int .i64 j] w fun e w' => e = .returned (.int .i64 (bitV s j)) ∧ w = w'))
    (BE : Hid (∀ w, Calls Try.prog 13 #[.string s, .int .i64 l.length] w fun e w' => e = .returned (.int .i64 (-1)) ∧ w = w'))
    (BI : Hid (∀ w, Calls Try.prog 15 #[.int .i64 n, .int .i64 k] w fun e w' => ∃ A cap, e = .returned (.slice A x.length cap) ∧ OwnI w' w.heap.size A cap x ∧ Below w.heap.size w w'))
    (SI : Hid (∀ w, Calls Try.prog 18 #[.int .i64 n, .int .i64 k] w fun e w' => ∃ A cap, e = .returned (.slice A x.length cap) ∧ OwnI w' w.heap.size A cap x ∧ Below w.heap.size w w'))
    (NO : Hid (∀ A ca w, Ints w w.heap.size A x → Calls Try.prog 16 #[.slice A x.length ca] w fun e w' => e = .returned (.tuple #[.int .i64 v, .bool fi]) ∧ Below w.heap.size w w'))
    (SA : Hid (∀ A B ca cb w, Ints w w.heap.size A x → Ints w w.heap.size B x → Calls Try.prog 17 #[.slice A x.length ca, .slice B x.length cb] w fun e w' => e = .returned (.bool true) ∧ Below w.heap.size w w')) :
    Calls Try.prog 3 #[.slice a N cap] w fun e w' => e = .returned (.bool true) ∧ Below w.heap.size w w' := by
  subst hfi
  have W0 := Lib.hid hw
  have HAT := Lib.hid hat; clear hat
  clear hw hN
  have O1 : Hid (∀ w base A c, OwnI w base A c l → Ints w w.heap.size A l) := Lib.hid fun w base A c h => h.ints (by omega)
  have O2 : Hid (∀ w base A c, OwnI w base A c x → Ints w w.heap.size A x) := Lib.hid fun w base A c h => h.ints (by omega)
  go_enter Try.func3, Try.ntmps3
  go_wp2_with fail
  refine (BG.out _).mono ?_
  rintro e w' ⟨rfl, rfl⟩
  go_wp2_with fail
  refine (DB.out _ W0.out).mono ?_
  rintro e w1 ⟨rfl, hb1⟩
  have B1 := Lib.hid hb1; clear hb1
  go_wp2_with fail
  refine (BO.out _).mono ?_
  rintro e w2 ⟨A0, c0, rfl, ho2, hb2⟩
  have R2 := Lib.hid (O1.out _ _ _ _ ho2); clear ho2
  have B2 := Lib.hid (below_up B1.out hb2 B1.out.size); clear hb2
  go_wp2_with fail
  refine (BY.out _ _ _ R2.out).mono ?_
  rintro e w3 ⟨rfl, hb3⟩
  have R3 := Lib.hid ((R2.out.below hb3 (Nat.le_refl _)).mono hb3.size)
  have B3 := Lib.hid (below_up B2.out hb3 B2.out.size); clear hb3
  go_wp2
  go_loopw [7] (fun i wr => ∃ (j : Nat), j ≤ l.length ∧ i = .int .i64 j ∧ Below w3.heap.size w3 wr)
    (fun i _ => l.length - (intOf i).toNat)
  case atStart => exact ⟨0, Nat.zero_le _, rfl, Below.refl _ _⟩
  case round =>
    obtain ⟨j, hj, rfl, hbel⟩ := hrel
    by_cases hlt : j < l.length
    · obtain ⟨ba, oa, rfl, ha1, ha2⟩ := R3.out.at j hlt
      have c1 := ha2 j hlt
      rw [HAT.out j hlt, ← hbel.cell (p := ⟨ba, oa + j, none⟩) ha1] at c1
      clear ha2
      obtain ⟨y, hy⟩ : ∃ y, y = bitV s j := ⟨_, rfl⟩
      have BJ := Lib.hid (BA.out j hlt)
      rw [← hy] at c1 BJ
      clear hy
      have hq : (y != y) = false := by simp
      go_wp2
      go_region_with (go_at_call 13; refine (BJ.out _).mono ?_; rintro e w' ⟨rfl, rfl⟩)
      all_goals
        go_wp2
        go_roundw
        case rel => exact ⟨j + 1, by omega, by go_num, hbel.drew⟩
        case measure => simp [intOf]; omega
    · obtain rfl : j = l.length := by omega
      have B4 := Lib.hid (below_up B3.out hbel B3.out.size); clear hbel hlt hj
      go_wp2_with fail
      refine (DI.out _ (W0.out.below B4.out)).mono ?_
      rintro e w5 ⟨rfl, hb5⟩
      have B5 := Lib.hid (below_up B4.out hb5 B4.out.size); clear hb5
      go_wp2_with fail
      refine (BI.out _).mono ?_
      rintro e w6 ⟨A1, c1, rfl, ho6, hb6⟩
      have R6 := Lib.hid (O2.out _ _ _ _ ho6); clear ho6
      have B6 := Lib.hid (below_up B5.out hb6 B5.out.size); clear hb6
      go_wp2_with fail
      refine (NO.out _ _ _ R6.out).mono ?_
      rintro e w7 ⟨rfl, hb7⟩
      have R7 := Lib.hid ((R6.out.below hb7 (Nat.le_refl _)).mono hb7.size)
      have B7 := Lib.hid (below_up B6.out hb7 B6.out.size); clear hb7
      go_wp2_with fail
      refine (BE.out _).mono ?_
      rintro e w' ⟨rfl, rfl⟩
      go_wp2_with fail
      refine (SI.out _).mono ?_
      rintro e w8 ⟨A2, c2, rfl, ho8, hb8⟩
      have R8 := Lib.hid (O2.out _ _ _ _ ho8); clear ho8
      have S8 := Lib.hid ((R7.out.below hb8 (Nat.le_refl _)).mono hb8.size)
      have B8 := Lib.hid (below_up B7.out hb8 B7.out.size); clear hb8
      go_wp2_with fail
      refine (SA.out _ _ _ _ _ S8.out R8.out).mono ?_
      rintro e w9 ⟨rfl, hb9⟩
      have B9 := Lib.hid (below_up B8.out hb9 B8.out.size); clear hb9
      go_wp2
      go_ret
      exact ⟨rfl, B9.out⟩

set_option maxHeartbeats 400000 in
theorem bits_big (a : Option Addr) (cap len : Nat) (h : 1048576 < len) (hm : len ≤ 9223372036854775807) (w : World) :
    Calls Try.prog 3 #[.slice a len cap] w fun e w' => e = .returned (.bool true) ∧ Below w.heap.size w w' := by
  have hq : decide (1048576 < (len : Int)) = true := by simp; omega
  have BG := Lib.hid (big_any a len cap hm)
  rw [hq] at BG
  go_enter Try.func3, Try.ntmps3
  go_wp2_with fail
  refine (BG.out _).mono ?_
  rintro e w' ⟨rfl, rfl⟩
  go_wp2
  go_ret
  exact ⟨rfl, Below.refl _ _⟩

/-- The law's own walk. -/
theorem fnBits_walk (a : Option Addr) (len cap : Nat) (zs : List Int) (w : World) (h : IsRow .u8 w a len cap zs) :
    Calls Try.prog 3 #[.slice a len cap] w fun e w' => e = .returned (.bool true) ∧ Below w.heap.size w w' := by
  have hlm := h.len_le
  unfold maxLen at hlm
  by_cases hbig : 1048576 < len
  · exact bits_big a cap len hbig (by omega) w
  · obtain ⟨ys, rfl, hW⟩ := code_of h (by omega)
    have hbigF : decide (1048576 < (ys.length : Int)) = false := by simp; omega
    obtain ⟨tl, htl, CB⟩ := drawBitsOf_det a cap ys
    obtain ⟨n, k, hn, hk, CI⟩ := drawBitsIn_det a cap ys
    have hs : (bs tl).size ≤ 6 := by rw [bs_size]; exact htl
    obtain ⟨s, hS⟩ : ∃ s, s = bs tl := ⟨_, rfl⟩
    rw [← hS] at CB hs
    have hat : ∀ j, j < (bitsL s (8 * s.size)).length → (bitsL s (8 * s.size)).getD j 0 = bitV s (j : Int) := fun j hj => by
      rw [bitsL_len] at hj
      rw [bitsL_at s _ j hj, bitV, if_pos ⟨by omega, by omega⟩, Int.toNat_natCast]
    have hl8 : (((bitsL s (8 * s.size)).length : Int) != 8 * (s.size : Int)) = false := by rw [bitsL_len, bne_eq_false_iff_eq]; omega
    have hll : (bitsL s (8 * s.size)).length ≤ 48 := by rw [bitsL_len]; omega
    have BY : ∀ A ca w, Ints w w.heap.size A (bitsL s (8 * s.size)) → Calls Try.prog 12 #[.slice A (bitsL s (8 * s.size)).length ca] w fun e w' => e = .returned (.tuple #[.string s, .bool true]) ∧ Below w.heap.size w w' := fun A ca w hA => by
      have h := impl_bytesof_any A ca (bitsL s (8 * s.size)) (by omega) w hA
      rw [(bits_back s).1, (bits_back s).2] at h
      exact h
    have wfj : ∀ j : Nat, j ≤ 48 → (Lit.int .i64 (j : Int)).wf = true := fun j hj => by simp [Lit.wf, IntKind.min, IntKind.max, IntKind.signed, IntKind.bits]; omega
    have BA : ∀ j : Nat, j < (bitsL s (8 * s.size)).length → ∀ w, Calls Try.prog 13 #[.string s, .int .i64 j] w fun e w' => e = .returned (.int .i64 (bitV s j)) ∧ w = w' := fun j hj w => impl_bitat_any s j (by omega) (wfj j (by omega)) w
    have BE : ∀ w, Calls Try.prog 13 #[.string s, .int .i64 (bitsL s (8 * s.size)).length] w fun e w' => e = .returned (.int .i64 (-1)) ∧ w = w' := fun w =>
      impl_bitat_out s ((bitsL s (8 * s.size)).length : Int) (by omega) (wfj _ hll) (.inr (by rw [bitsL_len]; omega)) w
    have SA : ∀ A B ca cb w, Ints w w.heap.size A (inR n k) → Ints w w.heap.size B (inR n k) → Calls Try.prog 17 #[.slice A (inR n k).length ca, .slice B (inR n k).length cb] w fun e w' => e = .returned (.bool true) ∧ Below w.heap.size w w' := fun A B ca cb w hA hB => by
      have h := sameints_any A B ca cb (inR n k) (inR n k) w hA hB
      rw [decide_eq_true rfl] at h
      exact h
    rcases inR_back n k with h0 | ⟨h1, h2, h3⟩
    · exact bits_e a cap ys w hW ys.length rfl s hs (bitsL s (8 * s.size)) (inR n k) n k _ _ hbigF hll (inR_len n k) hl8 hat (by rw [h0]; rfl)
        (Lib.hid (big_any a ys.length cap (by omega))) (Lib.hid CB) (Lib.hid CI) (Lib.hid (impl_bitsof_any s (by omega))) (Lib.hid BY) (Lib.hid BA) (Lib.hid BE) (Lib.hid (impl_bitsin_any n k hn)) (Lib.hid (spec_bitsin_any n k hn))
        (Lib.hid fun A ca w hA => impl_numof_any A ca (inR n k) w hA) (Lib.hid SA)
    · by_cases h0 : (inR n k).length = 0
      · exact bits_e a cap ys w hW ys.length rfl s hs (bitsL s (8 * s.size)) (inR n k) n k _ _ hbigF hll (inR_len n k) hl8 hat (by rw [h0]; rfl)
          (Lib.hid (big_any a ys.length cap (by omega))) (Lib.hid CB) (Lib.hid CI) (Lib.hid (impl_bitsof_any s (by omega))) (Lib.hid BY) (Lib.hid BA) (Lib.hid BE) (Lib.hid (impl_bitsin_any n k hn)) (Lib.hid (spec_bitsin_any n k hn))
          (Lib.hid fun A ca w hA => impl_numof_any A ca (inR n k) w hA) (Lib.hid SA)
      · exact bits_f a cap ys w hW ys.length rfl s hs (bitsL s (8 * s.size)) (inR n k) n k _ _ hbigF hll (inR_len n k) hl8 hat (by rw [beq_eq_false_iff_ne]; omega) h1 (by rw [h2, beq_iff_eq]) (by rw [beq_iff_eq]; exact h3)
          (Lib.hid (big_any a ys.length cap (by omega))) (Lib.hid CB) (Lib.hid CI) (Lib.hid (impl_bitsof_any s (by omega))) (Lib.hid BY) (Lib.hid BA) (Lib.hid BE) (Lib.hid (impl_bitsin_any n k hn)) (Lib.hid (spec_bitsin_any n k hn))
          (Lib.hid fun A ca w hA => impl_numof_any A ca (inR n k) w hA) (Lib.hid SA)
end Go.Proofs.Ytfiffahmgofapaa
