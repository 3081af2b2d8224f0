/-
  Contracts of PutBits, in both texts, and the walk of its exact law. Condition: no more than 1048576 bits (the law asks no more).
-/
import Derived.Test.YtkefplaffppklaaBitsIn
import Derived.Test.YtkefplaffppklaaBytesOf
import Derived.Test.YtkefplaffppklaaConcat
import Derived.Test.YtkefplaffppklaaReader
namespace Go.Proofs.Ytkefplaffppklaa
open Go.RowKit
set_option linter.unusedVariables false

theorem OwnI.low {w : World} {base base' : Nat} {A : Option Addr} {cap : Nat} {l : List Int} (h : OwnI w base A cap l) (hb : base' ≤ base) : OwnI w base' A cap l := by
  refine ⟨h.1, ?_⟩
  rcases h.2 with h1 | ⟨g, c, cur, h1, h2, h3⟩
  · exact .inl h1
  · exact .inr ⟨g, c, cur, h1, Nat.le_trans hb h2, h3⟩

theorem concat1 (A : Option Addr) (ca : Nat) (l : List Int) (hl : l.length ≤ 2000000) (w : World) (T : TypeId) (hI : Ints w w.heap.size A l) (hP : Placed A ca) :
    Calls Try.prog 27 #[.slice (some ⟨w.heap.size, 0, none⟩) 1 1] (w.alloc (.cells #[.slice A l.length ca] T)) fun e w' => ∃ A' cap', e = .returned (.slice A' l.length cap') ∧ OwnI w' w.heap.size A' cap' l ∧ Below w.heap.size w w' := by
  have hb := below_new w (.cells #[.slice A l.length ca] T)
  have e : catN (fun _ => l) 1 = l := rfl
  have hle : w.heap.size ≤ (w.alloc (.cells #[.slice A l.length ca] T)).heap.size := hb.size
  have h := concat_any 1 (by decide) w.heap.size (fun _ => A) (fun _ => l) (fun _ => ca) (by rw [e]; omega) 1 (w.alloc (.cells #[.slice A l.length ca] T)) (by simp)
    (fun j hj => by obtain rfl : j = 0 := by omega
                    exact cell_of_row _ _ 0 _ _ _ (heap_alloc_new w _)) (fun _ _ => (hI.below hb (Nat.le_refl _)).mono hb.size) (fun _ _ => hP)
  rw [e] at h
  refine h.mono ?_
  rintro e w' ⟨A', c', he, ho, hb'⟩
  exact ⟨A', c', he, ho.low hle, below_step hb hb'⟩

theorem concat2 (A B : Option Addr) (ca cb : Nat) (l m : List Int) (hl : l.length + m.length ≤ 2000000) (w : World) (T : TypeId) (hI : Ints w w.heap.size A l) (hP : Placed A ca) (hJ : Ints w w.heap.size B m) (hQ : Placed B cb) :
    Calls Try.prog 27 #[.slice (some ⟨w.heap.size, 0, none⟩) 2 2] (w.alloc (.cells #[.slice A l.length ca, .slice B m.length cb] T)) fun e w' => ∃ A' cap', e = .returned (.slice A' (l ++ m).length cap') ∧ OwnI w' w.heap.size A' cap' (l ++ m) ∧ Below w.heap.size w w' := by
  have hb := below_new w (.cells #[.slice A l.length ca, .slice B m.length cb] T)
  have e : catN (fun j => if j = 0 then l else m) 2 = l ++ m := rfl
  have hle : w.heap.size ≤ (w.alloc (.cells #[.slice A l.length ca, .slice B m.length cb] T)).heap.size := hb.size
  have h := concat_any 2 (by decide) w.heap.size (fun j => if j = 0 then A else B) (fun j => if j = 0 then l else m) (fun j => if j = 0 then ca else cb) (by rw [e, List.length_append]; omega) 2 (w.alloc (.cells #[.slice A l.length ca, .slice B m.length cb] T)) (by simp)
    (fun j hj => by
      by_cases h0 : j = 0
      · subst h0; exact cell_of_row _ _ 0 _ _ _ (heap_alloc_new w _)
      · obtain rfl : j = 1 := by omega
        exact cell_of_row _ _ 1 _ _ _ (heap_alloc_new w _))
    (fun j _ => by
      by_cases h0 : j = 0
      · simp only [h0, if_true]; exact (hI.below hb (Nat.le_refl _)).mono hb.size
      · simp only [if_neg h0]; exact (hJ.below hb (Nat.le_refl _)).mono hb.size)
    (fun j _ => by
      by_cases h0 : j = 0
      · simp only [h0, if_true]; exact hP
      · simp only [if_neg h0]; exact hQ)
  rw [e] at h
  refine h.mono ?_
  rintro e w' ⟨A', c', he, ho, hb'⟩
  exact ⟨A', c', he, ho.low hle, below_step hb hb'⟩

/-- The bits are appended. -/
def putOk (l : List Int) (n k : Int) : Bool := decide (0 ≤ k) && decide (k ≤ 32) && decide (0 ≤ n) && decide (n < 2 ^ k.toNat) && decide ((l.length : Int) + k ≤ 200000)
/-- What PutBits gives. -/
def putR (l : List Int) (n k : Int) : List Int := if putOk l n k then l ++ inL n.toNat k.toNat k.toNat else l

theorem putOk_nat (l : List Int) (n k : Int) (h : putOk l n k = true) : ∃ a b : Nat, n = (a : Int) ∧ k = (b : Int) ∧ b ≤ 32 ∧ a < 2 ^ b ∧ l.length + b ≤ 200000 := by
  simp only [putOk, Bool.and_eq_true, decide_eq_true_eq] at h
  obtain ⟨⟨⟨⟨h1, h2⟩, h3⟩, h4⟩, h5⟩ := h
  obtain ⟨a, rfl⟩ := Int.eq_ofNat_of_zero_le h3
  obtain ⟨b, rfl⟩ := Int.eq_ofNat_of_zero_le h1
  rw [Int.toNat_natCast] at h4
  exact ⟨a, b, rfl, rfl, by omega, by exact_mod_cast h4, by omega⟩
/-- The ways in which they are not. -/
theorem putOk_ways (l : List Int) (n k : Int) (h : putOk l n k = false) : k < 0 ∨ (0 ≤ k ∧ 32 < k) ∨ (0 ≤ k ∧ k ≤ 32 ∧ n < 0) ∨ ∃ a b : Nat, n = (a : Int) ∧ k = (b : Int) ∧ b ≤ 32 ∧ (2 ^ b ≤ a ∨ a < 2 ^ b ∧ 200000 < l.length + b) := by
  by_cases h1 : k < 0
  · exact .inl h1
  · by_cases h2 : 32 < k
    · exact .inr (.inl ⟨by omega, h2⟩)
    · by_cases h3 : n < 0
      · exact .inr (.inr (.inl ⟨by omega, by omega, h3⟩))
      · obtain ⟨a, rfl⟩ := Int.eq_ofNat_of_zero_le (show 0 ≤ n by omega)
        obtain ⟨b, rfl⟩ := Int.eq_ofNat_of_zero_le (show 0 ≤ k by omega)
        refine .inr (.inr (.inr ⟨a, b, rfl, rfl, by omega, ?_⟩))
        by_cases h4 : 2 ^ b ≤ a
        · exact .inl h4
        · refine .inr ⟨by omega, Nat.lt_of_not_le fun h5 => ?_⟩
          have h6 : ((a : Int) < 2 ^ (b : Int).toNat) := by
            rw [Int.toNat_natCast]
            exact_mod_cast Nat.lt_of_not_le h4
          rw [putOk, decide_eq_true (by omega), decide_eq_true (by omega), decide_eq_true (by omega), decide_eq_true h6, decide_eq_true (by omega)] at h
          exact absurd h (by decide)

set_option maxRecDepth 100000 in
set_option maxHeartbeats 1000000 in
theorem impl_putbits_ok (A : Option Addr) (ca : Nat) (l : List Int) (n k : Nat) (hk : k ≤ 32) (hn : n < 2 ^ k) (hl : l.length + k ≤ 200000) (w : World) (hI : Ints w w.heap.size A l) (hP : Placed A ca) :
    Calls Try.prog 9 #[.slice A l.length ca, .int .i64 n, .int .i64 k] w fun e w' => ∃ A' cap', e = .returned (.tuple #[.slice A' (l ++ inL n k k).length cap', .bool true]) ∧ OwnI w' w.heap.size A' cap' (l ++ inL n k k) ∧ Below w.heap.size w w' := by
  have hn63 : n ≤ 9223372036854775807 := by
    have := Nat.pow_le_pow_right (n := 2) (by decide) (show k ≤ 62 by omega)
    omega
  have hz0 := in_zero n k
  rw [decide_eq_false (by omega)] at hz0
  have h0 : decide ((n : Int) < 0) = false := by simp
  have h1 : decide ((k : Int) < 0) = false := by simp
  have h2 : decide ((32 : Int) < (k : Int)) = false := by simp; omega
  have h3 : decide ((200000 : Int) - (k : Int) < (l.length : Int)) = false := by simp; omega
  have BI := Lib.hid (impl_bitsin_ok n k (by omega) hn)
  have HI := Lib.hid hI; clear hI
  have HP := Lib.hid hP; clear hP
  have CC := Lib.hid (concat2 A)
  have hm : (inL n k k).length = k := inL_len n k k
  obtain ⟨x, hx⟩ : ∃ x, x = inL n k k := ⟨_, rfl⟩
  rw [← hx] at BI hm ⊢
  have hlx : l.length + x.length ≤ 200000 := by omega
  clear hx hn hm
  go_enter Try.func9, Try.ntmps9
  go_wp2_with fail
  refine (BI.out _).mono ?_
  rintro e w1 ⟨A1, c1, rfl, ho1, hb1⟩
  have P1 := Lib.hid ho1.placed
  have R1 := Lib.hid (ho1.ints (by omega)); clear ho1
  have I1 := Lib.hid ((HI.out.below hb1 (Nat.le_refl _)).mono hb1.size)
  have B1 := Lib.hid hb1; clear hb1
  go_wp2_with fail
  refine (CC.out _ _ _ _ _ (by omega) _ _ I1.out HP.out R1.out P1.out).mono ?_
  rintro e w2 ⟨A2, c2, rfl, ho2, hb2⟩
  have O2 := Lib.hid (ho2.low B1.out.size); clear ho2
  have B2 := Lib.hid (below_step B1.out hb2); clear hb2
  go_wp2
  go_ret2
  exact ⟨A2, c2, by rw [List.length_append]; rfl, O2.out, B2.out⟩

set_option maxRecDepth 100000 in
set_option maxHeartbeats 1000000 in
theorem impl_putbits_bad (A : Option Addr) (ca : Nat) (l : List Int) (n k : Int) (h : putOk l n k = false) (hl : l.length ≤ 1048576) (hn : (Lit.int .i64 n).wf = true) (w : World) (hI : Ints w w.heap.size A l) (hP : Placed A ca) :
    Calls Try.prog 9 #[.slice A l.length ca, .int .i64 n, .int .i64 k] w fun e w' => ∃ A' cap', e = .returned (.tuple #[.slice A' l.length cap', .bool false]) ∧ OwnI w' w.heap.size A' cap' l ∧ Below w.heap.size w w' := by
  have CC := Lib.hid (concat1 A ca l (by omega) w 24 hI hP)
  have hw := putOk_ways l n k h
  clear h hI hP
  rcases hw with h1 | ⟨h0, h1⟩ | ⟨h0, h1, h2⟩ | ⟨a, b, rfl, rfl, h1, h2 | ⟨h2, h3⟩⟩
  · have q1 : decide (k < 0) = true := by simpa using h1
    clear h1
    go_enter Try.func9, Try.ntmps9
    go_wp2_with fail
    refine CC.out.mono ?_
    rintro e w2 ⟨A2, c2, rfl, ho2, hb2⟩
    have O2 := Lib.hid ho2; clear ho2
    have B2 := Lib.hid hb2; clear hb2
    go_wp2
    go_ret2
    exact ⟨_, _, rfl, O2.out, B2.out⟩
  · have q1 : decide (k < 0) = false := by simpa using h0
    have q2 : decide (32 < k) = true := by simpa using h1
    clear h1 h0
    go_enter Try.func9, Try.ntmps9
    go_wp2_with fail
    refine CC.out.mono ?_
    rintro e w2 ⟨A2, c2, rfl, ho2, hb2⟩
    have O2 := Lib.hid ho2; clear ho2
    have B2 := Lib.hid hb2; clear hb2
    go_wp2
    go_ret2
    exact ⟨_, _, rfl, O2.out, B2.out⟩
  · have q1 : decide (k < 0) = false := by simpa using h0
    have q2 : decide (32 < k) = false := by simpa using h1
    have q3 : decide (n < 0) = true := by simpa using h2
    clear h1 h0 h2
    go_enter Try.func9, Try.ntmps9
    go_wp2_with fail
    refine CC.out.mono ?_
    rintro e w2 ⟨A2, c2, rfl, ho2, hb2⟩
    have O2 := Lib.hid ho2; clear ho2
    have B2 := Lib.hid hb2; clear hb2
    go_wp2
    go_ret2
    exact ⟨_, _, rfl, O2.out, B2.out⟩
  · have q1 : decide ((b : Int) < 0) = false := by simp
    have q2 : decide ((32 : Int) < (b : Int)) = false := by simp; omega
    have q3 : decide ((a : Int) < 0) = false := by simp
    have q4 := in_zero a b
    rw [decide_eq_true h2] at q4
    clear h2
    go_enter Try.func9, Try.ntmps9
    go_wp2_with fail
    refine CC.out.mono ?_
    rintro e w2 ⟨A2, c2, rfl, ho2, hb2⟩
    have O2 := Lib.hid ho2; clear ho2
    have B2 := Lib.hid hb2; clear hb2
    go_wp2
    go_ret2
    exact ⟨_, _, rfl, O2.out, B2.out⟩
  · have q1 : decide ((b : Int) < 0) = false := by simp
    have q2 : decide ((32 : Int) < (b : Int)) = false := by simp; omega
    have q3 : decide ((a : Int) < 0) = false := by simp
    have q4 := in_zero a b
    rw [decide_eq_false (by omega)] at q4
    have q5 : decide ((200000 : Int) - (b : Int) < (l.length : Int)) = true := by simp; omega
    clear h2
    go_enter Try.func9, Try.ntmps9
    go_wp2_with fail
    refine CC.out.mono ?_
    rintro e w2 ⟨A2, c2, rfl, ho2, hb2⟩
    have O2 := Lib.hid ho2; clear ho2
    have B2 := Lib.hid hb2; clear hb2
    go_wp2
    go_ret2
    exact ⟨_, _, rfl, O2.out, B2.out⟩

set_option maxRecDepth 100000 in
set_option maxHeartbeats 1000000 in
theorem spec_putbits_ok (A : Option Addr) (ca : Nat) (l : List Int) (n k : Nat) (hk : k ≤ 32) (hn : n < 2 ^ k) (hl : l.length + k ≤ 200000) (w : World) (hI : Ints w w.heap.size A l) (hP : Placed A ca) :
    Calls Try.prog 10 #[.slice A l.length ca, .int .i64 n, .int .i64 k] w fun e w' => ∃ A' cap', e = .returned (.tuple #[.slice A' (l ++ inL n k k).length cap', .bool true]) ∧ OwnI w' w.heap.size A' cap' (l ++ inL n k k) ∧ Below w.heap.size w w' := by
  obtain ⟨i0, hi, hz0, hz1, hz2⟩ := info_parts Try.iinfo
  have hn63 : n ≤ 9223372036854775807 := by
    have := Nat.pow_le_pow_right (n := 2) (by decide) (show k ≤ 62 by omega)
    omega
  have hq0 := in_zero n k
  rw [decide_eq_false (by omega)] at hq0
  have h0 : decide ((n : Int) < 0) = false := by simp
  have h3 : decide ((200000 : Int) < (l.length : Int) + (k : Int)) = false := by simp; omega
  have BI := Lib.hid (spec_bitsin_ok n k (by omega) hn)
  have LT := Lib.hid (l1in_t)
  have hm : (inL n k k).length = k := inL_len n k k
  obtain ⟨x, hx⟩ : ∃ x, x = inL n k k := ⟨_, rfl⟩
  rw [← hx] at BI hm ⊢
  have hlx : l.length + x.length ≤ 200000 := by omega
  clear hx hn hm
  have hO := own_ints w w.heap.size [] (Nat.le_refl _) (by simp)
  have hB := (Below.refl w.heap.size w).alloc (Nat.le_refl _) (.cells (ivs []).toArray 3)
  have HO := Lib.hid hO
  have HB := Lib.hid hB
  have HI := Lib.hid (hI.below hB (Nat.le_refl _))
  have HP := Lib.hid hP
  clear hO hB hI hP
  have hlen : (l ++ x).length = l.length + x.length := List.length_append
  have HL := Lib.hid hlen; clear hlen
  go_enter Try.func10, Try.ntmps10
  go_wp2_with (at_builtin; refine append_ints rfl (.tmp 9) (.tmp 10) 24 rfl w i0 Try.underlying24 hi hz0 hz1 hz2 _ _ _ rfl HO.out _ _ _ _ rfl rfl _ HI.out HP.out (by simp; omega) HB.out ?_; intro v1 w1 hown1 hb1)
  have hown2 : w1.ownsRow w.heap.size 3 1 v1 l.length (ivs l) := by simpa using hown1
  have O1 := Lib.hid hown2
  have B1 := Lib.hid hb1
  clear hown1 hown2 hb1 h3
  refine (LT.out _ _ _ (by omega) (by omega) _).mono ?_
  rintro e w' ⟨rfl, rfl⟩
  have h3 : decide ((200000 : Int) < (l.length : Int) + (k : Int)) = false := by simp; omega
  go_wp2_with fail
  refine (BI.out _).mono ?_
  rintro e w2 ⟨A2, c2, rfl, ho2, hb2⟩
  have P2 := Lib.hid ho2.placed
  have R2 := Lib.hid (ho2.ints (by omega)); clear ho2
  have O2 := Lib.hid (own_keep O1.out hb2)
  have B2 := Lib.hid (below_step B1.out hb2); clear hb2
  go_wp2_with (at_builtin; refine append_ints rfl (.tmp 33) (.tmp 36) 24 rfl w i0 Try.underlying24 hi hz0 hz1 hz2 _ _ _ rfl O2.out _ _ _ _ rfl rfl _ R2.out P2.out (by omega) B2.out ?_; intro v3 w3 hown3 hb3)
  go_wp2
  go_ret2
  rw [← HL.out] at hown3
  rcases hown3.2 with ⟨rfl, h0⟩ | ⟨g, cap, cur, rfl, _⟩
  · unfold OwnI
    rw [h0] at hown3 ⊢
    exact ⟨_, _, rfl, hown3, hb3⟩
  · exact ⟨_, _, rfl, hown3, hb3⟩

set_option maxRecDepth 100000 in
set_option maxHeartbeats 1000000 in
theorem spec_putbits_bad (A : Option Addr) (ca : Nat) (l : List Int) (n k : Int) (h : putOk l n k = false) (hl : l.length ≤ 1048576) (hn : (Lit.int .i64 n).wf = true) (w : World) (hI : Ints w w.heap.size A l) (hP : Placed A ca) :
    Calls Try.prog 10 #[.slice A l.length ca, .int .i64 n, .int .i64 k] w fun e w' => ∃ A' cap', e = .returned (.tuple #[.slice A' l.length cap', .bool false]) ∧ OwnI w' w.heap.size A' cap' l ∧ Below w.heap.size w w' := by
  obtain ⟨i0, hi, hz0, hz1, hz2⟩ := info_parts Try.iinfo
  have hO := own_ints w w.heap.size [] (Nat.le_refl _) (by simp)
  have hB := (Below.refl w.heap.size w).alloc (Nat.le_refl _) (.cells (ivs []).toArray 3)
  have HO := Lib.hid hO
  have HB := Lib.hid hB
  have HI := Lib.hid (hI.below hB (Nat.le_refl _))
  have HP := Lib.hid hP
  have LT := Lib.hid (l1In_any k 0 32)
  have hw := putOk_ways l n k h
  clear hO hB hI hP h
  rcases hw with h1 | ⟨h0, h1⟩ | ⟨h0, h1, h2⟩ | ⟨a, b, rfl, rfl, h1, h2 | ⟨h2, h3⟩⟩
  · have q1 : (decide (0 ≤ k) && decide (k ≤ 32)) = false := by simp; omega
    rw [q1] at LT
    clear h1 q1
    go_enter Try.func10, Try.ntmps10
    go_wp2_with (at_builtin; refine append_ints rfl (.tmp 9) (.tmp 10) 24 rfl w i0 Try.underlying24 hi hz0 hz1 hz2 _ _ _ rfl HO.out _ _ _ _ rfl rfl _ HI.out HP.out (by simp; omega) HB.out ?_; intro v1 w1 hown1 hb1)
    have hown2 : w1.ownsRow w.heap.size 3 1 v1 l.length (ivs l) := by simpa using hown1
    have O1 := Lib.hid hown2
    have B1 := Lib.hid hb1
    clear hown1 hown2 hb1
    refine (LT.out _).mono ?_
    rintro e w' ⟨rfl, rfl⟩
    go_wp2
    go_ret2
    have hown3 := O1.out
    rcases hown3.2 with ⟨rfl, h0⟩ | ⟨g, cap, cur, rfl, _⟩
    · unfold OwnI
      rw [h0] at hown3 ⊢
      exact ⟨_, _, rfl, hown3, B1.out⟩
    · exact ⟨_, _, rfl, hown3, B1.out⟩
  · have q1 : (decide (0 ≤ k) && decide (k ≤ 32)) = false := by simp; omega
    rw [q1] at LT
    clear h1 h0 q1
    go_enter Try.func10, Try.ntmps10
    go_wp2_with (at_builtin; refine append_ints rfl (.tmp 9) (.tmp 10) 24 rfl w i0 Try.underlying24 hi hz0 hz1 hz2 _ _ _ rfl HO.out _ _ _ _ rfl rfl _ HI.out HP.out (by simp; omega) HB.out ?_; intro v1 w1 hown1 hb1)
    have hown2 : w1.ownsRow w.heap.size 3 1 v1 l.length (ivs l) := by simpa using hown1
    have O1 := Lib.hid hown2
    have B1 := Lib.hid hb1
    clear hown1 hown2 hb1
    refine (LT.out _).mono ?_
    rintro e w' ⟨rfl, rfl⟩
    go_wp2
    go_ret2
    have hown3 := O1.out
    rcases hown3.2 with ⟨rfl, h0⟩ | ⟨g, cap, cur, rfl, _⟩
    · unfold OwnI
      rw [h0] at hown3 ⊢
      exact ⟨_, _, rfl, hown3, B1.out⟩
    · exact ⟨_, _, rfl, hown3, B1.out⟩
  · have q1 : (decide (0 ≤ k) && decide (k ≤ 32)) = true := by simp; omega
    rw [q1] at LT
    have q3 : decide (n < 0) = true := by simpa using h2
    clear h1 h0 h2 q1
    go_enter Try.func10, Try.ntmps10
    go_wp2_with (at_builtin; refine append_ints rfl (.tmp 9) (.tmp 10) 24 rfl w i0 Try.underlying24 hi hz0 hz1 hz2 _ _ _ rfl HO.out _ _ _ _ rfl rfl _ HI.out HP.out (by simp; omega) HB.out ?_; intro v1 w1 hown1 hb1)
    have hown2 : w1.ownsRow w.heap.size 3 1 v1 l.length (ivs l) := by simpa using hown1
    have O1 := Lib.hid hown2
    have B1 := Lib.hid hb1
    clear hown1 hown2 hb1
    refine (LT.out _).mono ?_
    rintro e w' ⟨rfl, rfl⟩
    go_wp2
    go_ret2
    have hown3 := O1.out
    rcases hown3.2 with ⟨rfl, h0⟩ | ⟨g, cap, cur, rfl, _⟩
    · unfold OwnI
      rw [h0] at hown3 ⊢
      exact ⟨_, _, rfl, hown3, B1.out⟩
    · exact ⟨_, _, rfl, hown3, B1.out⟩
  · have q1 : (decide (0 ≤ (b : Int)) && decide ((b : Int) ≤ 32)) = true := by simp; omega
    rw [q1] at LT
    have q3 : decide ((a : Int) < 0) = false := by simp
    have q4 := in_zero a b
    rw [decide_eq_true h2] at q4
    clear h2 q1
    go_enter Try.func10, Try.ntmps10
    go_wp2_with (at_builtin; refine append_ints rfl (.tmp 9) (.tmp 10) 24 rfl w i0 Try.underlying24 hi hz0 hz1 hz2 _ _ _ rfl HO.out _ _ _ _ rfl rfl _ HI.out HP.out (by simp; omega) HB.out ?_; intro v1 w1 hown1 hb1)
    have hown2 : w1.ownsRow w.heap.size 3 1 v1 l.length (ivs l) := by simpa using hown1
    have O1 := Lib.hid hown2
    have B1 := Lib.hid hb1
    clear hown1 hown2 hb1
    refine (LT.out _).mono ?_
    rintro e w' ⟨rfl, rfl⟩
    go_wp2
    go_ret2
    have hown3 := O1.out
    rcases hown3.2 with ⟨rfl, h0⟩ | ⟨g, cap, cur, rfl, _⟩
    · unfold OwnI
      rw [h0] at hown3 ⊢
      exact ⟨_, _, rfl, hown3, B1.out⟩
    · exact ⟨_, _, rfl, hown3, B1.out⟩
  · have q1 : (decide (0 ≤ (b : Int)) && decide ((b : Int) ≤ 32)) = true := by simp; omega
    rw [q1] at LT
    have q3 : decide ((a : Int) < 0) = false := by simp
    have q4 := in_zero a b
    rw [decide_eq_false (by omega)] at q4
    have q5 : decide ((200000 : Int) < (l.length : Int) + (b : Int)) = true := by simp; omega
    clear h2 q1
    go_enter Try.func10, Try.ntmps10
    go_wp2_with (at_builtin; refine append_ints rfl (.tmp 9) (.tmp 10) 24 rfl w i0 Try.underlying24 hi hz0 hz1 hz2 _ _ _ rfl HO.out _ _ _ _ rfl rfl _ HI.out HP.out (by simp; omega) HB.out ?_; intro v1 w1 hown1 hb1)
    have hown2 : w1.ownsRow w.heap.size 3 1 v1 l.length (ivs l) := by simpa using hown1
    have O1 := Lib.hid hown2
    have B1 := Lib.hid hb1
    clear hown1 hown2 hb1
    refine (LT.out _).mono ?_
    rintro e w' ⟨rfl, rfl⟩
    go_wp2
    go_ret2
    have hown3 := O1.out
    rcases hown3.2 with ⟨rfl, h0⟩ | ⟨g, cap, cur, rfl, _⟩
    · unfold OwnI
      rw [h0] at hown3 ⊢
      exact ⟨_, _, rfl, hown3, B1.out⟩
    · exact ⟨_, _, rfl, hown3, B1.out⟩

theorem impl_putbits_any (A : Option Addr) (ca : Nat) (l : List Int) (n k : Int) (hl : l.length ≤ 1048576) (hn : (Lit.int .i64 n).wf = true) (w : World) (hI : Ints w w.heap.size A l) (hP : Placed A ca) :
    Calls Try.prog 9 #[.slice A l.length ca, .int .i64 n, .int .i64 k] w fun e w' => ∃ A' cap', e = .returned (.tuple #[.slice A' (putR l n k).length cap', .bool (putOk l n k)]) ∧ OwnI w' w.heap.size A' cap' (putR l n k) ∧ Below w.heap.size w w' := by
  cases h : putOk l n k with
  | true =>
    obtain ⟨a, b, rfl, rfl, hb, ha, hlb⟩ := putOk_nat l n k h
    have e : putR l a b = l ++ inL a b b := by rw [putR, h]; rfl
    rw [e]
    exact impl_putbits_ok A ca l a b hb ha hlb w hI hP
  | false =>
    have e : putR l n k = l := by rw [putR, h]; rfl
    rw [e]
    exact impl_putbits_bad A ca l n k h hl hn w hI hP
theorem spec_putbits_any (A : Option Addr) (ca : Nat) (l : List Int) (n k : Int) (hl : l.length ≤ 1048576) (hn : (Lit.int .i64 n).wf = true) (w : World) (hI : Ints w w.heap.size A l) (hP : Placed A ca) :
    Calls Try.prog 10 #[.slice A l.length ca, .int .i64 n, .int .i64 k] w fun e w' => ∃ A' cap', e = .returned (.tuple #[.slice A' (putR l n k).length cap', .bool (putOk l n k)]) ∧ OwnI w' w.heap.size A' cap' (putR l n k) ∧ Below w.heap.size w w' := by
  cases h : putOk l n k with
  | true =>
    obtain ⟨a, b, rfl, rfl, hb, ha, hlb⟩ := putOk_nat l n k h
    have e : putR l a b = l ++ inL a b b := by rw [putR, h]; rfl
    rw [e]
    exact spec_putbits_ok A ca l a b hb ha hlb w hI hP
  | false =>
    have e : putR l n k = l := by rw [putR, h]; rfl
    rw [e]
    exact spec_putbits_bad A ca l n k h hl hn w hI hP
theorem putR_len (l : List Int) (n k : Int) (hl : l.length ≤ 1048576) : (putR l n k).length ≤ 1048576 := by
  cases h : putOk l n k with
  | true =>
    obtain ⟨a, b, rfl, rfl, hb, ha, hlb⟩ := putOk_nat l n k h
    have e : putR l a b = l ++ inL a b b := by rw [putR, h]; rfl
    rw [e, List.length_append, inL_len]
    omega
  | false =>
    have e : putR l n k = l := by rw [putR, h]; rfl
    rw [e]
    exact hl

/-- A row of one's own while another row is written that is older. -/
theorem OwnI.other {w w' : World} {base : Nat} {A : Option Addr} {cap : Nat} {l : List Int} {r : Option Nat} (h : OwnI w base A cap l) (hg : w.grownBy w' r) (hr : ∀ k, r = some k → k < base) : OwnI w' base A cap l := by
  refine World.ownsRow.kept (row := r) h hg ?_
  cases hv : (Value.slice A l.length cap).ownBlock with
  | none => simp
  | some b =>
    have h1 := (World.ownsRow.lt h b hv).1
    cases r with
    | none => simp
    | some k =>
      have h2 := hr k rfl
      simp
      omega
theorem OwnI.block {w : World} {base : Nat} {A : Option Addr} {cap : Nat} {l : List Int} (h : OwnI w base A cap l) : ∀ k, (Value.slice A l.length cap).ownBlock = some k → base ≤ k ∧ k < w.heap.size := World.ownsRow.lt h

set_option maxRecDepth 100000 in
set_option maxHeartbeats 1000000 in
/-- The law's own walk, by contracts of the two texts that answer with a row. -/
theorem fnExactPutBits_walk (a : Option Addr) (len cap : Nat) (zs : List Int) (n k : Int) (hn : (Lit.int .i64 n).wf = true) (hk : (Lit.int .i64 k).wf = true) (w : World) (hr : IsRow .i64 w a len cap zs) :
    Calls Try.prog 4 #[.slice a len cap, .int .i64 n, .int .i64 k] w fun e w' => e = .returned (.bool true) ∧ Below w.heap.size w w' := by
  have hlm := hr.len_le
  unfold maxLen at hlm
  by_cases hbig : 1048576 < len
  · go_enter Try.func4, Try.ntmps4
    go_wp2
    go_ret
    exact ⟨rfl, Below.refl _ _⟩
  · obtain ⟨l, rfl, hI, _, _⟩ := ints_of hr (by omega)
    have hq0 : decide (1048576 < (l.length : Int)) = false := by simp; omega
    have R := Lib.hid hI; clear hI hr
    have TI := Lib.hid (toints_any a cap l (by omega))
    have SP := Lib.hid fun A ca => spec_putbits_any A ca l n k (by omega) hn
    have IM := Lib.hid fun A ca => impl_putbits_any A ca l n k (by omega) hn
    have EQ := Lib.hid @eqints_any
    have MK := Lib.hid @markints_any
    have HE := Lib.hid @heldints_any
    have hxl := putR_len l n k (by omega)
    obtain ⟨x, hx⟩ : ∃ x, x = putR l n k := ⟨_, rfl⟩
    obtain ⟨o, ho⟩ : ∃ o, o = putOk l n k := ⟨_, rfl⟩
    rw [← hx, ← ho] at SP IM
    rw [← hx] at hxl
    have hll : l.length ≤ 1048576 := by omega
    clear hx ho hn hk hbig
    have hq2 : (o != o) = false := by simp
    have hm0 : decide ((1 : Int) + (x.length : Int) < 0) = false := by simp; omega
    have hm1 : decide ((1 : Int) + (l.length : Int) < 0) = false := by simp; omega
    have hq : ((1 : Int) + (x.length : Int) != 1 + (x.length : Int)) = false := by simp
    go_enter Try.func4, Try.ntmps4
    go_wp2_with fail
    refine (TI.out _ R.out).mono ?_
    rintro e w1 ⟨A1, c1, rfl, ho1, hb1⟩
    have P1 := Lib.hid ho1.placed
    have R1 := Lib.hid (ho1.ints (by omega)); clear ho1
    have B1 := Lib.hid hb1; clear hb1
    go_wp2_with fail
    refine (SP.out _ _ _ R1.out P1.out).mono ?_
    rintro e w2 ⟨A2, c2, rfl, ho2, hb2⟩
    have W2 := Lib.hid (ho2.ints (by omega)); clear ho2
    have B2 := Lib.hid (below_up B1.out hb2 B1.out.size); clear hb2 P1 R1
    go_wp2_with fail
    refine (TI.out _ ((R.out.below B2.out (Nat.le_refl _)).mono B2.out.size)).mono ?_
    rintro e w3 ⟨A3, c3, rfl, ho3, hb3⟩
    have P3 := Lib.hid ho3.placed
    have O3 := Lib.hid ho3; clear ho3
    have W3 := Lib.hid (W2.out.below hb3 (Nat.le_refl _))
    have S3 := Lib.hid hb3.size
    have B3 := Lib.hid (below_up B2.out hb3 B2.out.size); clear hb3 W2
    go_wp2_with fail
    refine (IM.out _ _ _ (O3.out.ints (by omega)) P3.out).mono ?_
    rintro e w4 ⟨A4, c4, rfl, ho4, hb4⟩
    have O4 := Lib.hid ho4; clear ho4
    have Q4 := Lib.hid (O3.out.kept hb4 (Nat.le_refl _))
    have W4 := Lib.hid (W3.out.below hb4 S3.out)
    have S4 := Lib.hid (Nat.le_trans S3.out hb4.size)
    have T4 := Lib.hid hb4.size
    have U3 := Lib.hid (fun k hk => (O3.out.block k hk).2)
    have B4 := Lib.hid (below_up B3.out hb4 B3.out.size); clear hb4 W3 O3
    go_wp2_with fail
    refine (EQ.out _ _ _ _ _ _ _ (O4.out.ints (by omega)) (W4.out.mono S4.out)).mono ?_
    rintro e w5 ⟨rfl, hb5⟩
    have O5 := Lib.hid (O4.out.kept hb5 (Nat.le_refl _))
    have Q5 := Lib.hid (Q4.out.kept hb5 (Nat.le_refl _))
    have W5 := Lib.hid (W4.out.below hb5 S4.out)
    have S5 := Lib.hid (Nat.le_trans S4.out hb5.size)
    have T5 := Lib.hid (Nat.le_trans T4.out hb5.size)
    have B5 := Lib.hid (below_up B4.out hb5 B4.out.size); clear hb5 O4 Q4 W4 S4 T4
    go_wp2_with fail
    refine (TI.out _ ((R.out.below B5.out (Nat.le_refl _)).mono B5.out.size)).mono ?_
    rintro e w6 ⟨A6, c6, rfl, ho6, hb6⟩
    have R6 := Lib.hid (ho6.ints (by omega)); clear ho6
    have O6 := Lib.hid (O5.out.kept hb6 (Nat.le_refl _))
    have Q6 := Lib.hid (Q5.out.kept hb6 (Nat.le_refl _))
    have W6 := Lib.hid (W5.out.below hb6 S5.out)
    have S6 := Lib.hid (Nat.le_trans S5.out hb6.size)
    have T6 := Lib.hid (Nat.le_trans T5.out hb6.size)
    have B6 := Lib.hid (below_up B5.out hb6 B5.out.size); clear hb6 O5 Q5 W5 S5 T5
    go_wp2_with fail
    refine (EQ.out _ _ _ _ _ _ _ (Q6.out.ints (by omega)) R6.out).mono ?_
    rintro e w7 ⟨rfl, hb7⟩
    have O7 := Lib.hid (O6.out.kept hb7 (Nat.le_refl _))
    have Q7 := Lib.hid (Q6.out.kept hb7 (Nat.le_refl _))
    have W7 := Lib.hid (W6.out.below hb7 S6.out)
    have S7 := Lib.hid (Nat.le_trans S6.out hb7.size)
    have T7 := Lib.hid (Nat.le_trans T6.out hb7.size)
    have B7 := Lib.hid (below_up B6.out hb7 B6.out.size); clear hb7 O6 Q6 W6 S6 T6 R6
    go_wp2_with fail
    refine (MK.out _ _ _ _ _ (by omega) (by omega) (by omega) _ Q7.out).mono ?_
    rintro e w8 ⟨rfl, ho8, hg8⟩
    clear ho8
    have O8 := Lib.hid (O7.out.other hg8 U3.out)
    have W8 := Lib.hid (W7.out.grown hg8 S7.out fun k hk => (Q7.out.block k hk).1)
    have S8 := Lib.hid (Nat.le_trans S7.out hg8.size)
    have T8 := Lib.hid (Nat.le_trans T7.out hg8.size)
    have B8 := Lib.hid (B7.out.trans (Q7.out.marked hg8 (B := w.heap.size) B2.out.size B7.out.size)); clear hg8 O7 Q7 W7 S7 T7 U3
    go_wp2_with fail
    refine (EQ.out _ _ _ _ _ _ _ (O8.out.ints (by omega)) (W8.out.mono S8.out)).mono ?_
    rintro e w9 ⟨rfl, hb9⟩
    have O9 := Lib.hid (O8.out.kept hb9 (Nat.le_refl _))
    have W9 := Lib.hid (W8.out.below hb9 S8.out)
    have S9 := Lib.hid (Nat.le_trans S8.out hb9.size)
    have T9 := Lib.hid (Nat.le_trans T8.out hb9.size)
    have B9 := Lib.hid (below_up B8.out hb9 B8.out.size); clear hb9 O8 W8 S8 T8
    go_wp2_with fail
    refine (MK.out _ _ _ _ _ (by omega) (by omega) (by omega) _ O9.out).mono ?_
    rintro e w10 ⟨rfl, ho10, hg10⟩
    have M10 := Lib.hid (ho10.ints (by rw [markL_len]; omega)); clear ho10
    have W10 := Lib.hid (W9.out.grown hg10 S9.out fun k hk => Nat.le_trans S3.out (O9.out.block k hk).1)
    have S10 := Lib.hid (Nat.le_trans S9.out hg10.size)
    have B10 := Lib.hid (B9.out.trans (O9.out.marked hg10 (B := w.heap.size) B3.out.size B9.out.size)); clear hg10 O9 W9 S9 T9
    go_wp2_with fail
    refine (HE.out _ _ _ _ (by omega) (by omega) _ M10.out).mono ?_
    rintro e w11 ⟨rfl, hb11⟩
    have M11 := Lib.hid ((M10.out.below hb11 (Nat.le_refl _)).mono hb11.size)
    have W11 := Lib.hid (W10.out.below hb11 S10.out)
    have S11 := Lib.hid (Nat.le_trans S10.out hb11.size)
    have B11 := Lib.hid (below_up B10.out hb11 B10.out.size); clear hb11 M10 W10 S10
    go_wp2_with fail
    refine (TI.out _ ((R.out.below B11.out (Nat.le_refl _)).mono B11.out.size)).mono ?_
    rintro e w12 ⟨A12, c12, rfl, ho12, hb12⟩
    have P12 := Lib.hid ho12.placed
    have R12 := Lib.hid (ho12.ints (by omega)); clear ho12
    have M12 := Lib.hid ((M11.out.below hb12 (Nat.le_refl _)).mono hb12.size)
    have W12 := Lib.hid (W11.out.below hb12 S11.out)
    have S12 := Lib.hid (Nat.le_trans S11.out hb12.size)
    have B12 := Lib.hid (below_up B11.out hb12 B11.out.size); clear hb12 M11 W11 S11
    go_wp2_with fail
    refine (IM.out _ _ _ R12.out P12.out).mono ?_
    rintro e w13 ⟨A13, c13, rfl, ho13, hb13⟩
    have R13 := Lib.hid (ho13.ints (by omega)); clear ho13
    have M13 := Lib.hid ((M12.out.below hb13 (Nat.le_refl _)).mono hb13.size)
    have W13 := Lib.hid ((W12.out.below hb13 S12.out).mono (Nat.le_trans S12.out hb13.size))
    have B13 := Lib.hid (below_up B12.out hb13 B12.out.size); clear hb13 M12 W12 S12 R12 P12
    go_wp2_with fail
    refine (EQ.out _ _ _ _ _ _ _ R13.out W13.out).mono ?_
    rintro e w14 ⟨rfl, hb14⟩
    have M14 := Lib.hid ((M13.out.below hb14 (Nat.le_refl _)).mono hb14.size)
    have B14 := Lib.hid (below_up B13.out hb14 B13.out.size); clear hb14 M13 W13 R13
    go_wp2_with fail
    refine (HE.out _ _ _ _ (by omega) (by omega) _ M14.out).mono ?_
    rintro e w15 ⟨rfl, hb15⟩
    have B15 := Lib.hid (below_up B14.out hb15 B14.out.size); clear hb15
    go_wp2
    go_ret
    exact ⟨rfl, B15.out⟩
end Go.Proofs.Ytkefplaffppklaa
