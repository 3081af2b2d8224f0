/-
  FastUe: both texts answer alike; what it answers with the table of UeTable is what is read bit by bit. Condition: the string is no longer than 1048576 bytes (the laws ask no more).
  Plain facts: what FastUe answers with the table of UeTable is what is read bit by bit. No condition but those that each lemma states.
-/
import Derived.Test.YtgacldhpohnpaaaFastI
namespace Go.Proofs.Ytgacldhpohnpaaa
open Go.RowKit
set_option linter.unusedVariables false

/-- What FastUe answers where the table has an entry that is used. -/
def quickR (s : ByteArray) (a P : Nat) (l : EntL) : Value := (if a + (entAt l (fnX s a P)).1.toNat ≤ 8 * s.size then Value.tuple #[cw s (a + (entAt l (fnX s a P)).1.toNat) ((a + (entAt l (fnX s a P)).1.toNat + 7) / 8), .int .i64 (entAt l (fnX s a P)).2, .int .i64 0] else .tuple #[cw s a P, .int .i64 0, .int .i64 1])
theorem fast_quick (s : ByteArray) (a P : Nat) (hs : s.size ≤ 1048576) (hA : At s a P) (l : EntL) (hq : quick s a P l) :
    (∀ (A : Option Addr) (ca : Nat) (w : World), Ents w w.heap.size A l → Calls Try.prog 20 #[cw s a P, .slice A l.length ca] w fun e w' => e = .returned (quickR s a P l) ∧ Below w.heap.size w w') ∧ (∀ (A : Option Addr) (ca : Nat) (w : World), Ents w w.heap.size A l → Calls Try.prog 15 #[cw s a P, .slice A l.length ca] w fun e w' => e = .returned (quickR s a P l) ∧ Below w.heap.size w w') := by
  have hq0 := hq
  obtain ⟨hl, hz1, hz9⟩ := hq
  have hI : ∀ (A : Option Addr) (ca : Nat) (w : World), Ents w w.heap.size A l → Calls Try.prog 15 #[cw s a P, .slice A l.length ca] w fun e w' => e = .returned (quickR s a P l) ∧ Below w.heap.size w w' := fun A ca w hE => impl_fast_quick s a P hs hA l hq0 A ca w hE
  refine ⟨?_, hI⟩
  clear hI
  have hA2 := (pkP_at s a P 9 hA).2
  obtain ⟨S, hS⟩ : ∃ S : Nat, (entAt l (fnX s a P)).1 = (S : Int) := ⟨(entAt l (fnX s a P)).1.toNat, by omega⟩
  have hS9 : S ≤ 9 := by omega
  have hA3 := (pkP_at s a (pkP s a P 9) S hA2).2
  have hhas := pkP_has s a (pkP s a P 9) S hA2 (by omega)
  have hK1 := spec_skip_in s a (pkP s a P 9) S hs hA2 (by omega)
  have he : entAt l (fnX s a P) = ((S : Int), (entAt l (fnX s a P)).2) := by rw [← hS]
  unfold quickR
  rw [hS, Int.toNat_natCast]
  obtain ⟨Q, hQ⟩ : ∃ Q, Q = pkP s a (pkP s a P 9) S := ⟨_, rfl⟩
  rw [← hQ] at hhas hA3
  by_cases hin : a + S ≤ 8 * s.size
  · rw [if_pos hin]
    have hin2 := hhas.2 hin
    have hA4 : At s (a + S) Q := by obtain ⟨b1, b2, b3⟩ := hA3; exact ⟨b1, by omega, by omega⟩
    have e1 : skR s a (pkP s a (pkP s a P 9) S) S = .tuple #[cw s (a + S) Q, .bool true] := by
      rw [← hQ, skR, if_pos hin2, decide_eq_true hin2]
    intro A ca w hE
    have h := spec_fast_in s a P hs hA A ca l S (entAt l (fnX s a P)).2 (fnX s a P) rfl hl he (by omega) (by omega) true _ _ _ _ _ _ (Lib.hid (fun w => by have h := hK1 w; rw [e1] at h; exact h)) (Lib.hid (fun _ w => spec_settle_in s (a + S) Q hs hA4 w)) w hE
    rw [if_pos rfl] at h
    rw [hl]
    exact h
  · rw [if_neg hin]
    have hin2 : ¬ S ≤ 8 * Q - a := fun h => hin (hhas.1 h)
    have e1 : skR s a (pkP s a (pkP s a P 9) S) S = .tuple #[cw s a Q, .bool false] := by
      rw [← hQ, skR, if_neg hin2, decide_eq_false hin2]
    intro A ca w hE
    have h := spec_fast_in s a P hs hA A ca l S (entAt l (fnX s a P)).2 (fnX s a P) rfl hl he (by omega) (by omega) false _ _ _ 0 0 0 (Lib.hid (fun w => by have h := hK1 w; rw [e1] at h; exact h)) (Lib.hid (fun h => by cases h)) w hE
    rw [if_neg (by decide)] at h
    rw [hl]
    exact h

theorem quickR_form (s : ByteArray) (a P : Nat) (l : EntL) : ∃ q y x n er : Int, quickR s a P l = .tuple #[.agg #[.string s, .int .i64 q, .int .i64 y, .int .i64 x], .int .i64 n, .int .i64 er] := by
  unfold quickR
  split
  · exact ⟨_, _, _, _, _, rfl⟩
  · exact ⟨_, _, _, _, _, rfl⟩

/-- Both texts answer alike. -/
theorem fast_both (s : ByteArray) (p wd h : Int) (hs : s.size ≤ 1048576) (l : EntL) : ∃ q y x n er : Int,
    (∀ (A : Option Addr) (ca : Nat) (w : World), Ents w w.heap.size A l → Calls Try.prog 20 #[.agg #[.string s, .int .i64 p, .int .i64 wd, .int .i64 h], .slice A l.length ca] w fun e w' => e = .returned (.tuple #[.agg #[.string s, .int .i64 q, .int .i64 y, .int .i64 x], .int .i64 n, .int .i64 er]) ∧ Below w.heap.size w w') ∧
    (∀ (A : Option Addr) (ca : Nat) (w : World), Ents w w.heap.size A l → Calls Try.prog 15 #[.agg #[.string s, .int .i64 p, .int .i64 wd, .int .i64 h], .slice A l.length ca] w fun e w' => e = .returned (.tuple #[.agg #[.string s, .int .i64 q, .int .i64 y, .int .i64 x], .int .i64 n, .int .i64 er]) ∧ Below w.heap.size w w') := by
  cases hk : ckOk s p wd h with
  | false => exact ⟨p, wd, h, 0, 1, fun A ca w _ => spec_fast_out s p wd h A l.length ca hs hk w, fun A ca w _ => impl_fast_out s p wd h A l.length ca hs hk w⟩
  | true =>
    obtain ⟨a, P, hA, rfl, rfl, rfl⟩ := ckOk_at s p wd h hk
    by_cases hq : quick s a P l
    · obtain ⟨q, y, x, n, er, hR⟩ := quickR_form s a P l
      obtain ⟨h1, h2⟩ := fast_quick s a P hs hA l hq
      rw [hR] at h1 h2
      exact ⟨q, y, x, n, er, h1, h2⟩
    · obtain ⟨q, y, x, n, er, hR⟩ := fuR_form s a P
      refine ⟨q, y, x, n, er, fun A ca w hE => ?_, fun A ca w hE => ?_⟩
      · have h := spec_fast_slow s a P hs hA A ca l hq w hE
        rw [hR] at h
        exact h
      · have h := impl_fast_slow s a P hs hA A ca l hq w hE
        rw [hR] at h
        exact h
end Go.Proofs.Ytgacldhpohnpaaa

namespace Go.Proofs.Ytgacldhpohnpaaa
open Go.RowKit
set_option linter.unusedVariables false

theorem rdN_none (s : ByteArray) (a : Nat) : ∀ n, rdN s a n = 0 → ∀ j, j < n → bitN s (a + j) = 0
  | 0, _, j, hj => absurd hj (Nat.not_lt_zero _)
  | n + 1, h, j, hj => by
    rw [rdN] at h
    by_cases e : j = n
    · subst e; omega
    · exact rdN_none s a n (by omega) j (by omega)
/-- The nine bits are those that are there, and zeros. -/
theorem fnX_bits (s : ByteArray) (a P : Nat) (hA : At s a P) : ∃ m, m ≤ 9 ∧ a + m ≤ 8 * s.size ∧ (m = 9 ∨ a + m = 8 * s.size) ∧ fnX s a P = rdN s a m * 2 ^ (9 - m) := by
  obtain ⟨h1, h2, h3⟩ := hA
  obtain ⟨q1, q2, q3⟩ := (pkP_at s a P 9 ⟨h1, h2, h3⟩).2
  unfold fnX pkV
  by_cases h : 8 * pkP s a P 9 - a < 9
  · rw [if_pos h]
    have hQ : pkP s a P 9 = s.size := by
      have hk := (pkP_has s a P 9 ⟨h1, h2, h3⟩ (by decide))
      unfold pkP rfP at h q1 ⊢
      split at h
      · rename_i h8
        rw [if_pos h8] at q1 ⊢
        split at h
        · rename_i h9
          rw [if_pos h9] at q1 ⊢
          omega
        · omega
      · omega
    refine ⟨8 * pkP s a P 9 - a, by omega, by omega, .inr (by omega), ?_⟩
    rw [Int.toNat_natCast]
  · rw [if_neg h]
    exact ⟨9, Nat.le_refl _, by omega, .inl rfl, by simp⟩
/-- The first bits of the nine. -/
theorem first_bits (s : ByteArray) (a m S : Nat) (hm : m ≤ 9) (hS : S ≤ m) : rdN s a m * 2 ^ (9 - m) / 2 ^ (9 - S) = rdN s a S := by
  rw [show 9 - S = (9 - m) + (m - S) by omega, Nat.pow_add, ← Nat.div_div_eq_div_mul, Nat.mul_div_cancel _ (Nat.two_pow_pos _), rdN_cut s a S m hS]
/-- Where a 1 is the bit behind `z` zeros of the nine. -/
theorem read_code (s : ByteArray) (a P z : Nat) (hA : At s a P) (hz : z ≤ 4) (h1 : 2 ^ (8 - z) ≤ fnX s a P) (h2 : fnX s a P < 2 ^ (9 - z)) :
    (a + (2 * z + 1) ≤ 8 * s.size → ruEr s a = 0 ∧ ruPlace s a = ((a + (2 * z + 1) : Nat) : Int) ∧ ruNum s a = ((fnX s a P / 2 ^ (9 - (2 * z + 1)) : Nat) : Int) - 1) ∧
    (¬ a + (2 * z + 1) ≤ 8 * s.size → ruEr s a = 1) := by
  obtain ⟨m, m9, m8, hm, hx⟩ := fnX_bits s a P hA
  rw [hx] at h1 h2 ⊢
  have hzm : z + 1 ≤ m := by
    refine Nat.lt_of_not_le fun hle => ?_
    have hr : 1 ≤ rdN s a m := by
      refine Nat.pos_of_ne_zero fun h0 => ?_
      rw [h0, Nat.zero_mul] at h1
      have := Nat.two_pow_pos (8 - z)
      omega
    have e1 := Nat.pow_le_pow_right (n := 2) (by decide) (show 9 - z ≤ 9 - m by omega)
    have e2 : 1 * 2 ^ (9 - m) ≤ rdN s a m * 2 ^ (9 - m) := Nat.mul_le_mul_right _ hr
    omega
  have hf := first_bits s a m (z + 1) m9 hzm
  have h3 : rdN s a m * 2 ^ (9 - m) / 2 ^ (9 - (z + 1)) = 1 := by
    rw [show 9 - (z + 1) = 8 - z by omega]
    have e : 2 ^ (9 - z) = 2 * 2 ^ (8 - z) := by rw [show 9 - z = (8 - z) + 1 by omega, Nat.pow_succ, Nat.mul_comm]
    exact Nat.div_eq_of_lt_le (by omega) (by omega)
  rw [h3, rdN] at hf
  have hb := bitN_lt s (a + z)
  have hr0 : rdN s a z = 0 := by omega
  have hb1 : bitN s (a + z) = 1 := by omega
  have hbz := rdN_none s a z hr0
  obtain ⟨z1, z2, z3⟩ := zrun_spec s (8 * s.size - a) a
  have hzr : zrun s a (8 * s.size - a) = z := by
    rcases Nat.lt_trichotomy (zrun s a (8 * s.size - a)) z with h | h | h
    · have e1 := z3 (by omega)
      have e2 := hbz _ h
      omega
    · exact h
    · have e1 := z2 z h
      omega
  have hok : rdOk s (a : Int) = true := by
    simp only [rdOk, Bool.and_eq_true, decide_eq_true_eq]
    omega
  have hza : zaV s (a : Int) = (z : Int) := by
    unfold zaV
    rw [if_pos hok, Int.toNat_natCast, hzr]
  have hlv : leftV s (a : Int) = 8 * (s.size : Int) - a := by unfold leftV; rw [if_pos hok]
  have h15 : ¬ (15 : Int) < (z : Int) := by omega
  constructor
  · intro hin
    have hrb : rbOk s (a : Int) (2 * (z : Int) + 1) = true := by
      simp only [rbOk, hok, hlv, Bool.and_eq_true, decide_eq_true_eq, true_and]
      omega
    refine ⟨?_, ?_, ?_⟩
    · unfold ruEr
      rw [hza, if_neg h15, if_pos hrb]
    · unfold ruPlace rbPlace
      rw [hza, if_neg h15, if_pos hrb, if_pos hrb]
      omega
    · unfold ruNum rbNum
      rw [hza, if_neg h15, if_pos hrb, if_pos hrb, first_bits s a m (2 * z + 1) m9 (by omega)]
      rw [Int.toNat_natCast, show (2 * (z : Int) + 1).toNat = 2 * z + 1 by omega]
  · intro hout
    have hrb : rbOk s (a : Int) (2 * (z : Int) + 1) = false := by
      cases h : rbOk s (a : Int) (2 * (z : Int) + 1) with
      | false => rfl
      | true =>
        simp only [rbOk, hok, hlv, Bool.and_eq_true, decide_eq_true_eq, true_and] at h
        omega
    unfold ruEr
    rw [hza, if_neg h15, hrb]
    rfl
/-- The table's entry says the same. -/
theorem table_read (s : ByteArray) (a P : Nat) (hA : At s a P) (hq : quick s a P ueT) : quickR s a P ueT = fuR s a P := by
  obtain ⟨_, hq1, hq9⟩ := hq
  have hx := (fnX_eq s a P).2
  unfold quickR fuR
  rw [ueT_at _ hx] at hq1 hq9 ⊢
  have key : ∀ z, z ≤ 4 → 2 ^ (8 - z) ≤ fnX s a P → fnX s a P < 2 ^ (9 - z) → ueE (fnX s a P) = (((2 * z + 1 : Nat) : Int), ((fnX s a P / 2 ^ (9 - (2 * z + 1)) : Nat) : Int) - 1) →
      (if a + (ueE (fnX s a P)).1.toNat ≤ 8 * s.size then Value.tuple #[cw s (a + (ueE (fnX s a P)).1.toNat) ((a + (ueE (fnX s a P)).1.toNat + 7) / 8), .int .i64 (ueE (fnX s a P)).2, .int .i64 0] else .tuple #[cw s a P, .int .i64 0, .int .i64 1]) =
      (if ruEr s a = 0 then .tuple #[cw s (ruPlace s a).toNat (((ruPlace s a).toNat + 7) / 8), .int .i64 (ruNum s a), .int .i64 0] else .tuple #[cw s a P, .int .i64 0, .int .i64 (ruEr s a)]) := by
    intro z hz h1 h2 he
    obtain ⟨r1, r2⟩ := read_code s a P z hA hz h1 h2
    rw [he]
    simp only [Int.toNat_natCast]
    by_cases hin : a + (2 * z + 1) ≤ 8 * s.size
    · obtain ⟨e1, e2, e3⟩ := r1 hin
      rw [if_pos hin, if_pos e1, e2, e3, Int.toNat_natCast]
    · rw [if_neg hin, r2 hin, if_neg (by decide)]
  obtain ⟨x, hxd⟩ : ∃ x, x = fnX s a P := ⟨_, rfl⟩
  have hU : ∀ y : Nat, ueE y = if y < 16 then (0, 0) else if y < 32 then (9, (y : Int) - 1) else if y < 64 then (7, ((y / 4 : Nat) : Int) - 1) else if y < 128 then (5, ((y / 16 : Nat) : Int) - 1) else if y < 256 then (3, ((y / 64 : Nat) : Int) - 1) else (1, ((y / 256 : Nat) : Int) - 1) := fun _ => rfl
  rw [← hxd] at hq1 hx key ⊢
  by_cases h1 : x < 16
  · rw [hU, if_pos h1] at hq1
    simp at hq1
  by_cases h2 : x < 32
  · exact key 4 (by decide) (by simp; omega) (by simp; omega) (by rw [hU, if_neg h1, if_pos h2]; simp)
  by_cases h3 : x < 64
  · exact key 3 (by decide) (by simp; omega) (by simp; omega) (by rw [hU, if_neg h1, if_neg h2, if_pos h3]; rfl)
  by_cases h4 : x < 128
  · exact key 2 (by decide) (by simp; omega) (by simp; omega) (by rw [hU, if_neg h1, if_neg h2, if_neg h3, if_pos h4]; rfl)
  by_cases h5 : x < 256
  · exact key 1 (by decide) (by simp; omega) (by simp; omega) (by rw [hU, if_neg h1, if_neg h2, if_neg h3, if_neg h4, if_pos h5]; rfl)
  · exact key 0 (by decide) (by simp; omega) (by simp; omega) (by rw [hU, if_neg h1, if_neg h2, if_neg h3, if_neg h4, if_neg h5]; rfl)
/-- With the table of UeTable FastUe answers what is read bit by bit. -/
theorem fast_table (s : ByteArray) (a P : Nat) (hs : s.size ≤ 1048576) (hA : At s a P) (A : Option Addr) (ca : Nat) (w : World) (hE : Ents w w.heap.size A ueT) :
    Calls Try.prog 15 #[cw s a P, .slice A ueT.length ca] w fun e w' => e = .returned (fuR s a P) ∧ Below w.heap.size w w' := by
  by_cases hq : quick s a P ueT
  · have h := (fast_quick s a P hs hA ueT hq).2 A ca w hE
    rw [table_read s a P hA hq] at h
    exact h
  · exact impl_fast_slow s a P hs hA A ca ueT hq w hE
/-- Without a fault the reader has moved to where the cache is; with one it stands, and the number is 0. -/
theorem ru_still (s : ByteArray) (a : Int) (h : ruEr s a ≠ 0) : ruNum s a = 0 ∧ ruPlace s a = a := by
  unfold ruEr at h
  unfold ruNum ruPlace
  split
  · exact ⟨rfl, rfl⟩
  · rename_i h15
    rw [if_neg h15] at h
    split
    · rename_i hb
      rw [if_pos hb] at h
      exact absurd rfl h
    · exact ⟨rfl, rfl⟩
end Go.Proofs.Ytgacldhpohnpaaa
