/-
  Plain facts on decimal numerals: what Atoi makes of a numeral, and what a scan over its digits finds. No condition but those that each lemma states.
-/
import Derived.Test.YtbpghjnkjakhnaaDoorKit
import Derived.Lib.ItoaLen
import Derived.Lib.ItoaNum
import Derived.Lib.AtoiAllCases
import Derived.Lib.Strings
namespace Go.Proofs.YtbpghjnkjakhnaaDoor
open Go.RowKit
set_option linter.unusedVariables false

/-- One step of a scan: a digit is taken in, another byte is passed over. -/
def scD (n : Nat) (b : UInt8) : Nat := if 48 ≤ b.toNat ∧ b.toNat ≤ 57 then n * 10 + (b.toNat - 48) else n
def scK (k : Nat) (b : UInt8) : Nat := if 48 ≤ b.toNat ∧ b.toNat ≤ 57 then k + 1 else k
def scanN (l : List UInt8) : Nat := l.foldl scD 0
def scanK (l : List UInt8) : Nat := l.foldl scK 0
theorem scanN_snoc (l : List UInt8) (b : UInt8) : scanN (l ++ [b]) = scD (scanN l) b := by simp [scanN]
theorem scanK_snoc (l : List UInt8) (b : UInt8) : scanK (l ++ [b]) = scK (scanK l) b := by simp [scanK]
theorem dig_toNat (d : Nat) (h : d < 10) : (UInt8.ofNat (48 + d)).toNat = 48 + d := by simp; omega

theorem foldN_digits (u : Nat) : ∀ rest : List UInt8, (Lib.decDigits u ++ rest).foldl scD 0 = rest.foldl scD u := by
  induction u using Nat.strongRecOn with
  | ind u ih =>
    intro rest
    by_cases h : u < 10
    · rw [Lib.decDigits_one h, List.singleton_append, List.foldl_cons]
      congr 1
      unfold scD
      rw [dig_toNat u h, if_pos ⟨by omega, by omega⟩]
      omega
    · rw [Lib.decDigits, dif_neg h, List.append_assoc, ih (u / 10) (by omega), List.singleton_append, List.foldl_cons]
      congr 1
      unfold scD
      rw [dig_toNat (u % 10) (by omega), if_pos ⟨by omega, by omega⟩]
      omega
theorem digits_all (u : Nat) : ∀ b ∈ Lib.decDigits u, 48 ≤ b.toNat ∧ b.toNat ≤ 57 := by
  induction u using Nat.strongRecOn with
  | ind u ih =>
    intro b hb
    by_cases h : u < 10
    · rw [Lib.decDigits_one h, List.mem_singleton] at hb
      subst hb
      rw [dig_toNat u h]
      omega
    · rw [Lib.decDigits, dif_neg h, List.mem_append, List.mem_singleton] at hb
      rcases hb with hb | rfl
      · exact ih (u / 10) (by omega) b hb
      · rw [dig_toNat (u % 10) (by omega)]
        omega
theorem foldK_digits : ∀ (l : List UInt8) (k : Nat), (∀ b ∈ l, 48 ≤ b.toNat ∧ b.toNat ≤ 57) → l.foldl scK k = k + l.length
  | [], k, _ => rfl
  | b :: l, k, h => by
    rw [List.foldl_cons, foldK_digits l _ (fun x hx => h x (List.mem_cons_of_mem _ hx)), scK, if_pos (h b (List.mem_cons_self ..)), List.length_cons]
    omega
theorem scanN_digits (u : Nat) : scanN (Lib.decDigits u) = u := by
  have := foldN_digits u []
  rw [List.append_nil] at this
  exact this
theorem scanK_digits (u : Nat) : scanK (Lib.decDigits u) = (Lib.decDigits u).length := by
  rw [scanK, foldK_digits _ _ (digits_all u), Nat.zero_add]
theorem scanN_minus (l : List UInt8) : scanN (45 :: l) = scanN l := rfl
theorem scanK_minus (l : List UInt8) : scanK (45 :: l) = scanK l := rfl
theorem scanN_lt : ∀ (l : List UInt8) (n k : Nat), n < 10 ^ k → l.foldl scD n < 10 ^ (k + l.length)
  | [], n, k, h => h
  | b :: l, n, k, h => by
    rw [List.foldl_cons, List.length_cons, show k + (l.length + 1) = (k + 1) + l.length by omega]
    refine scanN_lt l _ (k + 1) ?_
    have hb := b.toNat_lt
    rw [Nat.pow_succ]
    unfold scD
    split <;> omega
theorem scanN_bound (l : List UInt8) (h : l.length ≤ 11) : scanN l < 100000000000 := by
  have h1 := scanN_lt l 0 0 (by decide)
  have h2 : 10 ^ (0 + l.length) ≤ 10 ^ 11 := Nat.pow_le_pow_right (by decide) (by omega)
  exact Nat.lt_of_lt_of_le h1 h2

theorem parse_digits (u : Nat) (hu : u < 18446744073709551616) : ∀ rest : List UInt8, Lib.parseUint10 0 (Lib.decDigits u ++ rest) = Lib.parseUint10 u rest := by
  induction u using Nat.strongRecOn with
  | ind u ih =>
    intro rest
    by_cases h : u < 10
    · rw [Lib.decDigits_one h, List.singleton_append, Lib.parseUint10, dig_toNat u h, if_pos ⟨by omega, by omega⟩, if_neg (by omega), if_neg (by omega)]
      congr 1
      omega
    · rw [Lib.decDigits, dif_neg h, List.append_assoc, ih (u / 10) (by omega) (by omega), List.singleton_append, Lib.parseUint10, dig_toNat (u % 10) (by omega), if_pos ⟨by omega, by omega⟩, if_neg (by omega), if_neg (by omega)]
      congr 1
      omega
theorem digits_ne (u : Nat) : Lib.decDigits u ≠ [] := by
  intro h
  have := congrArg List.length h
  rw [Lib.decDigits_length] at this
  have := Lib.nDigits_pos u
  simp at *
  omega
theorem mag_digits (u : Nat) (hu : u < 18446744073709551616) : Lib.parseMag (Lib.decDigits u) = .ok u := by
  unfold Lib.parseMag
  rw [if_neg (digits_ne u)]
  have := parse_digits u hu []
  rw [List.append_nil] at this
  rw [this]
  rfl
theorem atoi_itoa (n : Int) (h0 : -9223372036854775808 ≤ n) (h1 : n ≤ 9223372036854775807) : Lib.atoiAll (Lib.itoa n) = .ok n := by
  unfold Lib.itoa
  by_cases hneg : n < 0
  · rw [if_pos hneg, Lib.atoiAll_minus, mag_digits _ (by omega)]
    unfold Lib.signed
    have h2 : ¬ 9223372036854775808 < n.natAbs := by omega
    simp [h2]
    omega
  · rw [if_neg hneg]
    have hd := digits_all n.toNat
    have hm := mag_digits n.toNat (by omega)
    cases hl : Lib.decDigits n.toNat with
    | nil => exact absurd hl (digits_ne _)
    | cons c r =>
      rw [hl] at hd hm
      have hc := hd c (List.mem_cons_self ..)
      rw [Lib.atoiAll_plain c r (by omega) (by omega), hm]
      unfold Lib.signless
      have h2 : ¬ 9223372036854775808 ≤ n.toNat := by omega
      simp [h2]
      omega

/-- The text without a minus sign ahead. -/
def bare (l : List UInt8) : List UInt8 := Lib.trimPrefix l [45]
/-- What ReadDec gives. -/
def rdB (l : List UInt8) : Bool := decide ((bare l).length ≤ 9) && (match Lib.atoiAll l with | .ok v => decide (Lib.itoa v = l) | _ => false)
def rdN (l : List UInt8) : Int := if rdB l then (match Lib.atoiAll l with | .ok v => v | _ => 0) else 0

theorem bare_itoa (n : Int) : bare (Lib.itoa n) = Lib.decDigits n.natAbs := by
  unfold bare Lib.trimPrefix Lib.itoa
  by_cases hneg : n < 0
  · rw [if_pos hneg]
    simp [Lib.hasPrefix]
  · rw [if_neg hneg]
    have hd := digits_all n.toNat
    have e : n.natAbs = n.toNat := by omega
    rw [e]
    cases hl : Lib.decDigits n.toNat with
    | nil => exact absurd hl (digits_ne _)
    | cons c r =>
      rw [hl] at hd
      have hc := hd c (List.mem_cons_self ..)
      have hne : c ≠ 45 := by
        rintro rfl
        simp at hc
      rw [if_neg]
      simp [Lib.hasPrefix]
      exact fun e => hne e.symm
theorem rd_itoa (n : Int) (h0 : -9223372036854775808 ≤ n) (h1 : n ≤ 9223372036854775807) (hl : (Lib.decDigits n.natAbs).length ≤ 9) : rdB (Lib.itoa n) = true ∧ rdN (Lib.itoa n) = n := by
  have hb : rdB (Lib.itoa n) = true := by
    unfold rdB
    rw [bare_itoa, decide_eq_true hl, atoi_itoa n h0 h1]
    simp
  refine ⟨hb, ?_⟩
  unfold rdN
  rw [hb, if_pos rfl, atoi_itoa n h0 h1]
theorem rd_inv (l : List UInt8) (h : rdB l = true) : ∃ n, -9223372036854775808 ≤ n ∧ n ≤ 9223372036854775807 ∧ l = Lib.itoa n ∧ (Lib.decDigits n.natAbs).length ≤ 9 := by
  unfold rdB at h
  rw [Bool.and_eq_true, decide_eq_true_eq] at h
  obtain ⟨h1, h2⟩ := h
  cases ha : Lib.atoiAll l with
  | «syntax» => rw [ha] at h2; cases h2
  | range => rw [ha] at h2; cases h2
  | ok v =>
    rw [ha] at h2
    have e : Lib.itoa v = l := by simpa using h2
    obtain ⟨b0, b1⟩ := Lib.atoiAll_bounds ha
    refine ⟨v, b0, b1, e.symm, ?_⟩
    rw [← e, bare_itoa] at h1
    exact h1

/-- What the scan with its sign says. -/
def scV (l : List UInt8) : Int := if 0 < l.length ∧ (l.getD 0 0).toNat = 45 then -(scanN (l.take 11) : Int) else (scanN (l.take 11) : Int)
theorem itoa_len (n : Int) : (Lib.itoa n).length ≤ (Lib.decDigits n.natAbs).length + 1 := by
  unfold Lib.itoa
  split
  · simp
  · rw [show n.toNat = n.natAbs by omega]
    omega
theorem scan_itoa (n : Int) (hl : (Lib.decDigits n.natAbs).length ≤ 10) : scV (Lib.itoa n) = n ∧ scanK ((Lib.itoa n).take 11) = (Lib.decDigits n.natAbs).length := by
  have ht : (Lib.itoa n).take 11 = Lib.itoa n := List.take_of_length_le (by have := itoa_len n; omega)
  unfold scV
  rw [ht]
  unfold Lib.itoa
  by_cases hneg : n < 0
  · rw [if_pos hneg, scanN_minus, scanK_minus, scanN_digits, scanK_digits]
    refine ⟨?_, rfl⟩
    rw [if_pos ⟨by simp, by simp⟩]
    omega
  · rw [if_neg hneg, show n.toNat = n.natAbs by omega, scanN_digits, scanK_digits]
    refine ⟨?_, rfl⟩
    have hd := digits_all n.natAbs
    rw [if_neg]
    · omega
    · rintro ⟨h1, h2⟩
      cases hl : Lib.decDigits n.natAbs with
      | nil => exact absurd hl (digits_ne _)
      | cons c r =>
        rw [hl] at hd h2
        have hc := hd c (List.mem_cons_self ..)
        simp at h2
        rw [h2] at hc
        simp at hc
/-- The scan's own test says the same. -/
theorem scan_test (l : List UInt8) : (scanK (l.take 11) ≤ 9 ∧ l.length ≤ 10 ∧ Lib.itoa (scV l) = l) ↔ rdB l = true := by
  constructor
  · rintro ⟨h1, h2, h3⟩
    have hb : scanN (l.take 11) < 100000000000 := scanN_bound _ (by rw [List.length_take]; omega)
    have hv : -9223372036854775808 ≤ scV l ∧ scV l ≤ 9223372036854775807 := by unfold scV; split <;> omega
    have hlen : (Lib.decDigits (scV l).natAbs).length ≤ 10 := by
      have e : bare l = Lib.decDigits (scV l).natAbs := by rw [← bare_itoa, h3]
      have : (bare l).length ≤ l.length := by unfold bare Lib.trimPrefix; split <;> simp
      rw [← e]
      omega
    have hk := (scan_itoa (scV l) hlen).2
    rw [h3] at hk
    have := (rd_itoa (scV l) hv.1 hv.2 (by omega)).1
    rw [h3] at this
    exact this
  · intro h
    obtain ⟨n, b0, b1, rfl, hlen⟩ := rd_inv l h
    obtain ⟨s1, s2⟩ := scan_itoa n (by omega)
    have := itoa_len n
    exact ⟨by omega, by omega, by rw [s1]⟩
theorem scan_val (l : List UInt8) (h : rdB l = true) : scV l = rdN l := by
  obtain ⟨n, b0, b1, rfl, hlen⟩ := rd_inv l h
  rw [(scan_itoa n (by omega)).1, (rd_itoa n b0 b1 hlen).2]
theorem rdN_false (l : List UInt8) (h : rdB l = false) : rdN l = 0 := by
  unfold rdN
  rw [h]
  rfl
theorem rd_no (l : List UInt8) (h : ¬ (scanK (l.take 11) ≤ 9 ∧ l.length ≤ 10 ∧ Lib.itoa (scV l) = l)) : rdB l = false := by
  cases hb : rdB l with
  | false => rfl
  | true => exact absurd ((scan_test l).2 hb) h
end Go.Proofs.YtbpghjnkjakhnaaDoor
