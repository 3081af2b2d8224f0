/-
  Plain facts on varints: the shape of what Var writes, and which beginning of a text is one. No condition but those that each lemma states.
-/
import Derived.Test.YtbpghjnkjakhnaaDoorVar
namespace Go.Proofs.YtbpghjnkjakhnaaDoor
open Go.RowKit
set_option linter.unusedVariables false

/-- All bytes but the last are at least 128, the last is below. -/
theorem lebL_shape : ∀ (f n : Nat), n < 128 ^ (f + 1) → ∃ p b, lebL f n = p ++ [b] ∧ b.toNat < 128 ∧ ∀ x ∈ p, 128 ≤ x.toNat
  | 0, n, h => ⟨[], UInt8.ofNat n, rfl, by simp at h ⊢; omega, by simp⟩
  | f + 1, n, h => by
    by_cases hn : n < 128
    · refine ⟨[], UInt8.ofNat n, by rw [lebL, if_pos hn]; rfl, by simp; omega, by simp⟩
    · obtain ⟨p, b, hp, hb, hx⟩ := lebL_shape f (n / 128) (by rw [Nat.pow_succ] at h; omega)
      refine ⟨UInt8.ofNat (128 + n % 128) :: p, b, by rw [lebL, if_neg hn, hp]; rfl, hb, ?_⟩
      intro x hxm
      rcases List.mem_cons.1 hxm with rfl | hm
      · simp; omega
      · exact hx x hm

/-- The number of seven-bit groups, the lowest first. -/
def lowN : List UInt8 → Nat
  | [] => 0
  | b :: l => lowN l * 128 + b.toNat % 128
theorem lowN_lt : ∀ l : List UInt8, lowN l < 128 ^ l.length
  | [] => by simp [lowN]
  | b :: l => by
    have h := lowN_lt l
    rw [List.length_cons, Nat.pow_succ, lowN]
    have := Nat.mod_lt b.toNat (show 128 > 0 by decide)
    omega
theorem lowN_snoc (l : List UInt8) (b : UInt8) : lowN (l ++ [b]) = lowN l + (b.toNat % 128) * 128 ^ l.length := by
  induction l with
  | nil => simp [lowN]
  | cons a l ih =>
    rw [List.cons_append, lowN, ih, lowN, List.length_cons, Nat.pow_succ, Nat.add_mul, Nat.mul_assoc]
    omega
theorem lowN_take_lt (l : List UInt8) (k : Nat) (h : k ≤ 7) : lowN (l.take k) ≤ 562949953421311 := by
  have h1 := lowN_lt (l.take k)
  have h2 : (l.take k).length ≤ 7 := by rw [List.length_take]; omega
  have h3 : 128 ^ (l.take k).length ≤ 128 ^ 7 := Nat.pow_le_pow_right (by decide) h2
  omega

/-- The first `k` bytes are the varint of what they say. -/
def hit (l : List UInt8) (k : Nat) : Bool := decide (k ≤ l.length) && (varL (lowN (l.take k)) == l.take k)
def rvGo (l : List UInt8) : Nat → Nat → Nat
  | 0, _ => 0
  | f + 1, k => if hit l k then k else rvGo l f (k + 1)
/-- What ReadVar gives: how many bytes, and which number. -/
def rvK (l : List UInt8) : Nat := rvGo l 7 1
def rvN (l : List UInt8) : Nat := lowN (l.take (rvK l))

theorem rvGo_hit (l : List UInt8) (f k : Nat) (h : hit l k = true) : rvGo l (f + 1) k = k := by rw [rvGo, if_pos h]
theorem rvGo_miss (l : List UInt8) (f k : Nat) (h : hit l k = false) : rvGo l (f + 1) k = rvGo l f (k + 1) := by rw [rvGo, if_neg (by simp [h])]
theorem rvGo_zero (l : List UInt8) : ∀ (f k : Nat), (∀ k', k ≤ k' → hit l k' = false) → rvGo l f k = 0
  | 0, _, _ => rfl
  | f + 1, k, h => by rw [rvGo_miss l f k (h k (Nat.le_refl _))]; exact rvGo_zero l f (k + 1) fun k' hk => h k' (by omega)
theorem hit_short (l : List UInt8) (k : Nat) (h : l.length < k) : hit l k = false := by
  unfold hit
  rw [decide_eq_false (by omega)]
  rfl

/-- Where the bytes are a varint, each but the last is at least 128 and the last is below. -/
theorem hit_shape (l : List UInt8) (k : Nat) (h : hit l k = true) (h7 : k ≤ 7) (j : Nat) (hj : j < k) : 128 ≤ (l.getD j 0).toNat ↔ j + 1 < k := by
  unfold hit at h
  rw [Bool.and_eq_true, decide_eq_true_eq, beq_iff_eq] at h
  obtain ⟨hl, he⟩ := h
  obtain ⟨p, b, hp, hb, hx⟩ := lebL_shape 6 (lowN (l.take k)) (by have := lowN_take_lt l k h7; omega)
  have hs : l.take k = p ++ [b] := by rw [← he]; exact hp
  have hlen : p.length + 1 = k := by
    have := congrArg List.length hs
    simp at this
    omega
  have hg : l.getD j 0 = (p ++ [b]).getD j 0 := by
    rw [← hs, List.getD_eq_getElem?_getD, List.getD_eq_getElem?_getD, List.getElem?_take, if_pos hj]
  rw [hg, List.getD_eq_getElem?_getD]
  by_cases hjp : j < p.length
  · rw [List.getElem?_append_left hjp, List.getElem?_eq_getElem hjp]
    have := hx p[j] (List.getElem_mem hjp)
    exact ⟨fun _ => by omega, fun _ => this⟩
  · obtain rfl : j = p.length := by omega
    simp
    omega

/-- No longer beginning is a varint when the byte `i` is below 128 and is not its last. -/
theorem hit_after (l : List UInt8) (i k : Nat) (hb : (l.getD i 0).toNat < 128) (hk : i + 1 < k) (h7 : k ≤ 7) : hit l k = false := by
  cases h : hit l k with
  | false => rfl
  | true =>
    have := (hit_shape l k h h7 i (by omega)).2 hk
    omega
theorem hit_cont (l : List UInt8) (i : Nat) (hb : 128 ≤ (l.getD i 0).toNat) (h7 : i + 1 ≤ 7) : hit l (i + 1) = false := by
  cases h : hit l (i + 1) with
  | false => rfl
  | true =>
    have := (hit_shape l (i + 1) h h7 i (by omega)).1 hb
    omega
theorem rvGo_after (l : List UInt8) (i : Nat) (hb : (l.getD i 0).toNat < 128) : ∀ (f k : Nat), i + 1 < k → k + f ≤ 8 → rvGo l f k = 0
  | 0, _, _, _ => rfl
  | f + 1, k, h, hf => by rw [rvGo_miss l f k (hit_after l i k hb h (by omega))]; exact rvGo_after l i hb f (k + 1) (by omega) (by omega)
theorem rvGo_short (l : List UInt8) (f k : Nat) (h : l.length < k) : rvGo l f k = 0 := rvGo_zero l f k fun k' hk => hit_short l k' (by omega)
theorem take_lowN_step (l : List UInt8) (j : Nat) (hj : j < l.length) : lowN (l.drop j) = lowN (l.drop (j + 1)) * 128 + (l.getD j 0).toNat % 128 := by
  rw [List.drop_eq_getElem_cons hj, lowN, List.getD_eq_getElem?_getD, List.getElem?_eq_getElem hj]
  rfl
end Go.Proofs.YtbpghjnkjakhnaaDoor
