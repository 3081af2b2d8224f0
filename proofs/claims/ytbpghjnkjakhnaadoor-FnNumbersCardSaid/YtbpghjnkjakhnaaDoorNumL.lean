/-
  Plain facts for the law on numbers: what is made of a number is read as it. No condition but those that each lemma states.
-/
import Derived.Test.YtbpghjnkjakhnaaDoorRdVarL
import Derived.Test.YtbpghjnkjakhnaaDoorFix
import Derived.Test.YtbpghjnkjakhnaaDoorRdFix
import Derived.Test.YtbpghjnkjakhnaaDoorUnhex
import Derived.Test.YtbpghjnkjakhnaaDoorRdDecL
namespace Go.Proofs.YtbpghjnkjakhnaaDoor
open Go.RowKit
set_option linter.unusedVariables false

/-! ### Varints -/
theorem lebL_ne (f n : Nat) : lebL f n ≠ [] := by
  cases f with
  | zero => simp [lebL]
  | succ f => rw [lebL]; split <;> simp
theorem lebL_len : ∀ (f n : Nat), (lebL f n).length ≤ f + 1
  | 0, n => by simp [lebL]
  | f + 1, n => by
    rw [lebL]
    split
    · simp
    · have := lebL_len f (n / 128)
      simp
      omega
theorem lowN_lebL : ∀ (f n : Nat), n < 128 ^ (f + 1) → lowN (lebL f n) = n
  | 0, n, h => by
    simp at h
    simp [lebL, lowN]
    omega
  | f + 1, n, h => by
    rw [lebL]
    split
    · simp [lowN]
      omega
    · rw [lowN, lowN_lebL f (n / 128) (by rw [Nat.pow_succ] at h; omega)]
      simp
      omega
theorem varL_len (n : Nat) : (varL n).length ≤ 7 := lebL_len 6 n
theorem varL_pos (n : Nat) : 0 < (varL n).length := by
  have := lebL_ne 6 n
  unfold varL
  cases h : lebL 6 n with
  | nil => exact absurd h this
  | cons a b => simp
theorem rvGo_reach (l : List UInt8) (K : Nat) (hK : hit l K = true) : ∀ (f k : Nat), k ≤ K → K < k + f → (∀ k', k ≤ k' → k' < K → hit l k' = false) → rvGo l f k = K
  | 0, k, h1, h2, _ => by omega
  | f + 1, k, h1, h2, h3 => by
    by_cases e : k = K
    · subst e; exact rvGo_hit l f k hK
    · rw [rvGo_miss l f k (h3 k (Nat.le_refl _) (by omega))]
      exact rvGo_reach l K hK f (k + 1) (by omega) (by omega) fun k' a b => h3 k' (by omega) b
theorem rv_tail (n : Nat) (hn : n ≤ 562949953421311) (tl : List UInt8) : rvK (varL n ++ tl) = (varL n).length ∧ rvN (varL n ++ tl) = n := by
  have hlt : n < 128 ^ (6 + 1) := Nat.lt_of_le_of_lt hn (by decide)
  have hlow : lowN (varL n) = n := lowN_lebL 6 n hlt
  have h7 := varL_len n
  have h0 := varL_pos n
  have htake : (varL n ++ tl).take (varL n).length = varL n := by simp
  have hhit : hit (varL n ++ tl) (varL n).length = true := by
    unfold hit
    rw [htake, hlow, decide_eq_true (by simp)]
    simp
  obtain ⟨p, b, hp, hb, hx⟩ := lebL_shape 6 n hlt
  have hv : varL n = p ++ [b] := hp
  have hK : rvK (varL n ++ tl) = (varL n).length := by
    refine rvGo_reach _ _ hhit 7 1 (by omega) (by omega) fun k' h1 h2 => ?_
    obtain ⟨j, rfl⟩ : ∃ j, k' = j + 1 := ⟨k' - 1, by omega⟩
    refine hit_cont _ j ?_ (by omega)
    have hj : j < p.length := by rw [hv, List.length_append] at h2; simp at h2; omega
    rw [hv, List.append_assoc, List.getD_eq_getElem?_getD, List.getElem?_append_left hj, List.getElem?_eq_getElem hj]
    exact hx p[j] (List.getElem_mem hj)
  refine ⟨hK, ?_⟩
  rw [rvN, hK, htake, hlow]
theorem rvGo_pos (l : List UInt8) : ∀ (f k : Nat), 0 < k → rvGo l f k ≠ 0 → hit l (rvGo l f k) = true
  | 0, k, _, h => absurd rfl h
  | f + 1, k, hk, h => by
    cases e : hit l k with
    | true => rw [rvGo_hit l f k e]; exact e
    | false =>
      rw [rvGo_miss l f k e] at h ⊢
      exact rvGo_pos l f (k + 1) (by omega) h
theorem rv_hit (l : List UInt8) (h : rvK l ≠ 0) : rvK l ≤ l.length ∧ varL (rvN l) = l.take (rvK l) := by
  have hh := rvGo_pos l 7 1 (by omega) h
  have e : hit l (rvK l) = true := hh
  unfold hit at e
  rw [Bool.and_eq_true, decide_eq_true_eq, beq_iff_eq] at e
  exact e
theorem rvGo_le (l : List UInt8) : ∀ (f k : Nat), rvGo l f k ≤ k + f
  | 0, k => by simp [rvGo]
  | f + 1, k => by
    rw [rvGo]
    split
    · omega
    · have := rvGo_le l f (k + 1); omega
theorem rvN_le (l : List UInt8) : rvN l ≤ 562949953421311 := by
  by_cases h : rvK l ≤ 7
  · exact lowN_take_lt l _ h
  · have h8 := rvGo_le l 7 1
    have hne : rvK l ≠ 0 := by omega
    obtain ⟨h1, h2⟩ := rv_hit l hne
    have := varL_len (rvN l)
    rw [h2, List.length_take] at this
    omega

/-! ### Fixed widths -/
theorem beN_beL : ∀ (k n : Nat), beN (beL k n) = n % 256 ^ k
  | 0, n => by simp [beL, beN, Nat.mod_one]
  | k + 1, n => by
    have go : ∀ (l : List UInt8) (a : Nat), l.foldl (fun n b => n * 256 + b.toNat) a = a * 256 ^ l.length + beN l := by
      intro l
      induction l with
      | nil => intro a; simp [beN]
      | cons b l ih =>
        intro a
        rw [List.foldl_cons, ih, List.length_cons]
        have e : beN (b :: l) = b.toNat * 256 ^ l.length + beN l := by
          show (b :: l).foldl (fun n b => n * 256 + b.toNat) 0 = _
          rw [List.foldl_cons, ih]
          simp
        rw [e, Nat.pow_succ, Nat.add_mul, Nat.mul_assoc, Nat.mul_comm 256]
        omega
    have e : beN (beL (k + 1) n) = (n / 256 ^ k % 256) * 256 ^ k + beN (beL k n) := by
      show (beL (k + 1) n).foldl (fun n b => n * 256 + b.toNat) 0 = _
      rw [beL, List.foldl_cons, go, beL_len]
      congr 2
      simp
    rw [e, beN_beL k n, Nat.pow_succ]
    have h1 := Nat.div_add_mod n (256 ^ k)
    have h2 := Nat.mod_mul (x := n) (a := 256 ^ k) (b := 256)
    rw [h2, Nat.add_comm, Nat.mul_comm (256 ^ k)]
theorem rdf_tail (n : Nat) (hn : n < 72057594037927936) (tl : List UInt8) : rdfN (bs (beL 7 n) ++ bs tl) 7 = (n : Int) ∧ rdfB (bs (beL 7 n) ++ bs tl) 7 = true := by
  rw [bs_append]
  have hl := beL_len 7 n
  have hs : (bs (beL 7 n ++ tl)).size = 7 + tl.length := by rw [bs_size, List.length_append, hl]
  have hc : (1 : Int) ≤ 7 ∧ (7 : Int) ≤ 7 ∧ (7 : Int) ≤ ((bs (beL 7 n ++ tl)).size : Int) := ⟨by decide, by decide, by rw [hs]; omega⟩
  refine ⟨?_, ?_⟩
  · rw [rdfN, if_pos hc]
    have ht : (bs (beL 7 n ++ tl)).data.toList.take (7 : Int).toNat = beL 7 n := by
      show (beL 7 n ++ tl).take 7 = _
      rw [List.take_append_of_le_length (by rw [hl]; exact Nat.le_refl _), List.take_of_length_le (by rw [hl]; exact Nat.le_refl _)]
    rw [ht, beN_beL, Nat.mod_eq_of_lt (by omega)]
  · rw [rdfB, decide_eq_true hc]
theorem fix7 (n : Int) (h0 : 0 ≤ n) (h1 : n < 72057594037927936) : fixS n 7 = bs (beL 7 n.toNat) := by
  rw [fixS, if_pos ⟨by decide, by decide, h0⟩]
  show bs (fixL n.toNat 7) = _
  rw [fixL, if_pos (Nat.div_eq_of_lt (by omega))]
theorem fix7_no (n : Int) (h : n < 0 ∨ 72057594037927936 ≤ n) : fixS n 7 = bs [] := by
  unfold fixS
  split
  · show bs (fixL n.toNat 7) = _
    rw [fixL, if_neg]
    intro e
    have := (Nat.div_eq_zero_iff).1 e
    omega
  · rfl

/-! ### Decimal numerals -/
theorem nDigits_iff : ∀ (k u : Nat), Lib.nDigits u ≤ k + 1 ↔ u < 10 ^ (k + 1)
  | 0, u => by
    by_cases h : u < 10
    · rw [Lib.nDigits_small h]; simp; exact h
    · rw [Lib.nDigits_big h]
      have := Lib.nDigits_pos (u / 10)
      simp
      omega
  | k + 1, u => by
    by_cases h : u < 10
    · rw [Lib.nDigits_small h]
      constructor
      · intro _
        exact Nat.lt_of_lt_of_le h (Nat.pow_le_pow_right (n := 10) (by decide) (show 1 ≤ k + 1 + 1 by omega))
      · intro _; omega
    · rw [Lib.nDigits_big h, Nat.pow_succ]
      have := nDigits_iff k (u / 10)
      omega
theorem digits9 (u : Nat) : (Lib.decDigits u).length ≤ 9 ↔ u < 1000000000 := by
  rw [Lib.decDigits_length]
  exact nDigits_iff 8 u
theorem rd_small (n : Int) (h0 : -1000000000 < n) (h1 : n < 1000000000) : rdB (Lib.itoa n) = true ∧ rdN (Lib.itoa n) = n :=
  rd_itoa n (by omega) (by omega) ((digits9 _).2 (by omega))
theorem rd_big (n : Int) (h : n ≤ -1000000000 ∨ 1000000000 ≤ n) : rdB (Lib.itoa n) = false := by
  unfold rdB
  rw [bare_itoa, decide_eq_false]
  · rfl
  · rw [digits9]; omega

/-! ### Hexadecimal digits -/
theorem hexV_D : ∀ k : Fin 16, hexV (hexD k.val) = k.val := by decide +kernel
theorem hexD_lt' (k : Nat) : hexD k < 256 := by have := hexD_lt k; omega
theorem ofNat_hexD (k : Nat) : (UInt8.ofNat (hexD k)).toNat = hexD k := by have := hexD_lt' k; simp; omega
theorem un_at (l : List UInt8) (i : Nat) (h : i < l.length) : unV (hexL l) i = true ∧ unB (hexL l) i = l.getD i 0 := by
  obtain ⟨g1, g2⟩ := hexL_at l i h
  have hb := (l.getD i 0).toNat_lt
  have e1 : ((hexL l).getD (2 * i) 0).toNat = hexD ((l.getD i 0).toNat / 16) := by rw [List.getD_eq_getElem?_getD, g1]; exact ofNat_hexD _
  have e2 : ((hexL l).getD (2 * i + 1) 0).toNat = hexD ((l.getD i 0).toNat % 16) := by rw [List.getD_eq_getElem?_getD, g2]; exact ofNat_hexD _
  have v1 := hexV_D ⟨(l.getD i 0).toNat / 16, by omega⟩
  have v2 := hexV_D ⟨(l.getD i 0).toNat % 16, by omega⟩
  simp only at v1 v2
  constructor
  · unfold unV
    rw [e1, e2, v1, v2, decide_eq_true (by omega), decide_eq_true (by omega)]
    rfl
  · unfold unB
    rw [e1, e2, v1, v2, show (16 * (((l.getD i 0).toNat / 16 : Nat) : Int) + (((l.getD i 0).toNat % 16 : Nat) : Int)).toNat = (l.getD i 0).toNat by omega]
    simp
theorem un_hex (l : List UInt8) : unOk (hexL l) = true ∧ unL (hexL l) = l := by
  have hlen := hexL_len l
  have hok : unOk (hexL l) = true := unOk_true _ (by omega) fun t ht => (un_at l t (by omega)).1
  refine ⟨hok, ?_⟩
  rw [unL, hok, if_pos rfl, hlen, Nat.mul_div_cancel_left _ (by decide)]
  apply List.ext_getElem?
  intro t
  by_cases ht : t < l.length
  · rw [List.getElem?_map, List.getElem?_range ht, List.getElem?_eq_getElem ht]
    simp only [Option.map_some]
    rw [(un_at l t ht).2, List.getD_eq_getElem?_getD, List.getElem?_eq_getElem ht]
    rfl
  · rw [List.getElem?_eq_none (by simp; omega), List.getElem?_eq_none (by omega)]
end Go.Proofs.YtbpghjnkjakhnaaDoor
