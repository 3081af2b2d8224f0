/-
  Chapter 16, plain: what Pack4, Unpack4, AddLanes and ClipLanes answer, and the facts on bits that the program's way wants: and, or, sum and difference lane by lane. No condition but those that each lemma states.
-/
import Derived.Laws.BitsAllLaws
import Derived.Test.YtbiffijjmhpkpaaQuantA
import Derived.Test.YtbiffijjmhpkpaaPrA
namespace Go.Proofs.Ytbiffijjmhpkpaa
open Go.RowKit
set_option linter.unusedVariables false

/-- Four lanes of 16 bits in one number. -/
def ln (a b c d : Nat) : Nat := a + 65536 * (b + 65536 * (c + 65536 * d))
theorem ln_lo {a b c d : Nat} (h : a < 65536) : ln a b c d % 65536 = a := by unfold ln; omega
theorem ln_hi {a b c d : Nat} (h : a < 65536) : ln a b c d / 65536 = b + 65536 * (c + 65536 * d) := by unfold ln; omega
theorem split16 (n : Nat) : n = n % 65536 + 65536 * (n / 65536) := by omega
theorem and16 (x y p q : Nat) (hx : x < 65536) (hp : p < 65536) : (x + 65536 * y) &&& (p + 65536 * q) = (x &&& p) + 65536 * (y &&& q) := by
  have h1 : ((x + 65536 * y) &&& (p + 65536 * q)) % 2 ^ 16 = x &&& p := by
    rw [Nat.and_mod_two_pow, show (x + 65536 * y) % 2 ^ 16 = x by omega, show (p + 65536 * q) % 2 ^ 16 = p by omega]
  have h2 : ((x + 65536 * y) &&& (p + 65536 * q)) / 2 ^ 16 = y &&& q := by
    rw [Nat.and_div_two_pow, show (x + 65536 * y) / 2 ^ 16 = y by omega, show (p + 65536 * q) / 2 ^ 16 = q by omega]
  have := split16 ((x + 65536 * y) &&& (p + 65536 * q))
  rw [show (65536 : Nat) = 2 ^ 16 from rfl] at this ⊢
  rw [h1, h2] at this
  exact this
theorem or16 (x y p q : Nat) (hx : x < 65536) (hp : p < 65536) : (x + 65536 * y) ||| (p + 65536 * q) = (x ||| p) + 65536 * (y ||| q) := by
  have h1 : ((x + 65536 * y) ||| (p + 65536 * q)) % 2 ^ 16 = x ||| p := by
    rw [Nat.or_mod_two_pow, show (x + 65536 * y) % 2 ^ 16 = x by omega, show (p + 65536 * q) % 2 ^ 16 = p by omega]
  have h2 : ((x + 65536 * y) ||| (p + 65536 * q)) / 2 ^ 16 = y ||| q := by
    rw [Nat.or_div_two_pow, show (x + 65536 * y) / 2 ^ 16 = y by omega, show (p + 65536 * q) / 2 ^ 16 = q by omega]
  have := split16 ((x + 65536 * y) ||| (p + 65536 * q))
  rw [show (65536 : Nat) = 2 ^ 16 from rfl] at this ⊢
  rw [h1, h2] at this
  exact this
theorem ln_and {a b c d p q r s : Nat} (ha : a < 65536) (hb : b < 65536) (hc : c < 65536) (hp : p < 65536) (hq : q < 65536) (hr : r < 65536) : ln a b c d &&& ln p q r s = ln (a &&& p) (b &&& q) (c &&& r) (d &&& s) := by
  unfold ln
  rw [and16 _ _ _ _ ha hp, and16 _ _ _ _ hb hq, and16 _ _ _ _ hc hr]
theorem ln_or {a b c d p q r s : Nat} (ha : a < 65536) (hb : b < 65536) (hc : c < 65536) (hp : p < 65536) (hq : q < 65536) (hr : r < 65536) : ln a b c d ||| ln p q r s = ln (a ||| p) (b ||| q) (c ||| r) (d ||| s) := by
  unfold ln
  rw [or16 _ _ _ _ ha hp, or16 _ _ _ _ hb hq, or16 _ _ _ _ hc hr]
theorem ln_split {n : Nat} (h : n < 18446744073709551616) : ∃ a b c d, a < 65536 ∧ b < 65536 ∧ c < 65536 ∧ d < 65536 ∧ n = ln a b c d :=
  ⟨n % 65536, n / 65536 % 65536, n / 65536 / 65536 % 65536, n / 65536 / 65536 / 65536, by omega, by omega, by omega, by omega, by unfold ln; omega⟩

/-- The top bit of a lane. -/
def tb (x : Nat) : Nat := if x < 32768 then 0 else 32768
theorem and_top {x : Nat} (h : x < 65536) : x &&& 32768 = tb x := by
  have := nat_bit 15 x
  rw [show (2 : Nat) ^ 15 = 32768 from rfl] at this
  rw [this]
  unfold tb
  split <;> omega
theorem or_top {x : Nat} (h : x < 32768) : x ||| 32768 = x + 32768 := by
  rw [Nat.or_comm, nat_join 15 32768 x (by decide) h, Nat.add_comm]
theorem and_low (x : Nat) : x &&& 32767 = x % 32768 := Nat.and_two_pow_sub_one_eq_mod x 15
theorem and_byte (x : Nat) : x &&& 255 = x % 256 := Nat.and_two_pow_sub_one_eq_mod x 8
theorem or_low_byte (x : Nat) : (x ||| 32767) % 256 = 255 := by
  have h := @Nat.or_mod_two_pow x 32767 8
  rw [show (2 : Nat) ^ 8 = 256 from rfl] at h
  rw [h, show 32767 % 256 = 255 from rfl]
  have h2 : x % 256 < 256 := Nat.mod_lt _ (by decide)
  have all : ∀ y, y < 256 → y ||| 255 = 255 := by decide +kernel
  exact all _ h2
/-- All bits below the top one, where the top one is set. -/
def fl (x : Nat) : Nat := if x < 32768 then 0 else 32767
theorem fl_of (x : Nat) : tb x / 32768 * 32767 = fl x := by unfold tb fl; split <;> rfl
theorem fl_le (x : Nat) : fl x ≤ 32767 := by unfold fl; split <;> omega
theorem tb_le (x : Nat) : tb x ≤ 32768 := by unfold tb; split <;> omega
/-- What a lane keeps: less the bias, from 0 on. -/
def lo1 (a : Nat) : Nat := a - 1024
theorem lane_lowered {a : Nat} (h : a < 32768) : (a + 31744) &&& fl (a + 31744) = lo1 a := by
  unfold fl lo1
  split
  · rw [Nat.and_zero]; omega
  · rw [and_low]; omega
/-- What a lane keeps in the end: from 0 to 255. -/
def hi1 (m : Nat) : Nat := min m 255
theorem lane_raised {m : Nat} (h : m < 32768) : (m ||| fl (m + 32512)) &&& 255 = hi1 m := by
  rw [and_byte]
  unfold fl hi1
  split
  · rw [Nat.or_zero]; omega
  · rw [or_low_byte]; omega
theorem or_zero_lt {m : Nat} (h : m < 32768) : m ||| fl (m + 32512) < 65536 := Nat.or_lt_two_pow (n := 16) (by omega) (by have := fl_le (m + 32512); omega)

/-! ### The steps of the program's way, on whole numbers -/
theorem tops_eq : (9223512776490647552 : Nat) = ln 32768 32768 32768 32768 := rfl
theorem ln_tops {a b c d : Nat} (ha : a < 65536) (hb : b < 65536) (hc : c < 65536) (hd : d < 65536) : ln a b c d &&& 9223512776490647552 = ln (tb a) (tb b) (tb c) (tb d) := by
  rw [tops_eq, ln_and ha hb hc (by decide) (by decide) (by decide), and_top ha, and_top hb, and_top hc, and_top hd]
/-- Are the four numbers small enough? -/
def smE (a b c d : Nat) : Bool := decide (a < 32768) && decide (b < 32768) && decide (c < 32768) && decide (d < 32768)
theorem tops_zero {a b c d : Nat} (ha : a < 65536) (hb : b < 65536) (hc : c < 65536) (hd : d < 65536) : (ln a b c d &&& 9223512776490647552 == 0) = smE a b c d := by
  rw [ln_tops ha hb hc hd, Bool.eq_iff_iff]
  unfold ln tb smE
  simp only [beq_iff_eq, Bool.and_eq_true, decide_eq_true_eq]
  constructor
  · intro h
    split at h <;> split at h <;> split at h <;> split at h <;> omega
  · rintro ⟨⟨⟨h1, h2⟩, h3⟩, h4⟩
    rw [if_pos h1, if_pos h2, if_pos h3, if_pos h4]
theorem filled_ln {a b c d : Nat} (ha : a < 65536) (hb : b < 65536) (hc : c < 65536) (hd : d < 65536) : (ln a b c d &&& 9223512776490647552) / 32768 * 32767 = ln (fl a) (fl b) (fl c) (fl d) := by
  rw [ln_tops ha hb hc hd]
  unfold ln tb fl
  split <;> split <;> split <;> split <;> rfl
theorem ln_lt {a b c d : Nat} (ha : a < 65536) (hb : b < 65536) (hc : c < 65536) (hd : d < 65536) : ln a b c d < 18446744073709551616 := by unfold ln; omega
theorem ln_small {a b c d : Nat} (ha : a < 65536) (hb : b < 65536) (hc : c < 65536) (hd : d < 32768) : ln a b c d < 9223372036854775808 := by unfold ln; omega

/-! ### What the functions answer -/
/-- The lanes of a number from 0 on. -/
def lnA (n : Int) : Nat := n.toNat % 65536
def lnB (n : Int) : Nat := n.toNat / 65536 % 65536
def lnC (n : Int) : Nat := n.toNat / 65536 / 65536 % 65536
def lnD (n : Int) : Nat := n.toNat / 65536 / 65536 / 65536 % 65536
theorem lnA_lt (n : Int) : lnA n < 65536 := Nat.mod_lt _ (by decide)
theorem lnB_lt (n : Int) : lnB n < 65536 := Nat.mod_lt _ (by decide)
theorem lnC_lt (n : Int) : lnC n < 65536 := Nat.mod_lt _ (by decide)
theorem lnD_lt (n : Int) : lnD n < 65536 := Nat.mod_lt _ (by decide)
theorem ln_of {n : Int} (h0 : 0 ≤ n) (h1 : n < 18446744073709551616) : n = (ln (lnA n) (lnB n) (lnC n) (lnD n) : Nat) := by
  unfold ln lnA lnB lnC lnD; omega
theorem ln_parts {a b c d : Nat} (ha : a < 65536) (hb : b < 65536) (hc : c < 65536) (hd : d < 65536) : lnA (ln a b c d : Nat) = a ∧ lnB (ln a b c d : Nat) = b ∧ lnC (ln a b c d : Nat) = c ∧ lnD (ln a b c d : Nat) = d := by
  unfold lnA lnB lnC lnD ln; omega
/-- Does a number hold four small ones? -/
def upE (n : Int) : Bool := decide (0 ≤ n) && smE (lnA n) (lnB n) (lnC n) (lnD n)
def upF (n : Int) : List Int := [(lnA n : Int), (lnB n : Int), (lnC n : Int), (lnD n : Int)]
def upL (n : Int) : List Int := if upE n = true then upF n else []
theorem upL_len (n : Int) : (upL n).length ≤ 64 := by unfold upL; split <;> simp [upF]
/-- A number that Pack4 takes. -/
def laE (x : Int) : Bool := decide (0 ≤ x) && decide (x ≤ 32767)
theorem laE_true {x : Int} : laE x = true ↔ 0 ≤ x ∧ x ≤ 32767 := by unfold laE; simp
theorem laE_false {x : Int} : laE x = false ↔ x < 0 ∨ 32767 < x := by
  unfold laE
  simp only [Bool.and_eq_false_iff, decide_eq_false_iff_not]
  omega
def paqE (l : List Int) : Bool := decide (l.length = 4) && l.all laE
def paqN (a b c d : Int) : Int := a + 65536 * (b + 65536 * (c + 65536 * d))
def paqV (l : List Int) : Int := if paqE l = true then paqN (l.getD 0 0) (l.getD 1 0) (l.getD 2 0) (l.getD 3 0) else 0
theorem paqE_four {a b c d : Int} : paqE [a, b, c, d] = (laE a && laE b && laE c && laE d) := by simp [paqE, Bool.and_assoc]
theorem paqV_four {a b c d : Int} (h : paqE [a, b, c, d] = true) : paqV [a, b, c, d] = paqN a b c d := by unfold paqV; rw [if_pos h]; rfl
theorem paqN_nat (a b c d : Nat) : paqN a b c d = (ln a b c d : Nat) := by unfold paqN ln; omega
theorem paqE_upF (n : Int) : paqE (upF n) = smE (lnA n) (lnB n) (lnC n) (lnD n) := by
  unfold upF smE
  rw [paqE_four]
  have e : ∀ x : Nat, laE (x : Int) = decide (x < 32768) := fun x => by
    rw [Bool.eq_iff_iff, laE_true, decide_eq_true_eq]; omega
  rw [e, e, e, e]
theorem upE_len {n : Int} (h : upE n = true) : (upL n).length = 4 := by unfold upL; rw [if_pos h]; rfl
theorem upE_off {n : Int} (h : upE n = false) : upL n = [] := by unfold upL; rw [h]; rfl
theorem upE_on {n : Int} (h : upE n = true) : upL n = upF n := by unfold upL; rw [if_pos h]
theorem list_four {l : List Int} (h : l.length = 4) : l = [l.getD 0 0, l.getD 1 0, l.getD 2 0, l.getD 3 0] := by
  match l, h with
  | [a, b, c, d], _ => rfl
/-- Unpack4 answers what was packed. -/
theorem up_pack {l : List Int} (h : paqE l = true) : upE (paqV l) = true ∧ upL (paqV l) = l := by
  have hl : l.length = 4 := by unfold paqE at h; simp at h; exact h.1
  rw [list_four hl] at h ⊢
  generalize l.getD 0 0 = a at *
  generalize l.getD 1 0 = b at *
  generalize l.getD 2 0 = c at *
  generalize l.getD 3 0 = d at *
  rw [paqV_four h]
  rw [paqE_four] at h
  simp only [Bool.and_eq_true, laE_true] at h
  obtain ⟨⟨⟨ha, hb⟩, hc⟩, hd⟩ := h
  obtain ⟨a, rfl⟩ := Int.eq_ofNat_of_zero_le ha.1
  obtain ⟨b, rfl⟩ := Int.eq_ofNat_of_zero_le hb.1
  obtain ⟨c, rfl⟩ := Int.eq_ofNat_of_zero_le hc.1
  obtain ⟨d, rfl⟩ := Int.eq_ofNat_of_zero_le hd.1
  obtain ⟨p1, p2, p3, p4⟩ := ln_parts (a := a) (b := b) (c := c) (d := d) (by omega) (by omega) (by omega) (by omega)
  rw [paqN_nat]
  have hE : upE (ln a b c d : Nat) = true := by
    unfold upE smE
    rw [p1, p2, p3, p4]
    simp
    omega
  refine ⟨hE, ?_⟩
  rw [upE_on hE]
  unfold upF
  rw [p1, p2, p3, p4]
theorem pack_range {l : List Int} : 0 ≤ paqV l ∧ paqV l ≤ 9223372036854775807 := by
  by_cases h : paqE l = true
  · have hl : l.length = 4 := by unfold paqE at h; simp at h; exact h.1
    have h' := h
    rw [list_four hl] at h ⊢
    rw [paqV_four h]
    rw [paqE_four] at h
    simp only [Bool.and_eq_true, laE_true] at h
    unfold paqN
    omega
  · unfold paqV
    rw [if_neg h]
    omega
/-- What AddLanes answers. -/
def adE (a b : Int) : Bool := upE a && upE b && smE (lnA a + lnA b) (lnB a + lnB b) (lnC a + lnC b) (lnD a + lnD b)
def adV (a b : Int) : Int := if adE a b = true then a + b else 0
/-- A lane of ClipLanes. -/
def clN (a : Nat) : Nat := hi1 (lo1 a)
theorem clN_le (a : Nat) : clN a ≤ 255 := by unfold clN hi1; omega
theorem clN_clip (a : Nat) : ((clN a : Nat) : Int) = clipV ((a : Int) - 1024) := by unfold clN hi1 lo1 clipV; omega
/-- What ClipLanes answers. -/
def clV (n : Int) : Int := if upE n = true then (ln (clN (lnA n)) (clN (lnB n)) (clN (lnC n)) (clN (lnD n)) : Nat) else 0
theorem clV_pack {n : Int} (h : upE n = true) : clV n = paqV ((upF n).map fun x => clipV (x - 1024)) ∧ paqE ((upF n).map fun x => clipV (x - 1024)) = true := by
  have e : (upF n).map (fun x => clipV (x - 1024)) = [(clN (lnA n) : Int), (clN (lnB n) : Int), (clN (lnC n) : Int), (clN (lnD n) : Int)] := by
    simp only [upF, List.map_cons, List.map_nil, clN_clip]
  rw [e]
  have hE : paqE [(clN (lnA n) : Int), (clN (lnB n) : Int), (clN (lnC n) : Int), (clN (lnD n) : Int)] = true := by
    rw [paqE_four]
    have q : ∀ a, laE (clN a : Int) = true := fun a => by rw [laE_true]; have := clN_le a; omega
    simp [q]
  refine ⟨?_, hE⟩
  rw [paqV_four hE, paqN_nat]
  unfold clV
  rw [if_pos h]
/-- The program's sums and differences, lane by lane. -/
theorem u64_nat {n : Int} (h0 : -9223372036854775808 ≤ n) (h1 : n ≤ 9223372036854775807) : IntKind.u64.wrap n = ((if 0 ≤ n then n.toNat else (n + 18446744073709551616).toNat : Nat) : Int) := by
  rw [IntKind.wrap_u64]
  split <;> omega
/-- Is a number of the kind? The program's test. -/
theorem pk_test {n : Int} (h0 : -9223372036854775808 ≤ n) (h1 : n ≤ 9223372036854775807) : (bits .and .u64 (IntKind.u64.wrap n) 9223512776490647552 == 0) = upE n := by
  rw [u64_nat h0 h1]
  have hs : ∀ m : Nat, m < 18446744073709551616 → (bits .and .u64 (m : Int) 9223512776490647552 == 0) = (m &&& 9223512776490647552 == 0) := fun m hm => by
    rw [show (9223512776490647552 : Int) = ((9223512776490647552 : Nat) : Int) from rfl, u64_and_nat m _ hm (by decide), Bool.eq_iff_iff]
    simp only [beq_iff_eq]
    omega
  by_cases hn : 0 ≤ n
  · rw [if_pos hn, hs _ (by omega)]
    have := ln_of hn (by omega)
    have e : n.toNat = ln (lnA n) (lnB n) (lnC n) (lnD n) := by omega
    rw [e, tops_zero (lnA_lt n) (lnB_lt n) (lnC_lt n) (lnD_lt n)]
    unfold upE
    rw [decide_eq_true hn, Bool.true_and]
  · rw [if_neg hn, hs _ (by omega)]
    obtain ⟨a, b, c, d, ha, hb, hc, hd, e⟩ := ln_split (n := (n + 18446744073709551616).toNat) (by omega)
    rw [e, tops_zero ha hb hc hd]
    have hd2 : ¬ d < 32768 := by
      intro hd2
      have := ln_small ha hb hc hd2
      omega
    unfold upE smE
    rw [decide_eq_false hn, decide_eq_false hd2]
    simp
end Go.Proofs.Ytbiffijjmhpkpaa
