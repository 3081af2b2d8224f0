/-
  Contracts of BitsOf, in both texts, and the law of BitsOf. Condition: the string is no longer than 1048576 bytes (the law asks no more).
  Contracts of NumOf and of the test of bits, in both texts, and the law of NumOf. Condition: no more than 1048576 elements (the law asks no more).
  Contracts of BitsIn, in both texts, and the law of BitsIn. Condition: the numbers are ints.
  Contracts of BytesOf, in both texts, and the law of BytesOf. Condition: no more than 1048576 elements (the law asks no more).
  Contracts of slices.Grow on nil and of slices.Concat over rows of integers; appending a whole row. Condition: the rows have no more than 4000000 elements together.
-/
import Derived.Test.YtemfiglflbfocaaBase
import Derived.Lib.AppendZeros
namespace Go.Proofs.Ytemfiglflbfocaa
open Go.RowKit
set_option linter.unusedVariables false

/-- The first `k` bits. -/
def bitsL (s : ByteArray) (k : Nat) : List Int := (List.range k).map fun (i : Nat) => (bitN s i : Int)
theorem bitsL_len (s : ByteArray) (k : Nat) : (bitsL s k).length = k := by simp [bitsL]
theorem bitsL_at (s : ByteArray) (k j : Nat) (h : j < k) : (bitsL s k).getD j 0 = (bitN s j : Int) := by
  rw [List.getD_eq_getElem?_getD]
  simp [bitsL, h]
theorem bitsL_snoc (s : ByteArray) (k : Nat) : bitsL s (k + 1) = bitsL s k ++ [(bitN s k : Int)] := by
  unfold bitsL
  rw [List.range_succ, List.map_append]
  rfl

end Go.Proofs.Ytemfiglflbfocaa

namespace Go.Proofs.Ytemfiglflbfocaa
open Go.RowKit
set_option linter.unusedVariables false

def isBit (x : Int) : Bool := decide (x = 0) || decide (x = 1)
def isBits (l : List Int) : Bool := l.all isBit
/-- Bits as a number. -/
def binV (l : List Int) : Int := l.foldl (fun n b => 2 * n + b) 0
def binOk (l : List Int) : Bool := decide (l.length ≤ 48) && isBits l
/-- What NumOf gives. -/
def binR (l : List Int) : Int := if binOk l then binV l else 0
theorem isBit_cases {x : Int} (h : isBit x = true) : x = 0 ∨ x = 1 := by simpa [isBit] using h
theorem isBit_no {x : Int} (h : isBit x = false) : x ≠ 0 ∧ x ≠ 1 := by simpa [isBit] using h
theorem isBits_all (l : List Int) (h : ∀ t, t < l.length → isBit (l.getD t 0) = true) : isBits l = true := by
  unfold isBits
  rw [List.all_eq_true]
  intro x hx
  obtain ⟨t, ht, rfl⟩ := List.getElem_of_mem hx
  have := h t ht
  rw [List.getD_eq_getElem?_getD, List.getElem?_eq_getElem ht] at this
  exact this
theorem isBits_bad (l : List Int) (t : Nat) (ht : t < l.length) (h : isBit (l.getD t 0) = false) : isBits l = false := by
  unfold isBits
  rw [List.all_eq_false]
  refine ⟨l[t], List.getElem_mem ht, ?_⟩
  rw [List.getD_eq_getElem?_getD, List.getElem?_eq_getElem ht] at h
  simpa using h
theorem isBits_at (l : List Int) (h : isBits l = true) (t : Nat) (ht : t < l.length) : isBit (l.getD t 0) = true := by
  unfold isBits at h
  rw [List.all_eq_true] at h
  rw [List.getD_eq_getElem?_getD, List.getElem?_eq_getElem ht]
  exact h _ (List.getElem_mem ht)
theorem binV_snoc (l : List Int) (x : Int) : binV (l ++ [x]) = 2 * binV l + x := by simp [binV]
theorem take_snoc_i (l : List Int) (j : Nat) (h : j < l.length) : l.take (j + 1) = l.take j ++ [l.getD j 0] := by
  rw [List.take_succ_eq_append_getElem h, List.getD_eq_getElem?_getD, List.getElem?_eq_getElem h]
  rfl
theorem binV_range (l : List Int) : ∀ (j : Nat), j ≤ l.length → (∀ t, t < j → isBit (l.getD t 0) = true) → 0 ≤ binV (l.take j) ∧ binV (l.take j) < 2 ^ j
  | 0, _, _ => by simp [binV]
  | j + 1, hj, h => by
    obtain ⟨h0, h1⟩ := binV_range l j (by omega) fun t ht => h t (by omega)
    rw [take_snoc_i l j (by omega), binV_snoc, Int.pow_succ]
    rcases isBit_cases (h j (by omega)) with e | e <;> rw [e] <;> omega

theorem toints_big {len : Int} (h : ¬ 1048576 < len) : decide (1048576 < len) = false := by simpa using h

end Go.Proofs.Ytemfiglflbfocaa

namespace Go.Proofs.Ytemfiglflbfocaa
open Go.RowKit
set_option linter.unusedVariables false

/-- The first `k` of the `w` bits of `n`. -/
def inL (n w k : Nat) : List Int := (List.range k).map fun (i : Nat) => ((n / 2 ^ (w - 1 - i) % 2 : Nat) : Int)
theorem inL_len (n w k : Nat) : (inL n w k).length = k := by simp [inL]
theorem inL_at (n w k j : Nat) (h : j < k) : (inL n w k).getD j 0 = ((n / 2 ^ (w - 1 - j) % 2 : Nat) : Int) := by
  rw [List.getD_eq_getElem?_getD]
  simp [inL, h]
theorem inL_snoc (n w k : Nat) : inL n w (k + 1) = inL n w k ++ [((n / 2 ^ (w - 1 - k) % 2 : Nat) : Int)] := by
  unfold inL
  rw [List.range_succ, List.map_append]
  rfl
/-- The number and the width are such that there are bits. -/
def inOk (n w : Int) : Bool := decide (0 ≤ w) && decide (w ≤ 48) && decide (0 ≤ n) && decide (n < 2 ^ w.toNat)
/-- What BitsIn gives. -/
def inR (n w : Int) : List Int := if inOk n w then inL n.toNat w.toNat w.toNat else []

theorem in_div (n k : Nat) (hn : n ≤ 9223372036854775807) : ∃ d : Nat, (n : Int) / 2 ^ k = (d : Int) ∧ d = n / 2 ^ k ∧ d ≤ 9223372036854775807 :=
  ⟨n / 2 ^ k, by norm_cast, rfl, Nat.le_trans (Nat.div_le_self _ _) hn⟩
theorem in_and (n k : Nat) (hn : n ≤ 9223372036854775807) : bits .and .i64 ((n : Int) / 2 ^ k) 1 = ((n / 2 ^ k % 2 : Nat) : Int) := by
  obtain ⟨d, h1, h2, h3⟩ := in_div n k hn
  rw [h1, ← h2, and_i64 1 _ 1 (by decide) (by decide) (by omega) (by omega)]
  omega
theorem in_zero (n k : Nat) : (((n : Int) / 2 ^ k) != 0) = decide (2 ^ k ≤ n) := by
  have h : (n : Int) / 2 ^ k = ((n / 2 ^ k : Nat) : Int) := by norm_cast
  rw [h]
  by_cases hle : 2 ^ k ≤ n
  · rw [decide_eq_true hle, bne_iff_ne]
    have := Nat.div_pos hle (Nat.pow_pos (by decide))
    omega
  · rw [decide_eq_false hle, bne_eq_false_iff_eq, Nat.div_eq_of_lt (by omega)]
    rfl

/-- No bits: nil, or an empty row. -/
theorem own_none (w : World) (base : Nat) : OwnI w base none 0 [] := World.ownsRow_nil w base 3 1

theorem inOk_nat (n k : Int) (h : inOk n k = true) : ∃ a b : Nat, n = (a : Int) ∧ k = (b : Int) ∧ b ≤ 48 ∧ a < 2 ^ b := by
  simp only [inOk, Bool.and_eq_true, decide_eq_true_eq] at h
  obtain ⟨⟨⟨h1, h2⟩, h3⟩, h4⟩ := h
  obtain ⟨a, rfl⟩ := Int.eq_ofNat_of_zero_le h3
  obtain ⟨b, rfl⟩ := Int.eq_ofNat_of_zero_le h1
  rw [Int.toNat_natCast] at h4
  exact ⟨a, b, rfl, rfl, by omega, by exact_mod_cast h4⟩
theorem inR_len (n k : Int) : (inR n k).length ≤ 48 := by
  cases h : inOk n k with
  | true =>
    obtain ⟨a, b, rfl, rfl, hb, ha⟩ := inOk_nat n k h
    have e : inR a b = inL a b b := by rw [inR, h]; rfl
    rw [e, inL_len]
    exact hb
  | false =>
    have e : inR n k = [] := by rw [inR, h]; rfl
    rw [e]
    simp

end Go.Proofs.Ytemfiglflbfocaa

namespace Go.Proofs.Ytemfiglflbfocaa
open Go.RowKit
set_option linter.unusedVariables false

/-- The eight bits of byte `t`, as far as the first `j` bits have them. -/
def part (l : List Int) (j t : Nat) : List Int := ((l.take j).drop (8 * t)).take 8
def seg (l : List Int) (t : Nat) : List Int := (l.drop (8 * t)).take 8
def byteOf (l : List Int) (t : Nat) : UInt8 := UInt8.ofNat (binV (seg l t)).toNat
def bytesL (l : List Int) (k : Nat) : List UInt8 := (List.range k).map (byteOf l)
def bytesOk (l : List Int) : Bool := decide (l.length % 8 = 0) && isBits l
/-- What BytesOf gives. -/
def bytesR (l : List Int) : ByteArray := if bytesOk l then bs (bytesL l (l.length / 8)) else bs []
theorem bytesL_len (l : List Int) (k : Nat) : (bytesL l k).length = k := by simp [bytesL]
theorem bytesL_snoc (l : List Int) (k : Nat) : bytesL l (k + 1) = bytesL l k ++ [byteOf l k] := by
  unfold bytesL
  rw [List.range_succ, List.map_append]
  rfl
theorem part_all (l : List Int) (t : Nat) : part l l.length t = seg l t := by unfold part seg; rw [List.take_length]
theorem part_next (l : List Int) (j : Nat) (h : j < l.length) : part l (j + 1) (j / 8) = part l j (j / 8) ++ [l.getD j 0] := by
  unfold part
  rw [take_snoc_i l j h, List.drop_append_of_le_length (by rw [List.length_take]; omega), List.take_of_length_le (l := List.drop (8 * (j / 8)) (List.take j l) ++ [l.getD j 0]) (by simp; omega), List.take_of_length_le (l := List.drop (8 * (j / 8)) (List.take j l)) (by simp; omega)]
theorem part_at (l : List Int) (j t i : Nat) : (part l j t)[i]? = if i < 8 ∧ 8 * t + i < j then l[8 * t + i]? else none := by
  unfold part
  simp only [List.getElem?_take, List.getElem?_drop]
  by_cases h1 : i < 8
  · by_cases h2 : 8 * t + i < j
    · simp [h1, h2]
    · simp [h1, h2]
  · simp [h1]
theorem part_other (l : List Int) (j t : Nat) (h : t ≠ j / 8) : part l (j + 1) t = part l j t := by
  apply List.ext_getElem?
  intro i
  rw [part_at, part_at]
  by_cases h1 : i < 8 ∧ 8 * t + i < j
  · rw [if_pos h1, if_pos ⟨h1.1, by omega⟩]
  · rw [if_neg h1, if_neg (by omega)]
theorem part_len (l : List Int) (j t : Nat) : (part l j t).length ≤ 8 ∧ (part l j t).length ≤ j - 8 * t := by
  unfold part
  simp only [List.length_take, List.length_drop]
  omega
theorem isBits_part (l : List Int) (h : isBits l = true) (j t : Nat) : isBits (part l j t) = true := by
  unfold isBits at h ⊢
  rw [List.all_eq_true] at h ⊢
  intro x hx
  exact h x (List.mem_of_mem_take (List.mem_of_mem_drop (List.mem_of_mem_take hx)))
theorem binV_bits (l : List Int) (h : isBits l = true) : 0 ≤ binV l ∧ binV l < 2 ^ l.length := by
  have := binV_range l l.length (Nat.le_refl _) fun t ht => isBits_at l h t ht
  rwa [List.take_length] at this
theorem binV_part (l : List Int) (h : isBits l = true) (j t k : Nat) (hk : (part l j t).length ≤ k) : 0 ≤ binV (part l j t) ∧ binV (part l j t) < 2 ^ k := by
  have h1 := binV_bits _ (isBits_part l h j t)
  have h2 : (2 : Int) ^ (part l j t).length ≤ 2 ^ k := by have := Nat.pow_le_pow_right (n := 2) (by decide) hk; exact_mod_cast this
  omega
def partB (l : List Int) (j t : Nat) : UInt8 := UInt8.ofNat (binV (part l j t)).toNat
def partL (l : List Int) (j k : Nat) : List UInt8 := (List.range k).map (partB l j)
theorem partL_len (l : List Int) (j k : Nat) : (partL l j k).length = k := by simp [partL]
theorem partL_all (l : List Int) (k : Nat) : partL l l.length k = bytesL l k := by
  unfold partL bytesL partB byteOf
  simp only [part_all]
theorem partL_none (l : List Int) (k : Nat) : partL l 0 k = List.replicate k 0 := by
  apply List.ext_getElem?
  intro i
  by_cases h : i < k
  · have e : part l 0 i = [] := by unfold part; simp
    simp [partL, h, partB, e, binV]
  · simp [partL, h]
theorem partL_next (l : List Int) (j k : Nat) : (partL l j k).set (j / 8) (partB l (j + 1) (j / 8)) = partL l (j + 1) k := by
  apply List.ext_getElem?
  intro i
  by_cases h : i < k
  · by_cases e : j / 8 = i
    · subst e
      rw [List.getElem?_set_self (by rw [partL_len]; exact h)]
      simp [partL, h]
    · rw [List.getElem?_set_ne e]
      simp [partL, h, partB, part_other l j i (fun e' => e e'.symm)]
  · rw [List.getElem?_eq_none (by rw [List.length_set, partL_len]; omega), List.getElem?_eq_none (by rw [partL_len]; omega)]
theorem or_u8 (i : Nat) (x y : Int) (hx0 : 0 ≤ x) (hx : x % 2 ^ i = 0) (hx1 : x < 2 ^ 8) (hy0 : 0 ≤ y) (hy : y < 2 ^ i) (hi : i ≤ 8) : bits .or .u8 x y = x + y :=
  bits_join .u8 8 (by decide) wraps_u8 i x y hx0 hx hx1 hy0 hy (Int.lt_of_lt_of_le hy (by have := Nat.pow_le_pow_right (n := 2) (by decide) hi; exact_mod_cast this))
theorem seg_at (l : List Int) (t : Nat) (i : Nat) (h : 8 * t + 8 ≤ l.length) (hi : i < 8) : (seg l t).getD i 0 = l.getD (8 * t + i) 0 := by
  unfold seg
  simp only [List.getD_eq_getElem?_getD, List.getElem?_take, List.getElem?_drop, if_pos hi]
theorem seg_len (l : List Int) (t : Nat) (h : 8 * t + 8 ≤ l.length) : (seg l t).length = 8 := by unfold seg; rw [List.length_take, List.length_drop]; omega

/-- A row of one's own while a call runs that leaves what was there. -/
theorem own_keep {w w' : World} {base : Nat} {e : TypeId} {size : Nat} {v : Value} {n : Nat} {xs : List Value} (h : w.ownsRow base e size v n xs) (hb : Below w.heap.size w w') : w'.ownsRow base e size v n xs := by
  refine World.ownsRow.kept (row := none) h ⟨hb.os, hb.tape, hb.output, hb.size, fun k hk _ => hb.block k hk⟩ ?_
  cases hv : v.ownBlock <;> simp
theorem Try.uinfoU8 : (Try.prog.info? 5).map (fun i => (i.zero, i.size, i.bytes)) = some (some (.int .u8 0), 1, 1) := by kernel_rfl

end Go.Proofs.Ytemfiglflbfocaa

namespace Go.Proofs.Ytemfiglflbfocaa
open Go.RowKit
set_option linter.unusedVariables false

/-- Only a nil row has no place. -/
def Placed (A : Option Addr) (c : Nat) : Prop := A = none → c = 0
theorem OwnI.placed {w : World} {base : Nat} {A : Option Addr} {cap : Nat} {l : List Int} (h : OwnI w base A cap l) : Placed A cap := by
  intro hA
  rcases h.2 with ⟨h1, h2⟩ | ⟨g, cap', cur, h1, _⟩
  · simp only [Value.slice.injEq] at h1
    exact h1.2.2
  · simp only [Value.slice.injEq] at h1
    rw [hA] at h1
    exact absurd h1.1 (by simp)

/-- `append(v, A...)`, the row `v` the call's own, as one operation. -/
theorem wp_append_ints {P : Program} {w : World} {o : Oper} {a : Act} {K : Act → World → Prop} {Q : Exit → Act → World → Prop} (s x : Operand) (t : TypeId)
    (ho : o.op = .call { callee := .builtin .append, args := #[s, x], argTypes := #[t, t] })
    (wS : World) (i : TypeInfo) (ht : P.underlying t = some (.slice 3)) (hi : P.info? 3 = some i) (hz : i.zero = some (.int .i64 0))
    (hsize : i.size = 1) (hby : i.bytes = 8)
    (v : Value) (n : Nat) (l : List Int) (hs : a.eval s = v) (hown : w.ownsRow wS.heap.size 3 1 v n (ivs l))
    (A : Option Addr) (m c : Nat) (la : List Int) (hm : m = la.length) (hx : a.eval x = .slice A m c) (g : Nat) (hA : Ints w g A la) (hP : Placed A c)
    (hlen : n + m ≤ 4000000) (hb : Below wS.heap.size wS w)
    (h : ∀ v' w', w'.ownsRow wS.heap.size 3 1 v' (n + m) (ivs (l ++ la)) → Below wS.heap.size wS w' → K (a.put o.dst v') w') :
    o.wp P a w K Q := by
  subst hm
  cases A with
  | none =>
    obtain rfl : c = 0 := hP rfl
    have hl : la = [] := by
      rcases hA.2 with h | ⟨b, off, h, _⟩
      · exact h
      · exact absurd h (by simp)
    subst hl
    have hrun := run_append_owned_none (P := P) w wS.heap.size t o.type 3 i 1 ht hi v n (ivs l) hown
    unfold Oper.wp
    simp [execOp, ho, resolve, invoke, builtin, hs, hx, hrun, Result.andThen]
    exact h v w (by simpa using hown) hb
  | some ad =>
    have hcells : ∀ j u, (ivs la)[j]? = some u → w.cell? (ad.add j) = some u := by
      intro j u hj
      have hj2 : j < la.length := by
        have := (List.getElem?_eq_some_iff.1 hj).1
        rwa [ivs_len] at this
      obtain ⟨b, off, hb1, hb2, hb3⟩ := hA.at j hj2
      simp only [Option.some.injEq] at hb1
      subst hb1
      rw [Addr.add_lit, hb3 j hj2, ← hj, ivs_at la j hj2]
    refine wp_append_own w s x t ho wS.heap.size 3 i (.int .i64 0) 1 8 ht hi hz hsize hby rfl (by decide) v n (ivs l) hs hown ad la.length c (ivs la) hx (by rw [ivs_len, Nat.mul_one]) hcells ?_ (by unfold maxLen; omega) (by omega) hb.size ?_
    · intro u hu
      simp only [ivs, List.mem_map] at hu
      obtain ⟨y, _, rfl⟩ := hu
      rfl
    · intro v' w' hown' hg _
      refine h v' w' (by rw [ivs_append]; exact hown') (hb.grown hg hb.size fun k hk => ?_)
      exact (hown.lt k hk).1
/-- .. in a plain list of operations. -/
theorem append_ints {P : Program} {w : World} {ops : Array Oper} {rest : List Oper} {o : Oper} {a : Act} {Q : Exit → Act → World → Prop} (hgd : o.guard = none) (s x : Operand) (t : TypeId)
    (ho : o.op = .call { callee := .builtin .append, args := #[s, x], argTypes := #[t, t] })
    (wS : World) (i : TypeInfo) (ht : P.underlying t = some (.slice 3)) (hi : P.info? 3 = some i) (hz : i.zero = some (.int .i64 0))
    (hsize : i.size = 1) (hby : i.bytes = 8)
    (v : Value) (n : Nat) (l : List Int) (hs : a.eval s = v) (hown : w.ownsRow wS.heap.size 3 1 v n (ivs l))
    (A : Option Addr) (m c : Nat) (la : List Int) (hm : m = la.length) (hx : a.eval x = .slice A m c) (g : Nat) (hA : Ints w g A la) (hP : Placed A c)
    (hlen : n + m ≤ 4000000) (hb : Below wS.heap.size wS w)
    (h : ∀ v' w', w'.ownsRow wS.heap.size 3 1 v' (n + m) (ivs (l ++ la)) → Below wS.heap.size wS w' → wpList P ops Q rest (a.put o.dst v') w') :
    wpList P ops Q (o :: rest) a w :=
  wpList_plain hgd fun _ hK => wp_append_ints s x t ho wS i ht hi hz hsize hby v n l hs hown A m c la hm hx g hA hP hlen hb fun v' w' h2 h3 => hK _ _ (h v' w' h2 h3)
/-- .. in a region that draws its order. -/
theorem step_append_ints {P : Program} {w : World} {ops : Array Oper} {o : Oper} {a : Act} {K : Act → World → Prop} {Q : Exit → Act → World → Prop} {E : Prop} (hgd : o.guard = none) (s x : Operand) (t : TypeId)
    (ho : o.op = .call { callee := .builtin .append, args := #[s, x], argTypes := #[t, t] })
    (wS : World) (i : TypeInfo) (ht : P.underlying t = some (.slice 3)) (hi : P.info? 3 = some i) (hz : i.zero = some (.int .i64 0))
    (hsize : i.size = 1) (hby : i.bytes = 8)
    (v : Value) (n : Nat) (l : List Int) (hs : a.eval s = v) (hown : w.ownsRow wS.heap.size 3 1 v n (ivs l))
    (A : Option Addr) (m c : Nat) (la : List Int) (hm : m = la.length) (hx : a.eval x = .slice A m c) (g : Nat) (hA : Ints w g A la) (hP : Placed A c)
    (hlen : n + m ≤ 4000000) (hb : Below wS.heap.size wS w)
    (h : ∀ v' w', w'.ownsRow wS.heap.size 3 1 v' (n + m) (ivs (l ++ la)) → Below wS.heap.size wS w' → K (a.put o.dst v') w') :
    if Region.wanted o (yielded ops a.tmps) = true then Oper.wp P o a w K Q else E := by
  have hw' : Region.wanted o (yielded ops a.tmps) = true := by simp [Region.wanted, hgd]
  rw [if_pos hw']
  exact wp_append_ints s x t ho wS i ht hi hz hsize hby v n l hs hown A m c la hm hx g hA hP hlen hb h

set_option maxRecDepth 100000 in
set_option maxHeartbeats 400000 in
/-- Growing nil: room for n elements. -/
theorem grow_any (n : Nat) (hn : n ≤ 4000000) (w : World) :
    Calls Try.prog 70 #[.slice none 0 0, .int .i64 n] w fun e w' => ∃ A cap, e = .returned (.slice A 0 cap) ∧ w'.ownsRow w.heap.size 3 1 (.slice A 0 cap) 0 (ivs []) ∧ Below w.heap.size w w' := by
  obtain ⟨i0, hi, hz0, hz1, hz2⟩ := info_parts Try.iinfo
  have hneg : decide ((n : Int) < 0) = false := by simp
  by_cases h0 : n = 0
  · subst h0
    go_enter Try.func70, Try.ntmps70
    go_wp2
    go_ret
    exact ⟨_, _, rfl, World.ownsRow_nil w w.heap.size 3 1, Below.refl _ _⟩
  · have hpos : decide ((0 : Int) < (n : Int)) = true := by simp; omega
    have hn1 : 1 ≤ n := by omega
    clear h0
    have hrun := Lib.run_append_nil_zeros (P := Try.prog) w 24 3 24 3 i0 (.int .i64 0) .i64 .i64 Try.underlying24 Try.underlying3 hi hz0 n hn1 (by rw [hz1]; decide) (by omega) (by rw [hz2]; omega)
    obtain ⟨cap, hcap⟩ : ∃ cap, cap = grownCap w n 0 3 := ⟨_, rfl⟩
    have hc1 := grownCap_ge w n 0 3
    have hc2 := grownCap_le_maxLen w n 0 3 (by unfold maxLen; omega)
    rw [← hcap] at hrun hc1 hc2
    have hcs : (Builtin.zeroCells (Value.int .i64 0).cells n ++ Builtin.zeroCells (Value.int .i64 0).cells (cap - n)).size = cap * 1 := by
      rw [Array.size_append, size_zeroCells, size_zeroCells]
      show n * 1 + (cap - n) * 1 = cap * 1
      omega
    obtain ⟨cs, hcc⟩ : ∃ cs, cs = Builtin.zeroCells (Value.int .i64 0).cells n ++ Builtin.zeroCells (Value.int .i64 0).cells (cap - n) := ⟨_, rfl⟩
    rw [← hcc] at hrun hcs
    have hown : (w.drew.alloc (.cells cs 3)).ownsRow w.heap.size 3 1 (.slice (some ⟨w.heap.size, 0, none⟩) 0 cap) 0 (ivs []) :=
      ⟨rfl, .inr ⟨w.heap.size, cap, cs, rfl, Nat.le_refl _, heap_alloc_new w.drew _, Nat.zero_le _, hc2, hcs, rfl⟩⟩
    have hbel : Below w.heap.size w (w.drew.alloc (.cells cs 3)) := (Below.refl _ _).drew.alloc (Nat.le_refl _) _
    have HO := Lib.hid hown
    have HB := Lib.hid hbel
    clear hown hbel hcs hcc hcap
    go_enter Try.func70, Try.ntmps70
    go_wp2_with (at_builtin; refine Lib.wpList_append_run _ rfl (.tmp 20) (.tmp 21) _ _ rfl _ _ rfl rfl _ _ hrun ?_)
    go_wp2
    go_ret
    exact ⟨_, _, rfl, HO.out, HB.out⟩

/-- The rows one behind the other. -/
def catN (F : Nat → List Int) : Nat → List Int
  | 0 => []
  | k + 1 => catN F k ++ F k
theorem catN_len (F : Nat → List Int) (k : Nat) : (catN F (k + 1)).length = (catN F k).length + (F k).length := by rw [catN, List.length_append]
theorem catN_mono (F : Nat → List Int) (j k : Nat) (h : j ≤ k) : (catN F j).length ≤ (catN F k).length := by
  induction k with
  | zero => obtain rfl : j = 0 := by omega
            exact Nat.le_refl _
  | succ k ih =>
    by_cases hj : j = k + 1
    · subst hj; exact Nat.le_refl _
    · rw [catN_len]; have := ih (by omega); omega

set_option maxRecDepth 100000 in
set_option maxHeartbeats 1000000 in
theorem concat_any (k : Nat) (hk : k ≤ 1000) (g : Nat) (FA : Nat → Option Addr) (FL : Nat → List Int) (FC : Nat → Nat) (hlen : (catN FL k).length ≤ 4000000) (cc : Nat) (w : World) (hg : g < w.heap.size)
    (hc : ∀ j, j < k → w.cell? ⟨g, j, none⟩ = some (.slice (FA j) (FL j).length (FC j))) (hI : ∀ j, j < k → Ints w w.heap.size (FA j) (FL j)) (hP : ∀ j, j < k → Placed (FA j) (FC j)) :
    Calls Try.prog 51 #[.slice (some ⟨g, 0, none⟩) k cc] w fun e w' => ∃ A cap, e = .returned (.slice A (catN FL k).length cap) ∧ OwnI w' w.heap.size A cap (catN FL k) ∧ Below w.heap.size w w' := by
  obtain ⟨i0, hi, hz0, hz1, hz2⟩ := info_parts Try.iinfo
  have HC := Lib.hid hc; clear hc
  have HI := Lib.hid hI; clear hI
  have HP := Lib.hid hP; clear hP
  have GA := Lib.hid grow_any
  have HM := Lib.hid (catN_mono FL)
  have HL := Lib.hid (catN_len FL)
  go_enter Try.func51, Try.ntmps51
  go_wp2
  go_loop [3, 5, 11] (fun z x i => ∃ j : Nat, j ≤ k ∧ z = .int .i64 (catN FL j).length ∧ i = .int .i64 j)
    (fun _ _ i => k - (intOf i).toNat)
  case atStart => exact ⟨0, Nat.zero_le _, rfl, rfl⟩
  case round =>
    obtain ⟨j, hj, rfl, rfl⟩ := hrel
    by_cases hlt : j < k
    · have c1 := HC.out j hlt
      have hm1 := HM.out (j + 1) k hlt
      have hm2 := HL.out j
      obtain ⟨m, hm⟩ : ∃ m, m = (FL j).length := ⟨_, rfl⟩
      obtain ⟨t, ht⟩ : ∃ t, t = (catN FL j).length := ⟨_, rfl⟩
      rw [← hm] at hm2 c1
      rw [← ht] at hm2 ⊢
      have HMM := Lib.hid hm2
      have hs : t + m ≤ 4000000 := by omega
      clear hm1 hm2
      have hneg : decide ((t : Int) + (m : Int) < 0) = false := by simp; omega
      go_wp2
      go_round
      case rel => exact ⟨j + 1, by omega, by rw [HMM.out]; go_num, by go_num⟩
      case measure => simp [intOf]; omega
    · obtain rfl : j = k := by omega
      go_wp2_with fail
      refine (GA.out _ (by omega) _).mono ?_
      rintro e w1 ⟨A1, cap1, rfl, ho1, hb1⟩
      have O1 := Lib.hid ho1; clear ho1
      have B1 := Lib.hid hb1; clear hb1
      go_wp2
      go_loopw [6, 8, 27] (fun v x i wr => ∃ t : Nat, t ≤ j ∧ i = .int .i64 t ∧ wr.ownsRow w.heap.size 3 1 v (catN FL t).length (ivs (catN FL t)) ∧ Below w.heap.size w wr)
        (fun _ _ i _ => j - (intOf i).toNat)
      case atStart => exact ⟨0, Nat.zero_le _, rfl, O1.out, B1.out⟩
      case round =>
        obtain ⟨t, ht, rfl, hown, hbel⟩ := hrel
        by_cases hlt2 : t < j
        · have c1 := HC.out t hlt2
          rw [← hbel.cell (p := ⟨g, t, none⟩) hg] at c1
          have hm1 := HM.out (t + 1) j hlt2
          have hm2 := HL.out t
          have IT := Lib.hid ((HI.out t hlt2).below hbel (Nat.le_refl _))
          have PT := Lib.hid (HP.out t hlt2)
          obtain ⟨n, hn⟩ : ∃ n, n = (catN FL t).length := ⟨_, rfl⟩
          have hs : n + (FL t).length ≤ 4000000 := by omega
          have HMM := Lib.hid hm2
          clear hm1 hm2
          rw [← hn] at hown HMM
          have HO := Lib.hid hown; clear hown
          go_wp2_with (at_builtin; refine append_ints rfl (.tmp 31) (.tmp 32) 24 rfl w i0 Try.underlying24 hi hz0 hz1 hz2 _ _ _ rfl HO.out _ _ _ _ rfl rfl _ IT.out PT.out hs hbel ?_; intro v' w' hown' hb')
          go_roundw
          case rel => exact ⟨t + 1, by omega, by go_num, by rw [HMM.out]; exact hown', hb'⟩
          case measure => simp [intOf]; omega
        · obtain rfl : t = j := by omega
          go_wp2
          go_ret
          rcases hown.2 with ⟨rfl, h0⟩ | ⟨g, cap, cur, rfl, _⟩
          · unfold OwnI
            rw [h0] at hown ⊢
            exact ⟨_, _, rfl, hown, hbel⟩
          · exact ⟨_, _, rfl, hown, hbel⟩
end Go.Proofs.Ytemfiglflbfocaa
