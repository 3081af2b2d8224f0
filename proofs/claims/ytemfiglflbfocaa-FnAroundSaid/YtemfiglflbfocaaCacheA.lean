/-
  Plain facts on the bits of a string as numbers, and what a cache holds. No condition but those that each lemma states.
  Contracts of the cache's checks, in both texts. Condition: the string is no longer than 1048576 bytes (the laws ask no more).
  Contracts of Refill, in both texts. Condition: the string is no longer than 1048576 bytes (the laws ask no more).
  Contracts of PlaceIn and Settle, in both texts, and of the model's cache at a place. Condition: the string is no longer than 1048576 bytes (the laws ask no more).
-/
import Derived.Test.YtemfiglflbfocaaRead
import Derived.Deep.RegionHeld3
namespace Go.Proofs.Ytemfiglflbfocaa
open Go.RowKit
set_option linter.unusedVariables false

theorem rdN_add (s : ByteArray) (a k : Nat) : ∀ m, rdN s a (k + m) = rdN s a k * 2 ^ m + rdN s (a + k) m
  | 0 => by simp [rdN]
  | m + 1 => by
    rw [show k + (m + 1) = (k + m) + 1 by omega, rdN, rdN_add s a k m, rdN, Nat.pow_succ, show a + k + m = a + (k + m) by omega, Nat.mul_add, ← Nat.mul_assoc, Nat.mul_comm 2 (rdN s a k), Nat.mul_assoc, Nat.mul_comm 2 (2 ^ m)]
    omega
/-- The last bits of a number of bits. -/
theorem rdN_mod (s : ByteArray) (a k m : Nat) : rdN s a (k + m) % 2 ^ m = rdN s (a + k) m := by
  rw [rdN_add, Nat.mul_add_mod_self_right, Nat.mod_eq_of_lt (rdN_lt s _ m)]
/-- The first bits of a number of bits. -/
theorem rdN_div (s : ByteArray) (a k m : Nat) : rdN s a (k + m) / 2 ^ m = rdN s a k := by
  rw [rdN_add, Nat.add_comm, Nat.add_mul_div_right _ _ (Nat.two_pow_pos m), Nat.div_eq_of_lt (rdN_lt s _ m), Nat.zero_add]
theorem bitN_div (s : ByteArray) (j r : Nat) (h : r < 8) : bitN s (8 * j + r) = byteAt s j / 2 ^ (7 - r) % 2 := by
  have e1 : (8 * j + r) / 8 = j := by omega
  have e2 : (8 * j + r) % 8 = r := by omega
  rw [bitN, e1, e2]
/-- The first bits of a byte. -/
theorem rdN_byte_to (s : ByteArray) (j : Nat) : ∀ k, k ≤ 8 → rdN s (8 * j) k = byteAt s j / 2 ^ (8 - k)
  | 0, _ => by
    have h := byteAt_lt s j
    rw [rdN, Nat.div_eq_of_lt (by simp; omega)]
  | k + 1, hk => by
    rw [rdN, rdN_byte_to s j k (by omega), bitN_div s j k (by omega), show 8 - k = (7 - k) + 1 by omega, show 8 - (k + 1) = 7 - k by omega, Nat.pow_succ, ← Nat.div_div_eq_div_mul]
    omega
/-- The bits of a byte are the byte. -/
theorem rdN_byte (s : ByteArray) (j : Nat) : rdN s (8 * j) 8 = byteAt s j := by
  rw [rdN_byte_to s j 8 (by decide)]
  simp
/-- One byte more. -/
theorem rdN_more (s : ByteArray) (a n j : Nat) (h : a + n = 8 * j) : rdN s a (n + 8) = rdN s a n * 256 + byteAt s j := by
  rw [rdN_add, h, rdN_byte]
theorem rdN_cut (s : ByteArray) (a n m : Nat) (h : n ≤ m) : rdN s a m / 2 ^ (m - n) = rdN s a n := by
  have := rdN_div s a n (m - n)
  rwa [show n + (m - n) = m by omega] at this
theorem rdN_low (s : ByteArray) (a n m : Nat) (h : n ≤ m) : rdN s a m % 2 ^ (m - n) = rdN s (a + n) (m - n) := by
  have := rdN_mod s a n (m - n)
  rwa [show n + (m - n) = m by omega] at this
theorem rdN_lt' (s : ByteArray) (a n m : Nat) (h : n ≤ m) : rdN s a n < 2 ^ m := Nat.lt_of_lt_of_le (rdN_lt s a n) (Nat.pow_le_pow_right (by decide) h)

/-- A cache as a value. -/
def cv (s : ByteArray) (p wd h : Int) : Value := .agg #[.string s, .int .i64 p, .int .i64 wd, .int .i64 h]
/-- Is a cache valid? -/
def ckOk (s : ByteArray) (p wd h : Int) : Bool := decide (0 ≤ p) && (decide (p ≤ (s.size : Int)) && (decide (0 ≤ h) && (decide (h ≤ 56) && (decide (h ≤ 8 * p) && decide (wd = (rdN s (8 * p - h).toNat h.toNat : Int))))))
/-- The valid cache at bit `a` that has read `P` bytes. -/
def cw (s : ByteArray) (a P : Nat) : Value := cv s (P : Int) (rdN s a (8 * P - a) : Int) ((8 * P - a : Nat) : Int)
/-- `P` bytes are read, the bits from `a` on are held. -/
def At (s : ByteArray) (a P : Nat) : Prop := P ≤ s.size ∧ a ≤ 8 * P ∧ 8 * P - a ≤ 56
theorem ckOk_at (s : ByteArray) (p wd h : Int) (hk : ckOk s p wd h = true) : ∃ a P : Nat, At s a P ∧ p = P ∧ h = ((8 * P - a : Nat) : Int) ∧ wd = (rdN s a (8 * P - a) : Int) := by
  simp only [ckOk, Bool.and_eq_true, decide_eq_true_iff] at hk
  obtain ⟨h1, h2, h3, h4, h5, h6⟩ := hk
  have e : 8 * p.toNat - (8 * p - h).toNat = h.toNat := by omega
  refine ⟨(8 * p - h).toNat, p.toNat, ⟨by omega, by omega, by omega⟩, by omega, by omega, ?_⟩
  rw [e]; exact h6
theorem ckOk_of (s : ByteArray) (a P : Nat) (h : At s a P) : ckOk s (P : Int) (rdN s a (8 * P - a) : Int) ((8 * P - a : Nat) : Int) = true := by
  obtain ⟨h1, h2, h3⟩ := h
  have e1 : (8 * (P : Int) - ((8 * P - a : Nat) : Int)).toNat = a := by omega
  simp only [ckOk, Bool.and_eq_true, decide_eq_true_iff]
  refine ⟨by omega, by omega, by omega, by omega, by omega, ?_⟩
  rw [e1, Int.toNat_natCast]
/-- How many bytes are read behind Refill. -/
def rfP (s : ByteArray) (a P : Nat) : Nat := if 8 * P - a ≤ 48 then min s.size ((a + 48) / 8 + 1) else P
theorem rfP_at (s : ByteArray) (a P : Nat) (h : At s a P) : P ≤ rfP s a P ∧ At s a (rfP s a P) := by
  obtain ⟨h1, h2, h3⟩ := h
  unfold rfP At
  split <;> omega
/-- Behind Peek and Skip. -/
def pkP (s : ByteArray) (a P n : Nat) : Nat := if 8 * P - a < n then rfP s a P else P
theorem pkP_at (s : ByteArray) (a P n : Nat) (h : At s a P) : P ≤ pkP s a P n ∧ At s a (pkP s a P n) := by
  unfold pkP
  split
  · exact rfP_at s a P h
  · exact ⟨Nat.le_refl _, h⟩
/-- Behind Peek of at most sixteen bits they are held, or all is held that there is. -/
theorem pkP_has (s : ByteArray) (a P n : Nat) (h : At s a P) (hn : n ≤ 16) : n ≤ 8 * pkP s a P n - a ↔ a + n ≤ 8 * s.size := by
  obtain ⟨h1, h2, h3⟩ := h
  unfold pkP rfP
  split <;> (try split) <;> omega
/-- The number that Peek answers where `Q` bytes are read behind Refill. -/
def pkV (s : ByteArray) (a Q n : Nat) : Int := if 8 * Q - a < n then ((rdN s a (8 * Q - a) * 2 ^ (n - (8 * Q - a)) : Nat) : Int) else (rdN s a n : Int)
theorem pkV_out (s : ByteArray) (a Q n : Nat) : (8 * Q - a < n → pkV s a Q n = ((rdN s a (8 * Q - a) * 2 ^ (n - (8 * Q - a)) : Nat) : Int)) ∧ (¬ 8 * Q - a < n → pkV s a Q n = ((rdN s a (8 * Q - a) / 2 ^ (8 * Q - a - n) : Nat) : Int)) := by
  refine ⟨fun h => by rw [pkV, if_pos h], fun h => ?_⟩
  rw [pkV, if_neg h, rdN_cut s a n (8 * Q - a) (by omega)]
/-- The cells of a cache in a block. -/
def C4 (w : World) (g : Nat) (T : TypeId) (s : ByteArray) (p wd h : Int) : Prop := w.heap[g]? = some (.cells #[.string s, .int .i64 p, .int .i64 wd, .int .i64 h] T (0, 0))
end Go.Proofs.Ytemfiglflbfocaa

namespace Go.Proofs.Ytemfiglflbfocaa
open Go.RowKit
set_option linter.unusedVariables false

/-- `s[d:]` where it is there. -/
theorem cut_from {P : Program} {T : TypeId} (hs : P.underlying T = some .string) (s : ByteArray) (k : Nat) (x : Int) (hx : x = (k : Int)) (hk : k ≤ s.size) (w : World) :
    (Instr.slice T (.string s) (some (.int .i64 x)) none none).run P w = .ok (.string (bs (s.data.toList.drop k))) w := by
  subst hx
  rw [run_slice_string_from_if w T s .i64 (k : Int) hs, if_pos ⟨by omega, by omega⟩]
  congr 3
  apply ByteArray.ext
  apply Array.ext'
  simp [bs, ByteArray.data_extract]
  exact List.take_of_length_le (by simp)
theorem byteAt_drop (s : ByteArray) (k j : Nat) : byteAt (bs (s.data.toList.drop k)) j = byteAt s (k + j) := by
  simp [byteAt, bs, List.getD_eq_getElem?_getD]
theorem byteAt_take (s : ByteArray) (k j : Nat) (h : j < k) : byteAt (bs (s.data.toList.take k)) j = byteAt s j := by
  simp [byteAt, bs, List.getD_eq_getElem?_getD, h]
/-- `[]byte(s)`: a new row of the string's bytes. -/
theorem conv_str {P : Program} {S T E : TypeId} (hs : P.underlying S = some .string) (hd : P.underlying T = some (.slice E)) (he : P.underlying E = some (.int .u8)) (s : ByteArray) (w : World) :
    ∃ (cap : Nat) (w' : World), (convert S T (.string s)).run P w = .ok (.slice (some ⟨w.heap.size, 0, none⟩) s.size cap) w' ∧ (∀ j, j < s.size → w'.cell? ⟨w.heap.size, j, none⟩ = some (.int .u8 (byteAt s j : Int))) ∧ Below w.heap.size w w' := by
  refine ⟨_, _, run_bytes_of_string w S T E s hs hd he, fun j hj => ?_, (Below.refl _ _).drew.alloc (Nat.le_refl _) _⟩
  have hb : (w.drew.alloc (.cells (bytesRow s (grownCap w s.size 0 E)) E ((bytesRow s (grownCap w s.size 0 E)).size, (bytesRow s (grownCap w s.size 0 E)).size + 1))).heap[w.heap.size]? = some (.cells (bytesRow s (grownCap w s.size 0 E)) E ((bytesRow s (grownCap w s.size 0 E)).size, (bytesRow s (grownCap w s.size 0 E)).size + 1)) := heap_alloc_new w.drew _
  have h1 := cell_of_row _ _ j _ _ _ hb
  rw [h1]
  unfold bytesRow
  rw [Array.getElem?_append_left (by simpa using hj), byteAt_eq s j hj]
  simp [hj]
  rfl
theorem rdN_bytes (s s' : ByteArray) (d : Nat) (h : ∀ j, byteAt s' j = byteAt s (d + j)) (a : Nat) : ∀ k, rdN s' a k = rdN s (8 * d + a) k
  | 0 => rfl
  | k + 1 => by
    have e1 : (8 * d + a + k) / 8 = d + (a + k) / 8 := by omega
    have e2 : (8 * d + a + k) % 8 = (a + k) % 8 := by omega
    rw [rdN, rdN, rdN_bytes s s' d h a k, bitN, bitN, h, e1, e2]
theorem rdN_take (s : ByteArray) (P a : Nat) : ∀ k, a + k ≤ 8 * P → rdN (bs (s.data.toList.take P)) a k = rdN s a k
  | 0, _ => rfl
  | k + 1, hk => by
    rw [rdN, rdN, rdN_take s P a k (by omega), bitN, bitN, byteAt_take s P _ (by omega)]

/-- `x & (1<<n - 1)`. -/
theorem mask_n (x n : Nat) (hx : x < 2 ^ 63) (hn : n ≤ 56) : bits .and .i64 (x : Int) ((2 : Int) ^ n - 1) = ((x % 2 ^ n : Nat) : Int) := by
  rw [and_i64 n _ _ rfl (by omega) (by omega) (by exact_mod_cast hx)]
  norm_cast
theorem pow_le56 (n : Nat) (hn : n ≤ 56) : (1 : Int) ≤ 2 ^ n ∧ (2 : Int) ^ n ≤ 72057594037927936 := by
  have h1 : 1 ≤ 2 ^ n := Nat.one_le_two_pow
  have h2 : (2 : Nat) ^ n ≤ 2 ^ 56 := Nat.pow_le_pow_right (by decide) hn
  have e : (2 : Int) ^ n = ((2 ^ n : Nat) : Int) := (Int.natCast_pow 2 n).symm
  rw [e]
  generalize 2 ^ n = q at *
  omega

/-- The ways in which a cache is not valid by its numbers alone. -/
theorem ckOk_ways (s : ByteArray) (p wd h : Int) : (p < 0 ∨ (0 ≤ p ∧ (s.size : Int) < p) ∨ (0 ≤ p ∧ p ≤ (s.size : Int) ∧ h < 0) ∨ (0 ≤ p ∧ p ≤ (s.size : Int) ∧ 0 ≤ h ∧ 56 < h) ∨ (0 ≤ p ∧ p ≤ (s.size : Int) ∧ 0 ≤ h ∧ h ≤ 56 ∧ 8 * p < h)) ∧ ckOk s p wd h = false ∨
    ∃ P H : Nat, p = P ∧ h = H ∧ P ≤ s.size ∧ H ≤ 56 ∧ H ≤ 8 * P ∧ ckOk s p wd h = (wd == (rdN s (8 * P - H) H : Int)) := by
  by_cases h1 : p < 0
  · left; refine ⟨.inl h1, ?_⟩; simp [ckOk]; omega
  by_cases h2 : (s.size : Int) < p
  · left; refine ⟨.inr (.inl ⟨by omega, h2⟩), ?_⟩; simp [ckOk]; omega
  by_cases h3 : h < 0
  · left; refine ⟨.inr (.inr (.inl ⟨by omega, by omega, h3⟩)), ?_⟩; simp [ckOk]; omega
  by_cases h4 : 56 < h
  · left; refine ⟨.inr (.inr (.inr (.inl ⟨by omega, by omega, by omega, h4⟩))), ?_⟩; simp [ckOk]; omega
  by_cases h5 : 8 * p < h
  · left; refine ⟨.inr (.inr (.inr (.inr ⟨by omega, by omega, by omega, by omega, h5⟩))), ?_⟩; simp [ckOk]; omega
  right
  have e : (8 * p - h).toNat = 8 * p.toNat - h.toNat := by omega
  refine ⟨p.toNat, h.toNat, by omega, by omega, by omega, by omega, by omega, ?_⟩
  rw [← e, Bool.eq_iff_iff]
  simp [ckOk]
  omega

/-- The cells of a boxed cache. -/
theorem cells4 {w : World} {g : Nat} {T : TypeId} {u v x y : Value} {fr : Nat × Nat} (h : w.heap[g]? = some (.cells #[u, v, x, y] T fr)) : w.cell? ⟨g, 0, none⟩ = some u ∧ w.cell? ⟨g, 1, none⟩ = some v ∧ w.cell? ⟨g, 2, none⟩ = some x ∧ w.cell? ⟨g, 3, none⟩ = some y :=
  ⟨cell_of_row _ _ 0 _ _ _ h, cell_of_row _ _ 1 _ _ _ h, cell_of_row _ _ 2 _ _ _ h, cell_of_row _ _ 3 _ _ _ h⟩
theorem held4 {w w' W : World} {p0 p1 p2 p3 : Addr} {v0 v1 v2 v3 : Value} {B : Nat} (h : w.cell? p0 = some v0 ∧ w.cell? p1 = some v1 ∧ w.cell? p2 = some v2 ∧ w.cell? p3 = some v3 ∧ Below B W w ∧ B ≤ w.heap.size)
    (hb : Below w.heap.size w w') : w'.cell? p0 = some v0 ∧ w'.cell? p1 = some v1 ∧ w'.cell? p2 = some v2 ∧ w'.cell? p3 = some v3 ∧ Below B W w' ∧ B ≤ w'.heap.size := by
  obtain ⟨h0, h1, h2, h3, h6, h7⟩ := h
  have k : ∀ {p : Addr} {v : Value}, w.cell? p = some v → w'.cell? p = some v := fun hc => by
    rw [hb.cell (World.block_lt_of_cell? w _ hc)]; exact hc
  exact ⟨k h0, k h1, k h2, k h3, h6.trans (hb.mono h7), Nat.le_trans h7 hb.size⟩
theorem held4_drew {w W : World} {p0 p1 p2 p3 : Addr} {v0 v1 v2 v3 : Value} {B : Nat} (h : w.cell? p0 = some v0 ∧ w.cell? p1 = some v1 ∧ w.cell? p2 = some v2 ∧ w.cell? p3 = some v3 ∧ Below B W w ∧ B ≤ w.heap.size) :
    w.drew.cell? p0 = some v0 ∧ w.drew.cell? p1 = some v1 ∧ w.drew.cell? p2 = some v2 ∧ w.drew.cell? p3 = some v3 ∧ Below B W w.drew ∧ B ≤ w.drew.heap.size :=
  ⟨h.1, h.2.1, h.2.2.1, h.2.2.2.1, h.2.2.2.2.1.drew, h.2.2.2.2.2⟩
theorem held4_below {w W : World} {p0 p1 p2 p3 : Addr} {v0 v1 v2 v3 : Value} {B : Nat} (h : w.cell? p0 = some v0 ∧ w.cell? p1 = some v1 ∧ w.cell? p2 = some v2 ∧ w.cell? p3 = some v3 ∧ Below B W w ∧ B ≤ w.heap.size) : Below B W w := h.2.2.2.2.1

end Go.Proofs.Ytemfiglflbfocaa

namespace Go.Proofs.Ytemfiglflbfocaa
open Go.RowKit
set_option linter.unusedVariables false

/-- Two blocks that the call has made, behind a call. -/
theorem boxes_kept {w w' : World} {cs ds : Array Value} {T U : TypeId} (hb : Below ((w.alloc (.cells cs T)).alloc (.cells ds U)).heap.size ((w.alloc (.cells cs T)).alloc (.cells ds U)) w') :
    w'.heap[w.heap.size]? = some (.cells cs T (0, 0)) ∧ w'.heap[w.heap.size + 1]? = some (.cells ds U (0, 0)) := by
  have h1 : ((w.alloc (.cells cs T)).alloc (.cells ds U)).heap[w.heap.size]? = some (.cells cs T (0, 0)) := by
    rw [Below.heap_alloc _ _ _ (by simp)]; exact heap_alloc_new w _
  have h2 : ((w.alloc (.cells cs T)).alloc (.cells ds U)).heap[w.heap.size + 1]? = some (.cells ds U (0, 0)) := by
    have := heap_alloc_new (w.alloc (.cells cs T)) (.cells ds U)
    simpa using this
  exact ⟨cell_kept h1 hb, cell_kept h2 hb⟩
/-- All cells of a cache's block written. -/
def put4 (w : World) (g : Nat) (s : ByteArray) (p wd h : Int) : World := (((w.setCell ⟨g, 0, none⟩ (.string s)).setCell ⟨g, 1, none⟩ (.int .i64 p)).setCell ⟨g, 2, none⟩ (.int .i64 wd)).setCell ⟨g, 3, none⟩ (.int .i64 h)
theorem put4_block {w : World} {g : Nat} {u v x y : Value} {T : TypeId} (h : w.heap[g]? = some (.cells #[u, v, x, y] T (0, 0))) (s : ByteArray) (p wd k : Int) :
    (put4 w g s p wd k).heap[g]? = some (.cells #[.string s, .int .i64 p, .int .i64 wd, .int .i64 k] T (0, 0)) := by
  unfold put4
  rw [heap_setCell_same _ g 3 _ _ _ (heap_setCell_same _ g 2 _ _ _ (heap_setCell_same _ g 1 _ _ _ (heap_setCell_same w g 0 _ _ _ h)))]
  rfl
theorem put4_below {w w' : World} (h : Below w.heap.size w w') (g : Nat) (hg : w.heap.size ≤ g) (s : ByteArray) (p wd k : Int) : Below w.heap.size w (put4 w' g s p wd k) :=
  Below.setCell (Below.setCell (Below.setCell (Below.setCell h (p := ⟨g, 0, none⟩) hg _) (p := ⟨g, 1, none⟩) hg _) (p := ⟨g, 2, none⟩) hg _) (p := ⟨g, 3, none⟩) hg _
theorem put4_other {w : World} {g k : Nat} (h : k ≠ g) (s : ByteArray) (p wd x : Int) : (put4 w g s p wd x).heap[k]? = w.heap[k]? := by
  unfold put4
  rw [heap_setCell_other _ _ _ _ h, heap_setCell_other _ _ _ _ h, heap_setCell_other _ _ _ _ h, heap_setCell_other _ _ _ _ h]
/-- No cell of a block without the mark is frozen. -/
theorem frozen4 {w : World} {g : Nat} {u v x y : Value} {T : TypeId} (h : w.heap[g]? = some (.cells #[u, v, x, y] T (0, 0))) :
    w.frozen? ⟨g, 0, none⟩ = false ∧ w.frozen? ⟨g, 1, none⟩ = false ∧ w.frozen? ⟨g, 2, none⟩ = false ∧ w.frozen? ⟨g, 3, none⟩ = false :=
  ⟨frozen_of_row w g 0 _ _ h, frozen_of_row w g 1 _ _ h, frozen_of_row w g 2 _ _ h, frozen_of_row w g 3 _ _ h⟩
/-- The end of a call that answers a cache out of its result's block. -/
theorem out4 {w w2 : World} {T : TypeId} {g : Nat} {u v x y : Value} (s : ByteArray) (p wd k : Int) (h : w2.heap[g]? = some (.cells #[u, v, x, y] T (0, 0))) (hg : w.heap.size ≤ g) (hb : Below w.heap.size w w2) : ∃ w3, w3 = (((w2.setCell ⟨g, 0, none⟩ (.string s)).setCell ⟨g, 1, none⟩ (.int .i64 p)).setCell ⟨g, 2, none⟩ (.int .i64 wd)).setCell ⟨g, 3, none⟩ (.int .i64 k) ∧
      w3.cell? ⟨g, 0, none⟩ = some (.string s) ∧ w3.cell? ⟨g, 1, none⟩ = some (.int .i64 p) ∧ w3.cell? ⟨g, 2, none⟩ = some (.int .i64 wd) ∧ w3.cell? ⟨g, 3, none⟩ = some (.int .i64 k) ∧ Below w.heap.size w w3 := by
  obtain ⟨a0, a1, a2, a3⟩ := cells4 (put4_block h s p wd k)
  exact ⟨_, rfl, a0, a1, a2, a3, put4_below hb g hg s p wd k⟩

/-- Three cells of a block written. -/
theorem upd3_block {w : World} {g : Nat} {u0 u1 u2 u3 : Value} {T : TypeId} (h : w.heap[g]? = some (.cells #[u0, u1, u2, u3] T (0, 0))) (x y z : Value) :
    (((w.setCell ⟨g, 2, none⟩ x).setCell ⟨g, 1, none⟩ y).setCell ⟨g, 3, none⟩ z).drew.heap[g]? = some (.cells #[u0, y, x, z] T (0, 0)) := by
  show (((w.setCell ⟨g, 2, none⟩ x).setCell ⟨g, 1, none⟩ y).setCell ⟨g, 3, none⟩ z).heap[g]? = _
  rw [heap_setCell_same _ g 3 _ _ _ (heap_setCell_same _ g 1 _ _ _ (heap_setCell_same w g 2 _ _ _ h))]
  rfl
theorem upd3_other {w : World} {g k : Nat} (h : k ≠ g) {x y z : Value} : (((w.setCell ⟨g, 2, none⟩ x).setCell ⟨g, 1, none⟩ y).setCell ⟨g, 3, none⟩ z).drew.heap[k]? = w.heap[k]? := by
  show (((w.setCell ⟨g, 2, none⟩ x).setCell ⟨g, 1, none⟩ y).setCell ⟨g, 3, none⟩ z).heap[k]? = _
  rw [heap_setCell_other _ _ _ _ h, heap_setCell_other _ _ _ _ h, heap_setCell_other _ _ _ _ h]
theorem upd3_below {w w' : World} (h : Below w.heap.size w w') (g : Nat) (hg : w.heap.size ≤ g) (x y z : Value) : Below w.heap.size w (((w'.setCell ⟨g, 2, none⟩ x).setCell ⟨g, 1, none⟩ y).setCell ⟨g, 3, none⟩ z).drew :=
  (Below.setCell (Below.setCell (Below.setCell h (p := ⟨g, 2, none⟩) hg _) (p := ⟨g, 1, none⟩) hg _) (p := ⟨g, 3, none⟩) hg _).drew

theorem rf_step (s : ByteArray) (a P Q : Nat) (h1 : P ≤ Q) (h2 : Q ≤ rfP s a P) (hA : At s a Q) : (Q < rfP s a P → 8 * Q - a ≤ 48 ∧ Q < s.size) ∧ (Q = rfP s a P → 8 * Q - a ≤ 48 → s.size ≤ Q) := by
  obtain ⟨b1, b2, b3⟩ := hA
  unfold rfP at *
  split at h2 <;> rename_i hc
  · rw [if_pos hc]; omega
  · rw [if_neg hc]; omega

end Go.Proofs.Ytemfiglflbfocaa

namespace Go.Proofs.Ytemfiglflbfocaa
open Go.RowKit
set_option linter.unusedVariables false

/-- A block of the call's own, behind a call. -/
theorem box_kept {w w' : World} {cs : Array Value} {T : TypeId} (hb : Below (w.alloc (.cells cs T)).heap.size (w.alloc (.cells cs T)) w') : w'.heap[w.heap.size]? = some (.cells cs T (0, 0)) := cell_kept (heap_alloc_new w _) hb

/-- The word of a block written. -/
theorem upd2_block {w : World} {g : Nat} {u0 u1 u2 u3 : Value} {T : TypeId} (h : w.heap[g]? = some (.cells #[u0, u1, u2, u3] T (0, 0))) (x : Value) :
    (w.setCell ⟨g, 2, none⟩ x).drew.heap[g]? = some (.cells #[u0, u1, x, u3] T (0, 0)) := by
  show (w.setCell ⟨g, 2, none⟩ x).heap[g]? = _
  rw [heap_setCell_same w g 2 _ _ _ h]
  rfl
end Go.Proofs.Ytemfiglflbfocaa
