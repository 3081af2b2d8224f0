/-
  Plain facts on the bits of a string as numbers, and what a cache holds. No condition but those that each lemma states.
  Contracts of the cache's checks, in both texts. Condition: the string is no longer than 1048576 bytes (the laws ask no more).
  Contracts of Refill, in both texts. Condition: the string is no longer than 1048576 bytes (the laws ask no more).
  Contracts of PlaceIn and Settle, in both texts, and of the model's cache at a place. Condition: the string is no longer than 1048576 bytes (the laws ask no more).
-/
import Derived.Test.YtgacldhpohnpaaaRead
import Derived.Deep.RegionHeld3
namespace Go.Proofs.Ytgacldhpohnpaaa
open Go.RowKit
set_option linter.unusedVariables false

theorem rdN_add (s : ByteArray) (a k : Nat) : ∀ m, rdN s a (k + m) = rdN s a k * 2 ^ m + rdN s (a + k) m
  | 0 => by simp [rdN]
  | m + 1 => by
    rw [show k + (m + 1) = (k + m) + 1 by omega, rdN, rdN_add s a k m, rdN, Nat.pow_succ, show a + k + m = a + (k + m) by omega, Nat.mul_add, ← Nat.mul_assoc, Nat.mul_comm 2 (rdN s a k), Nat.mul_assoc, Nat.mul_comm 2 (2 ^ m)]
    omega
/-- The last bits of a number of bits. -/
theorem rdN_mod (s : ByteArray) (a k m : Nat) : rdN s a (k + m) % 2 ^ m = rdN s (a + k) m := by
  rw [rdN_add, Nat.mul_add_mod_self_right, Nat.mod_eq_of_lt (rdN_lt s _ m)]
/-- The first bits of a number of bits. -/
theorem rdN_div (s : ByteArray) (a k m : Nat) : rdN s a (k + m) / 2 ^ m = rdN s a k := by
  rw [rdN_add, Nat.add_comm, Nat.add_mul_div_right _ _ (Nat.two_pow_pos m), Nat.div_eq_of_lt (rdN_lt s _ m), Nat.zero_add]
theorem bitN_div (s : ByteArray) (j r : Nat) (h : r < 8) : bitN s (8 * j + r) = byteAt s j / 2 ^ (7 - r) % 2 := by
  have e1 : (8 * j + r) / 8 = j := by omega
  have e2 : (8 * j + r) % 8 = r := by omega
  rw [bitN, e1, e2]
/-- The first bits of a byte. -/
theorem rdN_byte_to (s : ByteArray) (j : Nat) : ∀ k, k ≤ 8 → rdN s (8 * j) k = byteAt s j / 2 ^ (8 - k)
  | 0, _ => by
    have h := byteAt_lt s j
    rw [rdN, Nat.div_eq_of_lt (by simp; omega)]
  | k + 1, hk => by
    rw [rdN, rdN_byte_to s j k (by omega), bitN_div s j k (by omega), show 8 - k = (7 - k) + 1 by omega, show 8 - (k + 1) = 7 - k by omega, Nat.pow_succ, ← Nat.div_div_eq_div_mul]
    omega
/-- The bits of a byte are the byte. -/
theorem rdN_byte (s : ByteArray) (j : Nat) : rdN s (8 * j) 8 = byteAt s j := by
  rw [rdN_byte_to s j 8 (by decide)]
  simp
/-- One byte more. -/
theorem rdN_more (s : ByteArray) (a n j : Nat) (h : a + n = 8 * j) : rdN s a (n + 8) = rdN s a n * 256 + byteAt s j := by
  rw [rdN_add, h, rdN_byte]
theorem rdN_cut (s : ByteArray) (a n m : Nat) (h : n ≤ m) : rdN s a m / 2 ^ (m - n) = rdN s a n := by
  have := rdN_div s a n (m - n)
  rwa [show n + (m - n) = m by omega] at this
theorem rdN_low (s : ByteArray) (a n m : Nat) (h : n ≤ m) : rdN s a m % 2 ^ (m - n) = rdN s (a + n) (m - n) := by
  have := rdN_mod s a n (m - n)
  rwa [show n + (m - n) = m by omega] at this
theorem rdN_lt' (s : ByteArray) (a n m : Nat) (h : n ≤ m) : rdN s a n < 2 ^ m := Nat.lt_of_lt_of_le (rdN_lt s a n) (Nat.pow_le_pow_right (by decide) h)

/-- A cache as a value. -/
def cv (s : ByteArray) (p wd h : Int) : Value := .agg #[.string s, .int .i64 p, .int .i64 wd, .int .i64 h]
/-- Is a cache valid? -/
def ckOk (s : ByteArray) (p wd h : Int) : Bool := decide (0 ≤ p) && (decide (p ≤ (s.size : Int)) && (decide (0 ≤ h) && (decide (h ≤ 56) && (decide (h ≤ 8 * p) && decide (wd = (rdN s (8 * p - h).toNat h.toNat : Int))))))
/-- The valid cache at bit `a` that has read `P` bytes. -/
def cw (s : ByteArray) (a P : Nat) : Value := cv s (P : Int) (rdN s a (8 * P - a) : Int) ((8 * P - a : Nat) : Int)
/-- `P` bytes are read, the bits from `a` on are held. -/
def At (s : ByteArray) (a P : Nat) : Prop := P ≤ s.size ∧ a ≤ 8 * P ∧ 8 * P - a ≤ 56
theorem ckOk_at (s : ByteArray) (p wd h : Int) (hk : ckOk s p wd h = true) : ∃ a P : Nat, At s a P ∧ p = P ∧ h = ((8 * P - a : Nat) : Int) ∧ wd = (rdN s a (8 * P - a) : Int) := by
  simp only [ckOk, Bool.and_eq_true, decide_eq_true_iff] at hk
  obtain ⟨h1, h2, h3, h4, h5, h6⟩ := hk
  have e : 8 * p.toNat - (8 * p - h).toNat = h.toNat := by omega
  refine ⟨(8 * p - h).toNat, p.toNat, ⟨by omega, by omega, by omega⟩, by omega, by omega, ?_⟩
  rw [e]; exact h6
theorem ckOk_of (s : ByteArray) (a P : Nat) (h : At s a P) : ckOk s (P : Int) (rdN s a (8 * P - a) : Int) ((8 * P - a : Nat) : Int) = true := by
  obtain ⟨h1, h2, h3⟩ := h
  have e1 : (8 * (P : Int) - ((8 * P - a : Nat) : Int)).toNat = a := by omega
  simp only [ckOk, Bool.and_eq_true, decide_eq_true_iff]
  refine ⟨by omega, by omega, by omega, by omega, by omega, ?_⟩
  rw [e1, Int.toNat_natCast]
/-- How many bytes are read behind Refill. -/
def rfP (s : ByteArray) (a P : Nat) : Nat := if 8 * P - a ≤ 48 then min s.size ((a + 48) / 8 + 1) else P
theorem rfP_at (s : ByteArray) (a P : Nat) (h : At s a P) : P ≤ rfP s a P ∧ At s a (rfP s a P) := by
  obtain ⟨h1, h2, h3⟩ := h
  unfold rfP At
  split <;> omega
/-- Behind Peek and Skip. -/
def pkP (s : ByteArray) (a P n : Nat) : Nat := if 8 * P - a < n then rfP s a P else P
theorem pkP_at (s : ByteArray) (a P n : Nat) (h : At s a P) : P ≤ pkP s a P n ∧ At s a (pkP s a P n) := by
  unfold pkP
  split
  · exact rfP_at s a P h
  · exact ⟨Nat.le_refl _, h⟩
/-- Behind Peek of at most sixteen bits they are held, or all is held that there is. -/
theorem pkP_has (s : ByteArray) (a P n : Nat) (h : At s a P) (hn : n ≤ 16) : n ≤ 8 * pkP s a P n - a ↔ a + n ≤ 8 * s.size := by
  obtain ⟨h1, h2, h3⟩ := h
  unfold pkP rfP
  split <;> (try split) <;> omega
/-- The number that Peek answers where `Q` bytes are read behind Refill. -/
def pkV (s : ByteArray) (a Q n : Nat) : Int := if 8 * Q - a < n then ((rdN s a (8 * Q - a) * 2 ^ (n - (8 * Q - a)) : Nat) : Int) else (rdN s a n : Int)
theorem pkV_out (s : ByteArray) (a Q n : Nat) : (8 * Q - a < n → pkV s a Q n = ((rdN s a (8 * Q - a) * 2 ^ (n - (8 * Q - a)) : Nat) : Int)) ∧ (¬ 8 * Q - a < n → pkV s a Q n = ((rdN s a (8 * Q - a) / 2 ^ (8 * Q - a - n) : Nat) : Int)) := by
  refine ⟨fun h => by rw [pkV, if_pos h], fun h => ?_⟩
  rw [pkV, if_neg h, rdN_cut s a n (8 * Q - a) (by omega)]
/-- The cells of a cache in a block. -/
def C4 (w : World) (g : Nat) (T : TypeId) (s : ByteArray) (p wd h : Int) : Prop := w.heap[g]? = some (.cells #[.string s, .int .i64 p, .int .i64 wd, .int .i64 h] T (0, 0))
end Go.Proofs.Ytgacldhpohnpaaa

namespace Go.Proofs.Ytgacldhpohnpaaa
open Go.RowKit
set_option linter.unusedVariables false

/-- `s[d:]` where it is there. -/
theorem cut_from {P : Program} {T : TypeId} (hs : P.underlying T = some .string) (s : ByteArray) (k : Nat) (x : Int) (hx : x = (k : Int)) (hk : k ≤ s.size) (w : World) :
    (Instr.slice T (.string s) (some (.int .i64 x)) none none).run P w = .ok (.string (bs (s.data.toList.drop k))) w := by
  subst hx
  rw [run_slice_string_from_if w T s .i64 (k : Int) hs, if_pos ⟨by omega, by omega⟩]
  congr 3
  apply ByteArray.ext
  apply Array.ext'
  simp [bs, ByteArray.data_extract]
  exact List.take_of_length_le (by simp)
theorem byteAt_drop (s : ByteArray) (k j : Nat) : byteAt (bs (s.data.toList.drop k)) j = byteAt s (k + j) := by
  simp [byteAt, bs, List.getD_eq_getElem?_getD]
theorem byteAt_take (s : ByteArray) (k j : Nat) (h : j < k) : byteAt (bs (s.data.toList.take k)) j = byteAt s j := by
  simp [byteAt, bs, List.getD_eq_getElem?_getD, h]
/-- `[]byte(s)`: a new row of the string's bytes. -/
theorem conv_str {P : Program} {S T E : TypeId} (hs : P.underlying S = some .string) (hd : P.underlying T = some (.slice E)) (he : P.underlying E = some (.int .u8)) (s : ByteArray) (w : World) :
    ∃ (cap : Nat) (w' : World), (convert S T (.string s)).run P w = .ok (.slice (some ⟨w.heap.size, 0, none⟩) s.size cap) w' ∧ (∀ j, j < s.size → w'.cell? ⟨w.heap.size, j, none⟩ = some (.int .u8 (byteAt s j : Int))) ∧ Below w.heap.size w w' := by
  refine ⟨_, _, run_bytes_of_string w S T E s hs hd he, fun j hj => ?_, (Below.refl _ _).drew.alloc (Nat.le_refl _) _⟩
  have hb : (w.drew.alloc (.cells (bytesRow s (grownCap w s.size 0 E)) E ((bytesRow s (grownCap w s.size 0 E)).size, (bytesRow s (grownCap w s.size 0 E)).size + 1))).heap[w.heap.size]? = some (.cells (bytesRow s (grownCap w s.size 0 E)) E ((bytesRow s (grownCap w s.size 0 E)).size, (bytesRow s (grownCap w s.size 0 E)).size + 1)) := heap_alloc_new w.drew _
  have h1 := cell_of_row _ _ j _ _ _ hb
  rw [h1]
  unfold bytesRow
  rw [Array.getElem?_append_left (by simpa using hj), byteAt_eq s j hj]
  simp [hj]
  rfl
theorem rdN_bytes (s s' : ByteArray) (d : Nat) (h : ∀ j, byteAt s' j = byteAt s (d + j)) (a : Nat) : ∀ k, rdN s' a k = rdN s (8 * d + a) k
  | 0 => rfl
  | k + 1 => by
    have e1 : (8 * d + a + k) / 8 = d + (a + k) / 8 := by omega
    have e2 : (8 * d + a + k) % 8 = (a + k) % 8 := by omega
    rw [rdN, rdN, rdN_bytes s s' d h a k, bitN, bitN, h, e1, e2]
theorem rdN_take (s : ByteArray) (P a : Nat) : ∀ k, a + k ≤ 8 * P → rdN (bs (s.data.toList.take P)) a k = rdN s a k
  | 0, _ => rfl
  | k + 1, hk => by
    rw [rdN, rdN, rdN_take s P a k (by omega), bitN, bitN, byteAt_take s P _ (by omega)]

/-- `x & (1<<n - 1)`. -/
theorem mask_n (x n : Nat) (hx : x < 2 ^ 63) (hn : n ≤ 56) : bits .and .i64 (x : Int) ((2 : Int) ^ n - 1) = ((x % 2 ^ n : Nat) : Int) := by
  rw [and_i64 n _ _ rfl (by omega) (by omega) (by exact_mod_cast hx)]
  norm_cast
theorem pow_le56 (n : Nat) (hn : n ≤ 56) : (1 : Int) ≤ 2 ^ n ∧ (2 : Int) ^ n ≤ 72057594037927936 := by
  have h1 : 1 ≤ 2 ^ n := Nat.one_le_two_pow
  have h2 : (2 : Nat) ^ n ≤ 2 ^ 56 := Nat.pow_le_pow_right (by decide) hn
  have e : (2 : Int) ^ n = ((2 ^ n : Nat) : Int) := (Int.natCast_pow 2 n).symm
  rw [e]
  generalize 2 ^ n = q at *
  omega

set_option maxRecDepth 100000 in
set_option maxHeartbeats 400000 in
theorem lowbits_any (x n : Nat) (hx : x < 2 ^ 63) (hn : n ≤ 56) (w : World) :
    Calls Try.prog 116 #[.int .i64 x, .int .i64 n] w fun e w' => e = .returned (.int .i64 ((x % 2 ^ n : Nat) : Int)) ∧ w = w' := by
  have hm := mask_n x n hx hn
  obtain ⟨p1, p2⟩ := pow_le56 n hn
  obtain ⟨p, hp⟩ : ∃ p : Int, p = 2 ^ n := ⟨_, rfl⟩
  have h1 : wrap64 (2 ^ n) = p := by rw [← hp]; unfold wrap64; omega
  rw [← hp] at hm p1 p2
  clear hp
  go_enter Try.func116, Try.ntmps116
  go_wp2
  go_ret
  exact ⟨rfl, rfl⟩
set_option maxRecDepth 100000 in
set_option maxHeartbeats 400000 in
theorem lastbits_any (s : ByteArray) (n : Nat) (hs : s.size ≤ 1048576) (hn : n ≤ 56) (hns : n ≤ 8 * s.size) (w : World) :
    Calls Try.prog 98 #[.string s, .int .i64 n] w fun e w' => e = .returned (.int .i64 (rdN s (8 * s.size - n) n)) ∧ Below w.heap.size w w' := by
  have hc := cut_from Try.underlying9 s (s.size - (n + 7) / 8) ((s.size : Int) - ((n : Int) + 7) / 8) (by omega) (by omega)
  obtain ⟨k, hk⟩ : ∃ k, k = (n + 7) / 8 := ⟨_, rfl⟩
  obtain ⟨u, hu⟩ : ∃ u, u = bs (s.data.toList.drop (s.size - k)) := ⟨_, rfl⟩
  have husz : u.size = k := by rw [hu, bs_size]; simp; omega
  have hub : ∀ j, byteAt u j = byteAt s (s.size - k + j) := fun j => by rw [hu, byteAt_drop]
  rw [← hk, ← hu] at hc
  have hend : rdN u 0 (8 * k) % 2 ^ n = rdN s (8 * s.size - n) n := by
    rw [rdN_bytes s u (s.size - k) hub 0 (8 * k)]
    have := rdN_low s (8 * (s.size - k) + 0) (8 * k - n) (8 * k) (by omega)
    rw [show 8 * k - (8 * k - n) = n by omega, show 8 * (s.size - k) + 0 + (8 * k - n) = 8 * s.size - n by omega] at this
    exact this
  have hk7 : k ≤ 7 := by omega
  have hk8 : n ≤ 8 * k := by omega
  have hend' := Lib.hid hend
  obtain ⟨cap, w1, hcv, hcell, hbel⟩ := conv_str Try.underlying9 Try.underlying22 Try.underlying5 u w
  have hcell' := Lib.hid hcell
  have hbel' := Lib.hid hbel
  clear hcell hbel hend hub hu hk
  go_enter Try.func98, Try.ntmps98
  go_wp2
  go_loop [5, 18] (fun v i => ∃ j : Nat, j ≤ k ∧ i = .int .i64 j ∧ v = .int .i64 (rdN u 0 (8 * j))) (fun _ i => k - (intOf i).toNat)
  case atStart => exact ⟨0, Nat.zero_le _, rfl, rfl⟩
  case round =>
    obtain ⟨j, hj, rfl, rfl⟩ := hrel
    by_cases hlt : j < k
    · have hcj := hcell'.out j (by omega)
      have hmore := rdN_more u 0 (8 * j) j (by omega)
      have hv := rdN_lt' u 0 (8 * j) 48 (by omega)
      have hb := byteAt_lt u j
      obtain ⟨v, hvd⟩ : ∃ v, v = rdN u 0 (8 * j) := ⟨_, rfl⟩
      obtain ⟨b, hbd⟩ : ∃ b, b = byteAt u j := ⟨_, rfl⟩
      rw [← hvd, ← hbd] at hmore
      rw [← hvd] at hv ⊢
      rw [← hbd] at hb hcj
      have HS := Lib.hid hmore
      clear hmore hvd hbd
      have hor : bits .or .i64 ((v : Int) * 256) (b : Int) = ((v * 256 + b : Nat) : Int) := by
        rw [or_i64 8 _ _ (by omega) (by omega) (by omega) (by omega) (by omega) (by decide)]
        omega
      go_wp2
      go_round
      case rel => exact ⟨j + 1, by omega, by go_num, by rw [show 8 * (j + 1) = 8 * j + 8 by omega, HS.out]; congr 1⟩
      case measure => simp [intOf]; omega
    · obtain rfl : j = k := by omega
      have LB := Lib.hid (lowbits_any (rdN u 0 (8 * j)) n (by have := rdN_lt' u 0 (8 * j) 56 (by omega); omega) hn)
      rw [hend'.out] at LB
      go_wp2_with fail
      refine (LB.out _).mono ?_
      rintro e w' ⟨rfl, rfl⟩
      go_wp2
      go_ret
      exact ⟨rfl, hbel'.out⟩

/-- The ways in which a cache is not valid by its numbers alone. -/
theorem ckOk_ways (s : ByteArray) (p wd h : Int) : (p < 0 ∨ (0 ≤ p ∧ (s.size : Int) < p) ∨ (0 ≤ p ∧ p ≤ (s.size : Int) ∧ h < 0) ∨ (0 ≤ p ∧ p ≤ (s.size : Int) ∧ 0 ≤ h ∧ 56 < h) ∨ (0 ≤ p ∧ p ≤ (s.size : Int) ∧ 0 ≤ h ∧ h ≤ 56 ∧ 8 * p < h)) ∧ ckOk s p wd h = false ∨
    ∃ P H : Nat, p = P ∧ h = H ∧ P ≤ s.size ∧ H ≤ 56 ∧ H ≤ 8 * P ∧ ckOk s p wd h = (wd == (rdN s (8 * P - H) H : Int)) := by
  by_cases h1 : p < 0
  · left; refine ⟨.inl h1, ?_⟩; simp [ckOk]; omega
  by_cases h2 : (s.size : Int) < p
  · left; refine ⟨.inr (.inl ⟨by omega, h2⟩), ?_⟩; simp [ckOk]; omega
  by_cases h3 : h < 0
  · left; refine ⟨.inr (.inr (.inl ⟨by omega, by omega, h3⟩)), ?_⟩; simp [ckOk]; omega
  by_cases h4 : 56 < h
  · left; refine ⟨.inr (.inr (.inr (.inl ⟨by omega, by omega, by omega, h4⟩))), ?_⟩; simp [ckOk]; omega
  by_cases h5 : 8 * p < h
  · left; refine ⟨.inr (.inr (.inr (.inr ⟨by omega, by omega, by omega, by omega, h5⟩))), ?_⟩; simp [ckOk]; omega
  right
  have e : (8 * p - h).toNat = 8 * p.toNat - h.toNat := by omega
  refine ⟨p.toNat, h.toNat, by omega, by omega, by omega, by omega, by omega, ?_⟩
  rw [← e, Bool.eq_iff_iff]
  simp [ckOk]
  omega

/-- The cells of a boxed cache. -/
theorem cells4 {w : World} {g : Nat} {T : TypeId} {u v x y : Value} {fr : Nat × Nat} (h : w.heap[g]? = some (.cells #[u, v, x, y] T fr)) : w.cell? ⟨g, 0, none⟩ = some u ∧ w.cell? ⟨g, 1, none⟩ = some v ∧ w.cell? ⟨g, 2, none⟩ = some x ∧ w.cell? ⟨g, 3, none⟩ = some y :=
  ⟨cell_of_row _ _ 0 _ _ _ h, cell_of_row _ _ 1 _ _ _ h, cell_of_row _ _ 2 _ _ _ h, cell_of_row _ _ 3 _ _ _ h⟩
theorem held4 {w w' W : World} {p0 p1 p2 p3 : Addr} {v0 v1 v2 v3 : Value} {B : Nat} (h : w.cell? p0 = some v0 ∧ w.cell? p1 = some v1 ∧ w.cell? p2 = some v2 ∧ w.cell? p3 = some v3 ∧ Below B W w ∧ B ≤ w.heap.size)
    (hb : Below w.heap.size w w') : w'.cell? p0 = some v0 ∧ w'.cell? p1 = some v1 ∧ w'.cell? p2 = some v2 ∧ w'.cell? p3 = some v3 ∧ Below B W w' ∧ B ≤ w'.heap.size := by
  obtain ⟨h0, h1, h2, h3, h6, h7⟩ := h
  have k : ∀ {p : Addr} {v : Value}, w.cell? p = some v → w'.cell? p = some v := fun hc => by
    rw [hb.cell (World.block_lt_of_cell? w _ hc)]; exact hc
  exact ⟨k h0, k h1, k h2, k h3, h6.trans (hb.mono h7), Nat.le_trans h7 hb.size⟩
theorem held4_drew {w W : World} {p0 p1 p2 p3 : Addr} {v0 v1 v2 v3 : Value} {B : Nat} (h : w.cell? p0 = some v0 ∧ w.cell? p1 = some v1 ∧ w.cell? p2 = some v2 ∧ w.cell? p3 = some v3 ∧ Below B W w ∧ B ≤ w.heap.size) :
    w.drew.cell? p0 = some v0 ∧ w.drew.cell? p1 = some v1 ∧ w.drew.cell? p2 = some v2 ∧ w.drew.cell? p3 = some v3 ∧ Below B W w.drew ∧ B ≤ w.drew.heap.size :=
  ⟨h.1, h.2.1, h.2.2.1, h.2.2.2.1, h.2.2.2.2.1.drew, h.2.2.2.2.2⟩
theorem held4_below {w W : World} {p0 p1 p2 p3 : Addr} {v0 v1 v2 v3 : Value} {B : Nat} (h : w.cell? p0 = some v0 ∧ w.cell? p1 = some v1 ∧ w.cell? p2 = some v2 ∧ w.cell? p3 = some v3 ∧ Below B W w ∧ B ≤ w.heap.size) : Below B W w := h.2.2.2.2.1

set_option maxRecDepth 100000 in
set_option maxHeartbeats 800000 in
theorem impl_cacheok_out (s : ByteArray) (p wd h : Int) (hs : s.size ≤ 1048576) (hno : (p < 0 ∨ (0 ≤ p ∧ (s.size : Int) < p) ∨ (0 ≤ p ∧ p ≤ (s.size : Int) ∧ h < 0) ∨ (0 ≤ p ∧ p ≤ (s.size : Int) ∧ 0 ≤ h ∧ 56 < h) ∨ (0 ≤ p ∧ p ≤ (s.size : Int) ∧ 0 ≤ h ∧ h ≤ 56 ∧ 8 * p < h))) (w : World) :
    Calls Try.prog 65 #[cv s p wd h] w fun e w' => e = .returned (.bool false) ∧ Below w.heap.size w w' := by
  unfold cv
  rcases hno with h1 | ⟨h1, h2⟩ | ⟨h1, h2, h3⟩ | ⟨h1, h2, h3, h4⟩ | ⟨h1, h2, h3, h4, h5⟩
  case' inl => have q1 : decide (p < 0) = true := by simpa using h1
  case' inr.inl =>
    have q1 : decide (p < 0) = false := by simpa using h1
    have q2 : decide ((s.size : Int) < p) = true := by simpa using h2
  case' inr.inr.inl =>
    have q1 : decide (p < 0) = false := by simpa using h1
    have q2 : decide ((s.size : Int) < p) = false := by simpa using h2
    have q3 : decide (h < 0) = true := by simpa using h3
  case' inr.inr.inr.inl =>
    have q1 : decide (p < 0) = false := by simpa using h1
    have q2 : decide ((s.size : Int) < p) = false := by simpa using h2
    have q3 : decide (h < 0) = false := by simpa using h3
    have q4 : decide ((56 : Int) < h) = true := by simpa using h4
  case' inr.inr.inr.inr =>
    have q1 : decide (p < 0) = false := by simpa using h1
    have q2 : decide ((s.size : Int) < p) = false := by simpa using h2
    have q3 : decide (h < 0) = false := by simpa using h3
    have q4 : decide ((56 : Int) < h) = false := by simpa using h4
    have q5 : decide (8 * p < h) = true := by simpa using h5
  all_goals
    go_enter Try.func65, Try.ntmps65
    go_wp2
    go_ret
    exact ⟨rfl, below_new _ _⟩

set_option maxRecDepth 100000 in
set_option maxHeartbeats 800000 in
theorem impl_cacheok_in (s : ByteArray) (P H : Nat) (wd : Int) (hs : s.size ≤ 1048576) (hP : P ≤ s.size) (hH : H ≤ 56) (hHP : H ≤ 8 * P) (w : World) :
    Calls Try.prog 65 #[cv s P wd H] w fun e w' => e = .returned (.bool (wd == (rdN s (8 * P - H) H : Int))) ∧ Below w.heap.size w w' := by
  have q1 : decide ((P : Int) < 0) = false := by simp
  have q2 : decide ((s.size : Int) < (P : Int)) = false := by simp; omega
  have q3 : decide ((H : Int) < 0) = false := by simp
  have q4 : decide ((56 : Int) < (H : Int)) = false := by simp; omega
  have q5 : decide (8 * (P : Int) < (H : Int)) = false := by simp; omega
  have hcut := cut_to Try.underlying9 s P (P : Int) rfl hP
  have hsz : (bs (s.data.toList.take P)).size = P := by rw [bs_size]; simp; omega
  have LB := Lib.hid (lastbits_any (bs (s.data.toList.take P)) H (by omega) hH (by omega))
  rw [hsz, rdN_take s P _ _ (by omega)] at LB
  obtain ⟨u, hu⟩ : ∃ u, u = bs (s.data.toList.take P) := ⟨_, rfl⟩
  rw [← hu] at LB hcut hsz
  obtain ⟨v, hv⟩ : ∃ v, v = rdN s (8 * P - H) H := ⟨_, rfl⟩
  rw [← hv] at LB ⊢
  clear hu hv
  unfold cv
  go_enter Try.func65, Try.ntmps65
  go_wp2
  have H4 : (w.alloc (.cells #[.string s, .int .i64 P, .int .i64 wd, .int .i64 H] 25)).cell? ⟨w.heap.size, 0, none⟩ = some (.string s) ∧ (w.alloc (.cells #[.string s, .int .i64 P, .int .i64 wd, .int .i64 H] 25)).cell? ⟨w.heap.size, 1, none⟩ = some (.int .i64 P) ∧
    (w.alloc (.cells #[.string s, .int .i64 P, .int .i64 wd, .int .i64 H] 25)).cell? ⟨w.heap.size, 2, none⟩ = some (.int .i64 wd) ∧ (w.alloc (.cells #[.string s, .int .i64 P, .int .i64 wd, .int .i64 H] 25)).cell? ⟨w.heap.size, 3, none⟩ = some (.int .i64 H) ∧
    Below w.heap.size w (w.alloc (.cells #[.string s, .int .i64 P, .int .i64 wd, .int .i64 H] 25)) ∧ w.heap.size ≤ (w.alloc (.cells #[.string s, .int .i64 P, .int .i64 wd, .int .i64 H] 25)).heap.size := by
    obtain ⟨a0, a1, a2, a3⟩ := cells4 (heap_alloc_new w (.cells #[.string s, .int .i64 P, .int .i64 wd, .int .i64 H] 25))
    exact ⟨a0, a1, a2, a3, below_new _ _, (below_new w _).size⟩
  go_region_held3 (fun w' => w'.cell? ⟨w.heap.size, 0, none⟩ = some (.string s) ∧ w'.cell? ⟨w.heap.size, 1, none⟩ = some (.int .i64 P) ∧ w'.cell? ⟨w.heap.size, 2, none⟩ = some (.int .i64 wd) ∧ w'.cell? ⟨w.heap.size, 3, none⟩ = some (.int .i64 H) ∧ Below w.heap.size w w' ∧ w.heap.size ≤ w'.heap.size)
    (first | (refine held4_drew ?_; assumption) | (refine held4 ?_ (by assumption); assumption))
    (first | (go_at_call 98; with_reducible refine (LB.out _).mono ?_; rintro e w' ⟨rfl, hb'⟩))
  go_wp2
  go_ret
  exact ⟨rfl, held4_below (by assumption)⟩

theorem impl_cacheok_any (s : ByteArray) (p wd h : Int) (hs : s.size ≤ 1048576) (w : World) :
    Calls Try.prog 65 #[cv s p wd h] w fun e w' => e = .returned (.bool (ckOk s p wd h)) ∧ Below w.heap.size w w' := by
  rcases ckOk_ways s p wd h with ⟨h1, h2⟩ | ⟨P, H, rfl, rfl, h1, h2, h3, h4⟩
  · rw [h2]; exact impl_cacheok_out s p wd h hs h1 w
  · rw [h4]; exact impl_cacheok_in s P H wd hs h1 h2 h3 w

set_option maxRecDepth 100000 in
set_option maxHeartbeats 800000 in
theorem spec_cacheok_out1 (s : ByteArray) (p wd h : Int) (b c : Bool) (hb : (decide (0 ≤ p) && decide (p ≤ (s.size : Int))) = b) (hc : (decide (0 ≤ h) && decide (h ≤ 56)) = c)
    (hno : b = false ∨ (b = true ∧ c = false) ∨ (b = true ∧ c = true ∧ 0 ≤ p ∧ p ≤ 1048576 ∧ 8 * p < h)) (w : World) :
    Calls Try.prog 19 #[cv s p wd h] w fun e w' => e = .returned (.bool false) ∧ Below w.heap.size w w' := by
  have I1 := Lib.hid (l1In_any p 0 (s.size : Int))
  have I2 := Lib.hid (l1In_any h 0 56)
  rw [hb] at I1
  rw [hc] at I2
  clear hb hc
  unfold cv
  rcases hno with rfl | ⟨rfl, rfl⟩ | ⟨rfl, rfl, h1, h2, h5⟩
  · go_enter Try.func19, Try.ntmps19
    go_wp2_with fail
    refine (I1.out _).mono ?_
    rintro e w' ⟨rfl, rfl⟩
    go_wp2
    go_ret
    exact ⟨rfl, below_new _ _⟩
  · go_enter Try.func19, Try.ntmps19
    go_wp2_with fail
    refine (I1.out _).mono ?_
    rintro e w' ⟨rfl, rfl⟩
    go_wp2_with fail
    refine (I2.out _).mono ?_
    rintro e w' ⟨rfl, rfl⟩
    go_wp2
    go_ret
    exact ⟨rfl, below_new _ _⟩
  · have q5 : decide (8 * p < h) = true := by simpa using h5
    go_enter Try.func19, Try.ntmps19
    go_wp2_with fail
    refine (I1.out _).mono ?_
    rintro e w' ⟨rfl, rfl⟩
    go_wp2_with fail
    refine (I2.out _).mono ?_
    rintro e w' ⟨rfl, rfl⟩
    go_wp2
    go_ret
    exact ⟨rfl, below_new _ _⟩
theorem spec_cacheok_out (s : ByteArray) (p wd h : Int) (hs : s.size ≤ 1048576) (hno : (p < 0 ∨ (0 ≤ p ∧ (s.size : Int) < p) ∨ (0 ≤ p ∧ p ≤ (s.size : Int) ∧ h < 0) ∨ (0 ≤ p ∧ p ≤ (s.size : Int) ∧ 0 ≤ h ∧ 56 < h) ∨ (0 ≤ p ∧ p ≤ (s.size : Int) ∧ 0 ≤ h ∧ h ≤ 56 ∧ 8 * p < h))) (w : World) :
    Calls Try.prog 19 #[cv s p wd h] w fun e w' => e = .returned (.bool false) ∧ Below w.heap.size w w' := by
  refine spec_cacheok_out1 s p wd h _ _ rfl rfl ?_ w
  simp
  omega

set_option maxRecDepth 100000 in
set_option maxHeartbeats 800000 in
theorem spec_cacheok_in (s : ByteArray) (P H : Nat) (wd : Int) (hs : s.size ≤ 1048576) (hP : P ≤ s.size) (hH : H ≤ 56) (hHP : H ≤ 8 * P) (w : World) :
    Calls Try.prog 19 #[cv s P wd H] w fun e w' => e = .returned (.bool (wd == (rdN s (8 * P - H) H : Int))) ∧ Below w.heap.size w w' := by
  have I1 := Lib.hid (l1In_any P 0 (s.size : Int))
  have I2 := Lib.hid (l1In_any H 0 56)
  have q1 : decide (0 ≤ (P : Int)) = true := by simp
  have q2 : decide ((P : Int) ≤ (s.size : Int)) = true := by simp; omega
  have q3 : decide (0 ≤ (H : Int)) = true := by simp
  have q4 : decide ((H : Int) ≤ 56) = true := by simp; omega
  have q5 : decide (8 * (P : Int) < (H : Int)) = false := by simp; omega
  rw [q1, q2] at I1
  rw [q3, q4] at I2
  clear q1 q2 q3 q4
  unfold cv
  go_enter Try.func19, Try.ntmps19
  go_wp2_with fail
  refine (I1.out _).mono ?_
  rintro e w' ⟨rfl, rfl⟩
  go_wp2_with fail
  refine (I2.out _).mono ?_
  rintro e w' ⟨rfl, rfl⟩
  go_wp2
  go_loop [3, 4] (fun v i => ∃ k : Nat, k ≤ H ∧ i = .int .i64 (8 * (P : Int) - (H : Int) + (k : Int)) ∧ v = .int .i64 (rdN s (8 * P - H) k)) (fun _ i => 8 * P - (intOf i).toNat)
  case atStart => exact ⟨0, Nat.zero_le _, by simp, rfl⟩
  case round =>
    obtain ⟨k, hk, rfl, rfl⟩ := hrel
    by_cases hlt : k < H
    · have HB := Lib.hid (spec_bitat_in s (8 * P - H + k) hs (by omega))
      have ei : ((8 * P - H + k : Nat) : Int) = 8 * (P : Int) - (H : Int) + (k : Int) := by omega
      rw [ei] at HB
      have hv := rdN_lt' s (8 * P - H) k 56 (by omega)
      have hb := bitN_lt s (8 * P - H + k)
      have hs1 : rdN s (8 * P - H) (k + 1) = 2 * rdN s (8 * P - H) k + bitN s (8 * P - H + k) := rfl
      obtain ⟨v, hvd⟩ : ∃ v, v = rdN s (8 * P - H) k := ⟨_, rfl⟩
      obtain ⟨b, hbd⟩ : ∃ b, b = bitN s (8 * P - H + k) := ⟨_, rfl⟩
      rw [← hvd, ← hbd] at hs1
      rw [← hbd] at HB hb
      rw [← hvd] at hv ⊢
      have HS := Lib.hid hs1
      clear hs1 hvd hbd ei
      go_wp2_with fail
      refine (HB.out _).mono ?_
      rintro e w' ⟨rfl, rfl⟩
      go_wp2
      go_round
      case rel => exact ⟨k + 1, by omega, by go_num, by rw [HS.out]; congr 1; omega⟩
      case measure => simp [intOf]; omega
    · obtain rfl : k = H := by omega
      go_wp2
      go_ret
      exact ⟨rfl, below_new _ _⟩

theorem spec_cacheok_any (s : ByteArray) (p wd h : Int) (hs : s.size ≤ 1048576) (w : World) :
    Calls Try.prog 19 #[cv s p wd h] w fun e w' => e = .returned (.bool (ckOk s p wd h)) ∧ Below w.heap.size w w' := by
  rcases ckOk_ways s p wd h with ⟨h1, h2⟩ | ⟨P, H, rfl, rfl, h1, h2, h3, h4⟩
  · rw [h2]; exact spec_cacheok_out s p wd h hs h1 w
  · rw [h4]; exact spec_cacheok_in s P H wd hs h1 h2 h3 w
end Go.Proofs.Ytgacldhpohnpaaa

namespace Go.Proofs.Ytgacldhpohnpaaa
open Go.RowKit
set_option linter.unusedVariables false

/-- Two blocks that the call has made, behind a call. -/
theorem boxes_kept {w w' : World} {cs ds : Array Value} {T U : TypeId} (hb : Below ((w.alloc (.cells cs T)).alloc (.cells ds U)).heap.size ((w.alloc (.cells cs T)).alloc (.cells ds U)) w') :
    w'.heap[w.heap.size]? = some (.cells cs T (0, 0)) ∧ w'.heap[w.heap.size + 1]? = some (.cells ds U (0, 0)) := by
  have h1 : ((w.alloc (.cells cs T)).alloc (.cells ds U)).heap[w.heap.size]? = some (.cells cs T (0, 0)) := by
    rw [Below.heap_alloc _ _ _ (by simp)]; exact heap_alloc_new w _
  have h2 : ((w.alloc (.cells cs T)).alloc (.cells ds U)).heap[w.heap.size + 1]? = some (.cells ds U (0, 0)) := by
    have := heap_alloc_new (w.alloc (.cells cs T)) (.cells ds U)
    simpa using this
  exact ⟨cell_kept h1 hb, cell_kept h2 hb⟩
/-- All cells of a cache's block written. -/
def put4 (w : World) (g : Nat) (s : ByteArray) (p wd h : Int) : World := (((w.setCell ⟨g, 0, none⟩ (.string s)).setCell ⟨g, 1, none⟩ (.int .i64 p)).setCell ⟨g, 2, none⟩ (.int .i64 wd)).setCell ⟨g, 3, none⟩ (.int .i64 h)
theorem put4_block {w : World} {g : Nat} {u v x y : Value} {T : TypeId} (h : w.heap[g]? = some (.cells #[u, v, x, y] T (0, 0))) (s : ByteArray) (p wd k : Int) :
    (put4 w g s p wd k).heap[g]? = some (.cells #[.string s, .int .i64 p, .int .i64 wd, .int .i64 k] T (0, 0)) := by
  unfold put4
  rw [heap_setCell_same _ g 3 _ _ _ (heap_setCell_same _ g 2 _ _ _ (heap_setCell_same _ g 1 _ _ _ (heap_setCell_same w g 0 _ _ _ h)))]
  rfl
theorem put4_below {w w' : World} (h : Below w.heap.size w w') (g : Nat) (hg : w.heap.size ≤ g) (s : ByteArray) (p wd k : Int) : Below w.heap.size w (put4 w' g s p wd k) :=
  Below.setCell (Below.setCell (Below.setCell (Below.setCell h (p := ⟨g, 0, none⟩) hg _) (p := ⟨g, 1, none⟩) hg _) (p := ⟨g, 2, none⟩) hg _) (p := ⟨g, 3, none⟩) hg _
theorem put4_other {w : World} {g k : Nat} (h : k ≠ g) (s : ByteArray) (p wd x : Int) : (put4 w g s p wd x).heap[k]? = w.heap[k]? := by
  unfold put4
  rw [heap_setCell_other _ _ _ _ h, heap_setCell_other _ _ _ _ h, heap_setCell_other _ _ _ _ h, heap_setCell_other _ _ _ _ h]
/-- No cell of a block without the mark is frozen. -/
theorem frozen4 {w : World} {g : Nat} {u v x y : Value} {T : TypeId} (h : w.heap[g]? = some (.cells #[u, v, x, y] T (0, 0))) :
    w.frozen? ⟨g, 0, none⟩ = false ∧ w.frozen? ⟨g, 1, none⟩ = false ∧ w.frozen? ⟨g, 2, none⟩ = false ∧ w.frozen? ⟨g, 3, none⟩ = false :=
  ⟨frozen_of_row w g 0 _ _ h, frozen_of_row w g 1 _ _ h, frozen_of_row w g 2 _ _ h, frozen_of_row w g 3 _ _ h⟩
/-- The end of a call that answers a cache out of its result's block. -/
theorem out4 {w w2 : World} {T : TypeId} {g : Nat} {u v x y : Value} (s : ByteArray) (p wd k : Int) (h : w2.heap[g]? = some (.cells #[u, v, x, y] T (0, 0))) (hg : w.heap.size ≤ g) (hb : Below w.heap.size w w2) : ∃ w3, w3 = (((w2.setCell ⟨g, 0, none⟩ (.string s)).setCell ⟨g, 1, none⟩ (.int .i64 p)).setCell ⟨g, 2, none⟩ (.int .i64 wd)).setCell ⟨g, 3, none⟩ (.int .i64 k) ∧
      w3.cell? ⟨g, 0, none⟩ = some (.string s) ∧ w3.cell? ⟨g, 1, none⟩ = some (.int .i64 p) ∧ w3.cell? ⟨g, 2, none⟩ = some (.int .i64 wd) ∧ w3.cell? ⟨g, 3, none⟩ = some (.int .i64 k) ∧ Below w.heap.size w w3 := by
  obtain ⟨a0, a1, a2, a3⟩ := cells4 (put4_block h s p wd k)
  exact ⟨_, rfl, a0, a1, a2, a3, put4_below hb g hg s p wd k⟩

/-- Three cells of a block written. -/
theorem upd3_block {w : World} {g : Nat} {u0 u1 u2 u3 : Value} {T : TypeId} (h : w.heap[g]? = some (.cells #[u0, u1, u2, u3] T (0, 0))) (x y z : Value) :
    (((w.setCell ⟨g, 2, none⟩ x).setCell ⟨g, 1, none⟩ y).setCell ⟨g, 3, none⟩ z).drew.heap[g]? = some (.cells #[u0, y, x, z] T (0, 0)) := by
  show (((w.setCell ⟨g, 2, none⟩ x).setCell ⟨g, 1, none⟩ y).setCell ⟨g, 3, none⟩ z).heap[g]? = _
  rw [heap_setCell_same _ g 3 _ _ _ (heap_setCell_same _ g 1 _ _ _ (heap_setCell_same w g 2 _ _ _ h))]
  rfl
theorem upd3_other {w : World} {g k : Nat} (h : k ≠ g) {x y z : Value} : (((w.setCell ⟨g, 2, none⟩ x).setCell ⟨g, 1, none⟩ y).setCell ⟨g, 3, none⟩ z).drew.heap[k]? = w.heap[k]? := by
  show (((w.setCell ⟨g, 2, none⟩ x).setCell ⟨g, 1, none⟩ y).setCell ⟨g, 3, none⟩ z).heap[k]? = _
  rw [heap_setCell_other _ _ _ _ h, heap_setCell_other _ _ _ _ h, heap_setCell_other _ _ _ _ h]
theorem upd3_below {w w' : World} (h : Below w.heap.size w w') (g : Nat) (hg : w.heap.size ≤ g) (x y z : Value) : Below w.heap.size w (((w'.setCell ⟨g, 2, none⟩ x).setCell ⟨g, 1, none⟩ y).setCell ⟨g, 3, none⟩ z).drew :=
  (Below.setCell (Below.setCell (Below.setCell h (p := ⟨g, 2, none⟩) hg _) (p := ⟨g, 1, none⟩) hg _) (p := ⟨g, 3, none⟩) hg _).drew

theorem rf_step (s : ByteArray) (a P Q : Nat) (h1 : P ≤ Q) (h2 : Q ≤ rfP s a P) (hA : At s a Q) : (Q < rfP s a P → 8 * Q - a ≤ 48 ∧ Q < s.size) ∧ (Q = rfP s a P → 8 * Q - a ≤ 48 → s.size ≤ Q) := by
  obtain ⟨b1, b2, b3⟩ := hA
  unfold rfP at *
  split at h2 <;> rename_i hc
  · rw [if_pos hc]; omega
  · rw [if_neg hc]; omega

set_option maxRecDepth 100000 in
set_option maxHeartbeats 800000 in
theorem impl_refill_out (s : ByteArray) (p wd h : Int) (hs : s.size ≤ 1048576) (hno : ckOk s p wd h = false) (w : World) :
    Calls Try.prog 125 #[cv s p wd h] w fun e w' => e = .returned (cv s p wd h) ∧ Below w.heap.size w w' := by
  have HO := Lib.hid (impl_cacheok_any s p wd h hs)
  rw [hno] at HO
  clear hno
  unfold cv at *
  go_enter Try.func125, Try.ntmps125
  go_wp2_with fail
  refine (HO.out _).mono ?_
  rintro e w1 ⟨rfl, hb1⟩
  obtain ⟨k0, k1⟩ := boxes_kept hb1
  obtain ⟨c0, c1, c2, c3⟩ := cells4 k0
  obtain ⟨f0, f1, f2, f3⟩ := frozen4 k1
  obtain ⟨d0, d1, d2, d3⟩ := cells4 k1
  obtain ⟨w3, hw3, e0, e1, e2, e3, hb3⟩ := out4 s p wd h k1 (Nat.le_succ _) (below_step ((below_new w _).alloc (below_new w _).size _) hb1)
  have HW := Lib.hid hw3; have HB := Lib.hid hb3; have E0 := Lib.hid e0; have E1 := Lib.hid e1; have E2 := Lib.hid e2; have E3 := Lib.hid e3
  clear hw3 hb3 e0 e1 e2 e3 hb1 k0 k1
  go_wp2
  rw [← HW.out]
  have e0 := E0.out; have e1 := E1.out; have e2 := E2.out; have e3 := E3.out
  exact bodyPost_ret (v := .agg #[.string s, .int .i64 p, .int .i64 wd, .int .i64 h]) (by simp [results, Try.results125, go_sem, e0, e1, e2, e3]) rfl ⟨rfl, HB.out⟩

set_option maxRecDepth 100000 in
set_option maxHeartbeats 800000 in
theorem impl_refill_in (s : ByteArray) (a P : Nat) (hs : s.size ≤ 1048576) (hA : At s a P) (w : World) :
    Calls Try.prog 125 #[cw s a P] w fun e w' => e = .returned (cw s a (rfP s a P)) ∧ Below w.heap.size w w' := by
  have HO := Lib.hid (impl_cacheok_any s (P : Int) (rdN s a (8 * P - a) : Int) ((8 * P - a : Nat) : Int) hs)
  rw [ckOk_of s a P hA] at HO
  have hAt := Lib.hid (rfP_at s a P hA)
  have hst := Lib.hid (rf_step s a P)
  have hA' := Lib.hid hA
  clear hA
  obtain ⟨N, hN⟩ : ∃ N, N = rfP s a P := ⟨_, rfl⟩
  rw [← hN] at hAt hst ⊢
  clear hN
  unfold cw cv at *
  go_enter Try.func125, Try.ntmps125
  go_wp2_with fail
  refine (HO.out _).mono ?_
  rintro e w1 ⟨rfl, hb1⟩
  obtain ⟨k0, k1⟩ := boxes_kept hb1
  have K0 := Lib.hid k0; have K1 := Lib.hid k1
  have B1 := Lib.hid (below_step ((below_new w _).alloc (below_new w _).size _) hb1)
  clear hb1 k0 k1
  go_wp2
  go_loopw [] (fun wr => ∃ Q : Nat, P ≤ Q ∧ Q ≤ N ∧ At s a Q ∧ wr.heap[w.heap.size]? = some (.cells #[.string s, .int .i64 Q, .int .i64 (rdN s a (8 * Q - a)), .int .i64 ((8 * Q - a : Nat) : Int)] 25 (0, 0)) ∧
      wr.heap[w.heap.size + 1]? = some (.cells #[.string ⟨#[]⟩, .int .i64 0, .int .i64 0, .int .i64 0] 25 (0, 0)) ∧ Below w.heap.size w wr)
    (fun wr => N - (intOf ((wr.cell? ⟨w.heap.size, 1, none⟩).getD undef)).toNat)
  case atStart => exact ⟨P, Nat.le_refl _, hAt.out.1, hA'.out, K0.out, K1.out, B1.out⟩
  case round =>
    obtain ⟨Q, hPQ, hQN, hAQ, k0, k1, hb⟩ := hrel
    have hstep := hst.out Q hPQ hQN hAQ
    obtain ⟨b1, b2, b3⟩ := hAQ
    obtain ⟨X, hX⟩ : ∃ X, X = 8 * Q - a := ⟨_, rfl⟩
    rw [← hX] at k0 hstep b3
    obtain ⟨c0, c1, c2, c3⟩ := cells4 k0
    by_cases hlt : Q < N
    · obtain ⟨g1, g2⟩ := hstep.1 hlt
      obtain ⟨f0, f1, f2, f3⟩ := frozen4 k0
      have hmore := rdN_more s a X Q (by omega)
      have hv := rdN_lt' s a X 48 (by omega)
      have hb9 := byteAt_lt s Q
      have hix := index_at Try.underlying9 s Q g2
      obtain ⟨v, hvd⟩ : ∃ v, v = rdN s a X := ⟨_, rfl⟩
      obtain ⟨b, hbd⟩ : ∃ b, b = byteAt s Q := ⟨_, rfl⟩
      rw [← hvd, ← hbd] at hmore
      rw [← hvd] at hv c2 k0
      rw [← hbd] at hb9 hix
      have HS := Lib.hid hmore; have K0 := Lib.hid k0; have K1 := Lib.hid k1; have HB := Lib.hid hb; have HX := Lib.hid hX
      clear hmore hvd hbd k0 k1 hb hX hstep
      have hor : bits .or .i64 ((v : Int) * 256) (b : Int) = (v : Int) * 256 + b := by
        rw [or_i64 8 _ _ (by omega) (by omega) (by omega) (by omega) (by omega) (by decide)]
      go_wp2
      go_region
      go_wp2
      have hnew := upd3_block K0.out (.int .i64 ((v : Int) * 256 + b)) (.int .i64 ((Q : Int) + 1)) (.int .i64 ((X : Int) + 8))
      have hne : w.heap.size + 1 ≠ w.heap.size := by omega
      go_roundw
      case rel =>
        have hX2 := HX.out
        refine ⟨Q + 1, by omega, by omega, ⟨by omega, by omega, by omega⟩, ?_, ?_, ?_⟩
        · rw [hnew, show 8 * (Q + 1) - a = X + 8 by have := HX.out; omega, HS.out]
          rfl
        · rw [upd3_other hne]; exact K1.out
        · exact upd3_below HB.out _ (Nat.le_refl _) _ _ _
      case measure =>
        rw [(cells4 hnew).2.1, c1]
        simp [intOf]
        omega
    · obtain rfl : Q = N := by omega
      have g1 := hstep.2 rfl
      obtain ⟨f0, f1, f2, f3⟩ := frozen4 k1
      obtain ⟨d0, d1, d2, d3⟩ := cells4 k1
      obtain ⟨v, hvd⟩ : ∃ v, v = rdN s a X := ⟨_, rfl⟩
      rw [← hvd] at c2 k0
      have HX := Lib.hid hX; have HV := Lib.hid hvd
      obtain ⟨w3, hw3, e0, e1, e2, e3, hb3⟩ := out4 s (Q : Int) (v : Int) (X : Int) k1 (Nat.le_succ _) hb
      have HW := Lib.hid hw3; have HB := Lib.hid hb3; have E0 := Lib.hid e0; have E1 := Lib.hid e1; have E2 := Lib.hid e2; have E3 := Lib.hid e3
      clear hw3 hb3 e0 e1 e2 e3 hb k0 k1 hstep hX hvd
      by_cases hx : X ≤ 48
      · have g2 : (s.size : Int) ≤ (Q : Int) := by have := g1 hx; omega
        clear g1
        go_wp2
        rw [← HW.out]
        have e0 := E0.out; have e1 := E1.out; have e2 := E2.out; have e3 := E3.out
        exact bodyPost_ret (v := .agg #[.string s, .int .i64 Q, .int .i64 v, .int .i64 X]) (by simp [results, Try.results125, go_sem, e0, e1, e2, e3]) rfl ⟨by rw [← HX.out, ← HV.out], HB.out⟩
      · have hx' : (48 : Int) < (X : Int) := by omega
        clear g1
        go_wp2
        rw [← HW.out]
        have e0 := E0.out; have e1 := E1.out; have e2 := E2.out; have e3 := E3.out
        exact bodyPost_ret (v := .agg #[.string s, .int .i64 Q, .int .i64 v, .int .i64 X]) (by simp [results, Try.results125, go_sem, e0, e1, e2, e3]) rfl ⟨by rw [← HX.out, ← HV.out], HB.out⟩
set_option maxRecDepth 100000 in
set_option maxHeartbeats 800000 in
theorem spec_refill_out (s : ByteArray) (p wd h : Int) (hs : s.size ≤ 1048576) (hno : ckOk s p wd h = false) (w : World) :
    Calls Try.prog 63 #[cv s p wd h] w fun e w' => e = .returned (cv s p wd h) ∧ Below w.heap.size w w' := by
  have HO := Lib.hid (spec_cacheok_any s p wd h hs)
  rw [hno] at HO
  clear hno
  unfold cv at *
  go_enter Try.func63, Try.ntmps63
  go_wp2_with fail
  refine (HO.out _).mono ?_
  rintro e w1 ⟨rfl, hb1⟩
  obtain ⟨k0, k1⟩ := boxes_kept hb1
  obtain ⟨c0, c1, c2, c3⟩ := cells4 k0
  obtain ⟨f0, f1, f2, f3⟩ := frozen4 k1
  obtain ⟨d0, d1, d2, d3⟩ := cells4 k1
  obtain ⟨w3, hw3, e0, e1, e2, e3, hb3⟩ := out4 s p wd h k1 (Nat.le_succ _) (below_step ((below_new w _).alloc (below_new w _).size _) hb1)
  have HW := Lib.hid hw3; have HB := Lib.hid hb3; have E0 := Lib.hid e0; have E1 := Lib.hid e1; have E2 := Lib.hid e2; have E3 := Lib.hid e3
  clear hw3 hb3 e0 e1 e2 e3 hb1 k0 k1
  go_wp2
  rw [← HW.out]
  have e0 := E0.out; have e1 := E1.out; have e2 := E2.out; have e3 := E3.out
  exact bodyPost_ret (v := .agg #[.string s, .int .i64 p, .int .i64 wd, .int .i64 h]) (by simp [results, Try.results63, go_sem, e0, e1, e2, e3]) rfl ⟨rfl, HB.out⟩

set_option maxRecDepth 100000 in
set_option maxHeartbeats 800000 in
theorem spec_refill_in (s : ByteArray) (a P : Nat) (hs : s.size ≤ 1048576) (hA : At s a P) (w : World) :
    Calls Try.prog 63 #[cw s a P] w fun e w' => e = .returned (cw s a (rfP s a P)) ∧ Below w.heap.size w w' := by
  have HO := Lib.hid (spec_cacheok_any s (P : Int) (rdN s a (8 * P - a) : Int) ((8 * P - a : Nat) : Int) hs)
  rw [ckOk_of s a P hA] at HO
  have hAt := Lib.hid (rfP_at s a P hA)
  have hst := Lib.hid (rf_step s a P)
  have hA' := Lib.hid hA
  clear hA
  obtain ⟨N, hN⟩ : ∃ N, N = rfP s a P := ⟨_, rfl⟩
  rw [← hN] at hAt hst ⊢
  clear hN
  unfold cw cv at *
  go_enter Try.func63, Try.ntmps63
  go_wp2_with fail
  refine (HO.out _).mono ?_
  rintro e w1 ⟨rfl, hb1⟩
  obtain ⟨k0, k1⟩ := boxes_kept hb1
  have K0 := Lib.hid k0; have K1 := Lib.hid k1
  have B1 := Lib.hid (below_step ((below_new w _).alloc (below_new w _).size _) hb1)
  clear hb1 k0 k1
  go_wp2
  go_loopw [] (fun wr => ∃ Q : Nat, P ≤ Q ∧ Q ≤ N ∧ At s a Q ∧ wr.heap[w.heap.size]? = some (.cells #[.string s, .int .i64 Q, .int .i64 (rdN s a (8 * Q - a)), .int .i64 ((8 * Q - a : Nat) : Int)] 25 (0, 0)) ∧
      wr.heap[w.heap.size + 1]? = some (.cells #[.string ⟨#[]⟩, .int .i64 0, .int .i64 0, .int .i64 0] 25 (0, 0)) ∧ Below w.heap.size w wr)
    (fun wr => N - (intOf ((wr.cell? ⟨w.heap.size, 1, none⟩).getD undef)).toNat)
  case atStart => exact ⟨P, Nat.le_refl _, hAt.out.1, hA'.out, K0.out, K1.out, B1.out⟩
  case round =>
    obtain ⟨Q, hPQ, hQN, hAQ, k0, k1, hb⟩ := hrel
    have hstep := hst.out Q hPQ hQN hAQ
    obtain ⟨b1, b2, b3⟩ := hAQ
    obtain ⟨X, hX⟩ : ∃ X, X = 8 * Q - a := ⟨_, rfl⟩
    rw [← hX] at k0 hstep b3
    obtain ⟨c0, c1, c2, c3⟩ := cells4 k0
    by_cases hlt : Q < N
    · obtain ⟨g1, g2⟩ := hstep.1 hlt
      obtain ⟨f0, f1, f2, f3⟩ := frozen4 k0
      have hmore := rdN_more s a X Q (by omega)
      have hv := rdN_lt' s a X 48 (by omega)
      have hb9 := byteAt_lt s Q
      have hix := index_at Try.underlying9 s Q g2
      obtain ⟨v, hvd⟩ : ∃ v, v = rdN s a X := ⟨_, rfl⟩
      obtain ⟨b, hbd⟩ : ∃ b, b = byteAt s Q := ⟨_, rfl⟩
      rw [← hvd, ← hbd] at hmore
      rw [← hvd] at hv c2 k0
      rw [← hbd] at hb9 hix
      have HS := Lib.hid hmore; have K0 := Lib.hid k0; have K1 := Lib.hid k1; have HB := Lib.hid hb; have HX := Lib.hid hX
      clear hmore hvd hbd k0 k1 hb hX hstep
      go_wp2
      go_region
      go_wp2
      have hnew := upd3_block K0.out (.int .i64 ((v : Int) * 256 + b)) (.int .i64 ((Q : Int) + 1)) (.int .i64 ((X : Int) + 8))
      have hne : w.heap.size + 1 ≠ w.heap.size := by omega
      go_roundw
      case rel =>
        have hX2 := HX.out
        refine ⟨Q + 1, by omega, by omega, ⟨by omega, by omega, by omega⟩, ?_, ?_, ?_⟩
        · rw [hnew, show 8 * (Q + 1) - a = X + 8 by have := HX.out; omega, HS.out]
          rfl
        · rw [upd3_other hne]; exact K1.out
        · exact upd3_below HB.out _ (Nat.le_refl _) _ _ _
      case measure =>
        rw [(cells4 hnew).2.1, c1]
        simp [intOf]
        omega
    · obtain rfl : Q = N := by omega
      have g1 := hstep.2 rfl
      obtain ⟨f0, f1, f2, f3⟩ := frozen4 k1
      obtain ⟨d0, d1, d2, d3⟩ := cells4 k1
      obtain ⟨v, hvd⟩ : ∃ v, v = rdN s a X := ⟨_, rfl⟩
      rw [← hvd] at c2 k0
      have HX := Lib.hid hX; have HV := Lib.hid hvd
      obtain ⟨w3, hw3, e0, e1, e2, e3, hb3⟩ := out4 s (Q : Int) (v : Int) (X : Int) k1 (Nat.le_succ _) hb
      have HW := Lib.hid hw3; have HB := Lib.hid hb3; have E0 := Lib.hid e0; have E1 := Lib.hid e1; have E2 := Lib.hid e2; have E3 := Lib.hid e3
      clear hw3 hb3 e0 e1 e2 e3 hb k0 k1 hstep hX hvd
      by_cases hx : X ≤ 48
      · have g2 : (s.size : Int) ≤ (Q : Int) := by have := g1 hx; omega
        clear g1
        go_wp2
        rw [← HW.out]
        have e0 := E0.out; have e1 := E1.out; have e2 := E2.out; have e3 := E3.out
        exact bodyPost_ret (v := .agg #[.string s, .int .i64 Q, .int .i64 v, .int .i64 X]) (by simp [results, Try.results63, go_sem, e0, e1, e2, e3]) rfl ⟨by rw [← HX.out, ← HV.out], HB.out⟩
      · have hx' : (48 : Int) < (X : Int) := by omega
        clear g1
        go_wp2
        rw [← HW.out]
        have e0 := E0.out; have e1 := E1.out; have e2 := E2.out; have e3 := E3.out
        exact bodyPost_ret (v := .agg #[.string s, .int .i64 Q, .int .i64 v, .int .i64 X]) (by simp [results, Try.results63, go_sem, e0, e1, e2, e3]) rfl ⟨by rw [← HX.out, ← HV.out], HB.out⟩
end Go.Proofs.Ytgacldhpohnpaaa

namespace Go.Proofs.Ytgacldhpohnpaaa
open Go.RowKit
set_option linter.unusedVariables false

/-- A block of the call's own, behind a call. -/
theorem box_kept {w w' : World} {cs : Array Value} {T : TypeId} (hb : Below (w.alloc (.cells cs T)).heap.size (w.alloc (.cells cs T)) w') : w'.heap[w.heap.size]? = some (.cells cs T (0, 0)) := cell_kept (heap_alloc_new w _) hb

set_option maxRecDepth 100000 in
set_option maxHeartbeats 800000 in
theorem impl_placein_out (s : ByteArray) (p wd h : Int) (hs : s.size ≤ 1048576) (hno : ckOk s p wd h = false) (w : World) :
    Calls Try.prog 23 #[cv s p wd h] w fun e w' => e = .returned (.int .i64 (-1)) ∧ Below w.heap.size w w' := by
  have HO := Lib.hid (impl_cacheok_any s p wd h hs)
  rw [hno] at HO
  clear hno
  unfold cv at *
  go_enter Try.func23, Try.ntmps23
  go_wp2_with fail
  refine (HO.out _).mono ?_
  rintro e w1 ⟨rfl, hb1⟩
  have B := Lib.hid (below_step (below_new w _) hb1); clear hb1
  go_wp2
  go_ret
  exact ⟨rfl, B.out⟩
set_option maxRecDepth 100000 in
set_option maxHeartbeats 800000 in
theorem impl_placein_in (s : ByteArray) (a P : Nat) (hs : s.size ≤ 1048576) (hA : At s a P) (w : World) :
    Calls Try.prog 23 #[cw s a P] w fun e w' => e = .returned (.int .i64 (a : Int)) ∧ Below w.heap.size w w' := by
  have HO := Lib.hid (impl_cacheok_any s (P : Int) (rdN s a (8 * P - a) : Int) ((8 * P - a : Nat) : Int) hs)
  rw [ckOk_of s a P hA] at HO
  obtain ⟨b1, b2, b3⟩ := hA
  unfold cw
  have HX : Hid (8 * (P : Int) - ((8 * P - a : Nat) : Int) = (a : Int)) := Lib.hid (by omega)
  obtain ⟨X, hX⟩ : ∃ X, X = 8 * P - a := ⟨_, rfl⟩
  rw [← hX] at HO b3 HX ⊢
  clear hX
  unfold cv at *
  go_enter Try.func23, Try.ntmps23
  go_wp2_with fail
  refine (HO.out _).mono ?_
  rintro e w1 ⟨rfl, hb1⟩
  obtain ⟨c0, c1, c2, c3⟩ := cells4 (box_kept hb1)
  have B := Lib.hid (below_step (below_new w _) hb1); clear hb1
  go_wp2
  go_ret
  first | exact ⟨rfl, B.out⟩ | exact ⟨by rw [HX.out]; rfl, B.out⟩

set_option maxRecDepth 100000 in
set_option maxHeartbeats 800000 in
theorem impl_settle_in (s : ByteArray) (a P : Nat) (hs : s.size ≤ 1048576) (hA : At s a P) (w : World) :
    Calls Try.prog 103 #[cw s a P] w fun e w' => e = .returned (cw s a ((a + 7) / 8)) ∧ Below w.heap.size w w' := by
  have HO := Lib.hid (impl_cacheok_any s (P : Int) (rdN s a (8 * P - a) : Int) ((8 * P - a : Nat) : Int) hs)
  rw [ckOk_of s a P hA] at HO
  obtain ⟨b1, b2, b3⟩ := hA
  unfold cw
  obtain ⟨X, hX⟩ : ∃ X, X = 8 * P - a := ⟨_, rfl⟩
  obtain ⟨v, hv⟩ : ∃ v, v = rdN s a X := ⟨_, rfl⟩
  have hv9 : v < 2 ^ 56 := by rw [hv]; exact rdN_lt' s a X 56 (by omega)
  have hq1 : (((a + 7) / 8 : Nat) : Int) = (P : Int) - (X : Int) / 8 := by omega
  have hq2 : ((8 * ((a + 7) / 8) - a : Nat) : Int) = (X : Int) - 8 * ((X : Int) / 8) := by omega
  have hcut := rdN_cut s a (8 * ((a + 7) / 8) - a) X (by omega)
  rw [show X - (8 * ((a + 7) / 8) - a) = 8 * (X / 8) by omega, ← hv] at hcut
  rw [← hX, ← hv] at HO
  have HQ1 := Lib.hid hq1; have HQ2 := Lib.hid hq2; have HC := Lib.hid hcut; have HXV := Lib.hid (And.intro hX hv)
  have x9 : X ≤ 56 := by omega
  have x8 : X ≤ 8 * P := by omega
  clear hX hv hq1 hq2 hcut b2 b3
  unfold cv at *
  go_enter Try.func103, Try.ntmps103
  go_wp2_with fail
  rw [← HXV.out.1, ← HXV.out.2]
  refine (HO.out _).mono ?_
  rintro e w1 ⟨rfl, hb1⟩
  obtain ⟨k0, k1⟩ := boxes_kept hb1
  obtain ⟨c0, c1, c2, c3⟩ := cells4 k0
  obtain ⟨f0, f1, f2, f3⟩ := frozen4 k0
  obtain ⟨d0, d1, d2, d3⟩ := cells4 k1
  obtain ⟨g0, g1, g2, g3⟩ := frozen4 k1
  have K0 := Lib.hid k0; have K1 := Lib.hid k1
  have B1 := Lib.hid (below_step ((below_new w _).alloc (below_new w _).size _) hb1)
  clear hb1 k0 k1
  go_wp2
  have hne : w.heap.size + 1 ≠ w.heap.size := by omega
  have hin : (((w1.setCell ⟨w.heap.size, 1, none⟩ (.int .i64 ((P : Int) - (X : Int) / 8))).setCell ⟨w.heap.size, 2, none⟩ (.int .i64 ((v : Int) / 2 ^ (8 * (X / 8))))).setCell ⟨w.heap.size, 3, none⟩ (.int .i64 ((X : Int) - 8 * ((X : Int) / 8)))).heap[w.heap.size + 1]? = some (.cells #[.string ⟨#[]⟩, .int .i64 0, .int .i64 0, .int .i64 0] 25 (0, 0)) := by
    rw [heap_setCell_other _ _ _ _ hne, heap_setCell_other _ _ _ _ hne, heap_setCell_other _ _ _ _ hne]; exact K1.out
  have hb3 : Below w.heap.size w (((w1.setCell ⟨w.heap.size, 1, none⟩ (.int .i64 ((P : Int) - (X : Int) / 8))).setCell ⟨w.heap.size, 2, none⟩ (.int .i64 ((v : Int) / 2 ^ (8 * (X / 8))))).setCell ⟨w.heap.size, 3, none⟩ (.int .i64 ((X : Int) - 8 * ((X : Int) / 8)))) :=
    Below.setCell (Below.setCell (Below.setCell B1.out (p := ⟨w.heap.size, 1, none⟩) (Nat.le_refl _) _) (p := ⟨w.heap.size, 2, none⟩) (Nat.le_refl _) _) (p := ⟨w.heap.size, 3, none⟩) (Nat.le_refl _) _
  obtain ⟨w3, hw3, e0, e1, e2, e3, hb4⟩ := out4 s ((P : Int) - (X : Int) / 8) ((v : Int) / 2 ^ (8 * (X / 8))) ((X : Int) - 8 * ((X : Int) / 8)) hin (Nat.le_succ _) hb3
  rw [← hw3]
  clear hw3
  exact bodyPost_ret (v := .agg #[.string s, .int .i64 ((P : Int) - (X : Int) / 8), .int .i64 ((v : Int) / 2 ^ (8 * (X / 8))), .int .i64 ((X : Int) - 8 * ((X : Int) / 8))]) (by simp [results, Try.results103, go_sem, e0, e1, e2, e3]) rfl ⟨by rw [HQ1.out, HQ2.out, ← HC.out]; norm_cast, hb4⟩
set_option maxRecDepth 100000 in
set_option maxHeartbeats 800000 in
theorem impl_settle_out (s : ByteArray) (p wd h : Int) (hs : s.size ≤ 1048576) (hno : ckOk s p wd h = false) (w : World) :
    Calls Try.prog 103 #[cv s p wd h] w fun e w' => e = .returned (cv s p wd h) ∧ Below w.heap.size w w' := by
  have HO := Lib.hid (impl_cacheok_any s p wd h hs)
  rw [hno] at HO
  clear hno
  unfold cv at *
  go_enter Try.func103, Try.ntmps103
  go_wp2_with fail
  refine (HO.out _).mono ?_
  rintro e w1 ⟨rfl, hb1⟩
  obtain ⟨k0, k1⟩ := boxes_kept hb1
  obtain ⟨c0, c1, c2, c3⟩ := cells4 k0
  obtain ⟨f0, f1, f2, f3⟩ := frozen4 k1
  obtain ⟨d0, d1, d2, d3⟩ := cells4 k1
  obtain ⟨w3, hw3, e0, e1, e2, e3, hb3⟩ := out4 s p wd h k1 (Nat.le_succ _) (below_step ((below_new w _).alloc (below_new w _).size _) hb1)
  have HW := Lib.hid hw3; have HB := Lib.hid hb3; have E0 := Lib.hid e0; have E1 := Lib.hid e1; have E2 := Lib.hid e2; have E3 := Lib.hid e3
  clear hw3 hb3 e0 e1 e2 e3 hb1 k0 k1
  go_wp2
  rw [← HW.out]
  have e0 := E0.out; have e1 := E1.out; have e2 := E2.out; have e3 := E3.out
  exact bodyPost_ret (v := .agg #[.string s, .int .i64 p, .int .i64 wd, .int .i64 h]) (by simp [results, Try.results103, go_sem, e0, e1, e2, e3]) rfl ⟨rfl, HB.out⟩

set_option maxRecDepth 100000 in
set_option maxHeartbeats 800000 in
theorem spec_placein_out (s : ByteArray) (p wd h : Int) (hs : s.size ≤ 1048576) (hno : ckOk s p wd h = false) (w : World) :
    Calls Try.prog 22 #[cv s p wd h] w fun e w' => e = .returned (.int .i64 (-1)) ∧ Below w.heap.size w w' := by
  have HO := Lib.hid (spec_cacheok_any s p wd h hs)
  rw [hno] at HO
  clear hno
  unfold cv at *
  go_enter Try.func22, Try.ntmps22
  go_wp2_with fail
  refine (HO.out _).mono ?_
  rintro e w1 ⟨rfl, hb1⟩
  have B := Lib.hid (below_step (below_new w _) hb1); clear hb1
  go_wp2
  go_ret
  exact ⟨rfl, B.out⟩
set_option maxRecDepth 100000 in
set_option maxHeartbeats 800000 in
theorem spec_placein_in (s : ByteArray) (a P : Nat) (hs : s.size ≤ 1048576) (hA : At s a P) (w : World) :
    Calls Try.prog 22 #[cw s a P] w fun e w' => e = .returned (.int .i64 (a : Int)) ∧ Below w.heap.size w w' := by
  have HO := Lib.hid (spec_cacheok_any s (P : Int) (rdN s a (8 * P - a) : Int) ((8 * P - a : Nat) : Int) hs)
  rw [ckOk_of s a P hA] at HO
  obtain ⟨b1, b2, b3⟩ := hA
  unfold cw
  have HX : Hid (8 * (P : Int) - ((8 * P - a : Nat) : Int) = (a : Int)) := Lib.hid (by omega)
  obtain ⟨X, hX⟩ : ∃ X, X = 8 * P - a := ⟨_, rfl⟩
  rw [← hX] at HO b3 HX ⊢
  clear hX
  unfold cv at *
  go_enter Try.func22, Try.ntmps22
  go_wp2_with fail
  refine (HO.out _).mono ?_
  rintro e w1 ⟨rfl, hb1⟩
  obtain ⟨c0, c1, c2, c3⟩ := cells4 (box_kept hb1)
  have B := Lib.hid (below_step (below_new w _) hb1); clear hb1
  go_wp2
  go_ret
  first | exact ⟨rfl, B.out⟩ | exact ⟨by rw [HX.out]; rfl, B.out⟩

set_option maxRecDepth 100000 in
set_option maxHeartbeats 800000 in
theorem spec_settle_out (s : ByteArray) (p wd h : Int) (hs : s.size ≤ 1048576) (hno : ckOk s p wd h = false) (w : World) :
    Calls Try.prog 76 #[cv s p wd h] w fun e w' => e = .returned (cv s p wd h) ∧ Below w.heap.size w w' := by
  have HO := Lib.hid (spec_cacheok_any s p wd h hs)
  rw [hno] at HO
  clear hno
  unfold cv at *
  go_enter Try.func76, Try.ntmps76
  go_wp2_with fail
  refine (HO.out _).mono ?_
  rintro e w1 ⟨rfl, hb1⟩
  obtain ⟨k0, k1⟩ := boxes_kept hb1
  obtain ⟨c0, c1, c2, c3⟩ := cells4 k0
  obtain ⟨f0, f1, f2, f3⟩ := frozen4 k1
  obtain ⟨d0, d1, d2, d3⟩ := cells4 k1
  obtain ⟨w3, hw3, e0, e1, e2, e3, hb3⟩ := out4 s p wd h k1 (Nat.le_succ _) (below_step ((below_new w _).alloc (below_new w _).size _) hb1)
  have HW := Lib.hid hw3; have HB := Lib.hid hb3; have E0 := Lib.hid e0; have E1 := Lib.hid e1; have E2 := Lib.hid e2; have E3 := Lib.hid e3
  clear hw3 hb3 e0 e1 e2 e3 hb1 k0 k1
  go_wp2
  rw [← HW.out]
  have e0 := E0.out; have e1 := E1.out; have e2 := E2.out; have e3 := E3.out
  exact bodyPost_ret (v := .agg #[.string s, .int .i64 p, .int .i64 wd, .int .i64 h]) (by simp [results, Try.results76, go_sem, e0, e1, e2, e3]) rfl ⟨rfl, HB.out⟩


/-- The word of a block written. -/
theorem upd2_block {w : World} {g : Nat} {u0 u1 u2 u3 : Value} {T : TypeId} (h : w.heap[g]? = some (.cells #[u0, u1, u2, u3] T (0, 0))) (x : Value) :
    (w.setCell ⟨g, 2, none⟩ x).drew.heap[g]? = some (.cells #[u0, u1, x, u3] T (0, 0)) := by
  show (w.setCell ⟨g, 2, none⟩ x).heap[g]? = _
  rw [heap_setCell_same w g 2 _ _ _ h]
  rfl
set_option maxRecDepth 100000 in
set_option maxHeartbeats 1000000 in
theorem l7at_any (s : ByteArray) (a : Nat) (hs : s.size ≤ 1048576) (ha : a ≤ 8 * s.size) (w : World) :
    Calls Try.prog 62 #[.string s, .int .i64 a] w fun e w' => e = .returned (cw s a ((a + 7) / 8)) ∧ Below w.heap.size w w' := by
  unfold cw cv
  obtain ⟨P, hP⟩ : ∃ P, P = (a + 7) / 8 := ⟨_, rfl⟩
  obtain ⟨X, hX⟩ : ∃ X, X = 8 * P - a := ⟨_, rfl⟩
  have hq1 : ((a : Int) + 7) / 8 = (P : Int) := by omega
  have hq2 : 8 * (P : Int) - (a : Int) = (X : Int) := by omega
  have x1 : a + X = 8 * P := by omega
  have x2 : X ≤ 7 := by omega
  have x3 : P ≤ s.size := by omega
  rw [← hP, ← hX]
  have HX1 := Lib.hid x1
  clear hX hP
  go_enter Try.func62, Try.ntmps62
  go_wp2
  clear hq1 hq2 x1
  go_loopw [6] (fun i wr => ∃ k : Nat, k ≤ X ∧ i = .int .i64 ((a : Int) + (k : Int)) ∧ wr.heap[w.heap.size + 1]? = some (.cells #[.string s, .int .i64 P, .int .i64 (rdN s a k), .int .i64 X] 25 (0, 0)) ∧
      wr.heap[w.heap.size]? = some (.cells #[.string ⟨#[]⟩, .int .i64 0, .int .i64 0, .int .i64 0] 25 (0, 0)) ∧ Below w.heap.size w wr)
    (fun i _ => 8 * P - (intOf i).toNat)
  case atStart =>
    obtain ⟨k0, k1⟩ := boxes_kept (w := w) (Below.refl _ _)
    exact ⟨0, Nat.zero_le _, by simp, k1, k0, (below_new w _).alloc (below_new w _).size _⟩
  case round =>
    obtain ⟨k, hk, rfl, k1, k0, hb⟩ := hrel
    obtain ⟨c0, c1, c2, c3⟩ := cells4 k1
    by_cases hlt : k < X
    · obtain ⟨f0, f1, f2, f3⟩ := frozen4 k1
      have HB := Lib.hid (spec_bitat_in s (a + k) hs (by have := HX1.out; omega))
      simp only [Int.natCast_add] at HB
      have hv := rdN_lt' s a k 8 (by omega)
      have hb9 := bitN_lt s (a + k)
      have hs1 : rdN s a (k + 1) = 2 * rdN s a k + bitN s (a + k) := rfl
      obtain ⟨v, hvd⟩ : ∃ v, v = rdN s a k := ⟨_, rfl⟩
      obtain ⟨b, hbd⟩ : ∃ b, b = bitN s (a + k) := ⟨_, rfl⟩
      rw [← hvd, ← hbd] at hs1
      rw [← hbd] at HB hb9
      rw [← hvd] at hv c2 k1
      have HS := Lib.hid hs1; have K0 := Lib.hid k0; have K1 := Lib.hid k1; have HB0 := Lib.hid hb
      have hnew := upd2_block k1 (.int .i64 ((v : Int) * 2 + (b : Int)))
      clear hs1 hvd hbd k0 k1 hb
      have hne : w.heap.size ≠ w.heap.size + 1 := by omega
      have hlt2 : (a : Int) + (k : Int) < 8 * (P : Int) := by have := HX1.out; omega
      go_wp2
      go_region_with (go_at_call 74; refine (HB.out _).mono ?_; rintro e w' ⟨rfl, rfl⟩)
      all_goals go_wp2
      all_goals go_roundw
      all_goals first
        | (refine ⟨k + 1, by omega, by go_num, ?_, ?_, ?_⟩
           · rw [hnew, HS.out, show ((2 * v + b : Nat) : Int) = (v : Int) * 2 + (b : Int) by omega]
           · show (wr.setCell _ _).heap[w.heap.size]? = _
             rw [heap_setCell_other _ _ _ _ hne]; exact K0.out
           · exact (Below.setCell HB0.out (p := ⟨w.heap.size + 1, 2, none⟩) (Nat.le_succ _) _).drew)
        | (simp [intOf]; omega)
    · obtain rfl : k = X := by omega
      obtain ⟨f0, f1, f2, f3⟩ := frozen4 k0
      obtain ⟨d0, d1, d2, d3⟩ := cells4 k0
      obtain ⟨v, hvd⟩ : ∃ v, v = rdN s a k := ⟨_, rfl⟩
      rw [← hvd] at c2
      have HV := Lib.hid hvd
      have HX2 : (a : Int) + (k : Int) = 8 * (P : Int) := by have := HX1.out; omega
      obtain ⟨w3, hw3, e0, e1, e2, e3, hb3⟩ := out4 s (P : Int) (v : Int) (k : Int) k0 (Nat.le_refl _) hb
      have HW := Lib.hid hw3; have HB := Lib.hid hb3; have E0 := Lib.hid e0; have E1 := Lib.hid e1; have E2 := Lib.hid e2; have E3 := Lib.hid e3
      clear hw3 hb3 e0 e1 e2 e3 hb k0 k1 hvd
      go_wp2
      rw [← HW.out]
      have e0 := E0.out; have e1 := E1.out; have e2 := E2.out; have e3 := E3.out
      exact bodyPost_ret (v := .agg #[.string s, .int .i64 P, .int .i64 v, .int .i64 k]) (by simp [results, Try.results62, go_sem, e0, e1, e2, e3]) rfl ⟨by rw [← HV.out], HB.out⟩
set_option maxRecDepth 100000 in
set_option maxHeartbeats 1000000 in
theorem spec_settle_in (s : ByteArray) (a P : Nat) (hs : s.size ≤ 1048576) (hA : At s a P) (w : World) :
    Calls Try.prog 76 #[cw s a P] w fun e w' => e = .returned (cw s a ((a + 7) / 8)) ∧ Below w.heap.size w w' := by
  have HO := Lib.hid (spec_cacheok_any s (P : Int) (rdN s a (8 * P - a) : Int) ((8 * P - a : Nat) : Int) hs)
  rw [ckOk_of s a P hA] at HO
  have HP := Lib.hid (spec_placein_in s a P hs hA)
  obtain ⟨b1, b2, b3⟩ := hA
  have HL := Lib.hid (l7at_any s a hs (by omega))
  unfold cw cv at *
  obtain ⟨X, hX⟩ : ∃ X : Int, X = ((8 * P - a : Nat) : Int) := ⟨_, rfl⟩
  obtain ⟨v, hv⟩ : ∃ v : Int, v = (rdN s a (8 * P - a) : Int) := ⟨_, rfl⟩
  obtain ⟨x, hx⟩ : ∃ x : Int, x = ((8 * ((a + 7) / 8) - a : Nat) : Int) := ⟨_, rfl⟩
  obtain ⟨y, hy⟩ : ∃ y : Int, y = (rdN s a (8 * ((a + 7) / 8) - a) : Int) := ⟨_, rfl⟩
  obtain ⟨z, hz⟩ : ∃ z : Int, z = (((a + 7) / 8 : Nat) : Int) := ⟨_, rfl⟩
  rw [← hX, ← hv] at HO HP
  rw [← hX, ← hv]
  rw [← hx, ← hy, ← hz] at HL ⊢
  clear hX hv hx hy hz b1 b2 b3
  go_enter Try.func76, Try.ntmps76
  go_wp2_with fail
  refine (HO.out _).mono ?_
  rintro e w1 ⟨rfl, hb1⟩
  obtain ⟨k0, k1⟩ := boxes_kept hb1
  have K0 := Lib.hid k0; have K1 := Lib.hid k1
  obtain ⟨c0, c1, c2, c3⟩ := cells4 k0
  have B1 := Lib.hid (below_step ((below_new w _).alloc (below_new w _).size _) hb1)
  clear hb1 k0 k1
  go_wp2
  go_region_with (first | (go_at_call 22; refine (HP.out _).mono ?_; rintro e w2 ⟨rfl, hb2⟩; obtain ⟨i0, i1, i2, i3⟩ := cells4 (@cell_kept w1.drew _ _ _ _ _ K0.out hb2)) | (go_at_call 62; refine (HL.out _).mono ?_; rintro e w3 ⟨rfl, hb3⟩; obtain ⟨d0, d1, d2, d3⟩ := cells4 (cell_kept (@cell_kept w1.drew _ _ _ _ _ K1.out hb2) hb3); obtain ⟨g0, g1, g2, g3⟩ := frozen4 (cell_kept (@cell_kept w1.drew _ _ _ _ _ K1.out hb2) hb3)))
  all_goals
    have hk1 := cell_kept (@cell_kept w1.drew _ _ _ _ _ K1.out hb2) hb3
    obtain ⟨w4, hw4, e0, e1, e2, e3, hb4⟩ := out4 s z y x hk1 (Nat.le_succ _) (below_step (below_step B1.out.drew hb2) hb3)
    rw [← hw4]
    clear hw4 hk1
    go_wp2
    exact bodyPost_ret (v := .agg #[.string s, .int .i64 z, .int .i64 y, .int .i64 x]) (by simp [results, Try.results76, go_sem, e0, e1, e2, e3]) rfl ⟨rfl, hb4⟩
end Go.Proofs.Ytgacldhpohnpaaa
