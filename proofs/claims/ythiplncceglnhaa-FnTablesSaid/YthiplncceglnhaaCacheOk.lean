/-
  Contracts of the cache's checks, in both texts. Condition: the string is no longer than 1048576 bytes (the laws ask no more).
-/
import Derived.Test.YthiplncceglnhaaCacheM
import Derived.Deep.RegionHeld3
namespace Go.Proofs.Ythiplncceglnhaa
open Go.RowKit
set_option linter.unusedVariables false

/-- `s[d:]` where it is there. -/
theorem cut_from {P : Program} {T : TypeId} (hs : P.underlying T = some .string) (s : ByteArray) (k : Nat) (x : Int) (hx : x = (k : Int)) (hk : k ≤ s.size) (w : World) :
    (Instr.slice T (.string s) (some (.int .i64 x)) none none).run P w = .ok (.string (bs (s.data.toList.drop k))) w := by
  subst hx
  rw [run_slice_string_from_if w T s .i64 (k : Int) hs, if_pos ⟨by omega, by omega⟩]
  congr 3
  apply ByteArray.ext
  apply Array.ext'
  simp [bs, ByteArray.data_extract]
  exact List.take_of_length_le (by simp)
theorem byteAt_drop (s : ByteArray) (k j : Nat) : byteAt (bs (s.data.toList.drop k)) j = byteAt s (k + j) := by
  simp [byteAt, bs, List.getD_eq_getElem?_getD]
theorem byteAt_take (s : ByteArray) (k j : Nat) (h : j < k) : byteAt (bs (s.data.toList.take k)) j = byteAt s j := by
  simp [byteAt, bs, List.getD_eq_getElem?_getD, h]
/-- `[]byte(s)`: a new row of the string's bytes. -/
theorem conv_str {P : Program} {S T E : TypeId} (hs : P.underlying S = some .string) (hd : P.underlying T = some (.slice E)) (he : P.underlying E = some (.int .u8)) (s : ByteArray) (w : World) :
    ∃ (cap : Nat) (w' : World), (convert S T (.string s)).run P w = .ok (.slice (some ⟨w.heap.size, 0, none⟩) s.size cap) w' ∧ (∀ j, j < s.size → w'.cell? ⟨w.heap.size, j, none⟩ = some (.int .u8 (byteAt s j : Int))) ∧ Below w.heap.size w w' := by
  refine ⟨_, _, run_bytes_of_string w S T E s hs hd he, fun j hj => ?_, (Below.refl _ _).drew.alloc (Nat.le_refl _) _⟩
  have hb : (w.drew.alloc (.cells (bytesRow s (grownCap w s.size 0 E)) E ((bytesRow s (grownCap w s.size 0 E)).size, (bytesRow s (grownCap w s.size 0 E)).size + 1))).heap[w.heap.size]? = some (.cells (bytesRow s (grownCap w s.size 0 E)) E ((bytesRow s (grownCap w s.size 0 E)).size, (bytesRow s (grownCap w s.size 0 E)).size + 1)) := heap_alloc_new w.drew _
  have h1 := cell_of_row _ _ j _ _ _ hb
  rw [h1]
  unfold bytesRow
  rw [Array.getElem?_append_left (by simpa using hj), byteAt_eq s j hj]
  simp [hj]
  rfl
theorem rdN_bytes (s s' : ByteArray) (d : Nat) (h : ∀ j, byteAt s' j = byteAt s (d + j)) (a : Nat) : ∀ k, rdN s' a k = rdN s (8 * d + a) k
  | 0 => rfl
  | k + 1 => by
    have e1 : (8 * d + a + k) / 8 = d + (a + k) / 8 := by omega
    have e2 : (8 * d + a + k) % 8 = (a + k) % 8 := by omega
    rw [rdN, rdN, rdN_bytes s s' d h a k, bitN, bitN, h, e1, e2]
theorem rdN_take (s : ByteArray) (P a : Nat) : ∀ k, a + k ≤ 8 * P → rdN (bs (s.data.toList.take P)) a k = rdN s a k
  | 0, _ => rfl
  | k + 1, hk => by
    rw [rdN, rdN, rdN_take s P a k (by omega), bitN, bitN, byteAt_take s P _ (by omega)]

/-- `x & (1<<n - 1)`. -/
theorem mask_n (x n : Nat) (hx : x < 2 ^ 63) (hn : n ≤ 56) : bits .and .i64 (x : Int) ((2 : Int) ^ n - 1) = ((x % 2 ^ n : Nat) : Int) := by
  rw [and_i64 n _ _ rfl (by omega) (by omega) (by exact_mod_cast hx)]
  norm_cast
theorem pow_le56 (n : Nat) (hn : n ≤ 56) : (1 : Int) ≤ 2 ^ n ∧ (2 : Int) ^ n ≤ 72057594037927936 := by
  have h1 : 1 ≤ 2 ^ n := Nat.one_le_two_pow
  have h2 : (2 : Nat) ^ n ≤ 2 ^ 56 := Nat.pow_le_pow_right (by decide) hn
  have e : (2 : Int) ^ n = ((2 ^ n : Nat) : Int) := (Int.natCast_pow 2 n).symm
  rw [e]
  generalize 2 ^ n = q at *
  omega

set_option maxRecDepth 100000 in
set_option maxHeartbeats 400000 in
theorem lowbits_any (x n : Nat) (hx : x < 2 ^ 63) (hn : n ≤ 56) (w : World) :
    Calls Try.prog 67 #[.int .i64 x, .int .i64 n] w fun e w' => e = .returned (.int .i64 ((x % 2 ^ n : Nat) : Int)) ∧ w = w' := by
  have hm := mask_n x n hx hn
  obtain ⟨p1, p2⟩ := pow_le56 n hn
  obtain ⟨p, hp⟩ : ∃ p : Int, p = 2 ^ n := ⟨_, rfl⟩
  have h1 : wrap64 (2 ^ n) = p := by rw [← hp]; unfold wrap64; omega
  rw [← hp] at hm p1 p2
  clear hp
  go_enter Try.func67, Try.ntmps67
  go_wp2
  go_ret
  exact ⟨rfl, rfl⟩
set_option maxRecDepth 100000 in
set_option maxHeartbeats 400000 in
theorem lastbits_any (s : ByteArray) (n : Nat) (hs : s.size ≤ 1048576) (hn : n ≤ 56) (hns : n ≤ 8 * s.size) (w : World) :
    Calls Try.prog 62 #[.string s, .int .i64 n] w fun e w' => e = .returned (.int .i64 (rdN s (8 * s.size - n) n)) ∧ Below w.heap.size w w' := by
  have hc := cut_from Try.underlying9 s (s.size - (n + 7) / 8) ((s.size : Int) - ((n : Int) + 7) / 8) (by omega) (by omega)
  obtain ⟨k, hk⟩ : ∃ k, k = (n + 7) / 8 := ⟨_, rfl⟩
  obtain ⟨u, hu⟩ : ∃ u, u = bs (s.data.toList.drop (s.size - k)) := ⟨_, rfl⟩
  have husz : u.size = k := by rw [hu, bs_size]; simp; omega
  have hub : ∀ j, byteAt u j = byteAt s (s.size - k + j) := fun j => by rw [hu, byteAt_drop]
  rw [← hk, ← hu] at hc
  have hend : rdN u 0 (8 * k) % 2 ^ n = rdN s (8 * s.size - n) n := by
    rw [rdN_bytes s u (s.size - k) hub 0 (8 * k)]
    have := rdN_low s (8 * (s.size - k) + 0) (8 * k - n) (8 * k) (by omega)
    rw [show 8 * k - (8 * k - n) = n by omega, show 8 * (s.size - k) + 0 + (8 * k - n) = 8 * s.size - n by omega] at this
    exact this
  have hk7 : k ≤ 7 := by omega
  have hk8 : n ≤ 8 * k := by omega
  have hend' := Lib.hid hend
  obtain ⟨cap, w1, hcv, hcell, hbel⟩ := conv_str Try.underlying9 Try.underlying22 Try.underlying5 u w
  have hcell' := Lib.hid hcell
  have hbel' := Lib.hid hbel
  clear hcell hbel hend hub hu hk
  go_enter Try.func62, Try.ntmps62
  go_wp2
  go_loop [5, 18] (fun v i => ∃ j : Nat, j ≤ k ∧ i = .int .i64 j ∧ v = .int .i64 (rdN u 0 (8 * j))) (fun _ i => k - (intOf i).toNat)
  case atStart => exact ⟨0, Nat.zero_le _, rfl, rfl⟩
  case round =>
    obtain ⟨j, hj, rfl, rfl⟩ := hrel
    by_cases hlt : j < k
    · have hcj := hcell'.out j (by omega)
      have hmore := rdN_more u 0 (8 * j) j (by omega)
      have hv := rdN_lt' u 0 (8 * j) 48 (by omega)
      have hb := byteAt_lt u j
      obtain ⟨v, hvd⟩ : ∃ v, v = rdN u 0 (8 * j) := ⟨_, rfl⟩
      obtain ⟨b, hbd⟩ : ∃ b, b = byteAt u j := ⟨_, rfl⟩
      rw [← hvd, ← hbd] at hmore
      rw [← hvd] at hv ⊢
      rw [← hbd] at hb hcj
      have HS := Lib.hid hmore
      clear hmore hvd hbd
      have hor : bits .or .i64 ((v : Int) * 256) (b : Int) = ((v * 256 + b : Nat) : Int) := by
        rw [or_i64 8 _ _ (by omega) (by omega) (by omega) (by omega) (by omega) (by decide)]
        omega
      go_wp2
      go_round
      case rel => exact ⟨j + 1, by omega, by go_num, by rw [show 8 * (j + 1) = 8 * j + 8 by omega, HS.out]; congr 1⟩
      case measure => simp [intOf]; omega
    · obtain rfl : j = k := by omega
      have LB := Lib.hid (lowbits_any (rdN u 0 (8 * j)) n (by have := rdN_lt' u 0 (8 * j) 56 (by omega); omega) hn)
      rw [hend'.out] at LB
      go_wp2_with fail
      refine (LB.out _).mono ?_
      rintro e w' ⟨rfl, rfl⟩
      go_wp2
      go_ret
      exact ⟨rfl, hbel'.out⟩

/-- The ways in which a cache is not valid by its numbers alone. -/
theorem ckOk_ways (s : ByteArray) (p wd h : Int) : (p < 0 ∨ (0 ≤ p ∧ (s.size : Int) < p) ∨ (0 ≤ p ∧ p ≤ (s.size : Int) ∧ h < 0) ∨ (0 ≤ p ∧ p ≤ (s.size : Int) ∧ 0 ≤ h ∧ 56 < h) ∨ (0 ≤ p ∧ p ≤ (s.size : Int) ∧ 0 ≤ h ∧ h ≤ 56 ∧ 8 * p < h)) ∧ ckOk s p wd h = false ∨
    ∃ P H : Nat, p = P ∧ h = H ∧ P ≤ s.size ∧ H ≤ 56 ∧ H ≤ 8 * P ∧ ckOk s p wd h = (wd == (rdN s (8 * P - H) H : Int)) := by
  by_cases h1 : p < 0
  · left; refine ⟨.inl h1, ?_⟩; simp [ckOk]; omega
  by_cases h2 : (s.size : Int) < p
  · left; refine ⟨.inr (.inl ⟨by omega, h2⟩), ?_⟩; simp [ckOk]; omega
  by_cases h3 : h < 0
  · left; refine ⟨.inr (.inr (.inl ⟨by omega, by omega, h3⟩)), ?_⟩; simp [ckOk]; omega
  by_cases h4 : 56 < h
  · left; refine ⟨.inr (.inr (.inr (.inl ⟨by omega, by omega, by omega, h4⟩))), ?_⟩; simp [ckOk]; omega
  by_cases h5 : 8 * p < h
  · left; refine ⟨.inr (.inr (.inr (.inr ⟨by omega, by omega, by omega, by omega, h5⟩))), ?_⟩; simp [ckOk]; omega
  right
  have e : (8 * p - h).toNat = 8 * p.toNat - h.toNat := by omega
  refine ⟨p.toNat, h.toNat, by omega, by omega, by omega, by omega, by omega, ?_⟩
  rw [← e, Bool.eq_iff_iff]
  simp [ckOk]
  omega

/-- The cells of a boxed cache. -/
theorem cells4 {w : World} {g : Nat} {T : TypeId} {u v x y : Value} {fr : Nat × Nat} (h : w.heap[g]? = some (.cells #[u, v, x, y] T fr)) : w.cell? ⟨g, 0, none⟩ = some u ∧ w.cell? ⟨g, 1, none⟩ = some v ∧ w.cell? ⟨g, 2, none⟩ = some x ∧ w.cell? ⟨g, 3, none⟩ = some y :=
  ⟨cell_of_row _ _ 0 _ _ _ h, cell_of_row _ _ 1 _ _ _ h, cell_of_row _ _ 2 _ _ _ h, cell_of_row _ _ 3 _ _ _ h⟩
theorem held4 {w w' W : World} {p0 p1 p2 p3 : Addr} {v0 v1 v2 v3 : Value} {B : Nat} (h : w.cell? p0 = some v0 ∧ w.cell? p1 = some v1 ∧ w.cell? p2 = some v2 ∧ w.cell? p3 = some v3 ∧ Below B W w ∧ B ≤ w.heap.size)
    (hb : Below w.heap.size w w') : w'.cell? p0 = some v0 ∧ w'.cell? p1 = some v1 ∧ w'.cell? p2 = some v2 ∧ w'.cell? p3 = some v3 ∧ Below B W w' ∧ B ≤ w'.heap.size := by
  obtain ⟨h0, h1, h2, h3, h6, h7⟩ := h
  have k : ∀ {p : Addr} {v : Value}, w.cell? p = some v → w'.cell? p = some v := fun hc => by
    rw [hb.cell (World.block_lt_of_cell? w _ hc)]; exact hc
  exact ⟨k h0, k h1, k h2, k h3, h6.trans (hb.mono h7), Nat.le_trans h7 hb.size⟩
theorem held4_drew {w W : World} {p0 p1 p2 p3 : Addr} {v0 v1 v2 v3 : Value} {B : Nat} (h : w.cell? p0 = some v0 ∧ w.cell? p1 = some v1 ∧ w.cell? p2 = some v2 ∧ w.cell? p3 = some v3 ∧ Below B W w ∧ B ≤ w.heap.size) :
    w.drew.cell? p0 = some v0 ∧ w.drew.cell? p1 = some v1 ∧ w.drew.cell? p2 = some v2 ∧ w.drew.cell? p3 = some v3 ∧ Below B W w.drew ∧ B ≤ w.drew.heap.size :=
  ⟨h.1, h.2.1, h.2.2.1, h.2.2.2.1, h.2.2.2.2.1.drew, h.2.2.2.2.2⟩
theorem held4_below {w W : World} {p0 p1 p2 p3 : Addr} {v0 v1 v2 v3 : Value} {B : Nat} (h : w.cell? p0 = some v0 ∧ w.cell? p1 = some v1 ∧ w.cell? p2 = some v2 ∧ w.cell? p3 = some v3 ∧ Below B W w ∧ B ≤ w.heap.size) : Below B W w := h.2.2.2.2.1

set_option maxRecDepth 100000 in
set_option maxHeartbeats 800000 in
theorem impl_cacheok_out (s : ByteArray) (p wd h : Int) (hs : s.size ≤ 1048576) (hno : (p < 0 ∨ (0 ≤ p ∧ (s.size : Int) < p) ∨ (0 ≤ p ∧ p ≤ (s.size : Int) ∧ h < 0) ∨ (0 ≤ p ∧ p ≤ (s.size : Int) ∧ 0 ≤ h ∧ 56 < h) ∨ (0 ≤ p ∧ p ≤ (s.size : Int) ∧ 0 ≤ h ∧ h ≤ 56 ∧ 8 * p < h))) (w : World) :
    Calls Try.prog 35 #[cv s p wd h] w fun e w' => e = .returned (.bool false) ∧ Below w.heap.size w w' := by
  unfold cv
  rcases hno with h1 | ⟨h1, h2⟩ | ⟨h1, h2, h3⟩ | ⟨h1, h2, h3, h4⟩ | ⟨h1, h2, h3, h4, h5⟩
  case' inl => have q1 : decide (p < 0) = true := by simpa using h1
  case' inr.inl =>
    have q1 : decide (p < 0) = false := by simpa using h1
    have q2 : decide ((s.size : Int) < p) = true := by simpa using h2
  case' inr.inr.inl =>
    have q1 : decide (p < 0) = false := by simpa using h1
    have q2 : decide ((s.size : Int) < p) = false := by simpa using h2
    have q3 : decide (h < 0) = true := by simpa using h3
  case' inr.inr.inr.inl =>
    have q1 : decide (p < 0) = false := by simpa using h1
    have q2 : decide ((s.size : Int) < p) = false := by simpa using h2
    have q3 : decide (h < 0) = false := by simpa using h3
    have q4 : decide ((56 : Int) < h) = true := by simpa using h4
  case' inr.inr.inr.inr =>
    have q1 : decide (p < 0) = false := by simpa using h1
    have q2 : decide ((s.size : Int) < p) = false := by simpa using h2
    have q3 : decide (h < 0) = false := by simpa using h3
    have q4 : decide ((56 : Int) < h) = false := by simpa using h4
    have q5 : decide (8 * p < h) = true := by simpa using h5
  all_goals
    go_enter Try.func35, Try.ntmps35
    go_wp2
    go_ret
    exact ⟨rfl, below_new _ _⟩

set_option maxRecDepth 100000 in
set_option maxHeartbeats 800000 in
theorem impl_cacheok_in (s : ByteArray) (P H : Nat) (wd : Int) (hs : s.size ≤ 1048576) (hP : P ≤ s.size) (hH : H ≤ 56) (hHP : H ≤ 8 * P) (w : World) :
    Calls Try.prog 35 #[cv s P wd H] w fun e w' => e = .returned (.bool (wd == (rdN s (8 * P - H) H : Int))) ∧ Below w.heap.size w w' := by
  have q1 : decide ((P : Int) < 0) = false := by simp
  have q2 : decide ((s.size : Int) < (P : Int)) = false := by simp; omega
  have q3 : decide ((H : Int) < 0) = false := by simp
  have q4 : decide ((56 : Int) < (H : Int)) = false := by simp; omega
  have q5 : decide (8 * (P : Int) < (H : Int)) = false := by simp; omega
  have hcut := cut_to Try.underlying9 s P (P : Int) rfl hP
  have hsz : (bs (s.data.toList.take P)).size = P := by rw [bs_size]; simp; omega
  have LB := Lib.hid (lastbits_any (bs (s.data.toList.take P)) H (by omega) hH (by omega))
  rw [hsz, rdN_take s P _ _ (by omega)] at LB
  obtain ⟨u, hu⟩ : ∃ u, u = bs (s.data.toList.take P) := ⟨_, rfl⟩
  rw [← hu] at LB hcut hsz
  obtain ⟨v, hv⟩ : ∃ v, v = rdN s (8 * P - H) H := ⟨_, rfl⟩
  rw [← hv] at LB ⊢
  clear hu hv
  unfold cv
  go_enter Try.func35, Try.ntmps35
  go_wp2
  have H4 : (w.alloc (.cells #[.string s, .int .i64 P, .int .i64 wd, .int .i64 H] 25)).cell? ⟨w.heap.size, 0, none⟩ = some (.string s) ∧ (w.alloc (.cells #[.string s, .int .i64 P, .int .i64 wd, .int .i64 H] 25)).cell? ⟨w.heap.size, 1, none⟩ = some (.int .i64 P) ∧
    (w.alloc (.cells #[.string s, .int .i64 P, .int .i64 wd, .int .i64 H] 25)).cell? ⟨w.heap.size, 2, none⟩ = some (.int .i64 wd) ∧ (w.alloc (.cells #[.string s, .int .i64 P, .int .i64 wd, .int .i64 H] 25)).cell? ⟨w.heap.size, 3, none⟩ = some (.int .i64 H) ∧
    Below w.heap.size w (w.alloc (.cells #[.string s, .int .i64 P, .int .i64 wd, .int .i64 H] 25)) ∧ w.heap.size ≤ (w.alloc (.cells #[.string s, .int .i64 P, .int .i64 wd, .int .i64 H] 25)).heap.size := by
    obtain ⟨a0, a1, a2, a3⟩ := cells4 (heap_alloc_new w (.cells #[.string s, .int .i64 P, .int .i64 wd, .int .i64 H] 25))
    exact ⟨a0, a1, a2, a3, below_new _ _, (below_new w _).size⟩
  go_region_held3 (fun w' => w'.cell? ⟨w.heap.size, 0, none⟩ = some (.string s) ∧ w'.cell? ⟨w.heap.size, 1, none⟩ = some (.int .i64 P) ∧ w'.cell? ⟨w.heap.size, 2, none⟩ = some (.int .i64 wd) ∧ w'.cell? ⟨w.heap.size, 3, none⟩ = some (.int .i64 H) ∧ Below w.heap.size w w' ∧ w.heap.size ≤ w'.heap.size)
    (first | (refine held4_drew ?_; assumption) | (refine held4 ?_ (by assumption); assumption))
    (first | (go_at_call 62; with_reducible refine (LB.out _).mono ?_; rintro e w' ⟨rfl, hb'⟩))
  go_wp2
  go_ret
  exact ⟨rfl, held4_below (by assumption)⟩

theorem impl_cacheok_any (s : ByteArray) (p wd h : Int) (hs : s.size ≤ 1048576) (w : World) :
    Calls Try.prog 35 #[cv s p wd h] w fun e w' => e = .returned (.bool (ckOk s p wd h)) ∧ Below w.heap.size w w' := by
  rcases ckOk_ways s p wd h with ⟨h1, h2⟩ | ⟨P, H, rfl, rfl, h1, h2, h3, h4⟩
  · rw [h2]; exact impl_cacheok_out s p wd h hs h1 w
  · rw [h4]; exact impl_cacheok_in s P H wd hs h1 h2 h3 w

set_option maxRecDepth 100000 in
set_option maxHeartbeats 800000 in
theorem spec_cacheok_out1 (s : ByteArray) (p wd h : Int) (b c : Bool) (hb : (decide (0 ≤ p) && decide (p ≤ (s.size : Int))) = b) (hc : (decide (0 ≤ h) && decide (h ≤ 56)) = c)
    (hno : b = false ∨ (b = true ∧ c = false) ∨ (b = true ∧ c = true ∧ 0 ≤ p ∧ p ≤ 1048576 ∧ 8 * p < h)) (w : World) :
    Calls Try.prog 13 #[cv s p wd h] w fun e w' => e = .returned (.bool false) ∧ Below w.heap.size w w' := by
  have I1 := Lib.hid (l1In_any p 0 (s.size : Int))
  have I2 := Lib.hid (l1In_any h 0 56)
  rw [hb] at I1
  rw [hc] at I2
  clear hb hc
  unfold cv
  rcases hno with rfl | ⟨rfl, rfl⟩ | ⟨rfl, rfl, h1, h2, h5⟩
  · go_enter Try.func13, Try.ntmps13
    go_wp2_with fail
    refine (I1.out _).mono ?_
    rintro e w' ⟨rfl, rfl⟩
    go_wp2
    go_ret
    exact ⟨rfl, below_new _ _⟩
  · go_enter Try.func13, Try.ntmps13
    go_wp2_with fail
    refine (I1.out _).mono ?_
    rintro e w' ⟨rfl, rfl⟩
    go_wp2_with fail
    refine (I2.out _).mono ?_
    rintro e w' ⟨rfl, rfl⟩
    go_wp2
    go_ret
    exact ⟨rfl, below_new _ _⟩
  · have q5 : decide (8 * p < h) = true := by simpa using h5
    go_enter Try.func13, Try.ntmps13
    go_wp2_with fail
    refine (I1.out _).mono ?_
    rintro e w' ⟨rfl, rfl⟩
    go_wp2_with fail
    refine (I2.out _).mono ?_
    rintro e w' ⟨rfl, rfl⟩
    go_wp2
    go_ret
    exact ⟨rfl, below_new _ _⟩
theorem spec_cacheok_out (s : ByteArray) (p wd h : Int) (hs : s.size ≤ 1048576) (hno : (p < 0 ∨ (0 ≤ p ∧ (s.size : Int) < p) ∨ (0 ≤ p ∧ p ≤ (s.size : Int) ∧ h < 0) ∨ (0 ≤ p ∧ p ≤ (s.size : Int) ∧ 0 ≤ h ∧ 56 < h) ∨ (0 ≤ p ∧ p ≤ (s.size : Int) ∧ 0 ≤ h ∧ h ≤ 56 ∧ 8 * p < h))) (w : World) :
    Calls Try.prog 13 #[cv s p wd h] w fun e w' => e = .returned (.bool false) ∧ Below w.heap.size w w' := by
  refine spec_cacheok_out1 s p wd h _ _ rfl rfl ?_ w
  simp
  omega

set_option maxRecDepth 100000 in
set_option maxHeartbeats 800000 in
theorem spec_cacheok_in (s : ByteArray) (P H : Nat) (wd : Int) (hs : s.size ≤ 1048576) (hP : P ≤ s.size) (hH : H ≤ 56) (hHP : H ≤ 8 * P) (w : World) :
    Calls Try.prog 13 #[cv s P wd H] w fun e w' => e = .returned (.bool (wd == (rdN s (8 * P - H) H : Int))) ∧ Below w.heap.size w w' := by
  have I1 := Lib.hid (l1In_any P 0 (s.size : Int))
  have I2 := Lib.hid (l1In_any H 0 56)
  have q1 : decide (0 ≤ (P : Int)) = true := by simp
  have q2 : decide ((P : Int) ≤ (s.size : Int)) = true := by simp; omega
  have q3 : decide (0 ≤ (H : Int)) = true := by simp
  have q4 : decide ((H : Int) ≤ 56) = true := by simp; omega
  have q5 : decide (8 * (P : Int) < (H : Int)) = false := by simp; omega
  rw [q1, q2] at I1
  rw [q3, q4] at I2
  clear q1 q2 q3 q4
  unfold cv
  go_enter Try.func13, Try.ntmps13
  go_wp2_with fail
  refine (I1.out _).mono ?_
  rintro e w' ⟨rfl, rfl⟩
  go_wp2_with fail
  refine (I2.out _).mono ?_
  rintro e w' ⟨rfl, rfl⟩
  go_wp2
  go_loop [3, 4] (fun v i => ∃ k : Nat, k ≤ H ∧ i = .int .i64 (8 * (P : Int) - (H : Int) + (k : Int)) ∧ v = .int .i64 (rdN s (8 * P - H) k)) (fun _ i => 8 * P - (intOf i).toNat)
  case atStart => exact ⟨0, Nat.zero_le _, by simp, rfl⟩
  case round =>
    obtain ⟨k, hk, rfl, rfl⟩ := hrel
    by_cases hlt : k < H
    · have HB := Lib.hid (spec_bitat_in s (8 * P - H + k) hs (by omega))
      have ei : ((8 * P - H + k : Nat) : Int) = 8 * (P : Int) - (H : Int) + (k : Int) := by omega
      rw [ei] at HB
      have hv := rdN_lt' s (8 * P - H) k 56 (by omega)
      have hb := bitN_lt s (8 * P - H + k)
      have hs1 : rdN s (8 * P - H) (k + 1) = 2 * rdN s (8 * P - H) k + bitN s (8 * P - H + k) := rfl
      obtain ⟨v, hvd⟩ : ∃ v, v = rdN s (8 * P - H) k := ⟨_, rfl⟩
      obtain ⟨b, hbd⟩ : ∃ b, b = bitN s (8 * P - H + k) := ⟨_, rfl⟩
      rw [← hvd, ← hbd] at hs1
      rw [← hbd] at HB hb
      rw [← hvd] at hv ⊢
      have HS := Lib.hid hs1
      clear hs1 hvd hbd ei
      go_wp2_with fail
      refine (HB.out _).mono ?_
      rintro e w' ⟨rfl, rfl⟩
      go_wp2
      go_round
      case rel => exact ⟨k + 1, by omega, by go_num, by rw [HS.out]; congr 1; omega⟩
      case measure => simp [intOf]; omega
    · obtain rfl : k = H := by omega
      go_wp2
      go_ret
      exact ⟨rfl, below_new _ _⟩

theorem spec_cacheok_any (s : ByteArray) (p wd h : Int) (hs : s.size ≤ 1048576) (w : World) :
    Calls Try.prog 13 #[cv s p wd h] w fun e w' => e = .returned (.bool (ckOk s p wd h)) ∧ Below w.heap.size w w' := by
  rcases ckOk_ways s p wd h with ⟨h1, h2⟩ | ⟨P, H, rfl, rfl, h1, h2, h3, h4⟩
  · rw [h2]; exact spec_cacheok_out s p wd h hs h1 w
  · rw [h4]; exact spec_cacheok_in s P H wd hs h1 h2 h3 w
end Go.Proofs.Ythiplncceglnhaa
