/-
  Contracts of the program's Softened and SlopeRow. Condition: a row is no longer than 1048576 (the laws ask no more).
-/
import Derived.Test.YtjgbenhjafgimaaSoA
import Derived.Test.YtjgbenhjafgimaaSlA
import Derived.Test.YtjgbenhjafgimaaPyC
namespace Go.Proofs.Ytjgbenhjafgimaa
open Go.RowKit
set_option linter.unusedVariables false

/-- One's own row, before or after one store. -/
def PartF (w : World) (base g n : Nat) (a b : List Int) : Prop := w.ownsRow base 3 1 (.slice (some ⟨g, 0, none⟩) n n) n (ivs a) ∨ w.ownsRow base 3 1 (.slice (some ⟨g, 0, none⟩) n n) n (ivs b)
theorem PartF.drew {w : World} {base g n : Nat} {a b : List Int} (h : PartF w base g n a b) : PartF w.drew base g n a b := h.elim (fun h => .inl h.drew) (fun h => .inr h.drew)
theorem PartF.stored {w : World} {base g n j : Nat} {a b : List Int} {v : Int} (h : PartF w base g n a b) (ha : a.set j v = b) (hb : b.set j v = b) : (w.setCell ⟨g, j, none⟩ (.int .i64 v)).ownsRow base 3 1 (.slice (some ⟨g, 0, none⟩) n n) n (ivs b) := by
  rcases h with h | h
  · have s := (h.stored j (.int .i64 v)).1
    rw [ivs_set, ha] at s
    exact s
  · have s := (h.stored j (.int .i64 v)).1
    rw [ivs_set, hb] at s
    exact s
theorem PartF.at {w : World} {base g n j : Nat} {a b : List Int} (h : PartF w base g n a b) (hj : j < n) (ha : a.length = n) (hb : b.length = n) : w.frozen? ⟨g, j, none⟩ = false ∧ ∃ u, w.cell? ⟨g, j, none⟩ = some u := by
  rcases h with h | h
  · exact ⟨h.frozenAt j, _, (h.cellAt j (by omega)).trans (ivs_at a j (by omega))⟩
  · exact ⟨h.frozenAt j, _, (h.cellAt j (by omega)).trans (ivs_at b j (by omega))⟩
theorem so_drew {w W : World} {p0 p1 p2 : Addr} {v0 v1 v2 : Value} {base g n B : Nat} {a b : List Int} (h : w.cell? p0 = some v0 ∧ w.cell? p1 = some v1 ∧ w.cell? p2 = some v2 ∧ PartF w base g n a b ∧ Below B W w) : w.drew.cell? p0 = some v0 ∧ w.drew.cell? p1 = some v1 ∧ w.drew.cell? p2 = some v2 ∧ PartF w.drew base g n a b ∧ Below B W w.drew := by
  obtain ⟨h0, h1, h2, h3, h4⟩ := h
  exact ⟨h0, h1, h2, h3.drew, h4.drew⟩
theorem so_set {w W : World} {s o0 o1 o2 : Nat} {v0 v1 v2 : Value} {base g n B j : Nat} {a b : List Int} {v : Int} (h : w.cell? ⟨s, o0, none⟩ = some v0 ∧ w.cell? ⟨s, o1, none⟩ = some v1 ∧ w.cell? ⟨s, o2, none⟩ = some v2 ∧ PartF w base g n a b ∧ Below B W w) (hne : s ≠ g) (hB : B ≤ g) (ha : a.set j v = b) (hb : b.set j v = b) :
    (w.setCell ⟨g, j, none⟩ (.int .i64 v)).cell? ⟨s, o0, none⟩ = some v0 ∧ (w.setCell ⟨g, j, none⟩ (.int .i64 v)).cell? ⟨s, o1, none⟩ = some v1 ∧ (w.setCell ⟨g, j, none⟩ (.int .i64 v)).cell? ⟨s, o2, none⟩ = some v2 ∧ PartF (w.setCell ⟨g, j, none⟩ (.int .i64 v)) base g n a b ∧ Below B W (w.setCell ⟨g, j, none⟩ (.int .i64 v)) := by
  obtain ⟨h0, h1, h2, h3, h4⟩ := h
  have hc : ∀ i, (w.setCell ⟨g, j, none⟩ (.int .i64 v)).cell? ⟨s, i, none⟩ = w.cell? ⟨s, i, none⟩ := fun i => World.cell?_of_block (a := ⟨s, i, none⟩) (heap_setCell_other _ _ _ _ hne)
  exact ⟨(hc _).trans h0, (hc _).trans h1, (hc _).trans h2, .inr (h3.stored ha hb), Below.setCell h4 (p := ⟨g, j, none⟩) hB _⟩
theorem so_part {w W : World} {p0 p1 p2 : Addr} {v0 v1 v2 : Value} {base g n B : Nat} {a b : List Int} (h : w.cell? p0 = some v0 ∧ w.cell? p1 = some v1 ∧ w.cell? p2 = some v2 ∧ PartF w base g n a b ∧ Below B W w) : PartF w base g n a b ∧ Below B W w := h.2.2.2
theorem fillI_again {C : List Int} {N j : Nat} (hC : C.length = N) (hj : j < N) : (fillI C N (j + 1)).set j (C.getD j 0) = fillI C N (j + 1) := by
  rw [← fillI_set hC hj, List.set_set]

set_option maxRecDepth 100000 in
set_option maxHeartbeats 4000000 in
theorem impl_softened_any (A : Option Addr) (ca : Nat) (l : List Int) (hll : l.length ≤ 1048576) (w : World) (hA : Ints w w.heap.size A l) :
    Calls Try.prog 23 #[.slice A l.length ca] w fun e w' => ∃ A' c, e = .returned (.slice A' (soL l).length c) ∧ OwnI w' w.heap.size A' c (soL l) ∧ Below w.heap.size w w' := by
  have SM := Lib.hid smoothed_any
  have CP := Lib.hid clipped_any
  have HAT : Hid (∀ i, i < l.length - 2 → (soL l).getD i 0 = softV (clipV (l.getD i 0)) (clipV (l.getD (i + 1) 0)) (clipV (l.getD (i + 2) 0))) := Lib.hid fun i h => soL_at l h
  have HCL0 := soL_len l
  have HA := Lib.hid hA
  obtain ⟨C, hC⟩ : ∃ C, C = soL l := ⟨_, rfl⟩
  rw [← hC] at HAT HCL0 ⊢
  obtain ⟨n, hn⟩ : ∃ n, n = l.length := ⟨_, rfl⟩
  rw [← hn] at hll HAT HCL0 ⊢
  obtain ⟨N, hN⟩ : ∃ N, N = n - 2 := ⟨_, rfl⟩
  rw [← hN] at HAT HCL0
  have HCL := Lib.hid HCL0
  rw [HCL0]
  have HN := Lib.hid hn
  have hmx : (if (0 : Int) < (n : Int) - 2 then (n : Int) - 2 else 0) = (N : Int) := by split <;> omega
  have hmx2 : max (0 : Int) ((n : Int) - 2) = (N : Int) := by omega
  have hmk := make_ints N (N : Int) rfl (by omega)
  have O0 : Hid ((w.alloc (.cells (ivs (List.replicate N 0)).toArray 3)).ownsRow w.heap.size 3 1 (.slice (some ⟨w.heap.size, 0, none⟩) N N) N (ivs (fillI C N 0))) := Lib.hid (by
    have h := own_ints w w.heap.size (List.replicate N 0) (Nat.le_refl _) (by rw [List.length_replicate]; unfold maxLen; omega)
    unfold OwnI at h
    rw [List.length_replicate] at h
    rw [fillI_zero]
    exact h)
  have B0 := Lib.hid (below_new w (.cells (ivs (List.replicate N 0)).toArray 3))
  obtain ⟨z, hz⟩ : ∃ z : List Int, z = List.replicate N 0 := ⟨_, rfl⟩
  rw [← hz] at hmk O0 B0
  have HNN := Lib.hid hN
  clear hC hA hn HCL0 hz hN
  go_enter Try.func23, Try.ntmps23
  go_wp2

  go_loopw [4, 12] (fun x i wr => ∃ j : Nat, j ≤ N ∧ i = .int .i64 j ∧ wr.ownsRow w.heap.size 3 1 (.slice (some ⟨w.heap.size, 0, none⟩) N N) N (ivs (fillI C N j)) ∧ Below w.heap.size w wr)
    (fun _ i _ => N - (intOf i).toNat)
  case atStart => exact ⟨0, Nat.zero_le _, rfl, O0.out, B0.out⟩
  case round =>
    obtain ⟨j, hj, rfl, hown, hbel⟩ := hrel
    by_cases hlt : j < N
    · have d1 : decide ((j : Int) < (N : Int)) = true := by simp; omega
      have hNn := HNN.out
      obtain ⟨b, off, rfl, hb, hc⟩ := HA.out.at 0 (by rw [← HN.out]; omega)
      have c1 := hc j (by rw [← HN.out]; omega)
      have c2 := hc (j + 1) (by rw [← HN.out]; omega)
      have c3 := hc (j + 1 + 1) (by rw [← HN.out]; omega)
      have hnx := HAT.out j hlt
      obtain ⟨x, hx⟩ : ∃ x, x = l.getD j 0 := ⟨_, rfl⟩
      obtain ⟨y, hy⟩ : ∃ x, x = l.getD (j + 1) 0 := ⟨_, rfl⟩
      obtain ⟨z, hz⟩ : ∃ x, x = l.getD (j + 1 + 1) 0 := ⟨_, rfl⟩
      rw [← hx, ← hy, show l.getD (j + 2) 0 = z from hz.symm] at hnx
      rw [← hx] at c1
      rw [← hy] at c2
      rw [← hz] at c3
      have CX := Lib.hid (CP.out x); have CY := Lib.hid (CP.out y); have CZ := Lib.hid (CP.out z)
      have SX := Lib.hid (SM.out (clipV x) (clipV y) (clipV z) (clipV_pix x) (clipV_pix y) (clipV_pix z))
      obtain ⟨u1, hu1⟩ : ∃ u, u = clipV x := ⟨_, rfl⟩
      obtain ⟨u2, hu2⟩ : ∃ u, u = clipV y := ⟨_, rfl⟩
      obtain ⟨u3, hu3⟩ : ∃ u, u = clipV z := ⟨_, rfl⟩
      rw [← hu1] at SX hnx CX
      rw [← hu2] at SX hnx CY
      rw [← hu3] at SX hnx CZ
      obtain ⟨u, hu⟩ : ∃ u, u = softV u1 u2 u3 := ⟨_, rfl⟩
      rw [← hu] at SX hnx
      have hs1 : (fillI C N j).set j u = fillI C N (j + 1) := by rw [← hnx]; exact fillI_set HCL.out hlt
      have hs2 : (fillI C N (j + 1)).set j u = fillI C N (j + 1) := by rw [← hnx]; exact fillI_again HCL.out hlt
      have q1 : wr.cell? ⟨b, off + j, none⟩ = some (.int .i64 x) := by rw [hbel.cell (p := ⟨b, off + j, none⟩) hb]; exact c1
      have q2 : wr.cell? ⟨b, off + (j + 1), none⟩ = some (.int .i64 y) := by rw [hbel.cell (p := ⟨b, off + (j + 1), none⟩) hb]; exact c2
      have q3 : wr.cell? ⟨b, off + (j + 1 + 1), none⟩ = some (.int .i64 z) := by rw [hbel.cell (p := ⟨b, off + (j + 1 + 1), none⟩) hb]; exact c3
      have hl1 := fillI_len (j := j) HCL.out hj
      have hl2 := fillI_len (j := j + 1) HCL.out hlt
      obtain ⟨f0, hf0⟩ : ∃ f, f = fillI C N j := ⟨_, rfl⟩
      obtain ⟨f1, hf1⟩ : ∃ f, f = fillI C N (j + 1) := ⟨_, rfl⟩
      rw [← hf0] at hs1 hl1 hown
      rw [← hf1] at hs1 hs2 hl2
      have HF1 := Lib.hid hf1
      have hS0 : wr.cell? ⟨b, off + j, none⟩ = some (.int .i64 x) ∧ wr.cell? ⟨b, off + (j + 1), none⟩ = some (.int .i64 y) ∧ wr.cell? ⟨b, off + (j + 1 + 1), none⟩ = some (.int .i64 z) ∧ PartF wr w.heap.size w.heap.size N f0 f1 ∧ Below w.heap.size w wr := ⟨q1, q2, q3, .inl hown, hbel⟩
      have hS := so_drew hS0
      have HS1 := Lib.hid hs1; have HS2 := Lib.hid hs2; have HNE := Lib.hid (Nat.ne_of_lt hb); have HL1 := Lib.hid hl1; have HL2 := Lib.hid hl2
      have hj0 : (0 : Int) ≤ (j : Int) := by omega
      have hjN : (j : Int) < (N : Int) := by omega
      have hj1 : (j : Int) < (n : Int) := by omega
      have hj2 : (j : Int) + 1 < (n : Int) := by omega
      have hj3 : (j : Int) + 2 < (n : Int) := by omega
      have hw1 : IntKind.i64.wrap ((j : Int) + 1) = (j : Int) + 1 := IntWalk.i64_in _ (by omega)
      have hw2 : IntKind.i64.wrap ((j : Int) + 2) = (j : Int) + 2 := IntWalk.i64_in _ (by omega)
      have ht1 : ((j : Int) + 1).toNat = j + 1 := by omega
      have ht2 : ((j : Int) + 2).toNat = j + 1 + 1 := by omega
      have hp2 : (0 : Int) ≤ (j : Int) + 2 := by omega
      have hp1 : (0 : Int) ≤ (j : Int) + 1 := by omega
      clear hx hy hz hnx hu hu1 hu2 hu3 c1 c3 c2 hc hown hbel q1 q2 q3 hf0 hf1 hs1 hs2 hb hl1 hl2 hmx hmx2 hNn hmk
      go_wp2_with fail
      go_region_held3 (fun w' => w'.cell? ⟨b, off + j, none⟩ = some (.int .i64 x) ∧ w'.cell? ⟨b, off + (j + 1), none⟩ = some (.int .i64 y) ∧ w'.cell? ⟨b, off + (j + 1 + 1), none⟩ = some (.int .i64 z) ∧ PartF w' w.heap.size w.heap.size N f0 f1 ∧ Below w.heap.size w w')
        (first | with_reducible assumption | (with_reducible refine so_drew ?_; with_reducible assumption) | (exact so_set (by with_reducible assumption) HNE.out (Nat.le_refl _) HS1.out HS2.out) | fail)
        (first
          | (go_at_call 62; with_reducible refine (SX.out _).mono ?_; rintro e w6 ⟨rfl, hw6⟩; have PF := so_part (by with_reducible assumption); rw [← hw6] at PF; have S6 := Lib.hid (PF.1.stored HS1.out HS2.out); have B6 := Lib.hid PF.2; obtain ⟨fz, u0, cj⟩ := PF.1.at hlt HL1.out HL2.out; subst hw6; clear PF)
          | (with_reducible refine (CX.out _).mono ?_; rintro e w' ⟨rfl, rfl⟩)
          | (with_reducible refine (CY.out _).mono ?_; rintro e w' ⟨rfl, rfl⟩)
          | (with_reducible refine (CZ.out _).mono ?_; rintro e w' ⟨rfl, rfl⟩)
          | fail)
      all_goals
        have S7 := S6.out
        rw [HF1.out] at S7
        have B7 := Lib.hid (B6.out.setCell (p := ⟨w.heap.size, j, none⟩) (Nat.le_refl _) (.int .i64 u))
        have S8 := Lib.hid S7
        clear S7
        try clear cj fz
        go_wp2
        go_roundw
        case rel => exact ⟨j + 1, by omega, by go_num, S8.out, B7.out⟩
        case measure => simp [intOf]; omega
    · have hjn : j = N := by omega
      have d1 : decide ((j : Int) < (N : Int)) = false := by simp; omega
      rw [hjn, fillI_full HCL.out] at hown
      have O3 := Lib.hid hown; have B3 := Lib.hid hbel
      clear hown hbel hjn
      go_wp2
      go_ret
      refine ⟨_, _, rfl, ?_, B3.out⟩
      unfold OwnI
      rw [HCL.out]
      exact O3.out

set_option maxRecDepth 100000 in
set_option maxHeartbeats 4000000 in
theorem impl_sloperow_4 (tb toff : Nat) (cA : Nat) (lb loff : Nat) (cB : Nat) (t l : List Int) (k : Int) (b1 b2 : Bool) (y : Nat) (hy : y < 4) (ht : t.length = 8) (hl : l.length = 4) (w : World) (htb : tb < w.heap.size) (hlb : lb < w.heap.size)
    (htc : ∀ j, j < t.length → w.cell? ⟨tb, toff + j, none⟩ = some (.int .i64 (t.getD j 0))) (hlc : ∀ j, j < l.length → w.cell? ⟨lb, loff + j, none⟩ = some (.int .i64 (l.getD j 0)))
    (hpt : ∀ i, i < 8 → 0 ≤ t.getD i 0 ∧ t.getD i 0 ≤ 255) (hpy : 0 ≤ l.getD y 0 ∧ l.getD y 0 ≤ 255) (hk : 0 ≤ k ∧ k ≤ 255)
    (NK : Hid (∀ w, Ints w w.heap.size (some ⟨tb, toff, none⟩) t → Ints w w.heap.size (some ⟨lb, loff, none⟩) l → Calls Try.prog 21 #[.agg #[.slice (some ⟨tb, toff, none⟩) 8 cA, .slice (some ⟨lb, loff, none⟩) 4 cB, .int .i64 k, .bool b1, .bool b2], .int .i64 4] w fun e w' => e = .returned (.bool true) ∧ Below w.heap.size w w')) :
    Calls Try.prog 26 #[.agg #[.slice (some ⟨tb, toff, none⟩) 8 cA, .slice (some ⟨lb, loff, none⟩) 4 cB, .int .i64 k, .bool b1, .bool b2], .int .i64 4, .int .i64 y] w fun e w' => ∃ A' c, e = .returned (.slice A' 4 c) ∧ OwnI w' w.heap.size A' c (slF t l k 4 y) ∧ Below w.heap.size w w' := by
  have CP := Lib.hid clipped_any
  have IX := Lib.hid (indexok_at y 4 hy (by decide))
  have HAT : Hid (∀ i, i < 4 → (slF t l k 4 y).getD i 0 = clipV (l.getD y 0 + t.getD i 0 - k)) := Lib.hid fun i h => slF_at t l k 4 y h
  have HCL := Lib.hid (slF_len t l k 4 y)
  obtain ⟨C, hC⟩ : ∃ C, C = slF t l k 4 y := ⟨_, rfl⟩
  rw [← hC] at HAT HCL ⊢
  have HK := Lib.hid (heap_alloc_new w (.cells #[.slice (some ⟨tb, toff, none⟩) 8 cA, .slice (some ⟨lb, loff, none⟩) 4 cB, .int .i64 k, .bool b1, .bool b2] 26))
  have BW := Lib.hid (below_new w (.cells #[.slice (some ⟨tb, toff, none⟩) 8 cA, .slice (some ⟨lb, loff, none⟩) 4 cB, .int .i64 k, .bool b1, .bool b2] 26))
  have I1 : Hid (∀ wr, Below w.heap.size w wr → Ints wr wr.heap.size (some ⟨tb, toff, none⟩) t) := Lib.hid fun wr h => ⟨by omega, .inr ⟨tb, toff, rfl, Nat.lt_of_lt_of_le htb h.size, fun j hj => by rw [h.cell (p := ⟨tb, toff + j, none⟩) htb]; exact htc j hj⟩⟩
  have I2 : Hid (∀ wr, Below w.heap.size w wr → Ints wr wr.heap.size (some ⟨lb, loff, none⟩) l) := Lib.hid fun wr h => ⟨by omega, .inr ⟨lb, loff, rfl, Nat.lt_of_lt_of_le hlb h.size, fun j hj => by rw [h.cell (p := ⟨lb, loff + j, none⟩) hlb]; exact hlc j hj⟩⟩
  have HTC : Hid (∀ wr, Below w.heap.size w wr → ∀ j, j < 8 → wr.cell? ⟨tb, toff + j, none⟩ = some (.int .i64 (t.getD j 0))) := Lib.hid fun wr h j hj => by rw [h.cell (p := ⟨tb, toff + j, none⟩) htb]; exact htc j (by omega)
  have HLC : Hid (∀ wr, Below w.heap.size w wr → wr.cell? ⟨lb, loff + y, none⟩ = some (.int .i64 (l.getD y 0))) := Lib.hid fun wr h => by rw [h.cell (p := ⟨lb, loff + y, none⟩) hlb]; exact hlc y (by omega)
  have HPT := Lib.hid hpt
  have y1 : (y : Int) < 4 := by omega
  have y0 : (0 : Int) ≤ (y : Int) := by omega
  have hmk : ∀ w : World, (Instr.makeSlice 24 (.int .i64 4) (.int .i64 4)).run Try.prog w = .ok (.slice (some ⟨w.heap.size, 0, none⟩) 4 4) (w.alloc (.cells (ivs (List.replicate 4 0)).toArray 3)) := fun w => make_ints 4 4 (by decide) (by decide) w
  obtain ⟨z, hz⟩ : ∃ z : List Int, z = List.replicate 4 0 := ⟨_, rfl⟩
  simp only [← hz] at hmk
  obtain ⟨ly, hly⟩ : ∃ x, x = l.getD y 0 := ⟨_, rfl⟩
  rw [← hly] at HLC hpy
  have HLY := Lib.hid hly
  have HZ := Lib.hid hz
  have qs : IntKind.i64.wrap (ly - k) = ly - k := IntWalk.i64_in _ (by omega)
  clear hC htc hlc hpt ht hl hly hz htb hlb
  go_enter Try.func26, Try.ntmps26
  go_wp2_with fail
  refine (NK.out _ (I1.out _ BW.out) (I2.out _ BW.out)).mono ?_
  rintro e w1 ⟨rfl, hb1⟩
  have B1 := Lib.hid (below_up BW.out hb1 BW.out.size)
  have K1 := Lib.hid (cell_kept HK.out hb1)
  obtain ⟨c0, c1, c2, c3, c4⟩ := cells5 K1.out
  clear hb1
  go_wp2_with fail
  refine (IX.out _).mono ?_
  rintro e wx ⟨rfl, hw⟩
  subst hw
  have cy := HLC.out _ B1.out
  have O0 : Hid ((w1.drew.alloc (.cells (ivs z).toArray 3)).ownsRow w1.heap.size 3 1 (.slice (some ⟨w1.heap.size, 0, none⟩) 4 4) 4 (ivs (fillI C 4 0))) := Lib.hid (by
    have h := own_ints w1.drew w1.heap.size z (Nat.le_refl _) (by rw [HZ.out]; decide)
    unfold OwnI at h
    rw [show z.length = 4 by rw [HZ.out]; rfl] at h
    rw [fillI_zero, ← HZ.out]
    exact h)
  have BZ : Hid (Below w1.heap.size w1 (w1.drew.alloc (.cells (ivs z).toArray 3))) := Lib.hid ((Below.refl w1.heap.size w1).drew.alloc (Nat.le_refl _) _)
  have KK : Hid (w.heap.size < w1.heap.size) := Lib.hid (heap_lt K1.out)
  go_wp2
  go_region
  go_wp2
  clear c0 c1 c2 c3 c4 cy
  go_loopw [9, 32] (fun x i wr => ∃ j : Nat, j ≤ 4 ∧ i = .int .i64 j ∧ wr.ownsRow w1.heap.size 3 1 (.slice (some ⟨w1.heap.size, 0, none⟩) 4 4) 4 (ivs (fillI C 4 j)) ∧ Below w1.heap.size w1 wr)
    (fun _ i _ => 4 - (intOf i).toNat)
  case atStart => exact ⟨0, Nat.zero_le _, rfl, O0.out, BZ.out⟩
  case round =>
    obtain ⟨j, hj, rfl, hown, hbel⟩ := hrel
    by_cases hlt : j < 4
    · have d1 : decide ((j : Int) < 4) = true := by simp; omega
      have hbw := below_up B1.out hbel B1.out.size
      have ct := HTC.out _ hbw j (by omega)
      have KR : Hid _ := Lib.hid ((hbel.block w.heap.size KK.out).trans K1.out)
      obtain ⟨c0, c1, c2, c3, c4⟩ := cells5 KR.out
      have hnx := HAT.out j hlt
      have hpx := HPT.out j (by omega)
      obtain ⟨x, hx⟩ : ∃ x, x = t.getD j 0 := ⟨_, rfl⟩
      rw [← hx] at ct hnx hpx
      rw [← HLY.out] at hnx
      have e1 : ly + x - k = x + (ly - k) := by omega
      rw [e1] at hnx
      have CX := Lib.hid (CP.out (x + (ly - k)))
      obtain ⟨u, hu⟩ : ∃ u, u = clipV (x + (ly - k)) := ⟨_, rfl⟩
      rw [← hu] at CX hnx
      have hs1 : (fillI C 4 j).set j u = fillI C 4 (j + 1) := by rw [← hnx]; exact fillI_set HCL.out hlt
      have hS := (hown.stored j (.int .i64 u)).1
      rw [ivs_set, hs1] at hS
      have S8 := Lib.hid hS
      have B8 := Lib.hid (hbel.setCell (p := ⟨w1.heap.size, j, none⟩) (Nat.le_refl _) (.int .i64 u))
      have fz := hown.frozenAt j
      obtain ⟨u0, cj⟩ : ∃ u, wr.cell? ⟨w1.heap.size, j, none⟩ = some u := ⟨_, (hown.cellAt j (by omega)).trans (ivs_at _ j (by rw [fillI_len HCL.out hj]; exact hlt))⟩
      have qx : IntKind.i64.wrap (x + (ly - k)) = x + (ly - k) := IntWalk.i64_in _ (by omega)
      have j1 : (j : Int) < 4 := by omega
      have j2 : (j : Int) < 8 := by omega
      clear hx hu hs1 hS hown hbel hbw hnx e1
      go_wp2_with fail
      refine (CX.out _).mono ?_
      rintro e wq ⟨rfl, hw⟩
      subst hw
      go_wp2
      go_roundw
      case rel => exact ⟨j + 1, by omega, by go_num, S8.out, B8.out⟩
      case measure => simp [intOf]; omega
    · have hjn : j = 4 := by omega
      have d1 : decide ((j : Int) < 4) = false := by simp; omega
      rw [hjn, fillI_full HCL.out] at hown
      have O3 := Lib.hid hown; have B3 := Lib.hid (below_up B1.out hbel B1.out.size)
      clear hown hbel hjn
      go_wp2
      go_ret
      refine ⟨_, _, rfl, ?_, B3.out⟩
      unfold OwnI
      rw [HCL.out]
      exact own_lower O3.out (Nat.le_of_lt KK.out)

set_option maxRecDepth 100000 in
set_option maxHeartbeats 4000000 in
theorem impl_sloperow_8 (tb toff : Nat) (cA : Nat) (lb loff : Nat) (cB : Nat) (t l : List Int) (k : Int) (b1 b2 : Bool) (y : Nat) (hy : y < 8) (ht : t.length = 16) (hl : l.length = 8) (w : World) (htb : tb < w.heap.size) (hlb : lb < w.heap.size)
    (htc : ∀ j, j < t.length → w.cell? ⟨tb, toff + j, none⟩ = some (.int .i64 (t.getD j 0))) (hlc : ∀ j, j < l.length → w.cell? ⟨lb, loff + j, none⟩ = some (.int .i64 (l.getD j 0)))
    (hpt : ∀ i, i < 16 → 0 ≤ t.getD i 0 ∧ t.getD i 0 ≤ 255) (hpy : 0 ≤ l.getD y 0 ∧ l.getD y 0 ≤ 255) (hk : 0 ≤ k ∧ k ≤ 255)
    (NK : Hid (∀ w, Ints w w.heap.size (some ⟨tb, toff, none⟩) t → Ints w w.heap.size (some ⟨lb, loff, none⟩) l → Calls Try.prog 21 #[.agg #[.slice (some ⟨tb, toff, none⟩) 16 cA, .slice (some ⟨lb, loff, none⟩) 8 cB, .int .i64 k, .bool b1, .bool b2], .int .i64 8] w fun e w' => e = .returned (.bool true) ∧ Below w.heap.size w w')) :
    Calls Try.prog 26 #[.agg #[.slice (some ⟨tb, toff, none⟩) 16 cA, .slice (some ⟨lb, loff, none⟩) 8 cB, .int .i64 k, .bool b1, .bool b2], .int .i64 8, .int .i64 y] w fun e w' => ∃ A' c, e = .returned (.slice A' 8 c) ∧ OwnI w' w.heap.size A' c (slF t l k 8 y) ∧ Below w.heap.size w w' := by
  have CP := Lib.hid clipped_any
  have IX := Lib.hid (indexok_at y 8 hy (by decide))
  have HAT : Hid (∀ i, i < 8 → (slF t l k 8 y).getD i 0 = clipV (l.getD y 0 + t.getD i 0 - k)) := Lib.hid fun i h => slF_at t l k 8 y h
  have HCL := Lib.hid (slF_len t l k 8 y)
  obtain ⟨C, hC⟩ : ∃ C, C = slF t l k 8 y := ⟨_, rfl⟩
  rw [← hC] at HAT HCL ⊢
  have HK := Lib.hid (heap_alloc_new w (.cells #[.slice (some ⟨tb, toff, none⟩) 16 cA, .slice (some ⟨lb, loff, none⟩) 8 cB, .int .i64 k, .bool b1, .bool b2] 26))
  have BW := Lib.hid (below_new w (.cells #[.slice (some ⟨tb, toff, none⟩) 16 cA, .slice (some ⟨lb, loff, none⟩) 8 cB, .int .i64 k, .bool b1, .bool b2] 26))
  have I1 : Hid (∀ wr, Below w.heap.size w wr → Ints wr wr.heap.size (some ⟨tb, toff, none⟩) t) := Lib.hid fun wr h => ⟨by omega, .inr ⟨tb, toff, rfl, Nat.lt_of_lt_of_le htb h.size, fun j hj => by rw [h.cell (p := ⟨tb, toff + j, none⟩) htb]; exact htc j hj⟩⟩
  have I2 : Hid (∀ wr, Below w.heap.size w wr → Ints wr wr.heap.size (some ⟨lb, loff, none⟩) l) := Lib.hid fun wr h => ⟨by omega, .inr ⟨lb, loff, rfl, Nat.lt_of_lt_of_le hlb h.size, fun j hj => by rw [h.cell (p := ⟨lb, loff + j, none⟩) hlb]; exact hlc j hj⟩⟩
  have HTC : Hid (∀ wr, Below w.heap.size w wr → ∀ j, j < 16 → wr.cell? ⟨tb, toff + j, none⟩ = some (.int .i64 (t.getD j 0))) := Lib.hid fun wr h j hj => by rw [h.cell (p := ⟨tb, toff + j, none⟩) htb]; exact htc j (by omega)
  have HLC : Hid (∀ wr, Below w.heap.size w wr → wr.cell? ⟨lb, loff + y, none⟩ = some (.int .i64 (l.getD y 0))) := Lib.hid fun wr h => by rw [h.cell (p := ⟨lb, loff + y, none⟩) hlb]; exact hlc y (by omega)
  have HPT := Lib.hid hpt
  have y1 : (y : Int) < 8 := by omega
  have y0 : (0 : Int) ≤ (y : Int) := by omega
  have hmk : ∀ w : World, (Instr.makeSlice 24 (.int .i64 8) (.int .i64 8)).run Try.prog w = .ok (.slice (some ⟨w.heap.size, 0, none⟩) 8 8) (w.alloc (.cells (ivs (List.replicate 8 0)).toArray 3)) := fun w => make_ints 8 8 (by decide) (by decide) w
  obtain ⟨z, hz⟩ : ∃ z : List Int, z = List.replicate 8 0 := ⟨_, rfl⟩
  simp only [← hz] at hmk
  obtain ⟨ly, hly⟩ : ∃ x, x = l.getD y 0 := ⟨_, rfl⟩
  rw [← hly] at HLC hpy
  have HLY := Lib.hid hly
  have HZ := Lib.hid hz
  have qs : IntKind.i64.wrap (ly - k) = ly - k := IntWalk.i64_in _ (by omega)
  clear hC htc hlc hpt ht hl hly hz htb hlb
  go_enter Try.func26, Try.ntmps26
  go_wp2_with fail
  refine (NK.out _ (I1.out _ BW.out) (I2.out _ BW.out)).mono ?_
  rintro e w1 ⟨rfl, hb1⟩
  have B1 := Lib.hid (below_up BW.out hb1 BW.out.size)
  have K1 := Lib.hid (cell_kept HK.out hb1)
  obtain ⟨c0, c1, c2, c3, c4⟩ := cells5 K1.out
  clear hb1
  go_wp2_with fail
  refine (IX.out _).mono ?_
  rintro e wx ⟨rfl, hw⟩
  subst hw
  have cy := HLC.out _ B1.out
  have O0 : Hid ((w1.drew.alloc (.cells (ivs z).toArray 3)).ownsRow w1.heap.size 3 1 (.slice (some ⟨w1.heap.size, 0, none⟩) 8 8) 8 (ivs (fillI C 8 0))) := Lib.hid (by
    have h := own_ints w1.drew w1.heap.size z (Nat.le_refl _) (by rw [HZ.out]; decide)
    unfold OwnI at h
    rw [show z.length = 8 by rw [HZ.out]; rfl] at h
    rw [fillI_zero, ← HZ.out]
    exact h)
  have BZ : Hid (Below w1.heap.size w1 (w1.drew.alloc (.cells (ivs z).toArray 3))) := Lib.hid ((Below.refl w1.heap.size w1).drew.alloc (Nat.le_refl _) _)
  have KK : Hid (w.heap.size < w1.heap.size) := Lib.hid (heap_lt K1.out)
  go_wp2
  go_region
  go_wp2
  clear c0 c1 c2 c3 c4 cy
  go_loopw [9, 32] (fun x i wr => ∃ j : Nat, j ≤ 8 ∧ i = .int .i64 j ∧ wr.ownsRow w1.heap.size 3 1 (.slice (some ⟨w1.heap.size, 0, none⟩) 8 8) 8 (ivs (fillI C 8 j)) ∧ Below w1.heap.size w1 wr)
    (fun _ i _ => 8 - (intOf i).toNat)
  case atStart => exact ⟨0, Nat.zero_le _, rfl, O0.out, BZ.out⟩
  case round =>
    obtain ⟨j, hj, rfl, hown, hbel⟩ := hrel
    by_cases hlt : j < 8
    · have d1 : decide ((j : Int) < 8) = true := by simp; omega
      have hbw := below_up B1.out hbel B1.out.size
      have ct := HTC.out _ hbw j (by omega)
      have KR : Hid _ := Lib.hid ((hbel.block w.heap.size KK.out).trans K1.out)
      obtain ⟨c0, c1, c2, c3, c4⟩ := cells5 KR.out
      have hnx := HAT.out j hlt
      have hpx := HPT.out j (by omega)
      obtain ⟨x, hx⟩ : ∃ x, x = t.getD j 0 := ⟨_, rfl⟩
      rw [← hx] at ct hnx hpx
      rw [← HLY.out] at hnx
      have e1 : ly + x - k = x + (ly - k) := by omega
      rw [e1] at hnx
      have CX := Lib.hid (CP.out (x + (ly - k)))
      obtain ⟨u, hu⟩ : ∃ u, u = clipV (x + (ly - k)) := ⟨_, rfl⟩
      rw [← hu] at CX hnx
      have hs1 : (fillI C 8 j).set j u = fillI C 8 (j + 1) := by rw [← hnx]; exact fillI_set HCL.out hlt
      have hS := (hown.stored j (.int .i64 u)).1
      rw [ivs_set, hs1] at hS
      have S8 := Lib.hid hS
      have B8 := Lib.hid (hbel.setCell (p := ⟨w1.heap.size, j, none⟩) (Nat.le_refl _) (.int .i64 u))
      have fz := hown.frozenAt j
      obtain ⟨u0, cj⟩ : ∃ u, wr.cell? ⟨w1.heap.size, j, none⟩ = some u := ⟨_, (hown.cellAt j (by omega)).trans (ivs_at _ j (by rw [fillI_len HCL.out hj]; exact hlt))⟩
      have qx : IntKind.i64.wrap (x + (ly - k)) = x + (ly - k) := IntWalk.i64_in _ (by omega)
      have j1 : (j : Int) < 8 := by omega
      have j2 : (j : Int) < 16 := by omega
      clear hx hu hs1 hS hown hbel hbw hnx e1
      go_wp2_with fail
      refine (CX.out _).mono ?_
      rintro e wq ⟨rfl, hw⟩
      subst hw
      go_wp2
      go_roundw
      case rel => exact ⟨j + 1, by omega, by go_num, S8.out, B8.out⟩
      case measure => simp [intOf]; omega
    · have hjn : j = 8 := by omega
      have d1 : decide ((j : Int) < 8) = false := by simp; omega
      rw [hjn, fillI_full HCL.out] at hown
      have O3 := Lib.hid hown; have B3 := Lib.hid (below_up B1.out hbel B1.out.size)
      clear hown hbel hjn
      go_wp2
      go_ret
      refine ⟨_, _, rfl, ?_, B3.out⟩
      unfold OwnI
      rw [HCL.out]
      exact own_lower O3.out (Nat.le_of_lt KK.out)

set_option maxRecDepth 100000 in
set_option maxHeartbeats 1000000 in
theorem sloperow_nonb (A : Option Addr) (cA : Nat) (B : Option Addr) (cB : Nat) (t l : List Int) (k : Int) (b1 b2 : Bool) (n y : Int) (w : World) (hT : Ints w w.heap.size A t) (hL : Ints w w.heap.size B l) (NK : Hid (∀ w, Ints w w.heap.size A t → Ints w w.heap.size B l → Calls Try.prog 21 #[.agg #[.slice A t.length cA, .slice B l.length cB, .int .i64 k, .bool b1, .bool b2], .int .i64 n] w fun e w' => e = .returned (.bool false) ∧ Below w.heap.size w w')) :
    Calls Try.prog 26 #[.agg #[.slice A t.length cA, .slice B l.length cB, .int .i64 k, .bool b1, .bool b2], .int .i64 n, .int .i64 y] w fun e w' => ∃ A' c, e = .returned (.slice A' 0 c) ∧ OwnI w' w.heap.size A' c [] ∧ Below w.heap.size w w' := by
  have HK := Lib.hid (heap_alloc_new w (.cells #[.slice A t.length cA, .slice B l.length cB, .int .i64 k, .bool b1, .bool b2] 26))
  have BW := Lib.hid (below_new w (.cells #[.slice A t.length cA, .slice B l.length cB, .int .i64 k, .bool b1, .bool b2] 26))
  have I1 : Hid (∀ wr, Below w.heap.size w wr → Ints wr wr.heap.size A t) := Lib.hid fun wr h => (hT.below h (Nat.le_refl _)).mono h.size
  have I2 : Hid (∀ wr, Below w.heap.size w wr → Ints wr wr.heap.size B l) := Lib.hid fun wr h => (hL.below h (Nat.le_refl _)).mono h.size
  clear hT hL
  go_enter Try.func26, Try.ntmps26
  go_wp2_with fail
  refine (NK.out _ (I1.out _ BW.out) (I2.out _ BW.out)).mono ?_
  rintro e w1 ⟨rfl, hb1⟩
  have B1 := Lib.hid (below_up BW.out hb1 BW.out.size)
  clear hb1
  have O9 := Lib.hid (World.ownsRow_nil w1 w.heap.size 3 1)
  go_wp2
  go_ret
  exact ⟨_, _, rfl, O9.out, B1.out⟩

set_option maxRecDepth 100000 in
set_option maxHeartbeats 1000000 in
theorem sloperow_noy (A : Option Addr) (cA : Nat) (B : Option Addr) (cB : Nat) (t l : List Int) (k : Int) (b1 b2 : Bool) (n y : Int) (w : World) (hT : Ints w w.heap.size A t) (hL : Ints w w.heap.size B l) (NK : Hid (∀ w, Ints w w.heap.size A t → Ints w w.heap.size B l → Calls Try.prog 21 #[.agg #[.slice A t.length cA, .slice B l.length cB, .int .i64 k, .bool b1, .bool b2], .int .i64 n] w fun e w' => e = .returned (.bool true) ∧ Below w.heap.size w w'))
    (IX : Hid (∀ w, Calls Try.prog 52 #[.int .i64 y, .int .i64 n] w fun e w' => e = .returned (.bool false) ∧ w = w')) :
    Calls Try.prog 26 #[.agg #[.slice A t.length cA, .slice B l.length cB, .int .i64 k, .bool b1, .bool b2], .int .i64 n, .int .i64 y] w fun e w' => ∃ A' c, e = .returned (.slice A' 0 c) ∧ OwnI w' w.heap.size A' c [] ∧ Below w.heap.size w w' := by
  have HK := Lib.hid (heap_alloc_new w (.cells #[.slice A t.length cA, .slice B l.length cB, .int .i64 k, .bool b1, .bool b2] 26))
  have BW := Lib.hid (below_new w (.cells #[.slice A t.length cA, .slice B l.length cB, .int .i64 k, .bool b1, .bool b2] 26))
  have I1 : Hid (∀ wr, Below w.heap.size w wr → Ints wr wr.heap.size A t) := Lib.hid fun wr h => (hT.below h (Nat.le_refl _)).mono h.size
  have I2 : Hid (∀ wr, Below w.heap.size w wr → Ints wr wr.heap.size B l) := Lib.hid fun wr h => (hL.below h (Nat.le_refl _)).mono h.size
  clear hT hL
  go_enter Try.func26, Try.ntmps26
  go_wp2_with fail
  refine (NK.out _ (I1.out _ BW.out) (I2.out _ BW.out)).mono ?_
  rintro e w1 ⟨rfl, hb1⟩
  have B1 := Lib.hid (below_up BW.out hb1 BW.out.size)
  clear hb1
  go_wp2_with fail
  refine (IX.out _).mono ?_
  rintro e wx ⟨rfl, hw⟩
  subst hw
  have O9 := Lib.hid (World.ownsRow_nil w1 w.heap.size 3 1)
  go_wp2
  go_ret
  exact ⟨_, _, rfl, O9.out, B1.out⟩

set_option maxHeartbeats 1000000 in
theorem impl_sloperow_any (A : Option Addr) (cA : Nat) (B : Option Addr) (cB : Nat) (t l : List Int) (k : Int) (b1 b2 : Bool) (n y : Int) (w : World) (hT : Ints w w.heap.size A t) (hL : Ints w w.heap.size B l) :
    Calls Try.prog 26 #[.agg #[.slice A t.length cA, .slice B l.length cB, .int .i64 k, .bool b1, .bool b2], .int .i64 n, .int .i64 y] w fun e w' => ∃ A' c, e = .returned (.slice A' (slL t l k n y).length c) ∧ OwnI w' w.heap.size A' c (slL t l k n y) ∧ Below w.heap.size w w' := by
  have NK := Lib.hid fun w h1 h2 => impl_nbok_any A cA B cB t l k b1 b2 n w h1 h2
  unfold slL
  cases hok : nbOk t l k n with
  | false =>
    rw [hok] at NK
    rw [if_neg (fun h => absurd h.1 (by simp))]
    exact sloperow_nonb A cA B cB t l k b1 b2 n y w hT hL NK
  | true =>
    rw [hok] at NK
    obtain ⟨m, rfl, hm, ht, hl, hpt, hpl, hk⟩ := nbOk_side hok
    by_cases hy : 0 ≤ y ∧ y ≤ (m : Int) - 1
    rotate_left
    · rw [if_neg (fun h => hy h.2)]
      exact sloperow_noy A cA B cB t l k b1 b2 _ y w hT hL NK (Lib.hid fun w => indexok_off y m hy w)
    obtain ⟨y, rfl⟩ := Int.eq_ofNat_of_zero_le hy.1
    rw [if_pos ⟨rfl, hy⟩, slF_len, Int.toNat_natCast, Int.toNat_natCast]
    obtain ⟨tb, toff, rfl, htb, htc⟩ := hT.at 0 (by omega)
    obtain ⟨lb, loff, rfl, hlb, hlc⟩ := hL.at 0 (by omega)
    rw [ht, hl] at NK ⊢
    rcases hm with rfl | rfl
    · exact impl_sloperow_4 tb toff cA lb loff cB t l k b1 b2 y (by omega) ht hl w htb hlb htc hlc hpt (hpl y (by omega)) hk NK
    · exact impl_sloperow_8 tb toff cA lb loff cB t l k b1 b2 y (by omega) ht hl w htb hlb htc hlc hpt (hpl y (by omega)) hk NK
end Go.Proofs.Ytjgbenhjafgimaa
