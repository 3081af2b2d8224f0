/-
  Contracts of chapter 8's draws: lengths of codes, and a reader over codes with the lengths: each returns something of the kind. Condition: the input is no longer than 1048576 bytes.
-/
import Derived.Test.YtgacldhpohnpaaaSymT
import Derived.Test.YtgacldhpohnpaaaTabDrw
namespace Go.Proofs.Ytgacldhpohnpaaa
open Go.RowKit
set_option linter.unusedVariables false

/-- What the draw of lengths leaves. -/
def LnOut (w : World) (g : Nat) (A : Option Addr) (cap : Nat) (zs : List Int) (e : Ending) (w' : World) : Prop :=
  ∃ (l : List Int) (A' : Option Addr) (c : Nat) (i' : Nat) (h' : Int), e = .returned (.slice A' 6 c) ∧ l.length = 6 ∧ w'.ownsRow w.heap.size 3 1 (.slice A' 6 c) 6 (ivs l) ∧ i' ≤ zs.length ∧ Cursor w' g A cap zs i' h' ∧ w.grownBy w' (some g)

/-- The rows that lengths are taken from. -/
def lensT : List (List Int) := [[1, 2, 3, 4, 5, 5], [3, 3, 3, 3, 2, 2], [2, 2, 2, 3, 4, 4], [1, 1, 0, 0, 0, 0], [0, 2, 2, 2, 2, 0], [5, 5, 4, 3, 2, 1], [4, 4, 4, 4, 2, 1]]
theorem lensT_len (x : Nat) (hx : x < 7) : (lensT.getD x []).length = 6 := by
  rcases (show x = 0 ∨ x = 1 ∨ x = 2 ∨ x = 3 ∨ x = 4 ∨ x = 5 ∨ x = 6 by omega) with rfl | rfl | rfl | rfl | rfl | rfl | rfl <;> rfl
def lensO (k : Nat) : Obj := .cells (ivs (lensT.getD k [])).toArray 3
def lensR (d : Nat) : Obj := .cells #[.slice (some ⟨d + 1, 0, none⟩) 6 6, .slice (some ⟨d + 1 + 1, 0, none⟩) 6 6, .slice (some ⟨d + 1 + 1 + 1, 0, none⟩) 6 6, .slice (some ⟨d + 1 + 1 + 1 + 1, 0, none⟩) 6 6, .slice (some ⟨d + 1 + 1 + 1 + 1 + 1, 0, none⟩) 6 6, .slice (some ⟨d + 1 + 1 + 1 + 1 + 1 + 1, 0, none⟩) 6 6, .slice (some ⟨d + 1 + 1 + 1 + 1 + 1 + 1 + 1, 0, none⟩) 6 6] 39
/-- The world in which all rows lie. -/
def lensW (w : World) : World := ((((((((w.alloc (.cells #[] 3)).alloc (lensO 0)).alloc (lensO 1)).alloc (lensO 2)).alloc (lensO 3)).alloc (lensO 4)).alloc (lensO 5)).alloc (lensO 6)).alloc (lensR w.heap.size)
theorem lensW_size (w : World) : (lensW w).heap.size = w.heap.size + 9 := by simp [lensW]
theorem lensW_grown (w : World) (r : Option Nat) : w.grownBy (lensW w) r := by
  unfold lensW
  exact grown_alloc (grown_alloc (grown_alloc (grown_alloc (grown_alloc (grown_alloc (grown_alloc (grown_alloc (grown_alloc (grown_refl w r) _) _) _) _) _) _) _) _) _
theorem alloc_at {w : World} {o : Obj} {k : Nat} (h : k < w.heap.size) : (w.alloc o).heap[k]? = w.heap[k]? := Below.heap_alloc _ _ _ h
theorem lensW_rows (w : World) : (lensW w).heap[w.heap.size + 1 + 1 + 1 + 1 + 1 + 1 + 1 + 1]? = some (lensR w.heap.size) := by
  have h := heap_alloc_new ((((((((w.alloc (.cells #[] 3)).alloc (lensO 0)).alloc (lensO 1)).alloc (lensO 2)).alloc (lensO 3)).alloc (lensO 4)).alloc (lensO 5)).alloc (lensO 6)) (lensR w.heap.size)
  simpa [lensW] using h
theorem lensW_row (w : World) (x : Nat) (hx : x < 7) : (lensW w).heap[w.heap.size + 1 + x]? = some (lensO x) := by
  rcases (show x = 0 ∨ x = 1 ∨ x = 2 ∨ x = 3 ∨ x = 4 ∨ x = 5 ∨ x = 6 by omega) with rfl | rfl | rfl | rfl | rfl | rfl | rfl
  · unfold lensW
    rw [alloc_at (by simp), alloc_at (by simp), alloc_at (by simp), alloc_at (by simp), alloc_at (by simp), alloc_at (by simp), alloc_at (by simp)]
    simpa using heap_alloc_new (w.alloc (.cells #[] 3)) (lensO 0)
  · unfold lensW
    rw [alloc_at (by simp), alloc_at (by simp), alloc_at (by simp), alloc_at (by simp), alloc_at (by simp), alloc_at (by simp)]
    simpa using heap_alloc_new ((w.alloc (.cells #[] 3)).alloc (lensO 0)) (lensO 1)
  · unfold lensW
    rw [alloc_at (by simp), alloc_at (by simp), alloc_at (by simp), alloc_at (by simp), alloc_at (by simp)]
    simpa using heap_alloc_new (((w.alloc (.cells #[] 3)).alloc (lensO 0)).alloc (lensO 1)) (lensO 2)
  · unfold lensW
    rw [alloc_at (by simp), alloc_at (by simp), alloc_at (by simp), alloc_at (by simp)]
    simpa using heap_alloc_new ((((w.alloc (.cells #[] 3)).alloc (lensO 0)).alloc (lensO 1)).alloc (lensO 2)) (lensO 3)
  · unfold lensW
    rw [alloc_at (by simp), alloc_at (by simp), alloc_at (by simp)]
    simpa using heap_alloc_new (((((w.alloc (.cells #[] 3)).alloc (lensO 0)).alloc (lensO 1)).alloc (lensO 2)).alloc (lensO 3)) (lensO 4)
  · unfold lensW
    rw [alloc_at (by simp), alloc_at (by simp)]
    simpa using heap_alloc_new ((((((w.alloc (.cells #[] 3)).alloc (lensO 0)).alloc (lensO 1)).alloc (lensO 2)).alloc (lensO 3)).alloc (lensO 4)) (lensO 5)
  · unfold lensW
    rw [alloc_at (by simp)]
    simpa using heap_alloc_new (((((((w.alloc (.cells #[] 3)).alloc (lensO 0)).alloc (lensO 1)).alloc (lensO 2)).alloc (lensO 3)).alloc (lensO 4)).alloc (lensO 5)) (lensO 6)
theorem lensR_at {w : World} {d b : Nat} (x : Nat) (hx : x < 7) (h : w.heap[b]? = some (lensR d)) : w.cell? ⟨b, x, none⟩ = some (.slice (some ⟨d + 1 + x, 0, none⟩) 6 6) := by
  have hc : w.cell? ⟨b, x, none⟩ = _ := cell_of_row w b x _ _ _ h
  rw [hc]
  rcases (show x = 0 ∨ x = 1 ∨ x = 2 ∨ x = 3 ∨ x = 4 ∨ x = 5 ∨ x = 6 by omega) with rfl | rfl | rfl | rfl | rfl | rfl | rfl <;> rfl
theorem lensO_ints {w : World} {b : Nat} (x : Nat) (hx : x < 7) (h : w.heap[b]? = some (lensO x)) : Ints w w.heap.size (some ⟨b, 0, none⟩) (lensT.getD x []) := by
  refine ⟨by rw [lensT_len x hx]; omega, .inr ⟨b, 0, rfl, heap_lt h, fun j hj => ?_⟩⟩
  have hc : w.cell? ⟨b, j, none⟩ = _ := cell_of_row w b j _ _ _ h
  rw [Nat.zero_add, hc]
  have := ivs_at (lensT.getD x []) j hj
  simpa using this

set_option maxRecDepth 100000 in
set_option maxHeartbeats 1000000 in
theorem l8lens_ex (A : Option Addr) (cap : Nat) (zs : List Int) (i : Nat) (h : Int) (hi : i ≤ zs.length) (w : World) (g : Nat) (hC : Cursor w g A cap zs i h) :
    Calls Try.prog 107 #[.pointer (some ⟨g, 0, none⟩)] w (LnOut w g A cap zs) := by
  obtain ⟨x, i1, h1, a1, b1, _, l1, C1⟩ := below_det A cap zs i h hi 7
  have b1 := b1 (by decide)
  obtain ⟨x, rfl⟩ := Int.eq_ofNat_of_zero_le a1
  have hx7 : x < 7 := by omega
  have hgw := hC.lt
  have hlen := lensT_len x hx7
  obtain ⟨l0, hl0⟩ : ∃ l, l = lensT.getD x [] := ⟨_, rfl⟩
  rw [← hl0] at hlen
  have HL0 := Lib.hid hl0
  have HC1 := Lib.hid C1
  have GW := Lib.hid (lensW_grown w (some g))
  have CW := Lib.hid (hC.kept (w' := lensW w) (fun k hk => (lensW_grown w none).block k (by omega) (by simp)))
  have OW : Hid ((lensW w).ownsRow w.heap.size 3 1 (.slice (some ⟨w.heap.size, 0, none⟩) 0 0) 0 (ivs [])) := Lib.hid (by
    have h0 := own_ints w w.heap.size [] (Nat.le_refl _) (by simp)
    have h1 : (w.alloc (.cells #[] 3)).ownsRow w.heap.size 3 1 (.slice (some ⟨w.heap.size, 0, none⟩) 0 0) 0 (ivs []) := h0
    exact (((((((h1.alloc _).alloc _).alloc _).alloc _).alloc _).alloc _).alloc _).alloc _)
  clear hC C1 hl0
  obtain ⟨i0, hii, hz0, hz1, hz2⟩ := info_parts Try.iinfo
  obtain ⟨b, i2, h2, l2, C2⟩ := once_det A cap zs i1 h1 l1 2
  have HC2 := Lib.hid C2; clear C2
  go_enter Try.func107, Try.ntmps107
  go_wp2_with fail
  refine (HC1.out (lensW w) g CW.out).mono ?_
  rintro e w1 ⟨rfl, hC1, hg1⟩
  have hsz := hg1.size
  rw [lensW_size] at hsz
  have G1 := Lib.hid hC1
  have Q1 := Lib.hid (GW.out.trans hg1)
  have O1 := Lib.hid (World.ownsRow.kept OW.out hg1 (own_far OW.out hgw))
  have ct := lensR_at x hx7 (grown_at (lensW_rows w) hg1 (by omega))
  have I1 : Hid (Ints w1 w1.heap.size (some ⟨w.heap.size + 1 + x, 0, none⟩) l0) := Lib.hid (by rw [HL0.out]; exact lensO_ints x hx7 (grown_at (lensW_row w x hx7) hg1 (by omega)))
  have P1 : Hid (Placed (some ⟨w.heap.size + 1 + x, 0, none⟩) 6) := Lib.hid (fun h => by cases h)
  have hbs : w.heap.size ≤ w1.heap.size := by omega
  clear hC1 hg1
  go_wp2_with (at_builtin; refine append_row rfl (.tmp 7) (.tmp 19) 39 rfl w.heap.size i0 Try.underlying39 hii hz0 hz1 hz2 _ _ _ rfl O1.out _ _ _ _ hlen.symm rfl _ I1.out P1.out (by omega) hbs ?_; intro v' w2 hown2 hg2; obtain ⟨A2, c2, hv2⟩ := own_form hown2; subst hv2)
  have hg2 : World.grownBy w1 w2 (Value.slice (some ⟨w.heap.size, 0, none⟩) 0 0).ownBlock := hg2
  have G2 := Lib.hid (G1.out.grown hg2 (fun j hj => by have := (O1.out.lt j hj).1; omega))
  have Q2 := Lib.hid (grown_own Q1.out hg2 fun j hj => (O1.out.lt j hj).1)
  simp only [Nat.zero_add, List.nil_append] at hown2
  rcases id hown2.2 with ⟨_, h0⟩ | ⟨g2, cap2, cur2, hv2, hgb2, hg3, _⟩
  · exact absurd h0 (by decide)
  simp only [Value.slice.injEq] at hv2
  obtain ⟨rfl, -, rfl⟩ := hv2
  have hgs2 := heap_lt hg3
  have O2 := Lib.hid hown2
  clear hown2 hg3 ct hg2
  refine (HC2.out _ _ G2.out).mono ?_
  rintro e w3 ⟨rfl, hC3, hg3⟩
  have G3 := Lib.hid hC3
  have Q3 := Lib.hid (Q2.out.trans hg3)
  have O3 := Lib.hid (World.ownsRow.kept O2.out hg3 (own_far O2.out hgw))
  clear hC3 hg3
  cases b with
  | false =>
    go_wp2
    go_ret
    exact ⟨l0, _, _, i2, h2, rfl, hlen, O3.out, l2, G3.out, Q3.out⟩
  | true =>
    obtain ⟨y, i4, h4, y0, y6, _, l4, C4⟩ := below_det A cap zs i2 h2 l2 6
    have y6 := y6 (by decide)
    obtain ⟨y, rfl⟩ := Int.eq_ofNat_of_zero_le y0
    obtain ⟨k, i5, h5, k0, k6, _, l5, C5⟩ := below_det A cap zs i4 h4 l4 6
    have k6 := k6 (by decide)
    obtain ⟨k, rfl⟩ := Int.eq_ofNat_of_zero_le k0
    have HC4 := Lib.hid C4; have HC5 := Lib.hid C5
    clear C4 C5
    go_wp2_with fail
    refine (HC4.out _ _ G3.out).mono ?_
    rintro e w4 ⟨rfl, hC4, hg4⟩
    have G4 := Lib.hid hC4
    have Q4 := Lib.hid (Q3.out.trans hg4)
    have O4 := Lib.hid (World.ownsRow.kept O3.out hg4 (own_far O3.out hgw))
    clear hC4 hg4
    go_wp2_with fail
    refine (HC5.out _ _ G4.out).mono ?_
    rintro e w5 ⟨rfl, hC5, hg5⟩
    have G5 := Lib.hid hC5
    have Q5 := Lib.hid (Q4.out.trans hg5)
    have O5 := Lib.hid (World.ownsRow.kept O4.out hg5 (own_far O4.out hgw))
    clear hC5 hg5
    have cy := (O5.out.cellAt y (by omega)).trans (ivs_at l0 y (by omega))
    have ck := (O5.out.cellAt k (by omega)).trans (ivs_at l0 k (by omega))
    have zy := O5.out.frozenAt y
    have zk := O5.out.frozenAt k
    obtain ⟨vy, hvy⟩ : ∃ v, v = l0.getD y 0 := ⟨_, rfl⟩
    obtain ⟨vk, hvk⟩ : ∃ v, v = l0.getD k 0 := ⟨_, rfl⟩
    rw [← hvy] at cy
    rw [← hvk] at ck
    have s1 := O5.out.stored y (.int .i64 vk)
    rw [ivs_set] at s1
    have s2 := s1.1.stored k (.int .i64 vy)
    rw [ivs_set] at s2
    have cy1 := (s1.1.cellAt k (by omega)).trans (ivs_at _ k (by rw [List.length_set]; omega))
    have zk1 := s1.1.frozenAt k
    have O6 := Lib.hid s2.1
    have G6 := Lib.hid (cursor_new (cursor_new G5.out (b := g2) (by omega) y (.int .i64 vk)) (b := g2) (by omega) k (.int .i64 vy))
    have Q6 := Lib.hid (grown_new (grown_new Q5.out (b := g2) hgb2 y (.int .i64 vk)) hgb2 k (.int .i64 vy))
    clear s1 s2 hvy hvk
    go_wp2
    go_ret
    exact ⟨_, _, _, i5, h5, rfl, by rw [List.length_set, List.length_set]; exact hlen, O6.out, l5, G6.out, Q6.out⟩

/-- What the draw of any lengths leaves. -/
def AnOut (w : World) (g : Nat) (A : Option Addr) (cap : Nat) (zs : List Int) (e : Ending) (w' : World) : Prop :=
  ∃ (l : List Int) (A' : Option Addr) (c : Nat) (i' : Nat) (h' : Int), e = .returned (.slice A' l.length c) ∧ l.length ≤ 6 ∧ Ints w' w'.heap.size A' l ∧ (∀ b off, A' = some ⟨b, off, none⟩ → w.heap.size ≤ b) ∧ i' ≤ zs.length ∧ Cursor w' g A cap zs i' h' ∧ w.grownBy w' (some g)
theorem anOut_of {w w' : World} {g : Nat} {A : Option Addr} {cap : Nat} {zs : List Int} {e : Ending} {l : List Int} {g2 c i' : Nat} {h' : Int} {n : Nat} (he : e = .returned (.slice (some ⟨g2, 0, none⟩) n c)) (hn : n = 5 ∨ n = 6) (hl : l.length = 6) (ho : w'.ownsRow w.heap.size 3 1 (.slice (some ⟨g2, 0, none⟩) 6 c) 6 (ivs l)) (hi : i' ≤ zs.length) (hC : Cursor w' g A cap zs i' h') (hg : w.grownBy w' (some g)) : AnOut w g A cap zs e w' := by
  refine ⟨l.take n, some ⟨g2, 0, none⟩, c, i', h', ?_, ?_, ?_, fun b off hb => ?_, hi, hC, hg⟩
  · rw [List.length_take, hl, he]
    congr 2
    omega
  · rw [List.length_take]; omega
  · refine ⟨by rw [List.length_take]; omega, .inr ⟨g2, 0, rfl, ?_, fun j hj => ?_⟩⟩
    · exact (ho.lt g2 rfl).2
    · rw [List.length_take] at hj
      have h1 := (ho.cellAt j (by omega)).trans (ivs_at l j (by omega))
      rw [Nat.zero_add, h1, List.getD_eq_getElem?_getD, List.getD_eq_getElem?_getD, List.getElem?_take, if_pos (by omega)]
  · simp only [Option.some.injEq, Addr.mk.injEq] at hb
    have := (ho.lt g2 rfl).1
    omega

set_option maxRecDepth 100000 in
set_option maxHeartbeats 1000000 in
theorem l8any_ex (A : Option Addr) (cap : Nat) (zs : List Int) (i : Nat) (h : Int) (hi : i ≤ zs.length) (w : World) (g : Nat) (hC : Cursor w g A cap zs i h) :
    Calls Try.prog 80 #[.pointer (some ⟨g, 0, none⟩)] w (AnOut w g A cap zs) := by
  have LX := Lib.hid (l8lens_ex A cap zs i h hi w g hC)
  have hgw := hC.lt
  clear hC
  go_enter Try.func80, Try.ntmps80
  go_wp2_with fail
  refine LX.out.mono ?_
  rintro e w1 ⟨l, A1, c1, i1, h1, rfl, hl6, ho1, hi1, hC1, hg1⟩
  rcases id ho1.2 with ⟨_, h0⟩ | ⟨g2, cap2, cur2, hv2, hgb2, hg3, _⟩
  · exact absurd h0 (by decide)
  simp only [Value.slice.injEq] at hv2
  obtain ⟨rfl, -, rfl⟩ := hv2
  have hgs2 := heap_lt hg3
  have O1 := Lib.hid ho1; have G1 := Lib.hid hC1; have Q1 := Lib.hid hg1; have HL := Lib.hid hl6
  clear ho1 hC1 hg1 hl6 hg3 LX
  obtain ⟨x, i2, h2, x0, x9, _, l2, C2⟩ := below_det A cap zs i1 h1 hi1 12
  have HC2 := Lib.hid C2; clear C2
  by_cases hx0 : x = 0
  · subst hx0
    obtain ⟨k, i3, h3, k0, k9, _, l3, C3⟩ := below_det A cap zs i2 h2 l2 6
    have k9 := k9 (by decide)
    obtain ⟨k, rfl⟩ := Int.eq_ofNat_of_zero_le k0
    obtain ⟨p, i4, h4, hp, l4, C4⟩ := pickint_det A cap zs i3 h3 l3 [0, 1, 8, -1, 7] (by decide) (by decide)
    have HC3 := Lib.hid C3; have HC4 := Lib.hid C4
    clear C3 C4
    go_wp2_with fail
    refine (HC2.out _ _ G1.out).mono ?_
    rintro e w2 ⟨rfl, hC2, hg2⟩
    have G2 := Lib.hid hC2
    have Q2 := Lib.hid (Q1.out.trans hg2)
    have O2 := Lib.hid (World.ownsRow.kept O1.out hg2 (own_far O1.out hgw))
    clear hC2 hg2
    go_wp2_with fail
    refine (HC3.out _ _ G2.out).mono ?_
    rintro e w3 ⟨rfl, hC3, hg3⟩
    have G3 := Lib.hid hC3
    have Q3 := Lib.hid (Q2.out.trans hg3)
    have O3 := Lib.hid (World.ownsRow.kept O2.out hg3 (own_far O2.out hgw))
    clear hC3 hg3
    have G3a := Lib.hid (G3.out.alloc (.cells #[.int .i64 0, .int .i64 1, .int .i64 8, .int .i64 (-1), .int .i64 7] 3))
    have Q3a := Lib.hid (grown_alloc Q3.out (.cells #[.int .i64 0, .int .i64 1, .int .i64 8, .int .i64 (-1), .int .i64 7] 3))
    have O3a := Lib.hid (O3.out.alloc (.cells #[.int .i64 0, .int .i64 1, .int .i64 8, .int .i64 (-1), .int .i64 7] 3))
    have hne : w3.heap.size ≠ g := by have := G3.out.lt; omega
    go_wp2_with fail
    refine (HC4.out _ _ w3.heap.size G3a.out (heap_alloc_new w3 _) hne).mono ?_
    rintro e w4 ⟨rfl, hC4, hg4⟩
    have G4 := Lib.hid hC4
    have Q4 := Lib.hid (Q3a.out.trans hg4)
    have O4 := Lib.hid (World.ownsRow.kept O3a.out hg4 (own_far O3a.out hgw))
    clear hC4 hg4
    obtain ⟨v, hv⟩ : ∃ v, v = [0, 1, 8, -1, (7 : Int)].getD p 0 := ⟨_, rfl⟩
    rw [← hv]
    obtain ⟨b0, ck⟩ : ∃ b0 : Int, w4.cell? ⟨g2, k, none⟩ = some (.int .i64 b0) := ⟨_, (O4.out.cellAt k (by omega)).trans (ivs_at l k (by have := HL.out; omega))⟩
    have zk := O4.out.frozenAt k
    have s1 := (O4.out.stored k (.int .i64 v)).1
    rw [ivs_set] at s1
    have O5 := Lib.hid s1
    have G5 := Lib.hid (cursor_new G4.out (b := g2) (by omega) k (.int .i64 v))
    have Q5 := Lib.hid (grown_new Q4.out (b := g2) hgb2 k (.int .i64 v))
    clear s1 hv
    go_wp2
    go_ret
    exact anOut_of rfl (.inr rfl) (by rw [List.length_set]; exact HL.out) O5.out l4 G5.out Q5.out
  · have q0 : (x == 0) = false := by rw [beq_eq_false_iff_ne]; exact hx0
    by_cases hx1 : x = 1
    · subst hx1
      go_wp2_with fail
      refine (HC2.out _ _ G1.out).mono ?_
      rintro e w2 ⟨rfl, hC2, hg2⟩
      have G2 := Lib.hid hC2
      have Q2 := Lib.hid (Q1.out.trans hg2)
      have O2 := Lib.hid (World.ownsRow.kept O1.out hg2 (own_far O1.out hgw))
      have hcap : 6 ≤ c1 := by
        rcases O1.out.2 with ⟨_, h0⟩ | ⟨g', cap', cur', h1, _, _, h4, _⟩
        · exact absurd h0 (by decide)
        · simp only [Value.slice.injEq] at h1
          omega
      clear hC2 hg2
      go_wp2
      go_ret
      exact anOut_of rfl (.inl rfl) HL.out O2.out l2 G2.out Q2.out
    · have q1 : (x == 1) = false := by rw [beq_eq_false_iff_ne]; exact hx1
      go_wp2_with fail
      refine (HC2.out _ _ G1.out).mono ?_
      rintro e w2 ⟨rfl, hC2, hg2⟩
      have G2 := Lib.hid hC2
      have Q2 := Lib.hid (Q1.out.trans hg2)
      have O2 := Lib.hid (World.ownsRow.kept O1.out hg2 (own_far O1.out hgw))
      clear hC2 hg2
      go_wp2
      go_ret
      exact anOut_of rfl (.inr rfl) HL.out O2.out l2 G2.out Q2.out

end Go.Proofs.Ytgacldhpohnpaaa
