/-
  Contracts of chapter 3's draws: a reader, a reader with a number of bits: each returns, and its answer depends on the input's bytes alone. Condition: the input is no longer than 1048576 bytes.
  Contracts of chapter 2's draws as wholes: a text, a number with a width: each returns, and its answer depends on the input's bytes alone. Condition: the input is no longer than 1048576 bytes.
  Contracts of chapter 6's draw of a number. Condition: the input is no longer than 1048576 bytes.
-/
import Derived.Test.YtgacldhpohnpaaaDrawA
import Derived.Test.YtgacldhpohnpaaaRead
namespace Go.Proofs.Ytgacldhpohnpaaa
open Go.RowKit
set_option linter.unusedVariables false

/-- A sequence out of a step. -/
theorem seq_from {σ : Type} (P : σ → Prop) (R : σ → σ → Prop) (s0 : σ) (h0 : P s0) (step : ∀ s, P s → ∃ s', P s' ∧ R s s') : ∃ f : Nat → σ, f 0 = s0 ∧ (∀ n, P (f n)) ∧ ∀ n, R (f n) (f (n + 1)) := by
  have hs : ∀ s : { s // P s }, ∃ s' : { s // P s }, R s.1 s'.1 := fun s => by
    obtain ⟨s', h1, h2⟩ := step s.1 s.2
    exact ⟨⟨s', h1⟩, h2⟩
  obtain ⟨F, hF⟩ := Classical.axiomOfChoice hs
  refine ⟨fun n => (Nat.rec (motive := fun _ => { s // P s }) ⟨s0, h0⟩ (fun _ s => F s) n).1, rfl, fun n => Subtype.property _, fun n => hF _⟩

/-- A block of the call's own stands behind what writes to the cursor and to new memory alone. -/
theorem grown_at {w w' : World} {g b : Nat} {o : Obj} (h : w.heap[b]? = some o) (hg : w.grownBy w' (some g)) (hne : b ≠ g) : w'.heap[b]? = some o := by
  rw [hg.block b (heap_lt h) (by simp; omega)]; exact h
/-- A write to a block that is newer than the world at the call. -/
theorem grown_new {w w' : World} {g b : Nat} (h : w.grownBy w' (some g)) (hb : w.heap.size ≤ b) (i : Nat) (u : Value) : w.grownBy (w'.setCell ⟨b, i, none⟩ u) (some g) :=
  ⟨h.os, h.tape, h.output, by simpa [World.setCell] using h.size, fun k hk hne => by
    rw [heap_setCell_other _ _ _ _ (by simp; omega)]
    exact h.block k hk hne⟩
theorem cursor_new {w : World} {g b : Nat} {A : Option Addr} {cap : Nat} {zs : List Int} {i : Nat} {h : Int} (hC : Cursor w g A cap zs i h) (hb : g < b) (j : Nat) (u : Value) : Cursor (w.setCell ⟨b, j, none⟩ u) g A cap zs i h :=
  hC.kept fun k hk => heap_setCell_other _ _ _ _ (by simp; omega)

theorem heap_keep' {w : World} {g : Nat} {o : Obj} (h : w.heap[g]? = some o) (x : Obj) : (w.alloc x).heap[g]? = some o := by
  rw [Below.heap_alloc _ _ _ (heap_lt h)]; exact h
/-- The byte that a step of the draw adds. -/
def stepB (x : Int) (k : Nat) : Int := [0, 1, 255, 128, x].getD k 0
theorem stepB_range (x : Int) (k : Nat) (h0 : 0 ≤ x) (h1 : x < 256) : 0 ≤ stepB x k ∧ stepB x k < 256 := by
  match k with
  | 0 => exact ⟨(by decide : (0 : Int) ≤ 0), (by decide : (0 : Int) < 256)⟩
  | 1 => exact ⟨(by decide : (0 : Int) ≤ 1), (by decide : (1 : Int) < 256)⟩
  | 2 => exact ⟨(by decide : (0 : Int) ≤ 255), (by decide : (255 : Int) < 256)⟩
  | 3 => exact ⟨(by decide : (0 : Int) ≤ 128), (by decide : (128 : Int) < 256)⟩
  | 4 => exact ⟨h0, h1⟩
  | k + 5 => exact ⟨by simp [stepB], by simp [stepB]⟩

set_option maxRecDepth 100000 in
set_option maxHeartbeats 1000000 in
theorem l3reader_det (A : Option Addr) (cap : Nat) (zs : List Int) (i : Nat) (h : Int) (hi : i ≤ zs.length) : ∃ (s : ByteArray) (a : Int) (i' : Nat) (h' : Int), s.size ≤ 8 ∧ -1 ≤ a ∧ a ≤ 65 ∧ i' ≤ zs.length ∧ ∀ (w : World) (g : Nat), Cursor w g A cap zs i h →
    Calls Try.prog 96 #[.pointer (some ⟨g, 0, none⟩)] w fun e w' => e = .returned (.agg #[.string s, .int .i64 a]) ∧ Cursor w' g A cap zs i' h' ∧ w.grownBy w' (some g) := by
  obtain ⟨N, i1, h1, a1, b1, _, l1, C1⟩ := below_det A cap zs i h hi 9
  have b1 := b1 (by decide)
  obtain ⟨N, rfl⟩ := Int.eq_ofNat_of_zero_le a1
  obtain ⟨f, f0, fP, fR⟩ := seq_from (σ := List UInt8 × Nat × Int) (fun s => s.2.1 ≤ zs.length) (fun s s' => ∃ (x : Int) (i1 : Nat) (h1 : Int) (k : Nat), 0 ≤ x ∧ x < 256 ∧ s'.1 = s.1 ++ [UInt8.ofNat (stepB x k).toNat] ∧
      (∀ (w : World) (g : Nat), Cursor w g A cap zs s.2.1 s.2.2 →
        Calls Try.prog 92 #[.pointer (some ⟨g, 0, none⟩), .int .i64 256] w fun e w' => e = .returned (.int .i64 x) ∧ Cursor w' g A cap zs i1 h1 ∧ w.grownBy w' (some g)) ∧
      (∀ (w : World) (g gl : Nat), Cursor w g A cap zs i1 h1 → w.heap[gl]? = some (.cells #[.int .i64 0, .int .i64 1, .int .i64 255, .int .i64 128, .int .i64 x] 3 (0, 0)) → gl ≠ g →
        Calls Try.prog 97 #[.pointer (some ⟨g, 0, none⟩), .slice (some ⟨gl, 0, none⟩) 5 5] w fun e w' => e = .returned (.int .i64 (stepB x k)) ∧ Cursor w' g A cap zs s'.2.1 s'.2.2 ∧ w.grownBy w' (some g))) ([], i1, h1) l1 (fun s hs => by
      obtain ⟨x, j1, g1, e0, e1, _, e2, C⟩ := below_det A cap zs s.2.1 s.2.2 hs 256
      obtain ⟨k, j2, g2, _, e4, D⟩ := pickint_det A cap zs j1 g1 e2 [0, 1, 255, 128, x] (by simp) (by simp)
      exact ⟨(s.1 ++ [UInt8.ofNat (stepB x k).toNat], j2, g2), e4, x, j1, g1, k, e0, e1 (by decide), rfl, C, D⟩)
  have flen : ∀ t, (f t).1.length = t := by
    intro t
    induction t with
    | zero => rw [f0]; rfl
    | succ t ih =>
      obtain ⟨x, _, _, _, _, _, hx, _⟩ := fR t
      rw [hx, List.length_append, ih]
      rfl
  obtain ⟨M, hM⟩ : ∃ M : Int, M = 8 * (N : Int) + 1 := ⟨_, rfl⟩
  obtain ⟨y, i3, h3, a3, b3, _, l3, C3⟩ := below_det A cap zs (f N).2.1 (f N).2.2 (fP N) M
  have b3 := b3 (by omega)
  obtain ⟨b, i4, h4, l4, C4⟩ := once_det A cap zs i3 h3 l3 14
  cases b with
  | false =>
    refine ⟨bs (f N).1, y, i4, h4, by rw [bs_size, flen]; omega, by omega, by omega, l4, fun w g hC => ?_⟩
    have hgw := hC.lt
    have HC := Lib.hid hC
    have HC1 := Lib.hid C1; have HC3 := Lib.hid C3; have HC4 := Lib.hid C4
    have HF0 := Lib.hid f0; have HFR := Lib.hid fR; have HFL := Lib.hid flen; have HM := Lib.hid hM
    clear hC C1 C3 C4 f0 fR flen fP hi l1 l3 l4 hM
    go_enter Try.func96, Try.ntmps96
    go_wp2_with fail
    refine (HC1.out _ _ (HC.out.alloc _)).mono ?_
    rintro e w1 ⟨rfl, hC1, hg1⟩
    have G1 := Lib.hid hC1; clear hC1
    have R1 := grown_at (heap_alloc_new w _) hg1 (by omega)
    have hgr1 : w.grownBy w1 (some g) := (World.grownBy_alloc w _ _).trans hg1
    clear hg1
    go_wp2
    go_loopw [3, 4] (fun sv n wr => ∃ t : Nat, t ≤ N ∧ n = .int .i64 ((N : Int) - (t : Int)) ∧ sv = .string (bs (f t).1) ∧ Cursor wr g A cap zs (f t).2.1 (f t).2.2 ∧ w.grownBy wr (some g) ∧ wr.heap[w.heap.size]? = some (.cells #[.string ⟨#[]⟩, .int .i64 0] 35 (0, 0)))
      (fun _ n _ => (intOf n).toNat)
    case atStart => exact ⟨0, Nat.zero_le _, by simp, by rw [HF0.out]; rfl, by rw [HF0.out]; exact G1.out, hgr1, R1⟩
    case round =>
      obtain ⟨t, ht, rfl, rfl, hCr, hgr, hR⟩ := hrel
      have GR := Lib.hid hCr; clear hCr
      have HGR := Lib.hid hgr; clear hgr
      have HR := Lib.hid hR; clear hR
      have hsz : (bs (f t).1).size = t := by rw [bs_size, HFL.out]
      obtain ⟨S, hS⟩ : ∃ S, S = bs (f t).1 := ⟨_, rfl⟩
      rw [← hS] at hsz ⊢
      have HS := Lib.hid hS; clear hS
      by_cases hlt : t < N
      · obtain ⟨x, j1, g1, k, x0, x9, hx, hc1, hc2⟩ := HFR.out t
        have HX := Lib.hid hx; clear hx
        have HA := Lib.hid hc1; have HB := Lib.hid hc2; clear hc1 hc2
        obtain ⟨sb0, sb1⟩ := stepB_range x k x0 x9
        obtain ⟨y, hy⟩ : ∃ y, y = stepB x k := ⟨_, rfl⟩
        rw [← hy] at HX HB sb0 sb1
        clear hy
        have hpos : 0 < (N : Int) - (t : Int) := by omega
        have hs1 : (bs [UInt8.ofNat y.toNat]).size = 1 := rfl
        go_wp2_with fail
        refine (HA.out _ _ GR.out).mono ?_
        rintro e w2 ⟨rfl, hC2, hg2⟩
        have G2 := Lib.hid hC2; clear hC2
        go_wp2_with fail
        refine (HB.out _ _ _ (G2.out.alloc _) (heap_alloc_new w2 _) (by have := G2.out.lt; omega)).mono ?_
        rintro e w3 ⟨rfl, hC3, hg3⟩
        have G3 := Lib.hid hC3; clear hC3
        have hcv := conv_byte Try.underlying22 Try.underlying5 Try.underlying9 w3 y sb0 sb1
        have Q2 := Lib.hid (hg2.trans ((World.grownBy_alloc w2 _ _).trans hg3)); clear hg2 hg3
        go_wp2
        go_roundw
        case rel =>
          refine ⟨t + 1, by omega, by go_num, ?_, G3.out.alloc _, grown_alloc (HGR.out.trans Q2.out) _, ?_⟩
          · rw [HS.out, HX.out, bs_append]
          · exact heap_keep' (grown_at HR.out Q2.out (by omega)) _
        case measure => simp [intOf]; omega
      · obtain rfl : t = N := by omega
        have hM8 : wrap64 (8 * (t : Int) + 1) = M := by rw [HM.out]; unfold wrap64; omega
        have hM9 : 8 * (t : Int) + 1 = M := by rw [HM.out]
        go_wp2_with fail
        refine (HC3.out _ _ GR.out).mono ?_
        rintro e w4 ⟨rfl, hC4, hg4⟩
        have G4 := Lib.hid hC4; clear hC4
        have R4 := Lib.hid (grown_at HR.out hg4 (by omega))
        have Q4 := Lib.hid (HGR.out.trans hg4); clear hg4
        go_wp2_with fail
        refine (HC4.out _ _ (G4.out.alloc _)).mono ?_
        rintro e w5 ⟨rfl, hC5, hg5⟩
        have G5 := Lib.hid hC5; clear hC5
        have hg4 := G4.out.lt
        have S5 := Lib.hid (grown_at (heap_alloc_new w4 _) hg5 (by omega))
        have R5 := Lib.hid (grown_at (heap_keep' R4.out _) hg5 (by omega))
        have Q5 := Lib.hid ((grown_alloc Q4.out _).trans hg5); clear hg5
        have hne : w.heap.size ≠ w4.heap.size := by have := heap_lt R4.out; omega
        obtain ⟨c0, c1⟩ := cells2 S5.out
        obtain ⟨d0, d1⟩ := cells2 R5.out
        have f1 := frozen_of_row w5 _ 0 _ _ R5.out
        have f2 := frozen_of_row w5 _ 1 _ _ R5.out
        go_wp2
        have hout := block_set2 R5.out (.string S) (.int .i64 y)
        obtain ⟨e0, e1⟩ := cells2 hout
        exact bodyPost_ret (v := .agg #[.string S, .int .i64 y]) (by simp [results, Try.results96, go_sem, e0, e1]) rfl ⟨by rw [HS.out], cursor_new (cursor_new G5.out hgw _ _) hgw _ _, grown_new (grown_new Q5.out (Nat.le_refl _) _ _) (Nat.le_refl _) _ _⟩
  | true =>
    obtain ⟨c, i5, h5, hc, l5, C5⟩ := pickint_det A cap zs i4 h4 l4 [-1, M] (by simp) (by simp)
    have hcr : -1 ≤ [-1, M].getD c 0 ∧ [-1, M].getD c 0 ≤ 65 := by
      have : c = 0 ∨ c = 1 := by simp at hc; omega
      rcases this with rfl | rfl <;> simp <;> omega
    obtain ⟨u, hu⟩ : ∃ u, u = [-1, M].getD c 0 := ⟨_, rfl⟩
    rw [← hu] at hcr C5
    clear hu hc
    refine ⟨bs (f N).1, u, i5, h5, by rw [bs_size, flen]; omega, by omega, by omega, l5, fun w g hC => ?_⟩
    have hgw := hC.lt
    have HC := Lib.hid hC
    have HC1 := Lib.hid C1; have HC3 := Lib.hid C3; have HC4 := Lib.hid C4; have HC5 := Lib.hid C5
    have HF0 := Lib.hid f0; have HFR := Lib.hid fR; have HFL := Lib.hid flen; have HM := Lib.hid hM
    clear hC C1 C3 C4 f0 fR flen fP hi l1 l3 l4 hM C5 l5
    go_enter Try.func96, Try.ntmps96
    go_wp2_with fail
    refine (HC1.out _ _ (HC.out.alloc _)).mono ?_
    rintro e w1 ⟨rfl, hC1, hg1⟩
    have G1 := Lib.hid hC1; clear hC1
    have R1 := grown_at (heap_alloc_new w _) hg1 (by omega)
    have hgr1 : w.grownBy w1 (some g) := (World.grownBy_alloc w _ _).trans hg1
    clear hg1
    go_wp2
    go_loopw [3, 4] (fun sv n wr => ∃ t : Nat, t ≤ N ∧ n = .int .i64 ((N : Int) - (t : Int)) ∧ sv = .string (bs (f t).1) ∧ Cursor wr g A cap zs (f t).2.1 (f t).2.2 ∧ w.grownBy wr (some g) ∧ wr.heap[w.heap.size]? = some (.cells #[.string ⟨#[]⟩, .int .i64 0] 35 (0, 0)))
      (fun _ n _ => (intOf n).toNat)
    case atStart => exact ⟨0, Nat.zero_le _, by simp, by rw [HF0.out]; rfl, by rw [HF0.out]; exact G1.out, hgr1, R1⟩
    case round =>
      obtain ⟨t, ht, rfl, rfl, hCr, hgr, hR⟩ := hrel
      have GR := Lib.hid hCr; clear hCr
      have HGR := Lib.hid hgr; clear hgr
      have HR := Lib.hid hR; clear hR
      have hsz : (bs (f t).1).size = t := by rw [bs_size, HFL.out]
      obtain ⟨S, hS⟩ : ∃ S, S = bs (f t).1 := ⟨_, rfl⟩
      rw [← hS] at hsz ⊢
      have HS := Lib.hid hS; clear hS
      by_cases hlt : t < N
      · obtain ⟨x, j1, g1, k, x0, x9, hx, hc1, hc2⟩ := HFR.out t
        have HX := Lib.hid hx; clear hx
        have HA := Lib.hid hc1; have HB := Lib.hid hc2; clear hc1 hc2
        obtain ⟨sb0, sb1⟩ := stepB_range x k x0 x9
        obtain ⟨y, hy⟩ : ∃ y, y = stepB x k := ⟨_, rfl⟩
        rw [← hy] at HX HB sb0 sb1
        clear hy
        have hpos : 0 < (N : Int) - (t : Int) := by omega
        have hs1 : (bs [UInt8.ofNat y.toNat]).size = 1 := rfl
        go_wp2_with fail
        refine (HA.out _ _ GR.out).mono ?_
        rintro e w2 ⟨rfl, hC2, hg2⟩
        have G2 := Lib.hid hC2; clear hC2
        go_wp2_with fail
        refine (HB.out _ _ _ (G2.out.alloc _) (heap_alloc_new w2 _) (by have := G2.out.lt; omega)).mono ?_
        rintro e w3 ⟨rfl, hC3, hg3⟩
        have G3 := Lib.hid hC3; clear hC3
        have hcv := conv_byte Try.underlying22 Try.underlying5 Try.underlying9 w3 y sb0 sb1
        have Q2 := Lib.hid (hg2.trans ((World.grownBy_alloc w2 _ _).trans hg3)); clear hg2 hg3
        go_wp2
        go_roundw
        case rel =>
          refine ⟨t + 1, by omega, by go_num, ?_, G3.out.alloc _, grown_alloc (HGR.out.trans Q2.out) _, ?_⟩
          · rw [HS.out, HX.out, bs_append]
          · exact heap_keep' (grown_at HR.out Q2.out (by omega)) _
        case measure => simp [intOf]; omega
      · obtain rfl : t = N := by omega
        have hM8 : wrap64 (8 * (t : Int) + 1) = M := by rw [HM.out]; unfold wrap64; omega
        have hM9 : 8 * (t : Int) + 1 = M := by rw [HM.out]
        go_wp2_with fail
        refine (HC3.out _ _ GR.out).mono ?_
        rintro e w4 ⟨rfl, hC4, hg4⟩
        have G4 := Lib.hid hC4; clear hC4
        have R4 := Lib.hid (grown_at HR.out hg4 (by omega))
        have Q4 := Lib.hid (HGR.out.trans hg4); clear hg4
        go_wp2_with fail
        refine (HC4.out _ _ (G4.out.alloc _)).mono ?_
        rintro e w5 ⟨rfl, hC5, hg5⟩
        have G5 := Lib.hid hC5; clear hC5
        have hg4 := G4.out.lt
        have S5 := Lib.hid (grown_at (heap_alloc_new w4 _) hg5 (by omega))
        have R5 := Lib.hid (grown_at (heap_keep' R4.out _) hg5 (by omega))
        have Q5 := Lib.hid ((grown_alloc Q4.out _).trans hg5); clear hg5
        have hne : w.heap.size ≠ w4.heap.size := by have := heap_lt R4.out; omega
        go_wp2_with fail
        refine (HC5.out _ _ _ (G5.out.alloc _) (heap_alloc_new w5 _) (by have := G5.out.lt; omega)).mono ?_
        rintro e w6 ⟨rfl, hC6, hg6⟩
        have G6 := Lib.hid hC6; clear hC6
        have s6 := grown_at (heap_keep' S5.out _) hg6 (by omega)
        have R6 := Lib.hid (grown_at (heap_keep' R5.out _) hg6 (by omega))
        have Q6 := Lib.hid ((grown_alloc Q5.out _).trans hg6); clear hg6
        have f3 := frozen_of_row w6 _ 1 _ _ s6
        have S6 := Lib.hid s6; clear s6
        have hne' : ¬ w4.heap.size = w.heap.size := fun e => hne e.symm
        obtain ⟨c0, c1⟩ := cells2 S6.out
        obtain ⟨d0, d1⟩ := cells2 R6.out
        have f1 := frozen_of_row w6 _ 0 _ _ R6.out
        have f2 := frozen_of_row w6 _ 1 _ _ R6.out
        go_wp2
        have hr7 : (w6.setCell ⟨w4.heap.size, 1, none⟩ (.int .i64 u)).heap[w.heap.size]? = some (.cells #[.string ⟨#[]⟩, .int .i64 0] 35 (0, 0)) := by
          rw [heap_setCell_other _ _ _ _ (by simpa using hne)]; exact R6.out
        have hout := block_set2 hr7 (.string S) (.int .i64 u)
        obtain ⟨e0, e1⟩ := cells2 hout
        have hw4 : w.heap.size ≤ w4.heap.size := Nat.le_of_lt (heap_lt R4.out)
        exact bodyPost_ret (v := .agg #[.string S, .int .i64 u]) (by simp [results, Try.results96, go_sem, e0, e1]) rfl ⟨by rw [HS.out], cursor_new (cursor_new (cursor_new G6.out hg4 _ _) hgw _ _) hgw _ _, grown_new (grown_new (grown_new Q6.out hw4 _ _) (Nat.le_refl _) _ _) (Nat.le_refl _) _ _⟩

theorem nth_range (x : Int) (h0 : 0 ≤ x) (h1 : x < 20) (k : Nat) : -1 ≤ [0, 1, 3, 8, 9, 17, 32, 33, -1, x].getD k 0 ∧ [0, 1, 3, 8, 9, 17, 32, 33, -1, x].getD k 0 ≤ 33 := by
  match k with
  | 0 => simp
  | 1 => simp
  | 2 => simp
  | 3 => simp
  | 4 => simp
  | 5 => simp
  | 6 => simp
  | 7 => simp
  | 8 => simp
  | 9 => simp; omega
  | k + 10 => simp

/-- A byte of the input, or one that follows from it. -/
theorem at_det (A : Option Addr) (cap : Nat) (zs : List Int) (hz : zs.length ≤ 1048576) (i : Nat) (hi : i ≤ 1000) : ∃ x : Int, 0 ≤ x ∧ x < 256 ∧ ∀ w : World, Code w A zs →
    Calls Try.prog 29 #[.slice A zs.length cap, .int .i64 i] w fun e w' => e = .returned (.int .i64 x) ∧ w = w' := by
  by_cases h : i < zs.length
  · refine ⟨if 0 ≤ zs.getD i 0 ∧ zs.getD i 0 < 256 then zs.getD i 0 else 0, by split <;> omega, by split <;> omega, fun w hW => ?_⟩
    rw [if_pos (hW.bytes i h)]
    rcases hW.lies with h0 | ⟨b, off, rfl, _, hc⟩
    · rw [h0] at h; simp at h
    · have c0 := hc i h
      obtain ⟨v0, v9⟩ := hW.bytes i h
      clear hc hW
      obtain ⟨v, hv⟩ : ∃ v, v = zs.getD i 0 := ⟨_, rfl⟩
      obtain ⟨n, hn⟩ : ∃ n, n = zs.length := ⟨_, rfl⟩
      rw [← hv] at c0 v0 v9 ⊢
      rw [← hn] at h hz ⊢
      clear hv hn
      have hlt : (i : Int) < (n : Int) := by omega
      go_enter Try.func29, Try.ntmps29
      go_wp2
      go_ret
      exact ⟨rfl, rfl⟩
  · refine ⟨((i : Int) * 37 + (zs.length : Int) * 11) % 256, by omega, by omega, fun w hW => ?_⟩
    obtain ⟨n, hn⟩ : ∃ n, n = zs.length := ⟨_, rfl⟩
    rw [← hn] at h hz ⊢
    clear hn hW
    have hge : (n : Int) ≤ (i : Int) := by omega
    have ht : Int.tmod ((i : Int) * 37 + (n : Int) * 11) 256 = ((i : Int) * 37 + (n : Int) * 11) % 256 := Int.tmod_eq_emod_of_nonneg (by omega)
    go_enter Try.func29, Try.ntmps29
    go_wp2
    go_ret
    exact ⟨rfl, rfl⟩

end Go.Proofs.Ytgacldhpohnpaaa

namespace Go.Proofs.Ytgacldhpohnpaaa
open Go.RowKit
set_option linter.unusedVariables false

theorem pow_mono_i (k m : Nat) (h : k ≤ m) : (2 : Int) ^ k ≤ 2 ^ m := by have := Nat.pow_le_pow_right (n := 2) (by decide) h; exact_mod_cast this
theorem pow_pos_i (k : Nat) : (0 : Int) < 2 ^ k := by have := Nat.pow_pos (n := k) (show 0 < 2 by decide); exact_mod_cast this

end Go.Proofs.Ytgacldhpohnpaaa

namespace Go.Proofs.Ytgacldhpohnpaaa
open Go.RowKit
set_option linter.unusedVariables false

/-- The numbers that the draw picks from. -/
def num6 (x y : Int) : List Int := [0, 1, 2, 3, 6, 7, 14, 30, 31, 65534, 65535, -1, x, y]
theorem num6_bound (x y : Int) (hx0 : 0 ≤ x) (hx1 : x < 500) (hy0 : 0 ≤ y) (hy1 : y < 65535) (k : Nat) (hk : k < 14) : -1 ≤ (num6 x y).getD k 0 ∧ (num6 x y).getD k 0 ≤ 65535 := by
  unfold num6
  rcases (show k = 0 ∨ k = 1 ∨ k = 2 ∨ k = 3 ∨ k = 4 ∨ k = 5 ∨ k = 6 ∨ k = 7 ∨ k = 8 ∨ k = 9 ∨ k = 10 ∨ k = 11 ∨ k = 12 ∨ k = 13 by omega) with rfl | rfl | rfl | rfl | rfl | rfl | rfl | rfl | rfl | rfl | rfl | rfl | rfl | rfl
  all_goals (simp; try omega)

set_option maxRecDepth 100000 in
set_option maxHeartbeats 1000000 in
theorem l6num_det (A : Option Addr) (cap : Nat) (zs : List Int) (i : Nat) (h : Int) (hi : i ≤ zs.length) : ∃ (x : Int) (i' : Nat) (h' : Int), -1 ≤ x ∧ x ≤ 65535 ∧ i' ≤ zs.length ∧ ∀ (w : World) (g : Nat), Cursor w g A cap zs i h →
    Calls Try.prog 94 #[.pointer (some ⟨g, 0, none⟩)] w fun e w' => e = .returned (.int .i64 x) ∧ Cursor w' g A cap zs i' h' ∧ w.grownBy w' (some g) := by
  obtain ⟨x0, i1, h1, a1, b1, _, l1, C1⟩ := below_det A cap zs i h hi 500
  have b1 := b1 (by decide)
  obtain ⟨x1, i2, h2, a2, b2, _, l2, C2⟩ := below_det A cap zs i1 h1 l1 65535
  have b2 := b2 (by decide)
  obtain ⟨k, i3, h3, hk, l3, C3⟩ := pickint_det A cap zs i2 h2 l2 (num6 x0 x1) (by simp [num6]) (by simp [num6])
  obtain ⟨n0, n1⟩ := num6_bound x0 x1 a1 b1 a2 b2 k hk
  have HC1 := Lib.hid C1; have HC2 := Lib.hid C2; have HC3 := Lib.hid C3
  clear C1 C2 C3
  refine ⟨(num6 x0 x1).getD k 0, i3, h3, n0, n1, l3, fun w g hC => ?_⟩
  have HC := Lib.hid hC
  clear hC n0 n1 hk
  obtain ⟨v, hv⟩ : ∃ v, v = (num6 x0 x1).getD k 0 := ⟨_, rfl⟩
  rw [← hv] at HC3 ⊢
  clear hv
  go_enter Try.func94, Try.ntmps94
  go_wp2_with fail
  refine (HC1.out _ _ HC.out).mono ?_
  rintro e w1 ⟨rfl, hC1, hg1⟩
  have G1 := Lib.hid hC1; clear hC1
  go_wp2_with fail
  refine (HC2.out _ _ G1.out).mono ?_
  rintro e w2 ⟨rfl, hC2, hg2⟩
  have G2 := Lib.hid hC2; clear hC2
  go_wp2_with fail
  refine (HC3.out _ _ _ (G2.out.alloc _) (heap_alloc_new w2 _) (by have := G2.out.lt; omega)).mono ?_
  rintro e w3 ⟨rfl, hC3, hg3⟩
  have G3 := Lib.hid hC3; clear hC3
  go_wp2
  go_ret
  exact ⟨rfl, G3.out, (grown_alloc (hg1.trans hg2) _).trans hg3⟩

end Go.Proofs.Ytgacldhpohnpaaa
