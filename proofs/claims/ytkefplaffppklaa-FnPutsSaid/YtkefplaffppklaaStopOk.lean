/-
  Contracts of StopOk, in both texts, and the walk of its exact law. Condition: the string is no longer than 1048576 bytes (the law asks no more).
-/
import Derived.Test.YtkefplaffppklaaReaderLaws
namespace Go.Proofs.Ytkefplaffppklaa
open Go.RowKit
set_option linter.unusedVariables false

/-- What StopOk answers. -/
def soV (s : ByteArray) (a : Int) : Int :=
  if leftV s a = 0 then 1 else if leftV s a ≤ 8 ∧ bitV s a = 1 ∧ zaV s (a + 1) = leftV s a - 1 then 0 else 6

theorem leftV_range (s : ByteArray) (a : Int) (hs : s.size ≤ 1048576) : 0 ≤ leftV s a ∧ leftV s a ≤ 8388608 := by
  unfold leftV
  cases h : rdOk s a with
  | true => have := (rdOk_true s a).1 h; simp; omega
  | false => simp
theorem leftV_pos (s : ByteArray) (a : Int) (h : leftV s a ≠ 0) : 0 ≤ a ∧ a < 8 * (s.size : Int) ∧ leftV s a = 8 * (s.size : Int) - a ∧ leftV s (a + 1) = leftV s a - 1 ∧ rdOk s a = true := by
  unfold leftV at h
  cases hk : rdOk s a with
  | false => rw [hk] at h; simp at h
  | true =>
    rw [hk] at h
    have h1 := (rdOk_true s a).1 hk
    have h2 : a < 8 * (s.size : Int) := by simp at h; omega
    have h3 : rdOk s (a + 1) = true := (rdOk_true s (a + 1)).2 (by omega)
    refine ⟨h1.1, h2, by rw [leftV, if_pos hk], ?_, rfl⟩
    rw [leftV, if_pos h3, leftV, if_pos hk]
    omega

set_option maxRecDepth 100000 in
set_option maxHeartbeats 400000 in
theorem impl_stopok_any (s : ByteArray) (a : Int) (hs : s.size ≤ 1048576) (w : World) :
    Calls Try.prog 16 #[.agg #[.string s, .int .i64 a]] w fun e w' => e = .returned (.int .i64 (soV s a)) ∧ Below w.heap.size w w' := by
  have HL := Lib.hid (impl_left_any s a hs)
  have LR := leftV_range s a hs
  by_cases h0 : leftV s a = 0
  · have hv : soV s a = 1 := by rw [soV, if_pos h0]
    rw [hv]
    rw [h0] at HL
    clear hv h0 LR
    go_enter Try.func16, Try.ntmps16
    go_wp2_with fail
    refine (HL.out _).mono ?_
    rintro e w1 ⟨rfl, hb⟩
    have B := Lib.hid (below_step (below_new w _) hb); clear hb
    go_wp2
    go_ret
    exact ⟨rfl, B.out⟩
  · obtain ⟨a0, a1, h2, h3, hk⟩ := leftV_pos s a h0
    have hs63 : (s.size : Int) ≤ 1048576 := by omega
    have wa : (Lit.int .i64 a).wf = true := by
      have e1 : IntKind.i64.min = -9223372036854775808 := rfl
      have e2 : IntKind.i64.max = 9223372036854775807 := rfl
      simp [Lit.wf, e1, e2]; omega
    have HB := Lib.hid (impl_bitat_any s a hs wa)
    have HZ := Lib.hid (impl_zeros_any s (a + 1) hs)
    obtain ⟨L, hL⟩ : ∃ L, L = leftV s a := ⟨_, rfl⟩
    obtain ⟨b, hb⟩ : ∃ b, b = bitV s a := ⟨_, rfl⟩
    obtain ⟨z, hz⟩ : ∃ z, z = zaV s (a + 1) := ⟨_, rfl⟩
    have hv : soV s a = if L ≤ 8 ∧ b = 1 ∧ z = L - 1 then 0 else 6 := by rw [soV, if_neg h0, hL, hb, hz]
    rw [hv]
    rw [← hL] at HL h0 LR
    rw [← hb] at HB
    rw [← hz] at HZ
    obtain ⟨LR0, LR1⟩ := LR
    have q0 : (L == 0) = false := by rw [beq_eq_false_iff_ne]; exact h0
    clear hL hb hz hv h2 h3 hk h0 wa
    by_cases c1 : L ≤ 8
    · have q1 : decide (8 < L) = false := by simp; omega
      by_cases c2 : b = 1
      · subst c2
        by_cases c3 : z = L - 1
        · have q3 : (z != L - 1) = false := by rw [bne_eq_false_iff_eq]; exact c3
          rw [if_pos ⟨c1, rfl, c3⟩]
          have C3 := Lib.hid c3; clear c3
          go_enter Try.func16, Try.ntmps16
          go_wp2_with fail
          refine (HL.out _).mono ?_
          rintro e w1 ⟨rfl, hb⟩
          obtain ⟨x0, x1⟩ := box2_kept hb
          have B := Lib.hid (below_step (below_new w _) hb); clear hb
          go_wp2_with fail
          refine (HB.out _).mono ?_
          rintro e w' ⟨rfl, rfl⟩
          go_wp2_with fail
          refine (HZ.out _).mono ?_
          rintro e w2 ⟨rfl, hb⟩
          have B2 := Lib.hid (below_step B.out hb); clear hb B x0 x1
          go_wp2
          go_ret
          exact ⟨rfl, B2.out⟩
        · have q3 : (z != L - 1) = true := by rw [bne_iff_ne]; exact c3
          rw [if_neg (fun h => c3 h.2.2)]
          have C3 := Lib.hid c3; clear c3
          go_enter Try.func16, Try.ntmps16
          go_wp2_with fail
          refine (HL.out _).mono ?_
          rintro e w1 ⟨rfl, hb⟩
          obtain ⟨x0, x1⟩ := box2_kept hb
          have B := Lib.hid (below_step (below_new w _) hb); clear hb
          go_wp2_with fail
          refine (HB.out _).mono ?_
          rintro e w' ⟨rfl, rfl⟩
          go_wp2_with fail
          refine (HZ.out _).mono ?_
          rintro e w2 ⟨rfl, hb⟩
          have B2 := Lib.hid (below_step B.out hb); clear hb B x0 x1
          go_wp2
          go_ret
          exact ⟨rfl, B2.out⟩
      · have q2 : (b != 1) = true := by rw [bne_iff_ne]; exact c2
        rw [if_neg (fun h => c2 h.2.1)]
        go_enter Try.func16, Try.ntmps16
        go_wp2_with fail
        refine (HL.out _).mono ?_
        rintro e w1 ⟨rfl, hb⟩
        obtain ⟨x0, x1⟩ := box2_kept hb
        have B := Lib.hid (below_step (below_new w _) hb); clear hb
        go_wp2_with fail
        refine (HB.out _).mono ?_
        rintro e w' ⟨rfl, rfl⟩
        go_wp2
        go_ret
        exact ⟨rfl, B.out⟩
    · have q1 : decide (8 < L) = true := by simp; omega
      rw [if_neg (fun h => c1 h.1)]
      go_enter Try.func16, Try.ntmps16
      go_wp2_with fail
      refine (HL.out _).mono ?_
      rintro e w1 ⟨rfl, hb⟩
      obtain ⟨x0, x1⟩ := box2_kept hb
      have B := Lib.hid (below_step (below_new w _) hb); clear hb
      go_wp2
      go_ret
      exact ⟨rfl, B.out⟩

theorem frozen2 {w : World} {g : Nat} {u v : Value} {T : TypeId} (h : w.heap[g]? = some (.cells #[u, v] T (0, 0))) : w.frozen? ⟨g, 0, none⟩ = false ∧ w.frozen? ⟨g, 1, none⟩ = false :=
  ⟨frozen_of_row w g 0 _ _ h, frozen_of_row w g 1 _ _ h⟩
theorem held2_drew {w w1 : World} {g : Nat} {u v : Value} (h : w1.cell? ⟨g, 0, none⟩ = some u ∧ w1.cell? ⟨g, 1, none⟩ = some v ∧ Below w.heap.size w w1) : w1.drew.cell? ⟨g, 0, none⟩ = some u ∧ w1.drew.cell? ⟨g, 1, none⟩ = some v ∧ Below w.heap.size w w1.drew :=
  ⟨h.1, h.2.1, h.2.2.drew⟩
theorem held2_below {w w1 : World} {g : Nat} {u v : Value} (h : w1.cell? ⟨g, 0, none⟩ = some u ∧ w1.cell? ⟨g, 1, none⟩ = some v ∧ Below w.heap.size w w1) : Below w.heap.size w w1 := h.2.2
theorem held2 {w w1 w2 : World} {g : Nat} {u v : Value} (h : w1.cell? ⟨g, 0, none⟩ = some u ∧ w1.cell? ⟨g, 1, none⟩ = some v ∧ Below w.heap.size w w1) (hb : Below w1.heap.size w1 w2) :
    w2.cell? ⟨g, 0, none⟩ = some u ∧ w2.cell? ⟨g, 1, none⟩ = some v ∧ Below w.heap.size w w2 := by
  have h0 := World.block_lt_of_cell? w1 _ h.1
  exact ⟨(hb.cell (p := ⟨g, 0, none⟩) h0).trans h.1, (hb.cell (p := ⟨g, 1, none⟩) h0).trans h.2.1, below_step h.2.2 hb⟩

set_option maxRecDepth 100000 in
set_option maxHeartbeats 400000 in
theorem spec_stopok_any (s : ByteArray) (a : Int) (hs : s.size ≤ 1048576) (w : World) :
    Calls Try.prog 17 #[.agg #[.string s, .int .i64 a]] w fun e w' => e = .returned (.int .i64 (soV s a)) ∧ Below w.heap.size w w' := by
  have HO := Lib.hid (spec_readerok_any s a hs)
  have HL := Lib.hid (spec_left_any s a hs)
  have LR := leftV_range s a hs
  cases hk : rdOk s a with
  | false =>
    have h0 : leftV s a = 0 := by rw [leftV, hk]; rfl
    have hv : soV s a = 1 := by rw [soV, if_pos h0]
    rw [hv]
    rw [hk] at HO
    clear hv h0 LR hk
    go_enter Try.func17, Try.ntmps17
    go_wp2_with fail
    refine (HO.out _).mono ?_
    rintro e w1 ⟨rfl, hb⟩
    have B := Lib.hid (below_step (below_new w _) hb); clear hb
    go_wp2
    go_ret
    exact ⟨rfl, B.out⟩
  | true =>
    rw [hk] at HO
    by_cases h0 : leftV s a = 0
    · have hv : soV s a = 1 := by rw [soV, if_pos h0]
      rw [hv]
      rw [h0] at HL
      clear hv h0 LR hk
      go_enter Try.func17, Try.ntmps17
      go_wp2_with fail
      refine (HO.out _).mono ?_
      rintro e w1 ⟨rfl, hb⟩
      obtain ⟨x0, x1⟩ := box2_kept hb
      have B := Lib.hid (below_step (below_new w _) hb); clear hb
      go_wp2_with fail
      refine (HL.out _).mono ?_
      rintro e w2 ⟨rfl, hb⟩
      have B2 := Lib.hid (below_step B.out hb); clear hb B x0 x1
      go_wp2
      go_ret
      exact ⟨rfl, B2.out⟩
    · obtain ⟨a0, a1, h2, h3, _⟩ := leftV_pos s a h0
      have hs63 : (s.size : Int) ≤ 1048576 := by omega
      have HB := Lib.hid (spec_bitat_any s a hs)
      have HZ := Lib.hid (spec_zeros_any s (a + 1) hs)
      have HL2 := Lib.hid (spec_left_any s (a + 1) hs)
      rw [h3] at HL2
      obtain ⟨L, hL⟩ : ∃ L, L = leftV s a := ⟨_, rfl⟩
      obtain ⟨b, hb⟩ : ∃ b, b = bitV s a := ⟨_, rfl⟩
      obtain ⟨z, hz⟩ : ∃ z, z = zaV s (a + 1) := ⟨_, rfl⟩
      have hv : soV s a = if L ≤ 8 ∧ b = 1 ∧ z = L - 1 then 0 else 6 := by rw [soV, if_neg h0, hL, hb, hz]
      rw [hv]
      rw [← hL] at HL h0 LR HL2
      rw [← hb] at HB
      rw [← hz] at HZ
      obtain ⟨LR0, LR1⟩ := LR
      have q0 : (L == 0) = false := by rw [beq_eq_false_iff_ne]; exact h0
      clear hL hb hz hv h2 h3 hk h0
      by_cases c2 : b = 1
      · subst c2
        by_cases c1 : L ≤ 8
        · have q1 : decide (8 < L) = false := by simp; omega
          obtain ⟨M, hM⟩ : ∃ M, M = L - 1 := ⟨_, rfl⟩
          rw [← hM] at HL2
          have hv : (if L ≤ 8 ∧ (1 : Int) = 1 ∧ z = L - 1 then (0 : Int) else 6) = if z = M then 0 else 6 := by
            by_cases c3 : z = M
            · rw [if_pos ⟨c1, rfl, by omega⟩, if_pos c3]
            · rw [if_neg (fun h => c3 (by omega)), if_neg c3]
          rw [hv]
          clear hv hM
          have HE : Hid ((z != M) = false ∧ (if z = M then (0 : Int) else 6) = 0 ∨ (z != M) = true ∧ (if z = M then (0 : Int) else 6) = 6) := by
            by_cases c3 : z = M
            · exact Lib.hid (.inl ⟨by rw [bne_eq_false_iff_eq]; exact c3, by rw [if_pos c3]⟩)
            · exact Lib.hid (.inr ⟨by rw [bne_iff_ne]; exact c3, by rw [if_neg c3]⟩)
          obtain ⟨r, hr⟩ : ∃ r, r = (if z = M then (0 : Int) else 6) := ⟨_, rfl⟩
          rw [← hr] at HE ⊢
          clear hr
          go_enter Try.func17, Try.ntmps17
          go_wp2_with fail
          refine (HO.out _).mono ?_
          rintro e w1 ⟨rfl, hb⟩
          have H1 := Lib.hid (cell_kept (heap_alloc_new w _) hb)
          obtain ⟨x0, x1⟩ := cells2 H1.out
          have B1 := Lib.hid (below_step (below_new w _) hb); clear hb
          go_wp2_with fail
          refine (HL.out _).mono ?_
          rintro e w2 ⟨rfl, hb⟩
          have H2 := Lib.hid (cell_kept H1.out hb)
          have B2 := Lib.hid (below_step B1.out hb)
          clear hb x0 x1 H1 B1
          obtain ⟨x0, x1⟩ := cells2 H2.out
          go_wp2_with fail
          refine (HB.out _).mono ?_
          rintro e w' ⟨rfl, rfl⟩
          go_wp2_with fail
          refine (HL.out _).mono ?_
          rintro e w3 ⟨rfl, hb⟩
          have H3 := Lib.hid (cell_kept H2.out hb)
          have B3 := Lib.hid (below_step B2.out hb)
          clear hb x0 x1 H2 B2
          obtain ⟨x0, x1⟩ := cells2 H3.out
          have fz := (frozen2 H3.out).2
          have h4 := heap_setCell_same w3 w.heap.size 1 _ _ (.int .i64 (a + 1)) H3.out
          obtain ⟨y0, y1⟩ := cells2 h4
          have hh : (w3.setCell ⟨w.heap.size, 1, none⟩ (.int .i64 (a + 1))).cell? ⟨w.heap.size, 0, none⟩ = some (.string s) ∧ (w3.setCell ⟨w.heap.size, 1, none⟩ (.int .i64 (a + 1))).cell? ⟨w.heap.size, 1, none⟩ = some (.int .i64 (a + 1)) ∧ Below w.heap.size w (w3.setCell ⟨w.heap.size, 1, none⟩ (.int .i64 (a + 1))) :=
            ⟨y0, y1, Below.setCell B3.out (p := ⟨w.heap.size, 1, none⟩) (Nat.le_refl _) _⟩
          have HH := Lib.hid hh
          clear hh y0 y1 h4
          go_wp2
          have hh := HH.out
          clear HH x0 x1
          go_region_held3 (fun w' => w'.cell? ⟨w.heap.size, 0, none⟩ = some (.string s) ∧ w'.cell? ⟨w.heap.size, 1, none⟩ = some (.int .i64 (a + 1)) ∧ Below w.heap.size w w')
            (first | (refine held2_drew ?_; assumption) | (refine held2 ?_ (by assumption); assumption))
            (first | (go_at_call 42; with_reducible refine (HZ.out _).mono ?_; rintro e w' ⟨rfl, hb'⟩) | (go_at_call 40; with_reducible refine (HL2.out _).mono ?_; rintro e w' ⟨rfl, hb'⟩))
          rcases HE.out with ⟨q3, rfl⟩ | ⟨q3, rfl⟩
          · go_wp2
            go_ret
            exact ⟨rfl, held2_below (by assumption)⟩
          · go_wp2
            go_ret
            exact ⟨rfl, held2_below (by assumption)⟩
        · have q1 : decide (8 < L) = true := by simp; omega
          rw [if_neg (fun h => c1 h.1)]
          go_enter Try.func17, Try.ntmps17
          go_wp2_with fail
          refine (HO.out _).mono ?_
          rintro e w1 ⟨rfl, hb⟩
          have H1 := Lib.hid (cell_kept (heap_alloc_new w _) hb)
          obtain ⟨x0, x1⟩ := cells2 H1.out
          have B1 := Lib.hid (below_step (below_new w _) hb); clear hb
          go_wp2_with fail
          refine (HL.out _).mono ?_
          rintro e w2 ⟨rfl, hb⟩
          have H2 := Lib.hid (cell_kept H1.out hb)
          have B2 := Lib.hid (below_step B1.out hb)
          clear hb x0 x1 H1 B1
          obtain ⟨x0, x1⟩ := cells2 H2.out
          go_wp2_with fail
          refine (HB.out _).mono ?_
          rintro e w' ⟨rfl, rfl⟩
          go_wp2_with fail
          refine (HL.out _).mono ?_
          rintro e w3 ⟨rfl, hb⟩
          have B3 := Lib.hid (below_step B2.out hb)
          clear hb x0 x1 H2 B2
          go_wp2
          go_ret
          exact ⟨rfl, B3.out⟩
      · have q2 : (b != 1) = true := by rw [bne_iff_ne]; exact c2
        rw [if_neg (fun h => c2 h.2.1)]
        go_enter Try.func17, Try.ntmps17
        go_wp2_with fail
        refine (HO.out _).mono ?_
        rintro e w1 ⟨rfl, hb⟩
        have H1 := Lib.hid (cell_kept (heap_alloc_new w _) hb)
        obtain ⟨x0, x1⟩ := cells2 H1.out
        have B1 := Lib.hid (below_step (below_new w _) hb); clear hb
        go_wp2_with fail
        refine (HL.out _).mono ?_
        rintro e w2 ⟨rfl, hb⟩
        have H2 := Lib.hid (cell_kept H1.out hb)
        have B2 := Lib.hid (below_step B1.out hb)
        clear hb x0 x1 H1 B1
        obtain ⟨x0, x1⟩ := cells2 H2.out
        go_wp2_with fail
        refine (HB.out _).mono ?_
        rintro e w' ⟨rfl, rfl⟩
        go_wp2
        go_ret
        exact ⟨rfl, B2.out⟩
set_option maxRecDepth 100000 in
set_option maxHeartbeats 400000 in
/-- The law's own walk. -/
theorem fnExactStopOk_walk (s : ByteArray) (a : Int) (hm : s.size ≤ maxLen) (wa : (Lit.int .i64 a).wf = true) (w : World) :
    Calls Try.prog 6 #[.agg #[.string s, .int .i64 a]] w fun e w' => e = .returned (.bool true) ∧ Below w.heap.size w w' := by
  have HZ := Lib.hid (szreader_any s a (by unfold maxLen at hm; omega))
  have HT := Lib.hid (toreader_any s a)
  clear hm wa
  by_cases hbig : 1048576 < s.size
  · rw [if_pos hbig] at HZ
    go_enter Try.func6, Try.ntmps6
    go_wp2_with fail
    refine (HZ.out _).mono ?_
    rintro e w1 ⟨rfl, hb⟩
    have B := Lib.hid (below_step (below_new w _) hb); clear hb
    go_wp2
    go_ret
    exact ⟨rfl, B.out⟩
  · rw [if_neg hbig] at HZ
    have SA := Lib.hid (spec_stopok_any s a (by omega))
    have IA := Lib.hid (impl_stopok_any s a (by omega))
    obtain ⟨v, hv⟩ : ∃ v, v = soV s a := ⟨_, rfl⟩
    rw [← hv] at SA IA
    have q1 : (v != v) = false := by simp
    clear hv
    go_enter Try.func6, Try.ntmps6
    go_wp2_with fail
    refine (HZ.out _).mono ?_
    rintro e w1 ⟨rfl, hb⟩
    have H := Lib.hid (cell_kept (heap_alloc_new w _) hb)
    have B := Lib.hid (below_step (below_new w _) hb); clear hb
    obtain ⟨c0, c1⟩ := cells2 H.out
    go_wp2_with fail
    refine (HT.out _).mono ?_
    rintro e w2 ⟨rfl, hb⟩
    have H1 := Lib.hid (cell_kept H.out hb)
    have B1 := Lib.hid (below_step B.out hb)
    clear hb c0 c1 H B
    have H := H1; have B := B1
    clear H1 B1
    obtain ⟨c0, c1⟩ := cells2 H.out
    go_wp2_with fail
    refine (SA.out _).mono ?_
    rintro e w3 ⟨rfl, hb⟩
    have H2 := Lib.hid (cell_kept H.out hb)
    have B2 := Lib.hid (below_step B.out hb)
    clear hb c0 c1 H B
    have H := H2; have B := B2
    clear H2 B2
    obtain ⟨c0, c1⟩ := cells2 H.out
    go_wp2_with fail
    refine (HT.out _).mono ?_
    rintro e w4 ⟨rfl, hb⟩
    have H3 := Lib.hid (cell_kept H.out hb)
    have B3 := Lib.hid (below_step B.out hb)
    clear hb c0 c1 H B
    have H := H3; have B := B3
    clear H3 B3
    obtain ⟨c0, c1⟩ := cells2 H.out
    go_wp2_with fail
    refine (IA.out _).mono ?_
    rintro e w5 ⟨rfl, hb⟩
    have H4 := Lib.hid (cell_kept H.out hb)
    have B4 := Lib.hid (below_step B.out hb)
    clear hb c0 c1 H B
    have H := H4; have B := B4
    clear H4 B4
    go_wp2
    go_ret
    exact ⟨rfl, B.out⟩
end Go.Proofs.Ytkefplaffppklaa
