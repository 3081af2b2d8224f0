/-
  Contracts of chapter 5's draws: bits, bits with a number and a width, a reader near an end: each returns, and its answer depends on the input's bytes alone. Condition: the input is no longer than 1048576 bytes.
-/
import Derived.Test.YtgacldhpohnpaaaDrawA
import Derived.Test.YtgacldhpohnpaaaDrawB
import Derived.Test.YtgacldhpohnpaaaPut
import Derived.Test.YtgacldhpohnpaaaRead
namespace Go.Proofs.Ytgacldhpohnpaaa
open Go.RowKit
set_option linter.unusedVariables false

/-- `append` of one integer, with what it writes to. -/
theorem append_int {P : Program} {w : World} (w0 : World) {ops : Array Oper} {rest : List Oper} {o : Oper} {a : Act} {Q : Exit → Act → World → Prop} (hgd : o.guard = none) (s x : Operand) (t : TypeId)
    (ho : o.op = .call { callee := .builtin .append, args := #[s, x], argTypes := #[t, t] })
    (base : Nat) (i : TypeInfo) (ht : P.underlying t = some (.slice 3)) (hi : P.info? 3 = some i) (hz : i.zero = some (.int .i64 0))
    (hsize : i.size = 1) (hby : i.bytes = 8)
    (v : Value) (n : Nat) (l : List Int) (hs : a.eval s = v) (hown : w0.ownsRow base 3 1 v n (ivs l))
    (y : Int) (hw : w = w0.alloc (.cells #[.int .i64 y] 3)) (hx : a.eval x = .slice (some ⟨w0.heap.size, 0, none⟩) 1 1)
    (hn : n ≤ 1000000) (hb : base ≤ w0.heap.size)
    (h : ∀ v' w', w'.ownsRow base 3 1 v' (n + 1) (ivs (l ++ [y])) → (w0.alloc (.cells #[.int .i64 y] 3)).grownBy w' v.ownBlock → wpList P ops Q rest (a.put o.dst v') w') :
    wpList P ops Q (o :: rest) a w := by
  subst hw
  refine wpList_append_own (w0.alloc (.cells #[.int .i64 y] 3)) hgd s x t ho base 3 i (.int .i64 0) 1 8 ht hi hz hsize hby rfl (by decide) v n (ivs l) hs (hown.alloc _)
    ⟨w0.heap.size, 0, none⟩ 1 1 [.int .i64 y] hx rfl ?_ ?_ (by unfold maxLen; omega) (by omega) (by simp; omega) ?_
  · intro j u hj
    match j, hj with
    | 0, hj =>
      simp at hj
      subst hj
      simp [Addr.add, World.cell?_alloc_mark]
  · intro u hu
    simp at hu
    subst hu
    rfl
  · intro v' w' hown' hg _
    refine h v' w' ?_ hg
    rw [ivs_append]
    exact hown'

theorem getD_set_self (l : List Int) (k : Nat) (x : Int) : (l.set k x).length = l.length := List.length_set

set_option maxRecDepth 100000 in
set_option maxHeartbeats 1000000 in
theorem l2bits_det (A : Option Addr) (cap : Nat) (zs : List Int) (i : Nat) (h : Int) (hi : i ≤ zs.length) (most : Nat) (hmost : most ≤ 1000) : ∃ (l : List Int) (i' : Nat) (h' : Int), l.length ≤ most ∧ i' ≤ zs.length ∧ ∀ (w : World) (g : Nat), Cursor w g A cap zs i h →
    Calls Try.prog 91 #[.pointer (some ⟨g, 0, none⟩), .int .i64 most] w fun e w' => ∃ A' cap', e = .returned (.slice A' l.length cap') ∧ OwnI w' w.heap.size A' cap' l ∧ Cursor w' g A cap zs i' h' ∧ w.grownBy w' (some g) := by
  obtain ⟨N, i1, h1, a1, b1, _, l1, C1⟩ := below_det A cap zs i h hi ((most : Int) + 1)
  have b1 := b1 (by omega)
  obtain ⟨N, rfl⟩ := Int.eq_ofNat_of_zero_le a1
  obtain ⟨f, f0, fP, fR⟩ := seq_from (σ := List Int × Nat × Int) (fun s => s.2.1 ≤ zs.length) (fun s s' => ∃ (x : Int), s'.1 = s.1 ++ [x] ∧
      (∀ (w : World) (g : Nat), Cursor w g A cap zs s.2.1 s.2.2 →
        Calls Try.prog 92 #[.pointer (some ⟨g, 0, none⟩), .int .i64 2] w fun e w' => e = .returned (.int .i64 x) ∧ Cursor w' g A cap zs s'.2.1 s'.2.2 ∧ w.grownBy w' (some g))) ([], i1, h1) l1 (fun s hs => by
      obtain ⟨x, j1, g1, e0, e1, _, e2, C⟩ := below_det A cap zs s.2.1 s.2.2 hs 2
      exact ⟨(s.1 ++ [x], j1, g1), e2, x, rfl, C⟩)
  have flen : ∀ t, (f t).1.length = t := by
    intro t
    induction t with
    | zero => rw [f0]; rfl
    | succ t ih =>
      obtain ⟨x, hx, _⟩ := fR t
      rw [hx, List.length_append, ih]
      rfl
  obtain ⟨b, i4, h4, l4, C4⟩ := once_det A cap zs (f N).2.1 (f N).2.2 (fP N) 12
  by_cases hN : N = 0
  · have HNN := Lib.hid hN; clear hN
    refine ⟨(f N).1, (f N).2.1, (f N).2.2, by rw [flen]; omega, fP N, fun w g hC => ?_⟩
    have hgw := hC.lt
    have HC := Lib.hid hC
    have HC1 := Lib.hid C1; have HC4 := Lib.hid C4
    have HF0 := Lib.hid f0; have HFR := Lib.hid fR; have HFL := Lib.hid flen
    clear hC C1 C4 f0 fR flen fP hi l1 l4
    obtain ⟨i0, hii, hz0, hz1, hz2⟩ := info_parts Try.iinfo
    have o0 := own_ints w w.heap.size [] (Nat.le_refl _) (by simp)
    go_enter Try.func91, Try.ntmps91
    go_wp2_with fail
    refine (HC1.out _ _ (HC.out.alloc _)).mono ?_
    rintro e w1 ⟨rfl, hC1, hg1⟩
    have G1 := Lib.hid hC1; clear hC1
    have O1 := Lib.hid (World.ownsRow.kept o0 hg1 (own_far o0 hgw)); clear o0
    have hgr1 : w.grownBy w1 (some g) := (World.grownBy_alloc w _ _).trans hg1
    clear hg1
    go_wp2
    go_loopw [5, 6] (fun v n wr => ∃ t : Nat, t ≤ N ∧ n = .int .i64 ((N : Int) - (t : Int)) ∧ wr.ownsRow w.heap.size 3 1 v t (ivs (f t).1) ∧ Cursor wr g A cap zs (f t).2.1 (f t).2.2 ∧ w.grownBy wr (some g))
      (fun _ n _ => (intOf n).toNat)
    case atStart => exact ⟨0, Nat.zero_le _, by simp, by rw [HF0.out]; exact O1.out, by rw [HF0.out]; exact G1.out, hgr1⟩
    case round =>
      obtain ⟨t, ht, rfl, hown, hCr, hgr⟩ := hrel
      have GR := Lib.hid hCr; clear hCr
      have HGR := Lib.hid hgr; clear hgr
      have HO := Lib.hid hown; clear hown
      by_cases hlt : t < N
      · obtain ⟨x, hx, hc1⟩ := HFR.out t
        have HX := Lib.hid hx; clear hx
        have HA := Lib.hid hc1; clear hc1
        have hpos : decide (0 < (N : Int) - (t : Int)) = true := by simp; omega
        go_wp2_with fail
        refine (HA.out _ _ GR.out).mono ?_
        rintro e w2 ⟨rfl, hC2, hg2⟩
        have G2 := Lib.hid hC2; clear hC2
        have O2 := Lib.hid (World.ownsRow.kept HO.out hg2 (own_far HO.out hgw))
        have Q2 := Lib.hid (HGR.out.trans hg2); clear hg2
        go_wp2_with (at_builtin; refine append_int w2 rfl (.tmp 16) (.tmp 19) 39 rfl w.heap.size i0 Try.underlying39 hii hz0 hz1 hz2 _ _ _ rfl O2.out x rfl rfl (by omega) Q2.out.size ?_; intro v' w' hown' hg')
        go_roundw
        case rel =>
          refine ⟨t + 1, by omega, by go_num, by rw [HX.out]; exact hown', (G2.out.alloc _).grown hg' fun k hk => ?_, grown_own (grown_alloc Q2.out _) hg' fun k hk => ?_⟩
          · have := (O2.out.lt k hk).1; omega
          · exact (O2.out.lt k hk).1
        case measure => simp [intOf]; omega
      · obtain rfl : t = N := by omega
        obtain rfl : t = 0 := HNN.out
        have hpos : decide (0 < ((0 : Nat) : Int) - ((0 : Nat) : Int)) = false := by simp
        rcases id HO.out.2 with ⟨rfl, h0⟩ | ⟨gb, cb, cur, rfl, hcu⟩
        · clear h0
          go_wp2
          go_ret
          have hl : (f 0).1 = [] := List.eq_nil_of_length_eq_zero (HFL.out 0)
          rw [hl]
          exact ⟨none, 0, rfl, World.ownsRow_nil _ _ _ _, GR.out, HGR.out⟩
        · clear hcu
          have hO : OwnI wr w.heap.size (some ⟨gb, 0, none⟩) cb (f 0).1 := by unfold OwnI; rw [HFL.out]; exact HO.out
          go_wp2
          go_ret
          refine ⟨some ⟨gb, 0, none⟩, cb, ?_, hO, GR.out, HGR.out⟩
          rw [HFL.out]
          rfl
  · cases b with
    | false =>
      refine ⟨(f N).1, i4, h4, by rw [flen]; omega, l4, fun w g hC => ?_⟩
      have hgw := hC.lt
      have HC := Lib.hid hC
      have HC1 := Lib.hid C1; have HC4 := Lib.hid C4
      have HF0 := Lib.hid f0; have HFR := Lib.hid fR; have HFL := Lib.hid flen
      clear hC C1 C4 f0 fR flen fP hi l1 l4
      obtain ⟨i0, hii, hz0, hz1, hz2⟩ := info_parts Try.iinfo
      have o0 := own_ints w w.heap.size [] (Nat.le_refl _) (by simp)
      go_enter Try.func91, Try.ntmps91
      go_wp2_with fail
      refine (HC1.out _ _ (HC.out.alloc _)).mono ?_
      rintro e w1 ⟨rfl, hC1, hg1⟩
      have G1 := Lib.hid hC1; clear hC1
      have O1 := Lib.hid (World.ownsRow.kept o0 hg1 (own_far o0 hgw)); clear o0
      have hgr1 : w.grownBy w1 (some g) := (World.grownBy_alloc w _ _).trans hg1
      clear hg1
      go_wp2
      go_loopw [5, 6] (fun v n wr => ∃ t : Nat, t ≤ N ∧ n = .int .i64 ((N : Int) - (t : Int)) ∧ wr.ownsRow w.heap.size 3 1 v t (ivs (f t).1) ∧ Cursor wr g A cap zs (f t).2.1 (f t).2.2 ∧ w.grownBy wr (some g))
        (fun _ n _ => (intOf n).toNat)
      case atStart => exact ⟨0, Nat.zero_le _, by simp, by rw [HF0.out]; exact O1.out, by rw [HF0.out]; exact G1.out, hgr1⟩
      case round =>
        obtain ⟨t, ht, rfl, hown, hCr, hgr⟩ := hrel
        have GR := Lib.hid hCr; clear hCr
        have HGR := Lib.hid hgr; clear hgr
        have HO := Lib.hid hown; clear hown
        by_cases hlt : t < N
        · obtain ⟨x, hx, hc1⟩ := HFR.out t
          have HX := Lib.hid hx; clear hx
          have HA := Lib.hid hc1; clear hc1
          have hpos : decide (0 < (N : Int) - (t : Int)) = true := by simp; omega
          go_wp2_with fail
          refine (HA.out _ _ GR.out).mono ?_
          rintro e w2 ⟨rfl, hC2, hg2⟩
          have G2 := Lib.hid hC2; clear hC2
          have O2 := Lib.hid (World.ownsRow.kept HO.out hg2 (own_far HO.out hgw))
          have Q2 := Lib.hid (HGR.out.trans hg2); clear hg2
          go_wp2_with (at_builtin; refine append_int w2 rfl (.tmp 16) (.tmp 19) 39 rfl w.heap.size i0 Try.underlying39 hii hz0 hz1 hz2 _ _ _ rfl O2.out x rfl rfl (by omega) Q2.out.size ?_; intro v' w' hown' hg')
          go_roundw
          case rel =>
            refine ⟨t + 1, by omega, by go_num, by rw [HX.out]; exact hown', (G2.out.alloc _).grown hg' fun k hk => ?_, grown_own (grown_alloc Q2.out _) hg' fun k hk => ?_⟩
            · have := (O2.out.lt k hk).1; omega
            · exact (O2.out.lt k hk).1
          case measure => simp [intOf]; omega
        · obtain rfl : t = N := by omega
          have hpos : decide (0 < (t : Int) - (t : Int)) = false := by simp
          rcases id HO.out.2 with ⟨rfl, h0⟩ | ⟨gb, cb, cur, rfl, hcu⟩
          · exact absurd h0 hN
          · clear hcu
            have hO : OwnI wr w.heap.size (some ⟨gb, 0, none⟩) cb (f t).1 := by unfold OwnI; rw [HFL.out]; exact HO.out
            have HO2 := Lib.hid hO; clear hO
            have hq : decide (0 < (t : Int)) = true := by simp; omega
            go_wp2_with fail
            refine (HC4.out _ _ GR.out).mono ?_
            rintro e w4 ⟨rfl, hC4, hg4⟩
            have G4 := Lib.hid hC4; clear hC4
            have O4 : Hid (OwnI w4 w.heap.size (some ⟨gb, 0, none⟩) cb (f t).1) := Lib.hid (World.ownsRow.kept HO2.out hg4 (own_far HO2.out hgw))
            have Q4 := Lib.hid (HGR.out.trans hg4); clear hg4
            go_wp2
            go_ret
            refine ⟨some ⟨gb, 0, none⟩, cb, ?_, O4.out, G4.out, Q4.out⟩
            rw [HFL.out]
            rfl
    | true =>
      obtain ⟨K, i5, h5, a5, b5, _, l5, C5⟩ := below_det A cap zs i4 h4 l4 (N : Int)
      have b5 := b5 (by omega)
      obtain ⟨K, rfl⟩ := Int.eq_ofNat_of_zero_le a5
      have hKN : K < N := by omega
      obtain ⟨d, i6, h6, hd, l6, C6⟩ := pickint_det A cap zs i5 h5 l5 [-1, 2] (by simp) (by simp)
      obtain ⟨y, hy⟩ : ∃ y, y = [-1, 2].getD d (0 : Int) := ⟨_, rfl⟩
      rw [← hy] at C6
      clear hy hd a5 b5
      refine ⟨(f N).1.set K y, i6, h6, by rw [List.length_set, flen]; omega, l6, fun w g hC => ?_⟩
      have hgw := hC.lt
      have HC := Lib.hid hC
      have HC1 := Lib.hid C1; have HC4 := Lib.hid C4; have HC5 := Lib.hid C5; have HC6 := Lib.hid C6
      have HF0 := Lib.hid f0; have HFR := Lib.hid fR; have HFL := Lib.hid flen
      clear hC C1 C4 f0 fR flen fP hi l1 l4 C5 C6 l5 l6
      obtain ⟨i0, hii, hz0, hz1, hz2⟩ := info_parts Try.iinfo
      have o0 := own_ints w w.heap.size [] (Nat.le_refl _) (by simp)
      go_enter Try.func91, Try.ntmps91
      go_wp2_with fail
      refine (HC1.out _ _ (HC.out.alloc _)).mono ?_
      rintro e w1 ⟨rfl, hC1, hg1⟩
      have G1 := Lib.hid hC1; clear hC1
      have O1 := Lib.hid (World.ownsRow.kept o0 hg1 (own_far o0 hgw)); clear o0
      have hgr1 : w.grownBy w1 (some g) := (World.grownBy_alloc w _ _).trans hg1
      clear hg1
      go_wp2
      go_loopw [5, 6] (fun v n wr => ∃ t : Nat, t ≤ N ∧ n = .int .i64 ((N : Int) - (t : Int)) ∧ wr.ownsRow w.heap.size 3 1 v t (ivs (f t).1) ∧ Cursor wr g A cap zs (f t).2.1 (f t).2.2 ∧ w.grownBy wr (some g))
        (fun _ n _ => (intOf n).toNat)
      case atStart => exact ⟨0, Nat.zero_le _, by simp, by rw [HF0.out]; exact O1.out, by rw [HF0.out]; exact G1.out, hgr1⟩
      case round =>
        obtain ⟨t, ht, rfl, hown, hCr, hgr⟩ := hrel
        have GR := Lib.hid hCr; clear hCr
        have HGR := Lib.hid hgr; clear hgr
        have HO := Lib.hid hown; clear hown
        by_cases hlt : t < N
        · obtain ⟨x, hx, hc1⟩ := HFR.out t
          have HX := Lib.hid hx; clear hx
          have HA := Lib.hid hc1; clear hc1
          have hpos : decide (0 < (N : Int) - (t : Int)) = true := by simp; omega
          go_wp2_with fail
          refine (HA.out _ _ GR.out).mono ?_
          rintro e w2 ⟨rfl, hC2, hg2⟩
          have G2 := Lib.hid hC2; clear hC2
          have O2 := Lib.hid (World.ownsRow.kept HO.out hg2 (own_far HO.out hgw))
          have Q2 := Lib.hid (HGR.out.trans hg2); clear hg2
          go_wp2_with (at_builtin; refine append_int w2 rfl (.tmp 16) (.tmp 19) 39 rfl w.heap.size i0 Try.underlying39 hii hz0 hz1 hz2 _ _ _ rfl O2.out x rfl rfl (by omega) Q2.out.size ?_; intro v' w' hown' hg')
          go_roundw
          case rel =>
            refine ⟨t + 1, by omega, by go_num, by rw [HX.out]; exact hown', (G2.out.alloc _).grown hg' fun k hk => ?_, grown_own (grown_alloc Q2.out _) hg' fun k hk => ?_⟩
            · have := (O2.out.lt k hk).1; omega
            · exact (O2.out.lt k hk).1
          case measure => simp [intOf]; omega
        · obtain rfl : t = N := by omega
          have hpos : decide (0 < (t : Int) - (t : Int)) = false := by simp
          rcases id HO.out.2 with ⟨rfl, h0⟩ | ⟨gb, cb, cur, rfl, hcu⟩
          · exact absurd h0 hN
          · clear hcu
            have hq : decide (0 < (t : Int)) = true := by simp; omega
            go_wp2_with fail
            refine (HC4.out _ _ GR.out).mono ?_
            rintro e w4 ⟨rfl, hC4, hg4⟩
            have G4 := Lib.hid hC4; clear hC4
            have O4 := Lib.hid (World.ownsRow.kept HO.out hg4 (own_far HO.out hgw))
            have Q4 := Lib.hid (HGR.out.trans hg4); clear hg4
            go_wp2_with fail
            refine (HC5.out _ _ G4.out).mono ?_
            rintro e w5 ⟨rfl, hC5, hg5⟩
            have G5 := Lib.hid hC5; clear hC5
            have O5 := Lib.hid (World.ownsRow.kept O4.out hg5 (own_far O4.out hgw))
            have Q5 := Lib.hid (Q4.out.trans hg5); clear hg5
            go_wp2_with fail
            refine (HC6.out _ _ _ (G5.out.alloc _) (heap_alloc_new w5 _) (by have := G5.out.lt; omega)).mono ?_
            rintro e w6 ⟨rfl, hC6, hg6⟩
            have G6 := Lib.hid hC6; clear hC6
            have o5 := World.ownsRow.alloc O5.out (.cells ([-1, 2].map (Value.int .i64)).toArray 3)
            have O6 := Lib.hid (World.ownsRow.kept o5 hg6 (own_far o5 hgw))
            have Q6 := Lib.hid ((grown_alloc Q5.out _).trans hg6); clear hg6 o5
            obtain ⟨b0, hc⟩ : ∃ b0 : Int, w6.cell? ⟨gb, K, none⟩ = some (.int .i64 b0) := ⟨_, (O6.out.cellAt K (by omega)).trans (ivs_at _ K (by rw [HFL.out]; omega))⟩
            have hz := O6.out.frozenAt K
            have s1 := O6.out.stored K (.int .i64 y)
            rw [ivs_set] at s1
            have hblk : w.heap.size ≤ gb := (O6.out.lt gb rfl).1
            have S1 := Lib.hid s1.1; clear s1
            go_wp2
            go_ret
            refine ⟨some ⟨gb, 0, none⟩, cb, ?_, ?_, cursor_new G6.out (by omega) _ _, grown_new Q6.out hblk _ _⟩
            · rw [List.length_set, HFL.out]
              rfl
            · unfold OwnI
              rw [List.length_set, HFL.out]
              exact S1.out

-- END L2BITS
theorem bytesR_size (l : List Int) : (bytesR l).size ≤ l.length := by
  unfold bytesR
  split
  · rw [bs_size, bytesL_len]
    omega
  · simp [bs_size]
theorem stopS_size (l : List Int) : (stopS l).size ≤ l.length + 8 := by
  have h := bytesR_size (stopL l)
  rw [stopL_len] at h
  have := (stopN_gt l.length).2.1
  unfold stopS
  omega

end Go.Proofs.Ytgacldhpohnpaaa
