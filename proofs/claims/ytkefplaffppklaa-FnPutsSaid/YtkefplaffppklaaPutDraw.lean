/-
  Contracts of chapter 5's draws: bits, bits with a number and a width, a reader near an end: each returns, and its answer depends on the input's bytes alone. Condition: the input is no longer than 1048576 bytes.
-/
import Derived.Test.YtkefplaffppklaaDraw2
import Derived.Test.YtkefplaffppklaaBitsDraw
import Derived.Test.YtkefplaffppklaaReadDraw
import Derived.Test.YtkefplaffppklaaStopped
import Derived.Test.YtkefplaffppklaaStopOk
namespace Go.Proofs.Ytkefplaffppklaa
open Go.RowKit
set_option linter.unusedVariables false

/-- `append` of one integer, with what it writes to. -/
theorem append_int {P : Program} {w : World} (w0 : World) {ops : Array Oper} {rest : List Oper} {o : Oper} {a : Act} {Q : Exit → Act → World → Prop} (hgd : o.guard = none) (s x : Operand) (t : TypeId)
    (ho : o.op = .call { callee := .builtin .append, args := #[s, x], argTypes := #[t, t] })
    (base : Nat) (i : TypeInfo) (ht : P.underlying t = some (.slice 3)) (hi : P.info? 3 = some i) (hz : i.zero = some (.int .i64 0))
    (hsize : i.size = 1) (hby : i.bytes = 8)
    (v : Value) (n : Nat) (l : List Int) (hs : a.eval s = v) (hown : w0.ownsRow base 3 1 v n (ivs l))
    (y : Int) (hw : w = w0.alloc (.cells #[.int .i64 y] 3)) (hx : a.eval x = .slice (some ⟨w0.heap.size, 0, none⟩) 1 1)
    (hn : n ≤ 1000000) (hb : base ≤ w0.heap.size)
    (h : ∀ v' w', w'.ownsRow base 3 1 v' (n + 1) (ivs (l ++ [y])) → (w0.alloc (.cells #[.int .i64 y] 3)).grownBy w' v.ownBlock → wpList P ops Q rest (a.put o.dst v') w') :
    wpList P ops Q (o :: rest) a w := by
  subst hw
  refine wpList_append_own (w0.alloc (.cells #[.int .i64 y] 3)) hgd s x t ho base 3 i (.int .i64 0) 1 8 ht hi hz hsize hby rfl (by decide) v n (ivs l) hs (hown.alloc _)
    ⟨w0.heap.size, 0, none⟩ 1 1 [.int .i64 y] hx rfl ?_ ?_ (by unfold maxLen; omega) (by omega) (by simp; omega) ?_
  · intro j u hj
    match j, hj with
    | 0, hj =>
      simp at hj
      subst hj
      simp [Addr.add, World.cell?_alloc_mark]
  · intro u hu
    simp at hu
    subst hu
    rfl
  · intro v' w' hown' hg _
    refine h v' w' ?_ hg
    rw [ivs_append]
    exact hown'

theorem getD_set_self (l : List Int) (k : Nat) (x : Int) : (l.set k x).length = l.length := List.length_set

set_option maxRecDepth 100000 in
set_option maxHeartbeats 1000000 in
theorem l2bits_det (A : Option Addr) (cap : Nat) (zs : List Int) (i : Nat) (h : Int) (hi : i ≤ zs.length) (most : Nat) (hmost : most ≤ 1000) : ∃ (l : List Int) (i' : Nat) (h' : Int), l.length ≤ most ∧ i' ≤ zs.length ∧ ∀ (w : World) (g : Nat), Cursor w g A cap zs i h →
    Calls Try.prog 25 #[.pointer (some ⟨g, 0, none⟩), .int .i64 most] w fun e w' => ∃ A' cap', e = .returned (.slice A' l.length cap') ∧ OwnI w' w.heap.size A' cap' l ∧ Cursor w' g A cap zs i' h' ∧ w.grownBy w' (some g) := by
  obtain ⟨N, i1, h1, a1, b1, _, l1, C1⟩ := below_det A cap zs i h hi ((most : Int) + 1)
  have b1 := b1 (by omega)
  obtain ⟨N, rfl⟩ := Int.eq_ofNat_of_zero_le a1
  obtain ⟨f, f0, fP, fR⟩ := seq_from (σ := List Int × Nat × Int) (fun s => s.2.1 ≤ zs.length) (fun s s' => ∃ (x : Int), s'.1 = s.1 ++ [x] ∧
      (∀ (w : World) (g : Nat), Cursor w g A cap zs s.2.1 s.2.2 →
        Calls Try.prog 43 #[.pointer (some ⟨g, 0, none⟩), .int .i64 2] w fun e w' => e = .returned (.int .i64 x) ∧ Cursor w' g A cap zs s'.2.1 s'.2.2 ∧ w.grownBy w' (some g))) ([], i1, h1) l1 (fun s hs => by
      obtain ⟨x, j1, g1, e0, e1, _, e2, C⟩ := below_det A cap zs s.2.1 s.2.2 hs 2
      exact ⟨(s.1 ++ [x], j1, g1), e2, x, rfl, C⟩)
  have flen : ∀ t, (f t).1.length = t := by
    intro t
    induction t with
    | zero => rw [f0]; rfl
    | succ t ih =>
      obtain ⟨x, hx, _⟩ := fR t
      rw [hx, List.length_append, ih]
      rfl
  obtain ⟨b, i4, h4, l4, C4⟩ := once_det A cap zs (f N).2.1 (f N).2.2 (fP N) 12
  by_cases hN : N = 0
  · have HNN := Lib.hid hN; clear hN
    refine ⟨(f N).1, (f N).2.1, (f N).2.2, by rw [flen]; omega, fP N, fun w g hC => ?_⟩
    have hgw := hC.lt
    have HC := Lib.hid hC
    have HC1 := Lib.hid C1; have HC4 := Lib.hid C4
    have HF0 := Lib.hid f0; have HFR := Lib.hid fR; have HFL := Lib.hid flen
    clear hC C1 C4 f0 fR flen fP hi l1 l4
    obtain ⟨i0, hii, hz0, hz1, hz2⟩ := info_parts Try.iinfo
    have o0 := own_ints w w.heap.size [] (Nat.le_refl _) (by simp)
    go_enter Try.func25, Try.ntmps25
    go_wp2_with fail
    refine (HC1.out _ _ (HC.out.alloc _)).mono ?_
    rintro e w1 ⟨rfl, hC1, hg1⟩
    have G1 := Lib.hid hC1; clear hC1
    have O1 := Lib.hid (World.ownsRow.kept o0 hg1 (own_far o0 hgw)); clear o0
    have hgr1 : w.grownBy w1 (some g) := (World.grownBy_alloc w _ _).trans hg1
    clear hg1
    go_wp2
    go_loopw [5, 6] (fun v n wr => ∃ t : Nat, t ≤ N ∧ n = .int .i64 ((N : Int) - (t : Int)) ∧ wr.ownsRow w.heap.size 3 1 v t (ivs (f t).1) ∧ Cursor wr g A cap zs (f t).2.1 (f t).2.2 ∧ w.grownBy wr (some g))
      (fun _ n _ => (intOf n).toNat)
    case atStart => exact ⟨0, Nat.zero_le _, by simp, by rw [HF0.out]; exact O1.out, by rw [HF0.out]; exact G1.out, hgr1⟩
    case round =>
      obtain ⟨t, ht, rfl, hown, hCr, hgr⟩ := hrel
      have GR := Lib.hid hCr; clear hCr
      have HGR := Lib.hid hgr; clear hgr
      have HO := Lib.hid hown; clear hown
      by_cases hlt : t < N
      · obtain ⟨x, hx, hc1⟩ := HFR.out t
        have HX := Lib.hid hx; clear hx
        have HA := Lib.hid hc1; clear hc1
        have hpos : decide (0 < (N : Int) - (t : Int)) = true := by simp; omega
        go_wp2_with fail
        refine (HA.out _ _ GR.out).mono ?_
        rintro e w2 ⟨rfl, hC2, hg2⟩
        have G2 := Lib.hid hC2; clear hC2
        have O2 := Lib.hid (World.ownsRow.kept HO.out hg2 (own_far HO.out hgw))
        have Q2 := Lib.hid (HGR.out.trans hg2); clear hg2
        go_wp2_with (at_builtin; refine append_int w2 rfl (.tmp 16) (.tmp 19) 24 rfl w.heap.size i0 Try.underlying24 hii hz0 hz1 hz2 _ _ _ rfl O2.out x rfl rfl (by omega) Q2.out.size ?_; intro v' w' hown' hg')
        go_roundw
        case rel =>
          refine ⟨t + 1, by omega, by go_num, by rw [HX.out]; exact hown', (G2.out.alloc _).grown hg' fun k hk => ?_, grown_own (grown_alloc Q2.out _) hg' fun k hk => ?_⟩
          · have := (O2.out.lt k hk).1; omega
          · exact (O2.out.lt k hk).1
        case measure => simp [intOf]; omega
      · obtain rfl : t = N := by omega
        obtain rfl : t = 0 := HNN.out
        have hpos : decide (0 < ((0 : Nat) : Int) - ((0 : Nat) : Int)) = false := by simp
        rcases id HO.out.2 with ⟨rfl, h0⟩ | ⟨gb, cb, cur, rfl, hcu⟩
        · clear h0
          go_wp2
          go_ret
          have hl : (f 0).1 = [] := List.eq_nil_of_length_eq_zero (HFL.out 0)
          rw [hl]
          exact ⟨none, 0, rfl, World.ownsRow_nil _ _ _ _, GR.out, HGR.out⟩
        · clear hcu
          have hO : OwnI wr w.heap.size (some ⟨gb, 0, none⟩) cb (f 0).1 := by unfold OwnI; rw [HFL.out]; exact HO.out
          go_wp2
          go_ret
          refine ⟨some ⟨gb, 0, none⟩, cb, ?_, hO, GR.out, HGR.out⟩
          rw [HFL.out]
          rfl
  · cases b with
    | false =>
      refine ⟨(f N).1, i4, h4, by rw [flen]; omega, l4, fun w g hC => ?_⟩
      have hgw := hC.lt
      have HC := Lib.hid hC
      have HC1 := Lib.hid C1; have HC4 := Lib.hid C4
      have HF0 := Lib.hid f0; have HFR := Lib.hid fR; have HFL := Lib.hid flen
      clear hC C1 C4 f0 fR flen fP hi l1 l4
      obtain ⟨i0, hii, hz0, hz1, hz2⟩ := info_parts Try.iinfo
      have o0 := own_ints w w.heap.size [] (Nat.le_refl _) (by simp)
      go_enter Try.func25, Try.ntmps25
      go_wp2_with fail
      refine (HC1.out _ _ (HC.out.alloc _)).mono ?_
      rintro e w1 ⟨rfl, hC1, hg1⟩
      have G1 := Lib.hid hC1; clear hC1
      have O1 := Lib.hid (World.ownsRow.kept o0 hg1 (own_far o0 hgw)); clear o0
      have hgr1 : w.grownBy w1 (some g) := (World.grownBy_alloc w _ _).trans hg1
      clear hg1
      go_wp2
      go_loopw [5, 6] (fun v n wr => ∃ t : Nat, t ≤ N ∧ n = .int .i64 ((N : Int) - (t : Int)) ∧ wr.ownsRow w.heap.size 3 1 v t (ivs (f t).1) ∧ Cursor wr g A cap zs (f t).2.1 (f t).2.2 ∧ w.grownBy wr (some g))
        (fun _ n _ => (intOf n).toNat)
      case atStart => exact ⟨0, Nat.zero_le _, by simp, by rw [HF0.out]; exact O1.out, by rw [HF0.out]; exact G1.out, hgr1⟩
      case round =>
        obtain ⟨t, ht, rfl, hown, hCr, hgr⟩ := hrel
        have GR := Lib.hid hCr; clear hCr
        have HGR := Lib.hid hgr; clear hgr
        have HO := Lib.hid hown; clear hown
        by_cases hlt : t < N
        · obtain ⟨x, hx, hc1⟩ := HFR.out t
          have HX := Lib.hid hx; clear hx
          have HA := Lib.hid hc1; clear hc1
          have hpos : decide (0 < (N : Int) - (t : Int)) = true := by simp; omega
          go_wp2_with fail
          refine (HA.out _ _ GR.out).mono ?_
          rintro e w2 ⟨rfl, hC2, hg2⟩
          have G2 := Lib.hid hC2; clear hC2
          have O2 := Lib.hid (World.ownsRow.kept HO.out hg2 (own_far HO.out hgw))
          have Q2 := Lib.hid (HGR.out.trans hg2); clear hg2
          go_wp2_with (at_builtin; refine append_int w2 rfl (.tmp 16) (.tmp 19) 24 rfl w.heap.size i0 Try.underlying24 hii hz0 hz1 hz2 _ _ _ rfl O2.out x rfl rfl (by omega) Q2.out.size ?_; intro v' w' hown' hg')
          go_roundw
          case rel =>
            refine ⟨t + 1, by omega, by go_num, by rw [HX.out]; exact hown', (G2.out.alloc _).grown hg' fun k hk => ?_, grown_own (grown_alloc Q2.out _) hg' fun k hk => ?_⟩
            · have := (O2.out.lt k hk).1; omega
            · exact (O2.out.lt k hk).1
          case measure => simp [intOf]; omega
        · obtain rfl : t = N := by omega
          have hpos : decide (0 < (t : Int) - (t : Int)) = false := by simp
          rcases id HO.out.2 with ⟨rfl, h0⟩ | ⟨gb, cb, cur, rfl, hcu⟩
          · exact absurd h0 hN
          · clear hcu
            have hO : OwnI wr w.heap.size (some ⟨gb, 0, none⟩) cb (f t).1 := by unfold OwnI; rw [HFL.out]; exact HO.out
            have HO2 := Lib.hid hO; clear hO
            have hq : decide (0 < (t : Int)) = true := by simp; omega
            go_wp2_with fail
            refine (HC4.out _ _ GR.out).mono ?_
            rintro e w4 ⟨rfl, hC4, hg4⟩
            have G4 := Lib.hid hC4; clear hC4
            have O4 : Hid (OwnI w4 w.heap.size (some ⟨gb, 0, none⟩) cb (f t).1) := Lib.hid (World.ownsRow.kept HO2.out hg4 (own_far HO2.out hgw))
            have Q4 := Lib.hid (HGR.out.trans hg4); clear hg4
            go_wp2
            go_ret
            refine ⟨some ⟨gb, 0, none⟩, cb, ?_, O4.out, G4.out, Q4.out⟩
            rw [HFL.out]
            rfl
    | true =>
      obtain ⟨K, i5, h5, a5, b5, _, l5, C5⟩ := below_det A cap zs i4 h4 l4 (N : Int)
      have b5 := b5 (by omega)
      obtain ⟨K, rfl⟩ := Int.eq_ofNat_of_zero_le a5
      have hKN : K < N := by omega
      obtain ⟨d, i6, h6, hd, l6, C6⟩ := pickint_det A cap zs i5 h5 l5 [-1, 2] (by simp) (by simp)
      obtain ⟨y, hy⟩ : ∃ y, y = [-1, 2].getD d (0 : Int) := ⟨_, rfl⟩
      rw [← hy] at C6
      clear hy hd a5 b5
      refine ⟨(f N).1.set K y, i6, h6, by rw [List.length_set, flen]; omega, l6, fun w g hC => ?_⟩
      have hgw := hC.lt
      have HC := Lib.hid hC
      have HC1 := Lib.hid C1; have HC4 := Lib.hid C4; have HC5 := Lib.hid C5; have HC6 := Lib.hid C6
      have HF0 := Lib.hid f0; have HFR := Lib.hid fR; have HFL := Lib.hid flen
      clear hC C1 C4 f0 fR flen fP hi l1 l4 C5 C6 l5 l6
      obtain ⟨i0, hii, hz0, hz1, hz2⟩ := info_parts Try.iinfo
      have o0 := own_ints w w.heap.size [] (Nat.le_refl _) (by simp)
      go_enter Try.func25, Try.ntmps25
      go_wp2_with fail
      refine (HC1.out _ _ (HC.out.alloc _)).mono ?_
      rintro e w1 ⟨rfl, hC1, hg1⟩
      have G1 := Lib.hid hC1; clear hC1
      have O1 := Lib.hid (World.ownsRow.kept o0 hg1 (own_far o0 hgw)); clear o0
      have hgr1 : w.grownBy w1 (some g) := (World.grownBy_alloc w _ _).trans hg1
      clear hg1
      go_wp2
      go_loopw [5, 6] (fun v n wr => ∃ t : Nat, t ≤ N ∧ n = .int .i64 ((N : Int) - (t : Int)) ∧ wr.ownsRow w.heap.size 3 1 v t (ivs (f t).1) ∧ Cursor wr g A cap zs (f t).2.1 (f t).2.2 ∧ w.grownBy wr (some g))
        (fun _ n _ => (intOf n).toNat)
      case atStart => exact ⟨0, Nat.zero_le _, by simp, by rw [HF0.out]; exact O1.out, by rw [HF0.out]; exact G1.out, hgr1⟩
      case round =>
        obtain ⟨t, ht, rfl, hown, hCr, hgr⟩ := hrel
        have GR := Lib.hid hCr; clear hCr
        have HGR := Lib.hid hgr; clear hgr
        have HO := Lib.hid hown; clear hown
        by_cases hlt : t < N
        · obtain ⟨x, hx, hc1⟩ := HFR.out t
          have HX := Lib.hid hx; clear hx
          have HA := Lib.hid hc1; clear hc1
          have hpos : decide (0 < (N : Int) - (t : Int)) = true := by simp; omega
          go_wp2_with fail
          refine (HA.out _ _ GR.out).mono ?_
          rintro e w2 ⟨rfl, hC2, hg2⟩
          have G2 := Lib.hid hC2; clear hC2
          have O2 := Lib.hid (World.ownsRow.kept HO.out hg2 (own_far HO.out hgw))
          have Q2 := Lib.hid (HGR.out.trans hg2); clear hg2
          go_wp2_with (at_builtin; refine append_int w2 rfl (.tmp 16) (.tmp 19) 24 rfl w.heap.size i0 Try.underlying24 hii hz0 hz1 hz2 _ _ _ rfl O2.out x rfl rfl (by omega) Q2.out.size ?_; intro v' w' hown' hg')
          go_roundw
          case rel =>
            refine ⟨t + 1, by omega, by go_num, by rw [HX.out]; exact hown', (G2.out.alloc _).grown hg' fun k hk => ?_, grown_own (grown_alloc Q2.out _) hg' fun k hk => ?_⟩
            · have := (O2.out.lt k hk).1; omega
            · exact (O2.out.lt k hk).1
          case measure => simp [intOf]; omega
        · obtain rfl : t = N := by omega
          have hpos : decide (0 < (t : Int) - (t : Int)) = false := by simp
          rcases id HO.out.2 with ⟨rfl, h0⟩ | ⟨gb, cb, cur, rfl, hcu⟩
          · exact absurd h0 hN
          · clear hcu
            have hq : decide (0 < (t : Int)) = true := by simp; omega
            go_wp2_with fail
            refine (HC4.out _ _ GR.out).mono ?_
            rintro e w4 ⟨rfl, hC4, hg4⟩
            have G4 := Lib.hid hC4; clear hC4
            have O4 := Lib.hid (World.ownsRow.kept HO.out hg4 (own_far HO.out hgw))
            have Q4 := Lib.hid (HGR.out.trans hg4); clear hg4
            go_wp2_with fail
            refine (HC5.out _ _ G4.out).mono ?_
            rintro e w5 ⟨rfl, hC5, hg5⟩
            have G5 := Lib.hid hC5; clear hC5
            have O5 := Lib.hid (World.ownsRow.kept O4.out hg5 (own_far O4.out hgw))
            have Q5 := Lib.hid (Q4.out.trans hg5); clear hg5
            go_wp2_with fail
            refine (HC6.out _ _ _ (G5.out.alloc _) (heap_alloc_new w5 _) (by have := G5.out.lt; omega)).mono ?_
            rintro e w6 ⟨rfl, hC6, hg6⟩
            have G6 := Lib.hid hC6; clear hC6
            have o5 := World.ownsRow.alloc O5.out (.cells ([-1, 2].map (Value.int .i64)).toArray 3)
            have O6 := Lib.hid (World.ownsRow.kept o5 hg6 (own_far o5 hgw))
            have Q6 := Lib.hid ((grown_alloc Q5.out _).trans hg6); clear hg6 o5
            obtain ⟨b0, hc⟩ : ∃ b0 : Int, w6.cell? ⟨gb, K, none⟩ = some (.int .i64 b0) := ⟨_, (O6.out.cellAt K (by omega)).trans (ivs_at _ K (by rw [HFL.out]; omega))⟩
            have hz := O6.out.frozenAt K
            have s1 := O6.out.stored K (.int .i64 y)
            rw [ivs_set] at s1
            have hblk : w.heap.size ≤ gb := (O6.out.lt gb rfl).1
            have S1 := Lib.hid s1.1; clear s1
            go_wp2
            go_ret
            refine ⟨some ⟨gb, 0, none⟩, cb, ?_, ?_, cursor_new G6.out (by omega) _ _, grown_new Q6.out hblk _ _⟩
            · rw [List.length_set, HFL.out]
              rfl
            · unfold OwnI
              rw [List.length_set, HFL.out]
              exact S1.out

-- END L2BITS
set_option maxRecDepth 100000 in
set_option maxHeartbeats 1000000 in
theorem drawPutBits_det (A : Option Addr) (cap : Nat) (zs : List Int) : ∃ (l : List Int) (n k : Int), l.length ≤ 12 ∧ (Lit.int .i64 n).wf = true ∧ (Lit.int .i64 k).wf = true ∧ ∀ w : World, Code w A zs →
    Calls Try.prog 8 #[.slice A zs.length cap] w fun e w' => ∃ A' cap', e = .returned (.tuple #[.slice A' l.length cap', .int .i64 n, .int .i64 k]) ∧ OwnI w' w.heap.size A' cap' l ∧ Below w.heap.size w w' := by
  obtain ⟨l, i1, h1, ll, l1, C1⟩ := l2bits_det A cap zs 0 (hashF zs (min zs.length 4000)) (Nat.zero_le _) 12 (by decide)
  obtain ⟨n, k, hn, hk, C2⟩ := drawBitsIn_det A cap zs
  refine ⟨l, n, k, ll, hn, hk, fun w hW => ?_⟩
  have HN := Lib.hid (new_any A cap zs hW.few hW.bytes w hW.lies)
  have HW := Lib.hid hW
  have HC1 := Lib.hid C1; have HC2 := Lib.hid C2
  clear hW C1 C2 hn hk
  go_enter Try.func8, Try.ntmps8
  go_wp2_with fail
  refine HN.out.mono ?_
  rintro e w1 ⟨rfl, hC, hb1⟩
  have G1 := Lib.hid hC; clear hC
  have B1 := Lib.hid hb1; clear hb1
  go_wp2_with fail
  refine (HC1.out _ _ G1.out).mono ?_
  rintro e w2 ⟨A2, c2, rfl, ho2, hC, hg2⟩
  have B2 := Lib.hid (B1.out.trans (grown_below hg2 (Nat.le_refl _) B1.out.size)); clear hg2 hC
  have O2 := Lib.hid ho2; clear ho2
  go_wp2_with fail
  refine (HC2.out _ (HW.out.below B2.out)).mono ?_
  rintro e w3 ⟨rfl, hb3⟩
  have O3 := Lib.hid ((O2.out.kept hb3 (Nat.le_refl _)).low B1.out.size)
  have B3 := Lib.hid (below_step B2.out hb3); clear hb3
  go_wp2
  exact bodyPost_ret (v := .tuple #[.slice A2 l.length c2, .int .i64 n, .int .i64 k]) (by simp [results, Try.results8, go_sem]) rfl ⟨_, _, rfl, O3.out, B3.out⟩

theorem bytesR_size (l : List Int) : (bytesR l).size ≤ l.length := by
  unfold bytesR
  split
  · rw [bs_size, bytesL_len]
    omega
  · simp [bs_size]
theorem stopS_size (l : List Int) : (stopS l).size ≤ l.length + 8 := by
  have h := bytesR_size (stopL l)
  rw [stopL_len] at h
  have := (stopN_gt l.length).2.1
  unfold stopS
  omega

set_option maxRecDepth 100000 in
set_option maxHeartbeats 1000000 in
theorem stopok_draw_ff (A : Option Addr) (cap : Nat) (zs : List Int) (l : List Int) (S0 S : ByteArray) (a : Int) (hl : l.length ≤ 18) (hs0 : S0.size ≤ 100) (hS : S = S0) (ha : a = (l.length : Int))
    (i1 i2 i3 i4 : Nat) (h0 h1 h2 h3 h4 : Int)
    (HC1 : Hid (∀ (w : World) (g : Nat), Cursor w g A cap zs 0 h0 → Calls Try.prog 36 #[.pointer (some ⟨g, 0, none⟩), .int .i64 2] w fun e w' => e = .returned (.bool true) ∧ Cursor w' g A cap zs i1 h1 ∧ w.grownBy w' (some g)))
    (HC2 : Hid (∀ (w : World) (g : Nat), Cursor w g A cap zs i1 h1 → Calls Try.prog 25 #[.pointer (some ⟨g, 0, none⟩), .int .i64 18] w fun e w' => ∃ A' cap', e = .returned (.slice A' l.length cap') ∧ OwnI w' w.heap.size A' cap' l ∧ Cursor w' g A cap zs i2 h2 ∧ w.grownBy w' (some g)))
    (ST : Hid (∀ (A : Option Addr) (ca : Nat) (w : World), Ints w w.heap.size A l → Placed A ca → Calls Try.prog 13 #[.slice A l.length ca] w fun e w' => e = .returned (.string S0) ∧ Below w.heap.size w w'))
    (HC3 : Hid (∀ (w : World) (g : Nat), Cursor w g A cap zs i2 h2 → Calls Try.prog 36 #[.pointer (some ⟨g, 0, none⟩), .int .i64 4] w fun e w' => e = .returned (.bool false) ∧ Cursor w' g A cap zs i3 h3 ∧ w.grownBy w' (some g)))
    (HC4 : Hid (∀ (w : World) (g : Nat), Cursor w g A cap zs i3 h3 → Calls Try.prog 36 #[.pointer (some ⟨g, 0, none⟩), .int .i64 4] w fun e w' => e = .returned (.bool false) ∧ Cursor w' g A cap zs i4 h4 ∧ w.grownBy w' (some g)))
    (h00 : h0 = hashF zs (min zs.length 4000)) (w : World) (hW : Code w A zs) :
    Calls Try.prog 15 #[.slice A zs.length cap] w fun e w' => e = .returned (.agg #[.string S, .int .i64 a]) ∧ Below w.heap.size w w' := by
  have HN := Lib.hid (fun w hb => new_any A cap zs hW.few hW.bytes w hb)
  rw [← h00] at HN
  have HW := Lib.hid hW
  have HS := Lib.hid hS
  have HAA := Lib.hid ha
  clear hW h00 hS ha
  go_enter Try.func15, Try.ntmps15
  go_wp2_with fail
  refine (HN.out _ ((HW.out.below (below_new w _)).lies)).mono ?_
  obtain ⟨g, hg⟩ : ∃ g, g = (w.alloc (.cells #[.string ⟨#[]⟩, .int .i64 0] 32)).heap.size := ⟨_, rfl⟩
  have hgw : w.heap.size < g := by rw [hg]; simp
  rw [← hg]
  rintro e w1 ⟨rfl, hC, hb⟩
  rw [hg] at hb
  have G1 := Lib.hid hC; clear hC
  have R1 := Lib.hid (cell_kept (heap_alloc_new w _) hb)
  have B1 := Lib.hid (below_step (below_new w _) hb); clear hb hg
  go_wp2_with fail
  refine (HC1.out _ _ G1.out).mono ?_
  rintro e w2 ⟨rfl, hC, hg2⟩
  have G2 := Lib.hid hC; clear hC
  have R2 := Lib.hid (grown_at R1.out hg2 (by omega))
  have B2 := Lib.hid (B1.out.trans (grown_below hg2 (Nat.le_of_lt hgw) B1.out.size)); clear hg2
  go_wp2_with fail
  refine (HC2.out _ _ G2.out).mono ?_
  rintro e w3 ⟨A3, c3, rfl, ho3, hC, hg3⟩
  have P3 := Lib.hid ho3.placed
  have I3 := Lib.hid (ho3.ints (by omega)); clear ho3
  have G3 := Lib.hid hC; clear hC
  have R3 := Lib.hid (grown_at R2.out hg3 (by omega))
  have B3 := Lib.hid (B2.out.trans (grown_below hg3 (Nat.le_of_lt hgw) B2.out.size)); clear hg3
  go_wp2_with fail
  refine (ST.out _ _ _ I3.out P3.out).mono ?_
  rintro e w4 ⟨rfl, hb4⟩
  have G4 := Lib.hid (G3.out.kept fun k hk => hb4.block k (by have := G3.out.lt; omega))
  have R4 := Lib.hid (cell_kept R3.out hb4)
  have B4 := Lib.hid (below_step B3.out hb4); clear hb4
  have hg4 := G4.out.lt
  go_wp2_with fail
  refine (HC3.out _ _ (G4.out.alloc _)).mono ?_
  rintro e w5 ⟨rfl, hC, hg5⟩
  have G5 := Lib.hid hC; clear hC
  have S5 := Lib.hid (grown_at (heap_alloc_new w4 _) hg5 (by omega))
  have R5 := Lib.hid (grown_at (heap_keep' R4.out _) hg5 (by omega))
  have B5 := Lib.hid ((B4.out.alloc B4.out.size _).trans (grown_below hg5 (Nat.le_of_lt hgw) (by have := B4.out.size; simp; omega))); clear hg5
  have hne : w.heap.size ≠ w4.heap.size := by have := heap_lt R4.out; omega
  have hle : w.heap.size ≤ w4.heap.size := by omega
  go_wp2_with fail
  refine (HC4.out _ _ G5.out).mono ?_
  rintro e w6 ⟨rfl, hC, hg6⟩
  have G6 := Lib.hid hC; clear hC
  have S6 := Lib.hid (grown_at S5.out hg6 (by omega))
  have R6 := Lib.hid (grown_at R5.out hg6 (by omega))
  have B6 := Lib.hid (B5.out.trans (grown_below hg6 (Nat.le_of_lt hgw) B5.out.size)); clear hg6
  obtain ⟨x0, x1⟩ := cells2 S6.out
  obtain ⟨d0, d1⟩ := cells2 R6.out
  obtain ⟨f1, f2⟩ := frozen2 R6.out
  have HO := Lib.hid (block_set2 R6.out (.string S0) (.int .i64 (l.length : Int)))
  have HB := Lib.hid (below_set2 B6.out w.heap.size (Nat.le_refl _) (.string S0) (.int .i64 (l.length : Int)))
  go_wp2
  obtain ⟨e0, e1⟩ := cells2 HO.out
  exact bodyPost_ret (v := .agg #[.string S0, .int .i64 ((l.length : Int))]) (by simp [results, Try.results15, go_sem, e0, e1]) rfl ⟨by rw [HAA.out, HS.out], HB.out⟩

set_option maxRecDepth 100000 in
set_option maxHeartbeats 1000000 in
theorem stopok_draw_ft (A : Option Addr) (cap : Nat) (zs : List Int) (l : List Int) (S0 S : ByteArray) (a : Int) (hl : l.length ≤ 18) (hs0 : S0.size ≤ 100) (hS : S = S0) (ha : a = (l.length : Int) + 1)
    (i1 i2 i3 i4 : Nat) (h0 h1 h2 h3 h4 : Int)
    (HC1 : Hid (∀ (w : World) (g : Nat), Cursor w g A cap zs 0 h0 → Calls Try.prog 36 #[.pointer (some ⟨g, 0, none⟩), .int .i64 2] w fun e w' => e = .returned (.bool true) ∧ Cursor w' g A cap zs i1 h1 ∧ w.grownBy w' (some g)))
    (HC2 : Hid (∀ (w : World) (g : Nat), Cursor w g A cap zs i1 h1 → Calls Try.prog 25 #[.pointer (some ⟨g, 0, none⟩), .int .i64 18] w fun e w' => ∃ A' cap', e = .returned (.slice A' l.length cap') ∧ OwnI w' w.heap.size A' cap' l ∧ Cursor w' g A cap zs i2 h2 ∧ w.grownBy w' (some g)))
    (ST : Hid (∀ (A : Option Addr) (ca : Nat) (w : World), Ints w w.heap.size A l → Placed A ca → Calls Try.prog 13 #[.slice A l.length ca] w fun e w' => e = .returned (.string S0) ∧ Below w.heap.size w w'))
    (HC3 : Hid (∀ (w : World) (g : Nat), Cursor w g A cap zs i2 h2 → Calls Try.prog 36 #[.pointer (some ⟨g, 0, none⟩), .int .i64 4] w fun e w' => e = .returned (.bool false) ∧ Cursor w' g A cap zs i3 h3 ∧ w.grownBy w' (some g)))
    (HC4 : Hid (∀ (w : World) (g : Nat), Cursor w g A cap zs i3 h3 → Calls Try.prog 36 #[.pointer (some ⟨g, 0, none⟩), .int .i64 4] w fun e w' => e = .returned (.bool true) ∧ Cursor w' g A cap zs i4 h4 ∧ w.grownBy w' (some g)))
    (h00 : h0 = hashF zs (min zs.length 4000)) (w : World) (hW : Code w A zs) :
    Calls Try.prog 15 #[.slice A zs.length cap] w fun e w' => e = .returned (.agg #[.string S, .int .i64 a]) ∧ Below w.heap.size w w' := by
  have HN := Lib.hid (fun w hb => new_any A cap zs hW.few hW.bytes w hb)
  rw [← h00] at HN
  have HW := Lib.hid hW
  have HS := Lib.hid hS
  have HAA := Lib.hid ha
  clear hW h00 hS ha
  go_enter Try.func15, Try.ntmps15
  go_wp2_with fail
  refine (HN.out _ ((HW.out.below (below_new w _)).lies)).mono ?_
  obtain ⟨g, hg⟩ : ∃ g, g = (w.alloc (.cells #[.string ⟨#[]⟩, .int .i64 0] 32)).heap.size := ⟨_, rfl⟩
  have hgw : w.heap.size < g := by rw [hg]; simp
  rw [← hg]
  rintro e w1 ⟨rfl, hC, hb⟩
  rw [hg] at hb
  have G1 := Lib.hid hC; clear hC
  have R1 := Lib.hid (cell_kept (heap_alloc_new w _) hb)
  have B1 := Lib.hid (below_step (below_new w _) hb); clear hb hg
  go_wp2_with fail
  refine (HC1.out _ _ G1.out).mono ?_
  rintro e w2 ⟨rfl, hC, hg2⟩
  have G2 := Lib.hid hC; clear hC
  have R2 := Lib.hid (grown_at R1.out hg2 (by omega))
  have B2 := Lib.hid (B1.out.trans (grown_below hg2 (Nat.le_of_lt hgw) B1.out.size)); clear hg2
  go_wp2_with fail
  refine (HC2.out _ _ G2.out).mono ?_
  rintro e w3 ⟨A3, c3, rfl, ho3, hC, hg3⟩
  have P3 := Lib.hid ho3.placed
  have I3 := Lib.hid (ho3.ints (by omega)); clear ho3
  have G3 := Lib.hid hC; clear hC
  have R3 := Lib.hid (grown_at R2.out hg3 (by omega))
  have B3 := Lib.hid (B2.out.trans (grown_below hg3 (Nat.le_of_lt hgw) B2.out.size)); clear hg3
  go_wp2_with fail
  refine (ST.out _ _ _ I3.out P3.out).mono ?_
  rintro e w4 ⟨rfl, hb4⟩
  have G4 := Lib.hid (G3.out.kept fun k hk => hb4.block k (by have := G3.out.lt; omega))
  have R4 := Lib.hid (cell_kept R3.out hb4)
  have B4 := Lib.hid (below_step B3.out hb4); clear hb4
  have hg4 := G4.out.lt
  go_wp2_with fail
  refine (HC3.out _ _ (G4.out.alloc _)).mono ?_
  rintro e w5 ⟨rfl, hC, hg5⟩
  have G5 := Lib.hid hC; clear hC
  have S5 := Lib.hid (grown_at (heap_alloc_new w4 _) hg5 (by omega))
  have R5 := Lib.hid (grown_at (heap_keep' R4.out _) hg5 (by omega))
  have B5 := Lib.hid ((B4.out.alloc B4.out.size _).trans (grown_below hg5 (Nat.le_of_lt hgw) (by have := B4.out.size; simp; omega))); clear hg5
  have hne : w.heap.size ≠ w4.heap.size := by have := heap_lt R4.out; omega
  have hle : w.heap.size ≤ w4.heap.size := by omega
  go_wp2_with fail
  refine (HC4.out _ _ G5.out).mono ?_
  rintro e w6 ⟨rfl, hC, hg6⟩
  have G6 := Lib.hid hC; clear hC
  have S6 := Lib.hid (grown_at S5.out hg6 (by omega))
  have R6 := Lib.hid (grown_at R5.out hg6 (by omega))
  have B6 := Lib.hid (B5.out.trans (grown_below hg6 (Nat.le_of_lt hgw) B5.out.size)); clear hg6
  have S7 := heap_setCell_same w6 w4.heap.size 1 _ _ (.int .i64 ((l.length : Int) + 1)) S6.out
  have R7 : (w6.setCell ⟨w4.heap.size, 1, none⟩ (.int .i64 ((l.length : Int) + 1))).heap[w.heap.size]? = some (.cells #[.string ⟨#[]⟩, .int .i64 0] 32 (0, 0)) := by rw [heap_setCell_other _ _ _ _ hne]; exact R6.out
  obtain ⟨x0, x1⟩ := cells2 S6.out
  have z1 := (frozen2 S6.out).2
  obtain ⟨y0, y1⟩ := cells2 S7
  obtain ⟨d0, d1⟩ := cells2 R7
  obtain ⟨f1, f2⟩ := frozen2 R7
  have hout := block_set2 R7 (.string S0) (.int .i64 ((l.length : Int) + 1))
  have B8 := below_set2 (Below.setCell B6.out (p := ⟨w4.heap.size, 1, none⟩) hle (.int .i64 ((l.length : Int) + 1))) w.heap.size (Nat.le_refl _) (.string S0) (.int .i64 ((l.length : Int) + 1))
  have HO := Lib.hid hout
  have HB := Lib.hid B8
  clear S7 R7 hout B8
  go_wp2
  obtain ⟨e0, e1⟩ := cells2 HO.out
  exact bodyPost_ret (v := .agg #[.string S0, .int .i64 ((l.length : Int) + 1)]) (by simp [results, Try.results15, go_sem, e0, e1]) rfl ⟨by rw [HAA.out, HS.out], HB.out⟩

set_option maxRecDepth 100000 in
set_option maxHeartbeats 1000000 in
theorem stopok_draw_tf (A : Option Addr) (cap : Nat) (zs : List Int) (l : List Int) (S0 S : ByteArray) (a : Int) (hl : l.length ≤ 18) (hs0 : S0.size ≤ 100) (hS : S = S0 ++ ⟨#[0]⟩) (ha : a = (l.length : Int))
    (i1 i2 i3 i4 : Nat) (h0 h1 h2 h3 h4 : Int)
    (HC1 : Hid (∀ (w : World) (g : Nat), Cursor w g A cap zs 0 h0 → Calls Try.prog 36 #[.pointer (some ⟨g, 0, none⟩), .int .i64 2] w fun e w' => e = .returned (.bool true) ∧ Cursor w' g A cap zs i1 h1 ∧ w.grownBy w' (some g)))
    (HC2 : Hid (∀ (w : World) (g : Nat), Cursor w g A cap zs i1 h1 → Calls Try.prog 25 #[.pointer (some ⟨g, 0, none⟩), .int .i64 18] w fun e w' => ∃ A' cap', e = .returned (.slice A' l.length cap') ∧ OwnI w' w.heap.size A' cap' l ∧ Cursor w' g A cap zs i2 h2 ∧ w.grownBy w' (some g)))
    (ST : Hid (∀ (A : Option Addr) (ca : Nat) (w : World), Ints w w.heap.size A l → Placed A ca → Calls Try.prog 13 #[.slice A l.length ca] w fun e w' => e = .returned (.string S0) ∧ Below w.heap.size w w'))
    (HC3 : Hid (∀ (w : World) (g : Nat), Cursor w g A cap zs i2 h2 → Calls Try.prog 36 #[.pointer (some ⟨g, 0, none⟩), .int .i64 4] w fun e w' => e = .returned (.bool true) ∧ Cursor w' g A cap zs i3 h3 ∧ w.grownBy w' (some g)))
    (HC4 : Hid (∀ (w : World) (g : Nat), Cursor w g A cap zs i3 h3 → Calls Try.prog 36 #[.pointer (some ⟨g, 0, none⟩), .int .i64 4] w fun e w' => e = .returned (.bool false) ∧ Cursor w' g A cap zs i4 h4 ∧ w.grownBy w' (some g)))
    (h00 : h0 = hashF zs (min zs.length 4000)) (w : World) (hW : Code w A zs) :
    Calls Try.prog 15 #[.slice A zs.length cap] w fun e w' => e = .returned (.agg #[.string S, .int .i64 a]) ∧ Below w.heap.size w w' := by
  have HN := Lib.hid (fun w hb => new_any A cap zs hW.few hW.bytes w hb)
  rw [← h00] at HN
  have HW := Lib.hid hW
  have HS := Lib.hid hS
  have HAA := Lib.hid ha
  clear hW h00 hS ha
  go_enter Try.func15, Try.ntmps15
  go_wp2_with fail
  refine (HN.out _ ((HW.out.below (below_new w _)).lies)).mono ?_
  obtain ⟨g, hg⟩ : ∃ g, g = (w.alloc (.cells #[.string ⟨#[]⟩, .int .i64 0] 32)).heap.size := ⟨_, rfl⟩
  have hgw : w.heap.size < g := by rw [hg]; simp
  rw [← hg]
  rintro e w1 ⟨rfl, hC, hb⟩
  rw [hg] at hb
  have G1 := Lib.hid hC; clear hC
  have R1 := Lib.hid (cell_kept (heap_alloc_new w _) hb)
  have B1 := Lib.hid (below_step (below_new w _) hb); clear hb hg
  go_wp2_with fail
  refine (HC1.out _ _ G1.out).mono ?_
  rintro e w2 ⟨rfl, hC, hg2⟩
  have G2 := Lib.hid hC; clear hC
  have R2 := Lib.hid (grown_at R1.out hg2 (by omega))
  have B2 := Lib.hid (B1.out.trans (grown_below hg2 (Nat.le_of_lt hgw) B1.out.size)); clear hg2
  go_wp2_with fail
  refine (HC2.out _ _ G2.out).mono ?_
  rintro e w3 ⟨A3, c3, rfl, ho3, hC, hg3⟩
  have P3 := Lib.hid ho3.placed
  have I3 := Lib.hid (ho3.ints (by omega)); clear ho3
  have G3 := Lib.hid hC; clear hC
  have R3 := Lib.hid (grown_at R2.out hg3 (by omega))
  have B3 := Lib.hid (B2.out.trans (grown_below hg3 (Nat.le_of_lt hgw) B2.out.size)); clear hg3
  go_wp2_with fail
  refine (ST.out _ _ _ I3.out P3.out).mono ?_
  rintro e w4 ⟨rfl, hb4⟩
  have G4 := Lib.hid (G3.out.kept fun k hk => hb4.block k (by have := G3.out.lt; omega))
  have R4 := Lib.hid (cell_kept R3.out hb4)
  have B4 := Lib.hid (below_step B3.out hb4); clear hb4
  have hg4 := G4.out.lt
  go_wp2_with fail
  refine (HC3.out _ _ (G4.out.alloc _)).mono ?_
  rintro e w5 ⟨rfl, hC, hg5⟩
  have G5 := Lib.hid hC; clear hC
  have S5 := Lib.hid (grown_at (heap_alloc_new w4 _) hg5 (by omega))
  have R5 := Lib.hid (grown_at (heap_keep' R4.out _) hg5 (by omega))
  have B5 := Lib.hid ((B4.out.alloc B4.out.size _).trans (grown_below hg5 (Nat.le_of_lt hgw) (by have := B4.out.size; simp; omega))); clear hg5
  have hne : w.heap.size ≠ w4.heap.size := by have := heap_lt R4.out; omega
  have hle : w.heap.size ≤ w4.heap.size := by omega
  obtain ⟨x0, x1⟩ := cells2 S5.out
  have z0 := (frozen2 S5.out).1
  have hsz : (S0 ++ ⟨#[0]⟩).size = S0.size + 1 := by rw [ByteArray.size_append]; rfl
  have hz1 : (⟨#[0]⟩ : ByteArray).size = 1 := rfl
  obtain ⟨S1, hS1⟩ : ∃ S1, S1 = S0 ++ ⟨#[0]⟩ := ⟨_, rfl⟩
  have HS1 := Lib.hid hS1
  rw [← hS1] at hsz
  go_wp2_with fail
  rw [← hS1]
  clear x0 x1 z0 hS1
  obtain ⟨w5', hw5⟩ : ∃ x, x = w5.setCell ⟨w4.heap.size, 0, none⟩ (.string S1) := ⟨_, rfl⟩
  have G5' : Hid (Cursor w5' g A cap zs i3 h3) := Lib.hid (by rw [hw5]; exact cursor_new G5.out hg4 _ _)
  have S5' : Hid (w5'.heap[w4.heap.size]? = some (.cells #[.string S1, .int .i64 l.length] 32 (0, 0))) := Lib.hid (by rw [hw5]; exact heap_setCell_same w5 w4.heap.size 0 _ _ _ S5.out)
  have R5' : Hid (w5'.heap[w.heap.size]? = some (.cells #[.string ⟨#[]⟩, .int .i64 0] 32 (0, 0))) := Lib.hid (by rw [hw5, heap_setCell_other _ _ _ _ hne]; exact R5.out)
  have B5' : Hid (Below w.heap.size w w5') := Lib.hid (by rw [hw5]; exact Below.setCell B5.out (p := ⟨w4.heap.size, 0, none⟩) hle _)
  rw [← hw5]
  clear hw5 G5 S5 R5 B5
  refine (HC4.out _ _ G5'.out).mono ?_
  rintro e w6 ⟨rfl, hC, hg6⟩
  have G6 := Lib.hid hC; clear hC
  have S6 := Lib.hid (grown_at S5'.out hg6 (by omega))
  have R6 := Lib.hid (grown_at R5'.out hg6 (by omega))
  have B6 := Lib.hid (B5'.out.trans (grown_below hg6 (Nat.le_of_lt hgw) B5'.out.size)); clear hg6
  obtain ⟨x0, x1⟩ := cells2 S6.out
  obtain ⟨d0, d1⟩ := cells2 R6.out
  obtain ⟨f1, f2⟩ := frozen2 R6.out
  have HO := Lib.hid (block_set2 R6.out (.string S1) (.int .i64 (l.length : Int)))
  have HB := Lib.hid (below_set2 B6.out w.heap.size (Nat.le_refl _) (.string S1) (.int .i64 (l.length : Int)))
  go_wp2
  obtain ⟨e0, e1⟩ := cells2 HO.out
  exact bodyPost_ret (v := .agg #[.string S1, .int .i64 ((l.length : Int))]) (by simp [results, Try.results15, go_sem, e0, e1]) rfl ⟨by rw [HAA.out, HS.out, ← HS1.out], HB.out⟩

set_option maxRecDepth 100000 in
set_option maxHeartbeats 1000000 in
theorem stopok_draw_tt (A : Option Addr) (cap : Nat) (zs : List Int) (l : List Int) (S0 S : ByteArray) (a : Int) (hl : l.length ≤ 18) (hs0 : S0.size ≤ 100) (hS : S = S0 ++ ⟨#[0]⟩) (ha : a = (l.length : Int) + 1)
    (i1 i2 i3 i4 : Nat) (h0 h1 h2 h3 h4 : Int)
    (HC1 : Hid (∀ (w : World) (g : Nat), Cursor w g A cap zs 0 h0 → Calls Try.prog 36 #[.pointer (some ⟨g, 0, none⟩), .int .i64 2] w fun e w' => e = .returned (.bool true) ∧ Cursor w' g A cap zs i1 h1 ∧ w.grownBy w' (some g)))
    (HC2 : Hid (∀ (w : World) (g : Nat), Cursor w g A cap zs i1 h1 → Calls Try.prog 25 #[.pointer (some ⟨g, 0, none⟩), .int .i64 18] w fun e w' => ∃ A' cap', e = .returned (.slice A' l.length cap') ∧ OwnI w' w.heap.size A' cap' l ∧ Cursor w' g A cap zs i2 h2 ∧ w.grownBy w' (some g)))
    (ST : Hid (∀ (A : Option Addr) (ca : Nat) (w : World), Ints w w.heap.size A l → Placed A ca → Calls Try.prog 13 #[.slice A l.length ca] w fun e w' => e = .returned (.string S0) ∧ Below w.heap.size w w'))
    (HC3 : Hid (∀ (w : World) (g : Nat), Cursor w g A cap zs i2 h2 → Calls Try.prog 36 #[.pointer (some ⟨g, 0, none⟩), .int .i64 4] w fun e w' => e = .returned (.bool true) ∧ Cursor w' g A cap zs i3 h3 ∧ w.grownBy w' (some g)))
    (HC4 : Hid (∀ (w : World) (g : Nat), Cursor w g A cap zs i3 h3 → Calls Try.prog 36 #[.pointer (some ⟨g, 0, none⟩), .int .i64 4] w fun e w' => e = .returned (.bool true) ∧ Cursor w' g A cap zs i4 h4 ∧ w.grownBy w' (some g)))
    (h00 : h0 = hashF zs (min zs.length 4000)) (w : World) (hW : Code w A zs) :
    Calls Try.prog 15 #[.slice A zs.length cap] w fun e w' => e = .returned (.agg #[.string S, .int .i64 a]) ∧ Below w.heap.size w w' := by
  have HN := Lib.hid (fun w hb => new_any A cap zs hW.few hW.bytes w hb)
  rw [← h00] at HN
  have HW := Lib.hid hW
  have HS := Lib.hid hS
  have HAA := Lib.hid ha
  clear hW h00 hS ha
  go_enter Try.func15, Try.ntmps15
  go_wp2_with fail
  refine (HN.out _ ((HW.out.below (below_new w _)).lies)).mono ?_
  obtain ⟨g, hg⟩ : ∃ g, g = (w.alloc (.cells #[.string ⟨#[]⟩, .int .i64 0] 32)).heap.size := ⟨_, rfl⟩
  have hgw : w.heap.size < g := by rw [hg]; simp
  rw [← hg]
  rintro e w1 ⟨rfl, hC, hb⟩
  rw [hg] at hb
  have G1 := Lib.hid hC; clear hC
  have R1 := Lib.hid (cell_kept (heap_alloc_new w _) hb)
  have B1 := Lib.hid (below_step (below_new w _) hb); clear hb hg
  go_wp2_with fail
  refine (HC1.out _ _ G1.out).mono ?_
  rintro e w2 ⟨rfl, hC, hg2⟩
  have G2 := Lib.hid hC; clear hC
  have R2 := Lib.hid (grown_at R1.out hg2 (by omega))
  have B2 := Lib.hid (B1.out.trans (grown_below hg2 (Nat.le_of_lt hgw) B1.out.size)); clear hg2
  go_wp2_with fail
  refine (HC2.out _ _ G2.out).mono ?_
  rintro e w3 ⟨A3, c3, rfl, ho3, hC, hg3⟩
  have P3 := Lib.hid ho3.placed
  have I3 := Lib.hid (ho3.ints (by omega)); clear ho3
  have G3 := Lib.hid hC; clear hC
  have R3 := Lib.hid (grown_at R2.out hg3 (by omega))
  have B3 := Lib.hid (B2.out.trans (grown_below hg3 (Nat.le_of_lt hgw) B2.out.size)); clear hg3
  go_wp2_with fail
  refine (ST.out _ _ _ I3.out P3.out).mono ?_
  rintro e w4 ⟨rfl, hb4⟩
  have G4 := Lib.hid (G3.out.kept fun k hk => hb4.block k (by have := G3.out.lt; omega))
  have R4 := Lib.hid (cell_kept R3.out hb4)
  have B4 := Lib.hid (below_step B3.out hb4); clear hb4
  have hg4 := G4.out.lt
  go_wp2_with fail
  refine (HC3.out _ _ (G4.out.alloc _)).mono ?_
  rintro e w5 ⟨rfl, hC, hg5⟩
  have G5 := Lib.hid hC; clear hC
  have S5 := Lib.hid (grown_at (heap_alloc_new w4 _) hg5 (by omega))
  have R5 := Lib.hid (grown_at (heap_keep' R4.out _) hg5 (by omega))
  have B5 := Lib.hid ((B4.out.alloc B4.out.size _).trans (grown_below hg5 (Nat.le_of_lt hgw) (by have := B4.out.size; simp; omega))); clear hg5
  have hne : w.heap.size ≠ w4.heap.size := by have := heap_lt R4.out; omega
  have hle : w.heap.size ≤ w4.heap.size := by omega
  obtain ⟨x0, x1⟩ := cells2 S5.out
  have z0 := (frozen2 S5.out).1
  have hsz : (S0 ++ ⟨#[0]⟩).size = S0.size + 1 := by rw [ByteArray.size_append]; rfl
  have hz1 : (⟨#[0]⟩ : ByteArray).size = 1 := rfl
  obtain ⟨S1, hS1⟩ : ∃ S1, S1 = S0 ++ ⟨#[0]⟩ := ⟨_, rfl⟩
  have HS1 := Lib.hid hS1
  rw [← hS1] at hsz
  go_wp2_with fail
  rw [← hS1]
  clear x0 x1 z0 hS1
  obtain ⟨w5', hw5⟩ : ∃ x, x = w5.setCell ⟨w4.heap.size, 0, none⟩ (.string S1) := ⟨_, rfl⟩
  have G5' : Hid (Cursor w5' g A cap zs i3 h3) := Lib.hid (by rw [hw5]; exact cursor_new G5.out hg4 _ _)
  have S5' : Hid (w5'.heap[w4.heap.size]? = some (.cells #[.string S1, .int .i64 l.length] 32 (0, 0))) := Lib.hid (by rw [hw5]; exact heap_setCell_same w5 w4.heap.size 0 _ _ _ S5.out)
  have R5' : Hid (w5'.heap[w.heap.size]? = some (.cells #[.string ⟨#[]⟩, .int .i64 0] 32 (0, 0))) := Lib.hid (by rw [hw5, heap_setCell_other _ _ _ _ hne]; exact R5.out)
  have B5' : Hid (Below w.heap.size w w5') := Lib.hid (by rw [hw5]; exact Below.setCell B5.out (p := ⟨w4.heap.size, 0, none⟩) hle _)
  rw [← hw5]
  clear hw5 G5 S5 R5 B5
  refine (HC4.out _ _ G5'.out).mono ?_
  rintro e w6 ⟨rfl, hC, hg6⟩
  have G6 := Lib.hid hC; clear hC
  have S6 := Lib.hid (grown_at S5'.out hg6 (by omega))
  have R6 := Lib.hid (grown_at R5'.out hg6 (by omega))
  have B6 := Lib.hid (B5'.out.trans (grown_below hg6 (Nat.le_of_lt hgw) B5'.out.size)); clear hg6
  have S7 := heap_setCell_same w6 w4.heap.size 1 _ _ (.int .i64 ((l.length : Int) + 1)) S6.out
  have R7 : (w6.setCell ⟨w4.heap.size, 1, none⟩ (.int .i64 ((l.length : Int) + 1))).heap[w.heap.size]? = some (.cells #[.string ⟨#[]⟩, .int .i64 0] 32 (0, 0)) := by rw [heap_setCell_other _ _ _ _ hne]; exact R6.out
  obtain ⟨x0, x1⟩ := cells2 S6.out
  have z1 := (frozen2 S6.out).2
  obtain ⟨y0, y1⟩ := cells2 S7
  obtain ⟨d0, d1⟩ := cells2 R7
  obtain ⟨f1, f2⟩ := frozen2 R7
  have hout := block_set2 R7 (.string S1) (.int .i64 ((l.length : Int) + 1))
  have B8 := below_set2 (Below.setCell B6.out (p := ⟨w4.heap.size, 1, none⟩) hle (.int .i64 ((l.length : Int) + 1))) w.heap.size (Nat.le_refl _) (.string S1) (.int .i64 ((l.length : Int) + 1))
  have HO := Lib.hid hout
  have HB := Lib.hid B8
  clear S7 R7 hout B8
  go_wp2
  obtain ⟨e0, e1⟩ := cells2 HO.out
  exact bodyPost_ret (v := .agg #[.string S1, .int .i64 ((l.length : Int) + 1)]) (by simp [results, Try.results15, go_sem, e0, e1]) rfl ⟨by rw [HAA.out, HS.out, ← HS1.out], HB.out⟩

set_option maxRecDepth 100000 in
set_option maxHeartbeats 1000000 in
theorem drawStopOk_det (A : Option Addr) (cap : Nat) (zs : List Int) : ∃ (s : ByteArray) (a : Int), s.size ≤ 200 ∧ ∀ w : World, Code w A zs →
    Calls Try.prog 15 #[.slice A zs.length cap] w fun e w' => e = .returned (.agg #[.string s, .int .i64 a]) ∧ Below w.heap.size w w' := by
  obtain ⟨b0, i1, h1, l1, C1⟩ := once_det A cap zs 0 (hashF zs (min zs.length 4000)) (Nat.zero_le _) 2
  cases b0 with
  | false =>
    obtain ⟨s, a, i2, h2, s8, a0, a1, l2, C2⟩ := l3reader_det A cap zs i1 h1 l1
    refine ⟨s, a, by omega, fun w hW => ?_⟩
    have HN := Lib.hid (fun w hb => new_any A cap zs hW.few hW.bytes w hb)
    have HW := Lib.hid hW
    have HC1 := Lib.hid C1; have HC2 := Lib.hid C2
    clear hW C1 C2
    go_enter Try.func15, Try.ntmps15
    go_wp2_with fail
    refine (HN.out _ ((HW.out.below (below_new w _)).lies)).mono ?_
    obtain ⟨g, hg⟩ : ∃ g, g = (w.alloc (.cells #[.string ⟨#[]⟩, .int .i64 0] 32)).heap.size := ⟨_, rfl⟩
    have hgw : w.heap.size < g := by rw [hg]; simp
    rw [← hg]
    rintro e w1 ⟨rfl, hC, hb⟩
    rw [hg] at hb
    have G1 := Lib.hid hC; clear hC
    have R1 := Lib.hid (cell_kept (heap_alloc_new w _) hb)
    have B1 := Lib.hid (below_step (below_new w _) hb); clear hb hg
    go_wp2_with fail
    refine (HC1.out _ _ G1.out).mono ?_
    rintro e w2 ⟨rfl, hC, hg2⟩
    have G2 := Lib.hid hC; clear hC
    have R2 := Lib.hid (grown_at R1.out hg2 (by omega))
    have B2 := Lib.hid (B1.out.trans (grown_below hg2 (Nat.le_of_lt hgw) B1.out.size)); clear hg2
    go_wp2_with fail
    refine (HC2.out _ _ G2.out).mono ?_
    rintro e w3 ⟨rfl, hC, hg3⟩
    have R3 := Lib.hid (grown_at R2.out hg3 (by omega))
    have B3 := Lib.hid (B2.out.trans (grown_below hg3 (Nat.le_of_lt hgw) B2.out.size)); clear hg3 hC
    obtain ⟨d0, d1⟩ := cells2 R3.out
    obtain ⟨f1, f2⟩ := frozen2 R3.out
    have HO := Lib.hid (block_set2 R3.out (.string s) (.int .i64 a))
    have HB := Lib.hid (below_set2 B3.out w.heap.size (Nat.le_refl _) (.string s) (.int .i64 a))
    go_wp2
    obtain ⟨e0, e1⟩ := cells2 HO.out
    exact bodyPost_ret (v := .agg #[.string s, .int .i64 a]) (by simp [results, Try.results15, go_sem, e0, e1]) rfl ⟨rfl, HB.out⟩
  | true =>
    obtain ⟨l, i2, h2, ll, l2, C2⟩ := l2bits_det A cap zs i1 h1 l1 18 (by decide)
    have hs0 := stopS_size l
    obtain ⟨b1, i3, h3, l3, C3⟩ := once_det A cap zs i2 h2 l2 4
    obtain ⟨b2, i4, h4, l4, C4⟩ := once_det A cap zs i3 h3 l3 4
    have hz1 : (stopS l ++ ⟨#[0]⟩).size = (stopS l).size + 1 := by rw [ByteArray.size_append]; rfl
    have ST := Lib.hid (fun (A : Option Addr) (ca : Nat) => spec_stopped_any A ca l (by omega))
    cases b1 with
    | false =>
      cases b2 with
      | false => exact ⟨_, _, by omega, fun w hW => stopok_draw_ff A cap zs l (stopS l) (stopS l) _ ll (by omega) rfl rfl i1 i2 i3 i4 _ h1 h2 h3 h4 (Lib.hid C1) (Lib.hid C2) ST (Lib.hid C3) (Lib.hid C4) rfl w hW⟩
      | true => exact ⟨_, _, by omega, fun w hW => stopok_draw_ft A cap zs l (stopS l) (stopS l) _ ll (by omega) rfl rfl i1 i2 i3 i4 _ h1 h2 h3 h4 (Lib.hid C1) (Lib.hid C2) ST (Lib.hid C3) (Lib.hid C4) rfl w hW⟩
    | true =>
      cases b2 with
      | false => exact ⟨_, _, by omega, fun w hW => stopok_draw_tf A cap zs l (stopS l) (stopS l ++ ⟨#[0]⟩) _ ll (by omega) rfl rfl i1 i2 i3 i4 _ h1 h2 h3 h4 (Lib.hid C1) (Lib.hid C2) ST (Lib.hid C3) (Lib.hid C4) rfl w hW⟩
      | true => exact ⟨_, _, by omega, fun w hW => stopok_draw_tt A cap zs l (stopS l) (stopS l ++ ⟨#[0]⟩) _ ll (by omega) rfl rfl i1 i2 i3 i4 _ h1 h2 h3 h4 (Lib.hid C1) (Lib.hid C2) ST (Lib.hid C3) (Lib.hid C4) rfl w hW⟩
end Go.Proofs.Ytkefplaffppklaa
