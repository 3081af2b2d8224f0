/-
  Contract of the draw of a cache with a table. Condition: the input is no longer than 1048576 bytes.
-/
import Derived.Test.YthiplncceglnhaaTabDraw
import Derived.Deep.Cut
namespace Go.Proofs.Ythiplncceglnhaa
open Go.RowKit
set_option linter.unusedVariables false

/-- What the draw leaves. -/
def FuOut (w : World) (e : Ending) (w' : World) : Prop :=
  ∃ (s : ByteArray) (p wd h : Int) (A' : Option Addr) (c' : Nat) (l : EntL), e = .returned (.tuple #[.agg #[.string s, .int .i64 p, .int .i64 wd, .int .i64 h], .slice A' l.length c']) ∧ s.size ≤ 1000 ∧ l.length ≤ 512 ∧ Ents w' w'.heap.size A' l ∧ Below w.heap.size w w'

set_option maxRecDepth 100000 in
set_option maxHeartbeats 1000000 in
theorem drawfast_ex (A : Option Addr) (cap : Nat) (zs : List Int) (w : World) (hW : Code w A zs) :
    Calls Try.prog 8 #[.slice A zs.length cap] w (FuOut w) := by
  have HN := Lib.hid (fun w hb => new_any A cap zs hW.few hW.bytes w hb)
  have HW := Lib.hid hW
  clear hW
  go_enter Try.func8, Try.ntmps8
  go_wp2_with fail
  refine (HN.out _ ((HW.out.below (below_new w _)).lies)).mono ?_
  obtain ⟨g, hg⟩ : ∃ g, g = (w.alloc (.cells #[.string ⟨#[]⟩, .int .i64 0, .int .i64 0, .int .i64 0] 25)).heap.size := ⟨_, rfl⟩
  have hgw : w.heap.size < g := by rw [hg]; simp
  rw [← hg]
  rintro e w1 ⟨rfl, hC, hb⟩
  rw [hg] at hb
  have G1 := Lib.hid hC; clear hC
  have R1 := Lib.hid (cell_kept (heap_alloc_new w _) hb)
  have B1 := Lib.hid (below_step (below_new w _) hb); clear hb hg
  go_wp2_with fail
  refine (l6reader_ex A cap zs 0 _ (Nat.zero_le _) _ g G1.out).mono ?_
  rintro e w2 hout
  obtain ⟨s0, a0, i2, h2, rfl, hs0, ha0, ha1, l2, hC2, hg2⟩ := hout
  have G2 := Lib.hid hC2
  have R2 := Lib.hid (grown_at R1.out hg2 (by omega))
  have B2 := Lib.hid (B1.out.trans (grown_below hg2 (Nat.le_of_lt hgw) B1.out.size)); clear hC2 hg2
  obtain ⟨s1, p1, y1, x1, i3, h3, hs1, l3, C3⟩ := l4cache_det A cap zs i2 h2 l2
  have HC3 := Lib.hid C3; clear C3
  have GA := Lib.hid (G2.out.alloc (.cells #[.string s0, .int .i64 a0] 35))
  have RA := Lib.hid (heap_keep R2.out (.cells #[.string s0, .int .i64 a0] 35))
  have BA := Lib.hid (B2.out.alloc B2.out.size (.cells #[.string s0, .int .i64 a0] 35))
  have NA := Lib.hid (heap_alloc_new w2 (.cells #[.string s0, .int .i64 a0] 35))
  have hne2 : w2.heap.size ≠ g := by have := G2.out.lt; omega
  go_wp2_with fail
  refine (HC3.out _ _ GA.out).mono ?_
  rintro e w3 ⟨rfl, hC3, hg3⟩
  have G3 := Lib.hid hC3
  have R3 := Lib.hid (grown_at RA.out hg3 (by omega))
  have N3 := Lib.hid (grown_at NA.out hg3 hne2)
  have B3 := Lib.hid (BA.out.trans (grown_below hg3 (Nat.le_of_lt hgw) BA.out.size)); clear hC3 hg3
  have GB := Lib.hid (G3.out.alloc (.cells #[.string s1, .int .i64 p1, .int .i64 y1, .int .i64 x1] 25))
  have RB := Lib.hid (heap_keep R3.out (.cells #[.string s1, .int .i64 p1, .int .i64 y1, .int .i64 x1] 25))
  have NB := Lib.hid (heap_keep N3.out (.cells #[.string s1, .int .i64 p1, .int .i64 y1, .int .i64 x1] 25))
  have XB := Lib.hid (heap_alloc_new w3 (.cells #[.string s1, .int .i64 p1, .int .i64 y1, .int .i64 x1] 25))
  have BB := Lib.hid (B3.out.alloc B3.out.size (.cells #[.string s1, .int .i64 p1, .int .i64 y1, .int .i64 x1] 25))
  have hxg : w3.heap.size ≠ g := by have := G3.out.lt; omega
  obtain ⟨n0, n1⟩ := cells2 N3.out
  have hn3 := heap_lt N3.out
  have RO := Lib.hid (spec_readerok_any s0 a0 (by omega))
  cases hro : rdOk s0 a0 with
  | false =>
    rw [hro] at RO
    go_wp2_with fail
    refine (RO.out _).mono ?_
    rintro e wz ⟨rfl, hb⟩
    have GX := Lib.hid (cell_kept XB.out hb)
    have RZ := Lib.hid (cell_kept RB.out hb)
    have GZ := Lib.hid (cursor_below GB.out hb)
    have BZ := Lib.hid (below_up BB.out hb BB.out.size)
    clear hb n0 n1
    obtain ⟨s, hs⟩ : ∃ s, s = s1 := ⟨_, rfl⟩
    obtain ⟨p, hp⟩ : ∃ p, p = p1 := ⟨_, rfl⟩
    obtain ⟨wd, hwd⟩ : ∃ y, y = y1 := ⟨_, rfl⟩
    obtain ⟨h, hh⟩ : ∃ x, x = x1 := ⟨_, rfl⟩
    obtain ⟨iz, hiz⟩ : ∃ i, i = i3 := ⟨_, rfl⟩
    obtain ⟨hz, hhz⟩ : ∃ i, i = h3 := ⟨_, rfl⟩
    subst hs hp hwd hh hiz hhz
    have lz := l3
    obtain ⟨c0, c1, c2, c3⟩ := cells4 GX.out
    have hlx := heap_lt GX.out
    go_wp2_with fail
    go_region_with (go_at_call 34; refine (l7table_ex A cap zs iz hz lz _ g GZ.out.drew).mono ?_; rintro e wt hout; obtain ⟨A', cp', l, i', h', rfl, hl, hE, hF, li, hCt, hgt⟩ := hout; have GT := Lib.hid hE; have FT := Lib.hid hF; have XT := Lib.hid (grown_at (w := wz.drew) GX.out hgt hxg); have RT := Lib.hid (grown_at (w := wz.drew) RZ.out hgt (by omega)); have BT := Lib.hid (BZ.out.drew.trans (grown_below hgt (Nat.le_of_lt hgw) BZ.out.drew.size)); have xc := cells4 XT.out; obtain ⟨j0, j1, j2, j3⟩ := xc; have rc := cells4 RT.out; obtain ⟨d0, d1, d2, d3⟩ := rc; have rf := frozen4 RT.out; obtain ⟨f0, f1, f2, f3⟩ := rf; clear hE hF hCt hgt)
    all_goals
      obtain ⟨w4, hw4, e0, e1, e2, e3, hb4⟩ := out4 s p wd h RT.out (Nat.le_refl _) BT.out
      have hEn : Ents w4 w4.heap.size A' l := by
        rw [hw4]
        have h1 := GT.out.other (w' := put4 wt w.heap.size s p wd h) (x := w.heap.size) (fun b off hb e => by have h2 := FT.out b off hb; have h3 := heap_lt RZ.out; have h4 : wz.drew.heap.size = wz.heap.size := rfl; omega) (fun k hk => put4_other hk s p wd h)
        have h5 : (put4 wt w.heap.size s p wd h).heap.size = wt.heap.size := by simp [put4]
        have h6 : Ents (put4 wt w.heap.size s p wd h) (put4 wt w.heap.size s p wd h).heap.size A' l := by rw [h5]; exact h1
        exact h6
      have HW4 := Lib.hid hw4; have HE4 := Lib.hid (And.intro e0 (And.intro e1 (And.intro e2 (And.intro e3 hb4)))); have HEn := Lib.hid hEn
      clear hw4 e0 e1 e2 e3 hb4 hEn
      go_wp2
      rw [← HW4.out]
      obtain ⟨e0, e1, e2, e3, hb4⟩ := HE4.out
      exact bodyPost_ret (v := .tuple #[.agg #[.string s, .int .i64 p, .int .i64 wd, .int .i64 h], .slice A' l.length cp']) (by simp [results, Try.results8, go_sem, e0, e1, e2, e3]) rfl ⟨s, p, wd, h, A', cp', l, rfl, by omega, hl, HEn.out, hb4⟩
  | true =>
    rw [hro] at RO
    simp only [rdOk, Bool.and_eq_true, decide_eq_true_eq] at hro
    obtain ⟨r0, r1⟩ := hro
    obtain ⟨an, rfl⟩ := Int.eq_ofNat_of_zero_le r0
    obtain ⟨b5, i4, h4, l4, C4⟩ := once_det A cap zs i3 h3 l3 5
    have HC4 := Lib.hid C4; clear C4
    go_wp2_with fail
    refine (RO.out _).mono ?_
    rintro e wa ⟨rfl, hb⟩
    have Xa := Lib.hid (cell_kept XB.out hb)
    have Na := Lib.hid (cell_kept NB.out hb)
    have Ra := Lib.hid (cell_kept RB.out hb)
    have Ga := Lib.hid (cursor_below GB.out hb)
    have Ba := Lib.hid (below_up BB.out hb BB.out.size)
    clear hb n0 n1
    go_wp2_with fail
    refine (HC4.out _ _ Ga.out).mono ?_
    rintro e wb ⟨rfl, hCb, hgb⟩
    have Xb := Lib.hid (grown_at Xa.out hgb hxg)
    have Nb := Lib.hid (grown_at Na.out hgb hne2)
    have Rb := Lib.hid (grown_at Ra.out hgb (by omega))
    have Gb := Lib.hid hCb
    have Bb := Lib.hid (Ba.out.trans (grown_below hgb (Nat.le_of_lt hgw) Ba.out.size))
    clear hCb hgb
    cases b5 with
    | true =>
      obtain ⟨wz, hwz⟩ : ∃ wz, wz = wb := ⟨_, rfl⟩
      subst hwz
      have GX := Xb
      have RZ := Rb
      have GZ := Gb
      have BZ := Bb
      clear Xb Rb Gb Bb
      obtain ⟨s, hs⟩ : ∃ s, s = s1 := ⟨_, rfl⟩
      obtain ⟨p, hp⟩ : ∃ p, p = p1 := ⟨_, rfl⟩
      obtain ⟨wd, hwd⟩ : ∃ y, y = y1 := ⟨_, rfl⟩
      obtain ⟨h, hh⟩ : ∃ x, x = x1 := ⟨_, rfl⟩
      obtain ⟨iz, hiz⟩ : ∃ i, i = i4 := ⟨_, rfl⟩
      obtain ⟨hz, hhz⟩ : ∃ i, i = h4 := ⟨_, rfl⟩
      subst hs hp hwd hh hiz hhz
      have lz := l4
      obtain ⟨c0, c1, c2, c3⟩ := cells4 GX.out
      have hlx := heap_lt GX.out
      go_wp2_with fail
      go_region_with (go_at_call 34; refine (l7table_ex A cap zs iz hz lz _ g GZ.out.drew).mono ?_; rintro e wt hout; obtain ⟨A', cp', l, i', h', rfl, hl, hE, hF, li, hCt, hgt⟩ := hout; have GT := Lib.hid hE; have FT := Lib.hid hF; have XT := Lib.hid (grown_at (w := wz.drew) GX.out hgt hxg); have RT := Lib.hid (grown_at (w := wz.drew) RZ.out hgt (by omega)); have BT := Lib.hid (BZ.out.drew.trans (grown_below hgt (Nat.le_of_lt hgw) BZ.out.drew.size)); have xc := cells4 XT.out; obtain ⟨j0, j1, j2, j3⟩ := xc; have rc := cells4 RT.out; obtain ⟨d0, d1, d2, d3⟩ := rc; have rf := frozen4 RT.out; obtain ⟨f0, f1, f2, f3⟩ := rf; clear hE hF hCt hgt)
      all_goals
        obtain ⟨w4, hw4, e0, e1, e2, e3, hb4⟩ := out4 s p wd h RT.out (Nat.le_refl _) BT.out
        have hEn : Ents w4 w4.heap.size A' l := by
          rw [hw4]
          have h1 := GT.out.other (w' := put4 wt w.heap.size s p wd h) (x := w.heap.size) (fun b off hb e => by have h2 := FT.out b off hb; have h3 := heap_lt RZ.out; have h4 : wz.drew.heap.size = wz.heap.size := rfl; omega) (fun k hk => put4_other hk s p wd h)
          have h5 : (put4 wt w.heap.size s p wd h).heap.size = wt.heap.size := by simp [put4]
          have h6 : Ents (put4 wt w.heap.size s p wd h) (put4 wt w.heap.size s p wd h).heap.size A' l := by rw [h5]; exact h1
          exact h6
        have HW4 := Lib.hid hw4; have HE4 := Lib.hid (And.intro e0 (And.intro e1 (And.intro e2 (And.intro e3 hb4)))); have HEn := Lib.hid hEn
        clear hw4 e0 e1 e2 e3 hb4 hEn
        go_wp2
        rw [← HW4.out]
        obtain ⟨e0, e1, e2, e3, hb4⟩ := HE4.out
        exact bodyPost_ret (v := .tuple #[.agg #[.string s, .int .i64 p, .int .i64 wd, .int .i64 h], .slice A' l.length cp']) (by simp [results, Try.results8, go_sem, e0, e1, e2, e3]) rfl ⟨s, p, wd, h, A', cp', l, rfl, by omega, hl, HEn.out, hb4⟩
    | false =>
      have HL := Lib.hid (l7at_any s0 an (by omega) (by omega))
      have HR := Lib.hid (spec_refill_in s0 an ((an + 7) / 8) (by omega) ⟨by omega, by omega, by omega⟩)
      unfold cw cv at HL HR
      obtain ⟨p2, hp2⟩ : ∃ p2 : Int, p2 = (((an + 7) / 8 : Nat) : Int) := ⟨_, rfl⟩
      obtain ⟨y2, hy2⟩ : ∃ y2 : Int, y2 = (rdN s0 an (8 * ((an + 7) / 8) - an) : Int) := ⟨_, rfl⟩
      obtain ⟨x2, hx2⟩ : ∃ x2 : Int, x2 = ((8 * ((an + 7) / 8) - an : Nat) : Int) := ⟨_, rfl⟩
      obtain ⟨p3, hp3⟩ : ∃ p2 : Int, p2 = (rfP s0 an ((an + 7) / 8) : Int) := ⟨_, rfl⟩
      obtain ⟨y3, hy3⟩ : ∃ y2 : Int, y2 = (rdN s0 an (8 * rfP s0 an ((an + 7) / 8) - an) : Int) := ⟨_, rfl⟩
      obtain ⟨x3, hx3⟩ : ∃ x2 : Int, x2 = ((8 * rfP s0 an ((an + 7) / 8) - an : Nat) : Int) := ⟨_, rfl⟩
      rw [← hp2, ← hy2, ← hx2] at HL HR
      rw [← hp3, ← hy3, ← hx3] at HR
      clear hp2 hy2 hx2 hp3 hy3 hx3
      obtain ⟨m0, m1⟩ := cells2 Nb.out
      have hnb := heap_lt Nb.out
      go_wp2_with fail
      refine (HL.out _).mono ?_
      rintro e wc ⟨rfl, hb⟩
      have Xc := Lib.hid (cell_kept Xb.out hb)
      have Rc := Lib.hid (cell_kept Rb.out hb)
      have Gc := Lib.hid (cursor_below Gb.out hb)
      have Bc := Lib.hid (below_up Bb.out hb Bb.out.size)
      clear hb m0 m1
      obtain ⟨j0, j1, j2, j3⟩ := cells4 Xc.out
      obtain ⟨f0, f1, f2, f3⟩ := frozen4 Xc.out
      have hg3 : g < w3.heap.size := G3.out.lt
      have Xd := Lib.hid (put4_block Xc.out s0 p2 y2 x2)
      have Rd : Hid ((put4 wc w3.heap.size s0 p2 y2 x2).heap[w.heap.size]? = some (.cells #[.string ⟨#[]⟩, .int .i64 0, .int .i64 0, .int .i64 0] 25 (0, 0))) := Lib.hid ((put4_other (w := wc) (g := w3.heap.size) (k := w.heap.size) (by omega) s0 p2 y2 x2).trans Rc.out)
      have Gd : Hid (Cursor (put4 wc w3.heap.size s0 p2 y2 x2) g A cap zs i4 h4) := Lib.hid (Gc.out.kept fun k hk => put4_other (by omega) s0 p2 y2 x2)
      have Bd := Lib.hid (put4_below Bc.out w3.heap.size (by omega) s0 p2 y2 x2)
      obtain ⟨b6, i5, h5, l5, C5⟩ := once_det A cap zs i4 h4 l4 2
      have HC5 := Lib.hid C5; clear C5
      go_wp2_with fail
      refine (HC5.out _ _ Gd.out).mono ?_
      rintro e we ⟨rfl, hCe, hge⟩
      have Xe := Lib.hid (grown_at (w := put4 wc w3.heap.size s0 p2 y2 x2) Xd.out hge hxg)
      have Re := Lib.hid (grown_at (w := put4 wc w3.heap.size s0 p2 y2 x2) Rd.out hge (by omega))
      have Ge := Lib.hid hCe
      have Be := Lib.hid (Bd.out.trans (grown_below (w := put4 wc w3.heap.size s0 p2 y2 x2) hge (Nat.le_of_lt hgw) Bd.out.size))
      clear hCe hge f0 f1 f2 f3 j0 j1 j2 j3
      cases b6 with
      | false =>
        obtain ⟨wz, hwz⟩ : ∃ wz, wz = we := ⟨_, rfl⟩
        subst hwz
        have GX := Xe
        have RZ := Re
        have GZ := Ge
        have BZ := Be
        clear Xe Re Ge Be
        obtain ⟨s, hs⟩ : ∃ s, s = s0 := ⟨_, rfl⟩
        obtain ⟨p, hp⟩ : ∃ p, p = p2 := ⟨_, rfl⟩
        obtain ⟨wd, hwd⟩ : ∃ y, y = y2 := ⟨_, rfl⟩
        obtain ⟨h, hh⟩ : ∃ x, x = x2 := ⟨_, rfl⟩
        obtain ⟨iz, hiz⟩ : ∃ i, i = i5 := ⟨_, rfl⟩
        obtain ⟨hz, hhz⟩ : ∃ i, i = h5 := ⟨_, rfl⟩
        subst hs hp hwd hh hiz hhz
        have lz := l5
        obtain ⟨c0, c1, c2, c3⟩ := cells4 GX.out
        have hlx := heap_lt GX.out
        go_wp2_with fail
        go_region_with (go_at_call 34; refine (l7table_ex A cap zs iz hz lz _ g GZ.out.drew).mono ?_; rintro e wt hout; obtain ⟨A', cp', l, i', h', rfl, hl, hE, hF, li, hCt, hgt⟩ := hout; have GT := Lib.hid hE; have FT := Lib.hid hF; have XT := Lib.hid (grown_at (w := wz.drew) GX.out hgt hxg); have RT := Lib.hid (grown_at (w := wz.drew) RZ.out hgt (by omega)); have BT := Lib.hid (BZ.out.drew.trans (grown_below hgt (Nat.le_of_lt hgw) BZ.out.drew.size)); have xc := cells4 XT.out; obtain ⟨j0, j1, j2, j3⟩ := xc; have rc := cells4 RT.out; obtain ⟨d0, d1, d2, d3⟩ := rc; have rf := frozen4 RT.out; obtain ⟨f0, f1, f2, f3⟩ := rf; clear hE hF hCt hgt)
        all_goals
          obtain ⟨w4, hw4, e0, e1, e2, e3, hb4⟩ := out4 s p wd h RT.out (Nat.le_refl _) BT.out
          have hEn : Ents w4 w4.heap.size A' l := by
            rw [hw4]
            have h1 := GT.out.other (w' := put4 wt w.heap.size s p wd h) (x := w.heap.size) (fun b off hb e => by have h2 := FT.out b off hb; have h3 := heap_lt RZ.out; have h4 : wz.drew.heap.size = wz.heap.size := rfl; omega) (fun k hk => put4_other hk s p wd h)
            have h5 : (put4 wt w.heap.size s p wd h).heap.size = wt.heap.size := by simp [put4]
            have h6 : Ents (put4 wt w.heap.size s p wd h) (put4 wt w.heap.size s p wd h).heap.size A' l := by rw [h5]; exact h1
            exact h6
          have HW4 := Lib.hid hw4; have HE4 := Lib.hid (And.intro e0 (And.intro e1 (And.intro e2 (And.intro e3 hb4)))); have HEn := Lib.hid hEn
          clear hw4 e0 e1 e2 e3 hb4 hEn
          go_wp2
          rw [← HW4.out]
          obtain ⟨e0, e1, e2, e3, hb4⟩ := HE4.out
          exact bodyPost_ret (v := .tuple #[.agg #[.string s, .int .i64 p, .int .i64 wd, .int .i64 h], .slice A' l.length cp']) (by simp [results, Try.results8, go_sem, e0, e1, e2, e3]) rfl ⟨s, p, wd, h, A', cp', l, rfl, by omega, hl, HEn.out, hb4⟩
      | true =>
        obtain ⟨j0, j1, j2, j3⟩ := cells4 Xe.out
        have hxe := heap_lt Xe.out
        go_wp2_with fail
        refine (HR.out _).mono ?_
        rintro e wf ⟨rfl, hb⟩
        have Xf := Lib.hid (cell_kept Xe.out hb)
        have Rf := Lib.hid (cell_kept Re.out hb)
        have Gf := Lib.hid (cursor_below Ge.out hb)
        have Bf := Lib.hid (below_up Be.out hb Be.out.size)
        clear hb j0 j1 j2 j3
        obtain ⟨j0, j1, j2, j3⟩ := cells4 Xf.out
        obtain ⟨f0, f1, f2, f3⟩ := frozen4 Xf.out
        obtain ⟨wz, hwz⟩ : ∃ wz, wz = put4 wf w3.heap.size s0 p3 y3 x3 := ⟨_, rfl⟩
        have GX : Hid (wz.heap[w3.heap.size]? = some (.cells #[.string s0, .int .i64 p3, .int .i64 y3, .int .i64 x3] 25 (0, 0))) := Lib.hid (by rw [hwz]; exact put4_block Xf.out s0 p3 y3 x3)
        have RZ : Hid (wz.heap[w.heap.size]? = some (.cells #[.string ⟨#[]⟩, .int .i64 0, .int .i64 0, .int .i64 0] 25 (0, 0))) := Lib.hid (by rw [hwz]; exact (put4_other (w := wf) (g := w3.heap.size) (k := w.heap.size) (by omega) s0 p3 y3 x3).trans Rf.out)
        have GZ : Hid (Cursor wz g A cap zs i5 h5) := Lib.hid (by rw [hwz]; exact Gf.out.kept fun k hk => put4_other (by omega) s0 p3 y3 x3)
        have BZ : Hid (Below w.heap.size w wz) := Lib.hid (by rw [hwz]; exact put4_below Bf.out w3.heap.size (by omega) s0 p3 y3 x3)
        have HWZ := Lib.hid hwz; clear hwz
        go_upto_region 8 with fail
        rw [show ((((wf.setCell ⟨w3.heap.size, 0, none⟩ (.string s0)).setCell ⟨w3.heap.size, 1, none⟩ (.int .i64 p3)).setCell ⟨w3.heap.size, 2, none⟩ (.int .i64 y3)).setCell ⟨w3.heap.size, 3, none⟩ (.int .i64 x3)) = wz from HWZ.out.symm]
        clear j0 j1 j2 j3 f0 f1 f2 f3
        obtain ⟨s, hs⟩ : ∃ s, s = s0 := ⟨_, rfl⟩
        obtain ⟨p, hp⟩ : ∃ p, p = p3 := ⟨_, rfl⟩
        obtain ⟨wd, hwd⟩ : ∃ y, y = y3 := ⟨_, rfl⟩
        obtain ⟨h, hh⟩ : ∃ x, x = x3 := ⟨_, rfl⟩
        obtain ⟨iz, hiz⟩ : ∃ i, i = i5 := ⟨_, rfl⟩
        obtain ⟨hz, hhz⟩ : ∃ i, i = h5 := ⟨_, rfl⟩
        subst hs hp hwd hh hiz hhz
        have lz := l5
        obtain ⟨c0, c1, c2, c3⟩ := cells4 GX.out
        have hlx := heap_lt GX.out
        go_region_with (go_at_call 34; refine (l7table_ex A cap zs iz hz lz _ g GZ.out.drew).mono ?_; rintro e wt hout; obtain ⟨A', cp', l, i', h', rfl, hl, hE, hF, li, hCt, hgt⟩ := hout; have GT := Lib.hid hE; have FT := Lib.hid hF; have XT := Lib.hid (grown_at (w := wz.drew) GX.out hgt hxg); have RT := Lib.hid (grown_at (w := wz.drew) RZ.out hgt (by omega)); have BT := Lib.hid (BZ.out.drew.trans (grown_below hgt (Nat.le_of_lt hgw) BZ.out.drew.size)); have xc := cells4 XT.out; obtain ⟨j0, j1, j2, j3⟩ := xc; have rc := cells4 RT.out; obtain ⟨d0, d1, d2, d3⟩ := rc; have rf := frozen4 RT.out; obtain ⟨f0, f1, f2, f3⟩ := rf; clear hE hF hCt hgt)
        all_goals
          obtain ⟨w4, hw4, e0, e1, e2, e3, hb4⟩ := out4 s p wd h RT.out (Nat.le_refl _) BT.out
          have hEn : Ents w4 w4.heap.size A' l := by
            rw [hw4]
            have h1 := GT.out.other (w' := put4 wt w.heap.size s p wd h) (x := w.heap.size) (fun b off hb e => by have h2 := FT.out b off hb; have h3 := heap_lt RZ.out; have h4 : wz.drew.heap.size = wz.heap.size := rfl; omega) (fun k hk => put4_other hk s p wd h)
            have h5 : (put4 wt w.heap.size s p wd h).heap.size = wt.heap.size := by simp [put4]
            have h6 : Ents (put4 wt w.heap.size s p wd h) (put4 wt w.heap.size s p wd h).heap.size A' l := by rw [h5]; exact h1
            exact h6
          have HW4 := Lib.hid hw4; have HE4 := Lib.hid (And.intro e0 (And.intro e1 (And.intro e2 (And.intro e3 hb4)))); have HEn := Lib.hid hEn
          clear hw4 e0 e1 e2 e3 hb4 hEn
          go_wp2
          rw [← HW4.out]
          obtain ⟨e0, e1, e2, e3, hb4⟩ := HE4.out
          exact bodyPost_ret (v := .tuple #[.agg #[.string s, .int .i64 p, .int .i64 wd, .int .i64 h], .slice A' l.length cp']) (by simp [results, Try.results8, go_sem, e0, e1, e2, e3]) rfl ⟨s, p, wd, h, A', cp', l, rfl, by omega, hl, HEn.out, hb4⟩
end Go.Proofs.Ythiplncceglnhaa
