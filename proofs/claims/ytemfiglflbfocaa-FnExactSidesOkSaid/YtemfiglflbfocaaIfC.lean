/-
  Chapter 18: the contract of the program's SetBlock. Conditions: a frame of at most 1048576 samples; a row that lies nowhere holds nothing; the block's numbers are held.
-/
import Derived.Test.YtemfiglflbfocaaIfA
import Derived.Test.YtemfiglflbfocaaIfB
import Derived.Test.YtemfiglflbfocaaIfP
import Derived.Laws.CopyOwn
import Derived.Deep.RegionHeld3
namespace Go.Proofs.Ytemfiglflbfocaa
open Go.RowKit
set_option linter.unusedVariables false

/-- A copy into a row of one's own, as a step of a region that draws its order. -/
theorem step_copy_own {P : Program} {ops : Array Oper} {o : Oper} {a : Act} {w : World} {K : Act → World → Prop} {Q : Exit → Act → World → Prop} {E : Prop} (hgd : o.guard = none) (d s : Operand) (dT sT : TypeId)
    (ho : o.op = .call { callee := .builtin .copy, args := #[d, s], argTypes := #[dT, sT] }) (hu : P.underlying dT = some (.slice 3)) (hsz : (P.info? 3).map (·.size) = some 1)
    (base g n cap : Nat) (cur : List Int) (hown : w.ownsRow base 3 1 (.slice (some ⟨g, 0, none⟩) n cap) n (ivs cur))
    (off k dCap : Nat) (hd : a.eval d = .slice (some ⟨g, off, none⟩) k dCap) (sb so sl sc : Nat) (hs : a.eval s = .slice (some ⟨sb, so, none⟩) sl sc) (hk : k ≤ sl) (l : List Int) (hl : l.length = k)
    (hsrc : ∀ j, j < k → w.cell? ⟨sb, so + j, none⟩ = some (.int .i64 (l.getD j 0))) (hfit : off + k ≤ n)
    (h : ∀ w', w'.ownsRow base 3 1 (.slice (some ⟨g, 0, none⟩) n cap) n (ivs (cur.take off ++ l ++ cur.drop (off + k))) → w.grownBy w' (some g) → K (a.put o.dst (goInt k)) w') :
    if Region.wanted o (yielded ops a.tmps) = true then Oper.wp P o a w K Q else E := by
  have hw : Region.wanted o (yielded ops a.tmps) = true := by simp [Region.wanted, hgd]
  rw [if_pos hw]
  have hcl : (ivs cur).length = n := by have := hown.1; omega
  rcases hown.2 with ⟨h1, _⟩ | ⟨g2, cap2, blk, h1, hb, hg, hnc, hcm, hcs, htake⟩
  · cases h1
  · injection h1 with e1 e2 e3
    injection e1 with e1
    injection e1 with e1
    subst e1 e3
    have hll : (ivs l).length = k := by rw [ivs_len, hl]
    have hbl : blk.toList.length = cap := by rw [Array.length_toList, hcs, Nat.mul_one]
    have hrun := run_copy_row (P := P) w dT sT o.type 3 g off k dCap ⟨sb, so, none⟩ sl sc blk 3 (ivs l) hu hsz hg (by rw [hll]; exact (Nat.min_eq_right hk).symm)
      (fun j v hj => by
        have hj2 : j < l.length := by
          have := (List.getElem?_eq_some_iff.1 hj).1
          rwa [ivs_len] at this
        rw [Addr.add_lit, hsrc j (by omega), ← hj, ivs_at l j hj2]) (by rw [hll, hcs]; omega) (fun u hu => by
          simp only [ivs, List.mem_map] at hu
          obtain ⟨y, _, rfl⟩ := hu
          rfl)
    rw [hll] at hrun
    unfold Oper.wp
    simp [execOp, ho, resolve, invoke, builtin, hd, hs, hrun, Result.andThen]
    refine h _ ⟨?_, .inr ⟨g, cap, _, rfl, hb, setRow_heap w g _ _ 3 _ hg, hnc, hcm, ?_, ?_⟩⟩ ⟨rfl, rfl, rfl, by simp [World.setRow], fun j _ hj => setRow_other w g j _ (fun e => hj (by rw [e]))⟩
    · rw [ivs_len, List.length_append, List.length_append, List.length_take, List.length_drop, hl]
      rw [ivs_len] at hcl
      omega
    · simp only [List.size_toArray, List.length_append, List.length_take, List.length_drop, hll, hbl]
      omega
    · rw [Nat.mul_one] at htake ⊢
      rw [ivs_append, ivs_append, show ivs (cur.take off) = (ivs cur).take off by simp only [ivs, List.map_take], show ivs (cur.drop (off + k)) = (ivs cur).drop (off + k) by simp only [ivs, List.map_drop], ← htake, List.take_take, Nat.min_eq_left (by omega : off ≤ n), List.drop_take]
      have p1 : (blk.toList.take off ++ ivs l).length = off + k := by rw [List.length_append, List.length_take, hll, hbl]; omega
      show (blk.toList.take off ++ (ivs l ++ blk.toList.drop (off + k))).take n = _
      rw [← List.append_assoc, List.take_append, List.take_of_length_le (by omega), p1]
theorem cp_up {w w' W : World} {p0 p1 p2 : Addr} {v0 v1 v2 : Value} {r : Option Nat} (h : w.cell? p0 = some v0 ∧ w.cell? p1 = some v1 ∧ w.cell? p2 = some v2 ∧ W.grownBy w r) (hb : Below w.heap.size w w') : w'.cell? p0 = some v0 ∧ w'.cell? p1 = some v1 ∧ w'.cell? p2 = some v2 ∧ W.grownBy w' r := by
  obtain ⟨h0, h1, h2, h3⟩ := h
  have k : ∀ {p : Addr} {v : Value}, w.cell? p = some v → w'.cell? p = some v := fun hc => by
    rw [hb.cell (World.block_lt_of_cell? w _ hc)]; exact hc
  exact ⟨k h0, k h1, k h2, grown_onO h3 (below_grown hb r)⟩
theorem cp_drew {w W : World} {p0 p1 p2 : Addr} {v0 v1 v2 : Value} {r : Option Nat} (h : w.cell? p0 = some v0 ∧ w.cell? p1 = some v1 ∧ w.cell? p2 = some v2 ∧ W.grownBy w r) : w.drew.cell? p0 = some v0 ∧ w.drew.cell? p1 = some v1 ∧ w.drew.cell? p2 = some v2 ∧ W.grownBy w.drew r :=
  ⟨h.1, h.2.1, h.2.2.1, grown_onO h.2.2.2 (grown_drew_on w r)⟩
theorem cp_put {w w' W : World} {g o0 o1 o2 tb : Nat} {v0 v1 v2 : Value} (h : w.cell? ⟨g, o0, none⟩ = some v0 ∧ w.cell? ⟨g, o1, none⟩ = some v1 ∧ w.cell? ⟨g, o2, none⟩ = some v2 ∧ W.grownBy w (some tb)) (hg : w.grownBy w' (some tb)) (hne : g ≠ tb) : w'.cell? ⟨g, o0, none⟩ = some v0 ∧ w'.cell? ⟨g, o1, none⟩ = some v1 ∧ w'.cell? ⟨g, o2, none⟩ = some v2 ∧ W.grownBy w' (some tb) := by
  obtain ⟨h0, h1, h2, h3⟩ := h
  have k : ∀ {o : Nat} {v : Value}, w.cell? ⟨g, o, none⟩ = some v → w'.cell? ⟨g, o, none⟩ = some v := fun hc =>
    (World.cell?_of_block (hg.block _ (World.block_lt_of_cell? w _ hc) (by simp; exact hne))).trans hc
  exact ⟨k h0, k h1, k h2, grown_onO h3 hg⟩
theorem own_drew_or {w : World} {base : Nat} {e : TypeId} {size : Nat} {v : Value} {n : Nat} {xs : List Value} (h : w.ownsRow base e size v n xs) : w.drew.ownsRow base e size v n xs := World.ownsRow.drew h
theorem cp_start (wr W : World) {g tb : Nat} {v0 v1 v2 : Value} {T : TypeId} {fr : Nat × Nat} (hg : W.grownBy wr (some tb)) (h : wr.heap[g]? = some (.cells #[v0, v1, v2] T fr)) : wr.cell? ⟨g, 0, none⟩ = some v0 ∧ wr.cell? ⟨g, 1, none⟩ = some v1 ∧ wr.cell? ⟨g, 2, none⟩ = some v2 ∧ W.grownBy wr (some tb) :=
  ⟨(rs3_cells h).1, (rs3_cells h).2.1, (rs3_cells h).2.2, hg⟩
set_option maxRecDepth 100000 in
set_option maxHeartbeats 4000000 in
theorem impl_setblock_off (A : Option Addr) (cA : Nat) (l : List Int) (p0 p1 x y : Int) (M : Option Addr) (cM : Nat) (m : List Int) (hl : l.length ≤ 1048576) (hP : Placed A cA) (hok : sbE p0 p1 l x y m = false) (w : World) (hA : Ints w w.heap.size A l) (hM : Ints w w.heap.size M m) :
    Calls Try.prog 14 #[.agg #[.int .i64 p0, .int .i64 p1, .slice A l.length cA], .int .i64 x, .int .i64 y, .slice M m.length cM] w fun e w' => ∃ A' c', e = .returned (.tuple #[.agg #[.int .i64 p0, .int .i64 p1, .slice A' l.length c'], .bool false]) ∧ OwnI w' w.heap.size A' c' l ∧ Below w.heap.size w w' := by
  obtain ⟨k0, k1, hsz⟩ := box_two w (.cells #[.int .i64 p0, .int .i64 p1, .slice A l.length cA] 26) (.cells #[.int .i64 0, .int .i64 0, .slice none 0 0] 26)
  have hbl := below_two w (.cells #[.int .i64 p0, .int .i64 p1, .slice A l.length cA] 26) (.cells #[.int .i64 0, .int .i64 0, .slice none 0 0] 26)
  have SI := Lib.hid fun w => impl_side_any m.length w
  have CC := Lib.hid fun w h => concat1 A cA l (by omega) w 24 h hP
  have IN := Lib.hid fun w h => impl_hasblock_any p0 p1 A cA l x y (sideN m.length) w h
  have PX := Lib.hid fun w h => impl_samples_any M cM m w h
  have HA := Lib.hid hA; have HM := Lib.hid hM
  have hmm := hM.1
  have hsbE : sbE p0 p1 l x y m = (inE p0 p1 l x y (sideN m.length) && m.all pixE) := rfl
  obtain ⟨N, hN⟩ : ∃ n, n = sideN m.length := ⟨_, rfl⟩
  rw [← hN] at SI IN hsbE
  obtain ⟨E, hE⟩ : ∃ n, n = inE p0 p1 l x y N := ⟨_, rfl⟩
  rw [← hE] at IN hsbE
  obtain ⟨X, hX⟩ : ∃ n, n = m.all pixE := ⟨_, rfl⟩
  rw [← hX] at PX hsbE
  obtain ⟨n, hn⟩ : ∃ n, n = l.length := ⟨_, rfl⟩
  have HN := Lib.hid hn
  rw [← hn] at k0 k1 hsz hbl CC IN ⊢
  obtain ⟨k, hk⟩ : ∃ n, n = m.length := ⟨_, rfl⟩
  rw [← hk] at hmm SI PX ⊢
  rw [hok] at hsbE
  obtain ⟨c0, c1, c2⟩ := rs3_cells k0
  have K0 := Lib.hid k0; have K1 := Lib.hid k1; have HBL := Lib.hid hbl; have HSZ := Lib.hid hsz; have HS := Lib.hid hsbE
  clear hA hM hn hk hN hE hX hbl k0 k1 hsz hl hok hsbE
  go_enter Try.func14, Try.ntmps14
  go_wp2_with fail
  refine (SI.out _).mono ?_
  rintro e w1 ⟨rfl, hw⟩
  subst hw
  go_wp2_with fail
  refine (IN.out _ ((HA.out.below HBL.out (Nat.le_refl _)).mono HBL.out.size)).mono ?_
  rintro e w2 ⟨rfl, hb2⟩
  have E0 := Lib.hid (cell_kept K0.out hb2); have E1 := Lib.hid (cell_kept K1.out hb2)
  have B2 := Lib.hid (below_up HBL.out hb2 HBL.out.size)
  have I2 := Lib.hid ((HA.out.below B2.out (Nat.le_refl _)).mono B2.out.size)
  have M2 := Lib.hid ((HM.out.below B2.out (Nat.le_refl _)).mono B2.out.size)
  obtain ⟨d0, d1, d2⟩ := rs3_cells E0.out
  clear c0 c1 c2 hb2
  cases E with
  | false =>
    go_wp2_with fail
    refine (CC.out _ I2.out).mono ?_
    rintro e w4 ⟨A4, c4, rfl, ho, hb4⟩
    have F0 := Lib.hid (cell_kept E0.out hb4); have F1 := Lib.hid (cell_kept E1.out hb4)
    have B4 := Lib.hid (below_up B2.out hb4 B2.out.size)
    have S2 := Lib.hid (heap_lt E0.out); have S3 := Lib.hid (heap_lt E1.out); have S4 := Lib.hid (heap_lt F0.out); have S5 := Lib.hid (heap_lt F1.out)
    clear d0 d1 d2
    obtain ⟨d0, d1, d2⟩ := rs3_cells F0.out
    obtain ⟨z0, z1, z2⟩ := rs3_frozen F0.out
    have O4 := Lib.hid ho
    clear hb4 ho
    have kk := heap_setCell_same w4 w.heap.size 2 _ _ (.slice A4 n c4) F0.out
    have gg := grown_cell w4 w.heap.size 2 (.slice A4 n c4)
    have G0 : Hid ((w4.setCell ⟨w.heap.size, 2, none⟩ (.slice A4 n c4)).heap[w.heap.size]? = some (.cells #[.int .i64 p0, .int .i64 p1, .slice A4 n c4] 26 (0, 0))) := Lib.hid kk
    have G1 := Lib.hid ((gg.block (w.heap.size + 1) S5.out (by simp)).trans F1.out)
    have B5 := Lib.hid (B4.out.grown gg B4.out.size fun j hj => by obtain rfl := Option.some.inj hj; exact Nat.le_refl _)
    have O5 := Lib.hid (O4.out.other gg (fun j hj => by obtain rfl := Option.some.inj hj; exact S2.out))
    obtain ⟨W5, hW5⟩ : ∃ W5, W5 = w4.setCell ⟨w.heap.size, 2, none⟩ (.slice A4 n c4) := ⟨_, rfl⟩
    rw [← hW5] at G0 G1 B5 O5
    have HW5 := Lib.hid hW5
    have R := rs3_cells (rs3_put G1.out (.int .i64 p0) (.int .i64 p1) (.slice A4 n c4))
    have gb := rs3_grown W5 (w.heap.size + 1) (.int .i64 p0) (.int .i64 p1) (.slice A4 n c4)
    have HR := Lib.hid R; have HG := Lib.hid gb
    obtain ⟨e0, e1, e2⟩ := rs3_cells G0.out
    obtain ⟨y0, y1, y2⟩ := rs3_frozen G1.out
    obtain ⟨x0, x1, x2⟩ := rs3_cells G1.out
    rw [hW5] at e0 e1 e2 y0 y1 y2 x0 x1 x2
    clear gg kk R gb hW5
    go_wp2
    rw [← HW5.out]
    obtain ⟨r0, r1, r2⟩ := HR.out
    have o3 := OwnI.other O5.out HG.out (fun j hj => by obtain rfl := Option.some.inj hj; exact S3.out)
    exact bodyPost_ret (v := .tuple #[.agg #[.int .i64 p0, .int .i64 p1, .slice A4 n c4], .bool false]) (by simp [results, Try.results14, go_sem, r0, r1, r2]) rfl ⟨A4, c4, rfl, o3.low B2.out.size, B5.out.grown HG.out B5.out.size (fun j hj => by obtain rfl := Option.some.inj hj; omega)⟩
  | true =>
    have hX : X = false := by have := HS.out; rw [Bool.true_and] at this; exact this.symm
    rw [hX] at PX
    clear hX
    go_wp2_with fail
    refine (PX.out _ M2.out).mono ?_
    rintro e w3 ⟨rfl, hw⟩
    subst hw
    go_wp2_with fail
    refine (CC.out _ I2.out).mono ?_
    rintro e w4 ⟨A4, c4, rfl, ho, hb4⟩
    have F0 := Lib.hid (cell_kept E0.out hb4); have F1 := Lib.hid (cell_kept E1.out hb4)
    have B4 := Lib.hid (below_up B2.out hb4 B2.out.size)
    have S2 := Lib.hid (heap_lt E0.out); have S3 := Lib.hid (heap_lt E1.out); have S4 := Lib.hid (heap_lt F0.out); have S5 := Lib.hid (heap_lt F1.out)
    clear d0 d1 d2
    obtain ⟨d0, d1, d2⟩ := rs3_cells F0.out
    obtain ⟨z0, z1, z2⟩ := rs3_frozen F0.out
    have O4 := Lib.hid ho
    clear hb4 ho
    have kk := heap_setCell_same w4 w.heap.size 2 _ _ (.slice A4 n c4) F0.out
    have gg := grown_cell w4 w.heap.size 2 (.slice A4 n c4)
    have G0 : Hid ((w4.setCell ⟨w.heap.size, 2, none⟩ (.slice A4 n c4)).heap[w.heap.size]? = some (.cells #[.int .i64 p0, .int .i64 p1, .slice A4 n c4] 26 (0, 0))) := Lib.hid kk
    have G1 := Lib.hid ((gg.block (w.heap.size + 1) S5.out (by simp)).trans F1.out)
    have B5 := Lib.hid (B4.out.grown gg B4.out.size fun j hj => by obtain rfl := Option.some.inj hj; exact Nat.le_refl _)
    have O5 := Lib.hid (O4.out.other gg (fun j hj => by obtain rfl := Option.some.inj hj; exact S2.out))
    obtain ⟨W5, hW5⟩ : ∃ W5, W5 = w4.setCell ⟨w.heap.size, 2, none⟩ (.slice A4 n c4) := ⟨_, rfl⟩
    rw [← hW5] at G0 G1 B5 O5
    have HW5 := Lib.hid hW5
    have R := rs3_cells (rs3_put G1.out (.int .i64 p0) (.int .i64 p1) (.slice A4 n c4))
    have gb := rs3_grown W5 (w.heap.size + 1) (.int .i64 p0) (.int .i64 p1) (.slice A4 n c4)
    have HR := Lib.hid R; have HG := Lib.hid gb
    obtain ⟨e0, e1, e2⟩ := rs3_cells G0.out
    obtain ⟨y0, y1, y2⟩ := rs3_frozen G1.out
    obtain ⟨x0, x1, x2⟩ := rs3_cells G1.out
    rw [hW5] at e0 e1 e2 y0 y1 y2 x0 x1 x2
    clear gg kk R gb hW5
    go_wp2
    rw [← HW5.out]
    obtain ⟨r0, r1, r2⟩ := HR.out
    have o3 := OwnI.other O5.out HG.out (fun j hj => by obtain rfl := Option.some.inj hj; exact S3.out)
    exact bodyPost_ret (v := .tuple #[.agg #[.int .i64 p0, .int .i64 p1, .slice A4 n c4], .bool false]) (by simp [results, Try.results14, go_sem, r0, r1, r2]) rfl ⟨A4, c4, rfl, o3.low B2.out.size, B5.out.grown HG.out B5.out.size (fun j hj => by obtain rfl := Option.some.inj hj; omega)⟩
set_option maxRecDepth 100000 in
set_option maxHeartbeats 4000000 in
theorem impl_setblock_4 (A : Option Addr) (cA : Nat) (l : List Int) (a b x y : Nat) (M : Option Addr) (cM : Nat) (m : List Int) (hm : m.length = 16) (hcM : 16 ≤ cM) (hP : Placed A cA) (hin : inE (a : Int) (b : Int) l (x : Int) (y : Int) 4 = true) (hpx : m.all pixE = true) (hx : x + 4 ≤ a) (hy : y + 4 ≤ b) (ha : a ≤ 32) (hb : b ≤ 32) (hl : l.length = a * b) (w : World) (hA : Ints w w.heap.size A l) (hM : Ints w w.heap.size M m) :
    Calls Try.prog 14 #[.agg #[.int .i64 (a : Int), .int .i64 (b : Int), .slice A l.length cA], .int .i64 (x : Int), .int .i64 (y : Int), .slice M 16 cM] w fun e w' => ∃ A' c', e = .returned (.tuple #[.agg #[.int .i64 (a : Int), .int .i64 (b : Int), .slice A' l.length c'], .bool true]) ∧ OwnI w' w.heap.size A' c' (sbP l m a x y 4 16) ∧ Below w.heap.size w w' := by
  have hab : a * b ≤ 32 * 32 := Nat.mul_le_mul ha hb
  obtain ⟨k0, k1, hsz⟩ := box_two w (.cells #[.int .i64 (a : Int), .int .i64 (b : Int), .slice A l.length cA] 26) (.cells #[.int .i64 0, .int .i64 0, .slice none 0 0] 26)
  have hbl := below_two w (.cells #[.int .i64 (a : Int), .int .i64 (b : Int), .slice A l.length cA] 26) (.cells #[.int .i64 0, .int .i64 0, .slice none 0 0] 26)
  have SI := Lib.hid fun w => impl_side_any 16 w
  rw [show sideN 16 = 4 by decide] at SI
  have CC := Lib.hid fun w h => concat1 A cA l (by omega) w 24 h hP
  have IN := Lib.hid fun w h => impl_hasblock_any (a : Int) (b : Int) A cA l (x : Int) (y : Int) 4 w h
  rw [hin] at IN
  have PX := Lib.hid fun w h => impl_samples_any M cM m w h
  rw [hpx, hm] at PX
  have HA := Lib.hid hA; have HM := Lib.hid hM
  obtain ⟨mb, mo, rfl, hmb, hmc⟩ := hM.at 0 (by omega)
  have HMC := Lib.hid fun j (hj : j < 16) => hmc j (by omega)
  have HPL : Hid (∀ k, k < 4 → (y + k) * a + x + 4 ≤ l.length ∧ (y + k) * a ≤ 1024) := Lib.hid fun k hk => by
    have h1 : (y + k + 1) * a ≤ b * a := Nat.mul_le_mul_right a (by omega)
    rw [Nat.mul_comm b a] at h1
    rw [Nat.add_mul, Nat.one_mul] at h1
    omega
  have HLEN := Lib.hid fun k => sbP_len l m a x y 4 k
  have HNX : Hid (∀ k, k < 4 → sbP l m a x y 4 (k * 4 + 4) = (sbP l m a x y 4 (k * 4)).take ((y + k) * a + x) ++ (m.drop (k * 4)).take 4 ++ (sbP l m a x y 4 (k * 4)).drop ((y + k) * a + x + 4)) := Lib.hid fun k hk => sbP_row (by decide) (HPL.out k hk).1 (by omega) 4 (Nat.le_refl _)
  have HTK : Hid (∀ k, k < 4 → ((m.drop (k * 4)).take 4).length = 4 ∧ ∀ j, j < 4 → ((m.drop (k * 4)).take 4).getD j 0 = m.getD (k * 4 + j) 0) := Lib.hid fun k hk => ⟨by rw [List.length_take, List.length_drop]; omega, fun j hj => drop_take_at hj⟩
  have HS0 := Lib.hid (sbP_zero l m a x y 4)
  obtain ⟨n, hn⟩ : ∃ n, n = l.length := ⟨_, rfl⟩
  have hn1 : n ≤ 1024 := by omega
  have hn0 : 0 < n := by rw [hn]; exact Nat.lt_of_lt_of_le (by decide : 0 < 4) (Nat.le_trans (by omega) (HPL.out 0 (by decide)).1)
  rw [← hn] at k0 k1 hsz hbl CC IN HPL HLEN ⊢
  have HNL := Lib.hid hn
  obtain ⟨c0, c1, c2⟩ := rs3_cells k0
  have K0 := Lib.hid k0; have K1 := Lib.hid k1; have HBL := Lib.hid hbl; have HSZ := Lib.hid hsz; have HMB := Lib.hid hmb
  clear hA hM hn hbl k0 k1 hsz hl hin hpx hmc hm hab hmb
  go_enter Try.func14, Try.ntmps14
  go_wp2_with fail
  refine (SI.out _).mono ?_
  rintro e w1 ⟨rfl, hw⟩
  subst hw
  go_wp2_with fail
  refine (IN.out _ ((HA.out.below HBL.out (Nat.le_refl _)).mono HBL.out.size)).mono ?_
  rintro e w2 ⟨rfl, hb2⟩
  have E0 := Lib.hid (cell_kept K0.out hb2); have E1 := Lib.hid (cell_kept K1.out hb2)
  have B2 := Lib.hid (below_up HBL.out hb2 HBL.out.size)
  have I2 := Lib.hid ((HA.out.below B2.out (Nat.le_refl _)).mono B2.out.size)
  have M2 := Lib.hid ((HM.out.below B2.out (Nat.le_refl _)).mono B2.out.size)
  obtain ⟨d0, d1, d2⟩ := rs3_cells E0.out
  clear c0 c1 c2 hb2
  go_wp2_with fail
  refine (PX.out _ M2.out).mono ?_
  rintro e w3 ⟨rfl, hw⟩
  subst hw
  go_wp2_with fail
  refine (CC.out _ I2.out).mono ?_
  rintro e w4 ⟨A4, c4, rfl, ho, hb4⟩
  have F0 := Lib.hid (cell_kept E0.out hb4); have F1 := Lib.hid (cell_kept E1.out hb4)
  have B4 := Lib.hid (below_up B2.out hb4 B2.out.size)
  have S2 := Lib.hid (heap_lt E0.out); have S3 := Lib.hid (heap_lt E1.out); have S4 := Lib.hid (heap_lt F0.out); have S5 := Lib.hid (heap_lt F1.out)
  clear d0 d1 d2
  obtain ⟨d0, d1, d2⟩ := rs3_cells F0.out
  obtain ⟨z0, z1, z2⟩ := rs3_frozen F0.out
  have ho4 := ho
  unfold OwnI at ho4
  rw [← HNL.out] at ho4
  obtain ⟨tb, rfl, htb, htb2, hcn, hcm⟩ := own_whereO ho4 HNL.out.symm hn0
  unfold maxLen at hcm
  clear hb4 ho
  have kk := heap_setCell_same w4 w.heap.size 2 _ _ (.slice (some ⟨tb, 0, none⟩) n c4) F0.out
  have gg := grown_cell w4 w.heap.size 2 (.slice (some ⟨tb, 0, none⟩) n c4)
  have G0 : Hid ((w4.setCell ⟨w.heap.size, 2, none⟩ (.slice (some ⟨tb, 0, none⟩) n c4)).heap[w.heap.size]? = some (.cells #[.int .i64 (a : Int), .int .i64 (b : Int), .slice (some ⟨tb, 0, none⟩) n c4] 26 (0, 0))) := Lib.hid kk
  have G1 := Lib.hid ((gg.block (w.heap.size + 1) S5.out (by simp)).trans F1.out)
  have B5 := Lib.hid (B4.out.grown gg B4.out.size fun j hj => by obtain rfl := Option.some.inj hj; exact Nat.le_refl _)
  have O5 := Lib.hid (World.ownsRow.kept ho4 gg (.inr (by simp [Value.ownBlock]; have := S2.out; omega)))
  have M5 : Hid (∀ j, j < 16 → (w4.setCell ⟨w.heap.size, 2, none⟩ (.slice (some ⟨tb, 0, none⟩) n c4)).cell? ⟨mb, mo + j, none⟩ = some (.int .i64 (m.getD j 0))) := Lib.hid fun j hj => (B5.out.cell (p := ⟨mb, mo + j, none⟩) HMB.out).trans (HMC.out j hj)
  obtain ⟨W5, hW5⟩ : ∃ W5, W5 = w4.setCell ⟨w.heap.size, 2, none⟩ (.slice (some ⟨tb, 0, none⟩) n c4) := ⟨_, rfl⟩
  rw [← hW5] at G0 G1 B5 O5 M5 gg
  have HW5 := Lib.hid hW5
  have HT := Lib.hid htb
  have N1 : Hid (w.heap.size ≠ tb ∧ mb ≠ tb ∧ w.heap.size + 1 ≠ tb ∧ w.heap.size < tb) := Lib.hid (by have := S2.out; have := S3.out; have := HMB.out; omega)
  have Z5 : Hid (w4.heap.size ≤ W5.heap.size) := Lib.hid gg.size
  have KG : Hid (∀ wr, W5.grownBy wr (some tb) → wr.heap[w.heap.size]? = some (.cells #[.int .i64 (a : Int), .int .i64 (b : Int), .slice (some ⟨tb, 0, none⟩) n c4] 26 (0, 0)) ∧ wr.heap[w.heap.size + 1]? = some (.cells #[.int .i64 0, .int .i64 0, .slice none 0 0] 26 (0, 0)) ∧ ∀ j, j < 16 → wr.cell? ⟨mb, mo + j, none⟩ = some (.int .i64 (m.getD j 0))) := Lib.hid fun wr h => by
    obtain ⟨n1, n2, n3, n4⟩ := N1.out
    exact ⟨(h.block _ (heap_lt G0.out) (by simp; omega)).trans G0.out, (h.block _ (heap_lt G1.out) (by simp; omega)).trans G1.out, fun j hj => (World.cell?_of_block (h.block mb (World.block_lt_of_cell? W5 _ (M5.out j hj)) (by simp; omega))).trans (M5.out j hj)⟩
  have RP := Lib.hid (impl_rowpart a (b : Int) tb 0 n c4 x 4)
  clear gg kk hW5 htb htb2 ho4
  go_wp2
  rw [← HW5.out]
  go_loopw [12, 34] (fun x12 x34 wr => ∃ k : Nat, k ≤ 4 ∧ x34 = .int .i64 k ∧ wr.ownsRow w2.heap.size 3 1 (.slice (some ⟨tb, 0, none⟩) n c4) n (ivs (sbP l m a x y 4 (k * 4))) ∧ W5.grownBy wr (some tb))
    (fun _ x34 _ => 4 - (intOf x34).toNat)
  case atStart => exact ⟨0, Nat.zero_le _, rfl, by rw [Nat.zero_mul, HS0.out]; exact O5.out, World.grownBy.refl _ _⟩
  case round =>
    obtain ⟨k, hk, rfl, hown, hgr⟩ := hrel
    obtain ⟨kk0, kk1, kk2⟩ := KG.out wr hgr
    by_cases hlt : k < 4
    · have d1 : decide ((k : Int) < 4) = true := by simp; omega
      obtain ⟨g1, g2⟩ := HPL.out k hlt
      have hnx := HNX.out k hlt
      obtain ⟨t1, t2⟩ := HTK.out k hlt
      have hln := HLEN.out (k * 4)
      have hyk : IntKind.i64.wrap ((y : Int) + (k : Int)) = (y : Int) + (k : Int) := IntWalk.i64_in _ (by omega)
      obtain ⟨q, hq⟩ : ∃ q, q = (y + k) * a := ⟨_, rfl⟩
      rw [← hq] at hnx g1 g2
      have RX := Lib.hid (RP.out q ((y : Int) + (k : Int)) (by rw [hq, Int.natCast_mul, Int.natCast_add]) (by omega) (by omega) (by decide) (by decide) (by omega))
      rw [Nat.zero_add, show ((4 : Nat) : Int) = 4 from rfl] at RX
      obtain ⟨qx, hqx⟩ : ∃ qx, qx = q + x := ⟨_, rfl⟩
      rw [← hqx] at RX hnx g1
      obtain ⟨v, hv⟩ : ∃ v, v = k * 4 := ⟨_, rfl⟩
      have hv1 : v + 4 ≤ 16 := by omega
      rw [← hv] at hown hnx t1 t2 hln
      have hmv : IntKind.i64.wrap ((k : Int) * 4) = (v : Int) := by rw [show (k : Int) * 4 = (v : Int) by rw [hv]; simp]; exact IntWalk.i64_in _ (by omega)
      obtain ⟨R, hR⟩ : ∃ R, R = (m.drop v).take 4 := ⟨_, rfl⟩
      rw [← hR] at hnx t1 t2
      have MS : Hid (∀ j, j < 4 → wr.cell? ⟨mb, mo + v + j, none⟩ = some (.int .i64 (R.getD j 0))) := Lib.hid fun j hj => by rw [t2 j hj, Nat.add_assoc]; exact kk2 (v + j) (by omega)
      have vv0 : (0 : Int) ≤ (v : Int) := by omega
      have vv1 : (v : Int) ≤ 16 := by omega
      have vv2 : v ≤ 16 := by omega
      have vv3 : ¬ cM = v := by omega
      have vv4 : v ≤ cM := by omega
      have vv5 : (v : Int) ≤ (cM : Int) := by omega
      have vv6 : (16 : Int) ≤ (cM : Int) := by omega
      obtain ⟨sl, hsl⟩ : ∃ sl, sl = 16 - v := ⟨_, rfl⟩
      have vv7 : 4 ≤ sl := by omega
      have HX := Lib.hid hnx; have HO := Lib.hid hown; have HGR := Lib.hid hgr; have HT1 := Lib.hid t1; have HG1 := Lib.hid g1; have HV := Lib.hid hv; have HSL := Lib.hid hsl
      have SX := cp_start wr W5 hgr kk0
      clear hq hqx hv hR hnx hown t1 t2 g1 g2 kk0 kk1 kk2 hln hsl
      go_wp2
      go_region_held3 (fun w' => w'.cell? ⟨w.heap.size, 0, none⟩ = some (.int .i64 (a : Int)) ∧ w'.cell? ⟨w.heap.size, 1, none⟩ = some (.int .i64 (b : Int)) ∧ w'.cell? ⟨w.heap.size, 2, none⟩ = some (.slice (some ⟨tb, 0, none⟩) n c4) ∧ W5.grownBy w' (some tb))
        (first | with_reducible assumption | (with_reducible exact cp_drew (by with_reducible assumption)) | fail)
        (first
          | ((with_reducible refine (RX.out _).mono ?_); rintro e wa ⟨rfl, hba⟩;
             have SX := cp_up (by with_reducible assumption) hba;
             have MS : Hid (∀ j, j < 4 → wa.cell? ⟨mb, mo + v + j, none⟩ = some (.int .i64 (R.getD j 0))) := Lib.hid fun j hj => (hba.cell (World.block_lt_of_cell? _ _ (MS.out j hj))).trans (MS.out j hj);
             have HO := Lib.hid (own_keep (by first | exact HO.out | exact own_drew_or HO.out) hba); clear hba)
          | (refine step_copy_own rfl (.tmp 43) (.tmp 48) 24 24 rfl Try.underlying24 Try.iinfo1 w2.heap.size tb n c4 _ (by first | exact HO.out | exact own_drew_or HO.out) qx 4 _ rfl mb (mo + v) _ _ rfl (by omega) R HT1.out (by first | exact MS.out | exact fun j hj => MS.out j hj) HG1.out ?_; intro w' hrow hgr2;
             have SX := cp_put (by with_reducible assumption) hgr2 N1.out.1;
             have HO := Lib.hid hrow; clear hrow hgr2)
          | fail)
      all_goals
        go_wp2
        go_roundw
        case rel => exact ⟨k + 1, by omega, by go_num, by rw [Nat.add_mul, Nat.one_mul, ← HV.out, HX.out]; exact HO.out, SX.2.2.2⟩
        case measure => simp [intOf]; omega
    · obtain rfl : k = 4 := by omega
      have d1 : decide (((4 : Nat) : Int) < 4) = false := by decide
      obtain ⟨e0, e1, e2⟩ := rs3_cells kk0
      obtain ⟨z0, z1, z2⟩ := rs3_frozen kk1
      obtain ⟨y0, y1, y2⟩ := rs3_cells kk1
      have K2 := Lib.hid kk1
      have O6 := Lib.hid hown
      have B6 := Lib.hid (B5.out.grown hgr B5.out.size fun j hj => by obtain rfl := Option.some.inj hj; have := N1.out; omega)
      clear hown hgr kk0 kk1 kk2
      go_wp2
      have gb := rs3_grown wr (w.heap.size + 1) (.int .i64 (a : Int)) (.int .i64 (b : Int)) (.slice (some ⟨tb, 0, none⟩) n c4)
      obtain ⟨r0, r1, r2⟩ := rs3_cells (rs3_put K2.out (.int .i64 (a : Int)) (.int .i64 (b : Int)) (.slice (some ⟨tb, 0, none⟩) n c4))
      have o3 := OwnI.other (own_backO O6.out (HLEN.out (4 * 4))) gb (fun j hj => by obtain rfl := Option.some.inj hj; exact S3.out)
      exact bodyPost_ret (v := .tuple #[.agg #[.int .i64 (a : Int), .int .i64 (b : Int), .slice (some ⟨tb, 0, none⟩) n c4], .bool true]) (by simp [results, Try.results14, go_sem, r0, r1, r2]) rfl ⟨some ⟨tb, 0, none⟩, c4, rfl, o3.low B2.out.size, B6.out.grown gb B6.out.size (fun j hj => by obtain rfl := Option.some.inj hj; omega)⟩
set_option maxRecDepth 100000 in
set_option maxHeartbeats 4000000 in
theorem impl_setblock_8 (A : Option Addr) (cA : Nat) (l : List Int) (a b x y : Nat) (M : Option Addr) (cM : Nat) (m : List Int) (hm : m.length = 64) (hcM : 64 ≤ cM) (hP : Placed A cA) (hin : inE (a : Int) (b : Int) l (x : Int) (y : Int) 8 = true) (hpx : m.all pixE = true) (hx : x + 8 ≤ a) (hy : y + 8 ≤ b) (ha : a ≤ 32) (hb : b ≤ 32) (hl : l.length = a * b) (w : World) (hA : Ints w w.heap.size A l) (hM : Ints w w.heap.size M m) :
    Calls Try.prog 14 #[.agg #[.int .i64 (a : Int), .int .i64 (b : Int), .slice A l.length cA], .int .i64 (x : Int), .int .i64 (y : Int), .slice M 64 cM] w fun e w' => ∃ A' c', e = .returned (.tuple #[.agg #[.int .i64 (a : Int), .int .i64 (b : Int), .slice A' l.length c'], .bool true]) ∧ OwnI w' w.heap.size A' c' (sbP l m a x y 8 64) ∧ Below w.heap.size w w' := by
  have hab : a * b ≤ 32 * 32 := Nat.mul_le_mul ha hb
  obtain ⟨k0, k1, hsz⟩ := box_two w (.cells #[.int .i64 (a : Int), .int .i64 (b : Int), .slice A l.length cA] 26) (.cells #[.int .i64 0, .int .i64 0, .slice none 0 0] 26)
  have hbl := below_two w (.cells #[.int .i64 (a : Int), .int .i64 (b : Int), .slice A l.length cA] 26) (.cells #[.int .i64 0, .int .i64 0, .slice none 0 0] 26)
  have SI := Lib.hid fun w => impl_side_any 64 w
  rw [show sideN 64 = 8 by decide] at SI
  have CC := Lib.hid fun w h => concat1 A cA l (by omega) w 24 h hP
  have IN := Lib.hid fun w h => impl_hasblock_any (a : Int) (b : Int) A cA l (x : Int) (y : Int) 8 w h
  rw [hin] at IN
  have PX := Lib.hid fun w h => impl_samples_any M cM m w h
  rw [hpx, hm] at PX
  have HA := Lib.hid hA; have HM := Lib.hid hM
  obtain ⟨mb, mo, rfl, hmb, hmc⟩ := hM.at 0 (by omega)
  have HMC := Lib.hid fun j (hj : j < 64) => hmc j (by omega)
  have HPL : Hid (∀ k, k < 8 → (y + k) * a + x + 8 ≤ l.length ∧ (y + k) * a ≤ 1024) := Lib.hid fun k hk => by
    have h1 : (y + k + 1) * a ≤ b * a := Nat.mul_le_mul_right a (by omega)
    rw [Nat.mul_comm b a] at h1
    rw [Nat.add_mul, Nat.one_mul] at h1
    omega
  have HLEN := Lib.hid fun k => sbP_len l m a x y 8 k
  have HNX : Hid (∀ k, k < 8 → sbP l m a x y 8 (k * 8 + 8) = (sbP l m a x y 8 (k * 8)).take ((y + k) * a + x) ++ (m.drop (k * 8)).take 8 ++ (sbP l m a x y 8 (k * 8)).drop ((y + k) * a + x + 8)) := Lib.hid fun k hk => sbP_row (by decide) (HPL.out k hk).1 (by omega) 8 (Nat.le_refl _)
  have HTK : Hid (∀ k, k < 8 → ((m.drop (k * 8)).take 8).length = 8 ∧ ∀ j, j < 8 → ((m.drop (k * 8)).take 8).getD j 0 = m.getD (k * 8 + j) 0) := Lib.hid fun k hk => ⟨by rw [List.length_take, List.length_drop]; omega, fun j hj => drop_take_at hj⟩
  have HS0 := Lib.hid (sbP_zero l m a x y 8)
  obtain ⟨n, hn⟩ : ∃ n, n = l.length := ⟨_, rfl⟩
  have hn1 : n ≤ 1024 := by omega
  have hn0 : 0 < n := by rw [hn]; exact Nat.lt_of_lt_of_le (by decide : 0 < 8) (Nat.le_trans (by omega) (HPL.out 0 (by decide)).1)
  rw [← hn] at k0 k1 hsz hbl CC IN HPL HLEN ⊢
  have HNL := Lib.hid hn
  obtain ⟨c0, c1, c2⟩ := rs3_cells k0
  have K0 := Lib.hid k0; have K1 := Lib.hid k1; have HBL := Lib.hid hbl; have HSZ := Lib.hid hsz; have HMB := Lib.hid hmb
  clear hA hM hn hbl k0 k1 hsz hl hin hpx hmc hm hab hmb
  go_enter Try.func14, Try.ntmps14
  go_wp2_with fail
  refine (SI.out _).mono ?_
  rintro e w1 ⟨rfl, hw⟩
  subst hw
  go_wp2_with fail
  refine (IN.out _ ((HA.out.below HBL.out (Nat.le_refl _)).mono HBL.out.size)).mono ?_
  rintro e w2 ⟨rfl, hb2⟩
  have E0 := Lib.hid (cell_kept K0.out hb2); have E1 := Lib.hid (cell_kept K1.out hb2)
  have B2 := Lib.hid (below_up HBL.out hb2 HBL.out.size)
  have I2 := Lib.hid ((HA.out.below B2.out (Nat.le_refl _)).mono B2.out.size)
  have M2 := Lib.hid ((HM.out.below B2.out (Nat.le_refl _)).mono B2.out.size)
  obtain ⟨d0, d1, d2⟩ := rs3_cells E0.out
  clear c0 c1 c2 hb2
  go_wp2_with fail
  refine (PX.out _ M2.out).mono ?_
  rintro e w3 ⟨rfl, hw⟩
  subst hw
  go_wp2_with fail
  refine (CC.out _ I2.out).mono ?_
  rintro e w4 ⟨A4, c4, rfl, ho, hb4⟩
  have F0 := Lib.hid (cell_kept E0.out hb4); have F1 := Lib.hid (cell_kept E1.out hb4)
  have B4 := Lib.hid (below_up B2.out hb4 B2.out.size)
  have S2 := Lib.hid (heap_lt E0.out); have S3 := Lib.hid (heap_lt E1.out); have S4 := Lib.hid (heap_lt F0.out); have S5 := Lib.hid (heap_lt F1.out)
  clear d0 d1 d2
  obtain ⟨d0, d1, d2⟩ := rs3_cells F0.out
  obtain ⟨z0, z1, z2⟩ := rs3_frozen F0.out
  have ho4 := ho
  unfold OwnI at ho4
  rw [← HNL.out] at ho4
  obtain ⟨tb, rfl, htb, htb2, hcn, hcm⟩ := own_whereO ho4 HNL.out.symm hn0
  unfold maxLen at hcm
  clear hb4 ho
  have kk := heap_setCell_same w4 w.heap.size 2 _ _ (.slice (some ⟨tb, 0, none⟩) n c4) F0.out
  have gg := grown_cell w4 w.heap.size 2 (.slice (some ⟨tb, 0, none⟩) n c4)
  have G0 : Hid ((w4.setCell ⟨w.heap.size, 2, none⟩ (.slice (some ⟨tb, 0, none⟩) n c4)).heap[w.heap.size]? = some (.cells #[.int .i64 (a : Int), .int .i64 (b : Int), .slice (some ⟨tb, 0, none⟩) n c4] 26 (0, 0))) := Lib.hid kk
  have G1 := Lib.hid ((gg.block (w.heap.size + 1) S5.out (by simp)).trans F1.out)
  have B5 := Lib.hid (B4.out.grown gg B4.out.size fun j hj => by obtain rfl := Option.some.inj hj; exact Nat.le_refl _)
  have O5 := Lib.hid (World.ownsRow.kept ho4 gg (.inr (by simp [Value.ownBlock]; have := S2.out; omega)))
  have M5 : Hid (∀ j, j < 64 → (w4.setCell ⟨w.heap.size, 2, none⟩ (.slice (some ⟨tb, 0, none⟩) n c4)).cell? ⟨mb, mo + j, none⟩ = some (.int .i64 (m.getD j 0))) := Lib.hid fun j hj => (B5.out.cell (p := ⟨mb, mo + j, none⟩) HMB.out).trans (HMC.out j hj)
  obtain ⟨W5, hW5⟩ : ∃ W5, W5 = w4.setCell ⟨w.heap.size, 2, none⟩ (.slice (some ⟨tb, 0, none⟩) n c4) := ⟨_, rfl⟩
  rw [← hW5] at G0 G1 B5 O5 M5 gg
  have HW5 := Lib.hid hW5
  have HT := Lib.hid htb
  have N1 : Hid (w.heap.size ≠ tb ∧ mb ≠ tb ∧ w.heap.size + 1 ≠ tb ∧ w.heap.size < tb) := Lib.hid (by have := S2.out; have := S3.out; have := HMB.out; omega)
  have Z5 : Hid (w4.heap.size ≤ W5.heap.size) := Lib.hid gg.size
  have KG : Hid (∀ wr, W5.grownBy wr (some tb) → wr.heap[w.heap.size]? = some (.cells #[.int .i64 (a : Int), .int .i64 (b : Int), .slice (some ⟨tb, 0, none⟩) n c4] 26 (0, 0)) ∧ wr.heap[w.heap.size + 1]? = some (.cells #[.int .i64 0, .int .i64 0, .slice none 0 0] 26 (0, 0)) ∧ ∀ j, j < 64 → wr.cell? ⟨mb, mo + j, none⟩ = some (.int .i64 (m.getD j 0))) := Lib.hid fun wr h => by
    obtain ⟨n1, n2, n3, n4⟩ := N1.out
    exact ⟨(h.block _ (heap_lt G0.out) (by simp; omega)).trans G0.out, (h.block _ (heap_lt G1.out) (by simp; omega)).trans G1.out, fun j hj => (World.cell?_of_block (h.block mb (World.block_lt_of_cell? W5 _ (M5.out j hj)) (by simp; omega))).trans (M5.out j hj)⟩
  have RP := Lib.hid (impl_rowpart a (b : Int) tb 0 n c4 x 8)
  clear gg kk hW5 htb htb2 ho4
  go_wp2
  rw [← HW5.out]
  go_loopw [12, 34] (fun x12 x34 wr => ∃ k : Nat, k ≤ 8 ∧ x34 = .int .i64 k ∧ wr.ownsRow w2.heap.size 3 1 (.slice (some ⟨tb, 0, none⟩) n c4) n (ivs (sbP l m a x y 8 (k * 8))) ∧ W5.grownBy wr (some tb))
    (fun _ x34 _ => 8 - (intOf x34).toNat)
  case atStart => exact ⟨0, Nat.zero_le _, rfl, by rw [Nat.zero_mul, HS0.out]; exact O5.out, World.grownBy.refl _ _⟩
  case round =>
    obtain ⟨k, hk, rfl, hown, hgr⟩ := hrel
    obtain ⟨kk0, kk1, kk2⟩ := KG.out wr hgr
    by_cases hlt : k < 8
    · have d1 : decide ((k : Int) < 8) = true := by simp; omega
      obtain ⟨g1, g2⟩ := HPL.out k hlt
      have hnx := HNX.out k hlt
      obtain ⟨t1, t2⟩ := HTK.out k hlt
      have hln := HLEN.out (k * 8)
      have hyk : IntKind.i64.wrap ((y : Int) + (k : Int)) = (y : Int) + (k : Int) := IntWalk.i64_in _ (by omega)
      obtain ⟨q, hq⟩ : ∃ q, q = (y + k) * a := ⟨_, rfl⟩
      rw [← hq] at hnx g1 g2
      have RX := Lib.hid (RP.out q ((y : Int) + (k : Int)) (by rw [hq, Int.natCast_mul, Int.natCast_add]) (by omega) (by omega) (by decide) (by decide) (by omega))
      rw [Nat.zero_add, show ((8 : Nat) : Int) = 8 from rfl] at RX
      obtain ⟨qx, hqx⟩ : ∃ qx, qx = q + x := ⟨_, rfl⟩
      rw [← hqx] at RX hnx g1
      obtain ⟨v, hv⟩ : ∃ v, v = k * 8 := ⟨_, rfl⟩
      have hv1 : v + 8 ≤ 64 := by omega
      rw [← hv] at hown hnx t1 t2 hln
      have hmv : IntKind.i64.wrap ((k : Int) * 8) = (v : Int) := by rw [show (k : Int) * 8 = (v : Int) by rw [hv]; simp]; exact IntWalk.i64_in _ (by omega)
      obtain ⟨R, hR⟩ : ∃ R, R = (m.drop v).take 8 := ⟨_, rfl⟩
      rw [← hR] at hnx t1 t2
      have MS : Hid (∀ j, j < 8 → wr.cell? ⟨mb, mo + v + j, none⟩ = some (.int .i64 (R.getD j 0))) := Lib.hid fun j hj => by rw [t2 j hj, Nat.add_assoc]; exact kk2 (v + j) (by omega)
      have vv0 : (0 : Int) ≤ (v : Int) := by omega
      have vv1 : (v : Int) ≤ 64 := by omega
      have vv2 : v ≤ 64 := by omega
      have vv3 : ¬ cM = v := by omega
      have vv4 : v ≤ cM := by omega
      have vv5 : (v : Int) ≤ (cM : Int) := by omega
      have vv6 : (64 : Int) ≤ (cM : Int) := by omega
      obtain ⟨sl, hsl⟩ : ∃ sl, sl = 64 - v := ⟨_, rfl⟩
      have vv7 : 8 ≤ sl := by omega
      have HX := Lib.hid hnx; have HO := Lib.hid hown; have HGR := Lib.hid hgr; have HT1 := Lib.hid t1; have HG1 := Lib.hid g1; have HV := Lib.hid hv; have HSL := Lib.hid hsl
      have SX := cp_start wr W5 hgr kk0
      clear hq hqx hv hR hnx hown t1 t2 g1 g2 kk0 kk1 kk2 hln hsl
      go_wp2
      go_region_held3 (fun w' => w'.cell? ⟨w.heap.size, 0, none⟩ = some (.int .i64 (a : Int)) ∧ w'.cell? ⟨w.heap.size, 1, none⟩ = some (.int .i64 (b : Int)) ∧ w'.cell? ⟨w.heap.size, 2, none⟩ = some (.slice (some ⟨tb, 0, none⟩) n c4) ∧ W5.grownBy w' (some tb))
        (first | with_reducible assumption | (with_reducible exact cp_drew (by with_reducible assumption)) | fail)
        (first
          | ((with_reducible refine (RX.out _).mono ?_); rintro e wa ⟨rfl, hba⟩;
             have SX := cp_up (by with_reducible assumption) hba;
             have MS : Hid (∀ j, j < 8 → wa.cell? ⟨mb, mo + v + j, none⟩ = some (.int .i64 (R.getD j 0))) := Lib.hid fun j hj => (hba.cell (World.block_lt_of_cell? _ _ (MS.out j hj))).trans (MS.out j hj);
             have HO := Lib.hid (own_keep (by first | exact HO.out | exact own_drew_or HO.out) hba); clear hba)
          | (refine step_copy_own rfl (.tmp 43) (.tmp 48) 24 24 rfl Try.underlying24 Try.iinfo1 w2.heap.size tb n c4 _ (by first | exact HO.out | exact own_drew_or HO.out) qx 8 _ rfl mb (mo + v) _ _ rfl (by omega) R HT1.out (by first | exact MS.out | exact fun j hj => MS.out j hj) HG1.out ?_; intro w' hrow hgr2;
             have SX := cp_put (by with_reducible assumption) hgr2 N1.out.1;
             have HO := Lib.hid hrow; clear hrow hgr2)
          | fail)
      all_goals
        go_wp2
        go_roundw
        case rel => exact ⟨k + 1, by omega, by go_num, by rw [Nat.add_mul, Nat.one_mul, ← HV.out, HX.out]; exact HO.out, SX.2.2.2⟩
        case measure => simp [intOf]; omega
    · obtain rfl : k = 8 := by omega
      have d1 : decide (((8 : Nat) : Int) < 8) = false := by decide
      obtain ⟨e0, e1, e2⟩ := rs3_cells kk0
      obtain ⟨z0, z1, z2⟩ := rs3_frozen kk1
      obtain ⟨y0, y1, y2⟩ := rs3_cells kk1
      have K2 := Lib.hid kk1
      have O6 := Lib.hid hown
      have B6 := Lib.hid (B5.out.grown hgr B5.out.size fun j hj => by obtain rfl := Option.some.inj hj; have := N1.out; omega)
      clear hown hgr kk0 kk1 kk2
      go_wp2
      have gb := rs3_grown wr (w.heap.size + 1) (.int .i64 (a : Int)) (.int .i64 (b : Int)) (.slice (some ⟨tb, 0, none⟩) n c4)
      obtain ⟨r0, r1, r2⟩ := rs3_cells (rs3_put K2.out (.int .i64 (a : Int)) (.int .i64 (b : Int)) (.slice (some ⟨tb, 0, none⟩) n c4))
      have o3 := OwnI.other (own_backO O6.out (HLEN.out (8 * 8))) gb (fun j hj => by obtain rfl := Option.some.inj hj; exact S3.out)
      exact bodyPost_ret (v := .tuple #[.agg #[.int .i64 (a : Int), .int .i64 (b : Int), .slice (some ⟨tb, 0, none⟩) n c4], .bool true]) (by simp [results, Try.results14, go_sem, r0, r1, r2]) rfl ⟨some ⟨tb, 0, none⟩, c4, rfl, o3.low B2.out.size, B6.out.grown gb B6.out.size (fun j hj => by obtain rfl := Option.some.inj hj; omega)⟩
theorem impl_setblock_any (A : Option Addr) (cA : Nat) (l : List Int) (p0 p1 x y : Int) (M : Option Addr) (cM : Nat) (m : List Int) (hl : l.length ≤ 1048576) (hP : Placed A cA) (hcM : m.length ≤ cM) (w : World) (hA : Ints w w.heap.size A l) (hM : Ints w w.heap.size M m) :
    Calls Try.prog 14 #[.agg #[.int .i64 p0, .int .i64 p1, .slice A l.length cA], .int .i64 x, .int .i64 y, .slice M m.length cM] w fun e w' => ∃ A' c', e = .returned (.tuple #[.agg #[.int .i64 p0, .int .i64 p1, .slice A' (sbL p0 p1 l x y m).length c'], .bool (sbE p0 p1 l x y m)]) ∧ OwnI w' w.heap.size A' c' (sbL p0 p1 l x y m) ∧ Below w.heap.size w w' := by
  rw [sbL_len]
  cases hok : sbE p0 p1 l x y m with
  | false =>
    rw [show sbL p0 p1 l x y m = l by unfold sbL; rw [hok]; rfl]
    exact impl_setblock_off A cA l p0 p1 x y M cM m hl hP hok w hA hM
  | true =>
    have e1 : sbL p0 p1 l x y m = sbP l m p0.toNat x.toNat y.toNat (sideN m.length).toNat m.length := by unfold sbL; rw [if_pos hok]
    rw [e1]
    have hh := hok
    simp only [sbE, inE, Bool.and_eq_true] at hh
    obtain ⟨⟨⟨⟨⟨⟨hf, ho⟩, hx⟩, hy⟩, _⟩, _⟩, hpx⟩ := hh
    have hin : inE p0 p1 l x y (sideN m.length) = true := by
      have := hok
      simp only [sbE, Bool.and_eq_true] at this
      exact this.1
    obtain ⟨hs, hl2, _⟩ := frameE_sides hf
    obtain ⟨h1, h2, _, _⟩ := sidesE_parts hs
    have hx := betE_true hx; have hy := betE_true hy
    obtain ⟨a', rfl⟩ := Int.eq_ofNat_of_zero_le (show 0 ≤ p0 by omega)
    obtain ⟨b', rfl⟩ := Int.eq_ofNat_of_zero_le (show 0 ≤ p1 by omega)
    obtain ⟨x', rfl⟩ := Int.eq_ofNat_of_zero_le hx.1
    obtain ⟨y', rfl⟩ := Int.eq_ofNat_of_zero_le hy.1
    have hl' : l.length = a' * b' := by rw [← Int.natCast_mul] at hl2; exact Int.ofNat.inj hl2
    rcases sideN_cases ho with ⟨k1, k2⟩ | ⟨k1, k2⟩
    · rw [k2] at hin hx hy ⊢
      rw [k1]
      exact impl_setblock_4 A cA l a' b' x' y' M cM m k1 (by omega) hP hin hpx (by omega) (by omega) (by omega) (by omega) hl' w hA hM
    · rw [k2] at hin hx hy ⊢
      rw [k1]
      exact impl_setblock_8 A cA l a' b' x' y' M cM m k1 (by omega) hP hin hpx (by omega) (by omega) (by omega) (by omega) hl' w hA hM
end Go.Proofs.Ytemfiglflbfocaa
