/-
  Chapter 18: what SetBlock answers, and the contract of the model's own. Conditions: a row that lies nowhere holds nothing; a frame of at most 1048576 numbers.
-/
import Derived.Test.YtemfiglflbfocaaFrB
import Derived.Test.YtemfiglflbfocaaEdB
import Derived.Test.YtemfiglflbfocaaOwn
import Derived.Test.YtemfiglflbfocaaPut
import Derived.BigRegion
namespace Go.Proofs.Ytemfiglflbfocaa
open Go.RowKit
set_option linter.unusedVariables false

/-- What SetBlock answers: the pixels, k of them written. -/
def sbP (l m : List Int) (a x y n k : Nat) : List Int := (List.range k).foldl (fun t i => t.set ((y + i / n) * a + x + i % n) (m.getD i 0)) l
theorem sbP_zero (l m : List Int) (a x y n : Nat) : sbP l m a x y n 0 = l := rfl
theorem sbP_next (l m : List Int) (a x y n k : Nat) : sbP l m a x y n (k + 1) = (sbP l m a x y n k).set ((y + k / n) * a + x + k % n) (m.getD k 0) := by
  unfold sbP
  rw [List.range_succ, List.foldl_append]
  rfl
theorem sbP_len (l m : List Int) (a x y n : Nat) : ∀ k, (sbP l m a x y n k).length = l.length
  | 0 => rfl
  | k + 1 => by rw [sbP_next, List.length_set, sbP_len l m a x y n k]
def sbE (a b : Int) (l : List Int) (x y : Int) (m : List Int) : Bool := inE a b l x y (sideN m.length) && m.all pixE
def sbL (a b : Int) (l : List Int) (x y : Int) (m : List Int) : List Int := if sbE a b l x y m = true then sbP l m a.toNat x.toNat y.toNat (sideN m.length).toNat m.length else l
theorem sbL_len (a b : Int) (l : List Int) (x y : Int) (m : List Int) : (sbL a b l x y m).length = l.length := by
  unfold sbL
  split
  · exact sbP_len _ _ _ _ _ _ _
  · rfl
/-- A place of the block lies in the frame. -/
theorem st_place {a b x y n k : Nat} (hn : 0 < n) (hk : k < n * n) (hx : x + n ≤ a) (hy : y + n ≤ b) : (y + k / n) * a + x + k % n < a * b := by
  have h1 : k / n < n := Nat.div_lt_of_lt_mul hk
  have h2 : k % n < n := Nat.mod_lt _ hn
  have h3 : (y + k / n + 1) * a ≤ b * a := Nat.mul_le_mul_right a (by omega)
  rw [Nat.add_mul, Nat.one_mul, Nat.mul_comm b a] at h3
  omega
set_option maxRecDepth 100000 in
set_option maxHeartbeats 2000000 in
theorem spec_setblock_off (A : Option Addr) (cA : Nat) (l : List Int) (p0 p1 x y : Int) (M : Option Addr) (cM : Nat) (m : List Int) (hl : l.length ≤ 1048576) (hP : Placed A cA) (hok : sbE p0 p1 l x y m = false) (w : World) (hA : Ints w w.heap.size A l) (hM : Ints w w.heap.size M m) :
    Calls Try.prog 15 #[.agg #[.int .i64 p0, .int .i64 p1, .slice A l.length cA], .int .i64 x, .int .i64 y, .slice M m.length cM] w fun e w' => ∃ A' c', e = .returned (.tuple #[.agg #[.int .i64 p0, .int .i64 p1, .slice A' l.length c'], .bool false]) ∧ OwnI w' w.heap.size A' c' l ∧ Below w.heap.size w w' := by
  obtain ⟨k0, k1, hsz⟩ := box_two w (.cells #[.int .i64 p0, .int .i64 p1, .slice A l.length cA] 26) (.cells #[.int .i64 0, .int .i64 0, .slice none 0 0] 26)
  have hbl := below_two w (.cells #[.int .i64 p0, .int .i64 p1, .slice A l.length cA] 26) (.cells #[.int .i64 0, .int .i64 0, .slice none 0 0] 26)
  have SI := Lib.hid fun w => spec_side_any M cM m.length w
  have CP := Lib.hid fun w h => l18copy_any A cA l p0 p1 hl hP w h
  have IN := Lib.hid fun w h => spec_l18in_any p0 p1 A cA l x y (sideN m.length) w h
  have PX := Lib.hid fun w h => l14pix_any M cM m w h
  have HA := Lib.hid hA; have HM := Lib.hid hM
  have hmm := hM.1
  have hsbE : sbE p0 p1 l x y m = (inE p0 p1 l x y (sideN m.length) && m.all pixE) := rfl
  obtain ⟨N, hN⟩ : ∃ n, n = sideN m.length := ⟨_, rfl⟩
  rw [← hN] at SI IN hsbE
  obtain ⟨E, hE⟩ : ∃ n, n = inE p0 p1 l x y N := ⟨_, rfl⟩
  rw [← hE] at IN hsbE
  obtain ⟨X, hX⟩ : ∃ n, n = m.all pixE := ⟨_, rfl⟩
  rw [← hX] at PX hsbE
  obtain ⟨n, hn⟩ : ∃ n, n = l.length := ⟨_, rfl⟩
  rw [← hn] at k0 k1 hsz hbl CP IN ⊢
  obtain ⟨k, hk⟩ : ∃ n, n = m.length := ⟨_, rfl⟩
  rw [← hk] at hmm SI PX ⊢
  rw [hok] at hsbE
  obtain ⟨c0, c1, c2⟩ := rs3_cells k0
  have K0 := Lib.hid k0; have K1 := Lib.hid k1; have HBL := Lib.hid hbl; have HSZ := Lib.hid hsz; have HS := Lib.hid hsbE
  clear hA hM hn hk hN hE hX hbl k0 k1 hsz hl hok hsbE
  go_enter Try.func15, Try.ntmps15
  go_wp2_with fail
  refine (SI.out _).mono ?_
  rintro e w1 ⟨rfl, hw⟩
  subst hw
  go_wp2_with fail
  refine (CP.out _ ((HA.out.below HBL.out (Nat.le_refl _)).mono HBL.out.size)).mono ?_
  rintro e w2 ⟨A2, c2', rfl, ho, hb2⟩
  have E0 := Lib.hid (cell_kept K0.out hb2); have E1 := Lib.hid (cell_kept K1.out hb2)
  have O2 := Lib.hid ho
  have hbn := below_new w2 (.cells #[.int .i64 p0, .int .i64 p1, .slice A2 n c2'] 26)
  have g0 := heap_alloc_new w2 (.cells #[.int .i64 p0, .int .i64 p1, .slice A2 n c2'] 26)
  have B2 := Lib.hid (below_up HBL.out hb2 HBL.out.size)
  have B3 := Lib.hid (below_up B2.out hbn B2.out.size)
  have F0 := Lib.hid (cell_kept E0.out hbn); have F1 := Lib.hid (cell_kept E1.out hbn); have G0 := Lib.hid g0
  have O3 := Lib.hid (ho.kept hbn (Nat.le_refl _))
  have Z1 := Lib.hid (heap_lt E1.out)
  obtain ⟨d0, d1, d2⟩ := rs3_cells F0.out
  clear c0 c1 c2 ho hb2 hbn g0
  go_wp2_with fail
  refine (IN.out _ ((HA.out.below B3.out (Nat.le_refl _)).mono B3.out.size)).mono ?_
  rintro e w4 ⟨rfl, hb4⟩
  have G4 := Lib.hid (cell_kept G0.out hb4); have F14 := Lib.hid (cell_kept F1.out hb4)
  have B4 := Lib.hid (below_up B3.out hb4 B3.out.size)
  have O4 := Lib.hid (O3.out.kept hb4 (Nat.le_refl _))
  obtain ⟨e0, e1, e2⟩ := rs3_cells G4.out
  obtain ⟨z0, z1, z2⟩ := rs3_frozen F14.out
  obtain ⟨y0, y1, y2⟩ := rs3_cells F14.out
  have Z2 := Lib.hid HBL.out.size
  clear d0 d1 d2 hb4
  have fin : ∀ w5, w5 = w4 → True := fun _ _ => trivial
  cases E with
  | false =>
    go_wp2
    have gb := rs3_grown w4 (w.heap.size + 1) (.int .i64 p0) (.int .i64 p1) (.slice A2 n c2')
    obtain ⟨r0, r1, r2⟩ := rs3_cells (rs3_put F14.out (.int .i64 p0) (.int .i64 p1) (.slice A2 n c2'))
    have o3 := O4.out.other gb (fun j hj => by obtain rfl := Option.some.inj hj; have := HSZ.out; omega)
    exact bodyPost_ret (v := .tuple #[.agg #[.int .i64 p0, .int .i64 p1, .slice A2 n c2'], .bool false]) (by simp [results, Try.results15, go_sem, r0, r1, r2]) rfl ⟨A2, c2', rfl, o3.low HBL.out.size, B4.out.grown gb B4.out.size (fun j hj => by obtain rfl := Option.some.inj hj; omega)⟩
  | true =>
    have hX : X = false := by have := HS.out; rw [Bool.true_and] at this; exact this.symm
    rw [hX] at PX
    clear hX
    go_wp2_with fail
    refine (PX.out _ ((HM.out.below B4.out (Nat.le_refl _)).mono B4.out.size)).mono ?_
    rintro e w5 ⟨rfl, hw⟩
    subst hw
    go_wp2
    have gb := rs3_grown w4 (w.heap.size + 1) (.int .i64 p0) (.int .i64 p1) (.slice A2 n c2')
    obtain ⟨r0, r1, r2⟩ := rs3_cells (rs3_put F14.out (.int .i64 p0) (.int .i64 p1) (.slice A2 n c2'))
    have o3 := O4.out.other gb (fun j hj => by obtain rfl := Option.some.inj hj; have := HSZ.out; omega)
    exact bodyPost_ret (v := .tuple #[.agg #[.int .i64 p0, .int .i64 p1, .slice A2 n c2'], .bool false]) (by simp [results, Try.results15, go_sem, r0, r1, r2]) rfl ⟨A2, c2', rfl, o3.low HBL.out.size, B4.out.grown gb B4.out.size (fun j hj => by obtain rfl := Option.some.inj hj; omega)⟩
set_option maxRecDepth 100000 in
set_option maxHeartbeats 4000000 in
theorem spec_setblock_4 (A : Option Addr) (cA : Nat) (l : List Int) (a b x y : Nat) (M : Option Addr) (cM : Nat) (m : List Int) (hm : m.length = 16) (hP : Placed A cA) (hin : inE (a : Int) (b : Int) l (x : Int) (y : Int) 4 = true) (hpx : m.all pixE = true) (hx : x + 4 ≤ a) (hy : y + 4 ≤ b) (ha : a ≤ 32) (hb : b ≤ 32) (hl : l.length = a * b) (w : World) (hA : Ints w w.heap.size A l) (hM : Ints w w.heap.size M m) :
    Calls Try.prog 15 #[.agg #[.int .i64 (a : Int), .int .i64 (b : Int), .slice A l.length cA], .int .i64 (x : Int), .int .i64 (y : Int), .slice M 16 cM] w fun e w' => ∃ A' c', e = .returned (.tuple #[.agg #[.int .i64 (a : Int), .int .i64 (b : Int), .slice A' l.length c'], .bool true]) ∧ OwnI w' w.heap.size A' c' (sbP l m a x y 4 16) ∧ Below w.heap.size w w' := by
  have hab : a * b ≤ 32 * 32 := Nat.mul_le_mul ha hb
  obtain ⟨k0, k1, hsz⟩ := box_two w (.cells #[.int .i64 (a : Int), .int .i64 (b : Int), .slice A l.length cA] 26) (.cells #[.int .i64 0, .int .i64 0, .slice none 0 0] 26)
  have hbl := below_two w (.cells #[.int .i64 (a : Int), .int .i64 (b : Int), .slice A l.length cA] 26) (.cells #[.int .i64 0, .int .i64 0, .slice none 0 0] 26)
  have SI := Lib.hid fun w => spec_side_any M cM m.length w
  rw [hm, show sideN 16 = 4 by decide] at SI
  have CP := Lib.hid fun w h => l18copy_any A cA l (a : Int) (b : Int) (by omega) hP w h
  have IN := Lib.hid fun w h => spec_l18in_any (a : Int) (b : Int) A cA l (x : Int) (y : Int) 4 w h
  rw [hin] at IN
  have PX := Lib.hid fun w h => l14pix_any M cM m w h
  rw [hpx, hm] at PX
  have HA := Lib.hid hA; have HM := Lib.hid hM
  obtain ⟨mb, mo, rfl, hmb, hmc⟩ := hM.at 0 (by omega)
  have HMC := Lib.hid fun j (hj : j < 16) => hmc j (by omega)
  have HPL : Hid (∀ k, k < 16 → (y + k / 4) * a + x + k % 4 < l.length ∧ (y + k / 4) * a ≤ 1024) := Lib.hid fun k hk => by
    have := st_place (a := a) (b := b) (x := x) (y := y) (n := 4) (k := k) (by decide) (by omega) hx hy
    omega
  have HLEN := Lib.hid fun k => sbP_len l m a x y 4 k
  have HNX := Lib.hid fun k => sbP_next l m a x y 4 k
  have HS0 := Lib.hid (sbP_zero l m a x y 4)
  obtain ⟨n, hn⟩ : ∃ n, n = l.length := ⟨_, rfl⟩
  have hn1 : n ≤ 1024 := by omega
  have hn0 : 0 < n := by rw [hn]; exact Nat.lt_of_le_of_lt (Nat.zero_le _) (HPL.out 0 (by decide)).1
  rw [← hn] at k0 k1 hsz hbl CP IN HPL HLEN ⊢
  have HNL := Lib.hid hn
  obtain ⟨c0, c1, c2⟩ := rs3_cells k0
  have K0 := Lib.hid k0; have K1 := Lib.hid k1; have HBL := Lib.hid hbl; have HSZ := Lib.hid hsz; have HMB := Lib.hid hmb
  clear hA hM hn hbl k0 k1 hsz hl hin hpx hmc hm hab hmb
  go_enter Try.func15, Try.ntmps15
  go_wp2_with fail
  refine (SI.out _).mono ?_
  rintro e w1 ⟨rfl, hw⟩
  subst hw
  go_wp2_with fail
  refine (CP.out _ ((HA.out.below HBL.out (Nat.le_refl _)).mono HBL.out.size)).mono ?_
  rintro e w2 ⟨A2, c2', rfl, ho, hb2⟩
  have E0 := Lib.hid (cell_kept K0.out hb2); have E1 := Lib.hid (cell_kept K1.out hb2)
  have ho2 := ho
  unfold OwnI at ho2
  rw [← HNL.out] at ho2
  obtain ⟨tb, rfl, htb, htb2, hcn, hcm⟩ := own_whereO ho2 HNL.out.symm hn0
  unfold maxLen at hcm
  have hbn := below_new w2 (.cells #[.int .i64 (a : Int), .int .i64 (b : Int), .slice (some ⟨tb, 0, none⟩) n c2'] 26)
  have g0 := heap_alloc_new w2 (.cells #[.int .i64 (a : Int), .int .i64 (b : Int), .slice (some ⟨tb, 0, none⟩) n c2'] 26)
  have B2 := Lib.hid (below_up HBL.out hb2 HBL.out.size)
  have B3 := Lib.hid (below_up B2.out hbn B2.out.size)
  have F0 := Lib.hid (cell_kept E0.out hbn); have F1 := Lib.hid (cell_kept E1.out hbn); have G0 := Lib.hid g0
  have O3 := Lib.hid (own_keep ho2 hbn)
  have HT := Lib.hid htb; have HT2 := Lib.hid htb2
  obtain ⟨d0, d1, d2⟩ := rs3_cells F0.out
  clear c0 c1 c2 ho ho2 hb2 hbn g0 htb htb2
  go_wp2_with fail
  refine (IN.out _ ((HA.out.below B3.out (Nat.le_refl _)).mono B3.out.size)).mono ?_
  rintro e w4 ⟨rfl, hb4⟩
  have G4 := Lib.hid (cell_kept G0.out hb4); have F04 := Lib.hid (cell_kept F0.out hb4); have F14 := Lib.hid (cell_kept F1.out hb4)
  have B4 := Lib.hid (below_up B3.out hb4 B3.out.size)
  have O4 := Lib.hid (own_keep O3.out hb4)
  clear d0 d1 d2 hb4
  go_wp2_with fail
  refine (PX.out _ ((HM.out.below B4.out (Nat.le_refl _)).mono B4.out.size)).mono ?_
  rintro e w5 ⟨rfl, hw⟩
  subst hw
  have M4 : Hid (∀ j, j < 16 → w4.cell? ⟨mb, mo + j, none⟩ = some (.int .i64 (m.getD j 0))) := Lib.hid fun j hj => (B4.out.cell (p := ⟨mb, mo + j, none⟩) HMB.out).trans (HMC.out j hj)
  have N1 : Hid (w.heap.size ≠ tb ∧ w2.heap.size ≠ tb ∧ mb ≠ tb ∧ w.heap.size + 1 ≠ tb) := Lib.hid (by have := HT.out; have := HT2.out; have := HMB.out; have := HSZ.out; have := HBL.out.size; omega)
  have KG : Hid (∀ wr, w4.grownBy wr (some tb) → wr.heap[w.heap.size]? = some (.cells #[.int .i64 (a : Int), .int .i64 (b : Int), .slice A n cA] 26 (0, 0)) ∧ wr.heap[w2.heap.size]? = some (.cells #[.int .i64 (a : Int), .int .i64 (b : Int), .slice (some ⟨tb, 0, none⟩) n c2'] 26 (0, 0)) ∧ wr.heap[w.heap.size + 1]? = some (.cells #[.int .i64 0, .int .i64 0, .slice none 0 0] 26 (0, 0)) ∧ ∀ j, j < 16 → wr.cell? ⟨mb, mo + j, none⟩ = some (.int .i64 (m.getD j 0))) := Lib.hid fun wr h => by
    obtain ⟨n1, n2, n3, n4⟩ := N1.out
    exact ⟨(h.block _ (heap_lt F04.out) (by simp; omega)).trans F04.out, (h.block _ (heap_lt G4.out) (by simp; omega)).trans G4.out, (h.block _ (heap_lt F14.out) (by simp; omega)).trans F14.out, fun j hj => (World.cell?_of_block (h.block mb (World.block_lt_of_cell? w4 _ (M4.out j hj)) (by simp; omega))).trans (M4.out j hj)⟩
  go_wp2
  go_loopw [12] (fun i wr => ∃ k : Nat, k ≤ 16 ∧ i = .int .i64 k ∧ wr.ownsRow (w.heap.size + 2) 3 1 (.slice (some ⟨tb, 0, none⟩) n c2') n (ivs (sbP l m a x y 4 k)) ∧ w4.grownBy wr (some tb))
    (fun i _ => 16 - (intOf i).toNat)
  case atStart => exact ⟨0, Nat.zero_le _, rfl, by rw [HS0.out, ← HSZ.out]; exact O4.out, World.grownBy.refl _ _⟩
  case round =>
    obtain ⟨k, hk, rfl, hown, hgr⟩ := hrel
    obtain ⟨kk0, kk1, kk2, kk3⟩ := KG.out wr hgr
    by_cases hlt : k < 16
    · have d1 : decide ((k : Int) < 16) = true := by simp; omega
      obtain ⟨pl, pl2⟩ := HPL.out k hlt
      have hnx := HNX.out k
      have hmv := kk3 k hlt
      have hln := HLEN.out k
      obtain ⟨c0, c1, c2⟩ := rs3_cells kk0
      obtain ⟨e0, e1, e2⟩ := rs3_cells kk1
      have hdv : (k : Int).tdiv 4 = ((k / 4 : Nat) : Int) := by rw [Int.tdiv_eq_ediv_of_nonneg (by omega)]; rfl
      have hmo : (k : Int).tmod 4 = ((k % 4 : Nat) : Int) := by rw [Int.tmod_eq_emod_of_nonneg (by omega)]; rfl
      have hd2 : k / 4 < 4 := by omega
      have hr2 : k % 4 < 4 := by omega
      obtain ⟨d, hd⟩ : ∃ d, d = k / 4 := ⟨_, rfl⟩
      obtain ⟨r, hr⟩ : ∃ d, d = k % 4 := ⟨_, rfl⟩
      rw [← hd] at hdv hd2 pl pl2 hnx
      rw [← hr] at hmo hr2 pl hnx
      have hw1 : IntKind.i64.wrap ((k : Int).tdiv 4) = (d : Int) := by rw [hdv]; exact IntWalk.i64_in _ (by omega)
      have hw2 : IntKind.i64.wrap ((y : Int) + (d : Int)) = (y : Int) + (d : Int) := IntWalk.i64_in _ (by omega)
      obtain ⟨q, hq⟩ : ∃ q, q = (y + d) * a := ⟨_, rfl⟩
      rw [← hq] at pl pl2 hnx
      have hw3 : IntKind.i64.wrap (((y : Int) + (d : Int)) * (a : Int)) = (q : Int) := by
        rw [show ((y : Int) + (d : Int)) * (a : Int) = (q : Int) by rw [hq, Int.natCast_mul, Int.natCast_add]]
        exact IntWalk.i64_in _ (by omega)
      have hw4 : IntKind.i64.wrap ((q : Int) + (x : Int)) = (q : Int) + (x : Int) := IntWalk.i64_in _ (by omega)
      have hw5 : IntKind.i64.wrap ((q : Int) + (x : Int) + (r : Int)) = (q : Int) + (x : Int) + (r : Int) := IntWalk.i64_in _ (by omega)
      have hp0 : (0 : Int) ≤ (q : Int) + (x : Int) + (r : Int) := by omega
      have hp1 : (q : Int) + (x : Int) + (r : Int) < (n : Int) := by omega
      have hp2 : ((q : Int) + (x : Int) + (r : Int)).toNat = q + x + r := by omega
      obtain ⟨u0, cj⟩ : ∃ u, wr.cell? ⟨tb, q + x + r, none⟩ = some u := ⟨_, own_cellsO hown hln (q + x + r) pl⟩
      have fz := hown.frozenAt (q + x + r)
      obtain ⟨v, hv⟩ : ∃ v, v = m.getD k 0 := ⟨_, rfl⟩
      rw [← hv] at hmv hnx
      have s1 := hown.drew.stored (q + x + r) (.int .i64 v)
      rw [ivs_set, ← hnx] at s1
      have S1 := Lib.hid s1.1
      have GR := Lib.hid (grown_onO (grown_onO hgr (grown_drew_on wr (some tb))) s1.2)
      clear hd hr hq hv s1 hnx hown hgr kk0 kk1 kk2 kk3 hln
      go_wp2
      go_region
      go_wp2
      go_roundw
      case rel => exact ⟨k + 1, by omega, by go_num, S1.out, GR.out⟩
      case measure => simp [intOf]; omega
    · obtain rfl : k = 16 := by omega
      obtain ⟨e0, e1, e2⟩ := rs3_cells kk1
      obtain ⟨z0, z1, z2⟩ := rs3_frozen kk2
      obtain ⟨y0, y1, y2⟩ := rs3_cells kk2
      have K2 := Lib.hid kk2
      have O5 := Lib.hid hown
      have B5 := Lib.hid (B4.out.grown hgr B4.out.size fun j hj => by obtain rfl := Option.some.inj hj; have := HT.out; have := HSZ.out; omega)
      clear hown hgr kk0 kk1 kk2 kk3
      go_wp2
      have gb := rs3_grown wr (w.heap.size + 1) (.int .i64 (a : Int)) (.int .i64 (b : Int)) (.slice (some ⟨tb, 0, none⟩) n c2')
      obtain ⟨r0, r1, r2⟩ := rs3_cells (rs3_put K2.out (.int .i64 (a : Int)) (.int .i64 (b : Int)) (.slice (some ⟨tb, 0, none⟩) n c2'))
      have o3 := OwnI.other (own_backO O5.out (HLEN.out 16)) gb (fun j hj => by obtain rfl := Option.some.inj hj; omega)
      exact bodyPost_ret (v := .tuple #[.agg #[.int .i64 (a : Int), .int .i64 (b : Int), .slice (some ⟨tb, 0, none⟩) n c2'], .bool true]) (by simp [results, Try.results15, go_sem, r0, r1, r2]) rfl ⟨some ⟨tb, 0, none⟩, c2', rfl, o3.low (by omega), B5.out.grown gb B5.out.size (fun j hj => by obtain rfl := Option.some.inj hj; omega)⟩
set_option maxRecDepth 100000 in
set_option maxHeartbeats 4000000 in
theorem spec_setblock_8 (A : Option Addr) (cA : Nat) (l : List Int) (a b x y : Nat) (M : Option Addr) (cM : Nat) (m : List Int) (hm : m.length = 64) (hP : Placed A cA) (hin : inE (a : Int) (b : Int) l (x : Int) (y : Int) 8 = true) (hpx : m.all pixE = true) (hx : x + 8 ≤ a) (hy : y + 8 ≤ b) (ha : a ≤ 32) (hb : b ≤ 32) (hl : l.length = a * b) (w : World) (hA : Ints w w.heap.size A l) (hM : Ints w w.heap.size M m) :
    Calls Try.prog 15 #[.agg #[.int .i64 (a : Int), .int .i64 (b : Int), .slice A l.length cA], .int .i64 (x : Int), .int .i64 (y : Int), .slice M 64 cM] w fun e w' => ∃ A' c', e = .returned (.tuple #[.agg #[.int .i64 (a : Int), .int .i64 (b : Int), .slice A' l.length c'], .bool true]) ∧ OwnI w' w.heap.size A' c' (sbP l m a x y 8 64) ∧ Below w.heap.size w w' := by
  have hab : a * b ≤ 32 * 32 := Nat.mul_le_mul ha hb
  obtain ⟨k0, k1, hsz⟩ := box_two w (.cells #[.int .i64 (a : Int), .int .i64 (b : Int), .slice A l.length cA] 26) (.cells #[.int .i64 0, .int .i64 0, .slice none 0 0] 26)
  have hbl := below_two w (.cells #[.int .i64 (a : Int), .int .i64 (b : Int), .slice A l.length cA] 26) (.cells #[.int .i64 0, .int .i64 0, .slice none 0 0] 26)
  have SI := Lib.hid fun w => spec_side_any M cM m.length w
  rw [hm, show sideN 64 = 8 by decide] at SI
  have CP := Lib.hid fun w h => l18copy_any A cA l (a : Int) (b : Int) (by omega) hP w h
  have IN := Lib.hid fun w h => spec_l18in_any (a : Int) (b : Int) A cA l (x : Int) (y : Int) 8 w h
  rw [hin] at IN
  have PX := Lib.hid fun w h => l14pix_any M cM m w h
  rw [hpx, hm] at PX
  have HA := Lib.hid hA; have HM := Lib.hid hM
  obtain ⟨mb, mo, rfl, hmb, hmc⟩ := hM.at 0 (by omega)
  have HMC := Lib.hid fun j (hj : j < 64) => hmc j (by omega)
  have HPL : Hid (∀ k, k < 64 → (y + k / 8) * a + x + k % 8 < l.length ∧ (y + k / 8) * a ≤ 1024) := Lib.hid fun k hk => by
    have := st_place (a := a) (b := b) (x := x) (y := y) (n := 8) (k := k) (by decide) (by omega) hx hy
    omega
  have HLEN := Lib.hid fun k => sbP_len l m a x y 8 k
  have HNX := Lib.hid fun k => sbP_next l m a x y 8 k
  have HS0 := Lib.hid (sbP_zero l m a x y 8)
  obtain ⟨n, hn⟩ : ∃ n, n = l.length := ⟨_, rfl⟩
  have hn1 : n ≤ 1024 := by omega
  have hn0 : 0 < n := by rw [hn]; exact Nat.lt_of_le_of_lt (Nat.zero_le _) (HPL.out 0 (by decide)).1
  rw [← hn] at k0 k1 hsz hbl CP IN HPL HLEN ⊢
  have HNL := Lib.hid hn
  obtain ⟨c0, c1, c2⟩ := rs3_cells k0
  have K0 := Lib.hid k0; have K1 := Lib.hid k1; have HBL := Lib.hid hbl; have HSZ := Lib.hid hsz; have HMB := Lib.hid hmb
  clear hA hM hn hbl k0 k1 hsz hl hin hpx hmc hm hab hmb
  go_enter Try.func15, Try.ntmps15
  go_wp2_with fail
  refine (SI.out _).mono ?_
  rintro e w1 ⟨rfl, hw⟩
  subst hw
  go_wp2_with fail
  refine (CP.out _ ((HA.out.below HBL.out (Nat.le_refl _)).mono HBL.out.size)).mono ?_
  rintro e w2 ⟨A2, c2', rfl, ho, hb2⟩
  have E0 := Lib.hid (cell_kept K0.out hb2); have E1 := Lib.hid (cell_kept K1.out hb2)
  have ho2 := ho
  unfold OwnI at ho2
  rw [← HNL.out] at ho2
  obtain ⟨tb, rfl, htb, htb2, hcn, hcm⟩ := own_whereO ho2 HNL.out.symm hn0
  unfold maxLen at hcm
  have hbn := below_new w2 (.cells #[.int .i64 (a : Int), .int .i64 (b : Int), .slice (some ⟨tb, 0, none⟩) n c2'] 26)
  have g0 := heap_alloc_new w2 (.cells #[.int .i64 (a : Int), .int .i64 (b : Int), .slice (some ⟨tb, 0, none⟩) n c2'] 26)
  have B2 := Lib.hid (below_up HBL.out hb2 HBL.out.size)
  have B3 := Lib.hid (below_up B2.out hbn B2.out.size)
  have F0 := Lib.hid (cell_kept E0.out hbn); have F1 := Lib.hid (cell_kept E1.out hbn); have G0 := Lib.hid g0
  have O3 := Lib.hid (own_keep ho2 hbn)
  have HT := Lib.hid htb; have HT2 := Lib.hid htb2
  obtain ⟨d0, d1, d2⟩ := rs3_cells F0.out
  clear c0 c1 c2 ho ho2 hb2 hbn g0 htb htb2
  go_wp2_with fail
  refine (IN.out _ ((HA.out.below B3.out (Nat.le_refl _)).mono B3.out.size)).mono ?_
  rintro e w4 ⟨rfl, hb4⟩
  have G4 := Lib.hid (cell_kept G0.out hb4); have F04 := Lib.hid (cell_kept F0.out hb4); have F14 := Lib.hid (cell_kept F1.out hb4)
  have B4 := Lib.hid (below_up B3.out hb4 B3.out.size)
  have O4 := Lib.hid (own_keep O3.out hb4)
  clear d0 d1 d2 hb4
  go_wp2_with fail
  refine (PX.out _ ((HM.out.below B4.out (Nat.le_refl _)).mono B4.out.size)).mono ?_
  rintro e w5 ⟨rfl, hw⟩
  subst hw
  have M4 : Hid (∀ j, j < 64 → w4.cell? ⟨mb, mo + j, none⟩ = some (.int .i64 (m.getD j 0))) := Lib.hid fun j hj => (B4.out.cell (p := ⟨mb, mo + j, none⟩) HMB.out).trans (HMC.out j hj)
  have N1 : Hid (w.heap.size ≠ tb ∧ w2.heap.size ≠ tb ∧ mb ≠ tb ∧ w.heap.size + 1 ≠ tb) := Lib.hid (by have := HT.out; have := HT2.out; have := HMB.out; have := HSZ.out; have := HBL.out.size; omega)
  have KG : Hid (∀ wr, w4.grownBy wr (some tb) → wr.heap[w.heap.size]? = some (.cells #[.int .i64 (a : Int), .int .i64 (b : Int), .slice A n cA] 26 (0, 0)) ∧ wr.heap[w2.heap.size]? = some (.cells #[.int .i64 (a : Int), .int .i64 (b : Int), .slice (some ⟨tb, 0, none⟩) n c2'] 26 (0, 0)) ∧ wr.heap[w.heap.size + 1]? = some (.cells #[.int .i64 0, .int .i64 0, .slice none 0 0] 26 (0, 0)) ∧ ∀ j, j < 64 → wr.cell? ⟨mb, mo + j, none⟩ = some (.int .i64 (m.getD j 0))) := Lib.hid fun wr h => by
    obtain ⟨n1, n2, n3, n4⟩ := N1.out
    exact ⟨(h.block _ (heap_lt F04.out) (by simp; omega)).trans F04.out, (h.block _ (heap_lt G4.out) (by simp; omega)).trans G4.out, (h.block _ (heap_lt F14.out) (by simp; omega)).trans F14.out, fun j hj => (World.cell?_of_block (h.block mb (World.block_lt_of_cell? w4 _ (M4.out j hj)) (by simp; omega))).trans (M4.out j hj)⟩
  go_wp2
  go_loopw [12] (fun i wr => ∃ k : Nat, k ≤ 64 ∧ i = .int .i64 k ∧ wr.ownsRow (w.heap.size + 2) 3 1 (.slice (some ⟨tb, 0, none⟩) n c2') n (ivs (sbP l m a x y 8 k)) ∧ w4.grownBy wr (some tb))
    (fun i _ => 64 - (intOf i).toNat)
  case atStart => exact ⟨0, Nat.zero_le _, rfl, by rw [HS0.out, ← HSZ.out]; exact O4.out, World.grownBy.refl _ _⟩
  case round =>
    obtain ⟨k, hk, rfl, hown, hgr⟩ := hrel
    obtain ⟨kk0, kk1, kk2, kk3⟩ := KG.out wr hgr
    by_cases hlt : k < 64
    · have d1 : decide ((k : Int) < 64) = true := by simp; omega
      obtain ⟨pl, pl2⟩ := HPL.out k hlt
      have hnx := HNX.out k
      have hmv := kk3 k hlt
      have hln := HLEN.out k
      obtain ⟨c0, c1, c2⟩ := rs3_cells kk0
      obtain ⟨e0, e1, e2⟩ := rs3_cells kk1
      have hdv : (k : Int).tdiv 8 = ((k / 8 : Nat) : Int) := by rw [Int.tdiv_eq_ediv_of_nonneg (by omega)]; rfl
      have hmo : (k : Int).tmod 8 = ((k % 8 : Nat) : Int) := by rw [Int.tmod_eq_emod_of_nonneg (by omega)]; rfl
      have hd2 : k / 8 < 8 := by omega
      have hr2 : k % 8 < 8 := by omega
      obtain ⟨d, hd⟩ : ∃ d, d = k / 8 := ⟨_, rfl⟩
      obtain ⟨r, hr⟩ : ∃ d, d = k % 8 := ⟨_, rfl⟩
      rw [← hd] at hdv hd2 pl pl2 hnx
      rw [← hr] at hmo hr2 pl hnx
      have hw1 : IntKind.i64.wrap ((k : Int).tdiv 8) = (d : Int) := by rw [hdv]; exact IntWalk.i64_in _ (by omega)
      have hw2 : IntKind.i64.wrap ((y : Int) + (d : Int)) = (y : Int) + (d : Int) := IntWalk.i64_in _ (by omega)
      obtain ⟨q, hq⟩ : ∃ q, q = (y + d) * a := ⟨_, rfl⟩
      rw [← hq] at pl pl2 hnx
      have hw3 : IntKind.i64.wrap (((y : Int) + (d : Int)) * (a : Int)) = (q : Int) := by
        rw [show ((y : Int) + (d : Int)) * (a : Int) = (q : Int) by rw [hq, Int.natCast_mul, Int.natCast_add]]
        exact IntWalk.i64_in _ (by omega)
      have hw4 : IntKind.i64.wrap ((q : Int) + (x : Int)) = (q : Int) + (x : Int) := IntWalk.i64_in _ (by omega)
      have hw5 : IntKind.i64.wrap ((q : Int) + (x : Int) + (r : Int)) = (q : Int) + (x : Int) + (r : Int) := IntWalk.i64_in _ (by omega)
      have hp0 : (0 : Int) ≤ (q : Int) + (x : Int) + (r : Int) := by omega
      have hp1 : (q : Int) + (x : Int) + (r : Int) < (n : Int) := by omega
      have hp2 : ((q : Int) + (x : Int) + (r : Int)).toNat = q + x + r := by omega
      obtain ⟨u0, cj⟩ : ∃ u, wr.cell? ⟨tb, q + x + r, none⟩ = some u := ⟨_, own_cellsO hown hln (q + x + r) pl⟩
      have fz := hown.frozenAt (q + x + r)
      obtain ⟨v, hv⟩ : ∃ v, v = m.getD k 0 := ⟨_, rfl⟩
      rw [← hv] at hmv hnx
      have s1 := hown.drew.stored (q + x + r) (.int .i64 v)
      rw [ivs_set, ← hnx] at s1
      have S1 := Lib.hid s1.1
      have GR := Lib.hid (grown_onO (grown_onO hgr (grown_drew_on wr (some tb))) s1.2)
      clear hd hr hq hv s1 hnx hown hgr kk0 kk1 kk2 kk3 hln
      go_wp2
      go_region
      go_wp2
      go_roundw
      case rel => exact ⟨k + 1, by omega, by go_num, S1.out, GR.out⟩
      case measure => simp [intOf]; omega
    · obtain rfl : k = 64 := by omega
      obtain ⟨e0, e1, e2⟩ := rs3_cells kk1
      obtain ⟨z0, z1, z2⟩ := rs3_frozen kk2
      obtain ⟨y0, y1, y2⟩ := rs3_cells kk2
      have K2 := Lib.hid kk2
      have O5 := Lib.hid hown
      have B5 := Lib.hid (B4.out.grown hgr B4.out.size fun j hj => by obtain rfl := Option.some.inj hj; have := HT.out; have := HSZ.out; omega)
      clear hown hgr kk0 kk1 kk2 kk3
      go_wp2
      have gb := rs3_grown wr (w.heap.size + 1) (.int .i64 (a : Int)) (.int .i64 (b : Int)) (.slice (some ⟨tb, 0, none⟩) n c2')
      obtain ⟨r0, r1, r2⟩ := rs3_cells (rs3_put K2.out (.int .i64 (a : Int)) (.int .i64 (b : Int)) (.slice (some ⟨tb, 0, none⟩) n c2'))
      have o3 := OwnI.other (own_backO O5.out (HLEN.out 64)) gb (fun j hj => by obtain rfl := Option.some.inj hj; omega)
      exact bodyPost_ret (v := .tuple #[.agg #[.int .i64 (a : Int), .int .i64 (b : Int), .slice (some ⟨tb, 0, none⟩) n c2'], .bool true]) (by simp [results, Try.results15, go_sem, r0, r1, r2]) rfl ⟨some ⟨tb, 0, none⟩, c2', rfl, o3.low (by omega), B5.out.grown gb B5.out.size (fun j hj => by obtain rfl := Option.some.inj hj; omega)⟩
theorem sideN_cases {k : Nat} (h : okN (sideN k) = true) : (k = 16 ∧ sideN k = 4) ∨ (k = 64 ∧ sideN k = 8) := by
  unfold sideN at h ⊢
  by_cases h1 : k = 16
  · left; subst h1; exact ⟨rfl, rfl⟩
  · by_cases h2 : k = 64
    · right; subst h2; exact ⟨rfl, rfl⟩
    · rw [if_neg h1, if_neg h2] at h
      exact absurd h (by decide)
theorem spec_setblock_any (A : Option Addr) (cA : Nat) (l : List Int) (p0 p1 x y : Int) (M : Option Addr) (cM : Nat) (m : List Int) (hl : l.length ≤ 1048576) (hP : Placed A cA) (w : World) (hA : Ints w w.heap.size A l) (hM : Ints w w.heap.size M m) :
    Calls Try.prog 15 #[.agg #[.int .i64 p0, .int .i64 p1, .slice A l.length cA], .int .i64 x, .int .i64 y, .slice M m.length cM] w fun e w' => ∃ A' c', e = .returned (.tuple #[.agg #[.int .i64 p0, .int .i64 p1, .slice A' (sbL p0 p1 l x y m).length c'], .bool (sbE p0 p1 l x y m)]) ∧ OwnI w' w.heap.size A' c' (sbL p0 p1 l x y m) ∧ Below w.heap.size w w' := by
  rw [sbL_len]
  cases hok : sbE p0 p1 l x y m with
  | false =>
    rw [show sbL p0 p1 l x y m = l by unfold sbL; rw [hok]; rfl]
    exact spec_setblock_off A cA l p0 p1 x y M cM m hl hP hok w hA hM
  | true =>
    have e1 : sbL p0 p1 l x y m = sbP l m p0.toNat x.toNat y.toNat (sideN m.length).toNat m.length := by unfold sbL; rw [if_pos hok]
    rw [e1]
    have hh := hok
    simp only [sbE, inE, Bool.and_eq_true] at hh
    obtain ⟨⟨⟨⟨⟨⟨hf, ho⟩, hx⟩, hy⟩, _⟩, _⟩, hpx⟩ := hh
    have hin : inE p0 p1 l x y (sideN m.length) = true := by
      have := hok
      simp only [sbE, Bool.and_eq_true] at this
      exact this.1
    obtain ⟨hs, hl2, _⟩ := frameE_sides hf
    obtain ⟨h1, h2, _, _⟩ := sidesE_parts hs
    have hx := betE_true hx; have hy := betE_true hy
    obtain ⟨a', rfl⟩ := Int.eq_ofNat_of_zero_le (show 0 ≤ p0 by omega)
    obtain ⟨b', rfl⟩ := Int.eq_ofNat_of_zero_le (show 0 ≤ p1 by omega)
    obtain ⟨x', rfl⟩ := Int.eq_ofNat_of_zero_le hx.1
    obtain ⟨y', rfl⟩ := Int.eq_ofNat_of_zero_le hy.1
    have hl' : l.length = a' * b' := by rw [← Int.natCast_mul] at hl2; exact Int.ofNat.inj hl2
    rcases sideN_cases ho with ⟨k1, k2⟩ | ⟨k1, k2⟩
    · rw [k2] at hin hx hy ⊢
      rw [k1]
      exact spec_setblock_4 A cA l a' b' x' y' M cM m k1 hP hin hpx (by omega) (by omega) (by omega) (by omega) hl' w hA hM
    · rw [k2] at hin hx hy ⊢
      rw [k1]
      exact spec_setblock_8 A cA l a' b' x' y' M cM m k1 hP hin hpx (by omega) (by omega) (by omega) (by omega) hl' w hA hM
end Go.Proofs.Ytemfiglflbfocaa
