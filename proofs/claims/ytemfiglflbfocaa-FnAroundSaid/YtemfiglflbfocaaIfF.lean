/-
  Chapter 18: the contract of the program's NbAt. Condition: the samples are held (a slice is no longer than it holds).
-/
import Derived.Test.YtemfiglflbfocaaIfE
import Derived.Test.YtemfiglflbfocaaFrF
namespace Go.Proofs.Ytemfiglflbfocaa
open Go.RowKit
set_option linter.unusedVariables false

theorem own_off {w w' : World} {base g : Nat} {A : Option Addr} {c : Nat} {l : List Int} (h : OwnI w base A c l) (hg : w.grownBy w' (some g)) (hne : ∀ k, (Value.slice A l.length c).ownBlock = some k → k ≠ g) : OwnI w' base A c l :=
  World.ownsRow.kept h hg (.inr fun e => hne g e rfl)
theorem own_still {w w' : World} {base : Nat} {A : Option Addr} {c : Nat} {l : List Int} (h : OwnI w base A c l) (hb : Below w.heap.size w w') : OwnI w' base A c l := own_keep h hb
set_option maxRecDepth 100000 in
set_option maxHeartbeats 4000000 in
theorem impl_nbat_4_00 (a b x y : Nat) (pb poff pn ca : Nat) (l : List Int) (hpn : pn = l.length) (hin : inE (a : Int) (b : Int) l (x : Int) (y : Int) 4 = true) (hx : x + 4 ≤ a) (hy : y + 4 ≤ b) (ha : a ≤ 32) (hb : b ≤ 32) (hl : l.length = a * b) (hca : l.length ≤ ca) (hxp : x = 0) (hyp : y = 0) (w : World) (hpb : pb < w.heap.size) (hc : ∀ j, j < l.length → w.cell? ⟨pb, poff + j, none⟩ = some (.int .i64 (l.getD j 0))) :
    Calls Try.prog 22 #[.agg #[.int .i64 (a : Int), .int .i64 (b : Int), .slice (some ⟨pb, poff, none⟩) pn ca], .int .i64 (x : Int), .int .i64 (y : Int), .int .i64 4] w fun e w' => ∃ A cA B cB, e = .returned (.agg #[.slice A 8 cA, .slice B 4 cB, .int .i64 (coV l a x y), .bool false, .bool false]) ∧ NbTwo w' w.heap.size A cA B cB (tpL l a x y 4 8) (leL l a x y 4) ∧ Below w.heap.size w w' := by
  have hI : Ints w w.heap.size (some ⟨pb, poff, none⟩) l := ⟨by have := Nat.mul_le_mul ha hb; omega, .inr ⟨pb, poff, rfl, hpb, hc⟩⟩
  have IN := Lib.hid fun w h => impl_hasblock_any (a : Int) (b : Int) (some ⟨pb, poff, none⟩) ca l (x : Int) (y : Int) 4 w h
  rw [hin] at IN
  have hab : a * b ≤ 32 * 32 := Nat.mul_le_mul ha hb
  have RT := Lib.hid fun A cs w h => repeat_one A 128 8 cs (by decide) w h
  have RL := Lib.hid fun A cs w h => repeat_one A 128 4 cs (by decide) w h
  rw [show ((8 : Nat) : Int) = 8 from rfl] at RT
  rw [show ((4 : Nat) : Int) = 4 from rfl] at RL
  have eT : List.replicate 8 128 = tpL l a x y 4 8 := by rw [hyp, tpL_edge]
  rw [eT] at RT
  have eL : List.replicate 4 128 = leL l a x y 4 := by rw [hxp, leL_edge]
  rw [eL] at RL
  have hco : coV l a x y = 128 := by rw [coV, if_neg (by omega)]
  rw [hco]
  clear hco
  have dx : decide (0 < (x : Int)) = false := by simp; omega
  have dy : decide (0 < (y : Int)) = false := by simp; omega
  have nx : ¬ 0 < x := by omega
  have ny : ¬ 0 < y := by omega
  have nx2 : decide (0 < x) = false := by simp; omega
  have ny2 : decide (0 < y) = false := by simp; omega
  have tl := tpL_len l a x y 4 8
  have ll := leL_len l a x y 4
  obtain ⟨TP, hTP⟩ : ∃ TP, TP = tpL l a x y 4 8 := ⟨_, rfl⟩
  obtain ⟨LP, hLP⟩ : ∃ LP, LP = leL l a x y 4 := ⟨_, rfl⟩
  rw [← hTP] at tl RT ⊢
  rw [← hLP] at ll RL ⊢
  rw [← hpn] at IN
  have hb2 := below_two w (.cells #[.int .i64 (a : Int), .int .i64 (b : Int), .slice (some ⟨pb, poff, none⟩) pn ca] 26) (.cells #[.slice none 0 0, .slice none 0 0, .int .i64 0, .bool false, .bool false] 38)
  obtain ⟨g0, g1⟩ := heap_two w (.cells #[.int .i64 (a : Int), .int .i64 (b : Int), .slice (some ⟨pb, poff, none⟩) pn ca] 26) (.cells #[.slice none 0 0, .slice none 0 0, .int .i64 0, .bool false, .bool false] 38)
  have I2 := Lib.hid ((hI.below hb2 (Nat.le_refl _)).mono hb2.size)
  have H0 := Lib.hid g0; have H1 := Lib.hid g1; have BX := Lib.hid hb2
  have HTL := Lib.hid tl; have HLL := Lib.hid ll; have HPB := Lib.hid hpb
  have SZ : Hid (w.heap.size + 1 + 1 ≤ ((w.alloc (.cells #[.int .i64 (a : Int), .int .i64 (b : Int), .slice (some ⟨pb, poff, none⟩) pn ca] 26)).alloc (.cells #[.slice none 0 0, .slice none 0 0, .int .i64 0, .bool false, .bool false] 38)).heap.size) := Lib.hid (by simp)
  clear hb2 g0 g1 hl hpn hin hI hc hab hTP hLP tl ll hca hpb hxp hyp eT eL
  go_enter Try.func22, Try.ntmps22
  go_wp2_with fail
  refine (IN.out _ I2.out).mono ?_
  rintro e w1 ⟨rfl, hb1⟩
  have H0 := Lib.hid (cell_kept H0.out hb1); have H1 := Lib.hid (cell_kept H1.out hb1)
  have BX := Lib.hid (below_up BX.out hb1 BX.out.size)
  have S1 : Hid (w.heap.size + 1 + 1 ≤ w1.heap.size) := Lib.hid (Nat.le_trans SZ.out hb1.size)
  have nb := below_new w1 (.cells #[.int .i64 128] 3)
  have IV : Hid (Ints (w1.alloc (.cells #[.int .i64 128] 3)) (w1.alloc (.cells #[.int .i64 128] 3)).heap.size (some ⟨w1.heap.size, 0, none⟩) [128]) := Lib.hid ((own_ints w1 w1.heap.size [128] (Nat.le_refl _) (by simp [maxLen])).ints (by simp))
  have H0 := Lib.hid (cell_kept H0.out nb); have H1 := Lib.hid (cell_kept H1.out nb)
  have BX := Lib.hid (below_up BX.out nb BX.out.size)
  have ZA := Lib.hid nb.size
  clear hb1 nb
  go_wp2_with fail
  refine (RT.out _ _ _ IV.out).mono ?_
  rintro e w2 ⟨A2, c2, rfl, ho2, hb2⟩
  have H0 := Lib.hid (cell_kept H0.out hb2); have H1 := Lib.hid (cell_kept H1.out hb2)
  have BX := Lib.hid (below_up BX.out hb2 BX.out.size)
  have S2 : Hid (w.heap.size + 1 + 1 ≤ w2.heap.size) := Lib.hid (Nat.le_trans S1.out (Nat.le_trans ZA.out hb2.size))
  have OT := Lib.hid (OwnI.low ho2 ZA.out)
  have TB := Lib.hid (OwnI.block ho2); have ZC := Lib.hid ZA.out
  have nb := below_new w2 (.cells #[.int .i64 128] 3)
  have IV : Hid (Ints (w2.alloc (.cells #[.int .i64 128] 3)) (w2.alloc (.cells #[.int .i64 128] 3)).heap.size (some ⟨w2.heap.size, 0, none⟩) [128]) := Lib.hid ((own_ints w2 w2.heap.size [128] (Nat.le_refl _) (by simp [maxLen])).ints (by simp))
  have H0 := Lib.hid (cell_kept H0.out nb); have H1 := Lib.hid (cell_kept H1.out nb); have OT := Lib.hid (own_still OT.out nb)
  have BX := Lib.hid (below_up BX.out nb BX.out.size)
  have ZA := Lib.hid nb.size
  clear hb2 nb ho2
  go_wp2_with fail
  refine (RL.out _ _ _ IV.out).mono ?_
  rintro e w3 ⟨A3, c3, rfl, ho3, hb3⟩
  have H0 := Lib.hid (cell_kept H0.out hb3); have H1 := Lib.hid (cell_kept H1.out hb3); have OT := Lib.hid (own_still OT.out hb3)
  have BX := Lib.hid (below_up BX.out hb3 BX.out.size)
  have S23 : Hid (w2.heap.size ≤ w3.heap.size) := Lib.hid (Nat.le_trans ZA.out hb3.size)
  have OL := Lib.hid (OwnI.low ho3 ZA.out)
  have LB := Lib.hid (OwnI.block ho3)
  have ZB := Lib.hid ZA.out
  have f0 := H0.out; have f1 := H1.out
  have lt0 := heap_lt f0; have lt1 := heap_lt f1
  obtain ⟨c0, c1, c2'⟩ := cells3 f0
  obtain ⟨y0, y1, y2, y3, y4⟩ := cells5 f1
  obtain ⟨z0, z1, z2, z3, z4⟩ := frozen5 f1
  have gb := grown_five w3 (w.heap.size + 1) (.slice A2 8 c2) (.slice A3 4 c3) (.int .i64 128) (.bool false) (.bool false)
  have hp := put_five f1 (.slice A2 8 c2) (.slice A3 4 c3) (.int .i64 128) (.bool false) (.bool false)
  have nb := below_new (((((w3.setCell ⟨w.heap.size + 1, 0, none⟩ (.slice A2 8 c2)).setCell ⟨w.heap.size + 1, 1, none⟩ (.slice A3 4 c3)).setCell ⟨w.heap.size + 1, 2, none⟩ (.int .i64 128)).setCell ⟨w.heap.size + 1, 3, none⟩ (.bool false)).setCell ⟨w.heap.size + 1, 4, none⟩ (.bool false)) (.cells #[.slice A2 8 c2, .slice A3 4 c3, .int .i64 128, .bool false, .bool false] 38)
  have HM := Lib.hid (cells5 (cell_kept hp nb))
  have ot := own_still (own_off OT.out gb (fun k hk => by have := TB.out k hk; have := S1.out; have := ZC.out; omega)) nb
  have ol := own_still (own_off OL.out gb (fun k hk => by have := LB.out k hk; have := ZB.out; have := S2.out; omega)) nb
  have b0 := BX.out.grown gb BX.out.size fun k hk => by have := Option.some.inj hk; omega
  have bz := below_up b0 nb b0.size
  have HOT := Lib.hid ot; have HOL := Lib.hid ol; have HBZ := Lib.hid bz
  clear f0 f1 gb hp nb ot ol b0 bz hb3 ho3
  go_wp2
  obtain ⟨m0, m1, m2, m3, m4⟩ := HM.out
  have hsz := S2.out; have h23 := S23.out
  refine bodyPost_ret (v := .agg #[.slice A2 8 c2, .slice A3 4 c3, .int .i64 128, .bool false, .bool false]) (by simp [results, Try.results22, go_sem, m0, m1, m2, m3, m4]) rfl ⟨A2, c2, A3, c3, rfl, ⟨OwnI.low HOT.out ?_, OwnI.low HOL.out ?_, ?_⟩, HBZ.out⟩
  · have := S1.out; omega
  · omega
  · intro k h1 h2; have t := TB.out k h1; have u := LB.out k h2; have := ZB.out; omega
set_option maxRecDepth 100000 in
set_option maxHeartbeats 4000000 in
theorem impl_nbat_4_01 (a b x y : Nat) (pb poff pn ca : Nat) (l : List Int) (hpn : pn = l.length) (hin : inE (a : Int) (b : Int) l (x : Int) (y : Int) 4 = true) (hx : x + 4 ≤ a) (hy : y + 4 ≤ b) (ha : a ≤ 32) (hb : b ≤ 32) (hl : l.length = a * b) (hca : l.length ≤ ca) (hxp : x = 0) (hyp : 0 < y) (w : World) (hpb : pb < w.heap.size) (hc : ∀ j, j < l.length → w.cell? ⟨pb, poff + j, none⟩ = some (.int .i64 (l.getD j 0))) :
    Calls Try.prog 22 #[.agg #[.int .i64 (a : Int), .int .i64 (b : Int), .slice (some ⟨pb, poff, none⟩) pn ca], .int .i64 (x : Int), .int .i64 (y : Int), .int .i64 4] w fun e w' => ∃ A cA B cB, e = .returned (.agg #[.slice A 8 cA, .slice B 4 cB, .int .i64 (coV l a x y), .bool true, .bool false]) ∧ NbTwo w' w.heap.size A cA B cB (tpL l a x y 4 8) (leL l a x y 4) ∧ Below w.heap.size w w' := by
  have hI : Ints w w.heap.size (some ⟨pb, poff, none⟩) l := ⟨by have := Nat.mul_le_mul ha hb; omega, .inr ⟨pb, poff, rfl, hpb, hc⟩⟩
  have IN := Lib.hid fun w h => impl_hasblock_any (a : Int) (b : Int) (some ⟨pb, poff, none⟩) ca l (x : Int) (y : Int) 4 w h
  rw [hin] at IN
  have hab : a * b ≤ 32 * 32 := Nat.mul_le_mul ha hb
  have RT := Lib.hid fun A cs w h => repeat_one A 128 8 cs (by decide) w h
  have RL := Lib.hid fun A cs w h => repeat_one A 128 4 cs (by decide) w h
  rw [show ((8 : Nat) : Int) = 8 from rfl] at RT
  rw [show ((4 : Nat) : Int) = 4 from rfl] at RL
  have AB := Lib.hid fun wr (h : Below w.heap.size w wr) => impl_above_4 a b x y pb poff ca l hx hy ha hb hl hca wr (Nat.lt_of_lt_of_le hpb h.size) (fun j hj => (h.cell (p := ⟨pb, poff + j, none⟩) hpb).trans (hc j hj)) hyp
  have eL : List.replicate 4 128 = leL l a x y 4 := by rw [hxp, leL_edge]
  rw [eL] at RL
  have hco : coV l a x y = 128 := by rw [coV, if_neg (by omega)]
  rw [hco]
  clear hco
  have dx : decide (0 < (x : Int)) = false := by simp; omega
  have dy : decide (0 < (y : Int)) = true := by simp; omega
  have nx : ¬ 0 < x := by omega
  have ny : 0 < y := by omega
  have nx2 : decide (0 < x) = false := by simp; omega
  have ny2 : decide (0 < y) = true := by simp; omega
  have tl := tpL_len l a x y 4 8
  have ll := leL_len l a x y 4
  obtain ⟨TP, hTP⟩ : ∃ TP, TP = tpL l a x y 4 8 := ⟨_, rfl⟩
  obtain ⟨LP, hLP⟩ : ∃ LP, LP = leL l a x y 4 := ⟨_, rfl⟩
  rw [← hTP] at tl AB ⊢
  rw [← hLP] at ll RL ⊢
  rw [← hpn] at IN AB
  have hb2 := below_two w (.cells #[.int .i64 (a : Int), .int .i64 (b : Int), .slice (some ⟨pb, poff, none⟩) pn ca] 26) (.cells #[.slice none 0 0, .slice none 0 0, .int .i64 0, .bool false, .bool false] 38)
  obtain ⟨g0, g1⟩ := heap_two w (.cells #[.int .i64 (a : Int), .int .i64 (b : Int), .slice (some ⟨pb, poff, none⟩) pn ca] 26) (.cells #[.slice none 0 0, .slice none 0 0, .int .i64 0, .bool false, .bool false] 38)
  have I2 := Lib.hid ((hI.below hb2 (Nat.le_refl _)).mono hb2.size)
  have H0 := Lib.hid g0; have H1 := Lib.hid g1; have BX := Lib.hid hb2
  have HTL := Lib.hid tl; have HLL := Lib.hid ll; have HPB := Lib.hid hpb
  have SZ : Hid (w.heap.size + 1 + 1 ≤ ((w.alloc (.cells #[.int .i64 (a : Int), .int .i64 (b : Int), .slice (some ⟨pb, poff, none⟩) pn ca] 26)).alloc (.cells #[.slice none 0 0, .slice none 0 0, .int .i64 0, .bool false, .bool false] 38)).heap.size) := Lib.hid (by simp)
  clear hb2 g0 g1 hl hpn hin hI hc hab hTP hLP tl ll hca hpb hxp hyp eL
  go_enter Try.func22, Try.ntmps22
  go_wp2_with fail
  refine (IN.out _ I2.out).mono ?_
  rintro e w1 ⟨rfl, hb1⟩
  have H0 := Lib.hid (cell_kept H0.out hb1); have H1 := Lib.hid (cell_kept H1.out hb1)
  have BX := Lib.hid (below_up BX.out hb1 BX.out.size)
  have S1 : Hid (w.heap.size + 1 + 1 ≤ w1.heap.size) := Lib.hid (Nat.le_trans SZ.out hb1.size)
  have nb := below_new w1 (.cells #[.int .i64 128] 3)
  have IV : Hid (Ints (w1.alloc (.cells #[.int .i64 128] 3)) (w1.alloc (.cells #[.int .i64 128] 3)).heap.size (some ⟨w1.heap.size, 0, none⟩) [128]) := Lib.hid ((own_ints w1 w1.heap.size [128] (Nat.le_refl _) (by simp [maxLen])).ints (by simp))
  have H0 := Lib.hid (cell_kept H0.out nb); have H1 := Lib.hid (cell_kept H1.out nb)
  have BX := Lib.hid (below_up BX.out nb BX.out.size)
  have ZA := Lib.hid nb.size
  clear hb1 nb
  go_wp2_with fail
  refine (RT.out _ _ _ IV.out).mono ?_
  rintro e w2 ⟨A2, c2, rfl, ho2, hb2⟩
  have H0 := Lib.hid (cell_kept H0.out hb2); have H1 := Lib.hid (cell_kept H1.out hb2)
  have BX := Lib.hid (below_up BX.out hb2 BX.out.size)
  have S2 : Hid (w.heap.size + 1 + 1 ≤ w2.heap.size) := Lib.hid (Nat.le_trans S1.out (Nat.le_trans ZA.out hb2.size))
  have OT := Lib.hid (OwnI.low ho2 ZA.out)
  have TB := Lib.hid (OwnI.block ho2); have ZC := Lib.hid ZA.out
  have nb := below_new w2 (.cells #[.int .i64 128] 3)
  have IV : Hid (Ints (w2.alloc (.cells #[.int .i64 128] 3)) (w2.alloc (.cells #[.int .i64 128] 3)).heap.size (some ⟨w2.heap.size, 0, none⟩) [128]) := Lib.hid ((own_ints w2 w2.heap.size [128] (Nat.le_refl _) (by simp [maxLen])).ints (by simp))
  have H0 := Lib.hid (cell_kept H0.out nb); have H1 := Lib.hid (cell_kept H1.out nb); have OT := Lib.hid (own_still OT.out nb)
  have BX := Lib.hid (below_up BX.out nb BX.out.size)
  have ZA := Lib.hid nb.size
  clear hb2 nb ho2
  go_wp2_with fail
  refine (RL.out _ _ _ IV.out).mono ?_
  rintro e w3 ⟨A3, c3, rfl, ho3, hb3⟩
  have H0 := Lib.hid (cell_kept H0.out hb3); have H1 := Lib.hid (cell_kept H1.out hb3); have OT := Lib.hid (own_still OT.out hb3)
  have BX := Lib.hid (below_up BX.out hb3 BX.out.size)
  have S23 : Hid (w2.heap.size ≤ w3.heap.size) := Lib.hid (Nat.le_trans ZA.out hb3.size)
  have OL := Lib.hid (OwnI.low ho3 ZA.out)
  have LB := Lib.hid (OwnI.block ho3)
  have ZB := Lib.hid ZA.out
  have f0 := H0.out; have f1 := H1.out
  have lt0 := heap_lt f0; have lt1 := heap_lt f1
  obtain ⟨c0, c1, c2'⟩ := cells3 f0
  obtain ⟨y0, y1, y2, y3, y4⟩ := cells5 f1
  obtain ⟨z0, z1, z2, z3, z4⟩ := frozen5 f1
  have nb := below_new w3 (.cells #[.slice A2 8 c2, .slice A3 4 c3, .int .i64 128, .bool true, .bool false] 38)
  have HB := Lib.hid (heap_alloc_new w3 (.cells #[.slice A2 8 c2, .slice A3 4 c3, .int .i64 128, .bool true, .bool false] 38))
  have H0 := Lib.hid (cell_kept f0 nb); have H1 := Lib.hid (cell_kept f1 nb); have OT := Lib.hid (own_still OT.out nb); have OL := Lib.hid (own_still OL.out nb)
  have BX := Lib.hid (below_up BX.out nb BX.out.size)
  have S34 : Hid (w3.heap.size < (w3.alloc (.cells #[.slice A2 8 c2, .slice A3 4 c3, .int .i64 128, .bool true, .bool false] 38)).heap.size) := Lib.hid (by simp)
  clear f0 f1 nb hb3 ho3
  go_wp2_with fail
  refine (AB.out _ BX.out).mono ?_
  rintro e w5 ⟨A5, c5, rfl, ho5, hb5⟩
  have HB := Lib.hid (cell_kept HB.out hb5); have H0 := Lib.hid (cell_kept H0.out hb5); have H1 := Lib.hid (cell_kept H1.out hb5); have OL := Lib.hid (own_still OL.out hb5)
  have BX := Lib.hid (below_up BX.out hb5 BX.out.size)
  have S5 : Hid (w3.heap.size < w5.heap.size) := Lib.hid (Nat.lt_of_lt_of_le S34.out hb5.size)
  have OT := Lib.hid ho5
  have TB := Lib.hid (OwnI.block ho5)
  clear c0 c1 c2' y0 y1 y2 y3 y4 z0 z1 z2 z3 z4 lt0 lt1
  have lt2 := S5.out; have lt0 := heap_lt H0.out; have lt1 := heap_lt H1.out
  obtain ⟨x0, x1, x2, x3, x4⟩ := cells5 HB.out
  obtain ⟨v0, v1, v2, v3, v4⟩ := frozen5 HB.out
  have hk := heap_setCell_same w5 w3.heap.size 0 _ _ (.slice A5 8 c5) HB.out
  have gb := grown_cell w5 w3.heap.size 0 (.slice A5 8 c5)
  have HB : Hid ((w5.setCell ⟨w3.heap.size, 0, none⟩ (.slice A5 8 c5)).heap[w3.heap.size]? = some (.cells #[.slice A5 8 c5, .slice A3 4 c3, .int .i64 128, .bool true, .bool false] 38 (0, 0))) := Lib.hid hk
  have H0 := Lib.hid ((gb.block w.heap.size lt0 (by simp; have := S2.out; have := S23.out; omega)).trans H0.out)
  have H1 := Lib.hid ((gb.block (w.heap.size + 1) lt1 (by simp; have := S2.out; have := S23.out; omega)).trans H1.out)
  have OT := Lib.hid (own_off OT.out gb (fun k hk => by have := TB.out k hk; have := S34.out; omega))
  have OL := Lib.hid (own_off OL.out gb (fun k hk => by have := LB.out k hk; omega))
  have BX := Lib.hid (BX.out.grown gb BX.out.size fun j hj => by obtain rfl := Option.some.inj hj; have := S2.out; have := S23.out; omega)
  have S5 : Hid (w3.heap.size < (w5.setCell ⟨w3.heap.size, 0, none⟩ (.slice A5 8 c5)).heap.size) := Lib.hid (Nat.lt_of_lt_of_le S5.out gb.size)
  have ZT : Hid (w5.heap.size ≤ (w5.setCell ⟨w3.heap.size, 0, none⟩ (.slice A5 8 c5)).heap.size) := Lib.hid gb.size
  clear hk gb hb5 ho5 lt0 lt1

  obtain ⟨c0, c1, c2'⟩ := cells3 H0.out
  obtain ⟨y0, y1, y2, y3, y4⟩ := cells5 H1.out
  obtain ⟨z0, z1, z2, z3, z4⟩ := frozen5 H1.out
  obtain ⟨d0, d1, d2, d3, d4⟩ := cells5 HB.out
  have GB := Lib.hid (grown_five (w5.setCell ⟨w3.heap.size, 0, none⟩ (.slice A5 8 c5)) (w.heap.size + 1) (.slice A5 8 c5) (.slice A3 4 c3) (.int .i64 128) (.bool true) (.bool false))
  have HM := Lib.hid (cells5 (put_five H1.out (.slice A5 8 c5) (.slice A3 4 c3) (.int .i64 128) (.bool true) (.bool false)))
  go_wp2
  obtain ⟨m0, m1, m2, m3, m4⟩ := HM.out
  have hsz := S2.out; have h23 := S23.out
  have ot := own_off OT.out GB.out (fun k hk => by have := TB.out k hk; have := S34.out; omega)
  have ol := own_off OL.out GB.out (fun k hk => by have := LB.out k hk; have := ZB.out; omega)
  have bz := BX.out.grown GB.out BX.out.size fun k hk => by have := Option.some.inj hk; omega
  refine bodyPost_ret (v := .agg #[.slice A5 8 c5, .slice A3 4 c3, .int .i64 128, .bool true, .bool false]) (by simp [results, Try.results22, go_sem, m0, m1, m2, m3, m4]) rfl ⟨A5, c5, A3, c3, rfl, ⟨OwnI.low ot ?_, OwnI.low ol ?_, ?_⟩, bz⟩
  · have := S34.out; omega
  · omega
  · intro k h1 h2; have t := TB.out k h1; have u := LB.out k h2; have := S34.out; omega
set_option maxRecDepth 100000 in
set_option maxHeartbeats 4000000 in
theorem impl_nbat_4_10 (a b x y : Nat) (pb poff pn ca : Nat) (l : List Int) (hpn : pn = l.length) (hin : inE (a : Int) (b : Int) l (x : Int) (y : Int) 4 = true) (hx : x + 4 ≤ a) (hy : y + 4 ≤ b) (ha : a ≤ 32) (hb : b ≤ 32) (hl : l.length = a * b) (hca : l.length ≤ ca) (hxp : 0 < x) (hyp : y = 0) (w : World) (hpb : pb < w.heap.size) (hc : ∀ j, j < l.length → w.cell? ⟨pb, poff + j, none⟩ = some (.int .i64 (l.getD j 0))) :
    Calls Try.prog 22 #[.agg #[.int .i64 (a : Int), .int .i64 (b : Int), .slice (some ⟨pb, poff, none⟩) pn ca], .int .i64 (x : Int), .int .i64 (y : Int), .int .i64 4] w fun e w' => ∃ A cA B cB, e = .returned (.agg #[.slice A 8 cA, .slice B 4 cB, .int .i64 (coV l a x y), .bool false, .bool true]) ∧ NbTwo w' w.heap.size A cA B cB (tpL l a x y 4 8) (leL l a x y 4) ∧ Below w.heap.size w w' := by
  have hI : Ints w w.heap.size (some ⟨pb, poff, none⟩) l := ⟨by have := Nat.mul_le_mul ha hb; omega, .inr ⟨pb, poff, rfl, hpb, hc⟩⟩
  have IN := Lib.hid fun w h => impl_hasblock_any (a : Int) (b : Int) (some ⟨pb, poff, none⟩) ca l (x : Int) (y : Int) 4 w h
  rw [hin] at IN
  have hab : a * b ≤ 32 * 32 := Nat.mul_le_mul ha hb
  have RT := Lib.hid fun A cs w h => repeat_one A 128 8 cs (by decide) w h
  have RL := Lib.hid fun A cs w h => repeat_one A 128 4 cs (by decide) w h
  rw [show ((8 : Nat) : Int) = 8 from rfl] at RT
  rw [show ((4 : Nat) : Int) = 4 from rfl] at RL
  have eT : List.replicate 8 128 = tpL l a x y 4 8 := by rw [hyp, tpL_edge]
  rw [eT] at RT
  have BE := Lib.hid fun wr (h : Below w.heap.size w wr) => impl_beside_4 a b x y pb poff ca l hx hy ha hb hl hca wr (Nat.lt_of_lt_of_le hpb h.size) (fun j hj => (h.cell (p := ⟨pb, poff + j, none⟩) hpb).trans (hc j hj)) hxp
  have hco : coV l a x y = 128 := by rw [coV, if_neg (by omega)]
  rw [hco]
  clear hco
  have dx : decide (0 < (x : Int)) = true := by simp; omega
  have dy : decide (0 < (y : Int)) = false := by simp; omega
  have nx : 0 < x := by omega
  have ny : ¬ 0 < y := by omega
  have nx2 : decide (0 < x) = true := by simp; omega
  have ny2 : decide (0 < y) = false := by simp; omega
  have tl := tpL_len l a x y 4 8
  have ll := leL_len l a x y 4
  obtain ⟨TP, hTP⟩ : ∃ TP, TP = tpL l a x y 4 8 := ⟨_, rfl⟩
  obtain ⟨LP, hLP⟩ : ∃ LP, LP = leL l a x y 4 := ⟨_, rfl⟩
  rw [← hTP] at tl RT ⊢
  rw [← hLP] at ll BE ⊢
  rw [← hpn] at IN BE
  have hb2 := below_two w (.cells #[.int .i64 (a : Int), .int .i64 (b : Int), .slice (some ⟨pb, poff, none⟩) pn ca] 26) (.cells #[.slice none 0 0, .slice none 0 0, .int .i64 0, .bool false, .bool false] 38)
  obtain ⟨g0, g1⟩ := heap_two w (.cells #[.int .i64 (a : Int), .int .i64 (b : Int), .slice (some ⟨pb, poff, none⟩) pn ca] 26) (.cells #[.slice none 0 0, .slice none 0 0, .int .i64 0, .bool false, .bool false] 38)
  have I2 := Lib.hid ((hI.below hb2 (Nat.le_refl _)).mono hb2.size)
  have H0 := Lib.hid g0; have H1 := Lib.hid g1; have BX := Lib.hid hb2
  have HTL := Lib.hid tl; have HLL := Lib.hid ll; have HPB := Lib.hid hpb
  have SZ : Hid (w.heap.size + 1 + 1 ≤ ((w.alloc (.cells #[.int .i64 (a : Int), .int .i64 (b : Int), .slice (some ⟨pb, poff, none⟩) pn ca] 26)).alloc (.cells #[.slice none 0 0, .slice none 0 0, .int .i64 0, .bool false, .bool false] 38)).heap.size) := Lib.hid (by simp)
  clear hb2 g0 g1 hl hpn hin hI hc hab hTP hLP tl ll hca hpb hxp hyp eT
  go_enter Try.func22, Try.ntmps22
  go_wp2_with fail
  refine (IN.out _ I2.out).mono ?_
  rintro e w1 ⟨rfl, hb1⟩
  have H0 := Lib.hid (cell_kept H0.out hb1); have H1 := Lib.hid (cell_kept H1.out hb1)
  have BX := Lib.hid (below_up BX.out hb1 BX.out.size)
  have S1 : Hid (w.heap.size + 1 + 1 ≤ w1.heap.size) := Lib.hid (Nat.le_trans SZ.out hb1.size)
  have nb := below_new w1 (.cells #[.int .i64 128] 3)
  have IV : Hid (Ints (w1.alloc (.cells #[.int .i64 128] 3)) (w1.alloc (.cells #[.int .i64 128] 3)).heap.size (some ⟨w1.heap.size, 0, none⟩) [128]) := Lib.hid ((own_ints w1 w1.heap.size [128] (Nat.le_refl _) (by simp [maxLen])).ints (by simp))
  have H0 := Lib.hid (cell_kept H0.out nb); have H1 := Lib.hid (cell_kept H1.out nb)
  have BX := Lib.hid (below_up BX.out nb BX.out.size)
  have ZA := Lib.hid nb.size
  clear hb1 nb
  go_wp2_with fail
  refine (RT.out _ _ _ IV.out).mono ?_
  rintro e w2 ⟨A2, c2, rfl, ho2, hb2⟩
  have H0 := Lib.hid (cell_kept H0.out hb2); have H1 := Lib.hid (cell_kept H1.out hb2)
  have BX := Lib.hid (below_up BX.out hb2 BX.out.size)
  have S2 : Hid (w.heap.size + 1 + 1 ≤ w2.heap.size) := Lib.hid (Nat.le_trans S1.out (Nat.le_trans ZA.out hb2.size))
  have OT := Lib.hid (OwnI.low ho2 ZA.out)
  have TB := Lib.hid (OwnI.block ho2); have ZC := Lib.hid ZA.out
  have nb := below_new w2 (.cells #[.int .i64 128] 3)
  have IV : Hid (Ints (w2.alloc (.cells #[.int .i64 128] 3)) (w2.alloc (.cells #[.int .i64 128] 3)).heap.size (some ⟨w2.heap.size, 0, none⟩) [128]) := Lib.hid ((own_ints w2 w2.heap.size [128] (Nat.le_refl _) (by simp [maxLen])).ints (by simp))
  have H0 := Lib.hid (cell_kept H0.out nb); have H1 := Lib.hid (cell_kept H1.out nb); have OT := Lib.hid (own_still OT.out nb)
  have BX := Lib.hid (below_up BX.out nb BX.out.size)
  have ZA := Lib.hid nb.size
  clear hb2 nb ho2
  go_wp2_with fail
  refine (RL.out _ _ _ IV.out).mono ?_
  rintro e w3 ⟨A3, c3, rfl, ho3, hb3⟩
  have H0 := Lib.hid (cell_kept H0.out hb3); have H1 := Lib.hid (cell_kept H1.out hb3); have OT := Lib.hid (own_still OT.out hb3)
  have BX := Lib.hid (below_up BX.out hb3 BX.out.size)
  have S23 : Hid (w2.heap.size ≤ w3.heap.size) := Lib.hid (Nat.le_trans ZA.out hb3.size)
  have OL := Lib.hid (OwnI.low ho3 ZA.out)
  have LB := Lib.hid (OwnI.block ho3)
  have ZB := Lib.hid ZA.out
  have f0 := H0.out; have f1 := H1.out
  have lt0 := heap_lt f0; have lt1 := heap_lt f1
  obtain ⟨c0, c1, c2'⟩ := cells3 f0
  obtain ⟨y0, y1, y2, y3, y4⟩ := cells5 f1
  obtain ⟨z0, z1, z2, z3, z4⟩ := frozen5 f1
  have nb := below_new w3 (.cells #[.slice A2 8 c2, .slice A3 4 c3, .int .i64 128, .bool false, .bool true] 38)
  have HB := Lib.hid (heap_alloc_new w3 (.cells #[.slice A2 8 c2, .slice A3 4 c3, .int .i64 128, .bool false, .bool true] 38))
  have H0 := Lib.hid (cell_kept f0 nb); have H1 := Lib.hid (cell_kept f1 nb); have OT := Lib.hid (own_still OT.out nb); have OL := Lib.hid (own_still OL.out nb)
  have BX := Lib.hid (below_up BX.out nb BX.out.size)
  have S34 : Hid (w3.heap.size < (w3.alloc (.cells #[.slice A2 8 c2, .slice A3 4 c3, .int .i64 128, .bool false, .bool true] 38)).heap.size) := Lib.hid (by simp)
  clear f0 f1 nb hb3 ho3
  go_wp2_with fail
  refine (BE.out _ BX.out).mono ?_
  rintro e w7 ⟨A7, c7, rfl, ho7, hb7⟩
  have HB := Lib.hid (cell_kept HB.out hb7); have H0 := Lib.hid (cell_kept H0.out hb7); have H1 := Lib.hid (cell_kept H1.out hb7); have OT := Lib.hid (own_still OT.out hb7)
  have BX := Lib.hid (below_up BX.out hb7 BX.out.size)
  have S7 : Hid (w3.heap.size < w7.heap.size) := Lib.hid (Nat.lt_of_lt_of_le S34.out hb7.size)
  have OL := Lib.hid ho7
  have LB := Lib.hid (OwnI.block ho7)
  clear c0 c1 c2' y0 y1 y2 y3 y4 z0 z1 z2 z3 z4 lt0 lt1
  have lt2 := S7.out; have lt0 := heap_lt H0.out; have lt1 := heap_lt H1.out
  obtain ⟨x0, x1, x2, x3, x4⟩ := cells5 HB.out
  obtain ⟨v0, v1, v2, v3, v4⟩ := frozen5 HB.out
  have hk := heap_setCell_same w7 w3.heap.size 1 _ _ (.slice A7 4 c7) HB.out
  have gb := grown_cell w7 w3.heap.size 1 (.slice A7 4 c7)
  have HB : Hid ((w7.setCell ⟨w3.heap.size, 1, none⟩ (.slice A7 4 c7)).heap[w3.heap.size]? = some (.cells #[.slice A2 8 c2, .slice A7 4 c7, .int .i64 128, .bool false, .bool true] 38 (0, 0))) := Lib.hid hk
  have H0 := Lib.hid ((gb.block w.heap.size lt0 (by simp; have := S2.out; have := S23.out; omega)).trans H0.out)
  have H1 := Lib.hid ((gb.block (w.heap.size + 1) lt1 (by simp; have := S2.out; have := S23.out; omega)).trans H1.out)
  have OT := Lib.hid (own_off OT.out gb (fun k hk => by have := TB.out k hk; have := S23.out; have := S34.out; omega))
  have OL := Lib.hid (own_off OL.out gb (fun k hk => by have := LB.out k hk; have := S34.out; omega))
  have BX := Lib.hid (BX.out.grown gb BX.out.size fun j hj => by obtain rfl := Option.some.inj hj; have := S2.out; have := S23.out; omega)
  clear hk gb hb7 ho7 lt0 lt1

  obtain ⟨c0, c1, c2'⟩ := cells3 H0.out
  obtain ⟨y0, y1, y2, y3, y4⟩ := cells5 H1.out
  obtain ⟨z0, z1, z2, z3, z4⟩ := frozen5 H1.out
  obtain ⟨d0, d1, d2, d3, d4⟩ := cells5 HB.out
  have GB := Lib.hid (grown_five (w7.setCell ⟨w3.heap.size, 1, none⟩ (.slice A7 4 c7)) (w.heap.size + 1) (.slice A2 8 c2) (.slice A7 4 c7) (.int .i64 128) (.bool false) (.bool true))
  have HM := Lib.hid (cells5 (put_five H1.out (.slice A2 8 c2) (.slice A7 4 c7) (.int .i64 128) (.bool false) (.bool true)))
  go_wp2
  obtain ⟨m0, m1, m2, m3, m4⟩ := HM.out
  have hsz := S2.out; have h23 := S23.out
  have ot := own_off OT.out GB.out (fun k hk => by have := TB.out k hk; have := S1.out; have := ZC.out; omega)
  have ol := own_off OL.out GB.out (fun k hk => by have := LB.out k hk; have := S34.out; have := S34.out; omega)
  have bz := BX.out.grown GB.out BX.out.size fun k hk => by have := Option.some.inj hk; omega
  refine bodyPost_ret (v := .agg #[.slice A2 8 c2, .slice A7 4 c7, .int .i64 128, .bool false, .bool true]) (by simp [results, Try.results22, go_sem, m0, m1, m2, m3, m4]) rfl ⟨A2, c2, A7, c7, rfl, ⟨OwnI.low ot ?_, OwnI.low ol ?_, ?_⟩, bz⟩
  · have := S1.out; omega
  · have := S34.out; omega
  · intro k h1 h2; have t := TB.out k h1; have u := LB.out k h2; have := S34.out; omega
set_option maxRecDepth 100000 in
set_option maxHeartbeats 4000000 in
theorem impl_nbat_4_11 (a b x y : Nat) (pb poff pn ca : Nat) (l : List Int) (hpn : pn = l.length) (hin : inE (a : Int) (b : Int) l (x : Int) (y : Int) 4 = true) (hx : x + 4 ≤ a) (hy : y + 4 ≤ b) (ha : a ≤ 32) (hb : b ≤ 32) (hl : l.length = a * b) (hca : l.length ≤ ca) (hxp : 0 < x) (hyp : 0 < y) (w : World) (hpb : pb < w.heap.size) (hc : ∀ j, j < l.length → w.cell? ⟨pb, poff + j, none⟩ = some (.int .i64 (l.getD j 0))) :
    Calls Try.prog 22 #[.agg #[.int .i64 (a : Int), .int .i64 (b : Int), .slice (some ⟨pb, poff, none⟩) pn ca], .int .i64 (x : Int), .int .i64 (y : Int), .int .i64 4] w fun e w' => ∃ A cA B cB, e = .returned (.agg #[.slice A 8 cA, .slice B 4 cB, .int .i64 (coV l a x y), .bool true, .bool true]) ∧ NbTwo w' w.heap.size A cA B cB (tpL l a x y 4 8) (leL l a x y 4) ∧ Below w.heap.size w w' := by
  have hI : Ints w w.heap.size (some ⟨pb, poff, none⟩) l := ⟨by have := Nat.mul_le_mul ha hb; omega, .inr ⟨pb, poff, rfl, hpb, hc⟩⟩
  have IN := Lib.hid fun w h => impl_hasblock_any (a : Int) (b : Int) (some ⟨pb, poff, none⟩) ca l (x : Int) (y : Int) 4 w h
  rw [hin] at IN
  have hab : a * b ≤ 32 * 32 := Nat.mul_le_mul ha hb
  have RT := Lib.hid fun A cs w h => repeat_one A 128 8 cs (by decide) w h
  have RL := Lib.hid fun A cs w h => repeat_one A 128 4 cs (by decide) w h
  rw [show ((8 : Nat) : Int) = 8 from rfl] at RT
  rw [show ((4 : Nat) : Int) = 4 from rfl] at RL
  have AB := Lib.hid fun wr (h : Below w.heap.size w wr) => impl_above_4 a b x y pb poff ca l hx hy ha hb hl hca wr (Nat.lt_of_lt_of_le hpb h.size) (fun j hj => (h.cell (p := ⟨pb, poff + j, none⟩) hpb).trans (hc j hj)) hyp
  have BE := Lib.hid fun wr (h : Below w.heap.size w wr) => impl_beside_4 a b x y pb poff ca l hx hy ha hb hl hca wr (Nat.lt_of_lt_of_le hpb h.size) (fun j hj => (h.cell (p := ⟨pb, poff + j, none⟩) hpb).trans (hc j hj)) hxp
  have hya : (y - 1) * a + a ≤ l.length ∧ (y - 1) * a ≤ 1024 := by
    have h1 : (y - 1 + 1) * a ≤ b * a := Nat.mul_le_mul_right a (by omega)
    rw [Nat.mul_comm b a] at h1
    rw [Nat.add_mul, Nat.one_mul] at h1
    omega
  obtain ⟨q, hq⟩ : ∃ q, q = (y - 1) * a := ⟨_, rfl⟩
  rw [← hq] at hya
  have hyw : IntKind.i64.wrap ((y : Int) - 1) = (y : Int) - 1 := IntWalk.i64_in _ (by omega)
  have hqw : IntKind.i64.wrap (((y : Int) - 1) * (a : Int)) = (q : Int) := by
    rw [show ((y : Int) - 1) * (a : Int) = (q : Int) by rw [hq, Int.natCast_mul, show ((y - 1 : Nat) : Int) = (y : Int) - 1 by omega]]
    exact IntWalk.i64_in _ (by omega)
  have i1 : IntKind.i64.wrap ((q : Int) + (x : Int)) = (q : Int) + (x : Int) := IntWalk.i64_in _ (by omega)
  have i2 : IntKind.i64.wrap ((q : Int) + (x : Int) - 1) = (q : Int) + (x : Int) - 1 := IntWalk.i64_in _ (by omega)
  have i3 : (0 : Int) ≤ (q : Int) + (x : Int) - 1 := by omega
  have i4 : (q : Int) + (x : Int) - 1 < (pn : Int) := by omega
  have i5 : ((q : Int) + (x : Int) - 1).toNat = q + x - 1 := by omega
  obtain ⟨co, hco⟩ : ∃ co, co = coV l a x y := ⟨_, rfl⟩
  rw [← hco]
  have hcv : l.getD (q + x - 1) 0 = co := by rw [hco, coV, if_pos ⟨hxp, hyp⟩, hq]
  have CO : Hid (∀ wr, Below w.heap.size w wr → wr.cell? ⟨pb, poff + (q + x - 1), none⟩ = some (.int .i64 co)) := Lib.hid fun wr h => by rw [h.cell (p := ⟨pb, poff + (q + x - 1), none⟩) hpb, hc (q + x - 1) (by omega), hcv]
  clear hco hcv hq hya
  have dx : decide (0 < (x : Int)) = true := by simp; omega
  have dy : decide (0 < (y : Int)) = true := by simp; omega
  have nx : 0 < x := by omega
  have ny : 0 < y := by omega
  have nx2 : decide (0 < x) = true := by simp; omega
  have ny2 : decide (0 < y) = true := by simp; omega
  have tl := tpL_len l a x y 4 8
  have ll := leL_len l a x y 4
  obtain ⟨TP, hTP⟩ : ∃ TP, TP = tpL l a x y 4 8 := ⟨_, rfl⟩
  obtain ⟨LP, hLP⟩ : ∃ LP, LP = leL l a x y 4 := ⟨_, rfl⟩
  rw [← hTP] at tl AB ⊢
  rw [← hLP] at ll BE ⊢
  rw [← hpn] at IN AB BE
  have hb2 := below_two w (.cells #[.int .i64 (a : Int), .int .i64 (b : Int), .slice (some ⟨pb, poff, none⟩) pn ca] 26) (.cells #[.slice none 0 0, .slice none 0 0, .int .i64 0, .bool false, .bool false] 38)
  obtain ⟨g0, g1⟩ := heap_two w (.cells #[.int .i64 (a : Int), .int .i64 (b : Int), .slice (some ⟨pb, poff, none⟩) pn ca] 26) (.cells #[.slice none 0 0, .slice none 0 0, .int .i64 0, .bool false, .bool false] 38)
  have I2 := Lib.hid ((hI.below hb2 (Nat.le_refl _)).mono hb2.size)
  have H0 := Lib.hid g0; have H1 := Lib.hid g1; have BX := Lib.hid hb2
  have HTL := Lib.hid tl; have HLL := Lib.hid ll; have HPB := Lib.hid hpb
  have SZ : Hid (w.heap.size + 1 + 1 ≤ ((w.alloc (.cells #[.int .i64 (a : Int), .int .i64 (b : Int), .slice (some ⟨pb, poff, none⟩) pn ca] 26)).alloc (.cells #[.slice none 0 0, .slice none 0 0, .int .i64 0, .bool false, .bool false] 38)).heap.size) := Lib.hid (by simp)
  clear hb2 g0 g1 hl hpn hin hI hc hab hTP hLP tl ll hca hpb hxp hyp
  go_enter Try.func22, Try.ntmps22
  go_wp2_with fail
  refine (IN.out _ I2.out).mono ?_
  rintro e w1 ⟨rfl, hb1⟩
  have H0 := Lib.hid (cell_kept H0.out hb1); have H1 := Lib.hid (cell_kept H1.out hb1)
  have BX := Lib.hid (below_up BX.out hb1 BX.out.size)
  have S1 : Hid (w.heap.size + 1 + 1 ≤ w1.heap.size) := Lib.hid (Nat.le_trans SZ.out hb1.size)
  have nb := below_new w1 (.cells #[.int .i64 128] 3)
  have IV : Hid (Ints (w1.alloc (.cells #[.int .i64 128] 3)) (w1.alloc (.cells #[.int .i64 128] 3)).heap.size (some ⟨w1.heap.size, 0, none⟩) [128]) := Lib.hid ((own_ints w1 w1.heap.size [128] (Nat.le_refl _) (by simp [maxLen])).ints (by simp))
  have H0 := Lib.hid (cell_kept H0.out nb); have H1 := Lib.hid (cell_kept H1.out nb)
  have BX := Lib.hid (below_up BX.out nb BX.out.size)
  have ZA := Lib.hid nb.size
  clear hb1 nb
  go_wp2_with fail
  refine (RT.out _ _ _ IV.out).mono ?_
  rintro e w2 ⟨A2, c2, rfl, ho2, hb2⟩
  have H0 := Lib.hid (cell_kept H0.out hb2); have H1 := Lib.hid (cell_kept H1.out hb2)
  have BX := Lib.hid (below_up BX.out hb2 BX.out.size)
  have S2 : Hid (w.heap.size + 1 + 1 ≤ w2.heap.size) := Lib.hid (Nat.le_trans S1.out (Nat.le_trans ZA.out hb2.size))
  have OT := Lib.hid (OwnI.low ho2 ZA.out)
  have TB := Lib.hid (OwnI.block ho2); have ZC := Lib.hid ZA.out
  have nb := below_new w2 (.cells #[.int .i64 128] 3)
  have IV : Hid (Ints (w2.alloc (.cells #[.int .i64 128] 3)) (w2.alloc (.cells #[.int .i64 128] 3)).heap.size (some ⟨w2.heap.size, 0, none⟩) [128]) := Lib.hid ((own_ints w2 w2.heap.size [128] (Nat.le_refl _) (by simp [maxLen])).ints (by simp))
  have H0 := Lib.hid (cell_kept H0.out nb); have H1 := Lib.hid (cell_kept H1.out nb); have OT := Lib.hid (own_still OT.out nb)
  have BX := Lib.hid (below_up BX.out nb BX.out.size)
  have ZA := Lib.hid nb.size
  clear hb2 nb ho2
  go_wp2_with fail
  refine (RL.out _ _ _ IV.out).mono ?_
  rintro e w3 ⟨A3, c3, rfl, ho3, hb3⟩
  have H0 := Lib.hid (cell_kept H0.out hb3); have H1 := Lib.hid (cell_kept H1.out hb3); have OT := Lib.hid (own_still OT.out hb3)
  have BX := Lib.hid (below_up BX.out hb3 BX.out.size)
  have S23 : Hid (w2.heap.size ≤ w3.heap.size) := Lib.hid (Nat.le_trans ZA.out hb3.size)
  have OL := Lib.hid (OwnI.low ho3 ZA.out)
  have LB := Lib.hid (OwnI.block ho3)
  have ZB := Lib.hid ZA.out
  have f0 := H0.out; have f1 := H1.out
  have lt0 := heap_lt f0; have lt1 := heap_lt f1
  obtain ⟨c0, c1, c2'⟩ := cells3 f0
  obtain ⟨y0, y1, y2, y3, y4⟩ := cells5 f1
  obtain ⟨z0, z1, z2, z3, z4⟩ := frozen5 f1
  have nb := below_new w3 (.cells #[.slice A2 8 c2, .slice A3 4 c3, .int .i64 128, .bool true, .bool true] 38)
  have HB := Lib.hid (heap_alloc_new w3 (.cells #[.slice A2 8 c2, .slice A3 4 c3, .int .i64 128, .bool true, .bool true] 38))
  have H0 := Lib.hid (cell_kept f0 nb); have H1 := Lib.hid (cell_kept f1 nb); have OT := Lib.hid (own_still OT.out nb); have OL := Lib.hid (own_still OL.out nb)
  have BX := Lib.hid (below_up BX.out nb BX.out.size)
  have S34 : Hid (w3.heap.size < (w3.alloc (.cells #[.slice A2 8 c2, .slice A3 4 c3, .int .i64 128, .bool true, .bool true] 38)).heap.size) := Lib.hid (by simp)
  clear f0 f1 nb hb3 ho3
  go_wp2_with fail
  refine (AB.out _ BX.out).mono ?_
  rintro e w5 ⟨A5, c5, rfl, ho5, hb5⟩
  have HB := Lib.hid (cell_kept HB.out hb5); have H0 := Lib.hid (cell_kept H0.out hb5); have H1 := Lib.hid (cell_kept H1.out hb5); have OL := Lib.hid (own_still OL.out hb5)
  have BX := Lib.hid (below_up BX.out hb5 BX.out.size)
  have S5 : Hid (w3.heap.size < w5.heap.size) := Lib.hid (Nat.lt_of_lt_of_le S34.out hb5.size)
  have OT := Lib.hid ho5
  have TB := Lib.hid (OwnI.block ho5)
  clear c0 c1 c2' y0 y1 y2 y3 y4 z0 z1 z2 z3 z4 lt0 lt1
  have lt2 := S5.out; have lt0 := heap_lt H0.out; have lt1 := heap_lt H1.out
  obtain ⟨x0, x1, x2, x3, x4⟩ := cells5 HB.out
  obtain ⟨v0, v1, v2, v3, v4⟩ := frozen5 HB.out
  have hk := heap_setCell_same w5 w3.heap.size 0 _ _ (.slice A5 8 c5) HB.out
  have gb := grown_cell w5 w3.heap.size 0 (.slice A5 8 c5)
  have HB : Hid ((w5.setCell ⟨w3.heap.size, 0, none⟩ (.slice A5 8 c5)).heap[w3.heap.size]? = some (.cells #[.slice A5 8 c5, .slice A3 4 c3, .int .i64 128, .bool true, .bool true] 38 (0, 0))) := Lib.hid hk
  have H0 := Lib.hid ((gb.block w.heap.size lt0 (by simp; have := S2.out; have := S23.out; omega)).trans H0.out)
  have H1 := Lib.hid ((gb.block (w.heap.size + 1) lt1 (by simp; have := S2.out; have := S23.out; omega)).trans H1.out)
  have OT := Lib.hid (own_off OT.out gb (fun k hk => by have := TB.out k hk; have := S34.out; omega))
  have OL := Lib.hid (own_off OL.out gb (fun k hk => by have := LB.out k hk; omega))
  have BX := Lib.hid (BX.out.grown gb BX.out.size fun j hj => by obtain rfl := Option.some.inj hj; have := S2.out; have := S23.out; omega)
  have S5 : Hid (w3.heap.size < (w5.setCell ⟨w3.heap.size, 0, none⟩ (.slice A5 8 c5)).heap.size) := Lib.hid (Nat.lt_of_lt_of_le S5.out gb.size)
  have ZT : Hid (w5.heap.size ≤ (w5.setCell ⟨w3.heap.size, 0, none⟩ (.slice A5 8 c5)).heap.size) := Lib.hid gb.size
  clear hk gb hb5 ho5 lt0 lt1

  obtain ⟨c0, c1, c2'⟩ := cells3 H0.out
  obtain ⟨y0, y1, y2, y3, y4⟩ := cells5 H1.out
  obtain ⟨z0, z1, z2, z3, z4⟩ := frozen5 H1.out
  obtain ⟨d0, d1, d2, d3, d4⟩ := cells5 HB.out
  go_wp2_with fail
  refine (BE.out _ BX.out).mono ?_
  rintro e w7 ⟨A7, c7, rfl, ho7, hb7⟩
  have HB := Lib.hid (cell_kept HB.out hb7); have H0 := Lib.hid (cell_kept H0.out hb7); have H1 := Lib.hid (cell_kept H1.out hb7); have OT := Lib.hid (own_still OT.out hb7)
  have BX := Lib.hid (below_up BX.out hb7 BX.out.size)
  have S7 : Hid (w3.heap.size < w7.heap.size) := Lib.hid (Nat.lt_of_lt_of_le S5.out hb7.size)
  have OL := Lib.hid ho7
  have LB := Lib.hid (OwnI.block ho7)
  clear c0 c1 c2' y0 y1 y2 y3 y4 z0 z1 z2 z3 z4 d0 d1 d2 d3 d4 x0 x1 x2 x3 x4 v0 v1 v2 v3 v4 lt2
  have lt2 := S7.out; have lt0 := heap_lt H0.out; have lt1 := heap_lt H1.out
  obtain ⟨x0, x1, x2, x3, x4⟩ := cells5 HB.out
  obtain ⟨v0, v1, v2, v3, v4⟩ := frozen5 HB.out
  have hk := heap_setCell_same w7 w3.heap.size 1 _ _ (.slice A7 4 c7) HB.out
  have gb := grown_cell w7 w3.heap.size 1 (.slice A7 4 c7)
  have HB : Hid ((w7.setCell ⟨w3.heap.size, 1, none⟩ (.slice A7 4 c7)).heap[w3.heap.size]? = some (.cells #[.slice A5 8 c5, .slice A7 4 c7, .int .i64 128, .bool true, .bool true] 38 (0, 0))) := Lib.hid hk
  have H0 := Lib.hid ((gb.block w.heap.size lt0 (by simp; have := S2.out; have := S23.out; omega)).trans H0.out)
  have H1 := Lib.hid ((gb.block (w.heap.size + 1) lt1 (by simp; have := S2.out; have := S23.out; omega)).trans H1.out)
  have OT := Lib.hid (own_off OT.out gb (fun k hk => by have := TB.out k hk; have := S23.out; have := S34.out; omega))
  have OL := Lib.hid (own_off OL.out gb (fun k hk => by have := LB.out k hk; have := S5.out; omega))
  have BX := Lib.hid (BX.out.grown gb BX.out.size fun j hj => by obtain rfl := Option.some.inj hj; have := S2.out; have := S23.out; omega)
  clear hk gb hb7 ho7 lt0 lt1

  obtain ⟨c0, c1, c2'⟩ := cells3 H0.out
  obtain ⟨y0, y1, y2, y3, y4⟩ := cells5 H1.out
  obtain ⟨z0, z1, z2, z3, z4⟩ := frozen5 H1.out
  obtain ⟨d0, d1, d2, d3, d4⟩ := cells5 HB.out
  have cc := CO.out _ BX.out
  obtain ⟨u0, u1, u2, u3, u4⟩ := frozen5 HB.out
  have gb := grown_cell (w7.setCell ⟨w3.heap.size, 1, none⟩ (.slice A7 4 c7)) w3.heap.size 2 (.int .i64 co)
  have hk := heap_setCell_same (w7.setCell ⟨w3.heap.size, 1, none⟩ (.slice A7 4 c7)) w3.heap.size 2 _ _ (.int .i64 co) HB.out
  have HB : Hid (((w7.setCell ⟨w3.heap.size, 1, none⟩ (.slice A7 4 c7)).setCell ⟨w3.heap.size, 2, none⟩ (.int .i64 co)).heap[w3.heap.size]? = some (.cells #[.slice A5 8 c5, .slice A7 4 c7, .int .i64 co, .bool true, .bool true] 38 (0, 0))) := Lib.hid hk
  have H1 := Lib.hid ((gb.block (w.heap.size + 1) (heap_lt H1.out) (by simp; have := S2.out; have := S23.out; omega)).trans H1.out)
  have OT := Lib.hid (own_off OT.out gb (fun k hk => by have := TB.out k hk; have := S34.out; omega))
  have OL := Lib.hid (own_off OL.out gb (fun k hk => by have := LB.out k hk; have := S5.out; omega))
  have BX := Lib.hid (BX.out.grown gb BX.out.size fun j hj => by obtain rfl := Option.some.inj hj; have := S2.out; have := S23.out; omega)
  obtain ⟨y0', y1', y2', y3', y4'⟩ := cells5 H1.out
  obtain ⟨z0', z1', z2', z3', z4'⟩ := frozen5 H1.out
  obtain ⟨d0', d1', d2', d3', d4'⟩ := cells5 HB.out
  clear gb hk
  have GB := Lib.hid (grown_five ((w7.setCell ⟨w3.heap.size, 1, none⟩ (.slice A7 4 c7)).setCell ⟨w3.heap.size, 2, none⟩ (.int .i64 co)) (w.heap.size + 1) (.slice A5 8 c5) (.slice A7 4 c7) (.int .i64 co) (.bool true) (.bool true))
  have HM := Lib.hid (cells5 (put_five H1.out (.slice A5 8 c5) (.slice A7 4 c7) (.int .i64 co) (.bool true) (.bool true)))
  go_wp2
  obtain ⟨m0, m1, m2, m3, m4⟩ := HM.out
  have hsz := S2.out; have h23 := S23.out
  have ot := own_off OT.out GB.out (fun k hk => by have := TB.out k hk; have := S34.out; omega)
  have ol := own_off OL.out GB.out (fun k hk => by have := LB.out k hk; have := S34.out; have := S5.out; omega)
  have bz := BX.out.grown GB.out BX.out.size fun k hk => by have := Option.some.inj hk; omega
  refine bodyPost_ret (v := .agg #[.slice A5 8 c5, .slice A7 4 c7, .int .i64 co, .bool true, .bool true]) (by simp [results, Try.results22, go_sem, m0, m1, m2, m3, m4]) rfl ⟨A5, c5, A7, c7, rfl, ⟨OwnI.low ot ?_, OwnI.low ol ?_, ?_⟩, bz⟩
  · have := S34.out; omega
  · have := S5.out; omega
  · intro k h1 h2; have t := TB.out k h1; have u := LB.out k h2; have := ZT.out; omega
set_option maxRecDepth 100000 in
set_option maxHeartbeats 4000000 in
theorem impl_nbat_8_00 (a b x y : Nat) (pb poff pn ca : Nat) (l : List Int) (hpn : pn = l.length) (hin : inE (a : Int) (b : Int) l (x : Int) (y : Int) 8 = true) (hx : x + 8 ≤ a) (hy : y + 8 ≤ b) (ha : a ≤ 32) (hb : b ≤ 32) (hl : l.length = a * b) (hca : l.length ≤ ca) (hxp : x = 0) (hyp : y = 0) (w : World) (hpb : pb < w.heap.size) (hc : ∀ j, j < l.length → w.cell? ⟨pb, poff + j, none⟩ = some (.int .i64 (l.getD j 0))) :
    Calls Try.prog 22 #[.agg #[.int .i64 (a : Int), .int .i64 (b : Int), .slice (some ⟨pb, poff, none⟩) pn ca], .int .i64 (x : Int), .int .i64 (y : Int), .int .i64 8] w fun e w' => ∃ A cA B cB, e = .returned (.agg #[.slice A 16 cA, .slice B 8 cB, .int .i64 (coV l a x y), .bool false, .bool false]) ∧ NbTwo w' w.heap.size A cA B cB (tpL l a x y 8 16) (leL l a x y 8) ∧ Below w.heap.size w w' := by
  have hI : Ints w w.heap.size (some ⟨pb, poff, none⟩) l := ⟨by have := Nat.mul_le_mul ha hb; omega, .inr ⟨pb, poff, rfl, hpb, hc⟩⟩
  have IN := Lib.hid fun w h => impl_hasblock_any (a : Int) (b : Int) (some ⟨pb, poff, none⟩) ca l (x : Int) (y : Int) 8 w h
  rw [hin] at IN
  have hab : a * b ≤ 32 * 32 := Nat.mul_le_mul ha hb
  have RT := Lib.hid fun A cs w h => repeat_one A 128 16 cs (by decide) w h
  have RL := Lib.hid fun A cs w h => repeat_one A 128 8 cs (by decide) w h
  rw [show ((16 : Nat) : Int) = 16 from rfl] at RT
  rw [show ((8 : Nat) : Int) = 8 from rfl] at RL
  have eT : List.replicate 16 128 = tpL l a x y 8 16 := by rw [hyp, tpL_edge]
  rw [eT] at RT
  have eL : List.replicate 8 128 = leL l a x y 8 := by rw [hxp, leL_edge]
  rw [eL] at RL
  have hco : coV l a x y = 128 := by rw [coV, if_neg (by omega)]
  rw [hco]
  clear hco
  have dx : decide (0 < (x : Int)) = false := by simp; omega
  have dy : decide (0 < (y : Int)) = false := by simp; omega
  have nx : ¬ 0 < x := by omega
  have ny : ¬ 0 < y := by omega
  have nx2 : decide (0 < x) = false := by simp; omega
  have ny2 : decide (0 < y) = false := by simp; omega
  have tl := tpL_len l a x y 8 16
  have ll := leL_len l a x y 8
  obtain ⟨TP, hTP⟩ : ∃ TP, TP = tpL l a x y 8 16 := ⟨_, rfl⟩
  obtain ⟨LP, hLP⟩ : ∃ LP, LP = leL l a x y 8 := ⟨_, rfl⟩
  rw [← hTP] at tl RT ⊢
  rw [← hLP] at ll RL ⊢
  rw [← hpn] at IN
  have hb2 := below_two w (.cells #[.int .i64 (a : Int), .int .i64 (b : Int), .slice (some ⟨pb, poff, none⟩) pn ca] 26) (.cells #[.slice none 0 0, .slice none 0 0, .int .i64 0, .bool false, .bool false] 38)
  obtain ⟨g0, g1⟩ := heap_two w (.cells #[.int .i64 (a : Int), .int .i64 (b : Int), .slice (some ⟨pb, poff, none⟩) pn ca] 26) (.cells #[.slice none 0 0, .slice none 0 0, .int .i64 0, .bool false, .bool false] 38)
  have I2 := Lib.hid ((hI.below hb2 (Nat.le_refl _)).mono hb2.size)
  have H0 := Lib.hid g0; have H1 := Lib.hid g1; have BX := Lib.hid hb2
  have HTL := Lib.hid tl; have HLL := Lib.hid ll; have HPB := Lib.hid hpb
  have SZ : Hid (w.heap.size + 1 + 1 ≤ ((w.alloc (.cells #[.int .i64 (a : Int), .int .i64 (b : Int), .slice (some ⟨pb, poff, none⟩) pn ca] 26)).alloc (.cells #[.slice none 0 0, .slice none 0 0, .int .i64 0, .bool false, .bool false] 38)).heap.size) := Lib.hid (by simp)
  clear hb2 g0 g1 hl hpn hin hI hc hab hTP hLP tl ll hca hpb hxp hyp eT eL
  go_enter Try.func22, Try.ntmps22
  go_wp2_with fail
  refine (IN.out _ I2.out).mono ?_
  rintro e w1 ⟨rfl, hb1⟩
  have H0 := Lib.hid (cell_kept H0.out hb1); have H1 := Lib.hid (cell_kept H1.out hb1)
  have BX := Lib.hid (below_up BX.out hb1 BX.out.size)
  have S1 : Hid (w.heap.size + 1 + 1 ≤ w1.heap.size) := Lib.hid (Nat.le_trans SZ.out hb1.size)
  have nb := below_new w1 (.cells #[.int .i64 128] 3)
  have IV : Hid (Ints (w1.alloc (.cells #[.int .i64 128] 3)) (w1.alloc (.cells #[.int .i64 128] 3)).heap.size (some ⟨w1.heap.size, 0, none⟩) [128]) := Lib.hid ((own_ints w1 w1.heap.size [128] (Nat.le_refl _) (by simp [maxLen])).ints (by simp))
  have H0 := Lib.hid (cell_kept H0.out nb); have H1 := Lib.hid (cell_kept H1.out nb)
  have BX := Lib.hid (below_up BX.out nb BX.out.size)
  have ZA := Lib.hid nb.size
  clear hb1 nb
  go_wp2_with fail
  refine (RT.out _ _ _ IV.out).mono ?_
  rintro e w2 ⟨A2, c2, rfl, ho2, hb2⟩
  have H0 := Lib.hid (cell_kept H0.out hb2); have H1 := Lib.hid (cell_kept H1.out hb2)
  have BX := Lib.hid (below_up BX.out hb2 BX.out.size)
  have S2 : Hid (w.heap.size + 1 + 1 ≤ w2.heap.size) := Lib.hid (Nat.le_trans S1.out (Nat.le_trans ZA.out hb2.size))
  have OT := Lib.hid (OwnI.low ho2 ZA.out)
  have TB := Lib.hid (OwnI.block ho2); have ZC := Lib.hid ZA.out
  have nb := below_new w2 (.cells #[.int .i64 128] 3)
  have IV : Hid (Ints (w2.alloc (.cells #[.int .i64 128] 3)) (w2.alloc (.cells #[.int .i64 128] 3)).heap.size (some ⟨w2.heap.size, 0, none⟩) [128]) := Lib.hid ((own_ints w2 w2.heap.size [128] (Nat.le_refl _) (by simp [maxLen])).ints (by simp))
  have H0 := Lib.hid (cell_kept H0.out nb); have H1 := Lib.hid (cell_kept H1.out nb); have OT := Lib.hid (own_still OT.out nb)
  have BX := Lib.hid (below_up BX.out nb BX.out.size)
  have ZA := Lib.hid nb.size
  clear hb2 nb ho2
  go_wp2_with fail
  refine (RL.out _ _ _ IV.out).mono ?_
  rintro e w3 ⟨A3, c3, rfl, ho3, hb3⟩
  have H0 := Lib.hid (cell_kept H0.out hb3); have H1 := Lib.hid (cell_kept H1.out hb3); have OT := Lib.hid (own_still OT.out hb3)
  have BX := Lib.hid (below_up BX.out hb3 BX.out.size)
  have S23 : Hid (w2.heap.size ≤ w3.heap.size) := Lib.hid (Nat.le_trans ZA.out hb3.size)
  have OL := Lib.hid (OwnI.low ho3 ZA.out)
  have LB := Lib.hid (OwnI.block ho3)
  have ZB := Lib.hid ZA.out
  have f0 := H0.out; have f1 := H1.out
  have lt0 := heap_lt f0; have lt1 := heap_lt f1
  obtain ⟨c0, c1, c2'⟩ := cells3 f0
  obtain ⟨y0, y1, y2, y3, y4⟩ := cells5 f1
  obtain ⟨z0, z1, z2, z3, z4⟩ := frozen5 f1
  have gb := grown_five w3 (w.heap.size + 1) (.slice A2 16 c2) (.slice A3 8 c3) (.int .i64 128) (.bool false) (.bool false)
  have hp := put_five f1 (.slice A2 16 c2) (.slice A3 8 c3) (.int .i64 128) (.bool false) (.bool false)
  have nb := below_new (((((w3.setCell ⟨w.heap.size + 1, 0, none⟩ (.slice A2 16 c2)).setCell ⟨w.heap.size + 1, 1, none⟩ (.slice A3 8 c3)).setCell ⟨w.heap.size + 1, 2, none⟩ (.int .i64 128)).setCell ⟨w.heap.size + 1, 3, none⟩ (.bool false)).setCell ⟨w.heap.size + 1, 4, none⟩ (.bool false)) (.cells #[.slice A2 16 c2, .slice A3 8 c3, .int .i64 128, .bool false, .bool false] 38)
  have HM := Lib.hid (cells5 (cell_kept hp nb))
  have ot := own_still (own_off OT.out gb (fun k hk => by have := TB.out k hk; have := S1.out; have := ZC.out; omega)) nb
  have ol := own_still (own_off OL.out gb (fun k hk => by have := LB.out k hk; have := ZB.out; have := S2.out; omega)) nb
  have b0 := BX.out.grown gb BX.out.size fun k hk => by have := Option.some.inj hk; omega
  have bz := below_up b0 nb b0.size
  have HOT := Lib.hid ot; have HOL := Lib.hid ol; have HBZ := Lib.hid bz
  clear f0 f1 gb hp nb ot ol b0 bz hb3 ho3
  go_wp2
  obtain ⟨m0, m1, m2, m3, m4⟩ := HM.out
  have hsz := S2.out; have h23 := S23.out
  refine bodyPost_ret (v := .agg #[.slice A2 16 c2, .slice A3 8 c3, .int .i64 128, .bool false, .bool false]) (by simp [results, Try.results22, go_sem, m0, m1, m2, m3, m4]) rfl ⟨A2, c2, A3, c3, rfl, ⟨OwnI.low HOT.out ?_, OwnI.low HOL.out ?_, ?_⟩, HBZ.out⟩
  · have := S1.out; omega
  · omega
  · intro k h1 h2; have t := TB.out k h1; have u := LB.out k h2; have := ZB.out; omega
set_option maxRecDepth 100000 in
set_option maxHeartbeats 4000000 in
theorem impl_nbat_8_01 (a b x y : Nat) (pb poff pn ca : Nat) (l : List Int) (hpn : pn = l.length) (hin : inE (a : Int) (b : Int) l (x : Int) (y : Int) 8 = true) (hx : x + 8 ≤ a) (hy : y + 8 ≤ b) (ha : a ≤ 32) (hb : b ≤ 32) (hl : l.length = a * b) (hca : l.length ≤ ca) (hxp : x = 0) (hyp : 0 < y) (w : World) (hpb : pb < w.heap.size) (hc : ∀ j, j < l.length → w.cell? ⟨pb, poff + j, none⟩ = some (.int .i64 (l.getD j 0))) :
    Calls Try.prog 22 #[.agg #[.int .i64 (a : Int), .int .i64 (b : Int), .slice (some ⟨pb, poff, none⟩) pn ca], .int .i64 (x : Int), .int .i64 (y : Int), .int .i64 8] w fun e w' => ∃ A cA B cB, e = .returned (.agg #[.slice A 16 cA, .slice B 8 cB, .int .i64 (coV l a x y), .bool true, .bool false]) ∧ NbTwo w' w.heap.size A cA B cB (tpL l a x y 8 16) (leL l a x y 8) ∧ Below w.heap.size w w' := by
  have hI : Ints w w.heap.size (some ⟨pb, poff, none⟩) l := ⟨by have := Nat.mul_le_mul ha hb; omega, .inr ⟨pb, poff, rfl, hpb, hc⟩⟩
  have IN := Lib.hid fun w h => impl_hasblock_any (a : Int) (b : Int) (some ⟨pb, poff, none⟩) ca l (x : Int) (y : Int) 8 w h
  rw [hin] at IN
  have hab : a * b ≤ 32 * 32 := Nat.mul_le_mul ha hb
  have RT := Lib.hid fun A cs w h => repeat_one A 128 16 cs (by decide) w h
  have RL := Lib.hid fun A cs w h => repeat_one A 128 8 cs (by decide) w h
  rw [show ((16 : Nat) : Int) = 16 from rfl] at RT
  rw [show ((8 : Nat) : Int) = 8 from rfl] at RL
  have AB := Lib.hid fun wr (h : Below w.heap.size w wr) => impl_above_8 a b x y pb poff ca l hx hy ha hb hl hca wr (Nat.lt_of_lt_of_le hpb h.size) (fun j hj => (h.cell (p := ⟨pb, poff + j, none⟩) hpb).trans (hc j hj)) hyp
  have eL : List.replicate 8 128 = leL l a x y 8 := by rw [hxp, leL_edge]
  rw [eL] at RL
  have hco : coV l a x y = 128 := by rw [coV, if_neg (by omega)]
  rw [hco]
  clear hco
  have dx : decide (0 < (x : Int)) = false := by simp; omega
  have dy : decide (0 < (y : Int)) = true := by simp; omega
  have nx : ¬ 0 < x := by omega
  have ny : 0 < y := by omega
  have nx2 : decide (0 < x) = false := by simp; omega
  have ny2 : decide (0 < y) = true := by simp; omega
  have tl := tpL_len l a x y 8 16
  have ll := leL_len l a x y 8
  obtain ⟨TP, hTP⟩ : ∃ TP, TP = tpL l a x y 8 16 := ⟨_, rfl⟩
  obtain ⟨LP, hLP⟩ : ∃ LP, LP = leL l a x y 8 := ⟨_, rfl⟩
  rw [← hTP] at tl AB ⊢
  rw [← hLP] at ll RL ⊢
  rw [← hpn] at IN AB
  have hb2 := below_two w (.cells #[.int .i64 (a : Int), .int .i64 (b : Int), .slice (some ⟨pb, poff, none⟩) pn ca] 26) (.cells #[.slice none 0 0, .slice none 0 0, .int .i64 0, .bool false, .bool false] 38)
  obtain ⟨g0, g1⟩ := heap_two w (.cells #[.int .i64 (a : Int), .int .i64 (b : Int), .slice (some ⟨pb, poff, none⟩) pn ca] 26) (.cells #[.slice none 0 0, .slice none 0 0, .int .i64 0, .bool false, .bool false] 38)
  have I2 := Lib.hid ((hI.below hb2 (Nat.le_refl _)).mono hb2.size)
  have H0 := Lib.hid g0; have H1 := Lib.hid g1; have BX := Lib.hid hb2
  have HTL := Lib.hid tl; have HLL := Lib.hid ll; have HPB := Lib.hid hpb
  have SZ : Hid (w.heap.size + 1 + 1 ≤ ((w.alloc (.cells #[.int .i64 (a : Int), .int .i64 (b : Int), .slice (some ⟨pb, poff, none⟩) pn ca] 26)).alloc (.cells #[.slice none 0 0, .slice none 0 0, .int .i64 0, .bool false, .bool false] 38)).heap.size) := Lib.hid (by simp)
  clear hb2 g0 g1 hl hpn hin hI hc hab hTP hLP tl ll hca hpb hxp hyp eL
  go_enter Try.func22, Try.ntmps22
  go_wp2_with fail
  refine (IN.out _ I2.out).mono ?_
  rintro e w1 ⟨rfl, hb1⟩
  have H0 := Lib.hid (cell_kept H0.out hb1); have H1 := Lib.hid (cell_kept H1.out hb1)
  have BX := Lib.hid (below_up BX.out hb1 BX.out.size)
  have S1 : Hid (w.heap.size + 1 + 1 ≤ w1.heap.size) := Lib.hid (Nat.le_trans SZ.out hb1.size)
  have nb := below_new w1 (.cells #[.int .i64 128] 3)
  have IV : Hid (Ints (w1.alloc (.cells #[.int .i64 128] 3)) (w1.alloc (.cells #[.int .i64 128] 3)).heap.size (some ⟨w1.heap.size, 0, none⟩) [128]) := Lib.hid ((own_ints w1 w1.heap.size [128] (Nat.le_refl _) (by simp [maxLen])).ints (by simp))
  have H0 := Lib.hid (cell_kept H0.out nb); have H1 := Lib.hid (cell_kept H1.out nb)
  have BX := Lib.hid (below_up BX.out nb BX.out.size)
  have ZA := Lib.hid nb.size
  clear hb1 nb
  go_wp2_with fail
  refine (RT.out _ _ _ IV.out).mono ?_
  rintro e w2 ⟨A2, c2, rfl, ho2, hb2⟩
  have H0 := Lib.hid (cell_kept H0.out hb2); have H1 := Lib.hid (cell_kept H1.out hb2)
  have BX := Lib.hid (below_up BX.out hb2 BX.out.size)
  have S2 : Hid (w.heap.size + 1 + 1 ≤ w2.heap.size) := Lib.hid (Nat.le_trans S1.out (Nat.le_trans ZA.out hb2.size))
  have OT := Lib.hid (OwnI.low ho2 ZA.out)
  have TB := Lib.hid (OwnI.block ho2); have ZC := Lib.hid ZA.out
  have nb := below_new w2 (.cells #[.int .i64 128] 3)
  have IV : Hid (Ints (w2.alloc (.cells #[.int .i64 128] 3)) (w2.alloc (.cells #[.int .i64 128] 3)).heap.size (some ⟨w2.heap.size, 0, none⟩) [128]) := Lib.hid ((own_ints w2 w2.heap.size [128] (Nat.le_refl _) (by simp [maxLen])).ints (by simp))
  have H0 := Lib.hid (cell_kept H0.out nb); have H1 := Lib.hid (cell_kept H1.out nb); have OT := Lib.hid (own_still OT.out nb)
  have BX := Lib.hid (below_up BX.out nb BX.out.size)
  have ZA := Lib.hid nb.size
  clear hb2 nb ho2
  go_wp2_with fail
  refine (RL.out _ _ _ IV.out).mono ?_
  rintro e w3 ⟨A3, c3, rfl, ho3, hb3⟩
  have H0 := Lib.hid (cell_kept H0.out hb3); have H1 := Lib.hid (cell_kept H1.out hb3); have OT := Lib.hid (own_still OT.out hb3)
  have BX := Lib.hid (below_up BX.out hb3 BX.out.size)
  have S23 : Hid (w2.heap.size ≤ w3.heap.size) := Lib.hid (Nat.le_trans ZA.out hb3.size)
  have OL := Lib.hid (OwnI.low ho3 ZA.out)
  have LB := Lib.hid (OwnI.block ho3)
  have ZB := Lib.hid ZA.out
  have f0 := H0.out; have f1 := H1.out
  have lt0 := heap_lt f0; have lt1 := heap_lt f1
  obtain ⟨c0, c1, c2'⟩ := cells3 f0
  obtain ⟨y0, y1, y2, y3, y4⟩ := cells5 f1
  obtain ⟨z0, z1, z2, z3, z4⟩ := frozen5 f1
  have nb := below_new w3 (.cells #[.slice A2 16 c2, .slice A3 8 c3, .int .i64 128, .bool true, .bool false] 38)
  have HB := Lib.hid (heap_alloc_new w3 (.cells #[.slice A2 16 c2, .slice A3 8 c3, .int .i64 128, .bool true, .bool false] 38))
  have H0 := Lib.hid (cell_kept f0 nb); have H1 := Lib.hid (cell_kept f1 nb); have OT := Lib.hid (own_still OT.out nb); have OL := Lib.hid (own_still OL.out nb)
  have BX := Lib.hid (below_up BX.out nb BX.out.size)
  have S34 : Hid (w3.heap.size < (w3.alloc (.cells #[.slice A2 16 c2, .slice A3 8 c3, .int .i64 128, .bool true, .bool false] 38)).heap.size) := Lib.hid (by simp)
  clear f0 f1 nb hb3 ho3
  go_wp2_with fail
  refine (AB.out _ BX.out).mono ?_
  rintro e w5 ⟨A5, c5, rfl, ho5, hb5⟩
  have HB := Lib.hid (cell_kept HB.out hb5); have H0 := Lib.hid (cell_kept H0.out hb5); have H1 := Lib.hid (cell_kept H1.out hb5); have OL := Lib.hid (own_still OL.out hb5)
  have BX := Lib.hid (below_up BX.out hb5 BX.out.size)
  have S5 : Hid (w3.heap.size < w5.heap.size) := Lib.hid (Nat.lt_of_lt_of_le S34.out hb5.size)
  have OT := Lib.hid ho5
  have TB := Lib.hid (OwnI.block ho5)
  clear c0 c1 c2' y0 y1 y2 y3 y4 z0 z1 z2 z3 z4 lt0 lt1
  have lt2 := S5.out; have lt0 := heap_lt H0.out; have lt1 := heap_lt H1.out
  obtain ⟨x0, x1, x2, x3, x4⟩ := cells5 HB.out
  obtain ⟨v0, v1, v2, v3, v4⟩ := frozen5 HB.out
  have hk := heap_setCell_same w5 w3.heap.size 0 _ _ (.slice A5 16 c5) HB.out
  have gb := grown_cell w5 w3.heap.size 0 (.slice A5 16 c5)
  have HB : Hid ((w5.setCell ⟨w3.heap.size, 0, none⟩ (.slice A5 16 c5)).heap[w3.heap.size]? = some (.cells #[.slice A5 16 c5, .slice A3 8 c3, .int .i64 128, .bool true, .bool false] 38 (0, 0))) := Lib.hid hk
  have H0 := Lib.hid ((gb.block w.heap.size lt0 (by simp; have := S2.out; have := S23.out; omega)).trans H0.out)
  have H1 := Lib.hid ((gb.block (w.heap.size + 1) lt1 (by simp; have := S2.out; have := S23.out; omega)).trans H1.out)
  have OT := Lib.hid (own_off OT.out gb (fun k hk => by have := TB.out k hk; have := S34.out; omega))
  have OL := Lib.hid (own_off OL.out gb (fun k hk => by have := LB.out k hk; omega))
  have BX := Lib.hid (BX.out.grown gb BX.out.size fun j hj => by obtain rfl := Option.some.inj hj; have := S2.out; have := S23.out; omega)
  have S5 : Hid (w3.heap.size < (w5.setCell ⟨w3.heap.size, 0, none⟩ (.slice A5 16 c5)).heap.size) := Lib.hid (Nat.lt_of_lt_of_le S5.out gb.size)
  have ZT : Hid (w5.heap.size ≤ (w5.setCell ⟨w3.heap.size, 0, none⟩ (.slice A5 16 c5)).heap.size) := Lib.hid gb.size
  clear hk gb hb5 ho5 lt0 lt1

  obtain ⟨c0, c1, c2'⟩ := cells3 H0.out
  obtain ⟨y0, y1, y2, y3, y4⟩ := cells5 H1.out
  obtain ⟨z0, z1, z2, z3, z4⟩ := frozen5 H1.out
  obtain ⟨d0, d1, d2, d3, d4⟩ := cells5 HB.out
  have GB := Lib.hid (grown_five (w5.setCell ⟨w3.heap.size, 0, none⟩ (.slice A5 16 c5)) (w.heap.size + 1) (.slice A5 16 c5) (.slice A3 8 c3) (.int .i64 128) (.bool true) (.bool false))
  have HM := Lib.hid (cells5 (put_five H1.out (.slice A5 16 c5) (.slice A3 8 c3) (.int .i64 128) (.bool true) (.bool false)))
  go_wp2
  obtain ⟨m0, m1, m2, m3, m4⟩ := HM.out
  have hsz := S2.out; have h23 := S23.out
  have ot := own_off OT.out GB.out (fun k hk => by have := TB.out k hk; have := S34.out; omega)
  have ol := own_off OL.out GB.out (fun k hk => by have := LB.out k hk; have := ZB.out; omega)
  have bz := BX.out.grown GB.out BX.out.size fun k hk => by have := Option.some.inj hk; omega
  refine bodyPost_ret (v := .agg #[.slice A5 16 c5, .slice A3 8 c3, .int .i64 128, .bool true, .bool false]) (by simp [results, Try.results22, go_sem, m0, m1, m2, m3, m4]) rfl ⟨A5, c5, A3, c3, rfl, ⟨OwnI.low ot ?_, OwnI.low ol ?_, ?_⟩, bz⟩
  · have := S34.out; omega
  · omega
  · intro k h1 h2; have t := TB.out k h1; have u := LB.out k h2; have := S34.out; omega
set_option maxRecDepth 100000 in
set_option maxHeartbeats 4000000 in
theorem impl_nbat_8_10 (a b x y : Nat) (pb poff pn ca : Nat) (l : List Int) (hpn : pn = l.length) (hin : inE (a : Int) (b : Int) l (x : Int) (y : Int) 8 = true) (hx : x + 8 ≤ a) (hy : y + 8 ≤ b) (ha : a ≤ 32) (hb : b ≤ 32) (hl : l.length = a * b) (hca : l.length ≤ ca) (hxp : 0 < x) (hyp : y = 0) (w : World) (hpb : pb < w.heap.size) (hc : ∀ j, j < l.length → w.cell? ⟨pb, poff + j, none⟩ = some (.int .i64 (l.getD j 0))) :
    Calls Try.prog 22 #[.agg #[.int .i64 (a : Int), .int .i64 (b : Int), .slice (some ⟨pb, poff, none⟩) pn ca], .int .i64 (x : Int), .int .i64 (y : Int), .int .i64 8] w fun e w' => ∃ A cA B cB, e = .returned (.agg #[.slice A 16 cA, .slice B 8 cB, .int .i64 (coV l a x y), .bool false, .bool true]) ∧ NbTwo w' w.heap.size A cA B cB (tpL l a x y 8 16) (leL l a x y 8) ∧ Below w.heap.size w w' := by
  have hI : Ints w w.heap.size (some ⟨pb, poff, none⟩) l := ⟨by have := Nat.mul_le_mul ha hb; omega, .inr ⟨pb, poff, rfl, hpb, hc⟩⟩
  have IN := Lib.hid fun w h => impl_hasblock_any (a : Int) (b : Int) (some ⟨pb, poff, none⟩) ca l (x : Int) (y : Int) 8 w h
  rw [hin] at IN
  have hab : a * b ≤ 32 * 32 := Nat.mul_le_mul ha hb
  have RT := Lib.hid fun A cs w h => repeat_one A 128 16 cs (by decide) w h
  have RL := Lib.hid fun A cs w h => repeat_one A 128 8 cs (by decide) w h
  rw [show ((16 : Nat) : Int) = 16 from rfl] at RT
  rw [show ((8 : Nat) : Int) = 8 from rfl] at RL
  have eT : List.replicate 16 128 = tpL l a x y 8 16 := by rw [hyp, tpL_edge]
  rw [eT] at RT
  have BE := Lib.hid fun wr (h : Below w.heap.size w wr) => impl_beside_8 a b x y pb poff ca l hx hy ha hb hl hca wr (Nat.lt_of_lt_of_le hpb h.size) (fun j hj => (h.cell (p := ⟨pb, poff + j, none⟩) hpb).trans (hc j hj)) hxp
  have hco : coV l a x y = 128 := by rw [coV, if_neg (by omega)]
  rw [hco]
  clear hco
  have dx : decide (0 < (x : Int)) = true := by simp; omega
  have dy : decide (0 < (y : Int)) = false := by simp; omega
  have nx : 0 < x := by omega
  have ny : ¬ 0 < y := by omega
  have nx2 : decide (0 < x) = true := by simp; omega
  have ny2 : decide (0 < y) = false := by simp; omega
  have tl := tpL_len l a x y 8 16
  have ll := leL_len l a x y 8
  obtain ⟨TP, hTP⟩ : ∃ TP, TP = tpL l a x y 8 16 := ⟨_, rfl⟩
  obtain ⟨LP, hLP⟩ : ∃ LP, LP = leL l a x y 8 := ⟨_, rfl⟩
  rw [← hTP] at tl RT ⊢
  rw [← hLP] at ll BE ⊢
  rw [← hpn] at IN BE
  have hb2 := below_two w (.cells #[.int .i64 (a : Int), .int .i64 (b : Int), .slice (some ⟨pb, poff, none⟩) pn ca] 26) (.cells #[.slice none 0 0, .slice none 0 0, .int .i64 0, .bool false, .bool false] 38)
  obtain ⟨g0, g1⟩ := heap_two w (.cells #[.int .i64 (a : Int), .int .i64 (b : Int), .slice (some ⟨pb, poff, none⟩) pn ca] 26) (.cells #[.slice none 0 0, .slice none 0 0, .int .i64 0, .bool false, .bool false] 38)
  have I2 := Lib.hid ((hI.below hb2 (Nat.le_refl _)).mono hb2.size)
  have H0 := Lib.hid g0; have H1 := Lib.hid g1; have BX := Lib.hid hb2
  have HTL := Lib.hid tl; have HLL := Lib.hid ll; have HPB := Lib.hid hpb
  have SZ : Hid (w.heap.size + 1 + 1 ≤ ((w.alloc (.cells #[.int .i64 (a : Int), .int .i64 (b : Int), .slice (some ⟨pb, poff, none⟩) pn ca] 26)).alloc (.cells #[.slice none 0 0, .slice none 0 0, .int .i64 0, .bool false, .bool false] 38)).heap.size) := Lib.hid (by simp)
  clear hb2 g0 g1 hl hpn hin hI hc hab hTP hLP tl ll hca hpb hxp hyp eT
  go_enter Try.func22, Try.ntmps22
  go_wp2_with fail
  refine (IN.out _ I2.out).mono ?_
  rintro e w1 ⟨rfl, hb1⟩
  have H0 := Lib.hid (cell_kept H0.out hb1); have H1 := Lib.hid (cell_kept H1.out hb1)
  have BX := Lib.hid (below_up BX.out hb1 BX.out.size)
  have S1 : Hid (w.heap.size + 1 + 1 ≤ w1.heap.size) := Lib.hid (Nat.le_trans SZ.out hb1.size)
  have nb := below_new w1 (.cells #[.int .i64 128] 3)
  have IV : Hid (Ints (w1.alloc (.cells #[.int .i64 128] 3)) (w1.alloc (.cells #[.int .i64 128] 3)).heap.size (some ⟨w1.heap.size, 0, none⟩) [128]) := Lib.hid ((own_ints w1 w1.heap.size [128] (Nat.le_refl _) (by simp [maxLen])).ints (by simp))
  have H0 := Lib.hid (cell_kept H0.out nb); have H1 := Lib.hid (cell_kept H1.out nb)
  have BX := Lib.hid (below_up BX.out nb BX.out.size)
  have ZA := Lib.hid nb.size
  clear hb1 nb
  go_wp2_with fail
  refine (RT.out _ _ _ IV.out).mono ?_
  rintro e w2 ⟨A2, c2, rfl, ho2, hb2⟩
  have H0 := Lib.hid (cell_kept H0.out hb2); have H1 := Lib.hid (cell_kept H1.out hb2)
  have BX := Lib.hid (below_up BX.out hb2 BX.out.size)
  have S2 : Hid (w.heap.size + 1 + 1 ≤ w2.heap.size) := Lib.hid (Nat.le_trans S1.out (Nat.le_trans ZA.out hb2.size))
  have OT := Lib.hid (OwnI.low ho2 ZA.out)
  have TB := Lib.hid (OwnI.block ho2); have ZC := Lib.hid ZA.out
  have nb := below_new w2 (.cells #[.int .i64 128] 3)
  have IV : Hid (Ints (w2.alloc (.cells #[.int .i64 128] 3)) (w2.alloc (.cells #[.int .i64 128] 3)).heap.size (some ⟨w2.heap.size, 0, none⟩) [128]) := Lib.hid ((own_ints w2 w2.heap.size [128] (Nat.le_refl _) (by simp [maxLen])).ints (by simp))
  have H0 := Lib.hid (cell_kept H0.out nb); have H1 := Lib.hid (cell_kept H1.out nb); have OT := Lib.hid (own_still OT.out nb)
  have BX := Lib.hid (below_up BX.out nb BX.out.size)
  have ZA := Lib.hid nb.size
  clear hb2 nb ho2
  go_wp2_with fail
  refine (RL.out _ _ _ IV.out).mono ?_
  rintro e w3 ⟨A3, c3, rfl, ho3, hb3⟩
  have H0 := Lib.hid (cell_kept H0.out hb3); have H1 := Lib.hid (cell_kept H1.out hb3); have OT := Lib.hid (own_still OT.out hb3)
  have BX := Lib.hid (below_up BX.out hb3 BX.out.size)
  have S23 : Hid (w2.heap.size ≤ w3.heap.size) := Lib.hid (Nat.le_trans ZA.out hb3.size)
  have OL := Lib.hid (OwnI.low ho3 ZA.out)
  have LB := Lib.hid (OwnI.block ho3)
  have ZB := Lib.hid ZA.out
  have f0 := H0.out; have f1 := H1.out
  have lt0 := heap_lt f0; have lt1 := heap_lt f1
  obtain ⟨c0, c1, c2'⟩ := cells3 f0
  obtain ⟨y0, y1, y2, y3, y4⟩ := cells5 f1
  obtain ⟨z0, z1, z2, z3, z4⟩ := frozen5 f1
  have nb := below_new w3 (.cells #[.slice A2 16 c2, .slice A3 8 c3, .int .i64 128, .bool false, .bool true] 38)
  have HB := Lib.hid (heap_alloc_new w3 (.cells #[.slice A2 16 c2, .slice A3 8 c3, .int .i64 128, .bool false, .bool true] 38))
  have H0 := Lib.hid (cell_kept f0 nb); have H1 := Lib.hid (cell_kept f1 nb); have OT := Lib.hid (own_still OT.out nb); have OL := Lib.hid (own_still OL.out nb)
  have BX := Lib.hid (below_up BX.out nb BX.out.size)
  have S34 : Hid (w3.heap.size < (w3.alloc (.cells #[.slice A2 16 c2, .slice A3 8 c3, .int .i64 128, .bool false, .bool true] 38)).heap.size) := Lib.hid (by simp)
  clear f0 f1 nb hb3 ho3
  go_wp2_with fail
  refine (BE.out _ BX.out).mono ?_
  rintro e w7 ⟨A7, c7, rfl, ho7, hb7⟩
  have HB := Lib.hid (cell_kept HB.out hb7); have H0 := Lib.hid (cell_kept H0.out hb7); have H1 := Lib.hid (cell_kept H1.out hb7); have OT := Lib.hid (own_still OT.out hb7)
  have BX := Lib.hid (below_up BX.out hb7 BX.out.size)
  have S7 : Hid (w3.heap.size < w7.heap.size) := Lib.hid (Nat.lt_of_lt_of_le S34.out hb7.size)
  have OL := Lib.hid ho7
  have LB := Lib.hid (OwnI.block ho7)
  clear c0 c1 c2' y0 y1 y2 y3 y4 z0 z1 z2 z3 z4 lt0 lt1
  have lt2 := S7.out; have lt0 := heap_lt H0.out; have lt1 := heap_lt H1.out
  obtain ⟨x0, x1, x2, x3, x4⟩ := cells5 HB.out
  obtain ⟨v0, v1, v2, v3, v4⟩ := frozen5 HB.out
  have hk := heap_setCell_same w7 w3.heap.size 1 _ _ (.slice A7 8 c7) HB.out
  have gb := grown_cell w7 w3.heap.size 1 (.slice A7 8 c7)
  have HB : Hid ((w7.setCell ⟨w3.heap.size, 1, none⟩ (.slice A7 8 c7)).heap[w3.heap.size]? = some (.cells #[.slice A2 16 c2, .slice A7 8 c7, .int .i64 128, .bool false, .bool true] 38 (0, 0))) := Lib.hid hk
  have H0 := Lib.hid ((gb.block w.heap.size lt0 (by simp; have := S2.out; have := S23.out; omega)).trans H0.out)
  have H1 := Lib.hid ((gb.block (w.heap.size + 1) lt1 (by simp; have := S2.out; have := S23.out; omega)).trans H1.out)
  have OT := Lib.hid (own_off OT.out gb (fun k hk => by have := TB.out k hk; have := S23.out; have := S34.out; omega))
  have OL := Lib.hid (own_off OL.out gb (fun k hk => by have := LB.out k hk; have := S34.out; omega))
  have BX := Lib.hid (BX.out.grown gb BX.out.size fun j hj => by obtain rfl := Option.some.inj hj; have := S2.out; have := S23.out; omega)
  clear hk gb hb7 ho7 lt0 lt1

  obtain ⟨c0, c1, c2'⟩ := cells3 H0.out
  obtain ⟨y0, y1, y2, y3, y4⟩ := cells5 H1.out
  obtain ⟨z0, z1, z2, z3, z4⟩ := frozen5 H1.out
  obtain ⟨d0, d1, d2, d3, d4⟩ := cells5 HB.out
  have GB := Lib.hid (grown_five (w7.setCell ⟨w3.heap.size, 1, none⟩ (.slice A7 8 c7)) (w.heap.size + 1) (.slice A2 16 c2) (.slice A7 8 c7) (.int .i64 128) (.bool false) (.bool true))
  have HM := Lib.hid (cells5 (put_five H1.out (.slice A2 16 c2) (.slice A7 8 c7) (.int .i64 128) (.bool false) (.bool true)))
  go_wp2
  obtain ⟨m0, m1, m2, m3, m4⟩ := HM.out
  have hsz := S2.out; have h23 := S23.out
  have ot := own_off OT.out GB.out (fun k hk => by have := TB.out k hk; have := S1.out; have := ZC.out; omega)
  have ol := own_off OL.out GB.out (fun k hk => by have := LB.out k hk; have := S34.out; have := S34.out; omega)
  have bz := BX.out.grown GB.out BX.out.size fun k hk => by have := Option.some.inj hk; omega
  refine bodyPost_ret (v := .agg #[.slice A2 16 c2, .slice A7 8 c7, .int .i64 128, .bool false, .bool true]) (by simp [results, Try.results22, go_sem, m0, m1, m2, m3, m4]) rfl ⟨A2, c2, A7, c7, rfl, ⟨OwnI.low ot ?_, OwnI.low ol ?_, ?_⟩, bz⟩
  · have := S1.out; omega
  · have := S34.out; omega
  · intro k h1 h2; have t := TB.out k h1; have u := LB.out k h2; have := S34.out; omega
set_option maxRecDepth 100000 in
set_option maxHeartbeats 4000000 in
theorem impl_nbat_8_11 (a b x y : Nat) (pb poff pn ca : Nat) (l : List Int) (hpn : pn = l.length) (hin : inE (a : Int) (b : Int) l (x : Int) (y : Int) 8 = true) (hx : x + 8 ≤ a) (hy : y + 8 ≤ b) (ha : a ≤ 32) (hb : b ≤ 32) (hl : l.length = a * b) (hca : l.length ≤ ca) (hxp : 0 < x) (hyp : 0 < y) (w : World) (hpb : pb < w.heap.size) (hc : ∀ j, j < l.length → w.cell? ⟨pb, poff + j, none⟩ = some (.int .i64 (l.getD j 0))) :
    Calls Try.prog 22 #[.agg #[.int .i64 (a : Int), .int .i64 (b : Int), .slice (some ⟨pb, poff, none⟩) pn ca], .int .i64 (x : Int), .int .i64 (y : Int), .int .i64 8] w fun e w' => ∃ A cA B cB, e = .returned (.agg #[.slice A 16 cA, .slice B 8 cB, .int .i64 (coV l a x y), .bool true, .bool true]) ∧ NbTwo w' w.heap.size A cA B cB (tpL l a x y 8 16) (leL l a x y 8) ∧ Below w.heap.size w w' := by
  have hI : Ints w w.heap.size (some ⟨pb, poff, none⟩) l := ⟨by have := Nat.mul_le_mul ha hb; omega, .inr ⟨pb, poff, rfl, hpb, hc⟩⟩
  have IN := Lib.hid fun w h => impl_hasblock_any (a : Int) (b : Int) (some ⟨pb, poff, none⟩) ca l (x : Int) (y : Int) 8 w h
  rw [hin] at IN
  have hab : a * b ≤ 32 * 32 := Nat.mul_le_mul ha hb
  have RT := Lib.hid fun A cs w h => repeat_one A 128 16 cs (by decide) w h
  have RL := Lib.hid fun A cs w h => repeat_one A 128 8 cs (by decide) w h
  rw [show ((16 : Nat) : Int) = 16 from rfl] at RT
  rw [show ((8 : Nat) : Int) = 8 from rfl] at RL
  have AB := Lib.hid fun wr (h : Below w.heap.size w wr) => impl_above_8 a b x y pb poff ca l hx hy ha hb hl hca wr (Nat.lt_of_lt_of_le hpb h.size) (fun j hj => (h.cell (p := ⟨pb, poff + j, none⟩) hpb).trans (hc j hj)) hyp
  have BE := Lib.hid fun wr (h : Below w.heap.size w wr) => impl_beside_8 a b x y pb poff ca l hx hy ha hb hl hca wr (Nat.lt_of_lt_of_le hpb h.size) (fun j hj => (h.cell (p := ⟨pb, poff + j, none⟩) hpb).trans (hc j hj)) hxp
  have hya : (y - 1) * a + a ≤ l.length ∧ (y - 1) * a ≤ 1024 := by
    have h1 : (y - 1 + 1) * a ≤ b * a := Nat.mul_le_mul_right a (by omega)
    rw [Nat.mul_comm b a] at h1
    rw [Nat.add_mul, Nat.one_mul] at h1
    omega
  obtain ⟨q, hq⟩ : ∃ q, q = (y - 1) * a := ⟨_, rfl⟩
  rw [← hq] at hya
  have hyw : IntKind.i64.wrap ((y : Int) - 1) = (y : Int) - 1 := IntWalk.i64_in _ (by omega)
  have hqw : IntKind.i64.wrap (((y : Int) - 1) * (a : Int)) = (q : Int) := by
    rw [show ((y : Int) - 1) * (a : Int) = (q : Int) by rw [hq, Int.natCast_mul, show ((y - 1 : Nat) : Int) = (y : Int) - 1 by omega]]
    exact IntWalk.i64_in _ (by omega)
  have i1 : IntKind.i64.wrap ((q : Int) + (x : Int)) = (q : Int) + (x : Int) := IntWalk.i64_in _ (by omega)
  have i2 : IntKind.i64.wrap ((q : Int) + (x : Int) - 1) = (q : Int) + (x : Int) - 1 := IntWalk.i64_in _ (by omega)
  have i3 : (0 : Int) ≤ (q : Int) + (x : Int) - 1 := by omega
  have i4 : (q : Int) + (x : Int) - 1 < (pn : Int) := by omega
  have i5 : ((q : Int) + (x : Int) - 1).toNat = q + x - 1 := by omega
  obtain ⟨co, hco⟩ : ∃ co, co = coV l a x y := ⟨_, rfl⟩
  rw [← hco]
  have hcv : l.getD (q + x - 1) 0 = co := by rw [hco, coV, if_pos ⟨hxp, hyp⟩, hq]
  have CO : Hid (∀ wr, Below w.heap.size w wr → wr.cell? ⟨pb, poff + (q + x - 1), none⟩ = some (.int .i64 co)) := Lib.hid fun wr h => by rw [h.cell (p := ⟨pb, poff + (q + x - 1), none⟩) hpb, hc (q + x - 1) (by omega), hcv]
  clear hco hcv hq hya
  have dx : decide (0 < (x : Int)) = true := by simp; omega
  have dy : decide (0 < (y : Int)) = true := by simp; omega
  have nx : 0 < x := by omega
  have ny : 0 < y := by omega
  have nx2 : decide (0 < x) = true := by simp; omega
  have ny2 : decide (0 < y) = true := by simp; omega
  have tl := tpL_len l a x y 8 16
  have ll := leL_len l a x y 8
  obtain ⟨TP, hTP⟩ : ∃ TP, TP = tpL l a x y 8 16 := ⟨_, rfl⟩
  obtain ⟨LP, hLP⟩ : ∃ LP, LP = leL l a x y 8 := ⟨_, rfl⟩
  rw [← hTP] at tl AB ⊢
  rw [← hLP] at ll BE ⊢
  rw [← hpn] at IN AB BE
  have hb2 := below_two w (.cells #[.int .i64 (a : Int), .int .i64 (b : Int), .slice (some ⟨pb, poff, none⟩) pn ca] 26) (.cells #[.slice none 0 0, .slice none 0 0, .int .i64 0, .bool false, .bool false] 38)
  obtain ⟨g0, g1⟩ := heap_two w (.cells #[.int .i64 (a : Int), .int .i64 (b : Int), .slice (some ⟨pb, poff, none⟩) pn ca] 26) (.cells #[.slice none 0 0, .slice none 0 0, .int .i64 0, .bool false, .bool false] 38)
  have I2 := Lib.hid ((hI.below hb2 (Nat.le_refl _)).mono hb2.size)
  have H0 := Lib.hid g0; have H1 := Lib.hid g1; have BX := Lib.hid hb2
  have HTL := Lib.hid tl; have HLL := Lib.hid ll; have HPB := Lib.hid hpb
  have SZ : Hid (w.heap.size + 1 + 1 ≤ ((w.alloc (.cells #[.int .i64 (a : Int), .int .i64 (b : Int), .slice (some ⟨pb, poff, none⟩) pn ca] 26)).alloc (.cells #[.slice none 0 0, .slice none 0 0, .int .i64 0, .bool false, .bool false] 38)).heap.size) := Lib.hid (by simp)
  clear hb2 g0 g1 hl hpn hin hI hc hab hTP hLP tl ll hca hpb hxp hyp
  go_enter Try.func22, Try.ntmps22
  go_wp2_with fail
  refine (IN.out _ I2.out).mono ?_
  rintro e w1 ⟨rfl, hb1⟩
  have H0 := Lib.hid (cell_kept H0.out hb1); have H1 := Lib.hid (cell_kept H1.out hb1)
  have BX := Lib.hid (below_up BX.out hb1 BX.out.size)
  have S1 : Hid (w.heap.size + 1 + 1 ≤ w1.heap.size) := Lib.hid (Nat.le_trans SZ.out hb1.size)
  have nb := below_new w1 (.cells #[.int .i64 128] 3)
  have IV : Hid (Ints (w1.alloc (.cells #[.int .i64 128] 3)) (w1.alloc (.cells #[.int .i64 128] 3)).heap.size (some ⟨w1.heap.size, 0, none⟩) [128]) := Lib.hid ((own_ints w1 w1.heap.size [128] (Nat.le_refl _) (by simp [maxLen])).ints (by simp))
  have H0 := Lib.hid (cell_kept H0.out nb); have H1 := Lib.hid (cell_kept H1.out nb)
  have BX := Lib.hid (below_up BX.out nb BX.out.size)
  have ZA := Lib.hid nb.size
  clear hb1 nb
  go_wp2_with fail
  refine (RT.out _ _ _ IV.out).mono ?_
  rintro e w2 ⟨A2, c2, rfl, ho2, hb2⟩
  have H0 := Lib.hid (cell_kept H0.out hb2); have H1 := Lib.hid (cell_kept H1.out hb2)
  have BX := Lib.hid (below_up BX.out hb2 BX.out.size)
  have S2 : Hid (w.heap.size + 1 + 1 ≤ w2.heap.size) := Lib.hid (Nat.le_trans S1.out (Nat.le_trans ZA.out hb2.size))
  have OT := Lib.hid (OwnI.low ho2 ZA.out)
  have TB := Lib.hid (OwnI.block ho2); have ZC := Lib.hid ZA.out
  have nb := below_new w2 (.cells #[.int .i64 128] 3)
  have IV : Hid (Ints (w2.alloc (.cells #[.int .i64 128] 3)) (w2.alloc (.cells #[.int .i64 128] 3)).heap.size (some ⟨w2.heap.size, 0, none⟩) [128]) := Lib.hid ((own_ints w2 w2.heap.size [128] (Nat.le_refl _) (by simp [maxLen])).ints (by simp))
  have H0 := Lib.hid (cell_kept H0.out nb); have H1 := Lib.hid (cell_kept H1.out nb); have OT := Lib.hid (own_still OT.out nb)
  have BX := Lib.hid (below_up BX.out nb BX.out.size)
  have ZA := Lib.hid nb.size
  clear hb2 nb ho2
  go_wp2_with fail
  refine (RL.out _ _ _ IV.out).mono ?_
  rintro e w3 ⟨A3, c3, rfl, ho3, hb3⟩
  have H0 := Lib.hid (cell_kept H0.out hb3); have H1 := Lib.hid (cell_kept H1.out hb3); have OT := Lib.hid (own_still OT.out hb3)
  have BX := Lib.hid (below_up BX.out hb3 BX.out.size)
  have S23 : Hid (w2.heap.size ≤ w3.heap.size) := Lib.hid (Nat.le_trans ZA.out hb3.size)
  have OL := Lib.hid (OwnI.low ho3 ZA.out)
  have LB := Lib.hid (OwnI.block ho3)
  have ZB := Lib.hid ZA.out
  have f0 := H0.out; have f1 := H1.out
  have lt0 := heap_lt f0; have lt1 := heap_lt f1
  obtain ⟨c0, c1, c2'⟩ := cells3 f0
  obtain ⟨y0, y1, y2, y3, y4⟩ := cells5 f1
  obtain ⟨z0, z1, z2, z3, z4⟩ := frozen5 f1
  have nb := below_new w3 (.cells #[.slice A2 16 c2, .slice A3 8 c3, .int .i64 128, .bool true, .bool true] 38)
  have HB := Lib.hid (heap_alloc_new w3 (.cells #[.slice A2 16 c2, .slice A3 8 c3, .int .i64 128, .bool true, .bool true] 38))
  have H0 := Lib.hid (cell_kept f0 nb); have H1 := Lib.hid (cell_kept f1 nb); have OT := Lib.hid (own_still OT.out nb); have OL := Lib.hid (own_still OL.out nb)
  have BX := Lib.hid (below_up BX.out nb BX.out.size)
  have S34 : Hid (w3.heap.size < (w3.alloc (.cells #[.slice A2 16 c2, .slice A3 8 c3, .int .i64 128, .bool true, .bool true] 38)).heap.size) := Lib.hid (by simp)
  clear f0 f1 nb hb3 ho3
  go_wp2_with fail
  refine (AB.out _ BX.out).mono ?_
  rintro e w5 ⟨A5, c5, rfl, ho5, hb5⟩
  have HB := Lib.hid (cell_kept HB.out hb5); have H0 := Lib.hid (cell_kept H0.out hb5); have H1 := Lib.hid (cell_kept H1.out hb5); have OL := Lib.hid (own_still OL.out hb5)
  have BX := Lib.hid (below_up BX.out hb5 BX.out.size)
  have S5 : Hid (w3.heap.size < w5.heap.size) := Lib.hid (Nat.lt_of_lt_of_le S34.out hb5.size)
  have OT := Lib.hid ho5
  have TB := Lib.hid (OwnI.block ho5)
  clear c0 c1 c2' y0 y1 y2 y3 y4 z0 z1 z2 z3 z4 lt0 lt1
  have lt2 := S5.out; have lt0 := heap_lt H0.out; have lt1 := heap_lt H1.out
  obtain ⟨x0, x1, x2, x3, x4⟩ := cells5 HB.out
  obtain ⟨v0, v1, v2, v3, v4⟩ := frozen5 HB.out
  have hk := heap_setCell_same w5 w3.heap.size 0 _ _ (.slice A5 16 c5) HB.out
  have gb := grown_cell w5 w3.heap.size 0 (.slice A5 16 c5)
  have HB : Hid ((w5.setCell ⟨w3.heap.size, 0, none⟩ (.slice A5 16 c5)).heap[w3.heap.size]? = some (.cells #[.slice A5 16 c5, .slice A3 8 c3, .int .i64 128, .bool true, .bool true] 38 (0, 0))) := Lib.hid hk
  have H0 := Lib.hid ((gb.block w.heap.size lt0 (by simp; have := S2.out; have := S23.out; omega)).trans H0.out)
  have H1 := Lib.hid ((gb.block (w.heap.size + 1) lt1 (by simp; have := S2.out; have := S23.out; omega)).trans H1.out)
  have OT := Lib.hid (own_off OT.out gb (fun k hk => by have := TB.out k hk; have := S34.out; omega))
  have OL := Lib.hid (own_off OL.out gb (fun k hk => by have := LB.out k hk; omega))
  have BX := Lib.hid (BX.out.grown gb BX.out.size fun j hj => by obtain rfl := Option.some.inj hj; have := S2.out; have := S23.out; omega)
  have S5 : Hid (w3.heap.size < (w5.setCell ⟨w3.heap.size, 0, none⟩ (.slice A5 16 c5)).heap.size) := Lib.hid (Nat.lt_of_lt_of_le S5.out gb.size)
  have ZT : Hid (w5.heap.size ≤ (w5.setCell ⟨w3.heap.size, 0, none⟩ (.slice A5 16 c5)).heap.size) := Lib.hid gb.size
  clear hk gb hb5 ho5 lt0 lt1

  obtain ⟨c0, c1, c2'⟩ := cells3 H0.out
  obtain ⟨y0, y1, y2, y3, y4⟩ := cells5 H1.out
  obtain ⟨z0, z1, z2, z3, z4⟩ := frozen5 H1.out
  obtain ⟨d0, d1, d2, d3, d4⟩ := cells5 HB.out
  go_wp2_with fail
  refine (BE.out _ BX.out).mono ?_
  rintro e w7 ⟨A7, c7, rfl, ho7, hb7⟩
  have HB := Lib.hid (cell_kept HB.out hb7); have H0 := Lib.hid (cell_kept H0.out hb7); have H1 := Lib.hid (cell_kept H1.out hb7); have OT := Lib.hid (own_still OT.out hb7)
  have BX := Lib.hid (below_up BX.out hb7 BX.out.size)
  have S7 : Hid (w3.heap.size < w7.heap.size) := Lib.hid (Nat.lt_of_lt_of_le S5.out hb7.size)
  have OL := Lib.hid ho7
  have LB := Lib.hid (OwnI.block ho7)
  clear c0 c1 c2' y0 y1 y2 y3 y4 z0 z1 z2 z3 z4 d0 d1 d2 d3 d4 x0 x1 x2 x3 x4 v0 v1 v2 v3 v4 lt2
  have lt2 := S7.out; have lt0 := heap_lt H0.out; have lt1 := heap_lt H1.out
  obtain ⟨x0, x1, x2, x3, x4⟩ := cells5 HB.out
  obtain ⟨v0, v1, v2, v3, v4⟩ := frozen5 HB.out
  have hk := heap_setCell_same w7 w3.heap.size 1 _ _ (.slice A7 8 c7) HB.out
  have gb := grown_cell w7 w3.heap.size 1 (.slice A7 8 c7)
  have HB : Hid ((w7.setCell ⟨w3.heap.size, 1, none⟩ (.slice A7 8 c7)).heap[w3.heap.size]? = some (.cells #[.slice A5 16 c5, .slice A7 8 c7, .int .i64 128, .bool true, .bool true] 38 (0, 0))) := Lib.hid hk
  have H0 := Lib.hid ((gb.block w.heap.size lt0 (by simp; have := S2.out; have := S23.out; omega)).trans H0.out)
  have H1 := Lib.hid ((gb.block (w.heap.size + 1) lt1 (by simp; have := S2.out; have := S23.out; omega)).trans H1.out)
  have OT := Lib.hid (own_off OT.out gb (fun k hk => by have := TB.out k hk; have := S23.out; have := S34.out; omega))
  have OL := Lib.hid (own_off OL.out gb (fun k hk => by have := LB.out k hk; have := S5.out; omega))
  have BX := Lib.hid (BX.out.grown gb BX.out.size fun j hj => by obtain rfl := Option.some.inj hj; have := S2.out; have := S23.out; omega)
  clear hk gb hb7 ho7 lt0 lt1

  obtain ⟨c0, c1, c2'⟩ := cells3 H0.out
  obtain ⟨y0, y1, y2, y3, y4⟩ := cells5 H1.out
  obtain ⟨z0, z1, z2, z3, z4⟩ := frozen5 H1.out
  obtain ⟨d0, d1, d2, d3, d4⟩ := cells5 HB.out
  have cc := CO.out _ BX.out
  obtain ⟨u0, u1, u2, u3, u4⟩ := frozen5 HB.out
  have gb := grown_cell (w7.setCell ⟨w3.heap.size, 1, none⟩ (.slice A7 8 c7)) w3.heap.size 2 (.int .i64 co)
  have hk := heap_setCell_same (w7.setCell ⟨w3.heap.size, 1, none⟩ (.slice A7 8 c7)) w3.heap.size 2 _ _ (.int .i64 co) HB.out
  have HB : Hid (((w7.setCell ⟨w3.heap.size, 1, none⟩ (.slice A7 8 c7)).setCell ⟨w3.heap.size, 2, none⟩ (.int .i64 co)).heap[w3.heap.size]? = some (.cells #[.slice A5 16 c5, .slice A7 8 c7, .int .i64 co, .bool true, .bool true] 38 (0, 0))) := Lib.hid hk
  have H1 := Lib.hid ((gb.block (w.heap.size + 1) (heap_lt H1.out) (by simp; have := S2.out; have := S23.out; omega)).trans H1.out)
  have OT := Lib.hid (own_off OT.out gb (fun k hk => by have := TB.out k hk; have := S34.out; omega))
  have OL := Lib.hid (own_off OL.out gb (fun k hk => by have := LB.out k hk; have := S5.out; omega))
  have BX := Lib.hid (BX.out.grown gb BX.out.size fun j hj => by obtain rfl := Option.some.inj hj; have := S2.out; have := S23.out; omega)
  obtain ⟨y0', y1', y2', y3', y4'⟩ := cells5 H1.out
  obtain ⟨z0', z1', z2', z3', z4'⟩ := frozen5 H1.out
  obtain ⟨d0', d1', d2', d3', d4'⟩ := cells5 HB.out
  clear gb hk
  have GB := Lib.hid (grown_five ((w7.setCell ⟨w3.heap.size, 1, none⟩ (.slice A7 8 c7)).setCell ⟨w3.heap.size, 2, none⟩ (.int .i64 co)) (w.heap.size + 1) (.slice A5 16 c5) (.slice A7 8 c7) (.int .i64 co) (.bool true) (.bool true))
  have HM := Lib.hid (cells5 (put_five H1.out (.slice A5 16 c5) (.slice A7 8 c7) (.int .i64 co) (.bool true) (.bool true)))
  go_wp2
  obtain ⟨m0, m1, m2, m3, m4⟩ := HM.out
  have hsz := S2.out; have h23 := S23.out
  have ot := own_off OT.out GB.out (fun k hk => by have := TB.out k hk; have := S34.out; omega)
  have ol := own_off OL.out GB.out (fun k hk => by have := LB.out k hk; have := S34.out; have := S5.out; omega)
  have bz := BX.out.grown GB.out BX.out.size fun k hk => by have := Option.some.inj hk; omega
  refine bodyPost_ret (v := .agg #[.slice A5 16 c5, .slice A7 8 c7, .int .i64 co, .bool true, .bool true]) (by simp [results, Try.results22, go_sem, m0, m1, m2, m3, m4]) rfl ⟨A5, c5, A7, c7, rfl, ⟨OwnI.low ot ?_, OwnI.low ol ?_, ?_⟩, bz⟩
  · have := S34.out; omega
  · have := S5.out; omega
  · intro k h1 h2; have t := TB.out k h1; have u := LB.out k h2; have := ZT.out; omega
set_option maxRecDepth 100000 in
set_option maxHeartbeats 4000000 in
theorem impl_nbat_any (a b : Int) (A : Option Addr) (ca : Nat) (l : List Int) (x y n : Int) (w : World) (hA : Ints w w.heap.size A l) (hca : l.length ≤ ca) :
    Calls Try.prog 22 #[.agg #[.int .i64 a, .int .i64 b, .slice A l.length ca], .int .i64 x, .int .i64 y, .int .i64 n] w fun e w' => ∃ A' cA B' cB, e = .returned (.agg #[.slice A' (nbTop a b l x y n).length cA, .slice B' (nbLeft a b l x y n).length cB, .int .i64 (nbCo a b l x y n), .bool (nbHas a b l x y n y), .bool (nbHas a b l x y n x)]) ∧ NbTwo w' w.heap.size A' cA B' cB (nbTop a b l x y n) (nbLeft a b l x y n) ∧ Below w.heap.size w w' := by
  cases hin : inE a b l x y n with
  | false =>
    have IN := Lib.hid fun w h => impl_hasblock_any a b A ca l x y n w h
    rw [hin] at IN
    rw [show nbTop a b l x y n = [] by simp [nbTop, hin], show nbLeft a b l x y n = [] by simp [nbLeft, hin], show nbCo a b l x y n = 0 by simp [nbCo, hin], show nbHas a b l x y n y = false by simp [nbHas, hin], show nbHas a b l x y n x = false by simp [nbHas, hin]]
    have hb2 := below_two w (.cells #[.int .i64 a, .int .i64 b, .slice A l.length ca] 26) (.cells #[.slice none 0 0, .slice none 0 0, .int .i64 0, .bool false, .bool false] 38)
    obtain ⟨g0, g1⟩ := heap_two w (.cells #[.int .i64 a, .int .i64 b, .slice A l.length ca] 26) (.cells #[.slice none 0 0, .slice none 0 0, .int .i64 0, .bool false, .bool false] 38)
    have I2 := Lib.hid ((hA.below hb2 (Nat.le_refl _)).mono hb2.size); have B2 := Lib.hid hb2; have G1 := Lib.hid g1
    have hnl := hA.1
    obtain ⟨pn, hpn⟩ : ∃ pn, pn = l.length := ⟨_, rfl⟩
    rw [← hpn] at IN I2 B2 G1 hnl ⊢
    clear hA hin hb2 g0 g1 hpn hca
    go_enter Try.func22, Try.ntmps22
    go_wp2_with fail
    refine (IN.out _ I2.out).mono ?_
    rintro e w1 ⟨rfl, hb1⟩
    have hk1 := cell_kept G1.out hb1
    have B3 := Lib.hid (below_up B2.out hb1 B2.out.size)
    obtain ⟨r0, r1, r2, r3, r4⟩ := cells5 hk1
    obtain ⟨q0, q1, q2, q3, q4⟩ := frozen5 hk1
    have gb := grown_five w1 (w.heap.size + 1) (.slice none 0 0) (.slice none 0 0) (.int .i64 0) (.bool false) (.bool false)
    have hm := cells5 (put_five hk1 (.slice none 0 0) (.slice none 0 0) (.int .i64 0) (.bool false) (.bool false))
    have GB := Lib.hid gb; have HM := Lib.hid hm
    clear gb hm hb1 hk1
    go_wp2
    obtain ⟨m0, m1, m2, m3, m4⟩ := HM.out
    refine bodyPost_ret (v := .agg #[.slice none 0 0, .slice none 0 0, .int .i64 0, .bool false, .bool false]) (by simp [results, Try.results22, go_sem, m0, m1, m2, m3, m4]) rfl ⟨none, 0, none, 0, rfl, ⟨World.ownsRow_nil _ w.heap.size 3 1, World.ownsRow_nil _ w.heap.size 3 1, fun k h _ => by simp [Value.ownBlock] at h⟩, B3.out.grown GB.out B3.out.size fun k hk => by have := Option.some.inj hk; omega⟩
  | true =>
    rw [show nbTop a b l x y n = tpL l a.toNat x.toNat y.toNat n.toNat (2 * n.toNat) by simp [nbTop, hin], show nbLeft a b l x y n = leL l a.toNat x.toNat y.toNat n.toNat by simp [nbLeft, hin], show nbCo a b l x y n = coV l a.toNat x.toNat y.toNat by simp [nbCo, hin], show nbHas a b l x y n y = decide (0 < y) by simp [nbHas, hin], show nbHas a b l x y n x = decide (0 < x) by simp [nbHas, hin], tpL_len, leL_len]
    have hh := hin
    simp only [inE, Bool.and_eq_true] at hh
    obtain ⟨⟨⟨⟨⟨hf, ho⟩, hx⟩, hy⟩, _⟩, _⟩ := hh
    obtain ⟨hs, hl, _⟩ := frameE_sides hf
    obtain ⟨h1, h2, _, _⟩ := sidesE_parts hs
    have hx := betE_true hx; have hy := betE_true hy
    obtain ⟨a', rfl⟩ := Int.eq_ofNat_of_zero_le (show 0 ≤ a by omega)
    obtain ⟨b', rfl⟩ := Int.eq_ofNat_of_zero_le (show 0 ≤ b by omega)
    obtain ⟨x', rfl⟩ := Int.eq_ofNat_of_zero_le hx.1
    obtain ⟨y', rfl⟩ := Int.eq_ofNat_of_zero_le hy.1
    have hl' : l.length = a' * b' := by rw [← Int.natCast_mul] at hl; exact Int.ofNat.inj hl
    have hpos : 8 * 8 ≤ a' * b' := Nat.mul_le_mul (by omega) (by omega)
    obtain ⟨pb, poff, rfl, hpb, hc⟩ := hA.at 0 (by omega)
    by_cases hx0 : x' = 0
    · by_cases hy0 : y' = 0
      · rw [show decide ((0 : Int) < (y' : Int)) = false by simp; omega, show decide ((0 : Int) < (x' : Int)) = false by simp; omega]
        rcases okN_cases ho with rfl | rfl
        · exact impl_nbat_4_00 a' b' x' y' pb poff l.length ca l rfl hin (by omega) (by omega) (by omega) (by omega) hl' hca hx0 hy0 w hpb hc
        · exact impl_nbat_8_00 a' b' x' y' pb poff l.length ca l rfl hin (by omega) (by omega) (by omega) (by omega) hl' hca hx0 hy0 w hpb hc
      · rw [show decide ((0 : Int) < (y' : Int)) = true by simp; omega, show decide ((0 : Int) < (x' : Int)) = false by simp; omega]
        rcases okN_cases ho with rfl | rfl
        · exact impl_nbat_4_01 a' b' x' y' pb poff l.length ca l rfl hin (by omega) (by omega) (by omega) (by omega) hl' hca hx0 (by omega) w hpb hc
        · exact impl_nbat_8_01 a' b' x' y' pb poff l.length ca l rfl hin (by omega) (by omega) (by omega) (by omega) hl' hca hx0 (by omega) w hpb hc
    · by_cases hy0 : y' = 0
      · rw [show decide ((0 : Int) < (y' : Int)) = false by simp; omega, show decide ((0 : Int) < (x' : Int)) = true by simp; omega]
        rcases okN_cases ho with rfl | rfl
        · exact impl_nbat_4_10 a' b' x' y' pb poff l.length ca l rfl hin (by omega) (by omega) (by omega) (by omega) hl' hca (by omega) hy0 w hpb hc
        · exact impl_nbat_8_10 a' b' x' y' pb poff l.length ca l rfl hin (by omega) (by omega) (by omega) (by omega) hl' hca (by omega) hy0 w hpb hc
      · rw [show decide ((0 : Int) < (y' : Int)) = true by simp; omega, show decide ((0 : Int) < (x' : Int)) = true by simp; omega]
        rcases okN_cases ho with rfl | rfl
        · exact impl_nbat_4_11 a' b' x' y' pb poff l.length ca l rfl hin (by omega) (by omega) (by omega) (by omega) hl' hca (by omega) (by omega) w hpb hc
        · exact impl_nbat_8_11 a' b' x' y' pb poff l.length ca l rfl hin (by omega) (by omega) (by omega) (by omega) hl' hca (by omega) (by omega) w hpb hc
end Go.Proofs.Ytemfiglflbfocaa
