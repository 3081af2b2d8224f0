/-
  Chapter 18: what NbAt answers, and the contract of the model's own.
-/
import Derived.Test.YtemfiglflbfocaaFrE
import Derived.Test.YtemfiglflbfocaaNbB
import Derived.Test.YtemfiglflbfocaaScanC
namespace Go.Proofs.Ytemfiglflbfocaa
open Go.RowKit
set_option linter.unusedVariables false

set_option maxRecDepth 100000 in
set_option maxHeartbeats 4000000 in
theorem spec_nbat_8_01 (a b x y : Nat) (pb poff pn ca : Nat) (l : List Int) (hpn : pn = l.length) (hin : inE (a : Int) (b : Int) l (x : Int) (y : Int) 8 = true) (hx : x + 8 ≤ a) (hy : y + 8 ≤ b) (ha : a ≤ 32) (hb : b ≤ 32) (hl : l.length = a * b) (hxp : x = 0) (hyp : 0 < y) (w : World) (hpb : pb < w.heap.size) (hc : ∀ j, j < l.length → w.cell? ⟨pb, poff + j, none⟩ = some (.int .i64 (l.getD j 0))) :
    Calls Try.prog 23 #[.agg #[.int .i64 (a : Int), .int .i64 (b : Int), .slice (some ⟨pb, poff, none⟩) pn ca], .int .i64 (x : Int), .int .i64 (y : Int), .int .i64 8] w fun e w' => ∃ A cA B cB, e = .returned (.agg #[.slice A 16 cA, .slice B 8 cB, .int .i64 (coV l a x y), .bool true, .bool false]) ∧ NbTwo w' w.heap.size A cA B cB (tpL l a x y 8 16) (leL l a x y 8) ∧ Below w.heap.size w w' := by
  obtain ⟨i0, hi, hz0, hz1, hz2⟩ := info_parts Try.iinfo
  have hI : Ints w w.heap.size (some ⟨pb, poff, none⟩) l := ⟨by have := Nat.mul_le_mul ha hb; omega, .inr ⟨pb, poff, rfl, hpb, hc⟩⟩
  have IN := Lib.hid fun w h => spec_l18in_any (a : Int) (b : Int) (some ⟨pb, poff, none⟩) ca l (x : Int) (y : Int) 8 w h
  rw [hin] at IN
  rw [← hpn] at IN
  have hab : a * b ≤ 32 * 32 := Nat.mul_le_mul ha hb
  have hb2 := below_two w (.cells #[.int .i64 (a : Int), .int .i64 (b : Int), .slice (some ⟨pb, poff, none⟩) pn ca] 26) (.cells #[.slice none 0 0, .slice none 0 0, .int .i64 0, .bool false, .bool false] 38)
  obtain ⟨g0, g1⟩ := heap_two w (.cells #[.int .i64 (a : Int), .int .i64 (b : Int), .slice (some ⟨pb, poff, none⟩) pn ca] 26) (.cells #[.slice none 0 0, .slice none 0 0, .int .i64 0, .bool false, .bool false] 38)
  have hsz : ((w.alloc (.cells #[.int .i64 (a : Int), .int .i64 (b : Int), .slice (some ⟨pb, poff, none⟩) pn ca] 26)).alloc (.cells #[.slice none 0 0, .slice none 0 0, .int .i64 0, .bool false, .bool false] 38)).heap.size = w.heap.size + 1 + 1 := by simp
  have I2 := Lib.hid ((hI.below hb2 (Nat.le_refl _)).mono hb2.size)
  have HC := Lib.hid hc; have HPN := Lib.hid hpn; have HPB := Lib.hid hpb; have HL := Lib.hid hl; have B2 := Lib.hid hb2; have G0 := Lib.hid g0; have G1 := Lib.hid g1; have SZ := Lib.hid hsz
  have hyb : ∀ k, k < 8 → (y + k) * a + x + 8 ≤ pn ∧ (y + k) * a ≤ 1024 := fun k hk => by
    have h1 : (y + k + 1) * a ≤ b * a := Nat.mul_le_mul_right a (by omega)
    rw [Nat.mul_comm b a] at h1
    rw [Nat.add_mul, Nat.one_mul] at h1
    omega
  have HYB := Lib.hid hyb
  have hya : (y - 1) * a + a ≤ pn ∧ (y - 1) * a ≤ 1024 := by
    have h1 : (y - 1 + 1) * a ≤ b * a := Nat.mul_le_mul_right a (by omega)
    rw [Nat.mul_comm b a] at h1
    rw [Nat.add_mul, Nat.one_mul] at h1
    omega
  obtain ⟨q, hq⟩ : ∃ q, q = (y - 1) * a := ⟨_, rfl⟩
  rw [← hq] at hya
  have hyw : IntKind.i64.wrap ((y : Int) - 1) = (y : Int) - 1 := IntWalk.i64_in _ (by omega)
  have hqw : IntKind.i64.wrap (((y : Int) - 1) * (a : Int)) = (q : Int) := by
    rw [show ((y : Int) - 1) * (a : Int) = (q : Int) by rw [hq, Int.natCast_mul, show ((y - 1 : Nat) : Int) = (y : Int) - 1 by omega]]
    exact IntWalk.i64_in _ (by omega)
  have HQ := Lib.hid hq; have HYA := Lib.hid hya
  have dx : decide (0 < (x : Int)) = false := by simp; omega
  have dy : decide (0 < (y : Int)) = true := by simp; omega
  rw [show coV l a x y = 128 by rw [coV, if_neg (by omega)]]
  have HXP := Lib.hid hxp; have nx0 : ¬ 0 < x := by omega
  clear hb2 g0 g1 hsz hl hpn hin hI hc hyb hab hq hya hxp
  go_enter Try.func23, Try.ntmps23
  go_wp2_with fail
  refine (IN.out _ I2.out).mono ?_
  rintro e w1 ⟨rfl, hb1⟩
  have B3 := Lib.hid (below_up B2.out hb1 B2.out.size)
  have S1 : Hid (w.heap.size + 1 + 1 ≤ w1.heap.size) := Lib.hid (by have := hb1.size; have h2 := SZ.out; omega)
  have k0 := cell_kept G0.out hb1
  have k1 := cell_kept G1.out hb1
  have K0 := Lib.hid k0; have K1 := Lib.hid k1
  obtain ⟨c0, c1, c2⟩ := cells3 k0
  clear hb1 k0 k1
  have nb := below_new w1 (.cells #[.slice none 0 0, .slice none 0 0, .int .i64 128, .bool true, .bool false] 38)
  have hk := heap_alloc_new w1 (.cells #[.slice none 0 0, .slice none 0 0, .int .i64 128, .bool true, .bool false] 38)
  have B4 := Lib.hid (below_up B3.out nb B3.out.size); have HK := Lib.hid hk; have K0a := Lib.hid (cell_kept K0.out nb); have K1a := Lib.hid (cell_kept K1.out nb)
  have ON := Lib.hid (World.ownsRow_nil (w1.alloc (.cells #[.slice none 0 0, .slice none 0 0, .int .i64 128, .bool true, .bool false] 38)) (w1.heap.size + 1) 3 1)
  have SA : Hid (w1.heap.size + 1 ≤ (w1.alloc (.cells #[.slice none 0 0, .slice none 0 0, .int .i64 128, .bool true, .bool false] 38)).heap.size) := Lib.hid (by simp)
  clear nb hk
  go_wp2
  go_loopw [10, 11] (fun i v wr => ∃ (j : Nat) (vL : Value), j ≤ 8 ∧ i = .int .i64 j ∧ wr.heap[w1.heap.size]? = some (.cells #[.slice none 0 0, vL, .int .i64 128, .bool true, .bool false] 38 (0, 0)) ∧ wr.heap[w.heap.size]? = some (.cells #[.int .i64 (a : Int), .int .i64 (b : Int), .slice (some ⟨pb, poff, none⟩) pn ca] 26 (0, 0)) ∧ wr.heap[w.heap.size + 1]? = some (.cells #[.slice none 0 0, .slice none 0 0, .int .i64 0, .bool false, .bool false] 38 (0, 0)) ∧ wr.ownsRow (w1.heap.size + 1) 3 1 vL j (ivs (leL l a x y j)) ∧ w1.heap.size + 1 ≤ wr.heap.size ∧ Below w.heap.size w wr)
    (fun i _ _ => 8 - (intOf i).toNat)
  case atStart => exact ⟨0, .slice none 0 0, Nat.zero_le _, rfl, HK.out, K0a.out, K1a.out, ON.out, SA.out, B4.out⟩
  case round =>
    obtain ⟨j, vL, hj, rfl, hk, hk0, hk1, hown, hsz, hbel⟩ := hrel
    by_cases hlt : j < 8
    · have d1 : decide ((j : Int) < 8) = true := by simp; omega
      have HNX := Lib.hid (leL_next l a x y j)
      have hv : leF l a x y j = 128 := by rw [leF, if_neg (by have := HXP.out; omega)]
      obtain ⟨z, hz⟩ : ∃ z, z = leF l a x y j := ⟨_, rfl⟩
      rw [← hz] at hv HNX
      obtain rfl := hv
      obtain ⟨c0, c1, c2⟩ := cells3 hk0
      obtain ⟨e0, e1, e2, e3, e4⟩ := cells5 hk
      have lt0 := heap_lt hk0; have lt1 := heap_lt hk; have ltp : pb < wr.heap.size := Nat.lt_of_lt_of_le HPB.out hbel.size
      clear hz
      go_wp2_with (at_builtin; refine append_int wr rfl (.tmp 66) (.tmp 68) 24 rfl (w1.heap.size + 1) 3 i0 Try.underlying24 hi hz0 hz1 hz2 _ _ _ rfl hown 128 rfl rfl (by omega) hsz ?_; intro v' w' hown' hgr hvb; obtain ⟨Av, cv, hve⟩ := own_form5 hown'; subst hve; have hgr : World.grownBy wr w' (Value.ownBlock vL) := hgr; have hk' := (hgr.block w1.heap.size lt1 (fun e => by have := (hown.lt _ e.symm).1; omega)).trans hk; obtain ⟨k0, k1, k2, k3, k4⟩ := cells5 hk'; obtain ⟨f0, f1, f2, f3, f4⟩ := frozen5 hk')
      have hk2 := heap_setCell_same w' w1.heap.size 1 _ _ (.slice Av (j + 1) cv) hk'
      have gb := grown_cell w' w1.heap.size 1 (.slice Av (j + 1) cv)
      have hk3 := (gb.block w.heap.size (by have := hgr.size; omega) (fun e => by have := Option.some.inj e; have := S1.out; omega)).trans ((hgr.block w.heap.size lt0 (fun e => by have := (hown.lt _ e.symm).1; have := S1.out; omega)).trans hk0)
      have hk4 := (gb.block (w.heap.size + 1) (by have := hgr.size; have := S1.out; omega) (fun e => by have := Option.some.inj e; have := S1.out; omega)).trans ((hgr.block (w.heap.size + 1) (heap_lt hk1) (fun e => by have := (hown.lt _ e.symm).1; have := S1.out; omega)).trans hk1)
      have hown2 := hown'.kept gb (.inr fun e => by have := (hown'.lt _ e).1; omega)
      have hb5 := (hbel.grown hgr hbel.size fun k hk => by have := (hown.lt k hk).1; have := S1.out; omega).grown gb (Nat.le_trans hbel.size hgr.size) fun k hk => by have := Option.some.inj hk; have := S1.out; omega
      have HK2 := Lib.hid hk2; have HK3 := Lib.hid hk3; have HK4 := Lib.hid hk4; have HO2 := Lib.hid hown2; have HB5 := Lib.hid hb5; have HS5 : Hid (w1.heap.size + 1 ≤ (w'.setCell ⟨w1.heap.size, 1, none⟩ (.slice Av (j + 1) cv)).heap.size) := Lib.hid (by have := hgr.size; rw [size_set]; omega)
      clear hk2 gb hk3 hk4 hown2 hb5 hown' hgr hvb hown hbel hk hk0 hk1 hk'
      go_roundw
      case rel => exact ⟨j + 1, .slice Av (j + 1) cv, by omega, by go_num, HK2.out, HK3.out, HK4.out, by rw [HNX.out]; exact HO2.out, HS5.out, HB5.out⟩
      case measure => simp [intOf]; omega
    · obtain rfl : j = 8 := by omega
      have HKA := Lib.hid hk; have HKB := Lib.hid hk0; have HKC := Lib.hid hk1; have HOL := Lib.hid hown; have HSA := Lib.hid hsz; have HBA := Lib.hid hbel
      have ON2 := Lib.hid (World.ownsRow_nil wr (w1.heap.size + 1) 3 1)
      clear hk hk0 hk1 hown hsz hbel
      go_wp2
      go_loopw [12, 13] (fun i v wr => ∃ (j : Nat) (vT : Value), j ≤ 16 ∧ i = .int .i64 j ∧ wr.heap[w1.heap.size]? = some (.cells #[vT, vL, .int .i64 128, .bool true, .bool false] 38 (0, 0)) ∧ wr.heap[w.heap.size]? = some (.cells #[.int .i64 (a : Int), .int .i64 (b : Int), .slice (some ⟨pb, poff, none⟩) pn ca] 26 (0, 0)) ∧ wr.heap[w.heap.size + 1]? = some (.cells #[.slice none 0 0, .slice none 0 0, .int .i64 0, .bool false, .bool false] 38 (0, 0)) ∧ wr.ownsRow (w1.heap.size + 1) 3 1 vT j (ivs (tpL l a x y 8 j)) ∧ wr.ownsRow (w1.heap.size + 1) 3 1 vL 8 (ivs (leL l a x y 8)) ∧ (∀ k, vT.ownBlock = some k → vL.ownBlock = some k → False) ∧ w1.heap.size + 1 ≤ wr.heap.size ∧ Below w.heap.size w wr)
        (fun i _ _ => 16 - (intOf i).toNat)
      case atStart => exact ⟨0, .slice none 0 0, Nat.zero_le _, rfl, HKA.out, HKB.out, HKC.out, ON2.out, HOL.out, fun k h1 _ => by simp [Value.ownBlock] at h1, HSA.out, HBA.out⟩
      case round =>
        obtain ⟨j, vT, hj2, rfl, hk, hk0, hk1, hownT, hownL, hap, hsz, hbel⟩ := hrel
        have lenT := tpL_len l a x y 8 j
        by_cases hlt : j < 16
        · have d1 : decide ((j : Int) < 16) = true := by simp; omega
          obtain ⟨c0, c1, c2⟩ := cells3 hk0
          obtain ⟨e0, e1, e2, e3, e4⟩ := cells5 hk
          have lt0 := heap_lt hk0; have lt1 := heap_lt hk; have lt2 := heap_lt hk1; have ltp : pb < wr.heap.size := Nat.lt_of_lt_of_le HPB.out hbel.size
          by_cases hjd : j < 8
          · have d2 : decide ((j : Int) < 8) = true := by simp; omega
            have hv : tpV l a x y 8 (tpL l a x y 8 j) j = l.getD (q + x + j) 0 := by rw [tpV, if_neg (by omega), if_pos (.inl hjd), HQ.out]
            have cl : wr.cell? ⟨pb, poff + (q + x + j), none⟩ = some (.int .i64 (l.getD (q + x + j) 0)) := by rw [hbel.cell (p := ⟨pb, poff + (q + x + j), none⟩) HPB.out, HC.out (q + x + j) (by have := HPN.out; have := HYA.out; omega)]
            obtain ⟨z, hz⟩ : ∃ z, z = l.getD (q + x + j) 0 := ⟨_, rfl⟩
            rw [← hz] at cl hv
            have HNX : Hid (tpL l a x y 8 (j + 1) = tpL l a x y 8 j ++ [z]) := Lib.hid (by rw [tpL, hv])
            have hyA := HYA.out
            have i1 : IntKind.i64.wrap ((q : Int) + (x : Int)) = (q : Int) + (x : Int) := IntWalk.i64_in _ (by omega)
            have i2 : IntKind.i64.wrap ((q : Int) + (x : Int) + (j : Int)) = (q : Int) + (x : Int) + (j : Int) := IntWalk.i64_in _ (by omega)
            have i3 : (0 : Int) ≤ (q : Int) + (x : Int) + (j : Int) := by omega
            have i4 : (q : Int) + (x : Int) + (j : Int) < (pn : Int) := by omega
            have i5 : ((q : Int) + (x : Int) + (j : Int)).toNat = q + x + j := by omega
            clear hz hv
            go_wp2_with (at_builtin; refine append_int wr rfl (.tmp 121) (.tmp 123) 24 rfl (w1.heap.size + 1) 3 i0 Try.underlying24 hi hz0 hz1 hz2 _ _ _ rfl hownT z rfl rfl (by omega) hsz ?_; intro v' w' hown' hgr hvb; obtain ⟨Av, cv, hve⟩ := own_form5 hown'; subst hve; have hgr : World.grownBy wr w' (Value.ownBlock _) := hgr; have hk' := (hgr.block w1.heap.size lt1 (fun e => by have := (hownT.lt _ e.symm).1; omega)).trans hk; obtain ⟨k0, k1, k2, k3, k4⟩ := cells5 hk'; obtain ⟨f0, f1, f2, f3, f4⟩ := frozen5 hk')
            have hk2 := heap_setCell_same w' w1.heap.size 0 _ _ (.slice Av (j + 1) cv) hk'
            have gb := grown_cell w' w1.heap.size 0 (.slice Av (j + 1) cv)
            have hk3 := (gb.block w.heap.size (by have := hgr.size; omega) (fun e => by have := Option.some.inj e; have := S1.out; omega)).trans ((hgr.block w.heap.size lt0 (fun e => by have := (hownT.lt _ e.symm).1; have := S1.out; omega)).trans hk0)
            have hk4 := (gb.block (w.heap.size + 1) (by have := hgr.size; omega) (fun e => by have := Option.some.inj e; have := S1.out; omega)).trans ((hgr.block (w.heap.size + 1) lt2 (fun e => by have := (hownT.lt _ e.symm).1; have := S1.out; omega)).trans hk1)
            have hown2 := hown'.kept gb (.inr fun e => by have := (hown'.lt _ e).1; omega)
            have hownL2 := (hownL.kept hgr (apart_ne hap)).kept gb (.inr fun e => by have := (hownL.lt _ e).1; omega)
            have hap2 := grow_apart hap hvb (fun k hk => by have := (hownL.lt k hk).2; omega)
            have hb5 := (hbel.grown hgr hbel.size fun k hk => by have := (hownT.lt k hk).1; have := S1.out; omega).grown gb (Nat.le_trans hbel.size hgr.size) fun k hk => by have := Option.some.inj hk; have := S1.out; omega
            have HK2 := Lib.hid hk2; have HK3 := Lib.hid hk3; have HK4 := Lib.hid hk4; have HO2 := Lib.hid hown2; have HL2 := Lib.hid hownL2; have HP2 := Lib.hid hap2; have HB5 := Lib.hid hb5; have HS5 : Hid (w1.heap.size + 1 ≤ (w'.setCell ⟨w1.heap.size, 0, none⟩ (.slice Av (j + 1) cv)).heap.size) := Lib.hid (by have := hgr.size; rw [size_set]; omega)
            clear hk2 gb hk3 hk4 hown2 hownL2 hap2 hb5 hown' hgr hvb hownT hownL hap hbel hk hk0 hk1 hk'
            refine ⟨⟨_, _, _, _, _, _, _, _, _, _, _, _, _, _, _, _, _, _, _, _, _, _, _, _, _, _, _, _, _, _, _, _, _, _, _, _, _, _, _, _, _, _, _, _, _, _, _, _, _, _, _, _, _, _, _, _, _, ?rel, rfl⟩, ?measure⟩
            case rel => exact ⟨j + 1, .slice Av (j + 1) cv, by omega, by go_num, HK2.out, HK3.out, HK4.out, by rw [HNX.out]; exact HO2.out, HL2.out, HP2.out, HS5.out, HB5.out⟩
            case measure => simp [intOf]; omega
          · have d2 : decide ((j : Int) < 8) = false := by simp; omega
            have e8 : (y : Int).tmod 8 = ((y % 8 : Nat) : Int) := by rw [Int.tmod_eq_emod_of_nonneg (by omega)]; omega
            by_cases h8 : y % 8 = 0
            · have d8 : ((y : Int).tmod 8 == 0) = true := by rw [e8, h8]; rfl
              by_cases hxa : x + j < a
              · have d3 : decide ((x : Int) + (j : Int) < (a : Int)) = true := by simp; omega
                clear e8
                have hv : tpV l a x y 8 (tpL l a x y 8 j) j = l.getD (q + x + j) 0 := by rw [tpV, if_neg (by omega), if_pos (.inr ⟨h8, hxa⟩), HQ.out]
                have cl : wr.cell? ⟨pb, poff + (q + x + j), none⟩ = some (.int .i64 (l.getD (q + x + j) 0)) := by rw [hbel.cell (p := ⟨pb, poff + (q + x + j), none⟩) HPB.out, HC.out (q + x + j) (by have := HPN.out; have := HYA.out; omega)]
                obtain ⟨z, hz⟩ : ∃ z, z = l.getD (q + x + j) 0 := ⟨_, rfl⟩
                rw [← hz] at cl hv
                have HNX : Hid (tpL l a x y 8 (j + 1) = tpL l a x y 8 j ++ [z]) := Lib.hid (by rw [tpL, hv])
                have hyA := HYA.out
                have i1 : IntKind.i64.wrap ((q : Int) + (x : Int)) = (q : Int) + (x : Int) := IntWalk.i64_in _ (by omega)
                have i2 : IntKind.i64.wrap ((q : Int) + (x : Int) + (j : Int)) = (q : Int) + (x : Int) + (j : Int) := IntWalk.i64_in _ (by omega)
                have i3 : (0 : Int) ≤ (q : Int) + (x : Int) + (j : Int) := by omega
                have i4 : (q : Int) + (x : Int) + (j : Int) < (pn : Int) := by omega
                have i5 : ((q : Int) + (x : Int) + (j : Int)).toNat = q + x + j := by omega
                clear hz hv
                go_wp2_with (at_builtin; refine append_int wr rfl (.tmp 121) (.tmp 123) 24 rfl (w1.heap.size + 1) 3 i0 Try.underlying24 hi hz0 hz1 hz2 _ _ _ rfl hownT z rfl rfl (by omega) hsz ?_; intro v' w' hown' hgr hvb; obtain ⟨Av, cv, hve⟩ := own_form5 hown'; subst hve; have hgr : World.grownBy wr w' (Value.ownBlock _) := hgr; have hk' := (hgr.block w1.heap.size lt1 (fun e => by have := (hownT.lt _ e.symm).1; omega)).trans hk; obtain ⟨k0, k1, k2, k3, k4⟩ := cells5 hk'; obtain ⟨f0, f1, f2, f3, f4⟩ := frozen5 hk')
                have hk2 := heap_setCell_same w' w1.heap.size 0 _ _ (.slice Av (j + 1) cv) hk'
                have gb := grown_cell w' w1.heap.size 0 (.slice Av (j + 1) cv)
                have hk3 := (gb.block w.heap.size (by have := hgr.size; omega) (fun e => by have := Option.some.inj e; have := S1.out; omega)).trans ((hgr.block w.heap.size lt0 (fun e => by have := (hownT.lt _ e.symm).1; have := S1.out; omega)).trans hk0)
                have hk4 := (gb.block (w.heap.size + 1) (by have := hgr.size; omega) (fun e => by have := Option.some.inj e; have := S1.out; omega)).trans ((hgr.block (w.heap.size + 1) lt2 (fun e => by have := (hownT.lt _ e.symm).1; have := S1.out; omega)).trans hk1)
                have hown2 := hown'.kept gb (.inr fun e => by have := (hown'.lt _ e).1; omega)
                have hownL2 := (hownL.kept hgr (apart_ne hap)).kept gb (.inr fun e => by have := (hownL.lt _ e).1; omega)
                have hap2 := grow_apart hap hvb (fun k hk => by have := (hownL.lt k hk).2; omega)
                have hb5 := (hbel.grown hgr hbel.size fun k hk => by have := (hownT.lt k hk).1; have := S1.out; omega).grown gb (Nat.le_trans hbel.size hgr.size) fun k hk => by have := Option.some.inj hk; have := S1.out; omega
                have HK2 := Lib.hid hk2; have HK3 := Lib.hid hk3; have HK4 := Lib.hid hk4; have HO2 := Lib.hid hown2; have HL2 := Lib.hid hownL2; have HP2 := Lib.hid hap2; have HB5 := Lib.hid hb5; have HS5 : Hid (w1.heap.size + 1 ≤ (w'.setCell ⟨w1.heap.size, 0, none⟩ (.slice Av (j + 1) cv)).heap.size) := Lib.hid (by have := hgr.size; rw [size_set]; omega)
                clear hk2 gb hk3 hk4 hown2 hownL2 hap2 hb5 hown' hgr hvb hownT hownL hap hbel hk hk0 hk1 hk'
                refine ⟨⟨_, _, _, _, _, _, _, _, _, _, _, _, _, _, _, _, _, _, _, _, _, _, _, _, _, _, _, _, _, _, _, _, _, _, _, _, _, _, _, _, _, _, _, _, _, _, _, _, _, _, _, _, _, _, _, _, _, ?rel, rfl⟩, ?measure⟩
                case rel => exact ⟨j + 1, .slice Av (j + 1) cv, by omega, by go_num, HK2.out, HK3.out, HK4.out, by rw [HNX.out]; exact HO2.out, HL2.out, HP2.out, HS5.out, HB5.out⟩
                case measure => simp [intOf]; omega
              · have d3 : decide ((x : Int) + (j : Int) < (a : Int)) = false := by simp; omega
                clear e8
                have hv : tpV l a x y 8 (tpL l a x y 8 j) j = (tpL l a x y 8 j).getD (j - 1) 0 := by rw [tpV, if_neg (by omega), if_neg (by omega)]
                obtain ⟨AT, cT, rfl⟩ := own_form5 hownT
                obtain ⟨gt, rfl, -, ltg, hncT⟩ := own_where5 hownT (by omega)
                have cl : wr.cell? ⟨gt, j - 1, none⟩ = some (.int .i64 ((tpL l a x y 8 j).getD (j - 1) 0)) := (World.ownsRow.cellAt hownT (j - 1) (by omega)).trans (ivs_at _ (j - 1) (by rw [lenT]; omega))
                obtain ⟨z, hz⟩ : ∃ z, z = (tpL l a x y 8 j).getD (j - 1) 0 := ⟨_, rfl⟩
                rw [← hz] at cl hv
                have HNX : Hid (tpL l a x y 8 (j + 1) = tpL l a x y 8 j ++ [z]) := Lib.hid (by rw [tpL, hv])
                have i1 : ((j : Int) - 1).toNat = j - 1 := by omega
                have i2 : (0 : Int) ≤ (j : Int) - 1 := by omega
                have i3 : (j : Int) - 1 < (j : Int) := by omega
                have i4 : IntKind.i64.wrap ((j : Int) - 1) = (j : Int) - 1 := IntWalk.i64_in _ (by omega)
                clear hz hv
                go_wp2_with (at_builtin; refine append_int wr rfl (.tmp 121) (.tmp 123) 24 rfl (w1.heap.size + 1) 3 i0 Try.underlying24 hi hz0 hz1 hz2 _ _ _ rfl hownT z rfl rfl (by omega) hsz ?_; intro v' w' hown' hgr hvb; obtain ⟨Av, cv, hve⟩ := own_form5 hown'; subst hve; have hgr : World.grownBy wr w' (Value.ownBlock _) := hgr; have hk' := (hgr.block w1.heap.size lt1 (fun e => by have := (hownT.lt _ e.symm).1; omega)).trans hk; obtain ⟨k0, k1, k2, k3, k4⟩ := cells5 hk'; obtain ⟨f0, f1, f2, f3, f4⟩ := frozen5 hk')
                have hk2 := heap_setCell_same w' w1.heap.size 0 _ _ (.slice Av (j + 1) cv) hk'
                have gb := grown_cell w' w1.heap.size 0 (.slice Av (j + 1) cv)
                have hk3 := (gb.block w.heap.size (by have := hgr.size; omega) (fun e => by have := Option.some.inj e; have := S1.out; omega)).trans ((hgr.block w.heap.size lt0 (fun e => by have := (hownT.lt _ e.symm).1; have := S1.out; omega)).trans hk0)
                have hk4 := (gb.block (w.heap.size + 1) (by have := hgr.size; omega) (fun e => by have := Option.some.inj e; have := S1.out; omega)).trans ((hgr.block (w.heap.size + 1) lt2 (fun e => by have := (hownT.lt _ e.symm).1; have := S1.out; omega)).trans hk1)
                have hown2 := hown'.kept gb (.inr fun e => by have := (hown'.lt _ e).1; omega)
                have hownL2 := (hownL.kept hgr (apart_ne hap)).kept gb (.inr fun e => by have := (hownL.lt _ e).1; omega)
                have hap2 := grow_apart hap hvb (fun k hk => by have := (hownL.lt k hk).2; omega)
                have hb5 := (hbel.grown hgr hbel.size fun k hk => by have := (hownT.lt k hk).1; have := S1.out; omega).grown gb (Nat.le_trans hbel.size hgr.size) fun k hk => by have := Option.some.inj hk; have := S1.out; omega
                have HK2 := Lib.hid hk2; have HK3 := Lib.hid hk3; have HK4 := Lib.hid hk4; have HO2 := Lib.hid hown2; have HL2 := Lib.hid hownL2; have HP2 := Lib.hid hap2; have HB5 := Lib.hid hb5; have HS5 : Hid (w1.heap.size + 1 ≤ (w'.setCell ⟨w1.heap.size, 0, none⟩ (.slice Av (j + 1) cv)).heap.size) := Lib.hid (by have := hgr.size; rw [size_set]; omega)
                clear hk2 gb hk3 hk4 hown2 hownL2 hap2 hb5 hown' hgr hvb hownT hownL hap hbel hk hk0 hk1 hk'
                refine ⟨⟨_, _, _, _, _, _, _, _, _, _, _, _, _, _, _, _, _, _, _, _, _, _, _, _, _, _, _, _, _, _, _, _, _, _, _, _, _, _, _, _, _, _, _, _, _, _, _, _, _, _, _, _, _, _, _, _, _, ?rel, rfl⟩, ?measure⟩
                case rel => exact ⟨j + 1, .slice Av (j + 1) cv, by omega, by go_num, HK2.out, HK3.out, HK4.out, by rw [HNX.out]; exact HO2.out, HL2.out, HP2.out, HS5.out, HB5.out⟩
                case measure => simp [intOf]; omega
            · have d8 : ((y : Int).tmod 8 == 0) = false := by rw [e8, beq_eq_false_iff_ne]; omega
              clear e8
              have hv : tpV l a x y 8 (tpL l a x y 8 j) j = (tpL l a x y 8 j).getD (j - 1) 0 := by rw [tpV, if_neg (by omega), if_neg (by omega)]
              obtain ⟨AT, cT, rfl⟩ := own_form5 hownT
              obtain ⟨gt, rfl, -, ltg, hncT⟩ := own_where5 hownT (by omega)
              have cl : wr.cell? ⟨gt, j - 1, none⟩ = some (.int .i64 ((tpL l a x y 8 j).getD (j - 1) 0)) := (World.ownsRow.cellAt hownT (j - 1) (by omega)).trans (ivs_at _ (j - 1) (by rw [lenT]; omega))
              obtain ⟨z, hz⟩ : ∃ z, z = (tpL l a x y 8 j).getD (j - 1) 0 := ⟨_, rfl⟩
              rw [← hz] at cl hv
              have HNX : Hid (tpL l a x y 8 (j + 1) = tpL l a x y 8 j ++ [z]) := Lib.hid (by rw [tpL, hv])
              have i1 : ((j : Int) - 1).toNat = j - 1 := by omega
              have i2 : (0 : Int) ≤ (j : Int) - 1 := by omega
              have i3 : (j : Int) - 1 < (j : Int) := by omega
              have i4 : IntKind.i64.wrap ((j : Int) - 1) = (j : Int) - 1 := IntWalk.i64_in _ (by omega)
              clear hz hv
              go_wp2_with (at_builtin; refine append_int wr rfl (.tmp 121) (.tmp 123) 24 rfl (w1.heap.size + 1) 3 i0 Try.underlying24 hi hz0 hz1 hz2 _ _ _ rfl hownT z rfl rfl (by omega) hsz ?_; intro v' w' hown' hgr hvb; obtain ⟨Av, cv, hve⟩ := own_form5 hown'; subst hve; have hgr : World.grownBy wr w' (Value.ownBlock _) := hgr; have hk' := (hgr.block w1.heap.size lt1 (fun e => by have := (hownT.lt _ e.symm).1; omega)).trans hk; obtain ⟨k0, k1, k2, k3, k4⟩ := cells5 hk'; obtain ⟨f0, f1, f2, f3, f4⟩ := frozen5 hk')
              have hk2 := heap_setCell_same w' w1.heap.size 0 _ _ (.slice Av (j + 1) cv) hk'
              have gb := grown_cell w' w1.heap.size 0 (.slice Av (j + 1) cv)
              have hk3 := (gb.block w.heap.size (by have := hgr.size; omega) (fun e => by have := Option.some.inj e; have := S1.out; omega)).trans ((hgr.block w.heap.size lt0 (fun e => by have := (hownT.lt _ e.symm).1; have := S1.out; omega)).trans hk0)
              have hk4 := (gb.block (w.heap.size + 1) (by have := hgr.size; omega) (fun e => by have := Option.some.inj e; have := S1.out; omega)).trans ((hgr.block (w.heap.size + 1) lt2 (fun e => by have := (hownT.lt _ e.symm).1; have := S1.out; omega)).trans hk1)
              have hown2 := hown'.kept gb (.inr fun e => by have := (hown'.lt _ e).1; omega)
              have hownL2 := (hownL.kept hgr (apart_ne hap)).kept gb (.inr fun e => by have := (hownL.lt _ e).1; omega)
              have hap2 := grow_apart hap hvb (fun k hk => by have := (hownL.lt k hk).2; omega)
              have hb5 := (hbel.grown hgr hbel.size fun k hk => by have := (hownT.lt k hk).1; have := S1.out; omega).grown gb (Nat.le_trans hbel.size hgr.size) fun k hk => by have := Option.some.inj hk; have := S1.out; omega
              have HK2 := Lib.hid hk2; have HK3 := Lib.hid hk3; have HK4 := Lib.hid hk4; have HO2 := Lib.hid hown2; have HL2 := Lib.hid hownL2; have HP2 := Lib.hid hap2; have HB5 := Lib.hid hb5; have HS5 : Hid (w1.heap.size + 1 ≤ (w'.setCell ⟨w1.heap.size, 0, none⟩ (.slice Av (j + 1) cv)).heap.size) := Lib.hid (by have := hgr.size; rw [size_set]; omega)
              clear hk2 gb hk3 hk4 hown2 hownL2 hap2 hb5 hown' hgr hvb hownT hownL hap hbel hk hk0 hk1 hk'
              refine ⟨⟨_, _, _, _, _, _, _, _, _, _, _, _, _, _, _, _, _, _, _, _, _, _, _, _, _, _, _, _, _, _, _, _, _, _, _, _, _, _, _, _, _, _, _, _, _, _, _, _, _, _, _, _, _, _, _, _, _, ?rel, rfl⟩, ?measure⟩
              case rel => exact ⟨j + 1, .slice Av (j + 1) cv, by omega, by go_num, HK2.out, HK3.out, HK4.out, by rw [HNX.out]; exact HO2.out, HL2.out, HP2.out, HS5.out, HB5.out⟩
              case measure => simp [intOf]; omega
        · obtain rfl : j = 16 := by omega
          obtain ⟨AT, cT, rfl⟩ := own_form5 hownT
          obtain ⟨AL, cL, rfl⟩ := own_form5 hownL
          obtain ⟨e0, e1, e2, e3, e4⟩ := cells5 hk
          obtain ⟨c0, c1, c2⟩ := cells3 hk0
          obtain ⟨r0, r1, r2, r3, r4⟩ := cells5 hk1
          obtain ⟨q0, q1, q2, q3, q4⟩ := frozen5 hk1
          have lt0 := heap_lt hk0; have lt1 := heap_lt hk; have lt2 := heap_lt hk1
          have gb := grown_five wr (w.heap.size + 1) (.slice AT 16 cT) (.slice AL 8 cL) (.int .i64 128) (.bool true) (.bool false)
          obtain ⟨m0, m1, m2, m3, m4⟩ := cells5 (put_five hk1 (.slice AT 16 cT) (.slice AL 8 cL) (.int .i64 128) (.bool true) (.bool false))
          have GB := Lib.hid gb; have HM := Lib.hid (And.intro m0 (And.intro m1 (And.intro m2 (And.intro m3 m4)))); have HOT := Lib.hid hownT; have HOL2 := Lib.hid hownL; have HAP := Lib.hid hap; have HBE := Lib.hid hbel
          clear gb m0 m1 m2 m3 m4 hownT hownL hap hbel hk hk0 hk1
          go_wp2
          obtain ⟨m0, m1, m2, m3, m4⟩ := HM.out
          have ot := HOT.out.kept GB.out (.inr fun e => by have := (HOT.out.lt _ e).1; have := S1.out; omega)
          have ol := HOL2.out.kept GB.out (.inr fun e => by have := (HOL2.out.lt _ e).1; have := S1.out; omega)
          have bz := HBE.out.grown GB.out HBE.out.size fun k hk => by have := Option.some.inj hk; omega
          refine bodyPost_ret (v := .agg #[.slice AT 16 cT, .slice AL 8 cL, .int .i64 128, .bool true, .bool false]) (by simp [results, Try.results23, go_sem, m0, m1, m2, m3, m4]) rfl ⟨AT, cT, AL, cL, rfl, ⟨?_, ?_, ?_⟩, bz⟩
          · exact own_back5 (own_lower ot (by have := S1.out; omega)) (tpL_len l a x y 8 16)
          · exact own_back5 (own_lower ol (by have := S1.out; omega)) (leL_len l a x y 8)
          · rw [tpL_len, leL_len]; exact HAP.out

set_option maxRecDepth 100000 in
set_option maxHeartbeats 4000000 in
theorem spec_nbat_8_10 (a b x y : Nat) (pb poff pn ca : Nat) (l : List Int) (hpn : pn = l.length) (hin : inE (a : Int) (b : Int) l (x : Int) (y : Int) 8 = true) (hx : x + 8 ≤ a) (hy : y + 8 ≤ b) (ha : a ≤ 32) (hb : b ≤ 32) (hl : l.length = a * b) (hxp : 0 < x) (hyp : y = 0) (w : World) (hpb : pb < w.heap.size) (hc : ∀ j, j < l.length → w.cell? ⟨pb, poff + j, none⟩ = some (.int .i64 (l.getD j 0))) :
    Calls Try.prog 23 #[.agg #[.int .i64 (a : Int), .int .i64 (b : Int), .slice (some ⟨pb, poff, none⟩) pn ca], .int .i64 (x : Int), .int .i64 (y : Int), .int .i64 8] w fun e w' => ∃ A cA B cB, e = .returned (.agg #[.slice A 16 cA, .slice B 8 cB, .int .i64 (coV l a x y), .bool false, .bool true]) ∧ NbTwo w' w.heap.size A cA B cB (tpL l a x y 8 16) (leL l a x y 8) ∧ Below w.heap.size w w' := by
  obtain ⟨i0, hi, hz0, hz1, hz2⟩ := info_parts Try.iinfo
  have hI : Ints w w.heap.size (some ⟨pb, poff, none⟩) l := ⟨by have := Nat.mul_le_mul ha hb; omega, .inr ⟨pb, poff, rfl, hpb, hc⟩⟩
  have IN := Lib.hid fun w h => spec_l18in_any (a : Int) (b : Int) (some ⟨pb, poff, none⟩) ca l (x : Int) (y : Int) 8 w h
  rw [hin] at IN
  rw [← hpn] at IN
  have hab : a * b ≤ 32 * 32 := Nat.mul_le_mul ha hb
  have hb2 := below_two w (.cells #[.int .i64 (a : Int), .int .i64 (b : Int), .slice (some ⟨pb, poff, none⟩) pn ca] 26) (.cells #[.slice none 0 0, .slice none 0 0, .int .i64 0, .bool false, .bool false] 38)
  obtain ⟨g0, g1⟩ := heap_two w (.cells #[.int .i64 (a : Int), .int .i64 (b : Int), .slice (some ⟨pb, poff, none⟩) pn ca] 26) (.cells #[.slice none 0 0, .slice none 0 0, .int .i64 0, .bool false, .bool false] 38)
  have hsz : ((w.alloc (.cells #[.int .i64 (a : Int), .int .i64 (b : Int), .slice (some ⟨pb, poff, none⟩) pn ca] 26)).alloc (.cells #[.slice none 0 0, .slice none 0 0, .int .i64 0, .bool false, .bool false] 38)).heap.size = w.heap.size + 1 + 1 := by simp
  have I2 := Lib.hid ((hI.below hb2 (Nat.le_refl _)).mono hb2.size)
  have HC := Lib.hid hc; have HPN := Lib.hid hpn; have HPB := Lib.hid hpb; have HL := Lib.hid hl; have B2 := Lib.hid hb2; have G0 := Lib.hid g0; have G1 := Lib.hid g1; have SZ := Lib.hid hsz
  have hyb : ∀ k, k < 8 → (y + k) * a + x + 8 ≤ pn ∧ (y + k) * a ≤ 1024 := fun k hk => by
    have h1 : (y + k + 1) * a ≤ b * a := Nat.mul_le_mul_right a (by omega)
    rw [Nat.mul_comm b a] at h1
    rw [Nat.add_mul, Nat.one_mul] at h1
    omega
  have HYB := Lib.hid hyb
  have dx : decide (0 < (x : Int)) = true := by simp; omega
  have dy : decide (0 < (y : Int)) = false := by simp; omega
  rw [show coV l a x y = 128 by rw [coV, if_neg (by omega)]]
  have HYP := Lib.hid hyp; have ny0 : ¬ 0 < y := by omega
  clear hb2 g0 g1 hsz hl hpn hin hI hc hyb hab hyp
  go_enter Try.func23, Try.ntmps23
  go_wp2_with fail
  refine (IN.out _ I2.out).mono ?_
  rintro e w1 ⟨rfl, hb1⟩
  have B3 := Lib.hid (below_up B2.out hb1 B2.out.size)
  have S1 : Hid (w.heap.size + 1 + 1 ≤ w1.heap.size) := Lib.hid (by have := hb1.size; have h2 := SZ.out; omega)
  have k0 := cell_kept G0.out hb1
  have k1 := cell_kept G1.out hb1
  have K0 := Lib.hid k0; have K1 := Lib.hid k1
  obtain ⟨c0, c1, c2⟩ := cells3 k0
  clear hb1 k0 k1
  have nb := below_new w1 (.cells #[.slice none 0 0, .slice none 0 0, .int .i64 128, .bool false, .bool true] 38)
  have hk := heap_alloc_new w1 (.cells #[.slice none 0 0, .slice none 0 0, .int .i64 128, .bool false, .bool true] 38)
  have B4 := Lib.hid (below_up B3.out nb B3.out.size); have HK := Lib.hid hk; have K0a := Lib.hid (cell_kept K0.out nb); have K1a := Lib.hid (cell_kept K1.out nb)
  have ON := Lib.hid (World.ownsRow_nil (w1.alloc (.cells #[.slice none 0 0, .slice none 0 0, .int .i64 128, .bool false, .bool true] 38)) (w1.heap.size + 1) 3 1)
  have SA : Hid (w1.heap.size + 1 ≤ (w1.alloc (.cells #[.slice none 0 0, .slice none 0 0, .int .i64 128, .bool false, .bool true] 38)).heap.size) := Lib.hid (by simp)
  clear nb hk
  go_wp2
  go_loopw [10, 11] (fun i v wr => ∃ (j : Nat) (vL : Value), j ≤ 8 ∧ i = .int .i64 j ∧ wr.heap[w1.heap.size]? = some (.cells #[.slice none 0 0, vL, .int .i64 128, .bool false, .bool true] 38 (0, 0)) ∧ wr.heap[w.heap.size]? = some (.cells #[.int .i64 (a : Int), .int .i64 (b : Int), .slice (some ⟨pb, poff, none⟩) pn ca] 26 (0, 0)) ∧ wr.heap[w.heap.size + 1]? = some (.cells #[.slice none 0 0, .slice none 0 0, .int .i64 0, .bool false, .bool false] 38 (0, 0)) ∧ wr.ownsRow (w1.heap.size + 1) 3 1 vL j (ivs (leL l a x y j)) ∧ w1.heap.size + 1 ≤ wr.heap.size ∧ Below w.heap.size w wr)
    (fun i _ _ => 8 - (intOf i).toNat)
  case atStart => exact ⟨0, .slice none 0 0, Nat.zero_le _, rfl, HK.out, K0a.out, K1a.out, ON.out, SA.out, B4.out⟩
  case round =>
    obtain ⟨j, vL, hj, rfl, hk, hk0, hk1, hown, hsz, hbel⟩ := hrel
    by_cases hlt : j < 8
    · have d1 : decide ((j : Int) < 8) = true := by simp; omega
      have HNX := Lib.hid (leL_next l a x y j)
      obtain ⟨r, hr⟩ : ∃ r, r = (y + j) * a := ⟨_, rfl⟩
      have hrb := HYB.out j hlt
      rw [← hr] at hrb
      have hw1 : IntKind.i64.wrap (((y : Int) + (j : Int)) * (a : Int)) = (r : Int) := by
        rw [show ((y : Int) + (j : Int)) * (a : Int) = (r : Int) by rw [hr, Int.natCast_mul, Int.natCast_add]]
        exact IntWalk.i64_in _ (by omega)
      have hv : leF l a x y j = l.getD (r + x - 1) 0 := by rw [leF, if_pos hxp, hr]
      have cl : wr.cell? ⟨pb, poff + (r + x - 1), none⟩ = some (.int .i64 (leF l a x y j)) := by rw [hbel.cell (p := ⟨pb, poff + (r + x - 1), none⟩) HPB.out, HC.out (r + x - 1) (by have := HPN.out; omega), hv]
      have i1 : IntKind.i64.wrap ((r : Int) + (x : Int)) = (r : Int) + (x : Int) := IntWalk.i64_in _ (by omega)
      have i2 : IntKind.i64.wrap ((r : Int) + (x : Int) - 1) = (r : Int) + (x : Int) - 1 := IntWalk.i64_in _ (by omega)
      have i3 : (0 : Int) ≤ (r : Int) + (x : Int) - 1 := by omega
      have i4 : (r : Int) + (x : Int) - 1 < (pn : Int) := by omega
      have i5 : ((r : Int) + (x : Int) - 1).toNat = r + x - 1 := by omega
      have hyj : IntKind.i64.wrap ((y : Int) + (j : Int)) = (y : Int) + (j : Int) := IntWalk.i64_in _ (by omega)
      clear hr hv
      obtain ⟨z, hz⟩ : ∃ z, z = leF l a x y j := ⟨_, rfl⟩
      rw [← hz] at cl HNX
      obtain ⟨c0, c1, c2⟩ := cells3 hk0
      obtain ⟨e0, e1, e2, e3, e4⟩ := cells5 hk
      have lt0 := heap_lt hk0; have lt1 := heap_lt hk; have ltp : pb < wr.heap.size := Nat.lt_of_lt_of_le HPB.out hbel.size
      clear hz
      go_wp2_with (at_builtin; refine append_int wr rfl (.tmp 66) (.tmp 68) 24 rfl (w1.heap.size + 1) 3 i0 Try.underlying24 hi hz0 hz1 hz2 _ _ _ rfl hown z rfl rfl (by omega) hsz ?_; intro v' w' hown' hgr hvb; obtain ⟨Av, cv, hve⟩ := own_form5 hown'; subst hve; have hgr : World.grownBy wr w' (Value.ownBlock vL) := hgr; have hk' := (hgr.block w1.heap.size lt1 (fun e => by have := (hown.lt _ e.symm).1; omega)).trans hk; obtain ⟨k0, k1, k2, k3, k4⟩ := cells5 hk'; obtain ⟨f0, f1, f2, f3, f4⟩ := frozen5 hk')
      have hk2 := heap_setCell_same w' w1.heap.size 1 _ _ (.slice Av (j + 1) cv) hk'
      have gb := grown_cell w' w1.heap.size 1 (.slice Av (j + 1) cv)
      have hk3 := (gb.block w.heap.size (by have := hgr.size; omega) (fun e => by have := Option.some.inj e; have := S1.out; omega)).trans ((hgr.block w.heap.size lt0 (fun e => by have := (hown.lt _ e.symm).1; have := S1.out; omega)).trans hk0)
      have hk4 := (gb.block (w.heap.size + 1) (by have := hgr.size; have := S1.out; omega) (fun e => by have := Option.some.inj e; have := S1.out; omega)).trans ((hgr.block (w.heap.size + 1) (heap_lt hk1) (fun e => by have := (hown.lt _ e.symm).1; have := S1.out; omega)).trans hk1)
      have hown2 := hown'.kept gb (.inr fun e => by have := (hown'.lt _ e).1; omega)
      have hb5 := (hbel.grown hgr hbel.size fun k hk => by have := (hown.lt k hk).1; have := S1.out; omega).grown gb (Nat.le_trans hbel.size hgr.size) fun k hk => by have := Option.some.inj hk; have := S1.out; omega
      have HK2 := Lib.hid hk2; have HK3 := Lib.hid hk3; have HK4 := Lib.hid hk4; have HO2 := Lib.hid hown2; have HB5 := Lib.hid hb5; have HS5 : Hid (w1.heap.size + 1 ≤ (w'.setCell ⟨w1.heap.size, 1, none⟩ (.slice Av (j + 1) cv)).heap.size) := Lib.hid (by have := hgr.size; rw [size_set]; omega)
      clear hk2 gb hk3 hk4 hown2 hb5 hown' hgr hvb hown hbel hk hk0 hk1 hk'
      go_roundw
      case rel => exact ⟨j + 1, .slice Av (j + 1) cv, by omega, by go_num, HK2.out, HK3.out, HK4.out, by rw [HNX.out]; exact HO2.out, HS5.out, HB5.out⟩
      case measure => simp [intOf]; omega
    · obtain rfl : j = 8 := by omega
      have HKA := Lib.hid hk; have HKB := Lib.hid hk0; have HKC := Lib.hid hk1; have HOL := Lib.hid hown; have HSA := Lib.hid hsz; have HBA := Lib.hid hbel
      have ON2 := Lib.hid (World.ownsRow_nil wr (w1.heap.size + 1) 3 1)
      clear hk hk0 hk1 hown hsz hbel
      go_wp2
      go_loopw [12, 13] (fun i v wr => ∃ (j : Nat) (vT : Value), j ≤ 16 ∧ i = .int .i64 j ∧ wr.heap[w1.heap.size]? = some (.cells #[vT, vL, .int .i64 128, .bool false, .bool true] 38 (0, 0)) ∧ wr.heap[w.heap.size]? = some (.cells #[.int .i64 (a : Int), .int .i64 (b : Int), .slice (some ⟨pb, poff, none⟩) pn ca] 26 (0, 0)) ∧ wr.heap[w.heap.size + 1]? = some (.cells #[.slice none 0 0, .slice none 0 0, .int .i64 0, .bool false, .bool false] 38 (0, 0)) ∧ wr.ownsRow (w1.heap.size + 1) 3 1 vT j (ivs (tpL l a x y 8 j)) ∧ wr.ownsRow (w1.heap.size + 1) 3 1 vL 8 (ivs (leL l a x y 8)) ∧ (∀ k, vT.ownBlock = some k → vL.ownBlock = some k → False) ∧ w1.heap.size + 1 ≤ wr.heap.size ∧ Below w.heap.size w wr)
        (fun i _ _ => 16 - (intOf i).toNat)
      case atStart => exact ⟨0, .slice none 0 0, Nat.zero_le _, rfl, HKA.out, HKB.out, HKC.out, ON2.out, HOL.out, fun k h1 _ => by simp [Value.ownBlock] at h1, HSA.out, HBA.out⟩
      case round =>
        obtain ⟨j, vT, hj2, rfl, hk, hk0, hk1, hownT, hownL, hap, hsz, hbel⟩ := hrel
        have lenT := tpL_len l a x y 8 j
        by_cases hlt : j < 16
        · have d1 : decide ((j : Int) < 16) = true := by simp; omega
          obtain ⟨c0, c1, c2⟩ := cells3 hk0
          obtain ⟨e0, e1, e2, e3, e4⟩ := cells5 hk
          have lt0 := heap_lt hk0; have lt1 := heap_lt hk; have lt2 := heap_lt hk1; have ltp : pb < wr.heap.size := Nat.lt_of_lt_of_le HPB.out hbel.size
          have HNX : Hid (tpL l a x y 8 (j + 1) = tpL l a x y 8 j ++ [128]) := Lib.hid (by rw [tpL, tpV, if_pos HYP.out])
          go_wp2_with (at_builtin; refine append_int wr rfl (.tmp 121) (.tmp 123) 24 rfl (w1.heap.size + 1) 3 i0 Try.underlying24 hi hz0 hz1 hz2 _ _ _ rfl hownT 128 rfl rfl (by omega) hsz ?_; intro v' w' hown' hgr hvb; obtain ⟨Av, cv, hve⟩ := own_form5 hown'; subst hve; have hgr : World.grownBy wr w' (Value.ownBlock _) := hgr; have hk' := (hgr.block w1.heap.size lt1 (fun e => by have := (hownT.lt _ e.symm).1; omega)).trans hk; obtain ⟨k0, k1, k2, k3, k4⟩ := cells5 hk'; obtain ⟨f0, f1, f2, f3, f4⟩ := frozen5 hk')
          have hk2 := heap_setCell_same w' w1.heap.size 0 _ _ (.slice Av (j + 1) cv) hk'
          have gb := grown_cell w' w1.heap.size 0 (.slice Av (j + 1) cv)
          have hk3 := (gb.block w.heap.size (by have := hgr.size; omega) (fun e => by have := Option.some.inj e; have := S1.out; omega)).trans ((hgr.block w.heap.size lt0 (fun e => by have := (hownT.lt _ e.symm).1; have := S1.out; omega)).trans hk0)
          have hk4 := (gb.block (w.heap.size + 1) (by have := hgr.size; omega) (fun e => by have := Option.some.inj e; have := S1.out; omega)).trans ((hgr.block (w.heap.size + 1) lt2 (fun e => by have := (hownT.lt _ e.symm).1; have := S1.out; omega)).trans hk1)
          have hown2 := hown'.kept gb (.inr fun e => by have := (hown'.lt _ e).1; omega)
          have hownL2 := (hownL.kept hgr (apart_ne hap)).kept gb (.inr fun e => by have := (hownL.lt _ e).1; omega)
          have hap2 := grow_apart hap hvb (fun k hk => by have := (hownL.lt k hk).2; omega)
          have hb5 := (hbel.grown hgr hbel.size fun k hk => by have := (hownT.lt k hk).1; have := S1.out; omega).grown gb (Nat.le_trans hbel.size hgr.size) fun k hk => by have := Option.some.inj hk; have := S1.out; omega
          have HK2 := Lib.hid hk2; have HK3 := Lib.hid hk3; have HK4 := Lib.hid hk4; have HO2 := Lib.hid hown2; have HL2 := Lib.hid hownL2; have HP2 := Lib.hid hap2; have HB5 := Lib.hid hb5; have HS5 : Hid (w1.heap.size + 1 ≤ (w'.setCell ⟨w1.heap.size, 0, none⟩ (.slice Av (j + 1) cv)).heap.size) := Lib.hid (by have := hgr.size; rw [size_set]; omega)
          clear hk2 gb hk3 hk4 hown2 hownL2 hap2 hb5 hown' hgr hvb hownT hownL hap hbel hk hk0 hk1 hk'
          refine ⟨⟨_, _, _, _, _, _, _, _, _, _, _, _, _, _, _, _, _, _, _, _, _, _, _, _, _, _, _, _, _, _, _, _, _, _, _, _, _, _, _, _, _, _, _, _, _, _, _, _, _, _, _, _, _, _, _, _, _, ?rel, rfl⟩, ?measure⟩
          case rel => exact ⟨j + 1, .slice Av (j + 1) cv, by omega, by go_num, HK2.out, HK3.out, HK4.out, by rw [HNX.out]; exact HO2.out, HL2.out, HP2.out, HS5.out, HB5.out⟩
          case measure => simp [intOf]; omega
        · obtain rfl : j = 16 := by omega
          obtain ⟨AT, cT, rfl⟩ := own_form5 hownT
          obtain ⟨AL, cL, rfl⟩ := own_form5 hownL
          obtain ⟨e0, e1, e2, e3, e4⟩ := cells5 hk
          obtain ⟨c0, c1, c2⟩ := cells3 hk0
          obtain ⟨r0, r1, r2, r3, r4⟩ := cells5 hk1
          obtain ⟨q0, q1, q2, q3, q4⟩ := frozen5 hk1
          have lt0 := heap_lt hk0; have lt1 := heap_lt hk; have lt2 := heap_lt hk1
          have gb := grown_five wr (w.heap.size + 1) (.slice AT 16 cT) (.slice AL 8 cL) (.int .i64 128) (.bool false) (.bool true)
          obtain ⟨m0, m1, m2, m3, m4⟩ := cells5 (put_five hk1 (.slice AT 16 cT) (.slice AL 8 cL) (.int .i64 128) (.bool false) (.bool true))
          have GB := Lib.hid gb; have HM := Lib.hid (And.intro m0 (And.intro m1 (And.intro m2 (And.intro m3 m4)))); have HOT := Lib.hid hownT; have HOL2 := Lib.hid hownL; have HAP := Lib.hid hap; have HBE := Lib.hid hbel
          clear gb m0 m1 m2 m3 m4 hownT hownL hap hbel hk hk0 hk1
          go_wp2
          obtain ⟨m0, m1, m2, m3, m4⟩ := HM.out
          have ot := HOT.out.kept GB.out (.inr fun e => by have := (HOT.out.lt _ e).1; have := S1.out; omega)
          have ol := HOL2.out.kept GB.out (.inr fun e => by have := (HOL2.out.lt _ e).1; have := S1.out; omega)
          have bz := HBE.out.grown GB.out HBE.out.size fun k hk => by have := Option.some.inj hk; omega
          refine bodyPost_ret (v := .agg #[.slice AT 16 cT, .slice AL 8 cL, .int .i64 128, .bool false, .bool true]) (by simp [results, Try.results23, go_sem, m0, m1, m2, m3, m4]) rfl ⟨AT, cT, AL, cL, rfl, ⟨?_, ?_, ?_⟩, bz⟩
          · exact own_back5 (own_lower ot (by have := S1.out; omega)) (tpL_len l a x y 8 16)
          · exact own_back5 (own_lower ol (by have := S1.out; omega)) (leL_len l a x y 8)
          · rw [tpL_len, leL_len]; exact HAP.out
end Go.Proofs.Ytemfiglflbfocaa
