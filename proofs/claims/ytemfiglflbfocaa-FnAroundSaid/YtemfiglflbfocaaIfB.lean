/-
  Chapter 18: contracts of the program's rowPart and BlockAt. Condition: the samples are held (a slice is no longer than it holds); rowPart: the part lies within what is held.
-/
import Derived.Test.YtemfiglflbfocaaIfA
import Derived.Test.YtemfiglflbfocaaFrC
namespace Go.Proofs.Ytemfiglflbfocaa
open Go.RowKit
set_option linter.unusedVariables false

set_option maxRecDepth 100000 in
set_option maxHeartbeats 2000000 in
theorem impl_rowpart (a : Nat) (b : Int) (pb poff n ca : Nat) (x c q : Nat) (y : Int) (hq : y * (a : Int) = (q : Int)) (hq1 : q ≤ 2000) (hx : x ≤ 100) (hc : c ≤ 100) (hc1 : 1 ≤ c) (hle : q + x + c ≤ ca) (w : World) :
    Calls Try.prog 52 #[.agg #[.int .i64 (a : Int), .int .i64 b, .slice (some ⟨pb, poff, none⟩) n ca], .int .i64 (x : Int), .int .i64 y, .int .i64 (c : Int)] w fun e w' => e = .returned (.slice (some ⟨pb, poff + (q + x), none⟩) c (ca - (q + x))) ∧ Below w.heap.size w w' := by
  have hw1 : IntKind.i64.wrap (y * (a : Int)) = (q : Int) := by rw [hq]; exact IntWalk.i64_in _ (by omega)
  have hne : ¬ ca = q + x := by omega
  have ha0 : (q : Int) + (x : Int) ≤ (q : Int) + (x : Int) + (c : Int) := by omega
  have ha1 : (q : Int) + (x : Int) + (c : Int) ≤ (ca : Int) := by omega
  have ha2 : q + x + c ≤ ca := by omega
  have hp0 : (0 : Int) ≤ (q : Int) + (x : Int) := by omega
  have haw0 : IntKind.i64.wrap ((q : Int) + (x : Int)) = (q : Int) + (x : Int) := IntWalk.i64_in _ (by omega)
  have haw : IntKind.i64.wrap ((q : Int) + (x : Int) + (c : Int)) = (q : Int) + (x : Int) + (c : Int) := IntWalk.i64_in _ (by omega)
  have hat0 : ((q : Int) + (x : Int)).toNat = q + x := by omega
  have hat : ((q : Int) + (x : Int) + (c : Int)).toNat = q + x + c := by omega
  have had : q + x + c - (q + x) = c := by omega
  have BN := Lib.hid (below_new w (.cells #[.int .i64 (a : Int), .int .i64 b, .slice (some ⟨pb, poff, none⟩) n ca] 26))
  clear hq hle
  go_enter Try.func52, Try.ntmps52
  go_wp2
  go_ret
  exact ⟨rfl, BN.out⟩
set_option maxRecDepth 100000 in
set_option maxHeartbeats 4000000 in
theorem impl_blockat_4 (a b x y : Nat) (pb poff ca : Nat) (l : List Int) (hin : inE (a : Int) (b : Int) l (x : Int) (y : Int) 4 = true) (hx : x + 4 ≤ a) (hy : y + 4 ≤ b) (ha : a ≤ 32) (hb : b ≤ 32) (hl : l.length = a * b) (hca : l.length ≤ ca) (w : World) (hpb : pb < w.heap.size) (hc : ∀ j, j < l.length → w.cell? ⟨pb, poff + j, none⟩ = some (.int .i64 (l.getD j 0))) :
    Calls Try.prog 18 #[.agg #[.int .i64 (a : Int), .int .i64 (b : Int), .slice (some ⟨pb, poff, none⟩) l.length ca], .int .i64 (x : Int), .int .i64 (y : Int), .int .i64 4] w fun e w' => ∃ A' c, e = .returned (.slice A' 16 c) ∧ OwnI w' w.heap.size A' c (blkF l a x y 4) ∧ Below w.heap.size w w' := by
  obtain ⟨i0, hi, hz0, hz1, hz2⟩ := info_parts Try.iinfo
  have IN := Lib.hid fun w h => impl_hasblock_any (a : Int) (b : Int) (some ⟨pb, poff, none⟩) ca l (x : Int) (y : Int) 4 w h
  rw [hin] at IN
  have hab : a * b ≤ 32 * 32 := Nat.mul_le_mul ha hb
  have HK := Lib.hid (heap_alloc_new w (.cells #[.int .i64 (a : Int), .int .i64 (b : Int), .slice (some ⟨pb, poff, none⟩) l.length ca] 26))
  have BW := Lib.hid (below_new w (.cells #[.int .i64 (a : Int), .int .i64 (b : Int), .slice (some ⟨pb, poff, none⟩) l.length ca] 26))
  have hsz : (w.alloc (.cells #[.int .i64 (a : Int), .int .i64 (b : Int), .slice (some ⟨pb, poff, none⟩) l.length ca] 26)).heap.size = w.heap.size + 1 := by simp
  have I0 := Lib.hid (show Ints (w.alloc (.cells #[.int .i64 (a : Int), .int .i64 (b : Int), .slice (some ⟨pb, poff, none⟩) l.length ca] 26)) (w.alloc (.cells #[.int .i64 (a : Int), .int .i64 (b : Int), .slice (some ⟨pb, poff, none⟩) l.length ca] 26)).heap.size (some ⟨pb, poff, none⟩) l from ⟨by omega, .inr ⟨pb, poff, rfl, Nat.lt_of_lt_of_le hpb BW.out.size, fun j hj => by rw [BW.out.cell (p := ⟨pb, poff + j, none⟩) hpb]; exact hc j hj⟩⟩)
  have hmk : ∀ w : World, (Instr.makeSlice 24 (.int .i64 0) (.int .i64 16)).run Try.prog w = .ok (.slice (some ⟨w.heap.size, 0, none⟩) 0 16) (w.alloc (.cells (ivs (List.replicate 16 0)).toArray 3)) := fun _ => by kernel_rfl
  obtain ⟨z, hz⟩ : ∃ z : List Int, z = List.replicate 16 0 := ⟨_, rfl⟩
  simp only [← hz] at hmk
  have hzl : (ivs z).length = 16 := by rw [hz]; rfl
  have MK : Hid (∀ w : World, (w.alloc (.cells (ivs z).toArray 3)).ownsRow w.heap.size 3 1 (.slice (some ⟨w.heap.size, 0, none⟩) 0 16) 0 (ivs [])) := Lib.hid fun w => World.ownsRow_made w _ 16 (Nat.le_refl _) (by simp [maxLen]) (by simpa using hzl)
  have I3 : Hid (∀ wr q, q + 4 ≤ l.length → Below w.heap.size w wr → Ints wr wr.heap.size (some ⟨pb, poff + q, none⟩) ((l.drop q).take 4)) := Lib.hid fun wr q hq h => by
    refine ⟨by rw [List.length_take]; omega, .inr ⟨pb, poff + q, rfl, Nat.lt_of_lt_of_le hpb h.size, fun j hj => ?_⟩⟩
    rw [List.length_take, List.length_drop] at hj
    rw [h.cell (p := ⟨pb, poff + q + j, none⟩) hpb, Nat.add_assoc, hc (q + j) (by omega), drop_take_at (by omega)]
  have HNX := Lib.hid fun k (hk : k < 4) h => blk_row (l := l) (a := a) (x := x) (y := y) hk h
  have HCL := Lib.hid (blkF_len l a x y 4)
  have HAB : Hid (∀ k, k < 4 → (y + k) * a + x + 4 ≤ l.length ∧ (y + k) * a ≤ 1024) := Lib.hid fun k hk => by
    have h1 : (y + k + 1) * a ≤ b * a := Nat.mul_le_mul_right a (by omega)
    rw [Nat.mul_comm b a] at h1
    rw [Nat.add_mul, Nat.one_mul] at h1
    omega
  obtain ⟨C, hC⟩ : ∃ C, C = blkF l a x y 4 := ⟨_, rfl⟩
  rw [← hC] at HNX HCL ⊢
  have HTK : Hid (∀ q, q + 4 ≤ l.length → ((l.drop q).take 4).length = 4) := Lib.hid fun q hq => by rw [List.length_take, List.length_drop]; omega
  obtain ⟨pn, hpn⟩ : ∃ pn, pn = l.length := ⟨_, rfl⟩
  have HPN := Lib.hid hpn
  have hpm : pn ≤ 1024 := by omega
  have RP := Lib.hid (impl_rowpart a (b : Int) pb poff pn ca x 4)
  clear hC hsz hc hin hl hab hz hzl
  rw [← hpn] at hca
  clear hpn
  rw [← HPN.out] at IN HK BW I0 I3 HNX HAB HTK ⊢
  go_enter Try.func18, Try.ntmps18
  go_wp2_with fail
  refine (IN.out _ I0.out).mono ?_
  rintro e w1 ⟨rfl, hb1⟩
  have K1 := Lib.hid (cell_kept HK.out hb1)
  have B1 := Lib.hid (below_up BW.out hb1 BW.out.size)
  have O1 := Lib.hid (MK.out w1)
  have BA := Lib.hid (below_new w1 (.cells (ivs z).toArray 3))
  have S1 := Lib.hid (heap_lt K1.out)
  clear hb1
  go_wp2
  go_loopw [9, 10, 22] (fun v x10 x22 wr => ∃ k : Nat, k ≤ 4 ∧ x22 = .int .i64 k ∧ wr.ownsRow w1.heap.size 3 1 v (k * 4) (ivs (C.take (k * 4))) ∧ Below w1.heap.size w1 wr)
    (fun _ _ x22 _ => 4 - (intOf x22).toNat)
  case atStart => exact ⟨0, Nat.zero_le _, rfl, O1.out, BA.out⟩
  case round =>
    obtain ⟨k, hkN, rfl, hown, hbel⟩ := hrel
    by_cases hlt : k < 4
    · have d1 : decide ((k : Int) < 4) = true := by simp; omega
      obtain ⟨g1, g2⟩ := HAB.out k hlt
      have hnx := HNX.out k hlt g1
      have hyk : IntKind.i64.wrap ((y : Int) + (k : Int)) = (y : Int) + (k : Int) := IntWalk.i64_in _ (by omega)
      obtain ⟨q, hq⟩ : ∃ q, q = (y + k) * a := ⟨_, rfl⟩
      rw [← hq] at hnx g1 g2
      have RX := Lib.hid (RP.out q ((y : Int) + (k : Int)) (by rw [hq, Int.natCast_mul, Int.natCast_add]) (by omega) (by omega) (by decide) (by decide) (by omega))
      have TQ := HTK.out (q + x) g1
      have IQ := Lib.hid fun wr h => I3.out wr (q + x) g1 h
      obtain ⟨r, hr⟩ : ∃ r, r = (l.drop (q + x)).take 4 := ⟨_, rfl⟩
      rw [← hr] at hnx IQ TQ
      obtain ⟨qx, hqx⟩ : ∃ qx, qx = q + x := ⟨_, rfl⟩
      rw [← hqx] at RX IQ
      have HX := Lib.hid hnx; have HO := Lib.hid hown; have HB := Lib.hid (below_up B1.out hbel B1.out.size); have HZ := Lib.hid TQ
      have HBL := Lib.hid hbel
      have kk := (hbel.block w.heap.size S1.out).trans K1.out
      obtain ⟨c0, c1, c2⟩ := cells3 kk
      clear hq hr hqx hnx hown hbel TQ g1 g2 kk
      go_wp2_with fail
      refine (RX.out _).mono ?_
      rintro e wa ⟨rfl, hba⟩
      have OA := own_keep HO.out hba
      have HBA := Lib.hid (below_up HB.out hba HB.out.size)
      have HBB := Lib.hid (below_up HBL.out hba HBL.out.size)
      clear hba HO HB HBL c0 c1 c2
      go_wp2_with (at_builtin; refine append_ints_at rfl (.tmp 25) (.tmp 32) 24 rfl w1.heap.size i0 Try.underlying24 hi hz0 hz1 hz2 _ _ _ rfl OA _ _ _ r HZ.out.symm rfl _ (IQ.out _ HBA.out) (by rw [HZ.out]; decide) (by omega) HBB.out.size ?_; intro v' wb hownb hgr hfar; skip)
      have HO' := Lib.hid hownb; have HG := Lib.hid hgr; have HL' := Lib.hid OA.lt
      clear hownb hgr OA
      go_roundw
      case rel => exact ⟨k + 1, by omega, by go_num, by rw [Nat.add_mul, Nat.one_mul, HX.out]; exact HO'.out, HBB.out.grown HG.out HBB.out.size fun k hk => (HL'.out k hk).1⟩
      case measure => simp [intOf]; omega
    · obtain rfl : k = 4 := by omega
      have d1 : decide (((4 : Nat) : Int) < 4) = false := by decide
      have e1 : C.take (4 * 4) = C := List.take_of_length_le (by rw [HCL.out]; exact Nat.le_refl _)
      rw [e1] at hown
      obtain ⟨A3, c3, hv3, ho3⟩ := own_slice hown
      rw [HCL.out] at hv3
      subst hv3
      have O9 := Lib.hid (own_lower ho3 B1.out.size); have B9 := Lib.hid (below_up B1.out hbel B1.out.size)
      clear hown hbel ho3 e1
      go_wp2
      go_ret
      exact ⟨_, _, rfl, O9.out, B9.out⟩
set_option maxRecDepth 100000 in
set_option maxHeartbeats 4000000 in
theorem impl_blockat_8 (a b x y : Nat) (pb poff ca : Nat) (l : List Int) (hin : inE (a : Int) (b : Int) l (x : Int) (y : Int) 8 = true) (hx : x + 8 ≤ a) (hy : y + 8 ≤ b) (ha : a ≤ 32) (hb : b ≤ 32) (hl : l.length = a * b) (hca : l.length ≤ ca) (w : World) (hpb : pb < w.heap.size) (hc : ∀ j, j < l.length → w.cell? ⟨pb, poff + j, none⟩ = some (.int .i64 (l.getD j 0))) :
    Calls Try.prog 18 #[.agg #[.int .i64 (a : Int), .int .i64 (b : Int), .slice (some ⟨pb, poff, none⟩) l.length ca], .int .i64 (x : Int), .int .i64 (y : Int), .int .i64 8] w fun e w' => ∃ A' c, e = .returned (.slice A' 64 c) ∧ OwnI w' w.heap.size A' c (blkF l a x y 8) ∧ Below w.heap.size w w' := by
  obtain ⟨i0, hi, hz0, hz1, hz2⟩ := info_parts Try.iinfo
  have IN := Lib.hid fun w h => impl_hasblock_any (a : Int) (b : Int) (some ⟨pb, poff, none⟩) ca l (x : Int) (y : Int) 8 w h
  rw [hin] at IN
  have hab : a * b ≤ 32 * 32 := Nat.mul_le_mul ha hb
  have HK := Lib.hid (heap_alloc_new w (.cells #[.int .i64 (a : Int), .int .i64 (b : Int), .slice (some ⟨pb, poff, none⟩) l.length ca] 26))
  have BW := Lib.hid (below_new w (.cells #[.int .i64 (a : Int), .int .i64 (b : Int), .slice (some ⟨pb, poff, none⟩) l.length ca] 26))
  have hsz : (w.alloc (.cells #[.int .i64 (a : Int), .int .i64 (b : Int), .slice (some ⟨pb, poff, none⟩) l.length ca] 26)).heap.size = w.heap.size + 1 := by simp
  have I0 := Lib.hid (show Ints (w.alloc (.cells #[.int .i64 (a : Int), .int .i64 (b : Int), .slice (some ⟨pb, poff, none⟩) l.length ca] 26)) (w.alloc (.cells #[.int .i64 (a : Int), .int .i64 (b : Int), .slice (some ⟨pb, poff, none⟩) l.length ca] 26)).heap.size (some ⟨pb, poff, none⟩) l from ⟨by omega, .inr ⟨pb, poff, rfl, Nat.lt_of_lt_of_le hpb BW.out.size, fun j hj => by rw [BW.out.cell (p := ⟨pb, poff + j, none⟩) hpb]; exact hc j hj⟩⟩)
  have hmk : ∀ w : World, (Instr.makeSlice 24 (.int .i64 0) (.int .i64 64)).run Try.prog w = .ok (.slice (some ⟨w.heap.size, 0, none⟩) 0 64) (w.alloc (.cells (ivs (List.replicate 64 0)).toArray 3)) := fun _ => by kernel_rfl
  obtain ⟨z, hz⟩ : ∃ z : List Int, z = List.replicate 64 0 := ⟨_, rfl⟩
  simp only [← hz] at hmk
  have hzl : (ivs z).length = 64 := by rw [hz]; rfl
  have MK : Hid (∀ w : World, (w.alloc (.cells (ivs z).toArray 3)).ownsRow w.heap.size 3 1 (.slice (some ⟨w.heap.size, 0, none⟩) 0 64) 0 (ivs [])) := Lib.hid fun w => World.ownsRow_made w _ 64 (Nat.le_refl _) (by simp [maxLen]) (by simpa using hzl)
  have I3 : Hid (∀ wr q, q + 8 ≤ l.length → Below w.heap.size w wr → Ints wr wr.heap.size (some ⟨pb, poff + q, none⟩) ((l.drop q).take 8)) := Lib.hid fun wr q hq h => by
    refine ⟨by rw [List.length_take]; omega, .inr ⟨pb, poff + q, rfl, Nat.lt_of_lt_of_le hpb h.size, fun j hj => ?_⟩⟩
    rw [List.length_take, List.length_drop] at hj
    rw [h.cell (p := ⟨pb, poff + q + j, none⟩) hpb, Nat.add_assoc, hc (q + j) (by omega), drop_take_at (by omega)]
  have HNX := Lib.hid fun k (hk : k < 8) h => blk_row (l := l) (a := a) (x := x) (y := y) hk h
  have HCL := Lib.hid (blkF_len l a x y 8)
  have HAB : Hid (∀ k, k < 8 → (y + k) * a + x + 8 ≤ l.length ∧ (y + k) * a ≤ 1024) := Lib.hid fun k hk => by
    have h1 : (y + k + 1) * a ≤ b * a := Nat.mul_le_mul_right a (by omega)
    rw [Nat.mul_comm b a] at h1
    rw [Nat.add_mul, Nat.one_mul] at h1
    omega
  obtain ⟨C, hC⟩ : ∃ C, C = blkF l a x y 8 := ⟨_, rfl⟩
  rw [← hC] at HNX HCL ⊢
  have HTK : Hid (∀ q, q + 8 ≤ l.length → ((l.drop q).take 8).length = 8) := Lib.hid fun q hq => by rw [List.length_take, List.length_drop]; omega
  obtain ⟨pn, hpn⟩ : ∃ pn, pn = l.length := ⟨_, rfl⟩
  have HPN := Lib.hid hpn
  have hpm : pn ≤ 1024 := by omega
  have RP := Lib.hid (impl_rowpart a (b : Int) pb poff pn ca x 8)
  clear hC hsz hc hin hl hab hz hzl
  rw [← hpn] at hca
  clear hpn
  rw [← HPN.out] at IN HK BW I0 I3 HNX HAB HTK ⊢
  go_enter Try.func18, Try.ntmps18
  go_wp2_with fail
  refine (IN.out _ I0.out).mono ?_
  rintro e w1 ⟨rfl, hb1⟩
  have K1 := Lib.hid (cell_kept HK.out hb1)
  have B1 := Lib.hid (below_up BW.out hb1 BW.out.size)
  have O1 := Lib.hid (MK.out w1)
  have BA := Lib.hid (below_new w1 (.cells (ivs z).toArray 3))
  have S1 := Lib.hid (heap_lt K1.out)
  clear hb1
  go_wp2
  go_loopw [9, 10, 22] (fun v x10 x22 wr => ∃ k : Nat, k ≤ 8 ∧ x22 = .int .i64 k ∧ wr.ownsRow w1.heap.size 3 1 v (k * 8) (ivs (C.take (k * 8))) ∧ Below w1.heap.size w1 wr)
    (fun _ _ x22 _ => 8 - (intOf x22).toNat)
  case atStart => exact ⟨0, Nat.zero_le _, rfl, O1.out, BA.out⟩
  case round =>
    obtain ⟨k, hkN, rfl, hown, hbel⟩ := hrel
    by_cases hlt : k < 8
    · have d1 : decide ((k : Int) < 8) = true := by simp; omega
      obtain ⟨g1, g2⟩ := HAB.out k hlt
      have hnx := HNX.out k hlt g1
      have hyk : IntKind.i64.wrap ((y : Int) + (k : Int)) = (y : Int) + (k : Int) := IntWalk.i64_in _ (by omega)
      obtain ⟨q, hq⟩ : ∃ q, q = (y + k) * a := ⟨_, rfl⟩
      rw [← hq] at hnx g1 g2
      have RX := Lib.hid (RP.out q ((y : Int) + (k : Int)) (by rw [hq, Int.natCast_mul, Int.natCast_add]) (by omega) (by omega) (by decide) (by decide) (by omega))
      have TQ := HTK.out (q + x) g1
      have IQ := Lib.hid fun wr h => I3.out wr (q + x) g1 h
      obtain ⟨r, hr⟩ : ∃ r, r = (l.drop (q + x)).take 8 := ⟨_, rfl⟩
      rw [← hr] at hnx IQ TQ
      obtain ⟨qx, hqx⟩ : ∃ qx, qx = q + x := ⟨_, rfl⟩
      rw [← hqx] at RX IQ
      have HX := Lib.hid hnx; have HO := Lib.hid hown; have HB := Lib.hid (below_up B1.out hbel B1.out.size); have HZ := Lib.hid TQ
      have HBL := Lib.hid hbel
      have kk := (hbel.block w.heap.size S1.out).trans K1.out
      obtain ⟨c0, c1, c2⟩ := cells3 kk
      clear hq hr hqx hnx hown hbel TQ g1 g2 kk
      go_wp2_with fail
      refine (RX.out _).mono ?_
      rintro e wa ⟨rfl, hba⟩
      have OA := own_keep HO.out hba
      have HBA := Lib.hid (below_up HB.out hba HB.out.size)
      have HBB := Lib.hid (below_up HBL.out hba HBL.out.size)
      clear hba HO HB HBL c0 c1 c2
      go_wp2_with (at_builtin; refine append_ints_at rfl (.tmp 25) (.tmp 32) 24 rfl w1.heap.size i0 Try.underlying24 hi hz0 hz1 hz2 _ _ _ rfl OA _ _ _ r HZ.out.symm rfl _ (IQ.out _ HBA.out) (by rw [HZ.out]; decide) (by omega) HBB.out.size ?_; intro v' wb hownb hgr hfar; skip)
      have HO' := Lib.hid hownb; have HG := Lib.hid hgr; have HL' := Lib.hid OA.lt
      clear hownb hgr OA
      go_roundw
      case rel => exact ⟨k + 1, by omega, by go_num, by rw [Nat.add_mul, Nat.one_mul, HX.out]; exact HO'.out, HBB.out.grown HG.out HBB.out.size fun k hk => (HL'.out k hk).1⟩
      case measure => simp [intOf]; omega
    · obtain rfl : k = 8 := by omega
      have d1 : decide (((8 : Nat) : Int) < 8) = false := by decide
      have e1 : C.take (8 * 8) = C := List.take_of_length_le (by rw [HCL.out]; exact Nat.le_refl _)
      rw [e1] at hown
      obtain ⟨A3, c3, hv3, ho3⟩ := own_slice hown
      rw [HCL.out] at hv3
      subst hv3
      have O9 := Lib.hid (own_lower ho3 B1.out.size); have B9 := Lib.hid (below_up B1.out hbel B1.out.size)
      clear hown hbel ho3 e1
      go_wp2
      go_ret
      exact ⟨_, _, rfl, O9.out, B9.out⟩
set_option maxRecDepth 100000 in
set_option maxHeartbeats 4000000 in
theorem impl_blockat_any (a b : Int) (A : Option Addr) (ca : Nat) (l : List Int) (x y n : Int) (w : World) (hA : Ints w w.heap.size A l) (hca : l.length ≤ ca) : Calls Try.prog 18 #[.agg #[.int .i64 a, .int .i64 b, .slice A l.length ca], .int .i64 x, .int .i64 y, .int .i64 n] w fun e w' => ∃ A' c, e = .returned (.slice A' (blkL a b l x y n).length c) ∧ OwnI w' w.heap.size A' c (blkL a b l x y n) ∧ Below w.heap.size w w' := by
  cases hin : inE a b l x y n with
  | false =>
    have IN := Lib.hid fun w h => impl_hasblock_any a b A ca l x y n w h
    have bt := below_new w (.cells #[.int .i64 a, .int .i64 b, .slice A l.length ca] 26)
    have B0 := Lib.hid bt
    have HA := Lib.hid ((hA.below bt (Nat.le_refl _)).mono bt.size)
    have hnl := hA.1
    rw [hin] at IN
    rw [show blkL a b l x y n = [] by unfold blkL; rw [hin]; rfl]
    clear hin hA bt hca
    go_enter Try.func18, Try.ntmps18
    go_wp2_with fail
    refine (IN.out _ HA.out).mono ?_
    rintro e w1 ⟨rfl, hb1⟩
    have B1 := Lib.hid (below_up B0.out hb1 B0.out.size)
    clear hb1
    go_wp2
    go_ret
    exact ⟨none, 0, rfl, World.ownsRow_nil _ w.heap.size 3 1, B1.out⟩
  | true =>
    have e1 : blkL a b l x y n = blkF l a.toNat x.toNat y.toNat n.toNat := by unfold blkL; rw [if_pos hin]
    rw [e1]
    have hh := hin
    simp only [inE, Bool.and_eq_true] at hh
    obtain ⟨⟨⟨⟨⟨hf, ho⟩, hx⟩, hy⟩, _⟩, _⟩ := hh
    obtain ⟨hs, hl, _⟩ := frameE_sides hf
    obtain ⟨h1, h2, _, _⟩ := sidesE_parts hs
    have hx := betE_true hx; have hy := betE_true hy
    obtain ⟨a', rfl⟩ := Int.eq_ofNat_of_zero_le (show 0 ≤ a by omega)
    obtain ⟨b', rfl⟩ := Int.eq_ofNat_of_zero_le (show 0 ≤ b by omega)
    obtain ⟨x', rfl⟩ := Int.eq_ofNat_of_zero_le hx.1
    obtain ⟨y', rfl⟩ := Int.eq_ofNat_of_zero_le hy.1
    have hl' : l.length = a' * b' := by rw [← Int.natCast_mul] at hl; exact Int.ofNat.inj hl
    have hpos : 8 * 8 ≤ a' * b' := Nat.mul_le_mul (by omega) (by omega)
    obtain ⟨pb, poff, rfl, hpb, hc⟩ := hA.at 0 (by omega)
    rw [blkF_len]
    rcases okN_cases ho with rfl | rfl
    · exact impl_blockat_4 a' b' x' y' pb poff ca l hin (by omega) (by omega) (by omega) (by omega) hl' hca w hpb hc
    · exact impl_blockat_8 a' b' x' y' pb poff ca l hin (by omega) (by omega) (by omega) (by omega) hl' hca w hpb hc
end Go.Proofs.Ytemfiglflbfocaa
