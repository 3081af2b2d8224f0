/-
  Chapter 18: what BlockAt answers, and the contract of the model's own. Condition: a slice is no longer than it holds.
-/
import Derived.Test.YtemfiglflbfocaaFrB
import Derived.Test.YtemfiglflbfocaaApp
import Derived.Test.YtemfiglflbfocaaNbV
import Derived.Deep.RegionHeld3
namespace Go.Proofs.Ytemfiglflbfocaa
open Go.RowKit
set_option linter.unusedVariables false

/-- What BlockAt answers. -/
def blkF (l : List Int) (a x y m : Nat) : List Int := (List.range (m * m)).map fun q => l.getD ((y + q / m) * a + x + q % m) 0
def blkL (a b : Int) (l : List Int) (x y n : Int) : List Int := if inE a b l x y n = true then blkF l a.toNat x.toNat y.toNat n.toNat else []
theorem blkF_len (l : List Int) (a x y m : Nat) : (blkF l a x y m).length = m * m := by simp [blkF]
theorem blk_row {l : List Int} {a x y m k : Nat} (hk : k < m) (hl : (y + k) * a + x + m ≤ l.length) : (blkF l a x y m).take (k * m + m) = (blkF l a x y m).take (k * m) ++ (l.drop ((y + k) * a + x)).take m := by
  rw [List.take_add]
  have hf : k * m + m ≤ m * m := by
    have h1 : (k + 1) * m ≤ m * m := Nat.mul_le_mul_right m hk
    rw [Nat.add_mul, Nat.one_mul] at h1
    exact h1
  refine congrArg _ (ints_same (n := m) ?_ (by rw [List.length_take, List.length_drop]; omega) fun i hi => ?_)
  · rw [List.length_take, List.length_drop, blkF_len]
    omega
  · rw [drop_take_at hi, drop_take_at hi, List.getD_eq_getElem?_getD, blkF, List.getElem?_map, List.getElem?_range (by omega), Option.map_some, Option.getD_some]
    have e1 : (k * m + i) / m = k := by rw [Nat.add_comm, Nat.add_mul_div_right _ _ (by omega), Nat.div_eq_of_lt hi, Nat.zero_add]
    have e2 : (k * m + i) % m = i := by rw [Nat.add_comm, Nat.add_mul_mod_self_right, Nat.mod_eq_of_lt hi]
    rw [e1, e2]

set_option maxRecDepth 100000 in
set_option maxHeartbeats 4000000 in
theorem spec_blockat_4 (a b x y : Nat) (pb poff ca : Nat) (l : List Int) (hin : inE (a : Int) (b : Int) l (x : Int) (y : Int) 4 = true) (hx : x + 4 ≤ a) (hy : y + 4 ≤ b) (ha : a ≤ 32) (hb : b ≤ 32) (hl : l.length = a * b) (hca : l.length ≤ ca) (w : World) (hpb : pb < w.heap.size) (hc : ∀ j, j < l.length → w.cell? ⟨pb, poff + j, none⟩ = some (.int .i64 (l.getD j 0))) :
    Calls Try.prog 36 #[.agg #[.int .i64 (a : Int), .int .i64 (b : Int), .slice (some ⟨pb, poff, none⟩) l.length ca], .int .i64 (x : Int), .int .i64 (y : Int), .int .i64 4] w fun e w' => ∃ A' c, e = .returned (.slice A' 16 c) ∧ OwnI w' w.heap.size A' c (blkF l a x y 4) ∧ Below w.heap.size w w' := by
  obtain ⟨i0, hi, hz0, hz1, hz2⟩ := info_parts Try.iinfo
  have IN := Lib.hid fun w h => spec_l18in_any (a : Int) (b : Int) (some ⟨pb, poff, none⟩) ca l (x : Int) (y : Int) 4 w h
  rw [hin] at IN
  have hab : a * b ≤ 32 * 32 := Nat.mul_le_mul ha hb
  have HK := Lib.hid (heap_alloc_new w (.cells #[.int .i64 (a : Int), .int .i64 (b : Int), .slice (some ⟨pb, poff, none⟩) l.length ca] 26))
  have BW := Lib.hid (below_new w (.cells #[.int .i64 (a : Int), .int .i64 (b : Int), .slice (some ⟨pb, poff, none⟩) l.length ca] 26))
  have hsz : (w.alloc (.cells #[.int .i64 (a : Int), .int .i64 (b : Int), .slice (some ⟨pb, poff, none⟩) l.length ca] 26)).heap.size = w.heap.size + 1 := by simp
  have HSZ := Lib.hid hsz
  have O0 := Lib.hid (own_at' (w.alloc (.cells #[.int .i64 (a : Int), .int .i64 (b : Int), .slice (some ⟨pb, poff, none⟩) l.length ca] 26)) (w.alloc (.cells #[.int .i64 (a : Int), .int .i64 (b : Int), .slice (some ⟨pb, poff, none⟩) l.length ca] 26)).heap.size (w.heap.size + 1) [] (Nat.le_refl _) (by simp) (by simp))
  have B0 := Lib.hid ((Below.refl (w.alloc (.cells #[.int .i64 (a : Int), .int .i64 (b : Int), .slice (some ⟨pb, poff, none⟩) l.length ca] 26)).heap.size (w.alloc (.cells #[.int .i64 (a : Int), .int .i64 (b : Int), .slice (some ⟨pb, poff, none⟩) l.length ca] 26))).alloc (Nat.le_refl _) (.cells (ivs []).toArray 3))
  have BB : Hid (∀ wr, Below (w.alloc (.cells #[.int .i64 (a : Int), .int .i64 (b : Int), .slice (some ⟨pb, poff, none⟩) l.length ca] 26)).heap.size (w.alloc (.cells #[.int .i64 (a : Int), .int .i64 (b : Int), .slice (some ⟨pb, poff, none⟩) l.length ca] 26)) wr → Below w.heap.size w wr) := Lib.hid fun wr h => BW.out.trans (h.mono (by rw [hsz]; omega))
  have I1 : Hid (∀ wr, Below (w.alloc (.cells #[.int .i64 (a : Int), .int .i64 (b : Int), .slice (some ⟨pb, poff, none⟩) l.length ca] 26)).heap.size (w.alloc (.cells #[.int .i64 (a : Int), .int .i64 (b : Int), .slice (some ⟨pb, poff, none⟩) l.length ca] 26)) wr → Ints wr wr.heap.size (some ⟨pb, poff, none⟩) l) := Lib.hid fun wr h => ⟨by omega, .inr ⟨pb, poff, rfl, Nat.lt_of_lt_of_le hpb (BB.out wr h).size, fun j hj => by rw [(BB.out wr h).cell (p := ⟨pb, poff + j, none⟩) hpb]; exact hc j hj⟩⟩
  have I3 : Hid (∀ wr q, q + 4 ≤ l.length → Below (w.alloc (.cells #[.int .i64 (a : Int), .int .i64 (b : Int), .slice (some ⟨pb, poff, none⟩) l.length ca] 26)).heap.size (w.alloc (.cells #[.int .i64 (a : Int), .int .i64 (b : Int), .slice (some ⟨pb, poff, none⟩) l.length ca] 26)) wr → Ints wr wr.heap.size (some ⟨pb, poff + q, none⟩) ((l.drop q).take 4)) := Lib.hid fun wr q hq h => by
    refine ⟨by rw [List.length_take]; omega, .inr ⟨pb, poff + q, rfl, Nat.lt_of_lt_of_le hpb (BB.out wr h).size, fun j hj => ?_⟩⟩
    rw [List.length_take, List.length_drop] at hj
    rw [(BB.out wr h).cell (p := ⟨pb, poff + q + j, none⟩) hpb, Nat.add_assoc, hc (q + j) (by omega), drop_take_at (by omega)]
  have KC : Hid (∀ wr, Below (w.alloc (.cells #[.int .i64 (a : Int), .int .i64 (b : Int), .slice (some ⟨pb, poff, none⟩) l.length ca] 26)).heap.size (w.alloc (.cells #[.int .i64 (a : Int), .int .i64 (b : Int), .slice (some ⟨pb, poff, none⟩) l.length ca] 26)) wr → wr.heap[w.heap.size]? = some (.cells #[.int .i64 (a : Int), .int .i64 (b : Int), .slice (some ⟨pb, poff, none⟩) l.length ca] 26 (0, 0))) := Lib.hid fun wr h => by
    rw [h.block w.heap.size (by rw [hsz]; omega)]; exact HK.out
  have HNX := Lib.hid fun k (hk : k < 4) h => blk_row (l := l) (a := a) (x := x) (y := y) hk h
  have HCL := Lib.hid (blkF_len l a x y 4)
  have HAB : Hid (∀ k, k < 4 → (y + k) * a + x + 4 ≤ l.length ∧ (y + k) * a ≤ 1024) := Lib.hid fun k hk => by
    have h1 : (y + k + 1) * a ≤ b * a := Nat.mul_le_mul_right a (by omega)
    rw [Nat.mul_comm b a] at h1
    rw [Nat.add_mul, Nat.one_mul] at h1
    omega
  obtain ⟨C, hC⟩ : ∃ C, C = blkF l a x y 4 := ⟨_, rfl⟩
  rw [← hC] at HNX HCL ⊢
  have HTK : Hid (∀ q, q + 4 ≤ l.length → ((l.drop q).take 4).length = 4) := Lib.hid fun q hq => by rw [List.length_take, List.length_drop]; omega
  obtain ⟨pn, hpn⟩ : ∃ pn, pn = l.length := ⟨_, rfl⟩
  have HPN := Lib.hid hpn
  have hpm : pn ≤ 1024 := by omega
  clear hC hsz hc hin hl hab
  rw [← hpn] at hca
  clear hpn
  rw [← HPN.out] at IN HK BW HSZ O0 B0 BB I1 I3 KC HNX HAB HTK ⊢
  go_enter Try.func36, Try.ntmps36
  go_wp2
  go_loopw [9, 10] (fun v x10 wr => ∃ k : Nat, k ≤ 4 ∧ x10 = .int .i64 k ∧ wr.ownsRow (w.alloc (.cells #[.int .i64 (a : Int), .int .i64 (b : Int), .slice (some ⟨pb, poff, none⟩) pn ca] 26)).heap.size 3 1 v (k * 4) (ivs (C.take (k * 4))) ∧ Below (w.alloc (.cells #[.int .i64 (a : Int), .int .i64 (b : Int), .slice (some ⟨pb, poff, none⟩) pn ca] 26)).heap.size (w.alloc (.cells #[.int .i64 (a : Int), .int .i64 (b : Int), .slice (some ⟨pb, poff, none⟩) pn ca] 26)) wr)
    (fun _ x10 _ => 4 - (intOf x10).toNat)
  case atStart => exact ⟨0, Nat.zero_le _, rfl, O0.out, B0.out⟩
  case round =>
    obtain ⟨k, hkN, rfl, hown, hbel⟩ := hrel
    by_cases hlt : k < 4
    · have d1 : decide ((k : Int) < 4) = true := by simp; omega
      obtain ⟨g1, g2⟩ := HAB.out k hlt
      have hnx := HNX.out k hlt g1
      obtain ⟨q, hq⟩ : ∃ q, q = (y + k) * a := ⟨_, rfl⟩
      rw [← hq] at hnx g1 g2
      have hw1 : IntKind.i64.wrap (((y : Int) + (k : Int)) * (a : Int)) = (q : Int) := by
        rw [show ((y : Int) + (k : Int)) * (a : Int) = (q : Int) by rw [hq, Int.natCast_mul, Int.natCast_add]]
        exact IntWalk.i64_in _ (by omega)
      have IQ := Lib.hid fun wr h => I3.out wr (q + x) g1 h
      have TQ := HTK.out (q + x) g1
      obtain ⟨z, hz⟩ : ∃ z, z = (l.drop (q + x)).take 4 := ⟨_, rfl⟩
      rw [← hz] at hnx IQ TQ
      have HX := Lib.hid hnx; have HO := Lib.hid hown; have HB := Lib.hid hbel; have HZ := Lib.hid TQ
      have hne : ¬ ca = q + x := by omega
      have ha0 : (q : Int) + (x : Int) ≤ (q : Int) + (x : Int) + 4 := by omega
      have ha1 : (q : Int) + (x : Int) + 4 ≤ (ca : Int) := by omega
      have ha2 : q + x + 4 ≤ ca := by omega
      have hp0 : (0 : Int) ≤ (q : Int) + (x : Int) := by omega
      have haw0 : IntKind.i64.wrap ((q : Int) + (x : Int)) = (q : Int) + (x : Int) := IntWalk.i64_in _ (by omega)
      have haw : IntKind.i64.wrap ((q : Int) + (x : Int) + 4) = (q : Int) + (x : Int) + 4 := IntWalk.i64_in _ (by omega)
      have hat0 : ((q : Int) + (x : Int)).toNat = q + x := by omega
      have hat : ((q : Int) + (x : Int) + 4).toNat = q + x + 4 := by omega
      have had : q + x + 4 - (q + x) = 4 := by omega
      obtain ⟨b0, b1, b2⟩ := cells3 (KC.out _ hbel)
      clear hq hz hnx hown hbel TQ
      go_wp2_with fail
      refine (IN.out _ (I1.out _ HB.out)).mono ?_
      rintro e wa ⟨rfl, hba⟩
      have OA := own_keep HO.out hba
      have HBA := Lib.hid (below_up HB.out hba HB.out.size)
      obtain ⟨c0, c1, c2⟩ := cells3 (KC.out _ HBA.out)
      clear hba HO HB b0 b1 b2
      go_wp2_with (at_builtin; refine append_ints_at rfl (.tmp 24) (.tmp 45) 24 rfl (w.alloc (.cells #[.int .i64 (a : Int), .int .i64 (b : Int), .slice (some ⟨pb, poff, none⟩) pn ca] 26)).heap.size i0 Try.underlying24 hi hz0 hz1 hz2 _ _ _ rfl OA _ _ _ z HZ.out.symm rfl _ (IQ.out _ HBA.out) (by rw [HZ.out]; decide) (by omega) HBA.out.size ?_; intro v' wb hownb hgr hat)
      have HO' := Lib.hid hownb; have HG := Lib.hid hgr; have HL' := Lib.hid OA.lt
      clear hownb hgr hat OA c0 c1 c2
      go_roundw
      case rel => exact ⟨k + 1, by omega, by go_num, by rw [Nat.add_mul, Nat.one_mul, HX.out]; exact HO'.out, HBA.out.grown HG.out HBA.out.size fun k hk => (HL'.out k hk).1⟩
      case measure => simp [intOf]; omega
    · obtain rfl : k = 4 := by omega
      have e1 : C.take (4 * 4) = C := List.take_of_length_le (by rw [HCL.out]; exact Nat.le_refl _)
      rw [e1] at hown
      obtain ⟨A3, c3, hv3, ho3⟩ := own_slice hown
      rw [HCL.out] at hv3
      subst hv3
      have O9 := Lib.hid (own_lower ho3 (base' := w.heap.size) (by rw [HSZ.out]; omega)); have B9 := Lib.hid (BB.out _ hbel)
      clear hown hbel ho3 e1
      go_wp2
      go_ret
      exact ⟨_, _, rfl, O9.out, B9.out⟩

set_option maxRecDepth 100000 in
set_option maxHeartbeats 4000000 in
theorem spec_blockat_8 (a b x y : Nat) (pb poff ca : Nat) (l : List Int) (hin : inE (a : Int) (b : Int) l (x : Int) (y : Int) 8 = true) (hx : x + 8 ≤ a) (hy : y + 8 ≤ b) (ha : a ≤ 32) (hb : b ≤ 32) (hl : l.length = a * b) (hca : l.length ≤ ca) (w : World) (hpb : pb < w.heap.size) (hc : ∀ j, j < l.length → w.cell? ⟨pb, poff + j, none⟩ = some (.int .i64 (l.getD j 0))) :
    Calls Try.prog 36 #[.agg #[.int .i64 (a : Int), .int .i64 (b : Int), .slice (some ⟨pb, poff, none⟩) l.length ca], .int .i64 (x : Int), .int .i64 (y : Int), .int .i64 8] w fun e w' => ∃ A' c, e = .returned (.slice A' 64 c) ∧ OwnI w' w.heap.size A' c (blkF l a x y 8) ∧ Below w.heap.size w w' := by
  obtain ⟨i0, hi, hz0, hz1, hz2⟩ := info_parts Try.iinfo
  have IN := Lib.hid fun w h => spec_l18in_any (a : Int) (b : Int) (some ⟨pb, poff, none⟩) ca l (x : Int) (y : Int) 8 w h
  rw [hin] at IN
  have hab : a * b ≤ 32 * 32 := Nat.mul_le_mul ha hb
  have HK := Lib.hid (heap_alloc_new w (.cells #[.int .i64 (a : Int), .int .i64 (b : Int), .slice (some ⟨pb, poff, none⟩) l.length ca] 26))
  have BW := Lib.hid (below_new w (.cells #[.int .i64 (a : Int), .int .i64 (b : Int), .slice (some ⟨pb, poff, none⟩) l.length ca] 26))
  have hsz : (w.alloc (.cells #[.int .i64 (a : Int), .int .i64 (b : Int), .slice (some ⟨pb, poff, none⟩) l.length ca] 26)).heap.size = w.heap.size + 1 := by simp
  have HSZ := Lib.hid hsz
  have O0 := Lib.hid (own_at' (w.alloc (.cells #[.int .i64 (a : Int), .int .i64 (b : Int), .slice (some ⟨pb, poff, none⟩) l.length ca] 26)) (w.alloc (.cells #[.int .i64 (a : Int), .int .i64 (b : Int), .slice (some ⟨pb, poff, none⟩) l.length ca] 26)).heap.size (w.heap.size + 1) [] (Nat.le_refl _) (by simp) (by simp))
  have B0 := Lib.hid ((Below.refl (w.alloc (.cells #[.int .i64 (a : Int), .int .i64 (b : Int), .slice (some ⟨pb, poff, none⟩) l.length ca] 26)).heap.size (w.alloc (.cells #[.int .i64 (a : Int), .int .i64 (b : Int), .slice (some ⟨pb, poff, none⟩) l.length ca] 26))).alloc (Nat.le_refl _) (.cells (ivs []).toArray 3))
  have BB : Hid (∀ wr, Below (w.alloc (.cells #[.int .i64 (a : Int), .int .i64 (b : Int), .slice (some ⟨pb, poff, none⟩) l.length ca] 26)).heap.size (w.alloc (.cells #[.int .i64 (a : Int), .int .i64 (b : Int), .slice (some ⟨pb, poff, none⟩) l.length ca] 26)) wr → Below w.heap.size w wr) := Lib.hid fun wr h => BW.out.trans (h.mono (by rw [hsz]; omega))
  have I1 : Hid (∀ wr, Below (w.alloc (.cells #[.int .i64 (a : Int), .int .i64 (b : Int), .slice (some ⟨pb, poff, none⟩) l.length ca] 26)).heap.size (w.alloc (.cells #[.int .i64 (a : Int), .int .i64 (b : Int), .slice (some ⟨pb, poff, none⟩) l.length ca] 26)) wr → Ints wr wr.heap.size (some ⟨pb, poff, none⟩) l) := Lib.hid fun wr h => ⟨by omega, .inr ⟨pb, poff, rfl, Nat.lt_of_lt_of_le hpb (BB.out wr h).size, fun j hj => by rw [(BB.out wr h).cell (p := ⟨pb, poff + j, none⟩) hpb]; exact hc j hj⟩⟩
  have I3 : Hid (∀ wr q, q + 8 ≤ l.length → Below (w.alloc (.cells #[.int .i64 (a : Int), .int .i64 (b : Int), .slice (some ⟨pb, poff, none⟩) l.length ca] 26)).heap.size (w.alloc (.cells #[.int .i64 (a : Int), .int .i64 (b : Int), .slice (some ⟨pb, poff, none⟩) l.length ca] 26)) wr → Ints wr wr.heap.size (some ⟨pb, poff + q, none⟩) ((l.drop q).take 8)) := Lib.hid fun wr q hq h => by
    refine ⟨by rw [List.length_take]; omega, .inr ⟨pb, poff + q, rfl, Nat.lt_of_lt_of_le hpb (BB.out wr h).size, fun j hj => ?_⟩⟩
    rw [List.length_take, List.length_drop] at hj
    rw [(BB.out wr h).cell (p := ⟨pb, poff + q + j, none⟩) hpb, Nat.add_assoc, hc (q + j) (by omega), drop_take_at (by omega)]
  have KC : Hid (∀ wr, Below (w.alloc (.cells #[.int .i64 (a : Int), .int .i64 (b : Int), .slice (some ⟨pb, poff, none⟩) l.length ca] 26)).heap.size (w.alloc (.cells #[.int .i64 (a : Int), .int .i64 (b : Int), .slice (some ⟨pb, poff, none⟩) l.length ca] 26)) wr → wr.heap[w.heap.size]? = some (.cells #[.int .i64 (a : Int), .int .i64 (b : Int), .slice (some ⟨pb, poff, none⟩) l.length ca] 26 (0, 0))) := Lib.hid fun wr h => by
    rw [h.block w.heap.size (by rw [hsz]; omega)]; exact HK.out
  have HNX := Lib.hid fun k (hk : k < 8) h => blk_row (l := l) (a := a) (x := x) (y := y) hk h
  have HCL := Lib.hid (blkF_len l a x y 8)
  have HAB : Hid (∀ k, k < 8 → (y + k) * a + x + 8 ≤ l.length ∧ (y + k) * a ≤ 1024) := Lib.hid fun k hk => by
    have h1 : (y + k + 1) * a ≤ b * a := Nat.mul_le_mul_right a (by omega)
    rw [Nat.mul_comm b a] at h1
    rw [Nat.add_mul, Nat.one_mul] at h1
    omega
  obtain ⟨C, hC⟩ : ∃ C, C = blkF l a x y 8 := ⟨_, rfl⟩
  rw [← hC] at HNX HCL ⊢
  have HTK : Hid (∀ q, q + 8 ≤ l.length → ((l.drop q).take 8).length = 8) := Lib.hid fun q hq => by rw [List.length_take, List.length_drop]; omega
  obtain ⟨pn, hpn⟩ : ∃ pn, pn = l.length := ⟨_, rfl⟩
  have HPN := Lib.hid hpn
  have hpm : pn ≤ 1024 := by omega
  clear hC hsz hc hin hl hab
  rw [← hpn] at hca
  clear hpn
  rw [← HPN.out] at IN HK BW HSZ O0 B0 BB I1 I3 KC HNX HAB HTK ⊢
  go_enter Try.func36, Try.ntmps36
  go_wp2
  go_loopw [9, 10] (fun v x10 wr => ∃ k : Nat, k ≤ 8 ∧ x10 = .int .i64 k ∧ wr.ownsRow (w.alloc (.cells #[.int .i64 (a : Int), .int .i64 (b : Int), .slice (some ⟨pb, poff, none⟩) pn ca] 26)).heap.size 3 1 v (k * 8) (ivs (C.take (k * 8))) ∧ Below (w.alloc (.cells #[.int .i64 (a : Int), .int .i64 (b : Int), .slice (some ⟨pb, poff, none⟩) pn ca] 26)).heap.size (w.alloc (.cells #[.int .i64 (a : Int), .int .i64 (b : Int), .slice (some ⟨pb, poff, none⟩) pn ca] 26)) wr)
    (fun _ x10 _ => 8 - (intOf x10).toNat)
  case atStart => exact ⟨0, Nat.zero_le _, rfl, O0.out, B0.out⟩
  case round =>
    obtain ⟨k, hkN, rfl, hown, hbel⟩ := hrel
    by_cases hlt : k < 8
    · have d1 : decide ((k : Int) < 8) = true := by simp; omega
      obtain ⟨g1, g2⟩ := HAB.out k hlt
      have hnx := HNX.out k hlt g1
      obtain ⟨q, hq⟩ : ∃ q, q = (y + k) * a := ⟨_, rfl⟩
      rw [← hq] at hnx g1 g2
      have hw1 : IntKind.i64.wrap (((y : Int) + (k : Int)) * (a : Int)) = (q : Int) := by
        rw [show ((y : Int) + (k : Int)) * (a : Int) = (q : Int) by rw [hq, Int.natCast_mul, Int.natCast_add]]
        exact IntWalk.i64_in _ (by omega)
      have IQ := Lib.hid fun wr h => I3.out wr (q + x) g1 h
      have TQ := HTK.out (q + x) g1
      obtain ⟨z, hz⟩ : ∃ z, z = (l.drop (q + x)).take 8 := ⟨_, rfl⟩
      rw [← hz] at hnx IQ TQ
      have HX := Lib.hid hnx; have HO := Lib.hid hown; have HB := Lib.hid hbel; have HZ := Lib.hid TQ
      have hne : ¬ ca = q + x := by omega
      have ha0 : (q : Int) + (x : Int) ≤ (q : Int) + (x : Int) + 8 := by omega
      have ha1 : (q : Int) + (x : Int) + 8 ≤ (ca : Int) := by omega
      have ha2 : q + x + 8 ≤ ca := by omega
      have hp0 : (0 : Int) ≤ (q : Int) + (x : Int) := by omega
      have haw0 : IntKind.i64.wrap ((q : Int) + (x : Int)) = (q : Int) + (x : Int) := IntWalk.i64_in _ (by omega)
      have haw : IntKind.i64.wrap ((q : Int) + (x : Int) + 8) = (q : Int) + (x : Int) + 8 := IntWalk.i64_in _ (by omega)
      have hat0 : ((q : Int) + (x : Int)).toNat = q + x := by omega
      have hat : ((q : Int) + (x : Int) + 8).toNat = q + x + 8 := by omega
      have had : q + x + 8 - (q + x) = 8 := by omega
      obtain ⟨b0, b1, b2⟩ := cells3 (KC.out _ hbel)
      clear hq hz hnx hown hbel TQ
      go_wp2_with fail
      refine (IN.out _ (I1.out _ HB.out)).mono ?_
      rintro e wa ⟨rfl, hba⟩
      have OA := own_keep HO.out hba
      have HBA := Lib.hid (below_up HB.out hba HB.out.size)
      obtain ⟨c0, c1, c2⟩ := cells3 (KC.out _ HBA.out)
      clear hba HO HB b0 b1 b2
      go_wp2_with (at_builtin; refine append_ints_at rfl (.tmp 24) (.tmp 45) 24 rfl (w.alloc (.cells #[.int .i64 (a : Int), .int .i64 (b : Int), .slice (some ⟨pb, poff, none⟩) pn ca] 26)).heap.size i0 Try.underlying24 hi hz0 hz1 hz2 _ _ _ rfl OA _ _ _ z HZ.out.symm rfl _ (IQ.out _ HBA.out) (by rw [HZ.out]; decide) (by omega) HBA.out.size ?_; intro v' wb hownb hgr hat)
      have HO' := Lib.hid hownb; have HG := Lib.hid hgr; have HL' := Lib.hid OA.lt
      clear hownb hgr hat OA c0 c1 c2
      go_roundw
      case rel => exact ⟨k + 1, by omega, by go_num, by rw [Nat.add_mul, Nat.one_mul, HX.out]; exact HO'.out, HBA.out.grown HG.out HBA.out.size fun k hk => (HL'.out k hk).1⟩
      case measure => simp [intOf]; omega
    · obtain rfl : k = 8 := by omega
      have e1 : C.take (8 * 8) = C := List.take_of_length_le (by rw [HCL.out]; exact Nat.le_refl _)
      rw [e1] at hown
      obtain ⟨A3, c3, hv3, ho3⟩ := own_slice hown
      rw [HCL.out] at hv3
      subst hv3
      have O9 := Lib.hid (own_lower ho3 (base' := w.heap.size) (by rw [HSZ.out]; omega)); have B9 := Lib.hid (BB.out _ hbel)
      clear hown hbel ho3 e1
      go_wp2
      go_ret
      exact ⟨_, _, rfl, O9.out, B9.out⟩

set_option maxRecDepth 100000 in
set_option maxHeartbeats 4000000 in
theorem spec_blockat_any (a b : Int) (A : Option Addr) (ca : Nat) (l : List Int) (x y n : Int) (w : World) (hA : Ints w w.heap.size A l) (hca : l.length ≤ ca) : Calls Try.prog 36 #[.agg #[.int .i64 a, .int .i64 b, .slice A l.length ca], .int .i64 x, .int .i64 y, .int .i64 n] w fun e w' => ∃ A' c, e = .returned (.slice A' (blkL a b l x y n).length c) ∧ OwnI w' w.heap.size A' c (blkL a b l x y n) ∧ Below w.heap.size w w' := by
  cases hin : inE a b l x y n with
  | false =>
    have IN := Lib.hid fun w h => spec_l18in_any a b A ca l x y n w h
    have bt := below_two w (.cells #[.int .i64 a, .int .i64 b, .slice A l.length ca] 26) (.cells (ivs []).toArray 3)
    have O0 := Lib.hid (own_at' (w.alloc (.cells #[.int .i64 a, .int .i64 b, .slice A l.length ca] 26)) w.heap.size (w.heap.size + 1) [] (by simp) (by simp) (by simp))
    have B0 := Lib.hid bt
    have HA := Lib.hid ((hA.below bt (Nat.le_refl _)).mono bt.size)
    have hnl := hA.1
    rw [hin] at IN
    rw [show blkL a b l x y n = [] by unfold blkL; rw [hin]; rfl]
    clear hin hA bt hca
    go_enter Try.func36, Try.ntmps36
    go_wp2
    go_loopw [9, 10] (fun v x8 wr => v = .slice (some ⟨w.heap.size + 1, 0, none⟩) 0 0 ∧ x8 = .int .i64 0 ∧ wr = (w.alloc (.cells #[.int .i64 a, .int .i64 b, .slice A l.length ca] 26)).alloc (.cells (ivs []).toArray 3))
      (fun _ _ _ => 0)
    case atStart => exact ⟨rfl, rfl, rfl⟩
    case round =>
      obtain ⟨rfl, rfl, rfl⟩ := hrel
      by_cases h0 : 0 < n
      · have d1 : decide (0 < n) = true := by simpa using h0
        go_wp2_with fail
        refine (IN.out _ HA.out).mono ?_
        rintro e w1 ⟨rfl, hb1⟩
        have O1 := Lib.hid (O0.out.kept hb1 (Nat.le_refl _)); have B1 := Lib.hid (below_up B0.out hb1 B0.out.size)
        clear hb1
        go_wp2
        go_ret
        exact ⟨_, _, rfl, O1.out, B1.out⟩
      · have d1 : decide (0 < n) = false := by simpa using h0
        go_wp2
        go_ret
        exact ⟨_, _, rfl, O0.out, B0.out⟩
  | true =>
    have e1 : blkL a b l x y n = blkF l a.toNat x.toNat y.toNat n.toNat := by unfold blkL; rw [if_pos hin]
    rw [e1]
    have hh := hin
    simp only [inE, Bool.and_eq_true] at hh
    obtain ⟨⟨⟨⟨⟨hf, ho⟩, hx⟩, hy⟩, _⟩, _⟩ := hh
    obtain ⟨hs, hl, _⟩ := frameE_sides hf
    obtain ⟨h1, h2, _, _⟩ := sidesE_parts hs
    have hx := betE_true hx; have hy := betE_true hy
    obtain ⟨a', rfl⟩ := Int.eq_ofNat_of_zero_le (show 0 ≤ a by omega)
    obtain ⟨b', rfl⟩ := Int.eq_ofNat_of_zero_le (show 0 ≤ b by omega)
    obtain ⟨x', rfl⟩ := Int.eq_ofNat_of_zero_le hx.1
    obtain ⟨y', rfl⟩ := Int.eq_ofNat_of_zero_le hy.1
    have hl' : l.length = a' * b' := by rw [← Int.natCast_mul] at hl; exact Int.ofNat.inj hl
    have hpos : 8 * 8 ≤ a' * b' := Nat.mul_le_mul (by omega) (by omega)
    obtain ⟨pb, poff, rfl, hpb, hc⟩ := hA.at 0 (by omega)
    rw [blkF_len]
    rcases okN_cases ho with rfl | rfl
    · exact spec_blockat_4 a' b' x' y' pb poff ca l hin (by omega) (by omega) (by omega) (by omega) hl' hca w hpb hc
    · exact spec_blockat_8 a' b' x' y' pb poff ca l hin (by omega) (by omega) (by omega) (by omega) hl' hca w hpb hc
end Go.Proofs.Ytemfiglflbfocaa
