/-
  Chapter 18: contracts of the program's samplesAbove and samplesBeside. Condition: the block lies within a right frame, and below (right of) its first row (column).
-/
import Derived.Test.YtemfiglflbfocaaIfB
import Derived.Test.YtemfiglflbfocaaIfP
import Derived.Test.YtemfiglflbfocaaRep
namespace Go.Proofs.Ytemfiglflbfocaa
open Go.RowKit
set_option linter.unusedVariables false

set_option maxRecDepth 100000 in
set_option maxHeartbeats 2000000 in
/-- No times one number. -/
theorem repeat_zero (A : Option Addr) (v : Int) (cs : Nat) (w : World) (hA : Ints w w.heap.size A [v]) :
    Calls Try.prog 58 #[.slice A 1 cs, .int .i64 0] w fun e w' => ∃ A' c, e = .returned (.slice A' 0 c) ∧ OwnI w' w.heap.size A' c [] ∧ Below w.heap.size w w' := by
  have MU := Lib.hid (Try.bits_Mul 1 0 (by decide) (by decide))
  rw [show 1 * 0 / 18446744073709551616 = 0 from rfl, show 1 * 0 % 18446744073709551616 = 0 from rfl] at MU
  have hmk := make_ints 0 0 rfl (by decide)
  have hcp := run_copy_none (P := Try.prog) (w.alloc (.cells (ivs []).toArray 3)) 24 24 3 3 (some ⟨w.heap.size, 0, none⟩) A 0 0 1 cs Try.underlying24 Try.iinfo1 rfl
  have OW := Lib.hid (own_ints w w.heap.size [] (Nat.le_refl _) (by simp [maxLen]))
  have BN := Lib.hid (below_new w (.cells (ivs []).toArray 3))
  have u0 : IntKind.u64.wrap (0 : Int) = 0 := Mul64.wrapN 0 (by omega)
  have u1 : IntKind.u64.wrap (1 : Int) = 1 := Mul64.wrapN 1 (by omega)
  clear hA
  go_enter Try.func58, Try.ntmps58
  go_wp2_with fail
  refine (MU.out _).mono ?_
  rintro e w' ⟨rfl, hw⟩
  subst hw
  go_wp2
  go_loopw [8] (fun i wr => i = .int .i64 0 ∧ wr = w'.alloc (.cells (ivs []).toArray 3)) (fun _ _ => 0)
  case atStart => exact ⟨rfl, rfl⟩
  case round =>
    obtain ⟨rfl, rfl⟩ := hrel
    go_wp2
    go_ret
    exact ⟨_, _, rfl, OW.out, BN.out⟩
/-- One number, any number of times. -/
theorem repeat_one (A : Option Addr) (v : Int) (k cs : Nat) (hk : k ≤ 4000) (w : World) (hA : Ints w w.heap.size A [v]) :
    Calls Try.prog 58 #[.slice A 1 cs, .int .i64 k] w fun e w' => ∃ A' c, e = .returned (.slice A' k c) ∧ OwnI w' w.heap.size A' c (List.replicate k v) ∧ Below w.heap.size w w' := by
  by_cases h0 : k = 0
  · subst h0
    exact repeat_zero A v cs w hA
  · have r := repeat_rows A [v] k cs k (by simp) (by omega) (by simp) hk w hA
    have e : repR [v] k = List.replicate k v := by simp [repR]
    rw [e] at r
    exact r
/-- A row filled from the front. -/
def colI (C : List Int) (N j : Nat) : List Int := C.take j ++ List.replicate (N - j) 0
theorem colI_len {C : List Int} {N j : Nat} (hC : C.length = N) (hj : j ≤ N) : (colI C N j).length = N := by
  simp only [colI, List.length_append, List.length_take, List.length_replicate]; omega
theorem colI_zero (C : List Int) (N : Nat) : colI C N 0 = List.replicate N 0 := by simp [colI]
theorem colI_full {C : List Int} {N : Nat} (hC : C.length = N) : colI C N N = C := by
  rw [colI, Nat.sub_self, List.replicate_zero, List.append_nil, List.take_of_length_le (by omega)]
theorem colI_set {C : List Int} {N j : Nat} (hC : C.length = N) (hj : j < N) : (colI C N j).set j (C.getD j 0) = colI C N (j + 1) := by
  have hl : (C.take j).length = j := by rw [List.length_take]; omega
  rw [colI, colI, List.set_append_right _ _ (by omega), hl, Nat.sub_self, show N - j = (N - (j + 1)) + 1 by omega, List.replicate_succ, List.set_cons_zero, List.take_add_one, List.getD_eq_getElem?_getD, List.getElem?_eq_getElem (by omega), List.append_assoc]
  rfl
set_option maxRecDepth 100000 in
set_option maxHeartbeats 4000000 in
theorem impl_above_4_row (a b x y : Nat) (pb poff ca : Nat) (l : List Int) (hx : x + 4 ≤ a) (hy : y + 4 ≤ b) (ha : a ≤ 32) (hb : b ≤ 32) (hl : l.length = a * b) (hca : l.length ≤ ca) (w : World) (hpb : pb < w.heap.size) (hc : ∀ j, j < l.length → w.cell? ⟨pb, poff + j, none⟩ = some (.int .i64 (l.getD j 0))) (hy0 : 0 < y) (h8 : y % 8 = 0) :
    Calls Try.prog 59 #[.agg #[.int .i64 (a : Int), .int .i64 (b : Int), .slice (some ⟨pb, poff, none⟩) l.length ca], .int .i64 (x : Int), .int .i64 (y : Int), .int .i64 4] w fun e w' => ∃ A' c', e = .returned (.slice A' 8 c') ∧ OwnI w' w.heap.size A' c' (tpL l a x y 4 8) ∧ Below w.heap.size w w' := by
  have hab : a * b ≤ 32 * 32 := Nat.mul_le_mul ha hb
  have hya : (y - 1) * a + a ≤ l.length ∧ (y - 1) * a ≤ 1024 := by
    have h1 : (y - 1 + 1) * a ≤ b * a := Nat.mul_le_mul_right a (by omega)
    rw [Nat.mul_comm b a] at h1
    rw [Nat.add_mul, Nat.one_mul] at h1
    omega
  obtain ⟨c, hcd⟩ : ∃ c, c = Nat.min 8 (a - x) := ⟨_, rfl⟩
  have hcm : c ≤ 8 := by rw [hcd]; exact Nat.min_le_left _ _
  have hcx : c ≤ a - x := by rw [hcd]; exact Nat.min_le_right _ _
  have hcn : 4 ≤ c := by rw [hcd]; exact Nat.le_min.2 ⟨by decide, by omega⟩
  obtain ⟨d, hd⟩ : ∃ d, d = c - 1 := ⟨_, rfl⟩
  obtain ⟨k, hk⟩ : ∃ k, k = 8 - c := ⟨_, rfl⟩
  have hcl : c = 8 ∨ c = a - x := by rw [hcd]; exact (Nat.le_total 8 (a - x)).elim (fun h => .inl (Nat.min_eq_left h)) (fun h => .inr (Nat.min_eq_right h))
  have m1 : min (8 : Int) ((a : Int) - (x : Int)) = (c : Int) := by omega
  have m3 : min ((a : Int) - (x : Int)) (8 : Int) = (c : Int) := by omega
  have m2 : (if (a : Int) - (x : Int) < 8 then (a : Int) - (x : Int) else 8) = (c : Int) := by split <;> omega
  have m4 : (if (8 : Int) ≤ (a : Int) - (x : Int) then (8 : Int) else (a : Int) - (x : Int)) = (c : Int) := by split <;> omega
  have M1 := Lib.hid m1; have M2 := Lib.hid m2; have M3 := Lib.hid m3; have M4 := Lib.hid m4
  have far := tpL_far (l := l) (a := a) (x := x) (y := y) (n := 4) (c := c) hy0 (by omega) (fun i hi => by omega) (by omega) (fun i h1 h2 => by omega) k (by omega)
  rw [show c + k = 8 by omega] at far
  clear m1 m2 m3 m4 hcd hcl
  rw [far]
  clear far
  obtain ⟨q, hq⟩ : ∃ q, q = (y - 1) * a := ⟨_, rfl⟩
  rw [← hq] at hya ⊢
  rw [← hd]
  have RX := Lib.hid (impl_rowpart a (b : Int) pb poff l.length ca x c q ((y : Int) - 1) (by rw [hq, Int.natCast_mul, show ((y - 1 : Nat) : Int) = (y : Int) - 1 by omega]) (by omega) (by omega) (by omega) (by omega) (by omega))
  obtain ⟨R, hR⟩ : ∃ R, R = (l.drop (q + x)).take c := ⟨_, rfl⟩
  obtain ⟨v, hv⟩ : ∃ v, v = l.getD (q + x + d) 0 := ⟨_, rfl⟩
  have hRl : R.length = c := by rw [hR, List.length_take, List.length_drop]; omega
  rw [← hR, ← hv]
  have I1 : Hid (∀ wr, Below w.heap.size w wr → Ints wr wr.heap.size (some ⟨pb, poff + (q + x), none⟩) R) := Lib.hid fun wr h => by
    refine ⟨by omega, .inr ⟨pb, poff + (q + x), rfl, Nat.lt_of_lt_of_le hpb h.size, fun j hj => ?_⟩⟩
    rw [h.cell (p := ⟨pb, poff + (q + x) + j, none⟩) hpb, Nat.add_assoc, hc (q + x + j) (by omega), hR, drop_take_at (by omega)]
  have I2 : Hid (∀ wr, Below w.heap.size w wr → Ints wr wr.heap.size (some ⟨pb, poff + (q + x) + d, none⟩) [v]) := Lib.hid fun wr h => by
    refine ⟨by simp, .inr ⟨pb, poff + (q + x) + d, rfl, Nat.lt_of_lt_of_le hpb h.size, fun j hj => ?_⟩⟩
    obtain rfl : j = 0 := by simpa using hj
    rw [h.cell (p := ⟨pb, poff + (q + x) + d + 0, none⟩) hpb, Nat.add_zero, Nat.add_assoc poff (q + x) d, hc (q + x + d) (by omega), ← hv]
    rfl
  obtain ⟨po, hpo⟩ : ∃ po, po = poff + (q + x) := ⟨_, rfl⟩
  obtain ⟨rc, hrc⟩ : ∃ rc, rc = ca - (q + x) := ⟨_, rfl⟩
  have hrc2 : c ≤ rc := by omega
  rw [← hpo, ← hrc] at RX
  rw [← hpo] at I1 I2
  have RPT := Lib.hid fun cs w h => repeat_one (some ⟨pb, po + d, none⟩) v k cs (by omega) w h
  have CC := Lib.hid fun B cb w h1 h2 h3 => concat2 (some ⟨pb, po, none⟩) B rc cb R (List.replicate k v) (by rw [List.length_replicate]; omega) w 24 h1 (fun h => by cases h) h2 h3
  rw [List.length_append, List.length_replicate, hRl, show c + k = 8 by omega] at CC
  obtain ⟨Q, hQ⟩ : ∃ Q, Q = R ++ List.replicate k v := ⟨_, rfl⟩
  have hql : Q.length = 8 := by rw [hQ, List.length_append, List.length_replicate]; omega
  rw [← hQ] at CC ⊢
  have HK := Lib.hid (heap_alloc_new w (.cells #[.int .i64 (a : Int), .int .i64 (b : Int), .slice (some ⟨pb, poff, none⟩) l.length ca] 26))
  have BW := Lib.hid (below_new w (.cells #[.int .i64 (a : Int), .int .i64 (b : Int), .slice (some ⟨pb, poff, none⟩) l.length ca] 26))
  have e1 : (y : Int).tmod 8 = ((y % 8 : Nat) : Int) := by rw [Int.tmod_eq_emod_of_nonneg (by omega)]; rfl
  obtain ⟨u, hu⟩ : ∃ u, u = ((y % 8 : Nat) : Int) := ⟨_, rfl⟩
  have q1 : 0 ≤ u ∧ u < 8 := by omega
  have hyw : IntKind.i64.wrap ((y : Int) - 1) = (y : Int) - 1 := IntWalk.i64_in _ (by omega)
  have haw : IntKind.i64.wrap ((a : Int) - (x : Int)) = (a : Int) - (x : Int) := IntWalk.i64_in _ (by omega)
  rw [← hu] at e1
  obtain rfl : u = 0 := by omega
  have s0 : IntKind.i64.wrap ((c : Int) - 1) = (d : Int) := by rw [show (c : Int) - 1 = (d : Int) by omega]; exact IntWalk.i64_in _ (by omega)
  have s1 : IntKind.i64.wrap (8 - (c : Int)) = (k : Int) := by rw [show (8 : Int) - (c : Int) = (k : Int) by omega]; exact IntWalk.i64_in _ (by omega)
  have s2 : (0 : Int) ≤ (d : Int) := by omega
  have s3 : (d : Int) ≤ (c : Int) := by omega
  have s4 : d ≤ c := by omega
  have s5 : c ≤ rc := by omega
  have s6 : (c : Int) ≤ (rc : Int) := by omega
  have s7 : ¬ rc = d := by omega
  have s8 : c - d = 1 := by omega
  have hkm : k ≤ 100 := by omega
  have RL := Lib.hid hRl; have QL := Lib.hid hql
  obtain ⟨pn, hpn⟩ : ∃ pn, pn = l.length := ⟨_, rfl⟩
  rw [← hpn] at RX HK BW ⊢
  clear hR hv hRl hpo hrc hQ hql hq hu hab hya hl hca hc hpn hd hk hcm hcx hcn
  clear h8 hy0 hx hy hrc2
  have m1 := M1.out; have m2 := M2.out; have m3 := M3.out; have m4 := M4.out
  go_enter Try.func59, Try.ntmps59
  go_wp2_with fail
  refine (RX.out _).mono ?_
  rintro e w1 ⟨rfl, hb1⟩
  have B1 := Lib.hid (below_up BW.out hb1 BW.out.size)
  have J1 := Lib.hid (I2.out _ B1.out)
  clear hb1
  go_wp2_with fail
  refine (RPT.out _ _ J1.out).mono ?_
  rintro e w2 ⟨A2, c2, rfl, ho2, hb2⟩
  have B2 := Lib.hid (below_up B1.out hb2 B1.out.size)
  have J2 := Lib.hid (ho2.ints (by rw [List.length_replicate]; omega)); have P2 := Lib.hid ho2.placed
  have K2 := Lib.hid (I1.out _ B2.out)
  clear hb2 ho2
  go_wp2_with fail
  refine (CC.out _ _ _ K2.out J2.out P2.out).mono ?_
  rintro e w3 ⟨A3, c3, rfl, ho3, hb3⟩
  have B3 := Lib.hid (below_up B2.out hb3 B2.out.size)
  have O3 := Lib.hid (OwnI.low ho3 B2.out.size)
  clear hb3 ho3
  go_wp2
  go_ret
  exact ⟨_, _, rfl, O3.out, B3.out⟩
set_option maxRecDepth 100000 in
set_option maxHeartbeats 4000000 in
theorem impl_above_4_in (a b x y : Nat) (pb poff ca : Nat) (l : List Int) (hx : x + 4 ≤ a) (hy : y + 4 ≤ b) (ha : a ≤ 32) (hb : b ≤ 32) (hl : l.length = a * b) (hca : l.length ≤ ca) (w : World) (hpb : pb < w.heap.size) (hc : ∀ j, j < l.length → w.cell? ⟨pb, poff + j, none⟩ = some (.int .i64 (l.getD j 0))) (hy0 : 0 < y) (h8 : ¬ y % 8 = 0) :
    Calls Try.prog 59 #[.agg #[.int .i64 (a : Int), .int .i64 (b : Int), .slice (some ⟨pb, poff, none⟩) l.length ca], .int .i64 (x : Int), .int .i64 (y : Int), .int .i64 4] w fun e w' => ∃ A' c', e = .returned (.slice A' 8 c') ∧ OwnI w' w.heap.size A' c' (tpL l a x y 4 8) ∧ Below w.heap.size w w' := by
  have hab : a * b ≤ 32 * 32 := Nat.mul_le_mul ha hb
  have hya : (y - 1) * a + a ≤ l.length ∧ (y - 1) * a ≤ 1024 := by
    have h1 : (y - 1 + 1) * a ≤ b * a := Nat.mul_le_mul_right a (by omega)
    rw [Nat.mul_comm b a] at h1
    rw [Nat.add_mul, Nat.one_mul] at h1
    omega
  have far := tpL_far (l := l) (a := a) (x := x) (y := y) (n := 4) (c := 4) hy0 (by decide) (fun i hi => by omega) (by omega) (fun i h1 h2 => by omega) 4 (by decide)
  rw [show 4 + 4 = 8 from rfl, show 4 - 1 = 3 from rfl] at far
  rw [far]
  clear far
  obtain ⟨q, hq⟩ : ∃ q, q = (y - 1) * a := ⟨_, rfl⟩
  rw [← hq] at hya ⊢
  have RX := Lib.hid (impl_rowpart a (b : Int) pb poff l.length ca x 4 q ((y : Int) - 1) (by rw [hq, Int.natCast_mul, show ((y - 1 : Nat) : Int) = (y : Int) - 1 by omega]) (by omega) (by omega) (by omega) (by omega) (by omega))
  rw [show ((4 : Nat) : Int) = 4 from rfl] at RX
  obtain ⟨R, hR⟩ : ∃ R, R = (l.drop (q + x)).take 4 := ⟨_, rfl⟩
  obtain ⟨v, hv⟩ : ∃ v, v = l.getD (q + x + 3) 0 := ⟨_, rfl⟩
  have hRl : R.length = 4 := by rw [hR, List.length_take, List.length_drop]; omega
  rw [← hR, ← hv]
  have I1 : Hid (∀ wr, Below w.heap.size w wr → Ints wr wr.heap.size (some ⟨pb, poff + (q + x), none⟩) R) := Lib.hid fun wr h => by
    refine ⟨by omega, .inr ⟨pb, poff + (q + x), rfl, Nat.lt_of_lt_of_le hpb h.size, fun j hj => ?_⟩⟩
    rw [h.cell (p := ⟨pb, poff + (q + x) + j, none⟩) hpb, Nat.add_assoc, hc (q + x + j) (by omega), hR, drop_take_at (by omega)]
  have I2 : Hid (∀ wr, Below w.heap.size w wr → Ints wr wr.heap.size (some ⟨pb, poff + (q + x) + 3, none⟩) [v]) := Lib.hid fun wr h => by
    refine ⟨by simp, .inr ⟨pb, poff + (q + x) + 3, rfl, Nat.lt_of_lt_of_le hpb h.size, fun j hj => ?_⟩⟩
    obtain rfl : j = 0 := by simpa using hj
    rw [h.cell (p := ⟨pb, poff + (q + x) + 3 + 0, none⟩) hpb, Nat.add_zero, Nat.add_assoc poff (q + x) 3, hc (q + x + 3) (by omega), ← hv]
    rfl
  obtain ⟨po, hpo⟩ : ∃ po, po = poff + (q + x) := ⟨_, rfl⟩
  obtain ⟨rc, hrc⟩ : ∃ rc, rc = ca - (q + x) := ⟨_, rfl⟩
  have hrc2 : 4 ≤ rc := by omega
  rw [← hpo, ← hrc] at RX
  rw [← hpo] at I1 I2
  have RPT := Lib.hid fun cs w h => repeat_one (some ⟨pb, po + 3, none⟩) v 4 cs (by omega) w h
  have CC := Lib.hid fun B cb w h1 h2 h3 => concat2 (some ⟨pb, po, none⟩) B rc cb R (List.replicate 4 v) (by rw [List.length_replicate]; omega) w 24 h1 (fun h => by cases h) h2 h3
  rw [List.length_append, List.length_replicate, hRl, show 4 + 4 = 8 by omega] at CC
  obtain ⟨Q, hQ⟩ : ∃ Q, Q = R ++ List.replicate 4 v := ⟨_, rfl⟩
  have hql : Q.length = 8 := by rw [hQ, List.length_append, List.length_replicate]; omega
  rw [← hQ] at CC ⊢
  have HK := Lib.hid (heap_alloc_new w (.cells #[.int .i64 (a : Int), .int .i64 (b : Int), .slice (some ⟨pb, poff, none⟩) l.length ca] 26))
  have BW := Lib.hid (below_new w (.cells #[.int .i64 (a : Int), .int .i64 (b : Int), .slice (some ⟨pb, poff, none⟩) l.length ca] 26))
  have e1 : (y : Int).tmod 8 = ((y % 8 : Nat) : Int) := by rw [Int.tmod_eq_emod_of_nonneg (by omega)]; rfl
  obtain ⟨u, hu⟩ : ∃ u, u = ((y % 8 : Nat) : Int) := ⟨_, rfl⟩
  have q1 : 0 ≤ u ∧ u < 8 := by omega
  have hyw : IntKind.i64.wrap ((y : Int) - 1) = (y : Int) - 1 := IntWalk.i64_in _ (by omega)
  have haw : IntKind.i64.wrap ((a : Int) - (x : Int)) = (a : Int) - (x : Int) := IntWalk.i64_in _ (by omega)
  rw [← hu] at e1
  have z2 : (u == 0) = false := by rw [beq_eq_false_iff_ne]; omega
  have z1 : ((y : Int).tmod 8 == 0) = false := by rw [e1]; exact z2
  have s5 : 4 ≤ rc := by omega
  have s6 : (4 : Int) ≤ (rc : Int) := by omega
  have s7 : ¬ rc = 3 := by omega
  have s9 : ¬ rc = 0 := by omega
  have RL := Lib.hid hRl; have QL := Lib.hid hql
  obtain ⟨pn, hpn⟩ : ∃ pn, pn = l.length := ⟨_, rfl⟩
  rw [← hpn] at RX HK BW ⊢
  clear hR hv hRl hpo hrc hQ hql hq hu hab hya hl hca hc hpn
  clear h8 hy0 hx hy hrc2
  go_enter Try.func59, Try.ntmps59
  go_wp2_with fail
  refine (RX.out _).mono ?_
  rintro e w1 ⟨rfl, hb1⟩
  have B1 := Lib.hid (below_up BW.out hb1 BW.out.size)
  have J1 := Lib.hid (I2.out _ B1.out)
  clear hb1
  go_wp2_with fail
  refine (RPT.out _ _ J1.out).mono ?_
  rintro e w2 ⟨A2, c2, rfl, ho2, hb2⟩
  have B2 := Lib.hid (below_up B1.out hb2 B1.out.size)
  have J2 := Lib.hid (ho2.ints (by rw [List.length_replicate]; omega)); have P2 := Lib.hid ho2.placed
  have K2 := Lib.hid (I1.out _ B2.out)
  clear hb2 ho2
  go_wp2_with fail
  refine (CC.out _ _ _ K2.out J2.out P2.out).mono ?_
  rintro e w3 ⟨A3, c3, rfl, ho3, hb3⟩
  have B3 := Lib.hid (below_up B2.out hb3 B2.out.size)
  have O3 := Lib.hid (OwnI.low ho3 B2.out.size)
  clear hb3 ho3
  go_wp2
  go_ret
  exact ⟨_, _, rfl, O3.out, B3.out⟩
theorem impl_above_4 (a b x y : Nat) (pb poff ca : Nat) (l : List Int) (hx : x + 4 ≤ a) (hy : y + 4 ≤ b) (ha : a ≤ 32) (hb : b ≤ 32) (hl : l.length = a * b) (hca : l.length ≤ ca) (w : World) (hpb : pb < w.heap.size) (hc : ∀ j, j < l.length → w.cell? ⟨pb, poff + j, none⟩ = some (.int .i64 (l.getD j 0))) (hy0 : 0 < y) :
    Calls Try.prog 59 #[.agg #[.int .i64 (a : Int), .int .i64 (b : Int), .slice (some ⟨pb, poff, none⟩) l.length ca], .int .i64 (x : Int), .int .i64 (y : Int), .int .i64 4] w fun e w' => ∃ A' c', e = .returned (.slice A' 8 c') ∧ OwnI w' w.heap.size A' c' (tpL l a x y 4 8) ∧ Below w.heap.size w w' := by
  by_cases h8 : y % 8 = 0
  · exact impl_above_4_row a b x y pb poff ca l hx hy ha hb hl hca w hpb hc hy0 h8
  · exact impl_above_4_in a b x y pb poff ca l hx hy ha hb hl hca w hpb hc hy0 h8
set_option maxRecDepth 100000 in
set_option maxHeartbeats 4000000 in
theorem impl_above_8_row (a b x y : Nat) (pb poff ca : Nat) (l : List Int) (hx : x + 8 ≤ a) (hy : y + 8 ≤ b) (ha : a ≤ 32) (hb : b ≤ 32) (hl : l.length = a * b) (hca : l.length ≤ ca) (w : World) (hpb : pb < w.heap.size) (hc : ∀ j, j < l.length → w.cell? ⟨pb, poff + j, none⟩ = some (.int .i64 (l.getD j 0))) (hy0 : 0 < y) (h8 : y % 8 = 0) :
    Calls Try.prog 59 #[.agg #[.int .i64 (a : Int), .int .i64 (b : Int), .slice (some ⟨pb, poff, none⟩) l.length ca], .int .i64 (x : Int), .int .i64 (y : Int), .int .i64 8] w fun e w' => ∃ A' c', e = .returned (.slice A' 16 c') ∧ OwnI w' w.heap.size A' c' (tpL l a x y 8 16) ∧ Below w.heap.size w w' := by
  have hab : a * b ≤ 32 * 32 := Nat.mul_le_mul ha hb
  have hya : (y - 1) * a + a ≤ l.length ∧ (y - 1) * a ≤ 1024 := by
    have h1 : (y - 1 + 1) * a ≤ b * a := Nat.mul_le_mul_right a (by omega)
    rw [Nat.mul_comm b a] at h1
    rw [Nat.add_mul, Nat.one_mul] at h1
    omega
  obtain ⟨c, hcd⟩ : ∃ c, c = Nat.min 16 (a - x) := ⟨_, rfl⟩
  have hcm : c ≤ 16 := by rw [hcd]; exact Nat.min_le_left _ _
  have hcx : c ≤ a - x := by rw [hcd]; exact Nat.min_le_right _ _
  have hcn : 8 ≤ c := by rw [hcd]; exact Nat.le_min.2 ⟨by decide, by omega⟩
  obtain ⟨d, hd⟩ : ∃ d, d = c - 1 := ⟨_, rfl⟩
  obtain ⟨k, hk⟩ : ∃ k, k = 16 - c := ⟨_, rfl⟩
  have hcl : c = 16 ∨ c = a - x := by rw [hcd]; exact (Nat.le_total 16 (a - x)).elim (fun h => .inl (Nat.min_eq_left h)) (fun h => .inr (Nat.min_eq_right h))
  have m1 : min (16 : Int) ((a : Int) - (x : Int)) = (c : Int) := by omega
  have m3 : min ((a : Int) - (x : Int)) (16 : Int) = (c : Int) := by omega
  have m2 : (if (a : Int) - (x : Int) < 16 then (a : Int) - (x : Int) else 16) = (c : Int) := by split <;> omega
  have m4 : (if (16 : Int) ≤ (a : Int) - (x : Int) then (16 : Int) else (a : Int) - (x : Int)) = (c : Int) := by split <;> omega
  have M1 := Lib.hid m1; have M2 := Lib.hid m2; have M3 := Lib.hid m3; have M4 := Lib.hid m4
  have far := tpL_far (l := l) (a := a) (x := x) (y := y) (n := 8) (c := c) hy0 (by omega) (fun i hi => by omega) (by omega) (fun i h1 h2 => by omega) k (by omega)
  rw [show c + k = 16 by omega] at far
  clear m1 m2 m3 m4 hcd hcl
  rw [far]
  clear far
  obtain ⟨q, hq⟩ : ∃ q, q = (y - 1) * a := ⟨_, rfl⟩
  rw [← hq] at hya ⊢
  rw [← hd]
  have RX := Lib.hid (impl_rowpart a (b : Int) pb poff l.length ca x c q ((y : Int) - 1) (by rw [hq, Int.natCast_mul, show ((y - 1 : Nat) : Int) = (y : Int) - 1 by omega]) (by omega) (by omega) (by omega) (by omega) (by omega))
  obtain ⟨R, hR⟩ : ∃ R, R = (l.drop (q + x)).take c := ⟨_, rfl⟩
  obtain ⟨v, hv⟩ : ∃ v, v = l.getD (q + x + d) 0 := ⟨_, rfl⟩
  have hRl : R.length = c := by rw [hR, List.length_take, List.length_drop]; omega
  rw [← hR, ← hv]
  have I1 : Hid (∀ wr, Below w.heap.size w wr → Ints wr wr.heap.size (some ⟨pb, poff + (q + x), none⟩) R) := Lib.hid fun wr h => by
    refine ⟨by omega, .inr ⟨pb, poff + (q + x), rfl, Nat.lt_of_lt_of_le hpb h.size, fun j hj => ?_⟩⟩
    rw [h.cell (p := ⟨pb, poff + (q + x) + j, none⟩) hpb, Nat.add_assoc, hc (q + x + j) (by omega), hR, drop_take_at (by omega)]
  have I2 : Hid (∀ wr, Below w.heap.size w wr → Ints wr wr.heap.size (some ⟨pb, poff + (q + x) + d, none⟩) [v]) := Lib.hid fun wr h => by
    refine ⟨by simp, .inr ⟨pb, poff + (q + x) + d, rfl, Nat.lt_of_lt_of_le hpb h.size, fun j hj => ?_⟩⟩
    obtain rfl : j = 0 := by simpa using hj
    rw [h.cell (p := ⟨pb, poff + (q + x) + d + 0, none⟩) hpb, Nat.add_zero, Nat.add_assoc poff (q + x) d, hc (q + x + d) (by omega), ← hv]
    rfl
  obtain ⟨po, hpo⟩ : ∃ po, po = poff + (q + x) := ⟨_, rfl⟩
  obtain ⟨rc, hrc⟩ : ∃ rc, rc = ca - (q + x) := ⟨_, rfl⟩
  have hrc2 : c ≤ rc := by omega
  rw [← hpo, ← hrc] at RX
  rw [← hpo] at I1 I2
  have RPT := Lib.hid fun cs w h => repeat_one (some ⟨pb, po + d, none⟩) v k cs (by omega) w h
  have CC := Lib.hid fun B cb w h1 h2 h3 => concat2 (some ⟨pb, po, none⟩) B rc cb R (List.replicate k v) (by rw [List.length_replicate]; omega) w 24 h1 (fun h => by cases h) h2 h3
  rw [List.length_append, List.length_replicate, hRl, show c + k = 16 by omega] at CC
  obtain ⟨Q, hQ⟩ : ∃ Q, Q = R ++ List.replicate k v := ⟨_, rfl⟩
  have hql : Q.length = 16 := by rw [hQ, List.length_append, List.length_replicate]; omega
  rw [← hQ] at CC ⊢
  have HK := Lib.hid (heap_alloc_new w (.cells #[.int .i64 (a : Int), .int .i64 (b : Int), .slice (some ⟨pb, poff, none⟩) l.length ca] 26))
  have BW := Lib.hid (below_new w (.cells #[.int .i64 (a : Int), .int .i64 (b : Int), .slice (some ⟨pb, poff, none⟩) l.length ca] 26))
  have e1 : (y : Int).tmod 8 = ((y % 8 : Nat) : Int) := by rw [Int.tmod_eq_emod_of_nonneg (by omega)]; rfl
  obtain ⟨u, hu⟩ : ∃ u, u = ((y % 8 : Nat) : Int) := ⟨_, rfl⟩
  have q1 : 0 ≤ u ∧ u < 8 := by omega
  have hyw : IntKind.i64.wrap ((y : Int) - 1) = (y : Int) - 1 := IntWalk.i64_in _ (by omega)
  have haw : IntKind.i64.wrap ((a : Int) - (x : Int)) = (a : Int) - (x : Int) := IntWalk.i64_in _ (by omega)
  rw [← hu] at e1
  obtain rfl : u = 0 := by omega
  have s0 : IntKind.i64.wrap ((c : Int) - 1) = (d : Int) := by rw [show (c : Int) - 1 = (d : Int) by omega]; exact IntWalk.i64_in _ (by omega)
  have s1 : IntKind.i64.wrap (16 - (c : Int)) = (k : Int) := by rw [show (16 : Int) - (c : Int) = (k : Int) by omega]; exact IntWalk.i64_in _ (by omega)
  have s2 : (0 : Int) ≤ (d : Int) := by omega
  have s3 : (d : Int) ≤ (c : Int) := by omega
  have s4 : d ≤ c := by omega
  have s5 : c ≤ rc := by omega
  have s6 : (c : Int) ≤ (rc : Int) := by omega
  have s7 : ¬ rc = d := by omega
  have s8 : c - d = 1 := by omega
  have hkm : k ≤ 100 := by omega
  have RL := Lib.hid hRl; have QL := Lib.hid hql
  obtain ⟨pn, hpn⟩ : ∃ pn, pn = l.length := ⟨_, rfl⟩
  rw [← hpn] at RX HK BW ⊢
  clear hR hv hRl hpo hrc hQ hql hq hu hab hya hl hca hc hpn hd hk hcm hcx hcn
  clear h8 hy0 hx hy hrc2
  have m1 := M1.out; have m2 := M2.out; have m3 := M3.out; have m4 := M4.out
  go_enter Try.func59, Try.ntmps59
  go_wp2_with fail
  refine (RX.out _).mono ?_
  rintro e w1 ⟨rfl, hb1⟩
  have B1 := Lib.hid (below_up BW.out hb1 BW.out.size)
  have J1 := Lib.hid (I2.out _ B1.out)
  clear hb1
  go_wp2_with fail
  refine (RPT.out _ _ J1.out).mono ?_
  rintro e w2 ⟨A2, c2, rfl, ho2, hb2⟩
  have B2 := Lib.hid (below_up B1.out hb2 B1.out.size)
  have J2 := Lib.hid (ho2.ints (by rw [List.length_replicate]; omega)); have P2 := Lib.hid ho2.placed
  have K2 := Lib.hid (I1.out _ B2.out)
  clear hb2 ho2
  go_wp2_with fail
  refine (CC.out _ _ _ K2.out J2.out P2.out).mono ?_
  rintro e w3 ⟨A3, c3, rfl, ho3, hb3⟩
  have B3 := Lib.hid (below_up B2.out hb3 B2.out.size)
  have O3 := Lib.hid (OwnI.low ho3 B2.out.size)
  clear hb3 ho3
  go_wp2
  go_ret
  exact ⟨_, _, rfl, O3.out, B3.out⟩
set_option maxRecDepth 100000 in
set_option maxHeartbeats 4000000 in
theorem impl_above_8_in (a b x y : Nat) (pb poff ca : Nat) (l : List Int) (hx : x + 8 ≤ a) (hy : y + 8 ≤ b) (ha : a ≤ 32) (hb : b ≤ 32) (hl : l.length = a * b) (hca : l.length ≤ ca) (w : World) (hpb : pb < w.heap.size) (hc : ∀ j, j < l.length → w.cell? ⟨pb, poff + j, none⟩ = some (.int .i64 (l.getD j 0))) (hy0 : 0 < y) (h8 : ¬ y % 8 = 0) :
    Calls Try.prog 59 #[.agg #[.int .i64 (a : Int), .int .i64 (b : Int), .slice (some ⟨pb, poff, none⟩) l.length ca], .int .i64 (x : Int), .int .i64 (y : Int), .int .i64 8] w fun e w' => ∃ A' c', e = .returned (.slice A' 16 c') ∧ OwnI w' w.heap.size A' c' (tpL l a x y 8 16) ∧ Below w.heap.size w w' := by
  have hab : a * b ≤ 32 * 32 := Nat.mul_le_mul ha hb
  have hya : (y - 1) * a + a ≤ l.length ∧ (y - 1) * a ≤ 1024 := by
    have h1 : (y - 1 + 1) * a ≤ b * a := Nat.mul_le_mul_right a (by omega)
    rw [Nat.mul_comm b a] at h1
    rw [Nat.add_mul, Nat.one_mul] at h1
    omega
  have far := tpL_far (l := l) (a := a) (x := x) (y := y) (n := 8) (c := 8) hy0 (by decide) (fun i hi => by omega) (by omega) (fun i h1 h2 => by omega) 8 (by decide)
  rw [show 8 + 8 = 16 from rfl, show 8 - 1 = 7 from rfl] at far
  rw [far]
  clear far
  obtain ⟨q, hq⟩ : ∃ q, q = (y - 1) * a := ⟨_, rfl⟩
  rw [← hq] at hya ⊢
  have RX := Lib.hid (impl_rowpart a (b : Int) pb poff l.length ca x 8 q ((y : Int) - 1) (by rw [hq, Int.natCast_mul, show ((y - 1 : Nat) : Int) = (y : Int) - 1 by omega]) (by omega) (by omega) (by omega) (by omega) (by omega))
  rw [show ((8 : Nat) : Int) = 8 from rfl] at RX
  obtain ⟨R, hR⟩ : ∃ R, R = (l.drop (q + x)).take 8 := ⟨_, rfl⟩
  obtain ⟨v, hv⟩ : ∃ v, v = l.getD (q + x + 7) 0 := ⟨_, rfl⟩
  have hRl : R.length = 8 := by rw [hR, List.length_take, List.length_drop]; omega
  rw [← hR, ← hv]
  have I1 : Hid (∀ wr, Below w.heap.size w wr → Ints wr wr.heap.size (some ⟨pb, poff + (q + x), none⟩) R) := Lib.hid fun wr h => by
    refine ⟨by omega, .inr ⟨pb, poff + (q + x), rfl, Nat.lt_of_lt_of_le hpb h.size, fun j hj => ?_⟩⟩
    rw [h.cell (p := ⟨pb, poff + (q + x) + j, none⟩) hpb, Nat.add_assoc, hc (q + x + j) (by omega), hR, drop_take_at (by omega)]
  have I2 : Hid (∀ wr, Below w.heap.size w wr → Ints wr wr.heap.size (some ⟨pb, poff + (q + x) + 7, none⟩) [v]) := Lib.hid fun wr h => by
    refine ⟨by simp, .inr ⟨pb, poff + (q + x) + 7, rfl, Nat.lt_of_lt_of_le hpb h.size, fun j hj => ?_⟩⟩
    obtain rfl : j = 0 := by simpa using hj
    rw [h.cell (p := ⟨pb, poff + (q + x) + 7 + 0, none⟩) hpb, Nat.add_zero, Nat.add_assoc poff (q + x) 7, hc (q + x + 7) (by omega), ← hv]
    rfl
  obtain ⟨po, hpo⟩ : ∃ po, po = poff + (q + x) := ⟨_, rfl⟩
  obtain ⟨rc, hrc⟩ : ∃ rc, rc = ca - (q + x) := ⟨_, rfl⟩
  have hrc2 : 8 ≤ rc := by omega
  rw [← hpo, ← hrc] at RX
  rw [← hpo] at I1 I2
  have RPT := Lib.hid fun cs w h => repeat_one (some ⟨pb, po + 7, none⟩) v 8 cs (by omega) w h
  have CC := Lib.hid fun B cb w h1 h2 h3 => concat2 (some ⟨pb, po, none⟩) B rc cb R (List.replicate 8 v) (by rw [List.length_replicate]; omega) w 24 h1 (fun h => by cases h) h2 h3
  rw [List.length_append, List.length_replicate, hRl, show 8 + 8 = 16 by omega] at CC
  obtain ⟨Q, hQ⟩ : ∃ Q, Q = R ++ List.replicate 8 v := ⟨_, rfl⟩
  have hql : Q.length = 16 := by rw [hQ, List.length_append, List.length_replicate]; omega
  rw [← hQ] at CC ⊢
  have HK := Lib.hid (heap_alloc_new w (.cells #[.int .i64 (a : Int), .int .i64 (b : Int), .slice (some ⟨pb, poff, none⟩) l.length ca] 26))
  have BW := Lib.hid (below_new w (.cells #[.int .i64 (a : Int), .int .i64 (b : Int), .slice (some ⟨pb, poff, none⟩) l.length ca] 26))
  have e1 : (y : Int).tmod 8 = ((y % 8 : Nat) : Int) := by rw [Int.tmod_eq_emod_of_nonneg (by omega)]; rfl
  obtain ⟨u, hu⟩ : ∃ u, u = ((y % 8 : Nat) : Int) := ⟨_, rfl⟩
  have q1 : 0 ≤ u ∧ u < 8 := by omega
  have hyw : IntKind.i64.wrap ((y : Int) - 1) = (y : Int) - 1 := IntWalk.i64_in _ (by omega)
  have haw : IntKind.i64.wrap ((a : Int) - (x : Int)) = (a : Int) - (x : Int) := IntWalk.i64_in _ (by omega)
  rw [← hu] at e1
  have z2 : (u == 0) = false := by rw [beq_eq_false_iff_ne]; omega
  have z1 : ((y : Int).tmod 8 == 0) = false := by rw [e1]; exact z2
  have s5 : 8 ≤ rc := by omega
  have s6 : (8 : Int) ≤ (rc : Int) := by omega
  have s7 : ¬ rc = 7 := by omega
  have s9 : ¬ rc = 0 := by omega
  have RL := Lib.hid hRl; have QL := Lib.hid hql
  obtain ⟨pn, hpn⟩ : ∃ pn, pn = l.length := ⟨_, rfl⟩
  rw [← hpn] at RX HK BW ⊢
  clear hR hv hRl hpo hrc hQ hql hq hu hab hya hl hca hc hpn
  clear h8 hy0 hx hy hrc2
  go_enter Try.func59, Try.ntmps59
  go_wp2_with fail
  refine (RX.out _).mono ?_
  rintro e w1 ⟨rfl, hb1⟩
  have B1 := Lib.hid (below_up BW.out hb1 BW.out.size)
  have J1 := Lib.hid (I2.out _ B1.out)
  clear hb1
  go_wp2_with fail
  refine (RPT.out _ _ J1.out).mono ?_
  rintro e w2 ⟨A2, c2, rfl, ho2, hb2⟩
  have B2 := Lib.hid (below_up B1.out hb2 B1.out.size)
  have J2 := Lib.hid (ho2.ints (by rw [List.length_replicate]; omega)); have P2 := Lib.hid ho2.placed
  have K2 := Lib.hid (I1.out _ B2.out)
  clear hb2 ho2
  go_wp2_with fail
  refine (CC.out _ _ _ K2.out J2.out P2.out).mono ?_
  rintro e w3 ⟨A3, c3, rfl, ho3, hb3⟩
  have B3 := Lib.hid (below_up B2.out hb3 B2.out.size)
  have O3 := Lib.hid (OwnI.low ho3 B2.out.size)
  clear hb3 ho3
  go_wp2
  go_ret
  exact ⟨_, _, rfl, O3.out, B3.out⟩
theorem impl_above_8 (a b x y : Nat) (pb poff ca : Nat) (l : List Int) (hx : x + 8 ≤ a) (hy : y + 8 ≤ b) (ha : a ≤ 32) (hb : b ≤ 32) (hl : l.length = a * b) (hca : l.length ≤ ca) (w : World) (hpb : pb < w.heap.size) (hc : ∀ j, j < l.length → w.cell? ⟨pb, poff + j, none⟩ = some (.int .i64 (l.getD j 0))) (hy0 : 0 < y) :
    Calls Try.prog 59 #[.agg #[.int .i64 (a : Int), .int .i64 (b : Int), .slice (some ⟨pb, poff, none⟩) l.length ca], .int .i64 (x : Int), .int .i64 (y : Int), .int .i64 8] w fun e w' => ∃ A' c', e = .returned (.slice A' 16 c') ∧ OwnI w' w.heap.size A' c' (tpL l a x y 8 16) ∧ Below w.heap.size w w' := by
  by_cases h8 : y % 8 = 0
  · exact impl_above_8_row a b x y pb poff ca l hx hy ha hb hl hca w hpb hc hy0 h8
  · exact impl_above_8_in a b x y pb poff ca l hx hy ha hb hl hca w hpb hc hy0 h8
set_option maxRecDepth 100000 in
set_option maxHeartbeats 4000000 in
theorem impl_beside_4 (a b x y : Nat) (pb poff ca : Nat) (l : List Int) (hx : x + 4 ≤ a) (hy : y + 4 ≤ b) (ha : a ≤ 32) (hb : b ≤ 32) (hl : l.length = a * b) (hca : l.length ≤ ca) (w : World) (hpb : pb < w.heap.size) (hc : ∀ j, j < l.length → w.cell? ⟨pb, poff + j, none⟩ = some (.int .i64 (l.getD j 0))) (hx0 : 0 < x) :
    Calls Try.prog 60 #[.agg #[.int .i64 (a : Int), .int .i64 (b : Int), .slice (some ⟨pb, poff, none⟩) l.length ca], .int .i64 (x : Int), .int .i64 (y : Int), .int .i64 4] w fun e w' => ∃ A' c', e = .returned (.slice A' 4 c') ∧ OwnI w' w.heap.size A' c' (leL l a x y 4) ∧ Below w.heap.size w w' := by
  have hab : a * b ≤ 32 * 32 := Nat.mul_le_mul ha hb
  have HYB : Hid (∀ k, k < 4 → (y + k) * a + x + 4 ≤ l.length ∧ (y + k) * a ≤ 1024) := Lib.hid fun k hk => by
    have h1 : (y + k + 1) * a ≤ b * a := Nat.mul_le_mul_right a (by omega)
    rw [Nat.mul_comm b a] at h1
    rw [Nat.add_mul, Nat.one_mul] at h1
    omega
  have HC : Hid (∀ k, k < 4 → w.cell? ⟨pb, poff + ((y + k) * a + x - 1), none⟩ = some (.int .i64 ((leL l a x y 4).getD k 0))) := Lib.hid fun k hk => by
    rw [hc _ (by have := HYB.out k hk; omega), leL, List.getD_eq_getElem?_getD, List.getD_eq_getElem?_getD, List.getElem?_map, List.getElem?_range hk]
    rw [Option.map_some, Option.getD_some, leF, if_pos hx0, List.getD_eq_getElem?_getD]
  obtain ⟨C, hC⟩ : ∃ C, C = leL l a x y 4 := ⟨_, rfl⟩
  have hCl : C.length = 4 := by rw [hC, leL_len]
  rw [← hC] at HC ⊢
  have hmk : ∀ w : World, (Instr.makeSlice 24 (.int .i64 4) (.int .i64 4)).run Try.prog w = .ok (.slice (some ⟨w.heap.size, 0, none⟩) 4 4) (w.alloc (.cells (ivs (List.replicate 4 0)).toArray 3)) := fun _ => by kernel_rfl
  have k0 := heap_alloc_new w (.cells #[.int .i64 (a : Int), .int .i64 (b : Int), .slice (some ⟨pb, poff, none⟩) l.length ca] 26)
  have b0 := below_new w (.cells #[.int .i64 (a : Int), .int .i64 (b : Int), .slice (some ⟨pb, poff, none⟩) l.length ca] 26)
  have O0 := own_ints (w.alloc (.cells #[.int .i64 (a : Int), .int .i64 (b : Int), .slice (some ⟨pb, poff, none⟩) l.length ca] 26)) (w.alloc (.cells #[.int .i64 (a : Int), .int .i64 (b : Int), .slice (some ⟨pb, poff, none⟩) l.length ca] 26)).heap.size (List.replicate 4 0) (Nat.le_refl _) (by decide)
  have b1 := below_new (w.alloc (.cells #[.int .i64 (a : Int), .int .i64 (b : Int), .slice (some ⟨pb, poff, none⟩) l.length ca] 26)) (.cells (ivs (List.replicate 4 0)).toArray 3)
  obtain ⟨z, hz⟩ : ∃ z : List Int, z = List.replicate 4 0 := ⟨_, rfl⟩
  have hzl : z.length = 4 := by rw [hz]; rfl
  have HZ0 : Hid (colI C 4 0 = z) := Lib.hid (by rw [colI_zero, hz])
  simp only [← hz] at hmk O0 b1
  unfold OwnI at O0
  rw [hzl] at O0
  obtain ⟨pn, hpn⟩ : ∃ pn, pn = l.length := ⟨_, rfl⟩
  rw [← hpn] at k0 b0 O0 b1 HYB ⊢
  have hpm : pn ≤ 1024 := by omega
  obtain ⟨W1, hW1⟩ : ∃ W1, W1 = (w.alloc (.cells #[.int .i64 (a : Int), .int .i64 (b : Int), .slice (some ⟨pb, poff, none⟩) pn ca] 26)).alloc (.cells (ivs z).toArray 3) := ⟨_, rfl⟩
  have hs1 : (w.alloc (.cells #[.int .i64 (a : Int), .int .i64 (b : Int), .slice (some ⟨pb, poff, none⟩) pn ca] 26)).heap.size = w.heap.size + 1 := by simp
  have kk := cell_kept k0 b1
  rw [← hW1] at O0 b1 kk
  rw [hs1] at O0
  have HW := Lib.hid hW1; have O1 := Lib.hid O0; have KK := Lib.hid kk; have BW := Lib.hid (below_up b0 b1 b0.size)
  have HCL := Lib.hid hCl; have HPB := Lib.hid hpb
  have SZ : Hid (w.heap.size + 1 < W1.heap.size) := Lib.hid (by rw [hW1]; simp)
  clear hab hc hC hCl k0 b0 O0 b1 hz hzl hpn hW1 hs1 kk hl hca
  go_enter Try.func60, Try.ntmps60
  go_wp2
  rw [← HW.out]
  go_loopw [10, 15] (fun x10 x15 wr => ∃ j : Nat, j ≤ 4 ∧ x15 = .int .i64 j ∧ wr.ownsRow (w.heap.size + 1) 3 1 (.slice (some ⟨w.heap.size + 1, 0, none⟩) 4 4) 4 (ivs (colI C 4 j)) ∧ W1.grownBy wr (some (w.heap.size + 1)))
    (fun _ x15 _ => 4 - (intOf x15).toNat)
  case atStart => exact ⟨0, Nat.zero_le _, rfl, by rw [HZ0.out]; exact O1.out, World.grownBy.refl _ _⟩
  case round =>
    obtain ⟨j, hj, rfl, hown, hgr⟩ := hrel
    have kf := (hgr.block w.heap.size (by have := SZ.out; omega) (by simp)).trans KK.out
    by_cases hlt : j < 4
    · have d1 : decide ((j : Int) < 4) = true := by simp; omega
      obtain ⟨g1, g2⟩ := HYB.out j hlt
      have cl : wr.cell? ⟨pb, poff + ((y + j) * a + x - 1), none⟩ = some (.int .i64 (C.getD j 0)) := by
        have e : W1.cell? ⟨pb, poff + ((y + j) * a + x - 1), none⟩ = some (.int .i64 (C.getD j 0)) := (BW.out.cell (p := ⟨pb, poff + ((y + j) * a + x - 1), none⟩) HPB.out).trans (HC.out j hlt)
        exact (World.cell?_of_block (hgr.block pb (World.block_lt_of_cell? W1 _ e) (by simp; have := HPB.out; omega))).trans e
      have hyj : IntKind.i64.wrap ((y : Int) + (j : Int)) = (y : Int) + (j : Int) := IntWalk.i64_in _ (by omega)
      obtain ⟨r, hr⟩ : ∃ r, r = (y + j) * a := ⟨_, rfl⟩
      rw [← hr] at g1 g2 cl
      have hw1 : IntKind.i64.wrap (((y : Int) + (j : Int)) * (a : Int)) = (r : Int) := by
        rw [show ((y : Int) + (j : Int)) * (a : Int) = (r : Int) by rw [hr, Int.natCast_mul, Int.natCast_add]]
        exact IntWalk.i64_in _ (by omega)
      have i1 : IntKind.i64.wrap ((r : Int) + (x : Int)) = (r : Int) + (x : Int) := IntWalk.i64_in _ (by omega)
      have i2 : IntKind.i64.wrap ((r : Int) + (x : Int) - 1) = (r : Int) + (x : Int) - 1 := IntWalk.i64_in _ (by omega)
      have i3 : (0 : Int) ≤ (r : Int) + (x : Int) - 1 := by omega
      have i4 : (r : Int) + (x : Int) - 1 < (pn : Int) := by omega
      have i5 : ((r : Int) + (x : Int) - 1).toNat = r + x - 1 := by omega
      have j0 : (0 : Int) ≤ (j : Int) := by omega
      have j1 : (j : Int) < 4 := by omega
      have cs := colI_set HCL.out hlt
      obtain ⟨v, hv⟩ : ∃ v, v = C.getD j 0 := ⟨_, rfl⟩
      rw [← hv] at cl cs
      obtain ⟨c0, c1, c2⟩ := cells3 kf
      have fz := hown.frozenAt j
      obtain ⟨u0, cj⟩ : ∃ u, wr.cell? ⟨w.heap.size + 1, j, none⟩ = some u := ⟨_, own_cellsO hown (colI_len HCL.out (by omega)) j hlt⟩
      have s1 := hown.stored j (.int .i64 v)
      rw [ivs_set, cs] at s1
      have S1 := Lib.hid s1.1
      have GR := Lib.hid (grown_onO hgr s1.2)
      clear hr hv s1 cs hown hgr kf g1 g2
      go_wp2
      go_roundw
      case rel => exact ⟨j + 1, by omega, by go_num, S1.out, GR.out⟩
      case measure => simp [intOf]; omega
    · obtain rfl : j = 4 := by omega
      have d1 : decide (((4 : Nat) : Int) < 4) = false := by decide
      rw [colI_full HCL.out] at hown
      have O5 := Lib.hid (own_lower hown (Nat.le_succ w.heap.size))
      have B5 := Lib.hid (BW.out.grown hgr BW.out.size fun j hj => by obtain rfl := Option.some.inj hj; omega)
      clear hown hgr kf
      go_wp2
      go_ret
      exact ⟨_, _, rfl, own_backO O5.out HCL.out, B5.out⟩
set_option maxRecDepth 100000 in
set_option maxHeartbeats 4000000 in
theorem impl_beside_8 (a b x y : Nat) (pb poff ca : Nat) (l : List Int) (hx : x + 8 ≤ a) (hy : y + 8 ≤ b) (ha : a ≤ 32) (hb : b ≤ 32) (hl : l.length = a * b) (hca : l.length ≤ ca) (w : World) (hpb : pb < w.heap.size) (hc : ∀ j, j < l.length → w.cell? ⟨pb, poff + j, none⟩ = some (.int .i64 (l.getD j 0))) (hx0 : 0 < x) :
    Calls Try.prog 60 #[.agg #[.int .i64 (a : Int), .int .i64 (b : Int), .slice (some ⟨pb, poff, none⟩) l.length ca], .int .i64 (x : Int), .int .i64 (y : Int), .int .i64 8] w fun e w' => ∃ A' c', e = .returned (.slice A' 8 c') ∧ OwnI w' w.heap.size A' c' (leL l a x y 8) ∧ Below w.heap.size w w' := by
  have hab : a * b ≤ 32 * 32 := Nat.mul_le_mul ha hb
  have HYB : Hid (∀ k, k < 8 → (y + k) * a + x + 8 ≤ l.length ∧ (y + k) * a ≤ 1024) := Lib.hid fun k hk => by
    have h1 : (y + k + 1) * a ≤ b * a := Nat.mul_le_mul_right a (by omega)
    rw [Nat.mul_comm b a] at h1
    rw [Nat.add_mul, Nat.one_mul] at h1
    omega
  have HC : Hid (∀ k, k < 8 → w.cell? ⟨pb, poff + ((y + k) * a + x - 1), none⟩ = some (.int .i64 ((leL l a x y 8).getD k 0))) := Lib.hid fun k hk => by
    rw [hc _ (by have := HYB.out k hk; omega), leL, List.getD_eq_getElem?_getD, List.getD_eq_getElem?_getD, List.getElem?_map, List.getElem?_range hk]
    rw [Option.map_some, Option.getD_some, leF, if_pos hx0, List.getD_eq_getElem?_getD]
  obtain ⟨C, hC⟩ : ∃ C, C = leL l a x y 8 := ⟨_, rfl⟩
  have hCl : C.length = 8 := by rw [hC, leL_len]
  rw [← hC] at HC ⊢
  have hmk : ∀ w : World, (Instr.makeSlice 24 (.int .i64 8) (.int .i64 8)).run Try.prog w = .ok (.slice (some ⟨w.heap.size, 0, none⟩) 8 8) (w.alloc (.cells (ivs (List.replicate 8 0)).toArray 3)) := fun _ => by kernel_rfl
  have k0 := heap_alloc_new w (.cells #[.int .i64 (a : Int), .int .i64 (b : Int), .slice (some ⟨pb, poff, none⟩) l.length ca] 26)
  have b0 := below_new w (.cells #[.int .i64 (a : Int), .int .i64 (b : Int), .slice (some ⟨pb, poff, none⟩) l.length ca] 26)
  have O0 := own_ints (w.alloc (.cells #[.int .i64 (a : Int), .int .i64 (b : Int), .slice (some ⟨pb, poff, none⟩) l.length ca] 26)) (w.alloc (.cells #[.int .i64 (a : Int), .int .i64 (b : Int), .slice (some ⟨pb, poff, none⟩) l.length ca] 26)).heap.size (List.replicate 8 0) (Nat.le_refl _) (by decide)
  have b1 := below_new (w.alloc (.cells #[.int .i64 (a : Int), .int .i64 (b : Int), .slice (some ⟨pb, poff, none⟩) l.length ca] 26)) (.cells (ivs (List.replicate 8 0)).toArray 3)
  obtain ⟨z, hz⟩ : ∃ z : List Int, z = List.replicate 8 0 := ⟨_, rfl⟩
  have hzl : z.length = 8 := by rw [hz]; rfl
  have HZ0 : Hid (colI C 8 0 = z) := Lib.hid (by rw [colI_zero, hz])
  simp only [← hz] at hmk O0 b1
  unfold OwnI at O0
  rw [hzl] at O0
  obtain ⟨pn, hpn⟩ : ∃ pn, pn = l.length := ⟨_, rfl⟩
  rw [← hpn] at k0 b0 O0 b1 HYB ⊢
  have hpm : pn ≤ 1024 := by omega
  obtain ⟨W1, hW1⟩ : ∃ W1, W1 = (w.alloc (.cells #[.int .i64 (a : Int), .int .i64 (b : Int), .slice (some ⟨pb, poff, none⟩) pn ca] 26)).alloc (.cells (ivs z).toArray 3) := ⟨_, rfl⟩
  have hs1 : (w.alloc (.cells #[.int .i64 (a : Int), .int .i64 (b : Int), .slice (some ⟨pb, poff, none⟩) pn ca] 26)).heap.size = w.heap.size + 1 := by simp
  have kk := cell_kept k0 b1
  rw [← hW1] at O0 b1 kk
  rw [hs1] at O0
  have HW := Lib.hid hW1; have O1 := Lib.hid O0; have KK := Lib.hid kk; have BW := Lib.hid (below_up b0 b1 b0.size)
  have HCL := Lib.hid hCl; have HPB := Lib.hid hpb
  have SZ : Hid (w.heap.size + 1 < W1.heap.size) := Lib.hid (by rw [hW1]; simp)
  clear hab hc hC hCl k0 b0 O0 b1 hz hzl hpn hW1 hs1 kk hl hca
  go_enter Try.func60, Try.ntmps60
  go_wp2
  rw [← HW.out]
  go_loopw [10, 15] (fun x10 x15 wr => ∃ j : Nat, j ≤ 8 ∧ x15 = .int .i64 j ∧ wr.ownsRow (w.heap.size + 1) 3 1 (.slice (some ⟨w.heap.size + 1, 0, none⟩) 8 8) 8 (ivs (colI C 8 j)) ∧ W1.grownBy wr (some (w.heap.size + 1)))
    (fun _ x15 _ => 8 - (intOf x15).toNat)
  case atStart => exact ⟨0, Nat.zero_le _, rfl, by rw [HZ0.out]; exact O1.out, World.grownBy.refl _ _⟩
  case round =>
    obtain ⟨j, hj, rfl, hown, hgr⟩ := hrel
    have kf := (hgr.block w.heap.size (by have := SZ.out; omega) (by simp)).trans KK.out
    by_cases hlt : j < 8
    · have d1 : decide ((j : Int) < 8) = true := by simp; omega
      obtain ⟨g1, g2⟩ := HYB.out j hlt
      have cl : wr.cell? ⟨pb, poff + ((y + j) * a + x - 1), none⟩ = some (.int .i64 (C.getD j 0)) := by
        have e : W1.cell? ⟨pb, poff + ((y + j) * a + x - 1), none⟩ = some (.int .i64 (C.getD j 0)) := (BW.out.cell (p := ⟨pb, poff + ((y + j) * a + x - 1), none⟩) HPB.out).trans (HC.out j hlt)
        exact (World.cell?_of_block (hgr.block pb (World.block_lt_of_cell? W1 _ e) (by simp; have := HPB.out; omega))).trans e
      have hyj : IntKind.i64.wrap ((y : Int) + (j : Int)) = (y : Int) + (j : Int) := IntWalk.i64_in _ (by omega)
      obtain ⟨r, hr⟩ : ∃ r, r = (y + j) * a := ⟨_, rfl⟩
      rw [← hr] at g1 g2 cl
      have hw1 : IntKind.i64.wrap (((y : Int) + (j : Int)) * (a : Int)) = (r : Int) := by
        rw [show ((y : Int) + (j : Int)) * (a : Int) = (r : Int) by rw [hr, Int.natCast_mul, Int.natCast_add]]
        exact IntWalk.i64_in _ (by omega)
      have i1 : IntKind.i64.wrap ((r : Int) + (x : Int)) = (r : Int) + (x : Int) := IntWalk.i64_in _ (by omega)
      have i2 : IntKind.i64.wrap ((r : Int) + (x : Int) - 1) = (r : Int) + (x : Int) - 1 := IntWalk.i64_in _ (by omega)
      have i3 : (0 : Int) ≤ (r : Int) + (x : Int) - 1 := by omega
      have i4 : (r : Int) + (x : Int) - 1 < (pn : Int) := by omega
      have i5 : ((r : Int) + (x : Int) - 1).toNat = r + x - 1 := by omega
      have j0 : (0 : Int) ≤ (j : Int) := by omega
      have j1 : (j : Int) < 8 := by omega
      have cs := colI_set HCL.out hlt
      obtain ⟨v, hv⟩ : ∃ v, v = C.getD j 0 := ⟨_, rfl⟩
      rw [← hv] at cl cs
      obtain ⟨c0, c1, c2⟩ := cells3 kf
      have fz := hown.frozenAt j
      obtain ⟨u0, cj⟩ : ∃ u, wr.cell? ⟨w.heap.size + 1, j, none⟩ = some u := ⟨_, own_cellsO hown (colI_len HCL.out (by omega)) j hlt⟩
      have s1 := hown.stored j (.int .i64 v)
      rw [ivs_set, cs] at s1
      have S1 := Lib.hid s1.1
      have GR := Lib.hid (grown_onO hgr s1.2)
      clear hr hv s1 cs hown hgr kf g1 g2
      go_wp2
      go_roundw
      case rel => exact ⟨j + 1, by omega, by go_num, S1.out, GR.out⟩
      case measure => simp [intOf]; omega
    · obtain rfl : j = 8 := by omega
      have d1 : decide (((8 : Nat) : Int) < 8) = false := by decide
      rw [colI_full HCL.out] at hown
      have O5 := Lib.hid (own_lower hown (Nat.le_succ w.heap.size))
      have B5 := Lib.hid (BW.out.grown hgr BW.out.size fun j hj => by obtain rfl := Option.some.inj hj; omega)
      clear hown hgr kf
      go_wp2
      go_ret
      exact ⟨_, _, rfl, own_backO O5.out HCL.out, B5.out⟩
end Go.Proofs.Ytemfiglflbfocaa
