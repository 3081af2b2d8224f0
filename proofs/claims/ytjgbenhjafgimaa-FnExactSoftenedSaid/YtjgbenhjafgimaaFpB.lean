/-
  The contract of the model's l17Row. Condition: a slice is no longer than it holds.
-/
import Derived.Test.YtjgbenhjafgimaaFpA
namespace Go.Proofs.Ytjgbenhjafgimaa
open Go.RowKit
set_option linter.unusedVariables false


set_option maxRecDepth 100000 in
set_option maxHeartbeats 4000000 in
theorem l17row_4_0 (tb toff : Nat) (cA : Nat) (lb loff : Nat) (cB : Nat) (SA : Option Addr) (sn sc : Nat) (t l : List Int) (k : Int) (b1 b2 : Bool) (y : Nat) (hy : y < 4) (ht : t.length = 8) (hl : l.length = 4) (hcA : 8 ≤ cA) (w : World) (htb : tb < w.heap.size) (hlb : lb < w.heap.size)
    (htc : ∀ j, j < t.length → w.cell? ⟨tb, toff + j, none⟩ = some (.int .i64 (t.getD j 0))) (hlc : ∀ j, j < l.length → w.cell? ⟨lb, loff + j, none⟩ = some (.int .i64 (l.getD j 0)))
    (v0 : Int) (MN : Hid (∀ w, Ints w w.heap.size (some ⟨tb, toff, none⟩) t → Ints w w.heap.size (some ⟨lb, loff, none⟩) l → Calls Try.prog 78 #[.agg #[.slice (some ⟨tb, toff, none⟩) 8 cA, .slice (some ⟨lb, loff, none⟩) 4 cB, .int .i64 k, .bool b1, .bool b2], .int .i64 4] w fun e w' => e = .returned (.int .i64 v0) ∧ Below w.heap.size w w')) :
    Calls Try.prog 68 #[.int .i64 0, .agg #[.slice (some ⟨tb, toff, none⟩) 8 cA, .slice (some ⟨lb, loff, none⟩) 4 cB, .int .i64 k, .bool b1, .bool b2], .int .i64 4, .int .i64 y, .slice SA sn sc] w fun e w' => ∃ A' c, e = .returned (.slice A' 4 c) ∧ Ints w' w'.heap.size A' (List.replicate 4 (v0)) ∧ Placed A' c ∧ Below w.heap.size w w' := by
  have HK := Lib.hid (heap_alloc_new w (.cells #[.slice (some ⟨tb, toff, none⟩) 8 cA, .slice (some ⟨lb, loff, none⟩) 4 cB, .int .i64 k, .bool b1, .bool b2] 26))
  have BW := Lib.hid (below_new w (.cells #[.slice (some ⟨tb, toff, none⟩) 8 cA, .slice (some ⟨lb, loff, none⟩) 4 cB, .int .i64 k, .bool b1, .bool b2] 26))
  have bt := below_two w (.cells #[.slice (some ⟨tb, toff, none⟩) 8 cA, .slice (some ⟨lb, loff, none⟩) 4 cB, .int .i64 k, .bool b1, .bool b2] 26) (.cells (ivs []).toArray 3)
  have BT := Lib.hid bt
  obtain ⟨i0, hi, hz0, hz1, hz2⟩ := info_parts Try.iinfo
  have I1 : Hid (∀ wr, Below w.heap.size w wr → Ints wr wr.heap.size (some ⟨tb, toff, none⟩) t) := Lib.hid fun wr h => ⟨by omega, .inr ⟨tb, toff, rfl, Nat.lt_of_lt_of_le htb h.size, fun j hj => by rw [h.cell (p := ⟨tb, toff + j, none⟩) htb]; exact htc j hj⟩⟩
  have I2 : Hid (∀ wr, Below w.heap.size w wr → Ints wr wr.heap.size (some ⟨lb, loff, none⟩) l) := Lib.hid fun wr h => ⟨by omega, .inr ⟨lb, loff, rfl, Nat.lt_of_lt_of_le hlb h.size, fun j hj => by rw [h.cell (p := ⟨lb, loff + j, none⟩) hlb]; exact hlc j hj⟩⟩
  have O0 := Lib.hid (own_at' (w.alloc (.cells #[.slice (some ⟨tb, toff, none⟩) 8 cA, .slice (some ⟨lb, loff, none⟩) 4 cB, .int .i64 k, .bool b1, .bool b2] 26)) w.heap.size (w.heap.size + 1) [] (by simp) (by simp) (by simp))
  have cy : ((w.alloc (.cells #[.slice (some ⟨tb, toff, none⟩) 8 cA, .slice (some ⟨lb, loff, none⟩) 4 cB, .int .i64 k, .bool b1, .bool b2] 26)).alloc (.cells (ivs []).toArray 3)).cell? ⟨lb, loff + y, none⟩ = some (.int .i64 (l.getD y 0)) := by rw [bt.cell (p := ⟨lb, loff + y, none⟩) hlb]; exact hlc y (by omega)
  have cyw := hlc y (by omega)
  obtain ⟨u, hu⟩ : ∃ u, u = l.getD y 0 := ⟨_, rfl⟩
  rw [← hu] at cy cyw
  have hyi : (y : Int) < 4 := by omega
  clear hu bt htc hlc ht hl
  go_enter Try.func68, Try.ntmps68
  go_wp2_with fail
  refine (MN.out _ (I1.out _ BT.out) (I2.out _ BT.out)).mono ?_
  rintro e w1 ⟨rfl, hb1⟩
  have B1 := Lib.hid (below_up BT.out hb1 BT.out.size); have O1 := Lib.hid (O0.out.kept hb1 (Nat.le_refl _))
  clear hb1
  go_wp2
  go_loopw [11, 13] (fun v9 i wr => ∃ j : Nat, j ≤ 4 ∧ i = .int .i64 j ∧ wr.ownsRow w.heap.size 3 1 v9 j (ivs (List.replicate j v0)) ∧ Below w.heap.size w wr)
    (fun _ i _ => 4 - (intOf i).toNat)
  case atStart => exact ⟨0, Nat.zero_le _, rfl, O1.out, B1.out⟩
  case round =>
    obtain ⟨j, hj, rfl, hown, hbel⟩ := hrel
    by_cases hlt : j < 4
    · have d1 : decide ((j : Int) < 4) = true := by simp; omega
      have hnx : List.replicate (j + 1) v0 = List.replicate j v0 ++ [v0] := List.replicate_succ'
      have HX := Lib.hid hnx; have HBB := Lib.hid hbel; have O3 := hown
      clear hnx hown hbel
      go_wp2_with (at_builtin; refine append_int wr rfl (.tmp 64) (.tmp 66) 24 rfl w.heap.size 3 i0 Try.underlying24 hi hz0 hz1 hz2 _ _ _ rfl O3 _ rfl rfl (by omega) HBB.out.size ?_; intro v' w' hown' hgr hvb)
      have HO' := Lib.hid hown'; have HG := Lib.hid hgr; have HL' := Lib.hid O3.lt
      clear hown' hgr hvb O3
      go_roundw
      case rel => exact ⟨j + 1, by omega, by go_num, by rw [HX.out]; exact HO'.out, HBB.out.grown HG.out HBB.out.size fun k hk => (HL'.out k hk).1⟩
      case measure => simp [intOf]; omega
    · obtain rfl : j = 4 := by omega
      obtain ⟨A3, c3, hv3, ho3⟩ := own_slice hown
      rw [List.length_replicate] at hv3
      subst hv3
      have I3 := Lib.hid (ho3.ints (by rw [List.length_replicate]; decide)); have P3 := Lib.hid ho3.placed; have B3 := Lib.hid hbel
      clear hown hbel ho3
      go_wp2
      go_ret
      exact ⟨_, _, rfl, I3.out, P3.out, B3.out⟩

set_option maxRecDepth 100000 in
set_option maxHeartbeats 4000000 in
theorem l17row_4_1 (tb toff : Nat) (cA : Nat) (lb loff : Nat) (cB : Nat) (SA : Option Addr) (sn sc : Nat) (t l : List Int) (k : Int) (b1 b2 : Bool) (y : Nat) (hy : y < 4) (ht : t.length = 8) (hl : l.length = 4) (hcA : 8 ≤ cA) (w : World) (htb : tb < w.heap.size) (hlb : lb < w.heap.size)
    (htc : ∀ j, j < t.length → w.cell? ⟨tb, toff + j, none⟩ = some (.int .i64 (t.getD j 0))) (hlc : ∀ j, j < l.length → w.cell? ⟨lb, loff + j, none⟩ = some (.int .i64 (l.getD j 0))) :
    Calls Try.prog 68 #[.int .i64 1, .agg #[.slice (some ⟨tb, toff, none⟩) 8 cA, .slice (some ⟨lb, loff, none⟩) 4 cB, .int .i64 k, .bool b1, .bool b2], .int .i64 4, .int .i64 y, .slice SA sn sc] w fun e w' => ∃ A' c, e = .returned (.slice A' 4 c) ∧ Ints w' w'.heap.size A' (t.take 4) ∧ Placed A' c ∧ Below w.heap.size w w' := by
  have HK := Lib.hid (heap_alloc_new w (.cells #[.slice (some ⟨tb, toff, none⟩) 8 cA, .slice (some ⟨lb, loff, none⟩) 4 cB, .int .i64 k, .bool b1, .bool b2] 26))
  have BW := Lib.hid (below_new w (.cells #[.slice (some ⟨tb, toff, none⟩) 8 cA, .slice (some ⟨lb, loff, none⟩) 4 cB, .int .i64 k, .bool b1, .bool b2] 26))
  have bt := below_two w (.cells #[.slice (some ⟨tb, toff, none⟩) 8 cA, .slice (some ⟨lb, loff, none⟩) 4 cB, .int .i64 k, .bool b1, .bool b2] 26) (.cells (ivs []).toArray 3)
  have BT := Lib.hid bt
  have hcA1 : (4 : Int) ≤ (cA : Int) := by omega
  have I1 := Lib.hid (ints_take (w := (w.alloc (.cells #[.slice (some ⟨tb, toff, none⟩) 8 cA, .slice (some ⟨lb, loff, none⟩) 4 cB, .int .i64 k, .bool b1, .bool b2] 26)).alloc (.cells (ivs []).toArray 3)) (g := ((w.alloc (.cells #[.slice (some ⟨tb, toff, none⟩) 8 cA, .slice (some ⟨lb, loff, none⟩) 4 cB, .int .i64 k, .bool b1, .bool b2] 26)).alloc (.cells (ivs []).toArray 3)).heap.size) (b := tb) (off := toff) (l := t) (n := 4) (by omega) (by decide) (Nat.lt_of_lt_of_le htb bt.size) (fun j hj => by rw [bt.cell (p := ⟨tb, toff + j, none⟩) htb]; exact htc j hj))
  clear bt htc hlc ht hl
  go_enter Try.func68, Try.ntmps68
  go_wp2
  go_ret
  exact ⟨_, _, rfl, I1.out, (fun h => by cases h), BT.out⟩

set_option maxRecDepth 100000 in
set_option maxHeartbeats 4000000 in
theorem l17row_4_2 (tb toff : Nat) (cA : Nat) (lb loff : Nat) (cB : Nat) (SA : Option Addr) (sn sc : Nat) (t l : List Int) (k : Int) (b1 b2 : Bool) (y : Nat) (hy : y < 4) (ht : t.length = 8) (hl : l.length = 4) (hcA : 8 ≤ cA) (w : World) (htb : tb < w.heap.size) (hlb : lb < w.heap.size)
    (htc : ∀ j, j < t.length → w.cell? ⟨tb, toff + j, none⟩ = some (.int .i64 (t.getD j 0))) (hlc : ∀ j, j < l.length → w.cell? ⟨lb, loff + j, none⟩ = some (.int .i64 (l.getD j 0))) :
    Calls Try.prog 68 #[.int .i64 2, .agg #[.slice (some ⟨tb, toff, none⟩) 8 cA, .slice (some ⟨lb, loff, none⟩) 4 cB, .int .i64 k, .bool b1, .bool b2], .int .i64 4, .int .i64 y, .slice SA sn sc] w fun e w' => ∃ A' c, e = .returned (.slice A' 4 c) ∧ Ints w' w'.heap.size A' (List.replicate 4 (l.getD y 0)) ∧ Placed A' c ∧ Below w.heap.size w w' := by
  have HK := Lib.hid (heap_alloc_new w (.cells #[.slice (some ⟨tb, toff, none⟩) 8 cA, .slice (some ⟨lb, loff, none⟩) 4 cB, .int .i64 k, .bool b1, .bool b2] 26))
  have BW := Lib.hid (below_new w (.cells #[.slice (some ⟨tb, toff, none⟩) 8 cA, .slice (some ⟨lb, loff, none⟩) 4 cB, .int .i64 k, .bool b1, .bool b2] 26))
  have bt := below_two w (.cells #[.slice (some ⟨tb, toff, none⟩) 8 cA, .slice (some ⟨lb, loff, none⟩) 4 cB, .int .i64 k, .bool b1, .bool b2] 26) (.cells (ivs []).toArray 3)
  have BT := Lib.hid bt
  obtain ⟨i0, hi, hz0, hz1, hz2⟩ := info_parts Try.iinfo
  have I1 : Hid (∀ wr, Below w.heap.size w wr → Ints wr wr.heap.size (some ⟨tb, toff, none⟩) t) := Lib.hid fun wr h => ⟨by omega, .inr ⟨tb, toff, rfl, Nat.lt_of_lt_of_le htb h.size, fun j hj => by rw [h.cell (p := ⟨tb, toff + j, none⟩) htb]; exact htc j hj⟩⟩
  have I2 : Hid (∀ wr, Below w.heap.size w wr → Ints wr wr.heap.size (some ⟨lb, loff, none⟩) l) := Lib.hid fun wr h => ⟨by omega, .inr ⟨lb, loff, rfl, Nat.lt_of_lt_of_le hlb h.size, fun j hj => by rw [h.cell (p := ⟨lb, loff + j, none⟩) hlb]; exact hlc j hj⟩⟩
  have O0 := Lib.hid (own_at' (w.alloc (.cells #[.slice (some ⟨tb, toff, none⟩) 8 cA, .slice (some ⟨lb, loff, none⟩) 4 cB, .int .i64 k, .bool b1, .bool b2] 26)) w.heap.size (w.heap.size + 1) [] (by simp) (by simp) (by simp))
  have cy : ((w.alloc (.cells #[.slice (some ⟨tb, toff, none⟩) 8 cA, .slice (some ⟨lb, loff, none⟩) 4 cB, .int .i64 k, .bool b1, .bool b2] 26)).alloc (.cells (ivs []).toArray 3)).cell? ⟨lb, loff + y, none⟩ = some (.int .i64 (l.getD y 0)) := by rw [bt.cell (p := ⟨lb, loff + y, none⟩) hlb]; exact hlc y (by omega)
  have cyw := hlc y (by omega)
  obtain ⟨u, hu⟩ : ∃ u, u = l.getD y 0 := ⟨_, rfl⟩
  rw [← hu] at cy cyw
  rw [← hu]
  have hyi : (y : Int) < 4 := by omega
  clear hu bt htc hlc ht hl
  go_enter Try.func68, Try.ntmps68
  go_wp2
  go_loopw [11, 13] (fun v9 i wr => ∃ j : Nat, j ≤ 4 ∧ i = .int .i64 j ∧ wr.ownsRow w.heap.size 3 1 v9 j (ivs (List.replicate j u)) ∧ Below w.heap.size w wr)
    (fun _ i _ => 4 - (intOf i).toNat)
  case atStart => exact ⟨0, Nat.zero_le _, rfl, O0.out, BT.out⟩
  case round =>
    obtain ⟨j, hj, rfl, hown, hbel⟩ := hrel
    by_cases hlt : j < 4
    · have d1 : decide ((j : Int) < 4) = true := by simp; omega
      have hnx : List.replicate (j + 1) u = List.replicate j u ++ [u] := List.replicate_succ'
      have HX := Lib.hid hnx; have HBB := Lib.hid hbel; have O3 := hown
      clear hnx hown hbel
      go_wp2_with (at_builtin; refine append_int wr rfl (.tmp 64) (.tmp 66) 24 rfl w.heap.size 3 i0 Try.underlying24 hi hz0 hz1 hz2 _ _ _ rfl O3 _ rfl rfl (by omega) HBB.out.size ?_; intro v' w' hown' hgr hvb)
      have HO' := Lib.hid hown'; have HG := Lib.hid hgr; have HL' := Lib.hid O3.lt
      clear hown' hgr hvb O3
      go_roundw
      case rel => exact ⟨j + 1, by omega, by go_num, by rw [HX.out]; exact HO'.out, HBB.out.grown HG.out HBB.out.size fun k hk => (HL'.out k hk).1⟩
      case measure => simp [intOf]; omega
    · obtain rfl : j = 4 := by omega
      obtain ⟨A3, c3, hv3, ho3⟩ := own_slice hown
      rw [List.length_replicate] at hv3
      subst hv3
      have I3 := Lib.hid (ho3.ints (by rw [List.length_replicate]; decide)); have P3 := Lib.hid ho3.placed; have B3 := Lib.hid hbel
      clear hown hbel ho3
      go_wp2
      go_ret
      exact ⟨_, _, rfl, I3.out, P3.out, B3.out⟩

set_option maxRecDepth 100000 in
set_option maxHeartbeats 4000000 in
theorem l17row_4_3 (tb toff : Nat) (cA : Nat) (lb loff : Nat) (cB : Nat) (SA : Option Addr) (sn sc : Nat) (t l : List Int) (k : Int) (b1 b2 : Bool) (y : Nat) (hy : y < 4) (ht : t.length = 8) (hl : l.length = 4) (hcA : 8 ≤ cA) (w : World) (htb : tb < w.heap.size) (hlb : lb < w.heap.size)
    (htc : ∀ j, j < t.length → w.cell? ⟨tb, toff + j, none⟩ = some (.int .i64 (t.getD j 0))) (hlc : ∀ j, j < l.length → w.cell? ⟨lb, loff + j, none⟩ = some (.int .i64 (l.getD j 0)))
    (SR : Hid (∀ w, Ints w w.heap.size (some ⟨tb, toff, none⟩) t → Ints w w.heap.size (some ⟨lb, loff, none⟩) l → Calls Try.prog 27 #[.agg #[.slice (some ⟨tb, toff, none⟩) 8 cA, .slice (some ⟨lb, loff, none⟩) 4 cB, .int .i64 k, .bool b1, .bool b2], .int .i64 4, .int .i64 y] w fun e w' => ∃ A' c, e = .returned (.slice A' 4 c) ∧ OwnI w' w.heap.size A' c (slF t l k 4 y) ∧ Below w.heap.size w w')) :
    Calls Try.prog 68 #[.int .i64 3, .agg #[.slice (some ⟨tb, toff, none⟩) 8 cA, .slice (some ⟨lb, loff, none⟩) 4 cB, .int .i64 k, .bool b1, .bool b2], .int .i64 4, .int .i64 y, .slice SA sn sc] w fun e w' => ∃ A' c, e = .returned (.slice A' 4 c) ∧ Ints w' w'.heap.size A' (slF t l k 4 y) ∧ Placed A' c ∧ Below w.heap.size w w' := by
  have HK := Lib.hid (heap_alloc_new w (.cells #[.slice (some ⟨tb, toff, none⟩) 8 cA, .slice (some ⟨lb, loff, none⟩) 4 cB, .int .i64 k, .bool b1, .bool b2] 26))
  have BW := Lib.hid (below_new w (.cells #[.slice (some ⟨tb, toff, none⟩) 8 cA, .slice (some ⟨lb, loff, none⟩) 4 cB, .int .i64 k, .bool b1, .bool b2] 26))
  have bt := below_two w (.cells #[.slice (some ⟨tb, toff, none⟩) 8 cA, .slice (some ⟨lb, loff, none⟩) 4 cB, .int .i64 k, .bool b1, .bool b2] 26) (.cells (ivs []).toArray 3)
  have BT := Lib.hid bt
  have I1 : Hid (∀ wr, Below w.heap.size w wr → Ints wr wr.heap.size (some ⟨tb, toff, none⟩) t) := Lib.hid fun wr h => ⟨by omega, .inr ⟨tb, toff, rfl, Nat.lt_of_lt_of_le htb h.size, fun j hj => by rw [h.cell (p := ⟨tb, toff + j, none⟩) htb]; exact htc j hj⟩⟩
  have I2 : Hid (∀ wr, Below w.heap.size w wr → Ints wr wr.heap.size (some ⟨lb, loff, none⟩) l) := Lib.hid fun wr h => ⟨by omega, .inr ⟨lb, loff, rfl, Nat.lt_of_lt_of_le hlb h.size, fun j hj => by rw [h.cell (p := ⟨lb, loff + j, none⟩) hlb]; exact hlc j hj⟩⟩
  have hfl := slF_len t l k 4 y
  obtain ⟨z, hz⟩ : ∃ z, z = slF t l k 4 y := ⟨_, rfl⟩
  rw [← hz] at SR hfl ⊢
  clear hz bt htc hlc ht hl
  go_enter Try.func68, Try.ntmps68
  go_wp2_with fail
  refine (SR.out _ (I1.out _ BT.out) (I2.out _ BT.out)).mono ?_
  rintro e w1 ⟨A1, c1, rfl, ho, hb1⟩
  have B1 := Lib.hid (below_up BT.out hb1 BT.out.size)
  have I3 := Lib.hid (ho.ints (by omega)); have P3 := Lib.hid ho.placed
  clear ho hb1
  go_wp2
  go_ret
  exact ⟨_, _, rfl, I3.out, P3.out, B1.out⟩

set_option maxRecDepth 100000 in
set_option maxHeartbeats 4000000 in
theorem l17row_4_4 (tb toff : Nat) (cA : Nat) (lb loff : Nat) (cB : Nat) (sb soff sc : Nat) (S : List Int) (hS : S.length = 7) (hsc : 7 ≤ sc) (t l : List Int) (k : Int) (b1 b2 : Bool) (y : Nat) (hy : y < 4) (ht : t.length = 8) (hl : l.length = 4) (hcA : 8 ≤ cA) (w : World) (htb : tb < w.heap.size) (hlb : lb < w.heap.size)
    (htc : ∀ j, j < t.length → w.cell? ⟨tb, toff + j, none⟩ = some (.int .i64 (t.getD j 0))) (hlc : ∀ j, j < l.length → w.cell? ⟨lb, loff + j, none⟩ = some (.int .i64 (l.getD j 0))) (hsb : sb < w.heap.size) (hsv : ∀ j, j < S.length → w.cell? ⟨sb, soff + j, none⟩ = some (.int .i64 (S.getD j 0))) :
    Calls Try.prog 68 #[.int .i64 4, .agg #[.slice (some ⟨tb, toff, none⟩) 8 cA, .slice (some ⟨lb, loff, none⟩) 4 cB, .int .i64 k, .bool b1, .bool b2], .int .i64 4, .int .i64 y, .slice (some ⟨sb, soff, none⟩) 7 sc] w fun e w' => ∃ A' c, e = .returned (.slice A' 4 c) ∧ Ints w' w'.heap.size A' ((S.drop (y)).take 4) ∧ Placed A' c ∧ Below w.heap.size w w' := by
  have HK := Lib.hid (heap_alloc_new w (.cells #[.slice (some ⟨tb, toff, none⟩) 8 cA, .slice (some ⟨lb, loff, none⟩) 4 cB, .int .i64 k, .bool b1, .bool b2] 26))
  have BW := Lib.hid (below_new w (.cells #[.slice (some ⟨tb, toff, none⟩) 8 cA, .slice (some ⟨lb, loff, none⟩) 4 cB, .int .i64 k, .bool b1, .bool b2] 26))
  have bt := below_two w (.cells #[.slice (some ⟨tb, toff, none⟩) 8 cA, .slice (some ⟨lb, loff, none⟩) 4 cB, .int .i64 k, .bool b1, .bool b2] 26) (.cells (ivs []).toArray 3)
  have BT := Lib.hid bt
  have ha8 : y + 4 ≤ 7 := by omega
  have hne : ¬ sc = y := by omega
  have ha0 : (y : Int) ≤ (y : Int) + 4 := by omega
  have ha1 : (y : Int) + 4 ≤ (sc : Int) := by omega
  have ha2 : y + 4 ≤ sc := by omega
  have haw : IntKind.i64.wrap ((y : Int) + 4) = (y : Int) + 4 := IntWalk.i64_in _ (by omega)
  have hat : ((y : Int) + 4).toNat = y + 4 := by omega
  have had : y + 4 - y = 4 := by omega
  have I1 : Hid (Ints ((w.alloc (.cells #[.slice (some ⟨tb, toff, none⟩) 8 cA, .slice (some ⟨lb, loff, none⟩) 4 cB, .int .i64 k, .bool b1, .bool b2] 26)).alloc (.cells (ivs []).toArray 3)) ((w.alloc (.cells #[.slice (some ⟨tb, toff, none⟩) 8 cA, .slice (some ⟨lb, loff, none⟩) 4 cB, .int .i64 k, .bool b1, .bool b2] 26)).alloc (.cells (ivs []).toArray 3)).heap.size (some ⟨sb, soff + y, none⟩) ((S.drop y).take 4)) := Lib.hid (by
    refine ⟨by rw [List.length_take]; omega, .inr ⟨sb, soff + y, rfl, Nat.lt_of_lt_of_le hsb bt.size, fun j hj => ?_⟩⟩
    rw [List.length_take, List.length_drop] at hj
    rw [bt.cell (p := ⟨sb, soff + y + j, none⟩) hsb, Nat.add_assoc, hsv (y + j) (by omega), drop_take_at (by omega)])
  clear bt htc hlc ht hl hsv hS
  go_enter Try.func68, Try.ntmps68
  go_wp2
  go_ret
  exact ⟨_, _, rfl, I1.out, (fun h => by cases h), BT.out⟩

set_option maxRecDepth 100000 in
set_option maxHeartbeats 4000000 in
theorem l17row_4_5 (tb toff : Nat) (cA : Nat) (lb loff : Nat) (cB : Nat) (sb soff sc : Nat) (S : List Int) (hS : S.length = 7) (hsc : 7 ≤ sc) (t l : List Int) (k : Int) (b1 b2 : Bool) (y : Nat) (hy : y < 4) (ht : t.length = 8) (hl : l.length = 4) (hcA : 8 ≤ cA) (w : World) (htb : tb < w.heap.size) (hlb : lb < w.heap.size)
    (htc : ∀ j, j < t.length → w.cell? ⟨tb, toff + j, none⟩ = some (.int .i64 (t.getD j 0))) (hlc : ∀ j, j < l.length → w.cell? ⟨lb, loff + j, none⟩ = some (.int .i64 (l.getD j 0))) (hsb : sb < w.heap.size) (hsv : ∀ j, j < S.length → w.cell? ⟨sb, soff + j, none⟩ = some (.int .i64 (S.getD j 0))) :
    Calls Try.prog 68 #[.int .i64 5, .agg #[.slice (some ⟨tb, toff, none⟩) 8 cA, .slice (some ⟨lb, loff, none⟩) 4 cB, .int .i64 k, .bool b1, .bool b2], .int .i64 4, .int .i64 y, .slice (some ⟨sb, soff, none⟩) 7 sc] w fun e w' => ∃ A' c, e = .returned (.slice A' 4 c) ∧ Ints w' w'.heap.size A' ((S.drop (3 - y)).take 4) ∧ Placed A' c ∧ Below w.heap.size w w' := by
  have HK := Lib.hid (heap_alloc_new w (.cells #[.slice (some ⟨tb, toff, none⟩) 8 cA, .slice (some ⟨lb, loff, none⟩) 4 cB, .int .i64 k, .bool b1, .bool b2] 26))
  have BW := Lib.hid (below_new w (.cells #[.slice (some ⟨tb, toff, none⟩) 8 cA, .slice (some ⟨lb, loff, none⟩) 4 cB, .int .i64 k, .bool b1, .bool b2] 26))
  have bt := below_two w (.cells #[.slice (some ⟨tb, toff, none⟩) 8 cA, .slice (some ⟨lb, loff, none⟩) 4 cB, .int .i64 k, .bool b1, .bool b2] 26) (.cells (ivs []).toArray 3)
  have BT := Lib.hid bt
  obtain ⟨a, ha⟩ : ∃ a, a = 3 - y := ⟨_, rfl⟩
  rw [← ha]
  have ha8 : a + 4 ≤ 7 := by omega
  have hai : (3 : Int) - (y : Int) = (a : Int) := by omega
  have hai2 : (7 : Int) - (y : Int) = (a : Int) + 4 := by omega
  clear ha
  have hne : ¬ sc = a := by omega
  have ha0 : (a : Int) ≤ (a : Int) + 4 := by omega
  have ha1 : (a : Int) + 4 ≤ (sc : Int) := by omega
  have ha2 : a + 4 ≤ sc := by omega
  have haw : IntKind.i64.wrap ((a : Int) + 4) = (a : Int) + 4 := IntWalk.i64_in _ (by omega)
  have hat : ((a : Int) + 4).toNat = a + 4 := by omega
  have had : a + 4 - a = 4 := by omega
  have I1 : Hid (Ints ((w.alloc (.cells #[.slice (some ⟨tb, toff, none⟩) 8 cA, .slice (some ⟨lb, loff, none⟩) 4 cB, .int .i64 k, .bool b1, .bool b2] 26)).alloc (.cells (ivs []).toArray 3)) ((w.alloc (.cells #[.slice (some ⟨tb, toff, none⟩) 8 cA, .slice (some ⟨lb, loff, none⟩) 4 cB, .int .i64 k, .bool b1, .bool b2] 26)).alloc (.cells (ivs []).toArray 3)).heap.size (some ⟨sb, soff + a, none⟩) ((S.drop a).take 4)) := Lib.hid (by
    refine ⟨by rw [List.length_take]; omega, .inr ⟨sb, soff + a, rfl, Nat.lt_of_lt_of_le hsb bt.size, fun j hj => ?_⟩⟩
    rw [List.length_take, List.length_drop] at hj
    rw [bt.cell (p := ⟨sb, soff + a + j, none⟩) hsb, Nat.add_assoc, hsv (a + j) (by omega), drop_take_at (by omega)])
  clear bt htc hlc ht hl hsv hS
  go_enter Try.func68, Try.ntmps68
  go_wp2
  go_ret
  exact ⟨_, _, rfl, I1.out, (fun h => by cases h), BT.out⟩

set_option maxRecDepth 100000 in
set_option maxHeartbeats 4000000 in
theorem l17row_8_0 (tb toff : Nat) (cA : Nat) (lb loff : Nat) (cB : Nat) (SA : Option Addr) (sn sc : Nat) (t l : List Int) (k : Int) (b1 b2 : Bool) (y : Nat) (hy : y < 8) (ht : t.length = 16) (hl : l.length = 8) (hcA : 16 ≤ cA) (w : World) (htb : tb < w.heap.size) (hlb : lb < w.heap.size)
    (htc : ∀ j, j < t.length → w.cell? ⟨tb, toff + j, none⟩ = some (.int .i64 (t.getD j 0))) (hlc : ∀ j, j < l.length → w.cell? ⟨lb, loff + j, none⟩ = some (.int .i64 (l.getD j 0)))
    (v0 : Int) (MN : Hid (∀ w, Ints w w.heap.size (some ⟨tb, toff, none⟩) t → Ints w w.heap.size (some ⟨lb, loff, none⟩) l → Calls Try.prog 78 #[.agg #[.slice (some ⟨tb, toff, none⟩) 16 cA, .slice (some ⟨lb, loff, none⟩) 8 cB, .int .i64 k, .bool b1, .bool b2], .int .i64 8] w fun e w' => e = .returned (.int .i64 v0) ∧ Below w.heap.size w w')) :
    Calls Try.prog 68 #[.int .i64 0, .agg #[.slice (some ⟨tb, toff, none⟩) 16 cA, .slice (some ⟨lb, loff, none⟩) 8 cB, .int .i64 k, .bool b1, .bool b2], .int .i64 8, .int .i64 y, .slice SA sn sc] w fun e w' => ∃ A' c, e = .returned (.slice A' 8 c) ∧ Ints w' w'.heap.size A' (List.replicate 8 (v0)) ∧ Placed A' c ∧ Below w.heap.size w w' := by
  have HK := Lib.hid (heap_alloc_new w (.cells #[.slice (some ⟨tb, toff, none⟩) 16 cA, .slice (some ⟨lb, loff, none⟩) 8 cB, .int .i64 k, .bool b1, .bool b2] 26))
  have BW := Lib.hid (below_new w (.cells #[.slice (some ⟨tb, toff, none⟩) 16 cA, .slice (some ⟨lb, loff, none⟩) 8 cB, .int .i64 k, .bool b1, .bool b2] 26))
  have bt := below_two w (.cells #[.slice (some ⟨tb, toff, none⟩) 16 cA, .slice (some ⟨lb, loff, none⟩) 8 cB, .int .i64 k, .bool b1, .bool b2] 26) (.cells (ivs []).toArray 3)
  have BT := Lib.hid bt
  obtain ⟨i0, hi, hz0, hz1, hz2⟩ := info_parts Try.iinfo
  have I1 : Hid (∀ wr, Below w.heap.size w wr → Ints wr wr.heap.size (some ⟨tb, toff, none⟩) t) := Lib.hid fun wr h => ⟨by omega, .inr ⟨tb, toff, rfl, Nat.lt_of_lt_of_le htb h.size, fun j hj => by rw [h.cell (p := ⟨tb, toff + j, none⟩) htb]; exact htc j hj⟩⟩
  have I2 : Hid (∀ wr, Below w.heap.size w wr → Ints wr wr.heap.size (some ⟨lb, loff, none⟩) l) := Lib.hid fun wr h => ⟨by omega, .inr ⟨lb, loff, rfl, Nat.lt_of_lt_of_le hlb h.size, fun j hj => by rw [h.cell (p := ⟨lb, loff + j, none⟩) hlb]; exact hlc j hj⟩⟩
  have O0 := Lib.hid (own_at' (w.alloc (.cells #[.slice (some ⟨tb, toff, none⟩) 16 cA, .slice (some ⟨lb, loff, none⟩) 8 cB, .int .i64 k, .bool b1, .bool b2] 26)) w.heap.size (w.heap.size + 1) [] (by simp) (by simp) (by simp))
  have cy : ((w.alloc (.cells #[.slice (some ⟨tb, toff, none⟩) 16 cA, .slice (some ⟨lb, loff, none⟩) 8 cB, .int .i64 k, .bool b1, .bool b2] 26)).alloc (.cells (ivs []).toArray 3)).cell? ⟨lb, loff + y, none⟩ = some (.int .i64 (l.getD y 0)) := by rw [bt.cell (p := ⟨lb, loff + y, none⟩) hlb]; exact hlc y (by omega)
  have cyw := hlc y (by omega)
  obtain ⟨u, hu⟩ : ∃ u, u = l.getD y 0 := ⟨_, rfl⟩
  rw [← hu] at cy cyw
  have hyi : (y : Int) < 8 := by omega
  clear hu bt htc hlc ht hl
  go_enter Try.func68, Try.ntmps68
  go_wp2_with fail
  refine (MN.out _ (I1.out _ BT.out) (I2.out _ BT.out)).mono ?_
  rintro e w1 ⟨rfl, hb1⟩
  have B1 := Lib.hid (below_up BT.out hb1 BT.out.size); have O1 := Lib.hid (O0.out.kept hb1 (Nat.le_refl _))
  clear hb1
  go_wp2
  go_loopw [11, 13] (fun v9 i wr => ∃ j : Nat, j ≤ 8 ∧ i = .int .i64 j ∧ wr.ownsRow w.heap.size 3 1 v9 j (ivs (List.replicate j v0)) ∧ Below w.heap.size w wr)
    (fun _ i _ => 8 - (intOf i).toNat)
  case atStart => exact ⟨0, Nat.zero_le _, rfl, O1.out, B1.out⟩
  case round =>
    obtain ⟨j, hj, rfl, hown, hbel⟩ := hrel
    by_cases hlt : j < 8
    · have d1 : decide ((j : Int) < 8) = true := by simp; omega
      have hnx : List.replicate (j + 1) v0 = List.replicate j v0 ++ [v0] := List.replicate_succ'
      have HX := Lib.hid hnx; have HBB := Lib.hid hbel; have O3 := hown
      clear hnx hown hbel
      go_wp2_with (at_builtin; refine append_int wr rfl (.tmp 64) (.tmp 66) 24 rfl w.heap.size 3 i0 Try.underlying24 hi hz0 hz1 hz2 _ _ _ rfl O3 _ rfl rfl (by omega) HBB.out.size ?_; intro v' w' hown' hgr hvb)
      have HO' := Lib.hid hown'; have HG := Lib.hid hgr; have HL' := Lib.hid O3.lt
      clear hown' hgr hvb O3
      go_roundw
      case rel => exact ⟨j + 1, by omega, by go_num, by rw [HX.out]; exact HO'.out, HBB.out.grown HG.out HBB.out.size fun k hk => (HL'.out k hk).1⟩
      case measure => simp [intOf]; omega
    · obtain rfl : j = 8 := by omega
      obtain ⟨A3, c3, hv3, ho3⟩ := own_slice hown
      rw [List.length_replicate] at hv3
      subst hv3
      have I3 := Lib.hid (ho3.ints (by rw [List.length_replicate]; decide)); have P3 := Lib.hid ho3.placed; have B3 := Lib.hid hbel
      clear hown hbel ho3
      go_wp2
      go_ret
      exact ⟨_, _, rfl, I3.out, P3.out, B3.out⟩

set_option maxRecDepth 100000 in
set_option maxHeartbeats 4000000 in
theorem l17row_8_1 (tb toff : Nat) (cA : Nat) (lb loff : Nat) (cB : Nat) (SA : Option Addr) (sn sc : Nat) (t l : List Int) (k : Int) (b1 b2 : Bool) (y : Nat) (hy : y < 8) (ht : t.length = 16) (hl : l.length = 8) (hcA : 16 ≤ cA) (w : World) (htb : tb < w.heap.size) (hlb : lb < w.heap.size)
    (htc : ∀ j, j < t.length → w.cell? ⟨tb, toff + j, none⟩ = some (.int .i64 (t.getD j 0))) (hlc : ∀ j, j < l.length → w.cell? ⟨lb, loff + j, none⟩ = some (.int .i64 (l.getD j 0))) :
    Calls Try.prog 68 #[.int .i64 1, .agg #[.slice (some ⟨tb, toff, none⟩) 16 cA, .slice (some ⟨lb, loff, none⟩) 8 cB, .int .i64 k, .bool b1, .bool b2], .int .i64 8, .int .i64 y, .slice SA sn sc] w fun e w' => ∃ A' c, e = .returned (.slice A' 8 c) ∧ Ints w' w'.heap.size A' (t.take 8) ∧ Placed A' c ∧ Below w.heap.size w w' := by
  have HK := Lib.hid (heap_alloc_new w (.cells #[.slice (some ⟨tb, toff, none⟩) 16 cA, .slice (some ⟨lb, loff, none⟩) 8 cB, .int .i64 k, .bool b1, .bool b2] 26))
  have BW := Lib.hid (below_new w (.cells #[.slice (some ⟨tb, toff, none⟩) 16 cA, .slice (some ⟨lb, loff, none⟩) 8 cB, .int .i64 k, .bool b1, .bool b2] 26))
  have bt := below_two w (.cells #[.slice (some ⟨tb, toff, none⟩) 16 cA, .slice (some ⟨lb, loff, none⟩) 8 cB, .int .i64 k, .bool b1, .bool b2] 26) (.cells (ivs []).toArray 3)
  have BT := Lib.hid bt
  have hcA1 : (8 : Int) ≤ (cA : Int) := by omega
  have I1 := Lib.hid (ints_take (w := (w.alloc (.cells #[.slice (some ⟨tb, toff, none⟩) 16 cA, .slice (some ⟨lb, loff, none⟩) 8 cB, .int .i64 k, .bool b1, .bool b2] 26)).alloc (.cells (ivs []).toArray 3)) (g := ((w.alloc (.cells #[.slice (some ⟨tb, toff, none⟩) 16 cA, .slice (some ⟨lb, loff, none⟩) 8 cB, .int .i64 k, .bool b1, .bool b2] 26)).alloc (.cells (ivs []).toArray 3)).heap.size) (b := tb) (off := toff) (l := t) (n := 8) (by omega) (by decide) (Nat.lt_of_lt_of_le htb bt.size) (fun j hj => by rw [bt.cell (p := ⟨tb, toff + j, none⟩) htb]; exact htc j hj))
  clear bt htc hlc ht hl
  go_enter Try.func68, Try.ntmps68
  go_wp2
  go_ret
  exact ⟨_, _, rfl, I1.out, (fun h => by cases h), BT.out⟩

set_option maxRecDepth 100000 in
set_option maxHeartbeats 4000000 in
theorem l17row_8_2 (tb toff : Nat) (cA : Nat) (lb loff : Nat) (cB : Nat) (SA : Option Addr) (sn sc : Nat) (t l : List Int) (k : Int) (b1 b2 : Bool) (y : Nat) (hy : y < 8) (ht : t.length = 16) (hl : l.length = 8) (hcA : 16 ≤ cA) (w : World) (htb : tb < w.heap.size) (hlb : lb < w.heap.size)
    (htc : ∀ j, j < t.length → w.cell? ⟨tb, toff + j, none⟩ = some (.int .i64 (t.getD j 0))) (hlc : ∀ j, j < l.length → w.cell? ⟨lb, loff + j, none⟩ = some (.int .i64 (l.getD j 0))) :
    Calls Try.prog 68 #[.int .i64 2, .agg #[.slice (some ⟨tb, toff, none⟩) 16 cA, .slice (some ⟨lb, loff, none⟩) 8 cB, .int .i64 k, .bool b1, .bool b2], .int .i64 8, .int .i64 y, .slice SA sn sc] w fun e w' => ∃ A' c, e = .returned (.slice A' 8 c) ∧ Ints w' w'.heap.size A' (List.replicate 8 (l.getD y 0)) ∧ Placed A' c ∧ Below w.heap.size w w' := by
  have HK := Lib.hid (heap_alloc_new w (.cells #[.slice (some ⟨tb, toff, none⟩) 16 cA, .slice (some ⟨lb, loff, none⟩) 8 cB, .int .i64 k, .bool b1, .bool b2] 26))
  have BW := Lib.hid (below_new w (.cells #[.slice (some ⟨tb, toff, none⟩) 16 cA, .slice (some ⟨lb, loff, none⟩) 8 cB, .int .i64 k, .bool b1, .bool b2] 26))
  have bt := below_two w (.cells #[.slice (some ⟨tb, toff, none⟩) 16 cA, .slice (some ⟨lb, loff, none⟩) 8 cB, .int .i64 k, .bool b1, .bool b2] 26) (.cells (ivs []).toArray 3)
  have BT := Lib.hid bt
  obtain ⟨i0, hi, hz0, hz1, hz2⟩ := info_parts Try.iinfo
  have I1 : Hid (∀ wr, Below w.heap.size w wr → Ints wr wr.heap.size (some ⟨tb, toff, none⟩) t) := Lib.hid fun wr h => ⟨by omega, .inr ⟨tb, toff, rfl, Nat.lt_of_lt_of_le htb h.size, fun j hj => by rw [h.cell (p := ⟨tb, toff + j, none⟩) htb]; exact htc j hj⟩⟩
  have I2 : Hid (∀ wr, Below w.heap.size w wr → Ints wr wr.heap.size (some ⟨lb, loff, none⟩) l) := Lib.hid fun wr h => ⟨by omega, .inr ⟨lb, loff, rfl, Nat.lt_of_lt_of_le hlb h.size, fun j hj => by rw [h.cell (p := ⟨lb, loff + j, none⟩) hlb]; exact hlc j hj⟩⟩
  have O0 := Lib.hid (own_at' (w.alloc (.cells #[.slice (some ⟨tb, toff, none⟩) 16 cA, .slice (some ⟨lb, loff, none⟩) 8 cB, .int .i64 k, .bool b1, .bool b2] 26)) w.heap.size (w.heap.size + 1) [] (by simp) (by simp) (by simp))
  have cy : ((w.alloc (.cells #[.slice (some ⟨tb, toff, none⟩) 16 cA, .slice (some ⟨lb, loff, none⟩) 8 cB, .int .i64 k, .bool b1, .bool b2] 26)).alloc (.cells (ivs []).toArray 3)).cell? ⟨lb, loff + y, none⟩ = some (.int .i64 (l.getD y 0)) := by rw [bt.cell (p := ⟨lb, loff + y, none⟩) hlb]; exact hlc y (by omega)
  have cyw := hlc y (by omega)
  obtain ⟨u, hu⟩ : ∃ u, u = l.getD y 0 := ⟨_, rfl⟩
  rw [← hu] at cy cyw
  rw [← hu]
  have hyi : (y : Int) < 8 := by omega
  clear hu bt htc hlc ht hl
  go_enter Try.func68, Try.ntmps68
  go_wp2
  go_loopw [11, 13] (fun v9 i wr => ∃ j : Nat, j ≤ 8 ∧ i = .int .i64 j ∧ wr.ownsRow w.heap.size 3 1 v9 j (ivs (List.replicate j u)) ∧ Below w.heap.size w wr)
    (fun _ i _ => 8 - (intOf i).toNat)
  case atStart => exact ⟨0, Nat.zero_le _, rfl, O0.out, BT.out⟩
  case round =>
    obtain ⟨j, hj, rfl, hown, hbel⟩ := hrel
    by_cases hlt : j < 8
    · have d1 : decide ((j : Int) < 8) = true := by simp; omega
      have hnx : List.replicate (j + 1) u = List.replicate j u ++ [u] := List.replicate_succ'
      have HX := Lib.hid hnx; have HBB := Lib.hid hbel; have O3 := hown
      clear hnx hown hbel
      go_wp2_with (at_builtin; refine append_int wr rfl (.tmp 64) (.tmp 66) 24 rfl w.heap.size 3 i0 Try.underlying24 hi hz0 hz1 hz2 _ _ _ rfl O3 _ rfl rfl (by omega) HBB.out.size ?_; intro v' w' hown' hgr hvb)
      have HO' := Lib.hid hown'; have HG := Lib.hid hgr; have HL' := Lib.hid O3.lt
      clear hown' hgr hvb O3
      go_roundw
      case rel => exact ⟨j + 1, by omega, by go_num, by rw [HX.out]; exact HO'.out, HBB.out.grown HG.out HBB.out.size fun k hk => (HL'.out k hk).1⟩
      case measure => simp [intOf]; omega
    · obtain rfl : j = 8 := by omega
      obtain ⟨A3, c3, hv3, ho3⟩ := own_slice hown
      rw [List.length_replicate] at hv3
      subst hv3
      have I3 := Lib.hid (ho3.ints (by rw [List.length_replicate]; decide)); have P3 := Lib.hid ho3.placed; have B3 := Lib.hid hbel
      clear hown hbel ho3
      go_wp2
      go_ret
      exact ⟨_, _, rfl, I3.out, P3.out, B3.out⟩

set_option maxRecDepth 100000 in
set_option maxHeartbeats 4000000 in
theorem l17row_8_3 (tb toff : Nat) (cA : Nat) (lb loff : Nat) (cB : Nat) (SA : Option Addr) (sn sc : Nat) (t l : List Int) (k : Int) (b1 b2 : Bool) (y : Nat) (hy : y < 8) (ht : t.length = 16) (hl : l.length = 8) (hcA : 16 ≤ cA) (w : World) (htb : tb < w.heap.size) (hlb : lb < w.heap.size)
    (htc : ∀ j, j < t.length → w.cell? ⟨tb, toff + j, none⟩ = some (.int .i64 (t.getD j 0))) (hlc : ∀ j, j < l.length → w.cell? ⟨lb, loff + j, none⟩ = some (.int .i64 (l.getD j 0)))
    (SR : Hid (∀ w, Ints w w.heap.size (some ⟨tb, toff, none⟩) t → Ints w w.heap.size (some ⟨lb, loff, none⟩) l → Calls Try.prog 27 #[.agg #[.slice (some ⟨tb, toff, none⟩) 16 cA, .slice (some ⟨lb, loff, none⟩) 8 cB, .int .i64 k, .bool b1, .bool b2], .int .i64 8, .int .i64 y] w fun e w' => ∃ A' c, e = .returned (.slice A' 8 c) ∧ OwnI w' w.heap.size A' c (slF t l k 8 y) ∧ Below w.heap.size w w')) :
    Calls Try.prog 68 #[.int .i64 3, .agg #[.slice (some ⟨tb, toff, none⟩) 16 cA, .slice (some ⟨lb, loff, none⟩) 8 cB, .int .i64 k, .bool b1, .bool b2], .int .i64 8, .int .i64 y, .slice SA sn sc] w fun e w' => ∃ A' c, e = .returned (.slice A' 8 c) ∧ Ints w' w'.heap.size A' (slF t l k 8 y) ∧ Placed A' c ∧ Below w.heap.size w w' := by
  have HK := Lib.hid (heap_alloc_new w (.cells #[.slice (some ⟨tb, toff, none⟩) 16 cA, .slice (some ⟨lb, loff, none⟩) 8 cB, .int .i64 k, .bool b1, .bool b2] 26))
  have BW := Lib.hid (below_new w (.cells #[.slice (some ⟨tb, toff, none⟩) 16 cA, .slice (some ⟨lb, loff, none⟩) 8 cB, .int .i64 k, .bool b1, .bool b2] 26))
  have bt := below_two w (.cells #[.slice (some ⟨tb, toff, none⟩) 16 cA, .slice (some ⟨lb, loff, none⟩) 8 cB, .int .i64 k, .bool b1, .bool b2] 26) (.cells (ivs []).toArray 3)
  have BT := Lib.hid bt
  have I1 : Hid (∀ wr, Below w.heap.size w wr → Ints wr wr.heap.size (some ⟨tb, toff, none⟩) t) := Lib.hid fun wr h => ⟨by omega, .inr ⟨tb, toff, rfl, Nat.lt_of_lt_of_le htb h.size, fun j hj => by rw [h.cell (p := ⟨tb, toff + j, none⟩) htb]; exact htc j hj⟩⟩
  have I2 : Hid (∀ wr, Below w.heap.size w wr → Ints wr wr.heap.size (some ⟨lb, loff, none⟩) l) := Lib.hid fun wr h => ⟨by omega, .inr ⟨lb, loff, rfl, Nat.lt_of_lt_of_le hlb h.size, fun j hj => by rw [h.cell (p := ⟨lb, loff + j, none⟩) hlb]; exact hlc j hj⟩⟩
  have hfl := slF_len t l k 8 y
  obtain ⟨z, hz⟩ : ∃ z, z = slF t l k 8 y := ⟨_, rfl⟩
  rw [← hz] at SR hfl ⊢
  clear hz bt htc hlc ht hl
  go_enter Try.func68, Try.ntmps68
  go_wp2_with fail
  refine (SR.out _ (I1.out _ BT.out) (I2.out _ BT.out)).mono ?_
  rintro e w1 ⟨A1, c1, rfl, ho, hb1⟩
  have B1 := Lib.hid (below_up BT.out hb1 BT.out.size)
  have I3 := Lib.hid (ho.ints (by omega)); have P3 := Lib.hid ho.placed
  clear ho hb1
  go_wp2
  go_ret
  exact ⟨_, _, rfl, I3.out, P3.out, B1.out⟩

set_option maxRecDepth 100000 in
set_option maxHeartbeats 4000000 in
theorem l17row_8_4 (tb toff : Nat) (cA : Nat) (lb loff : Nat) (cB : Nat) (sb soff sc : Nat) (S : List Int) (hS : S.length = 15) (hsc : 15 ≤ sc) (t l : List Int) (k : Int) (b1 b2 : Bool) (y : Nat) (hy : y < 8) (ht : t.length = 16) (hl : l.length = 8) (hcA : 16 ≤ cA) (w : World) (htb : tb < w.heap.size) (hlb : lb < w.heap.size)
    (htc : ∀ j, j < t.length → w.cell? ⟨tb, toff + j, none⟩ = some (.int .i64 (t.getD j 0))) (hlc : ∀ j, j < l.length → w.cell? ⟨lb, loff + j, none⟩ = some (.int .i64 (l.getD j 0))) (hsb : sb < w.heap.size) (hsv : ∀ j, j < S.length → w.cell? ⟨sb, soff + j, none⟩ = some (.int .i64 (S.getD j 0))) :
    Calls Try.prog 68 #[.int .i64 4, .agg #[.slice (some ⟨tb, toff, none⟩) 16 cA, .slice (some ⟨lb, loff, none⟩) 8 cB, .int .i64 k, .bool b1, .bool b2], .int .i64 8, .int .i64 y, .slice (some ⟨sb, soff, none⟩) 15 sc] w fun e w' => ∃ A' c, e = .returned (.slice A' 8 c) ∧ Ints w' w'.heap.size A' ((S.drop (y)).take 8) ∧ Placed A' c ∧ Below w.heap.size w w' := by
  have HK := Lib.hid (heap_alloc_new w (.cells #[.slice (some ⟨tb, toff, none⟩) 16 cA, .slice (some ⟨lb, loff, none⟩) 8 cB, .int .i64 k, .bool b1, .bool b2] 26))
  have BW := Lib.hid (below_new w (.cells #[.slice (some ⟨tb, toff, none⟩) 16 cA, .slice (some ⟨lb, loff, none⟩) 8 cB, .int .i64 k, .bool b1, .bool b2] 26))
  have bt := below_two w (.cells #[.slice (some ⟨tb, toff, none⟩) 16 cA, .slice (some ⟨lb, loff, none⟩) 8 cB, .int .i64 k, .bool b1, .bool b2] 26) (.cells (ivs []).toArray 3)
  have BT := Lib.hid bt
  have ha8 : y + 8 ≤ 15 := by omega
  have hne : ¬ sc = y := by omega
  have ha0 : (y : Int) ≤ (y : Int) + 8 := by omega
  have ha1 : (y : Int) + 8 ≤ (sc : Int) := by omega
  have ha2 : y + 8 ≤ sc := by omega
  have haw : IntKind.i64.wrap ((y : Int) + 8) = (y : Int) + 8 := IntWalk.i64_in _ (by omega)
  have hat : ((y : Int) + 8).toNat = y + 8 := by omega
  have had : y + 8 - y = 8 := by omega
  have I1 : Hid (Ints ((w.alloc (.cells #[.slice (some ⟨tb, toff, none⟩) 16 cA, .slice (some ⟨lb, loff, none⟩) 8 cB, .int .i64 k, .bool b1, .bool b2] 26)).alloc (.cells (ivs []).toArray 3)) ((w.alloc (.cells #[.slice (some ⟨tb, toff, none⟩) 16 cA, .slice (some ⟨lb, loff, none⟩) 8 cB, .int .i64 k, .bool b1, .bool b2] 26)).alloc (.cells (ivs []).toArray 3)).heap.size (some ⟨sb, soff + y, none⟩) ((S.drop y).take 8)) := Lib.hid (by
    refine ⟨by rw [List.length_take]; omega, .inr ⟨sb, soff + y, rfl, Nat.lt_of_lt_of_le hsb bt.size, fun j hj => ?_⟩⟩
    rw [List.length_take, List.length_drop] at hj
    rw [bt.cell (p := ⟨sb, soff + y + j, none⟩) hsb, Nat.add_assoc, hsv (y + j) (by omega), drop_take_at (by omega)])
  clear bt htc hlc ht hl hsv hS
  go_enter Try.func68, Try.ntmps68
  go_wp2
  go_ret
  exact ⟨_, _, rfl, I1.out, (fun h => by cases h), BT.out⟩

set_option maxRecDepth 100000 in
set_option maxHeartbeats 4000000 in
theorem l17row_8_5 (tb toff : Nat) (cA : Nat) (lb loff : Nat) (cB : Nat) (sb soff sc : Nat) (S : List Int) (hS : S.length = 15) (hsc : 15 ≤ sc) (t l : List Int) (k : Int) (b1 b2 : Bool) (y : Nat) (hy : y < 8) (ht : t.length = 16) (hl : l.length = 8) (hcA : 16 ≤ cA) (w : World) (htb : tb < w.heap.size) (hlb : lb < w.heap.size)
    (htc : ∀ j, j < t.length → w.cell? ⟨tb, toff + j, none⟩ = some (.int .i64 (t.getD j 0))) (hlc : ∀ j, j < l.length → w.cell? ⟨lb, loff + j, none⟩ = some (.int .i64 (l.getD j 0))) (hsb : sb < w.heap.size) (hsv : ∀ j, j < S.length → w.cell? ⟨sb, soff + j, none⟩ = some (.int .i64 (S.getD j 0))) :
    Calls Try.prog 68 #[.int .i64 5, .agg #[.slice (some ⟨tb, toff, none⟩) 16 cA, .slice (some ⟨lb, loff, none⟩) 8 cB, .int .i64 k, .bool b1, .bool b2], .int .i64 8, .int .i64 y, .slice (some ⟨sb, soff, none⟩) 15 sc] w fun e w' => ∃ A' c, e = .returned (.slice A' 8 c) ∧ Ints w' w'.heap.size A' ((S.drop (7 - y)).take 8) ∧ Placed A' c ∧ Below w.heap.size w w' := by
  have HK := Lib.hid (heap_alloc_new w (.cells #[.slice (some ⟨tb, toff, none⟩) 16 cA, .slice (some ⟨lb, loff, none⟩) 8 cB, .int .i64 k, .bool b1, .bool b2] 26))
  have BW := Lib.hid (below_new w (.cells #[.slice (some ⟨tb, toff, none⟩) 16 cA, .slice (some ⟨lb, loff, none⟩) 8 cB, .int .i64 k, .bool b1, .bool b2] 26))
  have bt := below_two w (.cells #[.slice (some ⟨tb, toff, none⟩) 16 cA, .slice (some ⟨lb, loff, none⟩) 8 cB, .int .i64 k, .bool b1, .bool b2] 26) (.cells (ivs []).toArray 3)
  have BT := Lib.hid bt
  obtain ⟨a, ha⟩ : ∃ a, a = 7 - y := ⟨_, rfl⟩
  rw [← ha]
  have ha8 : a + 8 ≤ 15 := by omega
  have hai : (7 : Int) - (y : Int) = (a : Int) := by omega
  have hai2 : (15 : Int) - (y : Int) = (a : Int) + 8 := by omega
  clear ha
  have hne : ¬ sc = a := by omega
  have ha0 : (a : Int) ≤ (a : Int) + 8 := by omega
  have ha1 : (a : Int) + 8 ≤ (sc : Int) := by omega
  have ha2 : a + 8 ≤ sc := by omega
  have haw : IntKind.i64.wrap ((a : Int) + 8) = (a : Int) + 8 := IntWalk.i64_in _ (by omega)
  have hat : ((a : Int) + 8).toNat = a + 8 := by omega
  have had : a + 8 - a = 8 := by omega
  have I1 : Hid (Ints ((w.alloc (.cells #[.slice (some ⟨tb, toff, none⟩) 16 cA, .slice (some ⟨lb, loff, none⟩) 8 cB, .int .i64 k, .bool b1, .bool b2] 26)).alloc (.cells (ivs []).toArray 3)) ((w.alloc (.cells #[.slice (some ⟨tb, toff, none⟩) 16 cA, .slice (some ⟨lb, loff, none⟩) 8 cB, .int .i64 k, .bool b1, .bool b2] 26)).alloc (.cells (ivs []).toArray 3)).heap.size (some ⟨sb, soff + a, none⟩) ((S.drop a).take 8)) := Lib.hid (by
    refine ⟨by rw [List.length_take]; omega, .inr ⟨sb, soff + a, rfl, Nat.lt_of_lt_of_le hsb bt.size, fun j hj => ?_⟩⟩
    rw [List.length_take, List.length_drop] at hj
    rw [bt.cell (p := ⟨sb, soff + a + j, none⟩) hsb, Nat.add_assoc, hsv (a + j) (by omega), drop_take_at (by omega)])
  clear bt htc hlc ht hl hsv hS
  go_enter Try.func68, Try.ntmps68
  go_wp2
  go_ret
  exact ⟨_, _, rfl, I1.out, (fun h => by cases h), BT.out⟩
end Go.Proofs.Ytjgbenhjafgimaa
