/-
  The contract of the model's l17Row. Condition: a slice is no longer than it holds.
  The contract of the model's l17Row. Condition: a slice is no longer than it holds.
  The contract of the model's FastPred. Condition: a slice is no longer than it holds.
  The contract of the model's FastPred, everywhere. Condition: a slice is no longer than it holds.
-/
import Derived.Test.YtjgbenhjafgimaaSlA
import Derived.Test.YtjgbenhjafgimaaSoA
import Derived.Test.YtjgbenhjafgimaaPrE
import Derived.Test.YtjgbenhjafgimaaApp
namespace Go.Proofs.Ytjgbenhjafgimaa
open Go.RowKit
set_option linter.unusedVariables false

/-- A row of the prediction. -/
def rowPF (t l : List Int) (k : Int) (b1 b2 : Bool) (m : Nat) (mode : Int) (y : Nat) : List Int := (List.range m).map fun x => predF t l k b1 b2 m mode x y
theorem rowPF_len (t l : List Int) (k : Int) (b1 b2 : Bool) (m : Nat) (mode : Int) (y : Nat) : (rowPF t l k b1 b2 m mode y).length = m := by simp [rowPF]
theorem rowPF_at (t l : List Int) (k : Int) (b1 b2 : Bool) (m : Nat) (mode : Int) (y : Nat) {x : Nat} (hx : x < m) : (rowPF t l k b1 b2 m mode y).getD x 0 = predF t l k b1 b2 m mode x y := by
  rw [List.getD_eq_getElem?_getD, rowPF, List.getElem?_map, List.getElem?_range hx]
  rfl
theorem clip_id {x : Int} (h : 0 ≤ x ∧ x ≤ 255) : clipV x = x := by unfold clipV; omega
theorem row_slope (t l : List Int) (k : Int) (b1 b2 : Bool) (m y : Nat) : slF t l k m y = rowPF t l k b1 b2 m 3 y := ints_same (slF_len _ _ _ _ _) (rowPF_len _ _ _ _ _ _ _ _) fun i hi => by
  rw [slF_at _ _ _ _ _ hi, rowPF_at _ _ _ _ _ _ _ _ hi]
  unfold predF
  rw [if_neg (by decide), if_neg (by decide), if_neg (by decide), if_pos rfl]
theorem row_down {t : List Int} (l : List Int) (k : Int) (b1 b2 : Bool) {m : Nat} (y : Nat) (ht : m ≤ t.length) : t.take m = rowPF t l k b1 b2 m 1 y := ints_same (by rw [List.length_take]; omega) (rowPF_len _ _ _ _ _ _ _ _) fun i hi => by
  rw [rowPF_at _ _ _ _ _ _ _ _ hi]
  unfold predF
  rw [if_neg (by decide), if_pos rfl, List.getD_eq_getElem?_getD, List.getD_eq_getElem?_getD, List.getElem?_take, if_pos hi]
theorem row_flat0 (t l : List Int) (k : Int) (b1 b2 : Bool) (m y : Nat) : List.replicate m (meanV t l k b1 b2 (m : Int)) = rowPF t l k b1 b2 m 0 y := ints_same List.length_replicate (rowPF_len _ _ _ _ _ _ _ _) fun i hi => by
  rw [rowPF_at _ _ _ _ _ _ _ _ hi, List.getD_eq_getElem?_getD, List.getElem?_replicate, if_pos hi]
  unfold predF
  rw [if_pos rfl]
  rfl
theorem row_flat2 (t l : List Int) (k : Int) (b1 b2 : Bool) (m y : Nat) : List.replicate m (l.getD y 0) = rowPF t l k b1 b2 m 2 y := ints_same List.length_replicate (rowPF_len _ _ _ _ _ _ _ _) fun i hi => by
  rw [rowPF_at _ _ _ _ _ _ _ _ hi, List.getD_eq_getElem?_getD, List.getElem?_replicate, if_pos hi]
  unfold predF
  rw [if_neg (by decide), if_neg (by decide), if_pos rfl]
  rfl
theorem row_left {t : List Int} (l : List Int) (k : Int) (b1 b2 : Bool) {m y : Nat} (ht : t.length = 2 * m) (hm : 0 < m) (hp : ∀ i, i < 2 * m → 0 ≤ t.getD i 0 ∧ t.getD i 0 ≤ 255) (hy : y < m) :
    ((soL (t ++ [t.getD (2 * m - 1) 0])).drop y).take m = rowPF t l k b1 b2 m 4 y := by
  have hl : (t ++ [t.getD (2 * m - 1) 0]).length = 2 * m + 1 := by rw [List.length_append, ht]; rfl
  have ha : ∀ i, i < 2 * m + 1 → (t ++ [t.getD (2 * m - 1) 0]).getD i 0 = t.getD (min (2 * m - 1) i) 0 := fun i hi => by
    by_cases h : i < 2 * m
    · rw [List.getD_eq_getElem?_getD, List.getElem?_append_left (by omega), ← List.getD_eq_getElem?_getD, show min (2 * m - 1) i = i by omega]
    · rw [List.getD_eq_getElem?_getD, List.getElem?_append_right (by omega), show i - t.length = 0 by omega, show min (2 * m - 1) i = 2 * m - 1 by omega]
      rfl
  refine ints_same (by rw [List.length_take, List.length_drop, soL_len, hl]; omega) (rowPF_len _ _ _ _ _ _ _ _) fun i hi => ?_
  rw [drop_take_at hi, soL_at _ (by rw [hl]; omega), rowPF_at _ _ _ _ _ _ _ _ hi]
  unfold predF soAt
  rw [if_neg (by decide), if_neg (by decide), if_neg (by decide), if_neg (by decide), if_pos rfl]
  rw [ha (y + i) (by omega), ha (y + i + 1) (by omega), ha (y + i + 2) (by omega), clip_id (hp _ (by omega)), clip_id (hp _ (by omega)), clip_id (hp _ (by omega)), show min (2 * m - 1) (y + i) = i + y by omega, Nat.add_comm y i]
theorem row_right {t l : List Int} {k : Int} (b1 b2 : Bool) {m y : Nat} (ht : t.length = 2 * m) (hl : l.length = m) (hb : ∀ i, i < 2 * m + 1 → 0 ≤ (bordF t l k).getD i 0 ∧ (bordF t l k).getD i 0 ≤ 255) (hy : y < m) :
    ((soL (bordF t l k)).drop (m - 1 - y)).take m = rowPF t l k b1 b2 m 5 y := by
  have hbl := bordF_len (k := k) ht hl
  refine ints_same (by rw [List.length_take, List.length_drop, soL_len, hbl]; omega) (rowPF_len _ _ _ _ _ _ _ _) fun i hi => ?_
  rw [drop_take_at hi, soL_at _ (by rw [hbl]; omega), rowPF_at _ _ _ _ _ _ _ _ hi]
  unfold predF soAt
  rw [if_neg (by decide), if_neg (by decide), if_neg (by decide), if_neg (by decide), if_neg (by decide), if_pos rfl]
  rw [clip_id (hb _ (by omega)), clip_id (hb _ (by omega)), clip_id (hb _ (by omega)), show m - 1 - y + i = i + m - y - 1 by omega, show i + m - y - 1 + 1 = i + m - y by omega, show i + m - y - 1 + 2 = i + m - y + 1 by omega]
theorem prd_row {t l : List Int} {k : Int} {b1 b2 : Bool} {m : Nat} {mode : Int} {y : Nat} (hy : y < m) : (prdF t l k b1 b2 m mode).take (y * m + m) = (prdF t l k b1 b2 m mode).take (y * m) ++ rowPF t l k b1 b2 m mode y := by
  rw [List.take_add]
  have hf : y * m + m ≤ m * m := by
    have h1 : (y + 1) * m ≤ m * m := Nat.mul_le_mul_right m hy
    rw [Nat.add_mul, Nat.one_mul] at h1
    exact h1
  refine congrArg _ (ints_same (n := m) ?_ (rowPF_len _ _ _ _ _ _ _ _) fun i hi => ?_)
  · rw [List.length_take, List.length_drop, prdF_len]
    omega
  · rw [drop_take_at hi, rowPF_at _ _ _ _ _ _ _ _ hi, List.getD_eq_getElem?_getD, prdF, List.getElem?_map, List.getElem?_range (by omega), Option.map_some, Option.getD_some]
    have e1 : (y * m + i) / m = y := by rw [Nat.add_comm, Nat.add_mul_div_right _ _ (by omega), Nat.div_eq_of_lt hi, Nat.zero_add]
    have e2 : (y * m + i) % m = i := by rw [Nat.add_comm, Nat.add_mul_mod_self_right, Nat.mod_eq_of_lt hi]
    rw [e1, e2]
end Go.Proofs.Ytjgbenhjafgimaa

namespace Go.Proofs.Ytjgbenhjafgimaa
open Go.RowKit
set_option linter.unusedVariables false


set_option maxRecDepth 100000 in
set_option maxHeartbeats 4000000 in
theorem l17row_4_0 (tb toff : Nat) (cA : Nat) (lb loff : Nat) (cB : Nat) (SA : Option Addr) (sn sc : Nat) (t l : List Int) (k : Int) (b1 b2 : Bool) (y : Nat) (hy : y < 4) (ht : t.length = 8) (hl : l.length = 4) (hcA : 8 ≤ cA) (w : World) (htb : tb < w.heap.size) (hlb : lb < w.heap.size)
    (htc : ∀ j, j < t.length → w.cell? ⟨tb, toff + j, none⟩ = some (.int .i64 (t.getD j 0))) (hlc : ∀ j, j < l.length → w.cell? ⟨lb, loff + j, none⟩ = some (.int .i64 (l.getD j 0)))
    (v0 : Int) (MN : Hid (∀ w, Ints w w.heap.size (some ⟨tb, toff, none⟩) t → Ints w w.heap.size (some ⟨lb, loff, none⟩) l → Calls Try.prog 78 #[.agg #[.slice (some ⟨tb, toff, none⟩) 8 cA, .slice (some ⟨lb, loff, none⟩) 4 cB, .int .i64 k, .bool b1, .bool b2], .int .i64 4] w fun e w' => e = .returned (.int .i64 v0) ∧ Below w.heap.size w w')) :
    Calls Try.prog 68 #[.int .i64 0, .agg #[.slice (some ⟨tb, toff, none⟩) 8 cA, .slice (some ⟨lb, loff, none⟩) 4 cB, .int .i64 k, .bool b1, .bool b2], .int .i64 4, .int .i64 y, .slice SA sn sc] w fun e w' => ∃ A' c, e = .returned (.slice A' 4 c) ∧ Ints w' w'.heap.size A' (List.replicate 4 (v0)) ∧ Placed A' c ∧ Below w.heap.size w w' := by
  have HK := Lib.hid (heap_alloc_new w (.cells #[.slice (some ⟨tb, toff, none⟩) 8 cA, .slice (some ⟨lb, loff, none⟩) 4 cB, .int .i64 k, .bool b1, .bool b2] 26))
  have BW := Lib.hid (below_new w (.cells #[.slice (some ⟨tb, toff, none⟩) 8 cA, .slice (some ⟨lb, loff, none⟩) 4 cB, .int .i64 k, .bool b1, .bool b2] 26))
  have bt := below_two w (.cells #[.slice (some ⟨tb, toff, none⟩) 8 cA, .slice (some ⟨lb, loff, none⟩) 4 cB, .int .i64 k, .bool b1, .bool b2] 26) (.cells (ivs []).toArray 3)
  have BT := Lib.hid bt
  obtain ⟨i0, hi, hz0, hz1, hz2⟩ := info_parts Try.iinfo
  have I1 : Hid (∀ wr, Below w.heap.size w wr → Ints wr wr.heap.size (some ⟨tb, toff, none⟩) t) := Lib.hid fun wr h => ⟨by omega, .inr ⟨tb, toff, rfl, Nat.lt_of_lt_of_le htb h.size, fun j hj => by rw [h.cell (p := ⟨tb, toff + j, none⟩) htb]; exact htc j hj⟩⟩
  have I2 : Hid (∀ wr, Below w.heap.size w wr → Ints wr wr.heap.size (some ⟨lb, loff, none⟩) l) := Lib.hid fun wr h => ⟨by omega, .inr ⟨lb, loff, rfl, Nat.lt_of_lt_of_le hlb h.size, fun j hj => by rw [h.cell (p := ⟨lb, loff + j, none⟩) hlb]; exact hlc j hj⟩⟩
  have O0 := Lib.hid (own_at' (w.alloc (.cells #[.slice (some ⟨tb, toff, none⟩) 8 cA, .slice (some ⟨lb, loff, none⟩) 4 cB, .int .i64 k, .bool b1, .bool b2] 26)) w.heap.size (w.heap.size + 1) [] (by simp) (by simp) (by simp))
  have cy : ((w.alloc (.cells #[.slice (some ⟨tb, toff, none⟩) 8 cA, .slice (some ⟨lb, loff, none⟩) 4 cB, .int .i64 k, .bool b1, .bool b2] 26)).alloc (.cells (ivs []).toArray 3)).cell? ⟨lb, loff + y, none⟩ = some (.int .i64 (l.getD y 0)) := by rw [bt.cell (p := ⟨lb, loff + y, none⟩) hlb]; exact hlc y (by omega)
  have cyw := hlc y (by omega)
  obtain ⟨u, hu⟩ : ∃ u, u = l.getD y 0 := ⟨_, rfl⟩
  rw [← hu] at cy cyw
  have hyi : (y : Int) < 4 := by omega
  clear hu bt htc hlc ht hl
  go_enter Try.func68, Try.ntmps68
  go_wp2_with fail
  refine (MN.out _ (I1.out _ BT.out) (I2.out _ BT.out)).mono ?_
  rintro e w1 ⟨rfl, hb1⟩
  have B1 := Lib.hid (below_up BT.out hb1 BT.out.size); have O1 := Lib.hid (O0.out.kept hb1 (Nat.le_refl _))
  clear hb1
  go_wp2
  go_loopw [11, 13] (fun v9 i wr => ∃ j : Nat, j ≤ 4 ∧ i = .int .i64 j ∧ wr.ownsRow w.heap.size 3 1 v9 j (ivs (List.replicate j v0)) ∧ Below w.heap.size w wr)
    (fun _ i _ => 4 - (intOf i).toNat)
  case atStart => exact ⟨0, Nat.zero_le _, rfl, O1.out, B1.out⟩
  case round =>
    obtain ⟨j, hj, rfl, hown, hbel⟩ := hrel
    by_cases hlt : j < 4
    · have d1 : decide ((j : Int) < 4) = true := by simp; omega
      have hnx : List.replicate (j + 1) v0 = List.replicate j v0 ++ [v0] := List.replicate_succ'
      have HX := Lib.hid hnx; have HBB := Lib.hid hbel; have O3 := hown
      clear hnx hown hbel
      go_wp2_with (at_builtin; refine append_int wr rfl (.tmp 64) (.tmp 66) 24 rfl w.heap.size 3 i0 Try.underlying24 hi hz0 hz1 hz2 _ _ _ rfl O3 _ rfl rfl (by omega) HBB.out.size ?_; intro v' w' hown' hgr hvb)
      have HO' := Lib.hid hown'; have HG := Lib.hid hgr; have HL' := Lib.hid O3.lt
      clear hown' hgr hvb O3
      go_roundw
      case rel => exact ⟨j + 1, by omega, by go_num, by rw [HX.out]; exact HO'.out, HBB.out.grown HG.out HBB.out.size fun k hk => (HL'.out k hk).1⟩
      case measure => simp [intOf]; omega
    · obtain rfl : j = 4 := by omega
      obtain ⟨A3, c3, hv3, ho3⟩ := own_slice hown
      rw [List.length_replicate] at hv3
      subst hv3
      have I3 := Lib.hid (ho3.ints (by rw [List.length_replicate]; decide)); have P3 := Lib.hid ho3.placed; have B3 := Lib.hid hbel
      clear hown hbel ho3
      go_wp2
      go_ret
      exact ⟨_, _, rfl, I3.out, P3.out, B3.out⟩

set_option maxRecDepth 100000 in
set_option maxHeartbeats 4000000 in
theorem l17row_4_1 (tb toff : Nat) (cA : Nat) (lb loff : Nat) (cB : Nat) (SA : Option Addr) (sn sc : Nat) (t l : List Int) (k : Int) (b1 b2 : Bool) (y : Nat) (hy : y < 4) (ht : t.length = 8) (hl : l.length = 4) (hcA : 8 ≤ cA) (w : World) (htb : tb < w.heap.size) (hlb : lb < w.heap.size)
    (htc : ∀ j, j < t.length → w.cell? ⟨tb, toff + j, none⟩ = some (.int .i64 (t.getD j 0))) (hlc : ∀ j, j < l.length → w.cell? ⟨lb, loff + j, none⟩ = some (.int .i64 (l.getD j 0))) :
    Calls Try.prog 68 #[.int .i64 1, .agg #[.slice (some ⟨tb, toff, none⟩) 8 cA, .slice (some ⟨lb, loff, none⟩) 4 cB, .int .i64 k, .bool b1, .bool b2], .int .i64 4, .int .i64 y, .slice SA sn sc] w fun e w' => ∃ A' c, e = .returned (.slice A' 4 c) ∧ Ints w' w'.heap.size A' (t.take 4) ∧ Placed A' c ∧ Below w.heap.size w w' := by
  have HK := Lib.hid (heap_alloc_new w (.cells #[.slice (some ⟨tb, toff, none⟩) 8 cA, .slice (some ⟨lb, loff, none⟩) 4 cB, .int .i64 k, .bool b1, .bool b2] 26))
  have BW := Lib.hid (below_new w (.cells #[.slice (some ⟨tb, toff, none⟩) 8 cA, .slice (some ⟨lb, loff, none⟩) 4 cB, .int .i64 k, .bool b1, .bool b2] 26))
  have bt := below_two w (.cells #[.slice (some ⟨tb, toff, none⟩) 8 cA, .slice (some ⟨lb, loff, none⟩) 4 cB, .int .i64 k, .bool b1, .bool b2] 26) (.cells (ivs []).toArray 3)
  have BT := Lib.hid bt
  have hcA1 : (4 : Int) ≤ (cA : Int) := by omega
  have I1 := Lib.hid (ints_take (w := (w.alloc (.cells #[.slice (some ⟨tb, toff, none⟩) 8 cA, .slice (some ⟨lb, loff, none⟩) 4 cB, .int .i64 k, .bool b1, .bool b2] 26)).alloc (.cells (ivs []).toArray 3)) (g := ((w.alloc (.cells #[.slice (some ⟨tb, toff, none⟩) 8 cA, .slice (some ⟨lb, loff, none⟩) 4 cB, .int .i64 k, .bool b1, .bool b2] 26)).alloc (.cells (ivs []).toArray 3)).heap.size) (b := tb) (off := toff) (l := t) (n := 4) (by omega) (by decide) (Nat.lt_of_lt_of_le htb bt.size) (fun j hj => by rw [bt.cell (p := ⟨tb, toff + j, none⟩) htb]; exact htc j hj))
  clear bt htc hlc ht hl
  go_enter Try.func68, Try.ntmps68
  go_wp2
  go_ret
  exact ⟨_, _, rfl, I1.out, (fun h => by cases h), BT.out⟩

set_option maxRecDepth 100000 in
set_option maxHeartbeats 4000000 in
theorem l17row_4_2 (tb toff : Nat) (cA : Nat) (lb loff : Nat) (cB : Nat) (SA : Option Addr) (sn sc : Nat) (t l : List Int) (k : Int) (b1 b2 : Bool) (y : Nat) (hy : y < 4) (ht : t.length = 8) (hl : l.length = 4) (hcA : 8 ≤ cA) (w : World) (htb : tb < w.heap.size) (hlb : lb < w.heap.size)
    (htc : ∀ j, j < t.length → w.cell? ⟨tb, toff + j, none⟩ = some (.int .i64 (t.getD j 0))) (hlc : ∀ j, j < l.length → w.cell? ⟨lb, loff + j, none⟩ = some (.int .i64 (l.getD j 0))) :
    Calls Try.prog 68 #[.int .i64 2, .agg #[.slice (some ⟨tb, toff, none⟩) 8 cA, .slice (some ⟨lb, loff, none⟩) 4 cB, .int .i64 k, .bool b1, .bool b2], .int .i64 4, .int .i64 y, .slice SA sn sc] w fun e w' => ∃ A' c, e = .returned (.slice A' 4 c) ∧ Ints w' w'.heap.size A' (List.replicate 4 (l.getD y 0)) ∧ Placed A' c ∧ Below w.heap.size w w' := by
  have HK := Lib.hid (heap_alloc_new w (.cells #[.slice (some ⟨tb, toff, none⟩) 8 cA, .slice (some ⟨lb, loff, none⟩) 4 cB, .int .i64 k, .bool b1, .bool b2] 26))
  have BW := Lib.hid (below_new w (.cells #[.slice (some ⟨tb, toff, none⟩) 8 cA, .slice (some ⟨lb, loff, none⟩) 4 cB, .int .i64 k, .bool b1, .bool b2] 26))
  have bt := below_two w (.cells #[.slice (some ⟨tb, toff, none⟩) 8 cA, .slice (some ⟨lb, loff, none⟩) 4 cB, .int .i64 k, .bool b1, .bool b2] 26) (.cells (ivs []).toArray 3)
  have BT := Lib.hid bt
  obtain ⟨i0, hi, hz0, hz1, hz2⟩ := info_parts Try.iinfo
  have I1 : Hid (∀ wr, Below w.heap.size w wr → Ints wr wr.heap.size (some ⟨tb, toff, none⟩) t) := Lib.hid fun wr h => ⟨by omega, .inr ⟨tb, toff, rfl, Nat.lt_of_lt_of_le htb h.size, fun j hj => by rw [h.cell (p := ⟨tb, toff + j, none⟩) htb]; exact htc j hj⟩⟩
  have I2 : Hid (∀ wr, Below w.heap.size w wr → Ints wr wr.heap.size (some ⟨lb, loff, none⟩) l) := Lib.hid fun wr h => ⟨by omega, .inr ⟨lb, loff, rfl, Nat.lt_of_lt_of_le hlb h.size, fun j hj => by rw [h.cell (p := ⟨lb, loff + j, none⟩) hlb]; exact hlc j hj⟩⟩
  have O0 := Lib.hid (own_at' (w.alloc (.cells #[.slice (some ⟨tb, toff, none⟩) 8 cA, .slice (some ⟨lb, loff, none⟩) 4 cB, .int .i64 k, .bool b1, .bool b2] 26)) w.heap.size (w.heap.size + 1) [] (by simp) (by simp) (by simp))
  have cy : ((w.alloc (.cells #[.slice (some ⟨tb, toff, none⟩) 8 cA, .slice (some ⟨lb, loff, none⟩) 4 cB, .int .i64 k, .bool b1, .bool b2] 26)).alloc (.cells (ivs []).toArray 3)).cell? ⟨lb, loff + y, none⟩ = some (.int .i64 (l.getD y 0)) := by rw [bt.cell (p := ⟨lb, loff + y, none⟩) hlb]; exact hlc y (by omega)
  have cyw := hlc y (by omega)
  obtain ⟨u, hu⟩ : ∃ u, u = l.getD y 0 := ⟨_, rfl⟩
  rw [← hu] at cy cyw
  rw [← hu]
  have hyi : (y : Int) < 4 := by omega
  clear hu bt htc hlc ht hl
  go_enter Try.func68, Try.ntmps68
  go_wp2
  go_loopw [11, 13] (fun v9 i wr => ∃ j : Nat, j ≤ 4 ∧ i = .int .i64 j ∧ wr.ownsRow w.heap.size 3 1 v9 j (ivs (List.replicate j u)) ∧ Below w.heap.size w wr)
    (fun _ i _ => 4 - (intOf i).toNat)
  case atStart => exact ⟨0, Nat.zero_le _, rfl, O0.out, BT.out⟩
  case round =>
    obtain ⟨j, hj, rfl, hown, hbel⟩ := hrel
    by_cases hlt : j < 4
    · have d1 : decide ((j : Int) < 4) = true := by simp; omega
      have hnx : List.replicate (j + 1) u = List.replicate j u ++ [u] := List.replicate_succ'
      have HX := Lib.hid hnx; have HBB := Lib.hid hbel; have O3 := hown
      clear hnx hown hbel
      go_wp2_with (at_builtin; refine append_int wr rfl (.tmp 64) (.tmp 66) 24 rfl w.heap.size 3 i0 Try.underlying24 hi hz0 hz1 hz2 _ _ _ rfl O3 _ rfl rfl (by omega) HBB.out.size ?_; intro v' w' hown' hgr hvb)
      have HO' := Lib.hid hown'; have HG := Lib.hid hgr; have HL' := Lib.hid O3.lt
      clear hown' hgr hvb O3
      go_roundw
      case rel => exact ⟨j + 1, by omega, by go_num, by rw [HX.out]; exact HO'.out, HBB.out.grown HG.out HBB.out.size fun k hk => (HL'.out k hk).1⟩
      case measure => simp [intOf]; omega
    · obtain rfl : j = 4 := by omega
      obtain ⟨A3, c3, hv3, ho3⟩ := own_slice hown
      rw [List.length_replicate] at hv3
      subst hv3
      have I3 := Lib.hid (ho3.ints (by rw [List.length_replicate]; decide)); have P3 := Lib.hid ho3.placed; have B3 := Lib.hid hbel
      clear hown hbel ho3
      go_wp2
      go_ret
      exact ⟨_, _, rfl, I3.out, P3.out, B3.out⟩

set_option maxRecDepth 100000 in
set_option maxHeartbeats 4000000 in
theorem l17row_4_3 (tb toff : Nat) (cA : Nat) (lb loff : Nat) (cB : Nat) (SA : Option Addr) (sn sc : Nat) (t l : List Int) (k : Int) (b1 b2 : Bool) (y : Nat) (hy : y < 4) (ht : t.length = 8) (hl : l.length = 4) (hcA : 8 ≤ cA) (w : World) (htb : tb < w.heap.size) (hlb : lb < w.heap.size)
    (htc : ∀ j, j < t.length → w.cell? ⟨tb, toff + j, none⟩ = some (.int .i64 (t.getD j 0))) (hlc : ∀ j, j < l.length → w.cell? ⟨lb, loff + j, none⟩ = some (.int .i64 (l.getD j 0)))
    (SR : Hid (∀ w, Ints w w.heap.size (some ⟨tb, toff, none⟩) t → Ints w w.heap.size (some ⟨lb, loff, none⟩) l → Calls Try.prog 27 #[.agg #[.slice (some ⟨tb, toff, none⟩) 8 cA, .slice (some ⟨lb, loff, none⟩) 4 cB, .int .i64 k, .bool b1, .bool b2], .int .i64 4, .int .i64 y] w fun e w' => ∃ A' c, e = .returned (.slice A' 4 c) ∧ OwnI w' w.heap.size A' c (slF t l k 4 y) ∧ Below w.heap.size w w')) :
    Calls Try.prog 68 #[.int .i64 3, .agg #[.slice (some ⟨tb, toff, none⟩) 8 cA, .slice (some ⟨lb, loff, none⟩) 4 cB, .int .i64 k, .bool b1, .bool b2], .int .i64 4, .int .i64 y, .slice SA sn sc] w fun e w' => ∃ A' c, e = .returned (.slice A' 4 c) ∧ Ints w' w'.heap.size A' (slF t l k 4 y) ∧ Placed A' c ∧ Below w.heap.size w w' := by
  have HK := Lib.hid (heap_alloc_new w (.cells #[.slice (some ⟨tb, toff, none⟩) 8 cA, .slice (some ⟨lb, loff, none⟩) 4 cB, .int .i64 k, .bool b1, .bool b2] 26))
  have BW := Lib.hid (below_new w (.cells #[.slice (some ⟨tb, toff, none⟩) 8 cA, .slice (some ⟨lb, loff, none⟩) 4 cB, .int .i64 k, .bool b1, .bool b2] 26))
  have bt := below_two w (.cells #[.slice (some ⟨tb, toff, none⟩) 8 cA, .slice (some ⟨lb, loff, none⟩) 4 cB, .int .i64 k, .bool b1, .bool b2] 26) (.cells (ivs []).toArray 3)
  have BT := Lib.hid bt
  have I1 : Hid (∀ wr, Below w.heap.size w wr → Ints wr wr.heap.size (some ⟨tb, toff, none⟩) t) := Lib.hid fun wr h => ⟨by omega, .inr ⟨tb, toff, rfl, Nat.lt_of_lt_of_le htb h.size, fun j hj => by rw [h.cell (p := ⟨tb, toff + j, none⟩) htb]; exact htc j hj⟩⟩
  have I2 : Hid (∀ wr, Below w.heap.size w wr → Ints wr wr.heap.size (some ⟨lb, loff, none⟩) l) := Lib.hid fun wr h => ⟨by omega, .inr ⟨lb, loff, rfl, Nat.lt_of_lt_of_le hlb h.size, fun j hj => by rw [h.cell (p := ⟨lb, loff + j, none⟩) hlb]; exact hlc j hj⟩⟩
  have hfl := slF_len t l k 4 y
  obtain ⟨z, hz⟩ : ∃ z, z = slF t l k 4 y := ⟨_, rfl⟩
  rw [← hz] at SR hfl ⊢
  clear hz bt htc hlc ht hl
  go_enter Try.func68, Try.ntmps68
  go_wp2_with fail
  refine (SR.out _ (I1.out _ BT.out) (I2.out _ BT.out)).mono ?_
  rintro e w1 ⟨A1, c1, rfl, ho, hb1⟩
  have B1 := Lib.hid (below_up BT.out hb1 BT.out.size)
  have I3 := Lib.hid (ho.ints (by omega)); have P3 := Lib.hid ho.placed
  clear ho hb1
  go_wp2
  go_ret
  exact ⟨_, _, rfl, I3.out, P3.out, B1.out⟩

set_option maxRecDepth 100000 in
set_option maxHeartbeats 4000000 in
theorem l17row_4_4 (tb toff : Nat) (cA : Nat) (lb loff : Nat) (cB : Nat) (sb soff sc : Nat) (S : List Int) (hS : S.length = 7) (hsc : 7 ≤ sc) (t l : List Int) (k : Int) (b1 b2 : Bool) (y : Nat) (hy : y < 4) (ht : t.length = 8) (hl : l.length = 4) (hcA : 8 ≤ cA) (w : World) (htb : tb < w.heap.size) (hlb : lb < w.heap.size)
    (htc : ∀ j, j < t.length → w.cell? ⟨tb, toff + j, none⟩ = some (.int .i64 (t.getD j 0))) (hlc : ∀ j, j < l.length → w.cell? ⟨lb, loff + j, none⟩ = some (.int .i64 (l.getD j 0))) (hsb : sb < w.heap.size) (hsv : ∀ j, j < S.length → w.cell? ⟨sb, soff + j, none⟩ = some (.int .i64 (S.getD j 0))) :
    Calls Try.prog 68 #[.int .i64 4, .agg #[.slice (some ⟨tb, toff, none⟩) 8 cA, .slice (some ⟨lb, loff, none⟩) 4 cB, .int .i64 k, .bool b1, .bool b2], .int .i64 4, .int .i64 y, .slice (some ⟨sb, soff, none⟩) 7 sc] w fun e w' => ∃ A' c, e = .returned (.slice A' 4 c) ∧ Ints w' w'.heap.size A' ((S.drop (y)).take 4) ∧ Placed A' c ∧ Below w.heap.size w w' := by
  have HK := Lib.hid (heap_alloc_new w (.cells #[.slice (some ⟨tb, toff, none⟩) 8 cA, .slice (some ⟨lb, loff, none⟩) 4 cB, .int .i64 k, .bool b1, .bool b2] 26))
  have BW := Lib.hid (below_new w (.cells #[.slice (some ⟨tb, toff, none⟩) 8 cA, .slice (some ⟨lb, loff, none⟩) 4 cB, .int .i64 k, .bool b1, .bool b2] 26))
  have bt := below_two w (.cells #[.slice (some ⟨tb, toff, none⟩) 8 cA, .slice (some ⟨lb, loff, none⟩) 4 cB, .int .i64 k, .bool b1, .bool b2] 26) (.cells (ivs []).toArray 3)
  have BT := Lib.hid bt
  have ha8 : y + 4 ≤ 7 := by omega
  have hne : ¬ sc = y := by omega
  have ha0 : (y : Int) ≤ (y : Int) + 4 := by omega
  have ha1 : (y : Int) + 4 ≤ (sc : Int) := by omega
  have ha2 : y + 4 ≤ sc := by omega
  have haw : IntKind.i64.wrap ((y : Int) + 4) = (y : Int) + 4 := IntWalk.i64_in _ (by omega)
  have hat : ((y : Int) + 4).toNat = y + 4 := by omega
  have had : y + 4 - y = 4 := by omega
  have I1 : Hid (Ints ((w.alloc (.cells #[.slice (some ⟨tb, toff, none⟩) 8 cA, .slice (some ⟨lb, loff, none⟩) 4 cB, .int .i64 k, .bool b1, .bool b2] 26)).alloc (.cells (ivs []).toArray 3)) ((w.alloc (.cells #[.slice (some ⟨tb, toff, none⟩) 8 cA, .slice (some ⟨lb, loff, none⟩) 4 cB, .int .i64 k, .bool b1, .bool b2] 26)).alloc (.cells (ivs []).toArray 3)).heap.size (some ⟨sb, soff + y, none⟩) ((S.drop y).take 4)) := Lib.hid (by
    refine ⟨by rw [List.length_take]; omega, .inr ⟨sb, soff + y, rfl, Nat.lt_of_lt_of_le hsb bt.size, fun j hj => ?_⟩⟩
    rw [List.length_take, List.length_drop] at hj
    rw [bt.cell (p := ⟨sb, soff + y + j, none⟩) hsb, Nat.add_assoc, hsv (y + j) (by omega), drop_take_at (by omega)])
  clear bt htc hlc ht hl hsv hS
  go_enter Try.func68, Try.ntmps68
  go_wp2
  go_ret
  exact ⟨_, _, rfl, I1.out, (fun h => by cases h), BT.out⟩

set_option maxRecDepth 100000 in
set_option maxHeartbeats 4000000 in
theorem l17row_4_5 (tb toff : Nat) (cA : Nat) (lb loff : Nat) (cB : Nat) (sb soff sc : Nat) (S : List Int) (hS : S.length = 7) (hsc : 7 ≤ sc) (t l : List Int) (k : Int) (b1 b2 : Bool) (y : Nat) (hy : y < 4) (ht : t.length = 8) (hl : l.length = 4) (hcA : 8 ≤ cA) (w : World) (htb : tb < w.heap.size) (hlb : lb < w.heap.size)
    (htc : ∀ j, j < t.length → w.cell? ⟨tb, toff + j, none⟩ = some (.int .i64 (t.getD j 0))) (hlc : ∀ j, j < l.length → w.cell? ⟨lb, loff + j, none⟩ = some (.int .i64 (l.getD j 0))) (hsb : sb < w.heap.size) (hsv : ∀ j, j < S.length → w.cell? ⟨sb, soff + j, none⟩ = some (.int .i64 (S.getD j 0))) :
    Calls Try.prog 68 #[.int .i64 5, .agg #[.slice (some ⟨tb, toff, none⟩) 8 cA, .slice (some ⟨lb, loff, none⟩) 4 cB, .int .i64 k, .bool b1, .bool b2], .int .i64 4, .int .i64 y, .slice (some ⟨sb, soff, none⟩) 7 sc] w fun e w' => ∃ A' c, e = .returned (.slice A' 4 c) ∧ Ints w' w'.heap.size A' ((S.drop (3 - y)).take 4) ∧ Placed A' c ∧ Below w.heap.size w w' := by
  have HK := Lib.hid (heap_alloc_new w (.cells #[.slice (some ⟨tb, toff, none⟩) 8 cA, .slice (some ⟨lb, loff, none⟩) 4 cB, .int .i64 k, .bool b1, .bool b2] 26))
  have BW := Lib.hid (below_new w (.cells #[.slice (some ⟨tb, toff, none⟩) 8 cA, .slice (some ⟨lb, loff, none⟩) 4 cB, .int .i64 k, .bool b1, .bool b2] 26))
  have bt := below_two w (.cells #[.slice (some ⟨tb, toff, none⟩) 8 cA, .slice (some ⟨lb, loff, none⟩) 4 cB, .int .i64 k, .bool b1, .bool b2] 26) (.cells (ivs []).toArray 3)
  have BT := Lib.hid bt
  obtain ⟨a, ha⟩ : ∃ a, a = 3 - y := ⟨_, rfl⟩
  rw [← ha]
  have ha8 : a + 4 ≤ 7 := by omega
  have hai : (3 : Int) - (y : Int) = (a : Int) := by omega
  have hai2 : (7 : Int) - (y : Int) = (a : Int) + 4 := by omega
  clear ha
  have hne : ¬ sc = a := by omega
  have ha0 : (a : Int) ≤ (a : Int) + 4 := by omega
  have ha1 : (a : Int) + 4 ≤ (sc : Int) := by omega
  have ha2 : a + 4 ≤ sc := by omega
  have haw : IntKind.i64.wrap ((a : Int) + 4) = (a : Int) + 4 := IntWalk.i64_in _ (by omega)
  have hat : ((a : Int) + 4).toNat = a + 4 := by omega
  have had : a + 4 - a = 4 := by omega
  have I1 : Hid (Ints ((w.alloc (.cells #[.slice (some ⟨tb, toff, none⟩) 8 cA, .slice (some ⟨lb, loff, none⟩) 4 cB, .int .i64 k, .bool b1, .bool b2] 26)).alloc (.cells (ivs []).toArray 3)) ((w.alloc (.cells #[.slice (some ⟨tb, toff, none⟩) 8 cA, .slice (some ⟨lb, loff, none⟩) 4 cB, .int .i64 k, .bool b1, .bool b2] 26)).alloc (.cells (ivs []).toArray 3)).heap.size (some ⟨sb, soff + a, none⟩) ((S.drop a).take 4)) := Lib.hid (by
    refine ⟨by rw [List.length_take]; omega, .inr ⟨sb, soff + a, rfl, Nat.lt_of_lt_of_le hsb bt.size, fun j hj => ?_⟩⟩
    rw [List.length_take, List.length_drop] at hj
    rw [bt.cell (p := ⟨sb, soff + a + j, none⟩) hsb, Nat.add_assoc, hsv (a + j) (by omega), drop_take_at (by omega)])
  clear bt htc hlc ht hl hsv hS
  go_enter Try.func68, Try.ntmps68
  go_wp2
  go_ret
  exact ⟨_, _, rfl, I1.out, (fun h => by cases h), BT.out⟩

set_option maxRecDepth 100000 in
set_option maxHeartbeats 4000000 in
theorem l17row_8_0 (tb toff : Nat) (cA : Nat) (lb loff : Nat) (cB : Nat) (SA : Option Addr) (sn sc : Nat) (t l : List Int) (k : Int) (b1 b2 : Bool) (y : Nat) (hy : y < 8) (ht : t.length = 16) (hl : l.length = 8) (hcA : 16 ≤ cA) (w : World) (htb : tb < w.heap.size) (hlb : lb < w.heap.size)
    (htc : ∀ j, j < t.length → w.cell? ⟨tb, toff + j, none⟩ = some (.int .i64 (t.getD j 0))) (hlc : ∀ j, j < l.length → w.cell? ⟨lb, loff + j, none⟩ = some (.int .i64 (l.getD j 0)))
    (v0 : Int) (MN : Hid (∀ w, Ints w w.heap.size (some ⟨tb, toff, none⟩) t → Ints w w.heap.size (some ⟨lb, loff, none⟩) l → Calls Try.prog 78 #[.agg #[.slice (some ⟨tb, toff, none⟩) 16 cA, .slice (some ⟨lb, loff, none⟩) 8 cB, .int .i64 k, .bool b1, .bool b2], .int .i64 8] w fun e w' => e = .returned (.int .i64 v0) ∧ Below w.heap.size w w')) :
    Calls Try.prog 68 #[.int .i64 0, .agg #[.slice (some ⟨tb, toff, none⟩) 16 cA, .slice (some ⟨lb, loff, none⟩) 8 cB, .int .i64 k, .bool b1, .bool b2], .int .i64 8, .int .i64 y, .slice SA sn sc] w fun e w' => ∃ A' c, e = .returned (.slice A' 8 c) ∧ Ints w' w'.heap.size A' (List.replicate 8 (v0)) ∧ Placed A' c ∧ Below w.heap.size w w' := by
  have HK := Lib.hid (heap_alloc_new w (.cells #[.slice (some ⟨tb, toff, none⟩) 16 cA, .slice (some ⟨lb, loff, none⟩) 8 cB, .int .i64 k, .bool b1, .bool b2] 26))
  have BW := Lib.hid (below_new w (.cells #[.slice (some ⟨tb, toff, none⟩) 16 cA, .slice (some ⟨lb, loff, none⟩) 8 cB, .int .i64 k, .bool b1, .bool b2] 26))
  have bt := below_two w (.cells #[.slice (some ⟨tb, toff, none⟩) 16 cA, .slice (some ⟨lb, loff, none⟩) 8 cB, .int .i64 k, .bool b1, .bool b2] 26) (.cells (ivs []).toArray 3)
  have BT := Lib.hid bt
  obtain ⟨i0, hi, hz0, hz1, hz2⟩ := info_parts Try.iinfo
  have I1 : Hid (∀ wr, Below w.heap.size w wr → Ints wr wr.heap.size (some ⟨tb, toff, none⟩) t) := Lib.hid fun wr h => ⟨by omega, .inr ⟨tb, toff, rfl, Nat.lt_of_lt_of_le htb h.size, fun j hj => by rw [h.cell (p := ⟨tb, toff + j, none⟩) htb]; exact htc j hj⟩⟩
  have I2 : Hid (∀ wr, Below w.heap.size w wr → Ints wr wr.heap.size (some ⟨lb, loff, none⟩) l) := Lib.hid fun wr h => ⟨by omega, .inr ⟨lb, loff, rfl, Nat.lt_of_lt_of_le hlb h.size, fun j hj => by rw [h.cell (p := ⟨lb, loff + j, none⟩) hlb]; exact hlc j hj⟩⟩
  have O0 := Lib.hid (own_at' (w.alloc (.cells #[.slice (some ⟨tb, toff, none⟩) 16 cA, .slice (some ⟨lb, loff, none⟩) 8 cB, .int .i64 k, .bool b1, .bool b2] 26)) w.heap.size (w.heap.size + 1) [] (by simp) (by simp) (by simp))
  have cy : ((w.alloc (.cells #[.slice (some ⟨tb, toff, none⟩) 16 cA, .slice (some ⟨lb, loff, none⟩) 8 cB, .int .i64 k, .bool b1, .bool b2] 26)).alloc (.cells (ivs []).toArray 3)).cell? ⟨lb, loff + y, none⟩ = some (.int .i64 (l.getD y 0)) := by rw [bt.cell (p := ⟨lb, loff + y, none⟩) hlb]; exact hlc y (by omega)
  have cyw := hlc y (by omega)
  obtain ⟨u, hu⟩ : ∃ u, u = l.getD y 0 := ⟨_, rfl⟩
  rw [← hu] at cy cyw
  have hyi : (y : Int) < 8 := by omega
  clear hu bt htc hlc ht hl
  go_enter Try.func68, Try.ntmps68
  go_wp2_with fail
  refine (MN.out _ (I1.out _ BT.out) (I2.out _ BT.out)).mono ?_
  rintro e w1 ⟨rfl, hb1⟩
  have B1 := Lib.hid (below_up BT.out hb1 BT.out.size); have O1 := Lib.hid (O0.out.kept hb1 (Nat.le_refl _))
  clear hb1
  go_wp2
  go_loopw [11, 13] (fun v9 i wr => ∃ j : Nat, j ≤ 8 ∧ i = .int .i64 j ∧ wr.ownsRow w.heap.size 3 1 v9 j (ivs (List.replicate j v0)) ∧ Below w.heap.size w wr)
    (fun _ i _ => 8 - (intOf i).toNat)
  case atStart => exact ⟨0, Nat.zero_le _, rfl, O1.out, B1.out⟩
  case round =>
    obtain ⟨j, hj, rfl, hown, hbel⟩ := hrel
    by_cases hlt : j < 8
    · have d1 : decide ((j : Int) < 8) = true := by simp; omega
      have hnx : List.replicate (j + 1) v0 = List.replicate j v0 ++ [v0] := List.replicate_succ'
      have HX := Lib.hid hnx; have HBB := Lib.hid hbel; have O3 := hown
      clear hnx hown hbel
      go_wp2_with (at_builtin; refine append_int wr rfl (.tmp 64) (.tmp 66) 24 rfl w.heap.size 3 i0 Try.underlying24 hi hz0 hz1 hz2 _ _ _ rfl O3 _ rfl rfl (by omega) HBB.out.size ?_; intro v' w' hown' hgr hvb)
      have HO' := Lib.hid hown'; have HG := Lib.hid hgr; have HL' := Lib.hid O3.lt
      clear hown' hgr hvb O3
      go_roundw
      case rel => exact ⟨j + 1, by omega, by go_num, by rw [HX.out]; exact HO'.out, HBB.out.grown HG.out HBB.out.size fun k hk => (HL'.out k hk).1⟩
      case measure => simp [intOf]; omega
    · obtain rfl : j = 8 := by omega
      obtain ⟨A3, c3, hv3, ho3⟩ := own_slice hown
      rw [List.length_replicate] at hv3
      subst hv3
      have I3 := Lib.hid (ho3.ints (by rw [List.length_replicate]; decide)); have P3 := Lib.hid ho3.placed; have B3 := Lib.hid hbel
      clear hown hbel ho3
      go_wp2
      go_ret
      exact ⟨_, _, rfl, I3.out, P3.out, B3.out⟩

set_option maxRecDepth 100000 in
set_option maxHeartbeats 4000000 in
theorem l17row_8_1 (tb toff : Nat) (cA : Nat) (lb loff : Nat) (cB : Nat) (SA : Option Addr) (sn sc : Nat) (t l : List Int) (k : Int) (b1 b2 : Bool) (y : Nat) (hy : y < 8) (ht : t.length = 16) (hl : l.length = 8) (hcA : 16 ≤ cA) (w : World) (htb : tb < w.heap.size) (hlb : lb < w.heap.size)
    (htc : ∀ j, j < t.length → w.cell? ⟨tb, toff + j, none⟩ = some (.int .i64 (t.getD j 0))) (hlc : ∀ j, j < l.length → w.cell? ⟨lb, loff + j, none⟩ = some (.int .i64 (l.getD j 0))) :
    Calls Try.prog 68 #[.int .i64 1, .agg #[.slice (some ⟨tb, toff, none⟩) 16 cA, .slice (some ⟨lb, loff, none⟩) 8 cB, .int .i64 k, .bool b1, .bool b2], .int .i64 8, .int .i64 y, .slice SA sn sc] w fun e w' => ∃ A' c, e = .returned (.slice A' 8 c) ∧ Ints w' w'.heap.size A' (t.take 8) ∧ Placed A' c ∧ Below w.heap.size w w' := by
  have HK := Lib.hid (heap_alloc_new w (.cells #[.slice (some ⟨tb, toff, none⟩) 16 cA, .slice (some ⟨lb, loff, none⟩) 8 cB, .int .i64 k, .bool b1, .bool b2] 26))
  have BW := Lib.hid (below_new w (.cells #[.slice (some ⟨tb, toff, none⟩) 16 cA, .slice (some ⟨lb, loff, none⟩) 8 cB, .int .i64 k, .bool b1, .bool b2] 26))
  have bt := below_two w (.cells #[.slice (some ⟨tb, toff, none⟩) 16 cA, .slice (some ⟨lb, loff, none⟩) 8 cB, .int .i64 k, .bool b1, .bool b2] 26) (.cells (ivs []).toArray 3)
  have BT := Lib.hid bt
  have hcA1 : (8 : Int) ≤ (cA : Int) := by omega
  have I1 := Lib.hid (ints_take (w := (w.alloc (.cells #[.slice (some ⟨tb, toff, none⟩) 16 cA, .slice (some ⟨lb, loff, none⟩) 8 cB, .int .i64 k, .bool b1, .bool b2] 26)).alloc (.cells (ivs []).toArray 3)) (g := ((w.alloc (.cells #[.slice (some ⟨tb, toff, none⟩) 16 cA, .slice (some ⟨lb, loff, none⟩) 8 cB, .int .i64 k, .bool b1, .bool b2] 26)).alloc (.cells (ivs []).toArray 3)).heap.size) (b := tb) (off := toff) (l := t) (n := 8) (by omega) (by decide) (Nat.lt_of_lt_of_le htb bt.size) (fun j hj => by rw [bt.cell (p := ⟨tb, toff + j, none⟩) htb]; exact htc j hj))
  clear bt htc hlc ht hl
  go_enter Try.func68, Try.ntmps68
  go_wp2
  go_ret
  exact ⟨_, _, rfl, I1.out, (fun h => by cases h), BT.out⟩

set_option maxRecDepth 100000 in
set_option maxHeartbeats 4000000 in
theorem l17row_8_2 (tb toff : Nat) (cA : Nat) (lb loff : Nat) (cB : Nat) (SA : Option Addr) (sn sc : Nat) (t l : List Int) (k : Int) (b1 b2 : Bool) (y : Nat) (hy : y < 8) (ht : t.length = 16) (hl : l.length = 8) (hcA : 16 ≤ cA) (w : World) (htb : tb < w.heap.size) (hlb : lb < w.heap.size)
    (htc : ∀ j, j < t.length → w.cell? ⟨tb, toff + j, none⟩ = some (.int .i64 (t.getD j 0))) (hlc : ∀ j, j < l.length → w.cell? ⟨lb, loff + j, none⟩ = some (.int .i64 (l.getD j 0))) :
    Calls Try.prog 68 #[.int .i64 2, .agg #[.slice (some ⟨tb, toff, none⟩) 16 cA, .slice (some ⟨lb, loff, none⟩) 8 cB, .int .i64 k, .bool b1, .bool b2], .int .i64 8, .int .i64 y, .slice SA sn sc] w fun e w' => ∃ A' c, e = .returned (.slice A' 8 c) ∧ Ints w' w'.heap.size A' (List.replicate 8 (l.getD y 0)) ∧ Placed A' c ∧ Below w.heap.size w w' := by
  have HK := Lib.hid (heap_alloc_new w (.cells #[.slice (some ⟨tb, toff, none⟩) 16 cA, .slice (some ⟨lb, loff, none⟩) 8 cB, .int .i64 k, .bool b1, .bool b2] 26))
  have BW := Lib.hid (below_new w (.cells #[.slice (some ⟨tb, toff, none⟩) 16 cA, .slice (some ⟨lb, loff, none⟩) 8 cB, .int .i64 k, .bool b1, .bool b2] 26))
  have bt := below_two w (.cells #[.slice (some ⟨tb, toff, none⟩) 16 cA, .slice (some ⟨lb, loff, none⟩) 8 cB, .int .i64 k, .bool b1, .bool b2] 26) (.cells (ivs []).toArray 3)
  have BT := Lib.hid bt
  obtain ⟨i0, hi, hz0, hz1, hz2⟩ := info_parts Try.iinfo
  have I1 : Hid (∀ wr, Below w.heap.size w wr → Ints wr wr.heap.size (some ⟨tb, toff, none⟩) t) := Lib.hid fun wr h => ⟨by omega, .inr ⟨tb, toff, rfl, Nat.lt_of_lt_of_le htb h.size, fun j hj => by rw [h.cell (p := ⟨tb, toff + j, none⟩) htb]; exact htc j hj⟩⟩
  have I2 : Hid (∀ wr, Below w.heap.size w wr → Ints wr wr.heap.size (some ⟨lb, loff, none⟩) l) := Lib.hid fun wr h => ⟨by omega, .inr ⟨lb, loff, rfl, Nat.lt_of_lt_of_le hlb h.size, fun j hj => by rw [h.cell (p := ⟨lb, loff + j, none⟩) hlb]; exact hlc j hj⟩⟩
  have O0 := Lib.hid (own_at' (w.alloc (.cells #[.slice (some ⟨tb, toff, none⟩) 16 cA, .slice (some ⟨lb, loff, none⟩) 8 cB, .int .i64 k, .bool b1, .bool b2] 26)) w.heap.size (w.heap.size + 1) [] (by simp) (by simp) (by simp))
  have cy : ((w.alloc (.cells #[.slice (some ⟨tb, toff, none⟩) 16 cA, .slice (some ⟨lb, loff, none⟩) 8 cB, .int .i64 k, .bool b1, .bool b2] 26)).alloc (.cells (ivs []).toArray 3)).cell? ⟨lb, loff + y, none⟩ = some (.int .i64 (l.getD y 0)) := by rw [bt.cell (p := ⟨lb, loff + y, none⟩) hlb]; exact hlc y (by omega)
  have cyw := hlc y (by omega)
  obtain ⟨u, hu⟩ : ∃ u, u = l.getD y 0 := ⟨_, rfl⟩
  rw [← hu] at cy cyw
  rw [← hu]
  have hyi : (y : Int) < 8 := by omega
  clear hu bt htc hlc ht hl
  go_enter Try.func68, Try.ntmps68
  go_wp2
  go_loopw [11, 13] (fun v9 i wr => ∃ j : Nat, j ≤ 8 ∧ i = .int .i64 j ∧ wr.ownsRow w.heap.size 3 1 v9 j (ivs (List.replicate j u)) ∧ Below w.heap.size w wr)
    (fun _ i _ => 8 - (intOf i).toNat)
  case atStart => exact ⟨0, Nat.zero_le _, rfl, O0.out, BT.out⟩
  case round =>
    obtain ⟨j, hj, rfl, hown, hbel⟩ := hrel
    by_cases hlt : j < 8
    · have d1 : decide ((j : Int) < 8) = true := by simp; omega
      have hnx : List.replicate (j + 1) u = List.replicate j u ++ [u] := List.replicate_succ'
      have HX := Lib.hid hnx; have HBB := Lib.hid hbel; have O3 := hown
      clear hnx hown hbel
      go_wp2_with (at_builtin; refine append_int wr rfl (.tmp 64) (.tmp 66) 24 rfl w.heap.size 3 i0 Try.underlying24 hi hz0 hz1 hz2 _ _ _ rfl O3 _ rfl rfl (by omega) HBB.out.size ?_; intro v' w' hown' hgr hvb)
      have HO' := Lib.hid hown'; have HG := Lib.hid hgr; have HL' := Lib.hid O3.lt
      clear hown' hgr hvb O3
      go_roundw
      case rel => exact ⟨j + 1, by omega, by go_num, by rw [HX.out]; exact HO'.out, HBB.out.grown HG.out HBB.out.size fun k hk => (HL'.out k hk).1⟩
      case measure => simp [intOf]; omega
    · obtain rfl : j = 8 := by omega
      obtain ⟨A3, c3, hv3, ho3⟩ := own_slice hown
      rw [List.length_replicate] at hv3
      subst hv3
      have I3 := Lib.hid (ho3.ints (by rw [List.length_replicate]; decide)); have P3 := Lib.hid ho3.placed; have B3 := Lib.hid hbel
      clear hown hbel ho3
      go_wp2
      go_ret
      exact ⟨_, _, rfl, I3.out, P3.out, B3.out⟩

set_option maxRecDepth 100000 in
set_option maxHeartbeats 4000000 in
theorem l17row_8_3 (tb toff : Nat) (cA : Nat) (lb loff : Nat) (cB : Nat) (SA : Option Addr) (sn sc : Nat) (t l : List Int) (k : Int) (b1 b2 : Bool) (y : Nat) (hy : y < 8) (ht : t.length = 16) (hl : l.length = 8) (hcA : 16 ≤ cA) (w : World) (htb : tb < w.heap.size) (hlb : lb < w.heap.size)
    (htc : ∀ j, j < t.length → w.cell? ⟨tb, toff + j, none⟩ = some (.int .i64 (t.getD j 0))) (hlc : ∀ j, j < l.length → w.cell? ⟨lb, loff + j, none⟩ = some (.int .i64 (l.getD j 0)))
    (SR : Hid (∀ w, Ints w w.heap.size (some ⟨tb, toff, none⟩) t → Ints w w.heap.size (some ⟨lb, loff, none⟩) l → Calls Try.prog 27 #[.agg #[.slice (some ⟨tb, toff, none⟩) 16 cA, .slice (some ⟨lb, loff, none⟩) 8 cB, .int .i64 k, .bool b1, .bool b2], .int .i64 8, .int .i64 y] w fun e w' => ∃ A' c, e = .returned (.slice A' 8 c) ∧ OwnI w' w.heap.size A' c (slF t l k 8 y) ∧ Below w.heap.size w w')) :
    Calls Try.prog 68 #[.int .i64 3, .agg #[.slice (some ⟨tb, toff, none⟩) 16 cA, .slice (some ⟨lb, loff, none⟩) 8 cB, .int .i64 k, .bool b1, .bool b2], .int .i64 8, .int .i64 y, .slice SA sn sc] w fun e w' => ∃ A' c, e = .returned (.slice A' 8 c) ∧ Ints w' w'.heap.size A' (slF t l k 8 y) ∧ Placed A' c ∧ Below w.heap.size w w' := by
  have HK := Lib.hid (heap_alloc_new w (.cells #[.slice (some ⟨tb, toff, none⟩) 16 cA, .slice (some ⟨lb, loff, none⟩) 8 cB, .int .i64 k, .bool b1, .bool b2] 26))
  have BW := Lib.hid (below_new w (.cells #[.slice (some ⟨tb, toff, none⟩) 16 cA, .slice (some ⟨lb, loff, none⟩) 8 cB, .int .i64 k, .bool b1, .bool b2] 26))
  have bt := below_two w (.cells #[.slice (some ⟨tb, toff, none⟩) 16 cA, .slice (some ⟨lb, loff, none⟩) 8 cB, .int .i64 k, .bool b1, .bool b2] 26) (.cells (ivs []).toArray 3)
  have BT := Lib.hid bt
  have I1 : Hid (∀ wr, Below w.heap.size w wr → Ints wr wr.heap.size (some ⟨tb, toff, none⟩) t) := Lib.hid fun wr h => ⟨by omega, .inr ⟨tb, toff, rfl, Nat.lt_of_lt_of_le htb h.size, fun j hj => by rw [h.cell (p := ⟨tb, toff + j, none⟩) htb]; exact htc j hj⟩⟩
  have I2 : Hid (∀ wr, Below w.heap.size w wr → Ints wr wr.heap.size (some ⟨lb, loff, none⟩) l) := Lib.hid fun wr h => ⟨by omega, .inr ⟨lb, loff, rfl, Nat.lt_of_lt_of_le hlb h.size, fun j hj => by rw [h.cell (p := ⟨lb, loff + j, none⟩) hlb]; exact hlc j hj⟩⟩
  have hfl := slF_len t l k 8 y
  obtain ⟨z, hz⟩ : ∃ z, z = slF t l k 8 y := ⟨_, rfl⟩
  rw [← hz] at SR hfl ⊢
  clear hz bt htc hlc ht hl
  go_enter Try.func68, Try.ntmps68
  go_wp2_with fail
  refine (SR.out _ (I1.out _ BT.out) (I2.out _ BT.out)).mono ?_
  rintro e w1 ⟨A1, c1, rfl, ho, hb1⟩
  have B1 := Lib.hid (below_up BT.out hb1 BT.out.size)
  have I3 := Lib.hid (ho.ints (by omega)); have P3 := Lib.hid ho.placed
  clear ho hb1
  go_wp2
  go_ret
  exact ⟨_, _, rfl, I3.out, P3.out, B1.out⟩

set_option maxRecDepth 100000 in
set_option maxHeartbeats 4000000 in
theorem l17row_8_4 (tb toff : Nat) (cA : Nat) (lb loff : Nat) (cB : Nat) (sb soff sc : Nat) (S : List Int) (hS : S.length = 15) (hsc : 15 ≤ sc) (t l : List Int) (k : Int) (b1 b2 : Bool) (y : Nat) (hy : y < 8) (ht : t.length = 16) (hl : l.length = 8) (hcA : 16 ≤ cA) (w : World) (htb : tb < w.heap.size) (hlb : lb < w.heap.size)
    (htc : ∀ j, j < t.length → w.cell? ⟨tb, toff + j, none⟩ = some (.int .i64 (t.getD j 0))) (hlc : ∀ j, j < l.length → w.cell? ⟨lb, loff + j, none⟩ = some (.int .i64 (l.getD j 0))) (hsb : sb < w.heap.size) (hsv : ∀ j, j < S.length → w.cell? ⟨sb, soff + j, none⟩ = some (.int .i64 (S.getD j 0))) :
    Calls Try.prog 68 #[.int .i64 4, .agg #[.slice (some ⟨tb, toff, none⟩) 16 cA, .slice (some ⟨lb, loff, none⟩) 8 cB, .int .i64 k, .bool b1, .bool b2], .int .i64 8, .int .i64 y, .slice (some ⟨sb, soff, none⟩) 15 sc] w fun e w' => ∃ A' c, e = .returned (.slice A' 8 c) ∧ Ints w' w'.heap.size A' ((S.drop (y)).take 8) ∧ Placed A' c ∧ Below w.heap.size w w' := by
  have HK := Lib.hid (heap_alloc_new w (.cells #[.slice (some ⟨tb, toff, none⟩) 16 cA, .slice (some ⟨lb, loff, none⟩) 8 cB, .int .i64 k, .bool b1, .bool b2] 26))
  have BW := Lib.hid (below_new w (.cells #[.slice (some ⟨tb, toff, none⟩) 16 cA, .slice (some ⟨lb, loff, none⟩) 8 cB, .int .i64 k, .bool b1, .bool b2] 26))
  have bt := below_two w (.cells #[.slice (some ⟨tb, toff, none⟩) 16 cA, .slice (some ⟨lb, loff, none⟩) 8 cB, .int .i64 k, .bool b1, .bool b2] 26) (.cells (ivs []).toArray 3)
  have BT := Lib.hid bt
  have ha8 : y + 8 ≤ 15 := by omega
  have hne : ¬ sc = y := by omega
  have ha0 : (y : Int) ≤ (y : Int) + 8 := by omega
  have ha1 : (y : Int) + 8 ≤ (sc : Int) := by omega
  have ha2 : y + 8 ≤ sc := by omega
  have haw : IntKind.i64.wrap ((y : Int) + 8) = (y : Int) + 8 := IntWalk.i64_in _ (by omega)
  have hat : ((y : Int) + 8).toNat = y + 8 := by omega
  have had : y + 8 - y = 8 := by omega
  have I1 : Hid (Ints ((w.alloc (.cells #[.slice (some ⟨tb, toff, none⟩) 16 cA, .slice (some ⟨lb, loff, none⟩) 8 cB, .int .i64 k, .bool b1, .bool b2] 26)).alloc (.cells (ivs []).toArray 3)) ((w.alloc (.cells #[.slice (some ⟨tb, toff, none⟩) 16 cA, .slice (some ⟨lb, loff, none⟩) 8 cB, .int .i64 k, .bool b1, .bool b2] 26)).alloc (.cells (ivs []).toArray 3)).heap.size (some ⟨sb, soff + y, none⟩) ((S.drop y).take 8)) := Lib.hid (by
    refine ⟨by rw [List.length_take]; omega, .inr ⟨sb, soff + y, rfl, Nat.lt_of_lt_of_le hsb bt.size, fun j hj => ?_⟩⟩
    rw [List.length_take, List.length_drop] at hj
    rw [bt.cell (p := ⟨sb, soff + y + j, none⟩) hsb, Nat.add_assoc, hsv (y + j) (by omega), drop_take_at (by omega)])
  clear bt htc hlc ht hl hsv hS
  go_enter Try.func68, Try.ntmps68
  go_wp2
  go_ret
  exact ⟨_, _, rfl, I1.out, (fun h => by cases h), BT.out⟩

set_option maxRecDepth 100000 in
set_option maxHeartbeats 4000000 in
theorem l17row_8_5 (tb toff : Nat) (cA : Nat) (lb loff : Nat) (cB : Nat) (sb soff sc : Nat) (S : List Int) (hS : S.length = 15) (hsc : 15 ≤ sc) (t l : List Int) (k : Int) (b1 b2 : Bool) (y : Nat) (hy : y < 8) (ht : t.length = 16) (hl : l.length = 8) (hcA : 16 ≤ cA) (w : World) (htb : tb < w.heap.size) (hlb : lb < w.heap.size)
    (htc : ∀ j, j < t.length → w.cell? ⟨tb, toff + j, none⟩ = some (.int .i64 (t.getD j 0))) (hlc : ∀ j, j < l.length → w.cell? ⟨lb, loff + j, none⟩ = some (.int .i64 (l.getD j 0))) (hsb : sb < w.heap.size) (hsv : ∀ j, j < S.length → w.cell? ⟨sb, soff + j, none⟩ = some (.int .i64 (S.getD j 0))) :
    Calls Try.prog 68 #[.int .i64 5, .agg #[.slice (some ⟨tb, toff, none⟩) 16 cA, .slice (some ⟨lb, loff, none⟩) 8 cB, .int .i64 k, .bool b1, .bool b2], .int .i64 8, .int .i64 y, .slice (some ⟨sb, soff, none⟩) 15 sc] w fun e w' => ∃ A' c, e = .returned (.slice A' 8 c) ∧ Ints w' w'.heap.size A' ((S.drop (7 - y)).take 8) ∧ Placed A' c ∧ Below w.heap.size w w' := by
  have HK := Lib.hid (heap_alloc_new w (.cells #[.slice (some ⟨tb, toff, none⟩) 16 cA, .slice (some ⟨lb, loff, none⟩) 8 cB, .int .i64 k, .bool b1, .bool b2] 26))
  have BW := Lib.hid (below_new w (.cells #[.slice (some ⟨tb, toff, none⟩) 16 cA, .slice (some ⟨lb, loff, none⟩) 8 cB, .int .i64 k, .bool b1, .bool b2] 26))
  have bt := below_two w (.cells #[.slice (some ⟨tb, toff, none⟩) 16 cA, .slice (some ⟨lb, loff, none⟩) 8 cB, .int .i64 k, .bool b1, .bool b2] 26) (.cells (ivs []).toArray 3)
  have BT := Lib.hid bt
  obtain ⟨a, ha⟩ : ∃ a, a = 7 - y := ⟨_, rfl⟩
  rw [← ha]
  have ha8 : a + 8 ≤ 15 := by omega
  have hai : (7 : Int) - (y : Int) = (a : Int) := by omega
  have hai2 : (15 : Int) - (y : Int) = (a : Int) + 8 := by omega
  clear ha
  have hne : ¬ sc = a := by omega
  have ha0 : (a : Int) ≤ (a : Int) + 8 := by omega
  have ha1 : (a : Int) + 8 ≤ (sc : Int) := by omega
  have ha2 : a + 8 ≤ sc := by omega
  have haw : IntKind.i64.wrap ((a : Int) + 8) = (a : Int) + 8 := IntWalk.i64_in _ (by omega)
  have hat : ((a : Int) + 8).toNat = a + 8 := by omega
  have had : a + 8 - a = 8 := by omega
  have I1 : Hid (Ints ((w.alloc (.cells #[.slice (some ⟨tb, toff, none⟩) 16 cA, .slice (some ⟨lb, loff, none⟩) 8 cB, .int .i64 k, .bool b1, .bool b2] 26)).alloc (.cells (ivs []).toArray 3)) ((w.alloc (.cells #[.slice (some ⟨tb, toff, none⟩) 16 cA, .slice (some ⟨lb, loff, none⟩) 8 cB, .int .i64 k, .bool b1, .bool b2] 26)).alloc (.cells (ivs []).toArray 3)).heap.size (some ⟨sb, soff + a, none⟩) ((S.drop a).take 8)) := Lib.hid (by
    refine ⟨by rw [List.length_take]; omega, .inr ⟨sb, soff + a, rfl, Nat.lt_of_lt_of_le hsb bt.size, fun j hj => ?_⟩⟩
    rw [List.length_take, List.length_drop] at hj
    rw [bt.cell (p := ⟨sb, soff + a + j, none⟩) hsb, Nat.add_assoc, hsv (a + j) (by omega), drop_take_at (by omega)])
  clear bt htc hlc ht hl hsv hS
  go_enter Try.func68, Try.ntmps68
  go_wp2
  go_ret
  exact ⟨_, _, rfl, I1.out, (fun h => by cases h), BT.out⟩
end Go.Proofs.Ytjgbenhjafgimaa

namespace Go.Proofs.Ytjgbenhjafgimaa
open Go.RowKit
set_option linter.unusedVariables false

set_option maxRecDepth 100000 in
set_option maxHeartbeats 8000000 in
theorem spec_fastpred_4_o (mode : Int) (hmd : mdOk mode = true) (hm4 : mode ≠ 4) (tb toff : Nat) (cA : Nat) (lb loff : Nat) (cB : Nat) (t l : List Int) (k : Int) (b1 b2 : Bool) (ht : t.length = 8) (hl : l.length = 4) (hcA : 8 ≤ cA) (w : World) (htb : tb < w.heap.size) (hlb : lb < w.heap.size)
    (htc : ∀ j, j < t.length → w.cell? ⟨tb, toff + j, none⟩ = some (.int .i64 (t.getD j 0))) (hlc : ∀ j, j < l.length → w.cell? ⟨lb, loff + j, none⟩ = some (.int .i64 (l.getD j 0)))
    (NK : Hid (∀ w, Ints w w.heap.size (some ⟨tb, toff, none⟩) t → Ints w w.heap.size (some ⟨lb, loff, none⟩) l → Calls Try.prog 15 #[.agg #[.slice (some ⟨tb, toff, none⟩) 8 cA, .slice (some ⟨lb, loff, none⟩) 4 cB, .int .i64 k, .bool b1, .bool b2], .int .i64 4] w fun e w' => e = .returned (.bool true) ∧ Below w.heap.size w w'))
    (BD : Hid (∀ w, Ints w w.heap.size (some ⟨tb, toff, none⟩) t → Ints w w.heap.size (some ⟨lb, loff, none⟩) l → Calls Try.prog 67 #[.agg #[.slice (some ⟨tb, toff, none⟩) 8 cA, .slice (some ⟨lb, loff, none⟩) 4 cB, .int .i64 k, .bool b1, .bool b2], .int .i64 4] w fun e w' => ∃ A' c, e = .returned (.slice A' 9 c) ∧ OwnI w' w.heap.size A' c (bordF t l k) ∧ Below w.heap.size w w'))
    (RW : Hid (∀ (y : Nat) (AS : Option Addr) (sc : Nat) w, y < 4 → 7 ≤ sc → Ints w w.heap.size (some ⟨tb, toff, none⟩) t → Ints w w.heap.size (some ⟨lb, loff, none⟩) l → Ints w w.heap.size AS (soL (bordF t l k)) → Calls Try.prog 68 #[.int .i64 mode, .agg #[.slice (some ⟨tb, toff, none⟩) 8 cA, .slice (some ⟨lb, loff, none⟩) 4 cB, .int .i64 k, .bool b1, .bool b2], .int .i64 4, .int .i64 y, .slice AS 7 sc] w fun e w' => ∃ A' c, e = .returned (.slice A' 4 c) ∧ Ints w' w'.heap.size A' (rowPF t l k b1 b2 4 mode y) ∧ Placed A' c ∧ Below w.heap.size w w')) :
    Calls Try.prog 36 #[.int .i64 mode, .agg #[.slice (some ⟨tb, toff, none⟩) 8 cA, .slice (some ⟨lb, loff, none⟩) 4 cB, .int .i64 k, .bool b1, .bool b2], .int .i64 4] w fun e w' => ∃ A' c, e = .returned (.slice A' 16 c) ∧ OwnI w' w.heap.size A' c (prdF t l k b1 b2 4 mode) ∧ Below w.heap.size w w' := by
  obtain ⟨i0, hi, hz0, hz1, hz2⟩ := info_parts Try.iinfo
  have hq4 : (mode == 4) = false := by rw [beq_eq_false_iff_ne]; exact hm4
  have MW := Lib.hid (spec_modeword_any mode)
  have hmw := mwS_word mode
  rw [hmd] at hmw
  obtain ⟨ms, hms⟩ : ∃ s, s = mwS mode := ⟨_, rfl⟩
  rw [← hms] at MW hmw
  have hmw2 : ms.toList.isEmpty = false := by simpa using hmw
  have HTL := Lib.hid ht; have HLL := Lib.hid hl
  have HK := Lib.hid (heap_alloc_new w (.cells #[.slice (some ⟨tb, toff, none⟩) 8 cA, .slice (some ⟨lb, loff, none⟩) 4 cB, .int .i64 k, .bool b1, .bool b2] 26))
  have BW := Lib.hid (below_new w (.cells #[.slice (some ⟨tb, toff, none⟩) 8 cA, .slice (some ⟨lb, loff, none⟩) 4 cB, .int .i64 k, .bool b1, .bool b2] 26))
  have hsz : (w.alloc (.cells #[.slice (some ⟨tb, toff, none⟩) 8 cA, .slice (some ⟨lb, loff, none⟩) 4 cB, .int .i64 k, .bool b1, .bool b2] 26)).heap.size = w.heap.size + 1 := by simp
  have HSZ := Lib.hid hsz
  have O0 := Lib.hid (own_at' (w.alloc (.cells #[.slice (some ⟨tb, toff, none⟩) 8 cA, .slice (some ⟨lb, loff, none⟩) 4 cB, .int .i64 k, .bool b1, .bool b2] 26)) (w.alloc (.cells #[.slice (some ⟨tb, toff, none⟩) 8 cA, .slice (some ⟨lb, loff, none⟩) 4 cB, .int .i64 k, .bool b1, .bool b2] 26)).heap.size (w.heap.size + 1) [] (Nat.le_refl _) (by simp) (by simp))
  have B0 := Lib.hid ((Below.refl (w.alloc (.cells #[.slice (some ⟨tb, toff, none⟩) 8 cA, .slice (some ⟨lb, loff, none⟩) 4 cB, .int .i64 k, .bool b1, .bool b2] 26)).heap.size (w.alloc (.cells #[.slice (some ⟨tb, toff, none⟩) 8 cA, .slice (some ⟨lb, loff, none⟩) 4 cB, .int .i64 k, .bool b1, .bool b2] 26))).alloc (Nat.le_refl _) (.cells (ivs []).toArray 3))
  have BB : Hid (∀ wr, Below (w.alloc (.cells #[.slice (some ⟨tb, toff, none⟩) 8 cA, .slice (some ⟨lb, loff, none⟩) 4 cB, .int .i64 k, .bool b1, .bool b2] 26)).heap.size (w.alloc (.cells #[.slice (some ⟨tb, toff, none⟩) 8 cA, .slice (some ⟨lb, loff, none⟩) 4 cB, .int .i64 k, .bool b1, .bool b2] 26)) wr → Below w.heap.size w wr) := Lib.hid fun wr h => BW.out.trans (h.mono (by rw [hsz]; omega))
  have TC : Hid (∀ wr, Below (w.alloc (.cells #[.slice (some ⟨tb, toff, none⟩) 8 cA, .slice (some ⟨lb, loff, none⟩) 4 cB, .int .i64 k, .bool b1, .bool b2] 26)).heap.size (w.alloc (.cells #[.slice (some ⟨tb, toff, none⟩) 8 cA, .slice (some ⟨lb, loff, none⟩) 4 cB, .int .i64 k, .bool b1, .bool b2] 26)) wr → ∀ j, j < t.length → wr.cell? ⟨tb, toff + j, none⟩ = some (.int .i64 (t.getD j 0))) := Lib.hid fun wr h j hj => by
    rw [(BB.out wr h).cell (p := ⟨tb, toff + j, none⟩) htb]; exact htc j hj
  have I1 : Hid (∀ wr, Below (w.alloc (.cells #[.slice (some ⟨tb, toff, none⟩) 8 cA, .slice (some ⟨lb, loff, none⟩) 4 cB, .int .i64 k, .bool b1, .bool b2] 26)).heap.size (w.alloc (.cells #[.slice (some ⟨tb, toff, none⟩) 8 cA, .slice (some ⟨lb, loff, none⟩) 4 cB, .int .i64 k, .bool b1, .bool b2] 26)) wr → Ints wr wr.heap.size (some ⟨tb, toff, none⟩) t) := Lib.hid fun wr h => ⟨by omega, .inr ⟨tb, toff, rfl, Nat.lt_of_lt_of_le htb (BB.out wr h).size, TC.out wr h⟩⟩
  have I2 : Hid (∀ wr, Below (w.alloc (.cells #[.slice (some ⟨tb, toff, none⟩) 8 cA, .slice (some ⟨lb, loff, none⟩) 4 cB, .int .i64 k, .bool b1, .bool b2] 26)).heap.size (w.alloc (.cells #[.slice (some ⟨tb, toff, none⟩) 8 cA, .slice (some ⟨lb, loff, none⟩) 4 cB, .int .i64 k, .bool b1, .bool b2] 26)) wr → Ints wr wr.heap.size (some ⟨lb, loff, none⟩) l) := Lib.hid fun wr h => ⟨by omega, .inr ⟨lb, loff, rfl, Nat.lt_of_lt_of_le hlb (BB.out wr h).size, fun j hj => by rw [(BB.out wr h).cell (p := ⟨lb, loff + j, none⟩) hlb]; exact hlc j hj⟩⟩
  have KC : Hid (∀ wr, Below (w.alloc (.cells #[.slice (some ⟨tb, toff, none⟩) 8 cA, .slice (some ⟨lb, loff, none⟩) 4 cB, .int .i64 k, .bool b1, .bool b2] 26)).heap.size (w.alloc (.cells #[.slice (some ⟨tb, toff, none⟩) 8 cA, .slice (some ⟨lb, loff, none⟩) 4 cB, .int .i64 k, .bool b1, .bool b2] 26)) wr → wr.heap[w.heap.size]? = some (.cells #[.slice (some ⟨tb, toff, none⟩) 8 cA, .slice (some ⟨lb, loff, none⟩) 4 cB, .int .i64 k, .bool b1, .bool b2] 26 (0, 0))) := Lib.hid fun wr h => by
    rw [h.block w.heap.size (by rw [hsz]; omega)]; exact HK.out
  have SO := Lib.hid spec_softened_any
  have HBL : Hid ((bordF t l k).length = 9) := Lib.hid (bordF_len (m := 4) ht hl)
  have HSL : Hid ((soL (bordF t l k)).length = 7) := Lib.hid (by rw [soL_len, bordF_len (m := 4) ht hl])
  have HSB : Hid ((soL (bordF t l k)).length = 7) := Lib.hid (by rw [soL_len, bordF_len (m := 4) ht hl])
  have HNX := Lib.hid fun y (hy : y < 4) => prd_row (t := t) (l := l) (k := k) (b1 := b1) (b2 := b2) (mode := mode) hy
  have HRL := Lib.hid fun y => rowPF_len t l k b1 b2 4 mode y
  have HCL := Lib.hid (prdF_len t l k b1 b2 4 mode)
  obtain ⟨C, hC⟩ : ∃ C, C = prdF t l k b1 b2 4 mode := ⟨_, rfl⟩
  rw [← hC] at HNX HCL ⊢
  clear hC hsz ht hl htc hlc hms hmw hmd
  go_enter Try.func36, Try.ntmps36
  go_wp2_with fail
  refine (NK.out _ (I1.out _ B0.out) (I2.out _ B0.out)).mono ?_
  rintro e w1 ⟨rfl, hb1⟩
  have O1 := Lib.hid (O0.out.kept hb1 (Nat.le_refl _)); have B1 := Lib.hid (below_up B0.out hb1 B0.out.size)
  clear hb1 O0 B0
  go_wp2_with fail
  refine (MW.out _).mono ?_
  rintro e w2 ⟨rfl, hb2⟩
  have O2 := Lib.hid (O1.out.kept hb2 (Nat.le_refl _)); have B2 := Lib.hid (below_up B1.out hb2 B1.out.size)
  clear hb2 O1 B1
  obtain ⟨c0, c1, c2, c3, c4⟩ := cells5 (KC.out _ B2.out)
  go_wp2_with fail
  refine (BD.out _ (I1.out _ B2.out) (I2.out _ B2.out)).mono ?_
  rintro e w3 ⟨AR, cR, rfl, hoR, hb3⟩
  have O3 := Lib.hid (O2.out.kept hb3 (Nat.le_refl _)); have B3 := Lib.hid (below_up B2.out hb3 B2.out.size)
  have R3 := Lib.hid (hoR.ints (by rw [HBL.out]; decide))
  have hgt2 : w.heap.size + 1 < w3.heap.size := by have h1 := (O2.out.block (w.heap.size + 1) rfl).2; have h2 := hb3.size; omega
  have HGT := Lib.hid hgt2
  clear hb3 hoR c0 c1 c2 c3 c4 O2 B2 hgt2
  have SOB := Lib.hid fun A c w h => SO.out A c (bordF t l k) (by rw [HBL.out]; decide) w h
  rw [HBL.out, HSB.out] at SOB
  go_wp2_with fail
  refine (SOB.out _ _ _ R3.out).mono ?_
  rintro e w4 ⟨AQ, cQ, rfl, hoQ, hb4⟩
  have O4 := Lib.hid (O3.out.kept hb4 (Nat.le_refl _)); have B4 := Lib.hid (below_up B3.out hb4 B3.out.size)
  have Q4 := Lib.hid (hoQ.ints (by rw [HSB.out]; decide)); have QN4 := Lib.hid (hoQ.not_lo HGT.out); have QC4 : Hid (7 ≤ cQ) := Lib.hid (by have := hoQ.cap_le; rw [HSB.out] at this; exact this)
  have HGT4 := Lib.hid (Nat.lt_of_lt_of_le HGT.out hb4.size)
  clear hb4 hoQ O3 B3 R3
  go_wp2
  go_loopw [7, 10] (fun v x10 wr => ∃ y : Nat, y ≤ 4 ∧ x10 = .int .i64 y ∧ wr.ownsRow (w.alloc (.cells #[.slice (some ⟨tb, toff, none⟩) 8 cA, .slice (some ⟨lb, loff, none⟩) 4 cB, .int .i64 k, .bool b1, .bool b2] 26)).heap.size 3 1 v (y * 4) (ivs (C.take (y * 4))) ∧ FarOf v (w.heap.size + 1) w4.heap.size ∧ Ints wr w4.heap.size AQ (soL (bordF t l k)) ∧ w4.heap.size ≤ wr.heap.size ∧ Below (w.alloc (.cells #[.slice (some ⟨tb, toff, none⟩) 8 cA, .slice (some ⟨lb, loff, none⟩) 4 cB, .int .i64 k, .bool b1, .bool b2] 26)).heap.size (w.alloc (.cells #[.slice (some ⟨tb, toff, none⟩) 8 cA, .slice (some ⟨lb, loff, none⟩) 4 cB, .int .i64 k, .bool b1, .bool b2] 26)) wr)
    (fun _ x10 _ => 4 - (intOf x10).toNat)
  case atStart => exact ⟨0, Nat.zero_le _, rfl, O4.out, .inr (.inl rfl), Q4.out, Nat.le_refl _, B4.out⟩
  case round =>
    obtain ⟨y, hyN, rfl, hown, hfar, hview, hsize, hbel⟩ := hrel
    by_cases hly : y < 4
    · have d1 : decide ((y : Int) < 4) = true := by simp; omega
      obtain ⟨c0, c1, c2, c3, c4⟩ := cells5 (KC.out _ hbel)
      have hnx := HNX.out y hly
      have hrl := HRL.out y
      have RX := Lib.hid fun AS sc w hs h1 h2 h3 => RW.out y AS sc w hly hs h1 h2 h3
      obtain ⟨z, hz⟩ : ∃ z, z = rowPF t l k b1 b2 4 mode y := ⟨_, rfl⟩
      rw [← hz] at hnx hrl RX
      have HX := Lib.hid hnx; have HO := Lib.hid hown; have HB := Lib.hid hbel; have HF := Lib.hid hfar; have HV := Lib.hid hview; have HS := Lib.hid hsize
      clear hz hnx hown hbel hfar hview hsize
      go_wp2_with fail
      refine (RX.out AQ cQ _ QC4.out (I1.out _ HB.out) (I2.out _ HB.out) (HV.out.mono HS.out)).mono ?_
      rintro e wa ⟨AH, cH, rfl, hih, hph, hba⟩
      have OA := own_keep HO.out hba
      have HBA := Lib.hid (below_up HB.out hba HB.out.size)
      have HVA := Lib.hid (HV.out.below hba HS.out); have HSA := Lib.hid (Nat.le_trans HS.out hba.size)
      clear hba c0 c1 c2 c3 c4 HO HB HV HS hph
      go_wp2_with (at_builtin; refine append_ints_at rfl (.tmp 48) (.tmp 54) 24 rfl (w.alloc (.cells #[.slice (some ⟨tb, toff, none⟩) 8 cA, .slice (some ⟨lb, loff, none⟩) 4 cB, .int .i64 k, .bool b1, .bool b2] 26)).heap.size i0 Try.underlying24 hi hz0 hz1 hz2 _ _ _ rfl OA _ _ _ z hrl.symm rfl _ hih (by omega) (by omega) HBA.out.size ?_; intro v' wb hownb hgr hat)
      have HO' := Lib.hid hownb; have HG := Lib.hid hgr; have HL' := Lib.hid OA.lt; have HAT := Lib.hid hat
      clear hownb hgr hat OA hih
      go_roundw
      case rel => exact ⟨y + 1, by omega, by go_num, by rw [Nat.add_mul, Nat.one_mul, HX.out]; exact HO'.out, HF.out.grew HAT.out HSA.out, HVA.out.past QN4.out HF.out HG.out HSA.out, Nat.le_trans HSA.out HG.out.size, HBA.out.grown HG.out HBA.out.size fun k hk => (HL'.out k hk).1⟩
      case measure => simp [intOf]; omega
    · obtain rfl : y = 4 := by omega
      have e1 : C.take (4 * 4) = C := List.take_of_length_le (by rw [HCL.out]; exact Nat.le_refl _)
      rw [e1] at hown
      obtain ⟨A3, c3, hv3, ho3⟩ := own_slice hown
      rw [HCL.out] at hv3
      subst hv3
      have O9 := Lib.hid (own_lower ho3 (base' := w.heap.size) (by rw [HSZ.out]; omega)); have B9 := Lib.hid (BB.out _ hbel)
      clear hown hbel ho3 e1 hview hfar
      go_wp2
      go_ret
      exact ⟨_, _, rfl, O9.out, B9.out⟩

set_option maxRecDepth 100000 in
set_option maxHeartbeats 8000000 in
theorem spec_fastpred_8_o (mode : Int) (hmd : mdOk mode = true) (hm4 : mode ≠ 4) (tb toff : Nat) (cA : Nat) (lb loff : Nat) (cB : Nat) (t l : List Int) (k : Int) (b1 b2 : Bool) (ht : t.length = 16) (hl : l.length = 8) (hcA : 16 ≤ cA) (w : World) (htb : tb < w.heap.size) (hlb : lb < w.heap.size)
    (htc : ∀ j, j < t.length → w.cell? ⟨tb, toff + j, none⟩ = some (.int .i64 (t.getD j 0))) (hlc : ∀ j, j < l.length → w.cell? ⟨lb, loff + j, none⟩ = some (.int .i64 (l.getD j 0)))
    (NK : Hid (∀ w, Ints w w.heap.size (some ⟨tb, toff, none⟩) t → Ints w w.heap.size (some ⟨lb, loff, none⟩) l → Calls Try.prog 15 #[.agg #[.slice (some ⟨tb, toff, none⟩) 16 cA, .slice (some ⟨lb, loff, none⟩) 8 cB, .int .i64 k, .bool b1, .bool b2], .int .i64 8] w fun e w' => e = .returned (.bool true) ∧ Below w.heap.size w w'))
    (BD : Hid (∀ w, Ints w w.heap.size (some ⟨tb, toff, none⟩) t → Ints w w.heap.size (some ⟨lb, loff, none⟩) l → Calls Try.prog 67 #[.agg #[.slice (some ⟨tb, toff, none⟩) 16 cA, .slice (some ⟨lb, loff, none⟩) 8 cB, .int .i64 k, .bool b1, .bool b2], .int .i64 8] w fun e w' => ∃ A' c, e = .returned (.slice A' 17 c) ∧ OwnI w' w.heap.size A' c (bordF t l k) ∧ Below w.heap.size w w'))
    (RW : Hid (∀ (y : Nat) (AS : Option Addr) (sc : Nat) w, y < 8 → 15 ≤ sc → Ints w w.heap.size (some ⟨tb, toff, none⟩) t → Ints w w.heap.size (some ⟨lb, loff, none⟩) l → Ints w w.heap.size AS (soL (bordF t l k)) → Calls Try.prog 68 #[.int .i64 mode, .agg #[.slice (some ⟨tb, toff, none⟩) 16 cA, .slice (some ⟨lb, loff, none⟩) 8 cB, .int .i64 k, .bool b1, .bool b2], .int .i64 8, .int .i64 y, .slice AS 15 sc] w fun e w' => ∃ A' c, e = .returned (.slice A' 8 c) ∧ Ints w' w'.heap.size A' (rowPF t l k b1 b2 8 mode y) ∧ Placed A' c ∧ Below w.heap.size w w')) :
    Calls Try.prog 36 #[.int .i64 mode, .agg #[.slice (some ⟨tb, toff, none⟩) 16 cA, .slice (some ⟨lb, loff, none⟩) 8 cB, .int .i64 k, .bool b1, .bool b2], .int .i64 8] w fun e w' => ∃ A' c, e = .returned (.slice A' 64 c) ∧ OwnI w' w.heap.size A' c (prdF t l k b1 b2 8 mode) ∧ Below w.heap.size w w' := by
  obtain ⟨i0, hi, hz0, hz1, hz2⟩ := info_parts Try.iinfo
  have hq4 : (mode == 4) = false := by rw [beq_eq_false_iff_ne]; exact hm4
  have MW := Lib.hid (spec_modeword_any mode)
  have hmw := mwS_word mode
  rw [hmd] at hmw
  obtain ⟨ms, hms⟩ : ∃ s, s = mwS mode := ⟨_, rfl⟩
  rw [← hms] at MW hmw
  have hmw2 : ms.toList.isEmpty = false := by simpa using hmw
  have HTL := Lib.hid ht; have HLL := Lib.hid hl
  have HK := Lib.hid (heap_alloc_new w (.cells #[.slice (some ⟨tb, toff, none⟩) 16 cA, .slice (some ⟨lb, loff, none⟩) 8 cB, .int .i64 k, .bool b1, .bool b2] 26))
  have BW := Lib.hid (below_new w (.cells #[.slice (some ⟨tb, toff, none⟩) 16 cA, .slice (some ⟨lb, loff, none⟩) 8 cB, .int .i64 k, .bool b1, .bool b2] 26))
  have hsz : (w.alloc (.cells #[.slice (some ⟨tb, toff, none⟩) 16 cA, .slice (some ⟨lb, loff, none⟩) 8 cB, .int .i64 k, .bool b1, .bool b2] 26)).heap.size = w.heap.size + 1 := by simp
  have HSZ := Lib.hid hsz
  have O0 := Lib.hid (own_at' (w.alloc (.cells #[.slice (some ⟨tb, toff, none⟩) 16 cA, .slice (some ⟨lb, loff, none⟩) 8 cB, .int .i64 k, .bool b1, .bool b2] 26)) (w.alloc (.cells #[.slice (some ⟨tb, toff, none⟩) 16 cA, .slice (some ⟨lb, loff, none⟩) 8 cB, .int .i64 k, .bool b1, .bool b2] 26)).heap.size (w.heap.size + 1) [] (Nat.le_refl _) (by simp) (by simp))
  have B0 := Lib.hid ((Below.refl (w.alloc (.cells #[.slice (some ⟨tb, toff, none⟩) 16 cA, .slice (some ⟨lb, loff, none⟩) 8 cB, .int .i64 k, .bool b1, .bool b2] 26)).heap.size (w.alloc (.cells #[.slice (some ⟨tb, toff, none⟩) 16 cA, .slice (some ⟨lb, loff, none⟩) 8 cB, .int .i64 k, .bool b1, .bool b2] 26))).alloc (Nat.le_refl _) (.cells (ivs []).toArray 3))
  have BB : Hid (∀ wr, Below (w.alloc (.cells #[.slice (some ⟨tb, toff, none⟩) 16 cA, .slice (some ⟨lb, loff, none⟩) 8 cB, .int .i64 k, .bool b1, .bool b2] 26)).heap.size (w.alloc (.cells #[.slice (some ⟨tb, toff, none⟩) 16 cA, .slice (some ⟨lb, loff, none⟩) 8 cB, .int .i64 k, .bool b1, .bool b2] 26)) wr → Below w.heap.size w wr) := Lib.hid fun wr h => BW.out.trans (h.mono (by rw [hsz]; omega))
  have TC : Hid (∀ wr, Below (w.alloc (.cells #[.slice (some ⟨tb, toff, none⟩) 16 cA, .slice (some ⟨lb, loff, none⟩) 8 cB, .int .i64 k, .bool b1, .bool b2] 26)).heap.size (w.alloc (.cells #[.slice (some ⟨tb, toff, none⟩) 16 cA, .slice (some ⟨lb, loff, none⟩) 8 cB, .int .i64 k, .bool b1, .bool b2] 26)) wr → ∀ j, j < t.length → wr.cell? ⟨tb, toff + j, none⟩ = some (.int .i64 (t.getD j 0))) := Lib.hid fun wr h j hj => by
    rw [(BB.out wr h).cell (p := ⟨tb, toff + j, none⟩) htb]; exact htc j hj
  have I1 : Hid (∀ wr, Below (w.alloc (.cells #[.slice (some ⟨tb, toff, none⟩) 16 cA, .slice (some ⟨lb, loff, none⟩) 8 cB, .int .i64 k, .bool b1, .bool b2] 26)).heap.size (w.alloc (.cells #[.slice (some ⟨tb, toff, none⟩) 16 cA, .slice (some ⟨lb, loff, none⟩) 8 cB, .int .i64 k, .bool b1, .bool b2] 26)) wr → Ints wr wr.heap.size (some ⟨tb, toff, none⟩) t) := Lib.hid fun wr h => ⟨by omega, .inr ⟨tb, toff, rfl, Nat.lt_of_lt_of_le htb (BB.out wr h).size, TC.out wr h⟩⟩
  have I2 : Hid (∀ wr, Below (w.alloc (.cells #[.slice (some ⟨tb, toff, none⟩) 16 cA, .slice (some ⟨lb, loff, none⟩) 8 cB, .int .i64 k, .bool b1, .bool b2] 26)).heap.size (w.alloc (.cells #[.slice (some ⟨tb, toff, none⟩) 16 cA, .slice (some ⟨lb, loff, none⟩) 8 cB, .int .i64 k, .bool b1, .bool b2] 26)) wr → Ints wr wr.heap.size (some ⟨lb, loff, none⟩) l) := Lib.hid fun wr h => ⟨by omega, .inr ⟨lb, loff, rfl, Nat.lt_of_lt_of_le hlb (BB.out wr h).size, fun j hj => by rw [(BB.out wr h).cell (p := ⟨lb, loff + j, none⟩) hlb]; exact hlc j hj⟩⟩
  have KC : Hid (∀ wr, Below (w.alloc (.cells #[.slice (some ⟨tb, toff, none⟩) 16 cA, .slice (some ⟨lb, loff, none⟩) 8 cB, .int .i64 k, .bool b1, .bool b2] 26)).heap.size (w.alloc (.cells #[.slice (some ⟨tb, toff, none⟩) 16 cA, .slice (some ⟨lb, loff, none⟩) 8 cB, .int .i64 k, .bool b1, .bool b2] 26)) wr → wr.heap[w.heap.size]? = some (.cells #[.slice (some ⟨tb, toff, none⟩) 16 cA, .slice (some ⟨lb, loff, none⟩) 8 cB, .int .i64 k, .bool b1, .bool b2] 26 (0, 0))) := Lib.hid fun wr h => by
    rw [h.block w.heap.size (by rw [hsz]; omega)]; exact HK.out
  have SO := Lib.hid spec_softened_any
  have HBL : Hid ((bordF t l k).length = 17) := Lib.hid (bordF_len (m := 8) ht hl)
  have HSL : Hid ((soL (bordF t l k)).length = 15) := Lib.hid (by rw [soL_len, bordF_len (m := 8) ht hl])
  have HSB : Hid ((soL (bordF t l k)).length = 15) := Lib.hid (by rw [soL_len, bordF_len (m := 8) ht hl])
  have HNX := Lib.hid fun y (hy : y < 8) => prd_row (t := t) (l := l) (k := k) (b1 := b1) (b2 := b2) (mode := mode) hy
  have HRL := Lib.hid fun y => rowPF_len t l k b1 b2 8 mode y
  have HCL := Lib.hid (prdF_len t l k b1 b2 8 mode)
  obtain ⟨C, hC⟩ : ∃ C, C = prdF t l k b1 b2 8 mode := ⟨_, rfl⟩
  rw [← hC] at HNX HCL ⊢
  clear hC hsz ht hl htc hlc hms hmw hmd
  go_enter Try.func36, Try.ntmps36
  go_wp2_with fail
  refine (NK.out _ (I1.out _ B0.out) (I2.out _ B0.out)).mono ?_
  rintro e w1 ⟨rfl, hb1⟩
  have O1 := Lib.hid (O0.out.kept hb1 (Nat.le_refl _)); have B1 := Lib.hid (below_up B0.out hb1 B0.out.size)
  clear hb1 O0 B0
  go_wp2_with fail
  refine (MW.out _).mono ?_
  rintro e w2 ⟨rfl, hb2⟩
  have O2 := Lib.hid (O1.out.kept hb2 (Nat.le_refl _)); have B2 := Lib.hid (below_up B1.out hb2 B1.out.size)
  clear hb2 O1 B1
  obtain ⟨c0, c1, c2, c3, c4⟩ := cells5 (KC.out _ B2.out)
  go_wp2_with fail
  refine (BD.out _ (I1.out _ B2.out) (I2.out _ B2.out)).mono ?_
  rintro e w3 ⟨AR, cR, rfl, hoR, hb3⟩
  have O3 := Lib.hid (O2.out.kept hb3 (Nat.le_refl _)); have B3 := Lib.hid (below_up B2.out hb3 B2.out.size)
  have R3 := Lib.hid (hoR.ints (by rw [HBL.out]; decide))
  have hgt2 : w.heap.size + 1 < w3.heap.size := by have h1 := (O2.out.block (w.heap.size + 1) rfl).2; have h2 := hb3.size; omega
  have HGT := Lib.hid hgt2
  clear hb3 hoR c0 c1 c2 c3 c4 O2 B2 hgt2
  have SOB := Lib.hid fun A c w h => SO.out A c (bordF t l k) (by rw [HBL.out]; decide) w h
  rw [HBL.out, HSB.out] at SOB
  go_wp2_with fail
  refine (SOB.out _ _ _ R3.out).mono ?_
  rintro e w4 ⟨AQ, cQ, rfl, hoQ, hb4⟩
  have O4 := Lib.hid (O3.out.kept hb4 (Nat.le_refl _)); have B4 := Lib.hid (below_up B3.out hb4 B3.out.size)
  have Q4 := Lib.hid (hoQ.ints (by rw [HSB.out]; decide)); have QN4 := Lib.hid (hoQ.not_lo HGT.out); have QC4 : Hid (15 ≤ cQ) := Lib.hid (by have := hoQ.cap_le; rw [HSB.out] at this; exact this)
  have HGT4 := Lib.hid (Nat.lt_of_lt_of_le HGT.out hb4.size)
  clear hb4 hoQ O3 B3 R3
  go_wp2
  go_loopw [7, 10] (fun v x10 wr => ∃ y : Nat, y ≤ 8 ∧ x10 = .int .i64 y ∧ wr.ownsRow (w.alloc (.cells #[.slice (some ⟨tb, toff, none⟩) 16 cA, .slice (some ⟨lb, loff, none⟩) 8 cB, .int .i64 k, .bool b1, .bool b2] 26)).heap.size 3 1 v (y * 8) (ivs (C.take (y * 8))) ∧ FarOf v (w.heap.size + 1) w4.heap.size ∧ Ints wr w4.heap.size AQ (soL (bordF t l k)) ∧ w4.heap.size ≤ wr.heap.size ∧ Below (w.alloc (.cells #[.slice (some ⟨tb, toff, none⟩) 16 cA, .slice (some ⟨lb, loff, none⟩) 8 cB, .int .i64 k, .bool b1, .bool b2] 26)).heap.size (w.alloc (.cells #[.slice (some ⟨tb, toff, none⟩) 16 cA, .slice (some ⟨lb, loff, none⟩) 8 cB, .int .i64 k, .bool b1, .bool b2] 26)) wr)
    (fun _ x10 _ => 8 - (intOf x10).toNat)
  case atStart => exact ⟨0, Nat.zero_le _, rfl, O4.out, .inr (.inl rfl), Q4.out, Nat.le_refl _, B4.out⟩
  case round =>
    obtain ⟨y, hyN, rfl, hown, hfar, hview, hsize, hbel⟩ := hrel
    by_cases hly : y < 8
    · have d1 : decide ((y : Int) < 8) = true := by simp; omega
      obtain ⟨c0, c1, c2, c3, c4⟩ := cells5 (KC.out _ hbel)
      have hnx := HNX.out y hly
      have hrl := HRL.out y
      have RX := Lib.hid fun AS sc w hs h1 h2 h3 => RW.out y AS sc w hly hs h1 h2 h3
      obtain ⟨z, hz⟩ : ∃ z, z = rowPF t l k b1 b2 8 mode y := ⟨_, rfl⟩
      rw [← hz] at hnx hrl RX
      have HX := Lib.hid hnx; have HO := Lib.hid hown; have HB := Lib.hid hbel; have HF := Lib.hid hfar; have HV := Lib.hid hview; have HS := Lib.hid hsize
      clear hz hnx hown hbel hfar hview hsize
      go_wp2_with fail
      refine (RX.out AQ cQ _ QC4.out (I1.out _ HB.out) (I2.out _ HB.out) (HV.out.mono HS.out)).mono ?_
      rintro e wa ⟨AH, cH, rfl, hih, hph, hba⟩
      have OA := own_keep HO.out hba
      have HBA := Lib.hid (below_up HB.out hba HB.out.size)
      have HVA := Lib.hid (HV.out.below hba HS.out); have HSA := Lib.hid (Nat.le_trans HS.out hba.size)
      clear hba c0 c1 c2 c3 c4 HO HB HV HS hph
      go_wp2_with (at_builtin; refine append_ints_at rfl (.tmp 48) (.tmp 54) 24 rfl (w.alloc (.cells #[.slice (some ⟨tb, toff, none⟩) 16 cA, .slice (some ⟨lb, loff, none⟩) 8 cB, .int .i64 k, .bool b1, .bool b2] 26)).heap.size i0 Try.underlying24 hi hz0 hz1 hz2 _ _ _ rfl OA _ _ _ z hrl.symm rfl _ hih (by omega) (by omega) HBA.out.size ?_; intro v' wb hownb hgr hat)
      have HO' := Lib.hid hownb; have HG := Lib.hid hgr; have HL' := Lib.hid OA.lt; have HAT := Lib.hid hat
      clear hownb hgr hat OA hih
      go_roundw
      case rel => exact ⟨y + 1, by omega, by go_num, by rw [Nat.add_mul, Nat.one_mul, HX.out]; exact HO'.out, HF.out.grew HAT.out HSA.out, HVA.out.past QN4.out HF.out HG.out HSA.out, Nat.le_trans HSA.out HG.out.size, HBA.out.grown HG.out HBA.out.size fun k hk => (HL'.out k hk).1⟩
      case measure => simp [intOf]; omega
    · obtain rfl : y = 8 := by omega
      have e1 : C.take (8 * 8) = C := List.take_of_length_le (by rw [HCL.out]; exact Nat.le_refl _)
      rw [e1] at hown
      obtain ⟨A3, c3, hv3, ho3⟩ := own_slice hown
      rw [HCL.out] at hv3
      subst hv3
      have O9 := Lib.hid (own_lower ho3 (base' := w.heap.size) (by rw [HSZ.out]; omega)); have B9 := Lib.hid (BB.out _ hbel)
      clear hown hbel ho3 e1 hview hfar
      go_wp2
      go_ret
      exact ⟨_, _, rfl, O9.out, B9.out⟩

set_option maxRecDepth 100000 in
set_option maxHeartbeats 8000000 in
theorem spec_fastpred_4_4 (tb toff : Nat) (cA : Nat) (lb loff : Nat) (cB : Nat) (t l : List Int) (k : Int) (b1 b2 : Bool) (ht : t.length = 8) (hl : l.length = 4) (hcA : 8 ≤ cA) (w : World) (htb : tb < w.heap.size) (hlb : lb < w.heap.size)
    (htc : ∀ j, j < t.length → w.cell? ⟨tb, toff + j, none⟩ = some (.int .i64 (t.getD j 0))) (hlc : ∀ j, j < l.length → w.cell? ⟨lb, loff + j, none⟩ = some (.int .i64 (l.getD j 0)))
    (NK : Hid (∀ w, Ints w w.heap.size (some ⟨tb, toff, none⟩) t → Ints w w.heap.size (some ⟨lb, loff, none⟩) l → Calls Try.prog 15 #[.agg #[.slice (some ⟨tb, toff, none⟩) 8 cA, .slice (some ⟨lb, loff, none⟩) 4 cB, .int .i64 k, .bool b1, .bool b2], .int .i64 4] w fun e w' => e = .returned (.bool true) ∧ Below w.heap.size w w'))
    (BD : Hid (∀ w, Ints w w.heap.size (some ⟨tb, toff, none⟩) t → Ints w w.heap.size (some ⟨lb, loff, none⟩) l → Calls Try.prog 67 #[.agg #[.slice (some ⟨tb, toff, none⟩) 8 cA, .slice (some ⟨lb, loff, none⟩) 4 cB, .int .i64 k, .bool b1, .bool b2], .int .i64 4] w fun e w' => ∃ A' c, e = .returned (.slice A' 9 c) ∧ OwnI w' w.heap.size A' c (bordF t l k) ∧ Below w.heap.size w w'))
    (RW : Hid (∀ (y : Nat) (AS : Option Addr) (sc : Nat) w, y < 4 → 7 ≤ sc → Ints w w.heap.size (some ⟨tb, toff, none⟩) t → Ints w w.heap.size (some ⟨lb, loff, none⟩) l → Ints w w.heap.size AS (soL (t ++ [t.getD 7 0])) → Calls Try.prog 68 #[.int .i64 4, .agg #[.slice (some ⟨tb, toff, none⟩) 8 cA, .slice (some ⟨lb, loff, none⟩) 4 cB, .int .i64 k, .bool b1, .bool b2], .int .i64 4, .int .i64 y, .slice AS 7 sc] w fun e w' => ∃ A' c, e = .returned (.slice A' 4 c) ∧ Ints w' w'.heap.size A' (rowPF t l k b1 b2 4 4 y) ∧ Placed A' c ∧ Below w.heap.size w w')) :
    Calls Try.prog 36 #[.int .i64 4, .agg #[.slice (some ⟨tb, toff, none⟩) 8 cA, .slice (some ⟨lb, loff, none⟩) 4 cB, .int .i64 k, .bool b1, .bool b2], .int .i64 4] w fun e w' => ∃ A' c, e = .returned (.slice A' 16 c) ∧ OwnI w' w.heap.size A' c (prdF t l k b1 b2 4 4) ∧ Below w.heap.size w w' := by
  obtain ⟨i0, hi, hz0, hz1, hz2⟩ := info_parts Try.iinfo
  have hmd : mdOk 4 = true := by decide
  have MW := Lib.hid (spec_modeword_any 4)
  have hmw := mwS_word 4
  rw [hmd] at hmw
  obtain ⟨ms, hms⟩ : ∃ s, s = mwS 4 := ⟨_, rfl⟩
  rw [← hms] at MW hmw
  have hmw2 : ms.toList.isEmpty = false := by simpa using hmw
  have HTL := Lib.hid ht; have HLL := Lib.hid hl
  have HK := Lib.hid (heap_alloc_new w (.cells #[.slice (some ⟨tb, toff, none⟩) 8 cA, .slice (some ⟨lb, loff, none⟩) 4 cB, .int .i64 k, .bool b1, .bool b2] 26))
  have BW := Lib.hid (below_new w (.cells #[.slice (some ⟨tb, toff, none⟩) 8 cA, .slice (some ⟨lb, loff, none⟩) 4 cB, .int .i64 k, .bool b1, .bool b2] 26))
  have hsz : (w.alloc (.cells #[.slice (some ⟨tb, toff, none⟩) 8 cA, .slice (some ⟨lb, loff, none⟩) 4 cB, .int .i64 k, .bool b1, .bool b2] 26)).heap.size = w.heap.size + 1 := by simp
  have HSZ := Lib.hid hsz
  have O0 := Lib.hid (own_at' (w.alloc (.cells #[.slice (some ⟨tb, toff, none⟩) 8 cA, .slice (some ⟨lb, loff, none⟩) 4 cB, .int .i64 k, .bool b1, .bool b2] 26)) (w.alloc (.cells #[.slice (some ⟨tb, toff, none⟩) 8 cA, .slice (some ⟨lb, loff, none⟩) 4 cB, .int .i64 k, .bool b1, .bool b2] 26)).heap.size (w.heap.size + 1) [] (Nat.le_refl _) (by simp) (by simp))
  have B0 := Lib.hid ((Below.refl (w.alloc (.cells #[.slice (some ⟨tb, toff, none⟩) 8 cA, .slice (some ⟨lb, loff, none⟩) 4 cB, .int .i64 k, .bool b1, .bool b2] 26)).heap.size (w.alloc (.cells #[.slice (some ⟨tb, toff, none⟩) 8 cA, .slice (some ⟨lb, loff, none⟩) 4 cB, .int .i64 k, .bool b1, .bool b2] 26))).alloc (Nat.le_refl _) (.cells (ivs []).toArray 3))
  have BB : Hid (∀ wr, Below (w.alloc (.cells #[.slice (some ⟨tb, toff, none⟩) 8 cA, .slice (some ⟨lb, loff, none⟩) 4 cB, .int .i64 k, .bool b1, .bool b2] 26)).heap.size (w.alloc (.cells #[.slice (some ⟨tb, toff, none⟩) 8 cA, .slice (some ⟨lb, loff, none⟩) 4 cB, .int .i64 k, .bool b1, .bool b2] 26)) wr → Below w.heap.size w wr) := Lib.hid fun wr h => BW.out.trans (h.mono (by rw [hsz]; omega))
  have TC : Hid (∀ wr, Below (w.alloc (.cells #[.slice (some ⟨tb, toff, none⟩) 8 cA, .slice (some ⟨lb, loff, none⟩) 4 cB, .int .i64 k, .bool b1, .bool b2] 26)).heap.size (w.alloc (.cells #[.slice (some ⟨tb, toff, none⟩) 8 cA, .slice (some ⟨lb, loff, none⟩) 4 cB, .int .i64 k, .bool b1, .bool b2] 26)) wr → ∀ j, j < t.length → wr.cell? ⟨tb, toff + j, none⟩ = some (.int .i64 (t.getD j 0))) := Lib.hid fun wr h j hj => by
    rw [(BB.out wr h).cell (p := ⟨tb, toff + j, none⟩) htb]; exact htc j hj
  have I1 : Hid (∀ wr, Below (w.alloc (.cells #[.slice (some ⟨tb, toff, none⟩) 8 cA, .slice (some ⟨lb, loff, none⟩) 4 cB, .int .i64 k, .bool b1, .bool b2] 26)).heap.size (w.alloc (.cells #[.slice (some ⟨tb, toff, none⟩) 8 cA, .slice (some ⟨lb, loff, none⟩) 4 cB, .int .i64 k, .bool b1, .bool b2] 26)) wr → Ints wr wr.heap.size (some ⟨tb, toff, none⟩) t) := Lib.hid fun wr h => ⟨by omega, .inr ⟨tb, toff, rfl, Nat.lt_of_lt_of_le htb (BB.out wr h).size, TC.out wr h⟩⟩
  have I2 : Hid (∀ wr, Below (w.alloc (.cells #[.slice (some ⟨tb, toff, none⟩) 8 cA, .slice (some ⟨lb, loff, none⟩) 4 cB, .int .i64 k, .bool b1, .bool b2] 26)).heap.size (w.alloc (.cells #[.slice (some ⟨tb, toff, none⟩) 8 cA, .slice (some ⟨lb, loff, none⟩) 4 cB, .int .i64 k, .bool b1, .bool b2] 26)) wr → Ints wr wr.heap.size (some ⟨lb, loff, none⟩) l) := Lib.hid fun wr h => ⟨by omega, .inr ⟨lb, loff, rfl, Nat.lt_of_lt_of_le hlb (BB.out wr h).size, fun j hj => by rw [(BB.out wr h).cell (p := ⟨lb, loff + j, none⟩) hlb]; exact hlc j hj⟩⟩
  have KC : Hid (∀ wr, Below (w.alloc (.cells #[.slice (some ⟨tb, toff, none⟩) 8 cA, .slice (some ⟨lb, loff, none⟩) 4 cB, .int .i64 k, .bool b1, .bool b2] 26)).heap.size (w.alloc (.cells #[.slice (some ⟨tb, toff, none⟩) 8 cA, .slice (some ⟨lb, loff, none⟩) 4 cB, .int .i64 k, .bool b1, .bool b2] 26)) wr → wr.heap[w.heap.size]? = some (.cells #[.slice (some ⟨tb, toff, none⟩) 8 cA, .slice (some ⟨lb, loff, none⟩) 4 cB, .int .i64 k, .bool b1, .bool b2] 26 (0, 0))) := Lib.hid fun wr h => by
    rw [h.block w.heap.size (by rw [hsz]; omega)]; exact HK.out
  have SO := Lib.hid spec_softened_any
  have HBL : Hid ((bordF t l k).length = 9) := Lib.hid (bordF_len (m := 4) ht hl)
  have HSL : Hid ((soL (t ++ [t.getD 7 0])).length = 7) := Lib.hid (by rw [soL_len, List.length_append, ht]; rfl)
  have HSB : Hid ((soL (bordF t l k)).length = 7) := Lib.hid (by rw [soL_len, bordF_len (m := 4) ht hl])
  have HNX := Lib.hid fun y (hy : y < 4) => prd_row (t := t) (l := l) (k := k) (b1 := b1) (b2 := b2) (mode := 4) hy
  have HRL := Lib.hid fun y => rowPF_len t l k b1 b2 4 4 y
  have HCL := Lib.hid (prdF_len t l k b1 b2 4 4)
  obtain ⟨C, hC⟩ : ∃ C, C = prdF t l k b1 b2 4 4 := ⟨_, rfl⟩
  rw [← hC] at HNX HCL ⊢
  clear hC hsz ht hl htc hlc hms hmw hmd
  go_enter Try.func36, Try.ntmps36
  go_wp2_with fail
  refine (NK.out _ (I1.out _ B0.out) (I2.out _ B0.out)).mono ?_
  rintro e w1 ⟨rfl, hb1⟩
  have O1 := Lib.hid (O0.out.kept hb1 (Nat.le_refl _)); have B1 := Lib.hid (below_up B0.out hb1 B0.out.size)
  clear hb1 O0 B0
  go_wp2_with fail
  refine (MW.out _).mono ?_
  rintro e w2 ⟨rfl, hb2⟩
  have O2 := Lib.hid (O1.out.kept hb2 (Nat.le_refl _)); have B2 := Lib.hid (below_up B1.out hb2 B1.out.size)
  clear hb2 O1 B1
  obtain ⟨c0, c1, c2, c3, c4⟩ := cells5 (KC.out _ B2.out)
  go_wp2_with fail
  refine (BD.out _ (I1.out _ B2.out) (I2.out _ B2.out)).mono ?_
  rintro e w3 ⟨AR, cR, rfl, hoR, hb3⟩
  have O3 := Lib.hid (O2.out.kept hb3 (Nat.le_refl _)); have B3 := Lib.hid (below_up B2.out hb3 B2.out.size)
  have R3 := Lib.hid (hoR.ints (by rw [HBL.out]; decide))
  have hgt2 : w.heap.size + 1 < w3.heap.size := by have h1 := (O2.out.block (w.heap.size + 1) rfl).2; have h2 := hb3.size; omega
  have HGT := Lib.hid hgt2
  clear hb3 hoR c0 c1 c2 c3 c4 O2 B2 hgt2
  have SOB := Lib.hid fun A c w h => SO.out A c (bordF t l k) (by rw [HBL.out]; decide) w h
  rw [HBL.out, HSB.out] at SOB
  go_wp2_with fail
  refine (SOB.out _ _ _ R3.out).mono ?_
  rintro e w4 ⟨AQ, cQ, rfl, hoQ, hb4⟩
  have O4 := Lib.hid (O3.out.kept hb4 (Nat.le_refl _)); have B4 := Lib.hid (below_up B3.out hb4 B3.out.size)
  have Q4 := Lib.hid (hoQ.ints (by rw [HSB.out]; decide)); have QN4 := Lib.hid (hoQ.not_lo HGT.out); have QC4 : Hid (7 ≤ cQ) := Lib.hid (by have := hoQ.cap_le; rw [HSB.out] at this; exact this)
  have HGT4 := Lib.hid (Nat.lt_of_lt_of_le HGT.out hb4.size)
  clear hb4 hoQ O3 B3 R3
  have BV : Hid (∀ wr, Below w4.heap.size w4 wr → Below (w.alloc (.cells #[.slice (some ⟨tb, toff, none⟩) 8 cA, .slice (some ⟨lb, loff, none⟩) 4 cB, .int .i64 k, .bool b1, .bool b2] 26)).heap.size (w.alloc (.cells #[.slice (some ⟨tb, toff, none⟩) 8 cA, .slice (some ⟨lb, loff, none⟩) 4 cB, .int .i64 k, .bool b1, .bool b2] 26)) wr) := Lib.hid fun wr h => below_up B4.out h B4.out.size
  have T0 : Hid (OwnI (w4.alloc (.cells #[] 3)) w4.heap.size (some ⟨w4.heap.size, 0, none⟩) 0 []) := Lib.hid (own_ints w4 w4.heap.size [] (Nat.le_refl _) (by simp))
  have BT0 : Hid (Below w4.heap.size w4 (w4.alloc (.cells #[] 3))) := Lib.hid ((Below.refl w4.heap.size w4).alloc (Nat.le_refl _) (.cells (ivs []).toArray 3))
  have TLT := Lib.hid (World.ownsRow.lt T0.out)
  obtain ⟨c0, c1, c2, c3, c4⟩ := cells5 (KC.out _ (BV.out _ BT0.out))
  obtain ⟨x, hx⟩ : ∃ x, x = t.getD 7 0 := ⟨_, rfl⟩
  have TX : Hid (∀ wr, Below w4.heap.size w4 wr → wr.cell? ⟨tb, toff + 7, none⟩ = some (.int .i64 x)) := Lib.hid fun wr h => by rw [hx]; exact TC.out wr (BV.out wr h) 7 (by rw [HTL.out]; decide)
  have HTX : Hid ((t ++ [x]).length = 9) := Lib.hid (by rw [List.length_append, HTL.out]; rfl)
  have SOT := Lib.hid fun A c w h => SO.out A c (t ++ [x]) (by rw [HTX.out]; decide) w h
  rw [← hx] at HSL RW
  rw [HTX.out, HSL.out] at SOT
  clear hx
  go_wp2_with (first
    | (at_builtin; refine append_ints_at rfl (.tmp 28) (.tmp 30) 24 rfl w4.heap.size i0 Try.underlying24 hi hz0 hz1 hz2 _ 0 [] rfl T0.out _ _ _ t HTL.out.symm rfl _ (I1.out _ (BV.out _ BT0.out)) (by rw [HTL.out]; decide) (by omega) BT0.out.size ?_; intro v5 w5 hown5 hgr hat; have b5 := Below.grown BT0.out hgr BT0.out.size fun k hk => (TLT.out k hk).1; have B5 := Lib.hid b5; have T5 := Lib.hid hown5; obtain ⟨d0, d1, d2, d3, d4⟩ := cells5 (KC.out _ (BV.out _ b5)); have dx := TX.out _ b5; clear hgr hat hown5 b5 c0 c1 c2 c3 c4)
    | (at_builtin; refine append_lit w5 rfl (.tmp 32) (.tmp 40) 24 rfl w4 3 i0 (.int .i64 0) 8 Try.underlying24 hi hz0 hz1 hz2 rfl _ _ _ rfl T5.out [_] rfl (by simp [Value.oneCell']) rfl (by simp) (by unfold maxLen; simp) B5.out ?_; intro v6 w6 hown6 hb6; obtain ⟨A6, c6, hv6, ho6⟩ := own_slice (l := t ++ [x]) (by rw [ivs_append]; exact hown6); rw [HTX.out] at hv6; subst hv6; have T6 := Lib.hid ho6; have B6 := Lib.hid hb6; clear hown6 ho6 hb6 d0 d1 d2 d3 d4 dx T5 B5))
  refine (SOT.out _ _ _ (T6.out.ints (by rw [HTX.out]; decide))).mono ?_
  rintro e w9 ⟨AE, cE, rfl, hoE, hb9⟩
  have BE := Lib.hid (below_up B6.out hb9 B6.out.size)
  have O9 := Lib.hid (O4.out.kept BE.out (Nat.le_refl _)); have B9 := Lib.hid (BV.out _ BE.out)
  have Q9 := Lib.hid (hoE.ints (by rw [HSL.out]; decide)); have QN9 := Lib.hid (hoE.not_lo (Nat.lt_of_lt_of_le HGT4.out B6.out.size)); have QC9 : Hid (7 ≤ cE) := Lib.hid (by have := hoE.cap_le; rw [HSL.out] at this; exact this)
  clear hb9 hoE T6 B6 BE O4 B4 BT0 T0
  go_wp2
  go_loopw [7, 10] (fun v x10 wr => ∃ y : Nat, y ≤ 4 ∧ x10 = .int .i64 y ∧ wr.ownsRow (w.alloc (.cells #[.slice (some ⟨tb, toff, none⟩) 8 cA, .slice (some ⟨lb, loff, none⟩) 4 cB, .int .i64 k, .bool b1, .bool b2] 26)).heap.size 3 1 v (y * 4) (ivs (C.take (y * 4))) ∧ FarOf v (w.heap.size + 1) w9.heap.size ∧ Ints wr w9.heap.size AE (soL (t ++ [x])) ∧ w9.heap.size ≤ wr.heap.size ∧ Below (w.alloc (.cells #[.slice (some ⟨tb, toff, none⟩) 8 cA, .slice (some ⟨lb, loff, none⟩) 4 cB, .int .i64 k, .bool b1, .bool b2] 26)).heap.size (w.alloc (.cells #[.slice (some ⟨tb, toff, none⟩) 8 cA, .slice (some ⟨lb, loff, none⟩) 4 cB, .int .i64 k, .bool b1, .bool b2] 26)) wr)
    (fun _ x10 _ => 4 - (intOf x10).toNat)
  case atStart => exact ⟨0, Nat.zero_le _, rfl, O9.out, .inr (.inl rfl), Q9.out, Nat.le_refl _, B9.out⟩
  case round =>
    obtain ⟨y, hyN, rfl, hown, hfar, hview, hsize, hbel⟩ := hrel
    by_cases hly : y < 4
    · have d1 : decide ((y : Int) < 4) = true := by simp; omega
      obtain ⟨c0, c1, c2, c3, c4⟩ := cells5 (KC.out _ hbel)
      have hnx := HNX.out y hly
      have hrl := HRL.out y
      have RX := Lib.hid fun AS sc w hs h1 h2 h3 => RW.out y AS sc w hly hs h1 h2 h3
      obtain ⟨z, hz⟩ : ∃ z, z = rowPF t l k b1 b2 4 4 y := ⟨_, rfl⟩
      rw [← hz] at hnx hrl RX
      have HX := Lib.hid hnx; have HO := Lib.hid hown; have HB := Lib.hid hbel; have HF := Lib.hid hfar; have HV := Lib.hid hview; have HS := Lib.hid hsize
      clear hz hnx hown hbel hfar hview hsize
      go_wp2_with fail
      refine (RX.out AE cE _ QC9.out (I1.out _ HB.out) (I2.out _ HB.out) (HV.out.mono HS.out)).mono ?_
      rintro e wa ⟨AH, cH, rfl, hih, hph, hba⟩
      have OA := own_keep HO.out hba
      have HBA := Lib.hid (below_up HB.out hba HB.out.size)
      have HVA := Lib.hid (HV.out.below hba HS.out); have HSA := Lib.hid (Nat.le_trans HS.out hba.size)
      clear hba c0 c1 c2 c3 c4 HO HB HV HS hph
      go_wp2_with (at_builtin; refine append_ints_at rfl (.tmp 48) (.tmp 54) 24 rfl (w.alloc (.cells #[.slice (some ⟨tb, toff, none⟩) 8 cA, .slice (some ⟨lb, loff, none⟩) 4 cB, .int .i64 k, .bool b1, .bool b2] 26)).heap.size i0 Try.underlying24 hi hz0 hz1 hz2 _ _ _ rfl OA _ _ _ z hrl.symm rfl _ hih (by omega) (by omega) HBA.out.size ?_; intro v' wb hownb hgr hat)
      have HO' := Lib.hid hownb; have HG := Lib.hid hgr; have HL' := Lib.hid OA.lt; have HAT := Lib.hid hat
      clear hownb hgr hat OA hih
      go_roundw
      case rel => exact ⟨y + 1, by omega, by go_num, by rw [Nat.add_mul, Nat.one_mul, HX.out]; exact HO'.out, HF.out.grew HAT.out HSA.out, HVA.out.past QN9.out HF.out HG.out HSA.out, Nat.le_trans HSA.out HG.out.size, HBA.out.grown HG.out HBA.out.size fun k hk => (HL'.out k hk).1⟩
      case measure => simp [intOf]; omega
    · obtain rfl : y = 4 := by omega
      have e1 : C.take (4 * 4) = C := List.take_of_length_le (by rw [HCL.out]; exact Nat.le_refl _)
      rw [e1] at hown
      obtain ⟨A3, c3, hv3, ho3⟩ := own_slice hown
      rw [HCL.out] at hv3
      subst hv3
      have O9 := Lib.hid (own_lower ho3 (base' := w.heap.size) (by rw [HSZ.out]; omega)); have B9 := Lib.hid (BB.out _ hbel)
      clear hown hbel ho3 e1 hview hfar
      go_wp2
      go_ret
      exact ⟨_, _, rfl, O9.out, B9.out⟩

set_option maxRecDepth 100000 in
set_option maxHeartbeats 8000000 in
theorem spec_fastpred_8_4 (tb toff : Nat) (cA : Nat) (lb loff : Nat) (cB : Nat) (t l : List Int) (k : Int) (b1 b2 : Bool) (ht : t.length = 16) (hl : l.length = 8) (hcA : 16 ≤ cA) (w : World) (htb : tb < w.heap.size) (hlb : lb < w.heap.size)
    (htc : ∀ j, j < t.length → w.cell? ⟨tb, toff + j, none⟩ = some (.int .i64 (t.getD j 0))) (hlc : ∀ j, j < l.length → w.cell? ⟨lb, loff + j, none⟩ = some (.int .i64 (l.getD j 0)))
    (NK : Hid (∀ w, Ints w w.heap.size (some ⟨tb, toff, none⟩) t → Ints w w.heap.size (some ⟨lb, loff, none⟩) l → Calls Try.prog 15 #[.agg #[.slice (some ⟨tb, toff, none⟩) 16 cA, .slice (some ⟨lb, loff, none⟩) 8 cB, .int .i64 k, .bool b1, .bool b2], .int .i64 8] w fun e w' => e = .returned (.bool true) ∧ Below w.heap.size w w'))
    (BD : Hid (∀ w, Ints w w.heap.size (some ⟨tb, toff, none⟩) t → Ints w w.heap.size (some ⟨lb, loff, none⟩) l → Calls Try.prog 67 #[.agg #[.slice (some ⟨tb, toff, none⟩) 16 cA, .slice (some ⟨lb, loff, none⟩) 8 cB, .int .i64 k, .bool b1, .bool b2], .int .i64 8] w fun e w' => ∃ A' c, e = .returned (.slice A' 17 c) ∧ OwnI w' w.heap.size A' c (bordF t l k) ∧ Below w.heap.size w w'))
    (RW : Hid (∀ (y : Nat) (AS : Option Addr) (sc : Nat) w, y < 8 → 15 ≤ sc → Ints w w.heap.size (some ⟨tb, toff, none⟩) t → Ints w w.heap.size (some ⟨lb, loff, none⟩) l → Ints w w.heap.size AS (soL (t ++ [t.getD 15 0])) → Calls Try.prog 68 #[.int .i64 4, .agg #[.slice (some ⟨tb, toff, none⟩) 16 cA, .slice (some ⟨lb, loff, none⟩) 8 cB, .int .i64 k, .bool b1, .bool b2], .int .i64 8, .int .i64 y, .slice AS 15 sc] w fun e w' => ∃ A' c, e = .returned (.slice A' 8 c) ∧ Ints w' w'.heap.size A' (rowPF t l k b1 b2 8 4 y) ∧ Placed A' c ∧ Below w.heap.size w w')) :
    Calls Try.prog 36 #[.int .i64 4, .agg #[.slice (some ⟨tb, toff, none⟩) 16 cA, .slice (some ⟨lb, loff, none⟩) 8 cB, .int .i64 k, .bool b1, .bool b2], .int .i64 8] w fun e w' => ∃ A' c, e = .returned (.slice A' 64 c) ∧ OwnI w' w.heap.size A' c (prdF t l k b1 b2 8 4) ∧ Below w.heap.size w w' := by
  obtain ⟨i0, hi, hz0, hz1, hz2⟩ := info_parts Try.iinfo
  have hmd : mdOk 4 = true := by decide
  have MW := Lib.hid (spec_modeword_any 4)
  have hmw := mwS_word 4
  rw [hmd] at hmw
  obtain ⟨ms, hms⟩ : ∃ s, s = mwS 4 := ⟨_, rfl⟩
  rw [← hms] at MW hmw
  have hmw2 : ms.toList.isEmpty = false := by simpa using hmw
  have HTL := Lib.hid ht; have HLL := Lib.hid hl
  have HK := Lib.hid (heap_alloc_new w (.cells #[.slice (some ⟨tb, toff, none⟩) 16 cA, .slice (some ⟨lb, loff, none⟩) 8 cB, .int .i64 k, .bool b1, .bool b2] 26))
  have BW := Lib.hid (below_new w (.cells #[.slice (some ⟨tb, toff, none⟩) 16 cA, .slice (some ⟨lb, loff, none⟩) 8 cB, .int .i64 k, .bool b1, .bool b2] 26))
  have hsz : (w.alloc (.cells #[.slice (some ⟨tb, toff, none⟩) 16 cA, .slice (some ⟨lb, loff, none⟩) 8 cB, .int .i64 k, .bool b1, .bool b2] 26)).heap.size = w.heap.size + 1 := by simp
  have HSZ := Lib.hid hsz
  have O0 := Lib.hid (own_at' (w.alloc (.cells #[.slice (some ⟨tb, toff, none⟩) 16 cA, .slice (some ⟨lb, loff, none⟩) 8 cB, .int .i64 k, .bool b1, .bool b2] 26)) (w.alloc (.cells #[.slice (some ⟨tb, toff, none⟩) 16 cA, .slice (some ⟨lb, loff, none⟩) 8 cB, .int .i64 k, .bool b1, .bool b2] 26)).heap.size (w.heap.size + 1) [] (Nat.le_refl _) (by simp) (by simp))
  have B0 := Lib.hid ((Below.refl (w.alloc (.cells #[.slice (some ⟨tb, toff, none⟩) 16 cA, .slice (some ⟨lb, loff, none⟩) 8 cB, .int .i64 k, .bool b1, .bool b2] 26)).heap.size (w.alloc (.cells #[.slice (some ⟨tb, toff, none⟩) 16 cA, .slice (some ⟨lb, loff, none⟩) 8 cB, .int .i64 k, .bool b1, .bool b2] 26))).alloc (Nat.le_refl _) (.cells (ivs []).toArray 3))
  have BB : Hid (∀ wr, Below (w.alloc (.cells #[.slice (some ⟨tb, toff, none⟩) 16 cA, .slice (some ⟨lb, loff, none⟩) 8 cB, .int .i64 k, .bool b1, .bool b2] 26)).heap.size (w.alloc (.cells #[.slice (some ⟨tb, toff, none⟩) 16 cA, .slice (some ⟨lb, loff, none⟩) 8 cB, .int .i64 k, .bool b1, .bool b2] 26)) wr → Below w.heap.size w wr) := Lib.hid fun wr h => BW.out.trans (h.mono (by rw [hsz]; omega))
  have TC : Hid (∀ wr, Below (w.alloc (.cells #[.slice (some ⟨tb, toff, none⟩) 16 cA, .slice (some ⟨lb, loff, none⟩) 8 cB, .int .i64 k, .bool b1, .bool b2] 26)).heap.size (w.alloc (.cells #[.slice (some ⟨tb, toff, none⟩) 16 cA, .slice (some ⟨lb, loff, none⟩) 8 cB, .int .i64 k, .bool b1, .bool b2] 26)) wr → ∀ j, j < t.length → wr.cell? ⟨tb, toff + j, none⟩ = some (.int .i64 (t.getD j 0))) := Lib.hid fun wr h j hj => by
    rw [(BB.out wr h).cell (p := ⟨tb, toff + j, none⟩) htb]; exact htc j hj
  have I1 : Hid (∀ wr, Below (w.alloc (.cells #[.slice (some ⟨tb, toff, none⟩) 16 cA, .slice (some ⟨lb, loff, none⟩) 8 cB, .int .i64 k, .bool b1, .bool b2] 26)).heap.size (w.alloc (.cells #[.slice (some ⟨tb, toff, none⟩) 16 cA, .slice (some ⟨lb, loff, none⟩) 8 cB, .int .i64 k, .bool b1, .bool b2] 26)) wr → Ints wr wr.heap.size (some ⟨tb, toff, none⟩) t) := Lib.hid fun wr h => ⟨by omega, .inr ⟨tb, toff, rfl, Nat.lt_of_lt_of_le htb (BB.out wr h).size, TC.out wr h⟩⟩
  have I2 : Hid (∀ wr, Below (w.alloc (.cells #[.slice (some ⟨tb, toff, none⟩) 16 cA, .slice (some ⟨lb, loff, none⟩) 8 cB, .int .i64 k, .bool b1, .bool b2] 26)).heap.size (w.alloc (.cells #[.slice (some ⟨tb, toff, none⟩) 16 cA, .slice (some ⟨lb, loff, none⟩) 8 cB, .int .i64 k, .bool b1, .bool b2] 26)) wr → Ints wr wr.heap.size (some ⟨lb, loff, none⟩) l) := Lib.hid fun wr h => ⟨by omega, .inr ⟨lb, loff, rfl, Nat.lt_of_lt_of_le hlb (BB.out wr h).size, fun j hj => by rw [(BB.out wr h).cell (p := ⟨lb, loff + j, none⟩) hlb]; exact hlc j hj⟩⟩
  have KC : Hid (∀ wr, Below (w.alloc (.cells #[.slice (some ⟨tb, toff, none⟩) 16 cA, .slice (some ⟨lb, loff, none⟩) 8 cB, .int .i64 k, .bool b1, .bool b2] 26)).heap.size (w.alloc (.cells #[.slice (some ⟨tb, toff, none⟩) 16 cA, .slice (some ⟨lb, loff, none⟩) 8 cB, .int .i64 k, .bool b1, .bool b2] 26)) wr → wr.heap[w.heap.size]? = some (.cells #[.slice (some ⟨tb, toff, none⟩) 16 cA, .slice (some ⟨lb, loff, none⟩) 8 cB, .int .i64 k, .bool b1, .bool b2] 26 (0, 0))) := Lib.hid fun wr h => by
    rw [h.block w.heap.size (by rw [hsz]; omega)]; exact HK.out
  have SO := Lib.hid spec_softened_any
  have HBL : Hid ((bordF t l k).length = 17) := Lib.hid (bordF_len (m := 8) ht hl)
  have HSL : Hid ((soL (t ++ [t.getD 15 0])).length = 15) := Lib.hid (by rw [soL_len, List.length_append, ht]; rfl)
  have HSB : Hid ((soL (bordF t l k)).length = 15) := Lib.hid (by rw [soL_len, bordF_len (m := 8) ht hl])
  have HNX := Lib.hid fun y (hy : y < 8) => prd_row (t := t) (l := l) (k := k) (b1 := b1) (b2 := b2) (mode := 4) hy
  have HRL := Lib.hid fun y => rowPF_len t l k b1 b2 8 4 y
  have HCL := Lib.hid (prdF_len t l k b1 b2 8 4)
  obtain ⟨C, hC⟩ : ∃ C, C = prdF t l k b1 b2 8 4 := ⟨_, rfl⟩
  rw [← hC] at HNX HCL ⊢
  clear hC hsz ht hl htc hlc hms hmw hmd
  go_enter Try.func36, Try.ntmps36
  go_wp2_with fail
  refine (NK.out _ (I1.out _ B0.out) (I2.out _ B0.out)).mono ?_
  rintro e w1 ⟨rfl, hb1⟩
  have O1 := Lib.hid (O0.out.kept hb1 (Nat.le_refl _)); have B1 := Lib.hid (below_up B0.out hb1 B0.out.size)
  clear hb1 O0 B0
  go_wp2_with fail
  refine (MW.out _).mono ?_
  rintro e w2 ⟨rfl, hb2⟩
  have O2 := Lib.hid (O1.out.kept hb2 (Nat.le_refl _)); have B2 := Lib.hid (below_up B1.out hb2 B1.out.size)
  clear hb2 O1 B1
  obtain ⟨c0, c1, c2, c3, c4⟩ := cells5 (KC.out _ B2.out)
  go_wp2_with fail
  refine (BD.out _ (I1.out _ B2.out) (I2.out _ B2.out)).mono ?_
  rintro e w3 ⟨AR, cR, rfl, hoR, hb3⟩
  have O3 := Lib.hid (O2.out.kept hb3 (Nat.le_refl _)); have B3 := Lib.hid (below_up B2.out hb3 B2.out.size)
  have R3 := Lib.hid (hoR.ints (by rw [HBL.out]; decide))
  have hgt2 : w.heap.size + 1 < w3.heap.size := by have h1 := (O2.out.block (w.heap.size + 1) rfl).2; have h2 := hb3.size; omega
  have HGT := Lib.hid hgt2
  clear hb3 hoR c0 c1 c2 c3 c4 O2 B2 hgt2
  have SOB := Lib.hid fun A c w h => SO.out A c (bordF t l k) (by rw [HBL.out]; decide) w h
  rw [HBL.out, HSB.out] at SOB
  go_wp2_with fail
  refine (SOB.out _ _ _ R3.out).mono ?_
  rintro e w4 ⟨AQ, cQ, rfl, hoQ, hb4⟩
  have O4 := Lib.hid (O3.out.kept hb4 (Nat.le_refl _)); have B4 := Lib.hid (below_up B3.out hb4 B3.out.size)
  have Q4 := Lib.hid (hoQ.ints (by rw [HSB.out]; decide)); have QN4 := Lib.hid (hoQ.not_lo HGT.out); have QC4 : Hid (15 ≤ cQ) := Lib.hid (by have := hoQ.cap_le; rw [HSB.out] at this; exact this)
  have HGT4 := Lib.hid (Nat.lt_of_lt_of_le HGT.out hb4.size)
  clear hb4 hoQ O3 B3 R3
  have BV : Hid (∀ wr, Below w4.heap.size w4 wr → Below (w.alloc (.cells #[.slice (some ⟨tb, toff, none⟩) 16 cA, .slice (some ⟨lb, loff, none⟩) 8 cB, .int .i64 k, .bool b1, .bool b2] 26)).heap.size (w.alloc (.cells #[.slice (some ⟨tb, toff, none⟩) 16 cA, .slice (some ⟨lb, loff, none⟩) 8 cB, .int .i64 k, .bool b1, .bool b2] 26)) wr) := Lib.hid fun wr h => below_up B4.out h B4.out.size
  have T0 : Hid (OwnI (w4.alloc (.cells #[] 3)) w4.heap.size (some ⟨w4.heap.size, 0, none⟩) 0 []) := Lib.hid (own_ints w4 w4.heap.size [] (Nat.le_refl _) (by simp))
  have BT0 : Hid (Below w4.heap.size w4 (w4.alloc (.cells #[] 3))) := Lib.hid ((Below.refl w4.heap.size w4).alloc (Nat.le_refl _) (.cells (ivs []).toArray 3))
  have TLT := Lib.hid (World.ownsRow.lt T0.out)
  obtain ⟨c0, c1, c2, c3, c4⟩ := cells5 (KC.out _ (BV.out _ BT0.out))
  obtain ⟨x, hx⟩ : ∃ x, x = t.getD 15 0 := ⟨_, rfl⟩
  have TX : Hid (∀ wr, Below w4.heap.size w4 wr → wr.cell? ⟨tb, toff + 15, none⟩ = some (.int .i64 x)) := Lib.hid fun wr h => by rw [hx]; exact TC.out wr (BV.out wr h) 15 (by rw [HTL.out]; decide)
  have HTX : Hid ((t ++ [x]).length = 17) := Lib.hid (by rw [List.length_append, HTL.out]; rfl)
  have SOT := Lib.hid fun A c w h => SO.out A c (t ++ [x]) (by rw [HTX.out]; decide) w h
  rw [← hx] at HSL RW
  rw [HTX.out, HSL.out] at SOT
  clear hx
  go_wp2_with (first
    | (at_builtin; refine append_ints_at rfl (.tmp 28) (.tmp 30) 24 rfl w4.heap.size i0 Try.underlying24 hi hz0 hz1 hz2 _ 0 [] rfl T0.out _ _ _ t HTL.out.symm rfl _ (I1.out _ (BV.out _ BT0.out)) (by rw [HTL.out]; decide) (by omega) BT0.out.size ?_; intro v5 w5 hown5 hgr hat; have b5 := Below.grown BT0.out hgr BT0.out.size fun k hk => (TLT.out k hk).1; have B5 := Lib.hid b5; have T5 := Lib.hid hown5; obtain ⟨d0, d1, d2, d3, d4⟩ := cells5 (KC.out _ (BV.out _ b5)); have dx := TX.out _ b5; clear hgr hat hown5 b5 c0 c1 c2 c3 c4)
    | (at_builtin; refine append_lit w5 rfl (.tmp 32) (.tmp 40) 24 rfl w4 3 i0 (.int .i64 0) 8 Try.underlying24 hi hz0 hz1 hz2 rfl _ _ _ rfl T5.out [_] rfl (by simp [Value.oneCell']) rfl (by simp) (by unfold maxLen; simp) B5.out ?_; intro v6 w6 hown6 hb6; obtain ⟨A6, c6, hv6, ho6⟩ := own_slice (l := t ++ [x]) (by rw [ivs_append]; exact hown6); rw [HTX.out] at hv6; subst hv6; have T6 := Lib.hid ho6; have B6 := Lib.hid hb6; clear hown6 ho6 hb6 d0 d1 d2 d3 d4 dx T5 B5))
  refine (SOT.out _ _ _ (T6.out.ints (by rw [HTX.out]; decide))).mono ?_
  rintro e w9 ⟨AE, cE, rfl, hoE, hb9⟩
  have BE := Lib.hid (below_up B6.out hb9 B6.out.size)
  have O9 := Lib.hid (O4.out.kept BE.out (Nat.le_refl _)); have B9 := Lib.hid (BV.out _ BE.out)
  have Q9 := Lib.hid (hoE.ints (by rw [HSL.out]; decide)); have QN9 := Lib.hid (hoE.not_lo (Nat.lt_of_lt_of_le HGT4.out B6.out.size)); have QC9 : Hid (15 ≤ cE) := Lib.hid (by have := hoE.cap_le; rw [HSL.out] at this; exact this)
  clear hb9 hoE T6 B6 BE O4 B4 BT0 T0
  go_wp2
  go_loopw [7, 10] (fun v x10 wr => ∃ y : Nat, y ≤ 8 ∧ x10 = .int .i64 y ∧ wr.ownsRow (w.alloc (.cells #[.slice (some ⟨tb, toff, none⟩) 16 cA, .slice (some ⟨lb, loff, none⟩) 8 cB, .int .i64 k, .bool b1, .bool b2] 26)).heap.size 3 1 v (y * 8) (ivs (C.take (y * 8))) ∧ FarOf v (w.heap.size + 1) w9.heap.size ∧ Ints wr w9.heap.size AE (soL (t ++ [x])) ∧ w9.heap.size ≤ wr.heap.size ∧ Below (w.alloc (.cells #[.slice (some ⟨tb, toff, none⟩) 16 cA, .slice (some ⟨lb, loff, none⟩) 8 cB, .int .i64 k, .bool b1, .bool b2] 26)).heap.size (w.alloc (.cells #[.slice (some ⟨tb, toff, none⟩) 16 cA, .slice (some ⟨lb, loff, none⟩) 8 cB, .int .i64 k, .bool b1, .bool b2] 26)) wr)
    (fun _ x10 _ => 8 - (intOf x10).toNat)
  case atStart => exact ⟨0, Nat.zero_le _, rfl, O9.out, .inr (.inl rfl), Q9.out, Nat.le_refl _, B9.out⟩
  case round =>
    obtain ⟨y, hyN, rfl, hown, hfar, hview, hsize, hbel⟩ := hrel
    by_cases hly : y < 8
    · have d1 : decide ((y : Int) < 8) = true := by simp; omega
      obtain ⟨c0, c1, c2, c3, c4⟩ := cells5 (KC.out _ hbel)
      have hnx := HNX.out y hly
      have hrl := HRL.out y
      have RX := Lib.hid fun AS sc w hs h1 h2 h3 => RW.out y AS sc w hly hs h1 h2 h3
      obtain ⟨z, hz⟩ : ∃ z, z = rowPF t l k b1 b2 8 4 y := ⟨_, rfl⟩
      rw [← hz] at hnx hrl RX
      have HX := Lib.hid hnx; have HO := Lib.hid hown; have HB := Lib.hid hbel; have HF := Lib.hid hfar; have HV := Lib.hid hview; have HS := Lib.hid hsize
      clear hz hnx hown hbel hfar hview hsize
      go_wp2_with fail
      refine (RX.out AE cE _ QC9.out (I1.out _ HB.out) (I2.out _ HB.out) (HV.out.mono HS.out)).mono ?_
      rintro e wa ⟨AH, cH, rfl, hih, hph, hba⟩
      have OA := own_keep HO.out hba
      have HBA := Lib.hid (below_up HB.out hba HB.out.size)
      have HVA := Lib.hid (HV.out.below hba HS.out); have HSA := Lib.hid (Nat.le_trans HS.out hba.size)
      clear hba c0 c1 c2 c3 c4 HO HB HV HS hph
      go_wp2_with (at_builtin; refine append_ints_at rfl (.tmp 48) (.tmp 54) 24 rfl (w.alloc (.cells #[.slice (some ⟨tb, toff, none⟩) 16 cA, .slice (some ⟨lb, loff, none⟩) 8 cB, .int .i64 k, .bool b1, .bool b2] 26)).heap.size i0 Try.underlying24 hi hz0 hz1 hz2 _ _ _ rfl OA _ _ _ z hrl.symm rfl _ hih (by omega) (by omega) HBA.out.size ?_; intro v' wb hownb hgr hat)
      have HO' := Lib.hid hownb; have HG := Lib.hid hgr; have HL' := Lib.hid OA.lt; have HAT := Lib.hid hat
      clear hownb hgr hat OA hih
      go_roundw
      case rel => exact ⟨y + 1, by omega, by go_num, by rw [Nat.add_mul, Nat.one_mul, HX.out]; exact HO'.out, HF.out.grew HAT.out HSA.out, HVA.out.past QN9.out HF.out HG.out HSA.out, Nat.le_trans HSA.out HG.out.size, HBA.out.grown HG.out HBA.out.size fun k hk => (HL'.out k hk).1⟩
      case measure => simp [intOf]; omega
    · obtain rfl : y = 8 := by omega
      have e1 : C.take (8 * 8) = C := List.take_of_length_le (by rw [HCL.out]; exact Nat.le_refl _)
      rw [e1] at hown
      obtain ⟨A3, c3, hv3, ho3⟩ := own_slice hown
      rw [HCL.out] at hv3
      subst hv3
      have O9 := Lib.hid (own_lower ho3 (base' := w.heap.size) (by rw [HSZ.out]; omega)); have B9 := Lib.hid (BB.out _ hbel)
      clear hown hbel ho3 e1 hview hfar
      go_wp2
      go_ret
      exact ⟨_, _, rfl, O9.out, B9.out⟩
end Go.Proofs.Ytjgbenhjafgimaa

namespace Go.Proofs.Ytjgbenhjafgimaa
open Go.RowKit
set_option linter.unusedVariables false

theorem ints_parts {w : World} {g b off : Nat} {l : List Int} (h : Ints w g (some ⟨b, off, none⟩) l) (hp : 0 < l.length) : b < g ∧ ∀ j, j < l.length → w.cell? ⟨b, off + j, none⟩ = some (.int .i64 (l.getD j 0)) := by
  obtain ⟨b', off', he, h1, h2⟩ := h.at 0 hp
  cases he
  exact ⟨h1, h2⟩
theorem prdL_nil {mode : Int} {t l : List Int} {k : Int} {b1 b2 : Bool} {n : Int} (h : ¬ (nbOk t l k n = true ∧ mdOk mode = true)) : prdL mode t l k b1 b2 n = [] := if_neg h
theorem md_cases {mode : Int} (h : mdOk mode = true) : mode = 0 ∨ mode = 1 ∨ mode = 2 ∨ mode = 3 ∨ mode = 4 ∨ mode = 5 := by
  simp only [mdOk, Bool.and_eq_true, decide_eq_true_eq] at h
  omega

/-- .. for a square of 4. -/
theorem spec_fastpred_4 (mode : Int) (hmd : mdOk mode = true) (tb toff : Nat) (cA : Nat) (lb loff : Nat) (cB : Nat) (t l : List Int) (k : Int) (b1 b2 : Bool) (hok : nbOk t l k 4 = true) (ht : t.length = 8) (hl : l.length = 4) (hpt : ∀ i, i < 2 * 4 → 0 ≤ t.getD i 0 ∧ t.getD i 0 ≤ 255) (hpl : ∀ i, i < 4 → 0 ≤ l.getD i 0 ∧ l.getD i 0 ≤ 255) (hk : 0 ≤ k ∧ k ≤ 255) (hcA : 8 ≤ cA) (w : World)
    (hT : Ints w w.heap.size (some ⟨tb, toff, none⟩) t) (hL : Ints w w.heap.size (some ⟨lb, loff, none⟩) l) :
    Calls Try.prog 36 #[.int .i64 mode, .agg #[.slice (some ⟨tb, toff, none⟩) 8 cA, .slice (some ⟨lb, loff, none⟩) 4 cB, .int .i64 k, .bool b1, .bool b2], .int .i64 4] w fun e w' => ∃ A' c, e = .returned (.slice A' (prdF t l k b1 b2 4 mode).length c) ∧ OwnI w' w.heap.size A' c (prdF t l k b1 b2 4 mode) ∧ Below w.heap.size w w' := by
  have hcA' : t.length ≤ cA := by rw [ht]; exact hcA
  have NK := Lib.hid fun w h1 h2 => spec_nbok_any (some ⟨tb, toff, none⟩) cA (some ⟨lb, loff, none⟩) cB t l k b1 b2 4 w h1 h2
  have BD := Lib.hid fun w h1 h2 => spec_border_any (some ⟨tb, toff, none⟩) cA (some ⟨lb, loff, none⟩) cB t l k b1 b2 4 w h1 h2 hcA'
  have MN := Lib.hid fun w h1 h2 => spec_mean_any (some ⟨tb, toff, none⟩) cA (some ⟨lb, loff, none⟩) cB t l k b1 b2 4 w h1 h2 hcA'
  have SR := Lib.hid fun (y : Nat) w h1 h2 => spec_sloperow_any (some ⟨tb, toff, none⟩) cA (some ⟨lb, loff, none⟩) cB t l k b1 b2 4 (y : Int) w h1 h2 hcA'
  have eb : bordL t l k 4 = bordF t l k := by unfold bordL; rw [if_pos hok]
  have es : ∀ y : Nat, y < 4 → slL t l k 4 (y : Int) = slF t l k 4 y := fun y hy => by
    unfold slL
    rw [if_pos ⟨hok, by omega, by omega⟩]
    rfl
  have hbp := bordF_pix (m := 4) ht hl hpt hpl hk
  rw [hok] at NK
  rw [eb, bordF_len (m := 4) ht hl] at BD
  rw [ht, hl] at NK BD MN SR
  rw [prdF_len]
  have SR' : Hid (∀ y : Nat, y < 4 → ∀ w, Ints w w.heap.size (some ⟨tb, toff, none⟩) t → Ints w w.heap.size (some ⟨lb, loff, none⟩) l → Calls Try.prog 27 #[.agg #[.slice (some ⟨tb, toff, none⟩) 8 cA, .slice (some ⟨lb, loff, none⟩) 4 cB, .int .i64 k, .bool b1, .bool b2], .int .i64 4, .int .i64 y] w fun e w' => ∃ A' c, e = .returned (.slice A' 4 c) ∧ OwnI w' w.heap.size A' c (slF t l k 4 y) ∧ Below w.heap.size w w') := Lib.hid fun y hy w h1 h2 => by
    have h := SR.out y w h1 h2
    rw [es y hy, slF_len] at h
    exact h
  obtain ⟨htb, htc⟩ := ints_parts hT (by rw [ht]; decide)
  obtain ⟨hlb, hlc⟩ := ints_parts hL (by rw [hl]; decide)
  have HP : ∀ w, Ints w w.heap.size (some ⟨tb, toff, none⟩) t → tb < w.heap.size ∧ ∀ j, j < t.length → w.cell? ⟨tb, toff + j, none⟩ = some (.int .i64 (t.getD j 0)) := fun w h => ints_parts h (by rw [ht]; decide)
  have HQ : ∀ w, Ints w w.heap.size (some ⟨lb, loff, none⟩) l → lb < w.heap.size ∧ ∀ j, j < l.length → w.cell? ⟨lb, loff + j, none⟩ = some (.int .i64 (l.getD j 0)) := fun w h => ints_parts h (by rw [hl]; decide)
  have hsb : (soL (bordF t l k)).length = 7 := by rw [soL_len, bordF_len (m := 4) ht hl]
  have hst : (soL (t ++ [t.getD 7 0])).length = 7 := by rw [soL_len, List.length_append, ht]; rfl
  rcases md_cases hmd with rfl | rfl | rfl | rfl | rfl | rfl
  · exact spec_fastpred_4_o 0 hmd (by decide) tb toff cA lb loff cB t l k b1 b2 ht hl hcA w htb hlb htc hlc NK BD (Lib.hid fun y AS sc w hy hsc h1 h2 h3 => by rw [← row_flat0]; exact l17row_4_0 tb toff cA lb loff cB AS 7 sc t l k b1 b2 y hy ht hl hcA w (HP w h1).1 (HQ w h2).1 (HP w h1).2 (HQ w h2).2 _ MN)
  · exact spec_fastpred_4_o 1 hmd (by decide) tb toff cA lb loff cB t l k b1 b2 ht hl hcA w htb hlb htc hlc NK BD (Lib.hid fun y AS sc w hy hsc h1 h2 h3 => by rw [← row_down (t := t) l k b1 b2 (m := 4) y (by rw [ht]; decide)]; exact l17row_4_1 tb toff cA lb loff cB AS 7 sc t l k b1 b2 y hy ht hl hcA w (HP w h1).1 (HQ w h2).1 (HP w h1).2 (HQ w h2).2)
  · exact spec_fastpred_4_o 2 hmd (by decide) tb toff cA lb loff cB t l k b1 b2 ht hl hcA w htb hlb htc hlc NK BD (Lib.hid fun y AS sc w hy hsc h1 h2 h3 => by rw [← row_flat2]; exact l17row_4_2 tb toff cA lb loff cB AS 7 sc t l k b1 b2 y hy ht hl hcA w (HP w h1).1 (HQ w h2).1 (HP w h1).2 (HQ w h2).2)
  · exact spec_fastpred_4_o 3 hmd (by decide) tb toff cA lb loff cB t l k b1 b2 ht hl hcA w htb hlb htc hlc NK BD (Lib.hid fun y AS sc w hy hsc h1 h2 h3 => by rw [← row_slope]; exact l17row_4_3 tb toff cA lb loff cB AS 7 sc t l k b1 b2 y hy ht hl hcA w (HP w h1).1 (HQ w h2).1 (HP w h1).2 (HQ w h2).2 (Lib.hid (SR'.out y hy)))
  · exact spec_fastpred_4_4 tb toff cA lb loff cB t l k b1 b2 ht hl hcA w htb hlb htc hlc NK BD (Lib.hid fun y AS sc w hy hsc h1 h2 h3 => by obtain ⟨sb, soff, rfl, h4, h5⟩ := h3.at 0 (by rw [hst]; decide); rw [← row_left (t := t) l k b1 b2 (m := 4) (y := y) ht (by decide) hpt hy]; exact l17row_4_4 tb toff cA lb loff cB sb soff sc _ hst hsc t l k b1 b2 y hy ht hl hcA w (HP w h1).1 (HQ w h2).1 (HP w h1).2 (HQ w h2).2 h4 h5)
  · exact spec_fastpred_4_o 5 hmd (by decide) tb toff cA lb loff cB t l k b1 b2 ht hl hcA w htb hlb htc hlc NK BD (Lib.hid fun y AS sc w hy hsc h1 h2 h3 => by obtain ⟨sb, soff, rfl, h4, h5⟩ := h3.at 0 (by rw [hsb]; decide); rw [← row_right (t := t) (l := l) (k := k) b1 b2 (m := 4) (y := y) ht hl hbp hy]; exact l17row_4_5 tb toff cA lb loff cB sb soff sc _ hsb hsc t l k b1 b2 y hy ht hl hcA w (HP w h1).1 (HQ w h2).1 (HP w h1).2 (HQ w h2).2 h4 h5)

/-- .. for a square of 8. -/
theorem spec_fastpred_8 (mode : Int) (hmd : mdOk mode = true) (tb toff : Nat) (cA : Nat) (lb loff : Nat) (cB : Nat) (t l : List Int) (k : Int) (b1 b2 : Bool) (hok : nbOk t l k 8 = true) (ht : t.length = 16) (hl : l.length = 8) (hpt : ∀ i, i < 2 * 8 → 0 ≤ t.getD i 0 ∧ t.getD i 0 ≤ 255) (hpl : ∀ i, i < 8 → 0 ≤ l.getD i 0 ∧ l.getD i 0 ≤ 255) (hk : 0 ≤ k ∧ k ≤ 255) (hcA : 16 ≤ cA) (w : World)
    (hT : Ints w w.heap.size (some ⟨tb, toff, none⟩) t) (hL : Ints w w.heap.size (some ⟨lb, loff, none⟩) l) :
    Calls Try.prog 36 #[.int .i64 mode, .agg #[.slice (some ⟨tb, toff, none⟩) 16 cA, .slice (some ⟨lb, loff, none⟩) 8 cB, .int .i64 k, .bool b1, .bool b2], .int .i64 8] w fun e w' => ∃ A' c, e = .returned (.slice A' (prdF t l k b1 b2 8 mode).length c) ∧ OwnI w' w.heap.size A' c (prdF t l k b1 b2 8 mode) ∧ Below w.heap.size w w' := by
  have hcA' : t.length ≤ cA := by rw [ht]; exact hcA
  have NK := Lib.hid fun w h1 h2 => spec_nbok_any (some ⟨tb, toff, none⟩) cA (some ⟨lb, loff, none⟩) cB t l k b1 b2 8 w h1 h2
  have BD := Lib.hid fun w h1 h2 => spec_border_any (some ⟨tb, toff, none⟩) cA (some ⟨lb, loff, none⟩) cB t l k b1 b2 8 w h1 h2 hcA'
  have MN := Lib.hid fun w h1 h2 => spec_mean_any (some ⟨tb, toff, none⟩) cA (some ⟨lb, loff, none⟩) cB t l k b1 b2 8 w h1 h2 hcA'
  have SR := Lib.hid fun (y : Nat) w h1 h2 => spec_sloperow_any (some ⟨tb, toff, none⟩) cA (some ⟨lb, loff, none⟩) cB t l k b1 b2 8 (y : Int) w h1 h2 hcA'
  have eb : bordL t l k 8 = bordF t l k := by unfold bordL; rw [if_pos hok]
  have es : ∀ y : Nat, y < 8 → slL t l k 8 (y : Int) = slF t l k 8 y := fun y hy => by
    unfold slL
    rw [if_pos ⟨hok, by omega, by omega⟩]
    rfl
  have hbp := bordF_pix (m := 8) ht hl hpt hpl hk
  rw [hok] at NK
  rw [eb, bordF_len (m := 8) ht hl] at BD
  rw [ht, hl] at NK BD MN SR
  rw [prdF_len]
  have SR' : Hid (∀ y : Nat, y < 8 → ∀ w, Ints w w.heap.size (some ⟨tb, toff, none⟩) t → Ints w w.heap.size (some ⟨lb, loff, none⟩) l → Calls Try.prog 27 #[.agg #[.slice (some ⟨tb, toff, none⟩) 16 cA, .slice (some ⟨lb, loff, none⟩) 8 cB, .int .i64 k, .bool b1, .bool b2], .int .i64 8, .int .i64 y] w fun e w' => ∃ A' c, e = .returned (.slice A' 8 c) ∧ OwnI w' w.heap.size A' c (slF t l k 8 y) ∧ Below w.heap.size w w') := Lib.hid fun y hy w h1 h2 => by
    have h := SR.out y w h1 h2
    rw [es y hy, slF_len] at h
    exact h
  obtain ⟨htb, htc⟩ := ints_parts hT (by rw [ht]; decide)
  obtain ⟨hlb, hlc⟩ := ints_parts hL (by rw [hl]; decide)
  have HP : ∀ w, Ints w w.heap.size (some ⟨tb, toff, none⟩) t → tb < w.heap.size ∧ ∀ j, j < t.length → w.cell? ⟨tb, toff + j, none⟩ = some (.int .i64 (t.getD j 0)) := fun w h => ints_parts h (by rw [ht]; decide)
  have HQ : ∀ w, Ints w w.heap.size (some ⟨lb, loff, none⟩) l → lb < w.heap.size ∧ ∀ j, j < l.length → w.cell? ⟨lb, loff + j, none⟩ = some (.int .i64 (l.getD j 0)) := fun w h => ints_parts h (by rw [hl]; decide)
  have hsb : (soL (bordF t l k)).length = 15 := by rw [soL_len, bordF_len (m := 8) ht hl]
  have hst : (soL (t ++ [t.getD 15 0])).length = 15 := by rw [soL_len, List.length_append, ht]; rfl
  rcases md_cases hmd with rfl | rfl | rfl | rfl | rfl | rfl
  · exact spec_fastpred_8_o 0 hmd (by decide) tb toff cA lb loff cB t l k b1 b2 ht hl hcA w htb hlb htc hlc NK BD (Lib.hid fun y AS sc w hy hsc h1 h2 h3 => by rw [← row_flat0]; exact l17row_8_0 tb toff cA lb loff cB AS 15 sc t l k b1 b2 y hy ht hl hcA w (HP w h1).1 (HQ w h2).1 (HP w h1).2 (HQ w h2).2 _ MN)
  · exact spec_fastpred_8_o 1 hmd (by decide) tb toff cA lb loff cB t l k b1 b2 ht hl hcA w htb hlb htc hlc NK BD (Lib.hid fun y AS sc w hy hsc h1 h2 h3 => by rw [← row_down (t := t) l k b1 b2 (m := 8) y (by rw [ht]; decide)]; exact l17row_8_1 tb toff cA lb loff cB AS 15 sc t l k b1 b2 y hy ht hl hcA w (HP w h1).1 (HQ w h2).1 (HP w h1).2 (HQ w h2).2)
  · exact spec_fastpred_8_o 2 hmd (by decide) tb toff cA lb loff cB t l k b1 b2 ht hl hcA w htb hlb htc hlc NK BD (Lib.hid fun y AS sc w hy hsc h1 h2 h3 => by rw [← row_flat2]; exact l17row_8_2 tb toff cA lb loff cB AS 15 sc t l k b1 b2 y hy ht hl hcA w (HP w h1).1 (HQ w h2).1 (HP w h1).2 (HQ w h2).2)
  · exact spec_fastpred_8_o 3 hmd (by decide) tb toff cA lb loff cB t l k b1 b2 ht hl hcA w htb hlb htc hlc NK BD (Lib.hid fun y AS sc w hy hsc h1 h2 h3 => by rw [← row_slope]; exact l17row_8_3 tb toff cA lb loff cB AS 15 sc t l k b1 b2 y hy ht hl hcA w (HP w h1).1 (HQ w h2).1 (HP w h1).2 (HQ w h2).2 (Lib.hid (SR'.out y hy)))
  · exact spec_fastpred_8_4 tb toff cA lb loff cB t l k b1 b2 ht hl hcA w htb hlb htc hlc NK BD (Lib.hid fun y AS sc w hy hsc h1 h2 h3 => by obtain ⟨sb, soff, rfl, h4, h5⟩ := h3.at 0 (by rw [hst]; decide); rw [← row_left (t := t) l k b1 b2 (m := 8) (y := y) ht (by decide) hpt hy]; exact l17row_8_4 tb toff cA lb loff cB sb soff sc _ hst hsc t l k b1 b2 y hy ht hl hcA w (HP w h1).1 (HQ w h2).1 (HP w h1).2 (HQ w h2).2 h4 h5)
  · exact spec_fastpred_8_o 5 hmd (by decide) tb toff cA lb loff cB t l k b1 b2 ht hl hcA w htb hlb htc hlc NK BD (Lib.hid fun y AS sc w hy hsc h1 h2 h3 => by obtain ⟨sb, soff, rfl, h4, h5⟩ := h3.at 0 (by rw [hsb]; decide); rw [← row_right (t := t) (l := l) (k := k) b1 b2 (m := 8) (y := y) ht hl hbp hy]; exact l17row_8_5 tb toff cA lb loff cB sb soff sc _ hsb hsc t l k b1 b2 y hy ht hl hcA w (HP w h1).1 (HQ w h2).1 (HP w h1).2 (HQ w h2).2 h4 h5)

set_option maxRecDepth 100000 in
set_option maxHeartbeats 4000000 in
theorem spec_fastpred_any (mode : Int) (A : Option Addr) (cA : Nat) (B : Option Addr) (cB : Nat) (t l : List Int) (k : Int) (b1 b2 : Bool) (n : Int) (w : World) (hT : Ints w w.heap.size A t) (hL : Ints w w.heap.size B l) (hcA : t.length ≤ cA) :
    Calls Try.prog 36 #[.int .i64 mode, .agg #[.slice A t.length cA, .slice B l.length cB, .int .i64 k, .bool b1, .bool b2], .int .i64 n] w fun e w' => ∃ A' c, e = .returned (.slice A' (prdL mode t l k b1 b2 n).length c) ∧ OwnI w' w.heap.size A' c (prdL mode t l k b1 b2 n) ∧ Below w.heap.size w w' := by
  cases hok : nbOk t l k n with
  | false =>
    have NK := Lib.hid fun w h1 h2 => spec_nbok_any A cA B cB t l k b1 b2 n w h1 h2
    have bt := below_two w (.cells #[.slice A t.length cA, .slice B l.length cB, .int .i64 k, .bool b1, .bool b2] 26) (.cells (ivs []).toArray 3)
    have O0 := Lib.hid (own_at' (w.alloc (.cells #[.slice A t.length cA, .slice B l.length cB, .int .i64 k, .bool b1, .bool b2] 26)) w.heap.size (w.heap.size + 1) [] (by simp) (by simp) (by simp))
    have B0 := Lib.hid bt
    have HT := Lib.hid ((hT.below bt (Nat.le_refl _)).mono bt.size)
    have HL := Lib.hid ((hL.below bt (Nat.le_refl _)).mono bt.size)
    have hnt := hT.1; have hnl := hL.1
    rw [hok] at NK
    rw [prdL_nil (by rw [hok]; simp)]
    clear hok hT hL bt hcA
    go_enter Try.func36, Try.ntmps36
    go_wp2_with fail
    refine (NK.out _ HT.out HL.out).mono ?_
    rintro e w1 ⟨rfl, hb1⟩
    have O1 := Lib.hid (O0.out.kept hb1 (Nat.le_refl _)); have B1 := Lib.hid (below_up B0.out hb1 B0.out.size)
    clear hb1
    go_wp2
    go_ret
    exact ⟨_, _, rfl, O1.out, B1.out⟩
  | true =>
    cases hmd : mdOk mode with
    | false =>
      have NK := Lib.hid fun w h1 h2 => spec_nbok_any A cA B cB t l k b1 b2 n w h1 h2
      have bt := below_two w (.cells #[.slice A t.length cA, .slice B l.length cB, .int .i64 k, .bool b1, .bool b2] 26) (.cells (ivs []).toArray 3)
      have O0 := Lib.hid (own_at' (w.alloc (.cells #[.slice A t.length cA, .slice B l.length cB, .int .i64 k, .bool b1, .bool b2] 26)) w.heap.size (w.heap.size + 1) [] (by simp) (by simp) (by simp))
      have B0 := Lib.hid bt
      have HT := Lib.hid ((hT.below bt (Nat.le_refl _)).mono bt.size)
      have HL := Lib.hid ((hL.below bt (Nat.le_refl _)).mono bt.size)
      have hnt := hT.1; have hnl := hL.1
      rw [hok] at NK
      rw [prdL_nil (by rw [hmd]; simp)]
      have MW := Lib.hid (spec_modeword_any mode)
      have hmw := mwS_word mode
      rw [hmd] at hmw
      obtain ⟨ms, hms⟩ : ∃ s, s = mwS mode := ⟨_, rfl⟩
      rw [← hms] at MW hmw
      have hmw2 : ms.toList.isEmpty = true := by simpa using hmw
      clear hmw hok hT hL bt hcA hmd hms
      go_enter Try.func36, Try.ntmps36
      go_wp2_with fail
      refine (NK.out _ HT.out HL.out).mono ?_
      rintro e w1 ⟨rfl, hb1⟩
      have O1 := Lib.hid (O0.out.kept hb1 (Nat.le_refl _)); have B1 := Lib.hid (below_up B0.out hb1 B0.out.size)
      clear hb1
      go_wp2_with fail
      refine (MW.out _).mono ?_
      rintro e w2 ⟨rfl, hb2⟩
      have O2 := Lib.hid (O1.out.kept hb2 (Nat.le_refl _)); have B2 := Lib.hid (below_up B1.out hb2 B1.out.size)
      clear hb2
      go_wp2
      go_ret
      exact ⟨_, _, rfl, O2.out, B2.out⟩
    | true =>
      obtain ⟨m, rfl, hm, ht, hl, hpt, hpl, hk⟩ := nbOk_side hok
      have e1 : prdL mode t l k b1 b2 (m : Int) = prdF t l k b1 b2 m mode := by unfold prdL; rw [if_pos ⟨hok, hmd⟩, Int.toNat_natCast]
      rw [e1]
      obtain ⟨tb, toff, rfl, _, _⟩ := hT.at 0 (by omega)
      obtain ⟨lb, loff, rfl, _, _⟩ := hL.at 0 (by omega)
      rw [ht] at hcA
      rw [ht, hl]
      rcases hm with rfl | rfl
      · exact spec_fastpred_4 mode hmd tb toff cA lb loff cB t l k b1 b2 hok ht hl hpt hpl hk hcA w hT hL
      · exact spec_fastpred_8 mode hmd tb toff cA lb loff cB t l k b1 b2 hok ht hl hpt hpl hk hcA w hT hL
end Go.Proofs.Ytjgbenhjafgimaa
