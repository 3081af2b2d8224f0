/-
  Contracts of the model's ModeWord and Pred. Condition: a slice is no longer than it holds.
-/
import Derived.Test.YtjgbenhjafgimaaPrD
namespace Go.Proofs.Ytjgbenhjafgimaa
open Go.RowKit
set_option linter.unusedVariables false

/-- What ModeWord answers. -/
def mwS (mode : Int) : ByteArray := if mode = 0 then { data := #[109, 101, 97, 110] } else if mode = 1 then { data := #[100, 111, 119, 110] } else if mode = 2 then { data := #[97, 99, 114, 111, 115, 115] } else if mode = 3 then { data := #[115, 108, 111, 112, 101] } else if mode = 4 then { data := #[108, 101, 102, 116] } else if mode = 5 then { data := #[114, 105, 103, 104, 116] } else { data := #[] }
def mdOk (mode : Int) : Bool := decide (0 ≤ mode) && decide (mode ≤ 5)

set_option maxRecDepth 100000 in
set_option maxHeartbeats 1000000 in
theorem modeword_0 (w : World) : Calls Try.prog 47 #[.int .i64 0] w fun e w' => e = .returned (.string { data := #[109, 101, 97, 110] }) ∧ Below w.heap.size w w' := by
  have L1 := Lib.hid (l1in_at 0 5 (by omega))
  go_enter Try.func47, Try.ntmps47
  go_wp2_with fail
  refine (L1.out _).mono ?_
  rintro e wx ⟨rfl, hw⟩
  subst hw
  go_wp2
  go_ret
  exact ⟨rfl, below_new _ _⟩

set_option maxRecDepth 100000 in
set_option maxHeartbeats 1000000 in
theorem modeword_1 (w : World) : Calls Try.prog 47 #[.int .i64 1] w fun e w' => e = .returned (.string { data := #[100, 111, 119, 110] }) ∧ Below w.heap.size w w' := by
  have L1 := Lib.hid (l1in_at 1 5 (by omega))
  go_enter Try.func47, Try.ntmps47
  go_wp2_with fail
  refine (L1.out _).mono ?_
  rintro e wx ⟨rfl, hw⟩
  subst hw
  go_wp2
  go_ret
  exact ⟨rfl, below_new _ _⟩

set_option maxRecDepth 100000 in
set_option maxHeartbeats 1000000 in
theorem modeword_2 (w : World) : Calls Try.prog 47 #[.int .i64 2] w fun e w' => e = .returned (.string { data := #[97, 99, 114, 111, 115, 115] }) ∧ Below w.heap.size w w' := by
  have L1 := Lib.hid (l1in_at 2 5 (by omega))
  go_enter Try.func47, Try.ntmps47
  go_wp2_with fail
  refine (L1.out _).mono ?_
  rintro e wx ⟨rfl, hw⟩
  subst hw
  go_wp2
  go_ret
  exact ⟨rfl, below_new _ _⟩

set_option maxRecDepth 100000 in
set_option maxHeartbeats 1000000 in
theorem modeword_3 (w : World) : Calls Try.prog 47 #[.int .i64 3] w fun e w' => e = .returned (.string { data := #[115, 108, 111, 112, 101] }) ∧ Below w.heap.size w w' := by
  have L1 := Lib.hid (l1in_at 3 5 (by omega))
  go_enter Try.func47, Try.ntmps47
  go_wp2_with fail
  refine (L1.out _).mono ?_
  rintro e wx ⟨rfl, hw⟩
  subst hw
  go_wp2
  go_ret
  exact ⟨rfl, below_new _ _⟩

set_option maxRecDepth 100000 in
set_option maxHeartbeats 1000000 in
theorem modeword_4 (w : World) : Calls Try.prog 47 #[.int .i64 4] w fun e w' => e = .returned (.string { data := #[108, 101, 102, 116] }) ∧ Below w.heap.size w w' := by
  have L1 := Lib.hid (l1in_at 4 5 (by omega))
  go_enter Try.func47, Try.ntmps47
  go_wp2_with fail
  refine (L1.out _).mono ?_
  rintro e wx ⟨rfl, hw⟩
  subst hw
  go_wp2
  go_ret
  exact ⟨rfl, below_new _ _⟩

set_option maxRecDepth 100000 in
set_option maxHeartbeats 1000000 in
theorem modeword_5 (w : World) : Calls Try.prog 47 #[.int .i64 5] w fun e w' => e = .returned (.string { data := #[114, 105, 103, 104, 116] }) ∧ Below w.heap.size w w' := by
  have L1 := Lib.hid (l1in_at 5 5 (by omega))
  go_enter Try.func47, Try.ntmps47
  go_wp2_with fail
  refine (L1.out _).mono ?_
  rintro e wx ⟨rfl, hw⟩
  subst hw
  go_wp2
  go_ret
  exact ⟨rfl, below_new _ _⟩

set_option maxRecDepth 100000 in
set_option maxHeartbeats 1000000 in
theorem spec_modeword_any (mode : Int) (w : World) : Calls Try.prog 47 #[.int .i64 mode] w fun e w' => e = .returned (.string (mwS mode)) ∧ Below w.heap.size w w' := by
  by_cases h0 : mode = 0
  · subst h0
    exact modeword_0 w
  by_cases h1 : mode = 1
  · subst h1
    exact modeword_1 w
  by_cases h2 : mode = 2
  · subst h2
    exact modeword_2 w
  by_cases h3 : mode = 3
  · subst h3
    exact modeword_3 w
  by_cases h4 : mode = 4
  · subst h4
    exact modeword_4 w
  by_cases h5 : mode = 5
  · subst h5
    exact modeword_5 w
  unfold mwS
  rw [if_neg h0, if_neg h1, if_neg h2, if_neg h3, if_neg h4, if_neg h5]
  have L1 := Lib.hid (l1in_off mode 5 (by omega))
  clear h0 h1 h2 h3 h4 h5
  go_enter Try.func47, Try.ntmps47
  go_wp2_with fail
  refine (L1.out _).mono ?_
  rintro e wx ⟨rfl, hw⟩
  subst hw
  go_wp2
  go_ret
  exact ⟨rfl, Below.refl _ _⟩
theorem mwS_word (mode : Int) : (!(mwS mode).toList.isEmpty) = mdOk mode := by
  unfold mwS
  by_cases h0 : mode = 0
  · subst h0
    decide +kernel
  by_cases h1 : mode = 1
  · subst h1
    decide +kernel
  by_cases h2 : mode = 2
  · subst h2
    decide +kernel
  by_cases h3 : mode = 3
  · subst h3
    decide +kernel
  by_cases h4 : mode = 4
  · subst h4
    decide +kernel
  by_cases h5 : mode = 5
  · subst h5
    decide +kernel
  rw [if_neg h0, if_neg h1, if_neg h2, if_neg h3, if_neg h4, if_neg h5]
  have e : mdOk mode = false := by
    unfold mdOk
    by_cases h : 0 ≤ mode
    · rw [decide_eq_false (show ¬ mode ≤ 5 by omega), Bool.and_false]
    · rw [decide_eq_false h, Bool.false_and]
  rw [e]
  decide +kernel

/-- What Pred answers. -/
def prdF (t l : List Int) (k : Int) (b1 b2 : Bool) (m : Nat) (mode : Int) : List Int := (List.range (m * m)).map fun q => predF t l k b1 b2 m mode (q % m) (q / m)
def prdL (mode : Int) (t l : List Int) (k : Int) (b1 b2 : Bool) (n : Int) : List Int := if nbOk t l k n = true ∧ mdOk mode = true then prdF t l k b1 b2 n.toNat mode else []
theorem prdF_len (t l : List Int) (k : Int) (b1 b2 : Bool) (m : Nat) (mode : Int) : (prdF t l k b1 b2 m mode).length = m * m := by simp [prdF]
theorem prdL_len (mode : Int) (t l : List Int) (k : Int) (b1 b2 : Bool) (n : Int) : (prdL mode t l k b1 b2 n).length ≤ 64 := by
  unfold prdL
  split
  · rename_i h
    obtain ⟨m, rfl, hm, _⟩ := nbOk_side h.1
    rw [prdF_len, Int.toNat_natCast]
    rcases hm with rfl | rfl <;> omega
  · simp
theorem prdF_next (t l : List Int) (k : Int) (b1 b2 : Bool) (m : Nat) (mode : Int) {y x : Nat} (hy : y < m) (hx : x < m) : (prdF t l k b1 b2 m mode).take (y * m + (x + 1)) = (prdF t l k b1 b2 m mode).take (y * m + x) ++ [predF t l k b1 b2 m mode x y] := by
  have hlt : y * m + x < m * m := by
    have h1 : (y + 1) * m ≤ m * m := Nat.mul_le_mul_right m hy
    rw [Nat.add_mul, Nat.one_mul] at h1
    omega
  have e1 : (y * m + x) / m = y := by rw [Nat.add_comm, Nat.add_mul_div_right _ _ (by omega), Nat.div_eq_of_lt hx, Nat.zero_add]
  have e2 : (y * m + x) % m = x := by rw [Nat.add_comm, Nat.add_mul_mod_self_right, Nat.mod_eq_of_lt hx]
  rw [← Nat.add_assoc, List.take_add_one, prdF, List.getElem?_map, List.getElem?_range hlt, Option.map_some, e1, e2]
  rfl

set_option maxRecDepth 100000 in
set_option maxHeartbeats 4000000 in
theorem spec_pred_4 (mode : Int) (hmd : mdOk mode = true) (A : Option Addr) (cA : Nat) (B : Option Addr) (cB : Nat) (t l : List Int) (k : Int) (b1 b2 : Bool) (hok : nbOk t l k 4 = true) (w : World) (hT : Ints w w.heap.size A t) (hL : Ints w w.heap.size B l)
    (NK : Hid (∀ w, Ints w w.heap.size A t → Ints w w.heap.size B l → Calls Try.prog 15 #[.agg #[.slice A 8 cA, .slice B 4 cB, .int .i64 k, .bool b1, .bool b2], .int .i64 4] w fun e w' => e = .returned (.bool true) ∧ Below w.heap.size w w'))
    (PA : Hid (∀ (x y : Nat) w, x < 4 → y < 4 → Ints w w.heap.size A t → Ints w w.heap.size B l → Calls Try.prog 48 #[.int .i64 mode, .agg #[.slice A 8 cA, .slice B 4 cB, .int .i64 k, .bool b1, .bool b2], .int .i64 4, .int .i64 x, .int .i64 y] w fun e w' => e = .returned (.int .i64 (predF t l k b1 b2 4 mode x y)) ∧ Below w.heap.size w w')) :
    Calls Try.prog 14 #[.int .i64 mode, .agg #[.slice A 8 cA, .slice B 4 cB, .int .i64 k, .bool b1, .bool b2], .int .i64 4] w fun e w' => ∃ A' c, e = .returned (.slice A' 16 c) ∧ OwnI w' w.heap.size A' c (prdF t l k b1 b2 4 mode) ∧ Below w.heap.size w w' := by
  obtain ⟨i0, hi, hz0, hz1, hz2⟩ := info_parts Try.iinfo
  have MW := Lib.hid (spec_modeword_any mode)
  have hmw := mwS_word mode
  rw [hmd] at hmw
  obtain ⟨ms, hms⟩ : ∃ s, s = mwS mode := ⟨_, rfl⟩
  rw [← hms] at MW hmw
  have HK := Lib.hid (heap_alloc_new w (.cells #[.slice A 8 cA, .slice B 4 cB, .int .i64 k, .bool b1, .bool b2] 26))
  have BW := Lib.hid (below_new w (.cells #[.slice A 8 cA, .slice B 4 cB, .int .i64 k, .bool b1, .bool b2] 26))
  have hsz : (w.alloc (.cells #[.slice A 8 cA, .slice B 4 cB, .int .i64 k, .bool b1, .bool b2] 26)).heap.size = w.heap.size + 1 := by simp
  have HSZ := Lib.hid hsz
  have O0 := Lib.hid (own_at' (w.alloc (.cells #[.slice A 8 cA, .slice B 4 cB, .int .i64 k, .bool b1, .bool b2] 26)) (w.alloc (.cells #[.slice A 8 cA, .slice B 4 cB, .int .i64 k, .bool b1, .bool b2] 26)).heap.size (w.heap.size + 1) [] (Nat.le_refl _) (by simp) (by simp))
  have B0 := Lib.hid ((Below.refl (w.alloc (.cells #[.slice A 8 cA, .slice B 4 cB, .int .i64 k, .bool b1, .bool b2] 26)).heap.size (w.alloc (.cells #[.slice A 8 cA, .slice B 4 cB, .int .i64 k, .bool b1, .bool b2] 26))).alloc (Nat.le_refl _) (.cells (ivs []).toArray 3))
  have BB : Hid (∀ wr, Below (w.alloc (.cells #[.slice A 8 cA, .slice B 4 cB, .int .i64 k, .bool b1, .bool b2] 26)).heap.size (w.alloc (.cells #[.slice A 8 cA, .slice B 4 cB, .int .i64 k, .bool b1, .bool b2] 26)) wr → Below w.heap.size w wr) := Lib.hid fun wr h => BW.out.trans (h.mono (by rw [hsz]; omega))
  have I1 : Hid (∀ wr, Below (w.alloc (.cells #[.slice A 8 cA, .slice B 4 cB, .int .i64 k, .bool b1, .bool b2] 26)).heap.size (w.alloc (.cells #[.slice A 8 cA, .slice B 4 cB, .int .i64 k, .bool b1, .bool b2] 26)) wr → Ints wr wr.heap.size A t) := Lib.hid fun wr h => (hT.below (BB.out wr h) (Nat.le_refl _)).mono (BB.out wr h).size
  have I2 : Hid (∀ wr, Below (w.alloc (.cells #[.slice A 8 cA, .slice B 4 cB, .int .i64 k, .bool b1, .bool b2] 26)).heap.size (w.alloc (.cells #[.slice A 8 cA, .slice B 4 cB, .int .i64 k, .bool b1, .bool b2] 26)) wr → Ints wr wr.heap.size B l) := Lib.hid fun wr h => (hL.below (BB.out wr h) (Nat.le_refl _)).mono (BB.out wr h).size
  have KC : Hid (∀ wr, Below (w.alloc (.cells #[.slice A 8 cA, .slice B 4 cB, .int .i64 k, .bool b1, .bool b2] 26)).heap.size (w.alloc (.cells #[.slice A 8 cA, .slice B 4 cB, .int .i64 k, .bool b1, .bool b2] 26)) wr → wr.heap[w.heap.size]? = some (.cells #[.slice A 8 cA, .slice B 4 cB, .int .i64 k, .bool b1, .bool b2] 26 (0, 0))) := Lib.hid fun wr h => by
    rw [h.block w.heap.size (by rw [hsz]; omega)]; exact HK.out
  have HNX := Lib.hid fun y x (hy : y < 4) (hx : x < 4) => prdF_next t l k b1 b2 4 mode hy hx
  have HCL := Lib.hid (prdF_len t l k b1 b2 4 mode)
  obtain ⟨C, hC⟩ : ∃ C, C = prdF t l k b1 b2 4 mode := ⟨_, rfl⟩
  rw [← hC] at HNX HCL ⊢
  clear hC hsz hT hL hok hms hmd
  go_enter Try.func14, Try.ntmps14
  go_wp2
  go_loopw [7, 8, 9] (fun v x8 x9 wr => ∃ y : Nat, y ≤ 4 ∧ x8 = .int .i64 y ∧ wr.ownsRow (w.alloc (.cells #[.slice A 8 cA, .slice B 4 cB, .int .i64 k, .bool b1, .bool b2] 26)).heap.size 3 1 v (y * 4) (ivs (C.take (y * 4))) ∧ Below (w.alloc (.cells #[.slice A 8 cA, .slice B 4 cB, .int .i64 k, .bool b1, .bool b2] 26)).heap.size (w.alloc (.cells #[.slice A 8 cA, .slice B 4 cB, .int .i64 k, .bool b1, .bool b2] 26)) wr)
    (fun _ x8 _ _ => 4 - (intOf x8).toNat)
  case atStart => exact ⟨0, Nat.zero_le _, rfl, O0.out, B0.out⟩
  case round =>
    obtain ⟨y, hyN, rfl, hown, hbel⟩ := hrel
    by_cases hly : y < 4
    · have d1 : decide ((y : Int) < 4) = true := by simp; omega
      obtain ⟨c0, c1, c2, c3, c4⟩ := cells5 (KC.out _ hbel)
      have HO := Lib.hid hown; have HB := Lib.hid hbel
      clear hown hbel
      go_wp2_with fail
      refine (NK.out _ (I1.out _ HB.out) (I2.out _ HB.out)).mono ?_
      rintro e w1 ⟨rfl, hb1⟩
      have HO1 := Lib.hid (own_keep HO.out hb1); have HB1 := Lib.hid (below_up HB.out hb1 HB.out.size)
      clear hb1 c0 c1 c2 c3 c4 HO HB
      go_wp2_with fail
      refine (MW.out _).mono ?_
      rintro e w2 ⟨rfl, hb2⟩
      have HO2 := Lib.hid (own_keep HO1.out hb2); have HB2 := Lib.hid (below_up HB1.out hb2 HB1.out.size)
      clear hb2 HO1 HB1
      go_wp2
      go_loopw [7, 9] (fun v x9 wr => ∃ x : Nat, x ≤ 4 ∧ x9 = .int .i64 x ∧ wr.ownsRow (w.alloc (.cells #[.slice A 8 cA, .slice B 4 cB, .int .i64 k, .bool b1, .bool b2] 26)).heap.size 3 1 v (y * 4 + x) (ivs (C.take (y * 4 + x))) ∧ Below (w.alloc (.cells #[.slice A 8 cA, .slice B 4 cB, .int .i64 k, .bool b1, .bool b2] 26)).heap.size (w.alloc (.cells #[.slice A 8 cA, .slice B 4 cB, .int .i64 k, .bool b1, .bool b2] 26)) wr)
        (fun _ x9 _ => 4 - (intOf x9).toNat)
      case atStart => exact ⟨0, Nat.zero_le _, rfl, HO2.out, HB2.out⟩
      case round =>
        obtain ⟨x, hxN, rfl, hown, hbel⟩ := hrel
        by_cases hlx : x < 4
        · have d2 : decide ((x : Int) < 4) = true := by simp; omega
          obtain ⟨c0, c1, c2, c3, c4⟩ := cells5 (KC.out _ hbel)
          have hnx := HNX.out y x hly hlx
          have PX := Lib.hid fun w h1 h2 => PA.out x y w hlx hly h1 h2
          obtain ⟨u, hu⟩ : ∃ u, u = predF t l k b1 b2 4 mode x y := ⟨_, rfl⟩
          rw [← hu] at hnx PX
          have HX := Lib.hid hnx; have HO := Lib.hid hown; have HB := Lib.hid hbel
          clear hu hnx hown hbel
          go_wp2_with fail
          refine (PX.out _ (I1.out _ HB.out) (I2.out _ HB.out)).mono ?_
          rintro e w3 ⟨rfl, hb3⟩
          have O3 := own_keep HO.out hb3
          have HBB := Lib.hid (below_up HB.out hb3 HB.out.size)
          clear hb3 c0 c1 c2 c3 c4 HO HB
          go_wp2_with (at_builtin; refine append_int w3 rfl (.tmp 31) (.tmp 38) 24 rfl (w.alloc (.cells #[.slice A 8 cA, .slice B 4 cB, .int .i64 k, .bool b1, .bool b2] 26)).heap.size 3 i0 Try.underlying24 hi hz0 hz1 hz2 _ _ _ rfl O3 _ rfl rfl (by omega) HBB.out.size ?_; intro v' w' hown' hgr hvb)
          have HO' := Lib.hid hown'; have HG := Lib.hid hgr; have HL' := Lib.hid O3.lt
          clear hown' hgr hvb O3
          go_roundw
          case rel => exact ⟨x + 1, by omega, by go_num, by rw [HX.out]; exact HO'.out, HBB.out.grown HG.out HBB.out.size fun k hk => (HL'.out k hk).1⟩
          case measure => simp [intOf]; omega
        · obtain rfl : x = 4 := by omega
          have O3 := Lib.hid hown; have B3 := Lib.hid hbel
          clear hown hbel
          go_wp2
          go_roundw
          case rel => exact ⟨y + 1, by omega, by go_num, by rw [Nat.add_mul]; exact O3.out, B3.out⟩
          case measure => simp [intOf]; omega
    · obtain rfl : y = 4 := by omega
      have e1 : C.take (4 * 4) = C := List.take_of_length_le (by rw [HCL.out]; exact Nat.le_refl _)
      rw [e1] at hown
      obtain ⟨A3, c3, hv3, ho3⟩ := own_slice hown
      rw [HCL.out] at hv3
      subst hv3
      have O3 := Lib.hid (own_lower ho3 (base' := w.heap.size) (by rw [HSZ.out]; omega)); have B3 := Lib.hid (BB.out _ hbel)
      clear hown hbel ho3 e1
      go_wp2
      go_ret
      exact ⟨_, _, rfl, O3.out, B3.out⟩

set_option maxRecDepth 100000 in
set_option maxHeartbeats 4000000 in
theorem spec_pred_8 (mode : Int) (hmd : mdOk mode = true) (A : Option Addr) (cA : Nat) (B : Option Addr) (cB : Nat) (t l : List Int) (k : Int) (b1 b2 : Bool) (hok : nbOk t l k 8 = true) (w : World) (hT : Ints w w.heap.size A t) (hL : Ints w w.heap.size B l)
    (NK : Hid (∀ w, Ints w w.heap.size A t → Ints w w.heap.size B l → Calls Try.prog 15 #[.agg #[.slice A 16 cA, .slice B 8 cB, .int .i64 k, .bool b1, .bool b2], .int .i64 8] w fun e w' => e = .returned (.bool true) ∧ Below w.heap.size w w'))
    (PA : Hid (∀ (x y : Nat) w, x < 8 → y < 8 → Ints w w.heap.size A t → Ints w w.heap.size B l → Calls Try.prog 48 #[.int .i64 mode, .agg #[.slice A 16 cA, .slice B 8 cB, .int .i64 k, .bool b1, .bool b2], .int .i64 8, .int .i64 x, .int .i64 y] w fun e w' => e = .returned (.int .i64 (predF t l k b1 b2 8 mode x y)) ∧ Below w.heap.size w w')) :
    Calls Try.prog 14 #[.int .i64 mode, .agg #[.slice A 16 cA, .slice B 8 cB, .int .i64 k, .bool b1, .bool b2], .int .i64 8] w fun e w' => ∃ A' c, e = .returned (.slice A' 64 c) ∧ OwnI w' w.heap.size A' c (prdF t l k b1 b2 8 mode) ∧ Below w.heap.size w w' := by
  obtain ⟨i0, hi, hz0, hz1, hz2⟩ := info_parts Try.iinfo
  have MW := Lib.hid (spec_modeword_any mode)
  have hmw := mwS_word mode
  rw [hmd] at hmw
  obtain ⟨ms, hms⟩ : ∃ s, s = mwS mode := ⟨_, rfl⟩
  rw [← hms] at MW hmw
  have HK := Lib.hid (heap_alloc_new w (.cells #[.slice A 16 cA, .slice B 8 cB, .int .i64 k, .bool b1, .bool b2] 26))
  have BW := Lib.hid (below_new w (.cells #[.slice A 16 cA, .slice B 8 cB, .int .i64 k, .bool b1, .bool b2] 26))
  have hsz : (w.alloc (.cells #[.slice A 16 cA, .slice B 8 cB, .int .i64 k, .bool b1, .bool b2] 26)).heap.size = w.heap.size + 1 := by simp
  have HSZ := Lib.hid hsz
  have O0 := Lib.hid (own_at' (w.alloc (.cells #[.slice A 16 cA, .slice B 8 cB, .int .i64 k, .bool b1, .bool b2] 26)) (w.alloc (.cells #[.slice A 16 cA, .slice B 8 cB, .int .i64 k, .bool b1, .bool b2] 26)).heap.size (w.heap.size + 1) [] (Nat.le_refl _) (by simp) (by simp))
  have B0 := Lib.hid ((Below.refl (w.alloc (.cells #[.slice A 16 cA, .slice B 8 cB, .int .i64 k, .bool b1, .bool b2] 26)).heap.size (w.alloc (.cells #[.slice A 16 cA, .slice B 8 cB, .int .i64 k, .bool b1, .bool b2] 26))).alloc (Nat.le_refl _) (.cells (ivs []).toArray 3))
  have BB : Hid (∀ wr, Below (w.alloc (.cells #[.slice A 16 cA, .slice B 8 cB, .int .i64 k, .bool b1, .bool b2] 26)).heap.size (w.alloc (.cells #[.slice A 16 cA, .slice B 8 cB, .int .i64 k, .bool b1, .bool b2] 26)) wr → Below w.heap.size w wr) := Lib.hid fun wr h => BW.out.trans (h.mono (by rw [hsz]; omega))
  have I1 : Hid (∀ wr, Below (w.alloc (.cells #[.slice A 16 cA, .slice B 8 cB, .int .i64 k, .bool b1, .bool b2] 26)).heap.size (w.alloc (.cells #[.slice A 16 cA, .slice B 8 cB, .int .i64 k, .bool b1, .bool b2] 26)) wr → Ints wr wr.heap.size A t) := Lib.hid fun wr h => (hT.below (BB.out wr h) (Nat.le_refl _)).mono (BB.out wr h).size
  have I2 : Hid (∀ wr, Below (w.alloc (.cells #[.slice A 16 cA, .slice B 8 cB, .int .i64 k, .bool b1, .bool b2] 26)).heap.size (w.alloc (.cells #[.slice A 16 cA, .slice B 8 cB, .int .i64 k, .bool b1, .bool b2] 26)) wr → Ints wr wr.heap.size B l) := Lib.hid fun wr h => (hL.below (BB.out wr h) (Nat.le_refl _)).mono (BB.out wr h).size
  have KC : Hid (∀ wr, Below (w.alloc (.cells #[.slice A 16 cA, .slice B 8 cB, .int .i64 k, .bool b1, .bool b2] 26)).heap.size (w.alloc (.cells #[.slice A 16 cA, .slice B 8 cB, .int .i64 k, .bool b1, .bool b2] 26)) wr → wr.heap[w.heap.size]? = some (.cells #[.slice A 16 cA, .slice B 8 cB, .int .i64 k, .bool b1, .bool b2] 26 (0, 0))) := Lib.hid fun wr h => by
    rw [h.block w.heap.size (by rw [hsz]; omega)]; exact HK.out
  have HNX := Lib.hid fun y x (hy : y < 8) (hx : x < 8) => prdF_next t l k b1 b2 8 mode hy hx
  have HCL := Lib.hid (prdF_len t l k b1 b2 8 mode)
  obtain ⟨C, hC⟩ : ∃ C, C = prdF t l k b1 b2 8 mode := ⟨_, rfl⟩
  rw [← hC] at HNX HCL ⊢
  clear hC hsz hT hL hok hms hmd
  go_enter Try.func14, Try.ntmps14
  go_wp2
  go_loopw [7, 8, 9] (fun v x8 x9 wr => ∃ y : Nat, y ≤ 8 ∧ x8 = .int .i64 y ∧ wr.ownsRow (w.alloc (.cells #[.slice A 16 cA, .slice B 8 cB, .int .i64 k, .bool b1, .bool b2] 26)).heap.size 3 1 v (y * 8) (ivs (C.take (y * 8))) ∧ Below (w.alloc (.cells #[.slice A 16 cA, .slice B 8 cB, .int .i64 k, .bool b1, .bool b2] 26)).heap.size (w.alloc (.cells #[.slice A 16 cA, .slice B 8 cB, .int .i64 k, .bool b1, .bool b2] 26)) wr)
    (fun _ x8 _ _ => 8 - (intOf x8).toNat)
  case atStart => exact ⟨0, Nat.zero_le _, rfl, O0.out, B0.out⟩
  case round =>
    obtain ⟨y, hyN, rfl, hown, hbel⟩ := hrel
    by_cases hly : y < 8
    · have d1 : decide ((y : Int) < 8) = true := by simp; omega
      obtain ⟨c0, c1, c2, c3, c4⟩ := cells5 (KC.out _ hbel)
      have HO := Lib.hid hown; have HB := Lib.hid hbel
      clear hown hbel
      go_wp2_with fail
      refine (NK.out _ (I1.out _ HB.out) (I2.out _ HB.out)).mono ?_
      rintro e w1 ⟨rfl, hb1⟩
      have HO1 := Lib.hid (own_keep HO.out hb1); have HB1 := Lib.hid (below_up HB.out hb1 HB.out.size)
      clear hb1 c0 c1 c2 c3 c4 HO HB
      go_wp2_with fail
      refine (MW.out _).mono ?_
      rintro e w2 ⟨rfl, hb2⟩
      have HO2 := Lib.hid (own_keep HO1.out hb2); have HB2 := Lib.hid (below_up HB1.out hb2 HB1.out.size)
      clear hb2 HO1 HB1
      go_wp2
      go_loopw [7, 9] (fun v x9 wr => ∃ x : Nat, x ≤ 8 ∧ x9 = .int .i64 x ∧ wr.ownsRow (w.alloc (.cells #[.slice A 16 cA, .slice B 8 cB, .int .i64 k, .bool b1, .bool b2] 26)).heap.size 3 1 v (y * 8 + x) (ivs (C.take (y * 8 + x))) ∧ Below (w.alloc (.cells #[.slice A 16 cA, .slice B 8 cB, .int .i64 k, .bool b1, .bool b2] 26)).heap.size (w.alloc (.cells #[.slice A 16 cA, .slice B 8 cB, .int .i64 k, .bool b1, .bool b2] 26)) wr)
        (fun _ x9 _ => 8 - (intOf x9).toNat)
      case atStart => exact ⟨0, Nat.zero_le _, rfl, HO2.out, HB2.out⟩
      case round =>
        obtain ⟨x, hxN, rfl, hown, hbel⟩ := hrel
        by_cases hlx : x < 8
        · have d2 : decide ((x : Int) < 8) = true := by simp; omega
          obtain ⟨c0, c1, c2, c3, c4⟩ := cells5 (KC.out _ hbel)
          have hnx := HNX.out y x hly hlx
          have PX := Lib.hid fun w h1 h2 => PA.out x y w hlx hly h1 h2
          obtain ⟨u, hu⟩ : ∃ u, u = predF t l k b1 b2 8 mode x y := ⟨_, rfl⟩
          rw [← hu] at hnx PX
          have HX := Lib.hid hnx; have HO := Lib.hid hown; have HB := Lib.hid hbel
          clear hu hnx hown hbel
          go_wp2_with fail
          refine (PX.out _ (I1.out _ HB.out) (I2.out _ HB.out)).mono ?_
          rintro e w3 ⟨rfl, hb3⟩
          have O3 := own_keep HO.out hb3
          have HBB := Lib.hid (below_up HB.out hb3 HB.out.size)
          clear hb3 c0 c1 c2 c3 c4 HO HB
          go_wp2_with (at_builtin; refine append_int w3 rfl (.tmp 31) (.tmp 38) 24 rfl (w.alloc (.cells #[.slice A 16 cA, .slice B 8 cB, .int .i64 k, .bool b1, .bool b2] 26)).heap.size 3 i0 Try.underlying24 hi hz0 hz1 hz2 _ _ _ rfl O3 _ rfl rfl (by omega) HBB.out.size ?_; intro v' w' hown' hgr hvb)
          have HO' := Lib.hid hown'; have HG := Lib.hid hgr; have HL' := Lib.hid O3.lt
          clear hown' hgr hvb O3
          go_roundw
          case rel => exact ⟨x + 1, by omega, by go_num, by rw [HX.out]; exact HO'.out, HBB.out.grown HG.out HBB.out.size fun k hk => (HL'.out k hk).1⟩
          case measure => simp [intOf]; omega
        · obtain rfl : x = 8 := by omega
          have O3 := Lib.hid hown; have B3 := Lib.hid hbel
          clear hown hbel
          go_wp2
          go_roundw
          case rel => exact ⟨y + 1, by omega, by go_num, by rw [Nat.add_mul]; exact O3.out, B3.out⟩
          case measure => simp [intOf]; omega
    · obtain rfl : y = 8 := by omega
      have e1 : C.take (8 * 8) = C := List.take_of_length_le (by rw [HCL.out]; exact Nat.le_refl _)
      rw [e1] at hown
      obtain ⟨A3, c3, hv3, ho3⟩ := own_slice hown
      rw [HCL.out] at hv3
      subst hv3
      have O3 := Lib.hid (own_lower ho3 (base' := w.heap.size) (by rw [HSZ.out]; omega)); have B3 := Lib.hid (BB.out _ hbel)
      clear hown hbel ho3 e1
      go_wp2
      go_ret
      exact ⟨_, _, rfl, O3.out, B3.out⟩
end Go.Proofs.Ytjgbenhjafgimaa
