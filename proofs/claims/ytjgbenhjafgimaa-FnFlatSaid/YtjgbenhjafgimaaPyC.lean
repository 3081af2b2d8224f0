/-
  Contracts of the program's PredAt, Pred and ModeWord. Condition: a slice is no longer than it holds.
-/
import Derived.Test.YtjgbenhjafgimaaPyB
import Derived.Test.YtjgbenhjafgimaaPrF
namespace Go.Proofs.Ytjgbenhjafgimaa
open Go.RowKit
set_option linter.unusedVariables false

set_option maxRecDepth 100000 in
set_option maxHeartbeats 4000000 in
theorem predat_nomode (mode : Int) (A : Option Addr) (cA : Nat) (B : Option Addr) (cB : Nat) (t l : List Int) (k : Int) (b1 b2 : Bool) (n x y : Int) (w : World) (hT : Ints w w.heap.size A t) (hL : Ints w w.heap.size B l) (RU : Hid (∀ w, Calls Try.prog 40 #[.int .i64 mode] w fun e w' => e = .returned (.tuple #[.nilFunc, .bool false]) ∧ Below w.heap.size w w')) :
    Calls Try.prog 17 #[.int .i64 mode, .agg #[.slice A t.length cA, .slice B l.length cB, .int .i64 k, .bool b1, .bool b2], .int .i64 n, .int .i64 x, .int .i64 y] w fun e w' => e = .returned (.int .i64 (-1)) ∧ Below w.heap.size w w' := by
  have HK := Lib.hid (heap_alloc_new w (.cells #[.slice A t.length cA, .slice B l.length cB, .int .i64 k, .bool b1, .bool b2] 26))
  have BW := Lib.hid (below_new w (.cells #[.slice A t.length cA, .slice B l.length cB, .int .i64 k, .bool b1, .bool b2] 26))
  have I1 : Hid (∀ wr, Below w.heap.size w wr → Ints wr wr.heap.size A t) := Lib.hid fun wr h => (hT.below h (Nat.le_refl _)).mono h.size
  have I2 : Hid (∀ wr, Below w.heap.size w wr → Ints wr wr.heap.size B l) := Lib.hid fun wr h => (hL.below h (Nat.le_refl _)).mono h.size
  clear hT hL
  go_enter Try.func17, Try.ntmps17
  go_wp2_with fail
  refine (RU.out _).mono ?_
  rintro e w1 ⟨rfl, hb1⟩
  have B1 := Lib.hid (below_up BW.out hb1 BW.out.size)
  have K1 := Lib.hid (cell_kept HK.out hb1)
  obtain ⟨c0, c1, c2, c3, c4⟩ := cells5 K1.out
  clear hb1
  go_wp2
  go_ret
  exact ⟨rfl, B1.out⟩

set_option maxRecDepth 100000 in
set_option maxHeartbeats 4000000 in
theorem predat_nonb (mode : Int) (f : Nat) (A : Option Addr) (cA : Nat) (B : Option Addr) (cB : Nat) (t l : List Int) (k : Int) (b1 b2 : Bool) (n x y : Int) (w : World) (hT : Ints w w.heap.size A t) (hL : Ints w w.heap.size B l) (RU : Hid (∀ w, Calls Try.prog 40 #[.int .i64 mode] w fun e w' => e = .returned (.tuple #[.func (.func f) #[] #[], .bool true]) ∧ Below w.heap.size w w')) (NK : Hid (∀ w, Ints w w.heap.size A t → Ints w w.heap.size B l → Calls Try.prog 21 #[.agg #[.slice A t.length cA, .slice B l.length cB, .int .i64 k, .bool b1, .bool b2], .int .i64 n] w fun e w' => e = .returned (.bool false) ∧ Below w.heap.size w w')) :
    Calls Try.prog 17 #[.int .i64 mode, .agg #[.slice A t.length cA, .slice B l.length cB, .int .i64 k, .bool b1, .bool b2], .int .i64 n, .int .i64 x, .int .i64 y] w fun e w' => e = .returned (.int .i64 (-1)) ∧ Below w.heap.size w w' := by
  have HK := Lib.hid (heap_alloc_new w (.cells #[.slice A t.length cA, .slice B l.length cB, .int .i64 k, .bool b1, .bool b2] 26))
  have BW := Lib.hid (below_new w (.cells #[.slice A t.length cA, .slice B l.length cB, .int .i64 k, .bool b1, .bool b2] 26))
  have I1 : Hid (∀ wr, Below w.heap.size w wr → Ints wr wr.heap.size A t) := Lib.hid fun wr h => (hT.below h (Nat.le_refl _)).mono h.size
  have I2 : Hid (∀ wr, Below w.heap.size w wr → Ints wr wr.heap.size B l) := Lib.hid fun wr h => (hL.below h (Nat.le_refl _)).mono h.size
  clear hT hL
  go_enter Try.func17, Try.ntmps17
  go_wp2_with fail
  refine (RU.out _).mono ?_
  rintro e w1 ⟨rfl, hb1⟩
  have B1 := Lib.hid (below_up BW.out hb1 BW.out.size)
  have K1 := Lib.hid (cell_kept HK.out hb1)
  obtain ⟨c0, c1, c2, c3, c4⟩ := cells5 K1.out
  clear hb1
  go_wp2_with fail
  refine (NK.out _ (I1.out _ B1.out) (I2.out _ B1.out)).mono ?_
  rintro e w2 ⟨rfl, hb2⟩
  have B2 := Lib.hid (below_up B1.out hb2 B1.out.size)
  have K2 := Lib.hid (cell_kept K1.out hb2)
  clear hb2 c0 c1 c2 c3 c4
  obtain ⟨c0, c1, c2, c3, c4⟩ := cells5 K2.out
  go_wp2
  go_ret
  exact ⟨rfl, B2.out⟩

set_option maxRecDepth 100000 in
set_option maxHeartbeats 4000000 in
theorem predat_nox (mode : Int) (f : Nat) (A : Option Addr) (cA : Nat) (B : Option Addr) (cB : Nat) (t l : List Int) (k : Int) (b1 b2 : Bool) (n x y : Int) (w : World) (hT : Ints w w.heap.size A t) (hL : Ints w w.heap.size B l) (RU : Hid (∀ w, Calls Try.prog 40 #[.int .i64 mode] w fun e w' => e = .returned (.tuple #[.func (.func f) #[] #[], .bool true]) ∧ Below w.heap.size w w')) (NK : Hid (∀ w, Ints w w.heap.size A t → Ints w w.heap.size B l → Calls Try.prog 21 #[.agg #[.slice A t.length cA, .slice B l.length cB, .int .i64 k, .bool b1, .bool b2], .int .i64 n] w fun e w' => e = .returned (.bool true) ∧ Below w.heap.size w w')) (X1 : Hid (∀ w, Calls Try.prog 52 #[.int .i64 x, .int .i64 n] w fun e w' => e = .returned (.bool false) ∧ w = w')) :
    Calls Try.prog 17 #[.int .i64 mode, .agg #[.slice A t.length cA, .slice B l.length cB, .int .i64 k, .bool b1, .bool b2], .int .i64 n, .int .i64 x, .int .i64 y] w fun e w' => e = .returned (.int .i64 (-1)) ∧ Below w.heap.size w w' := by
  have HK := Lib.hid (heap_alloc_new w (.cells #[.slice A t.length cA, .slice B l.length cB, .int .i64 k, .bool b1, .bool b2] 26))
  have BW := Lib.hid (below_new w (.cells #[.slice A t.length cA, .slice B l.length cB, .int .i64 k, .bool b1, .bool b2] 26))
  have I1 : Hid (∀ wr, Below w.heap.size w wr → Ints wr wr.heap.size A t) := Lib.hid fun wr h => (hT.below h (Nat.le_refl _)).mono h.size
  have I2 : Hid (∀ wr, Below w.heap.size w wr → Ints wr wr.heap.size B l) := Lib.hid fun wr h => (hL.below h (Nat.le_refl _)).mono h.size
  clear hT hL
  go_enter Try.func17, Try.ntmps17
  go_wp2_with fail
  refine (RU.out _).mono ?_
  rintro e w1 ⟨rfl, hb1⟩
  have B1 := Lib.hid (below_up BW.out hb1 BW.out.size)
  have K1 := Lib.hid (cell_kept HK.out hb1)
  obtain ⟨c0, c1, c2, c3, c4⟩ := cells5 K1.out
  clear hb1
  go_wp2_with fail
  refine (NK.out _ (I1.out _ B1.out) (I2.out _ B1.out)).mono ?_
  rintro e w2 ⟨rfl, hb2⟩
  have B2 := Lib.hid (below_up B1.out hb2 B1.out.size)
  have K2 := Lib.hid (cell_kept K1.out hb2)
  clear hb2 c0 c1 c2 c3 c4
  obtain ⟨c0, c1, c2, c3, c4⟩ := cells5 K2.out
  go_wp2_with fail
  refine (X1.out _).mono ?_
  rintro e wx ⟨rfl, hw⟩
  subst hw
  go_wp2
  go_ret
  exact ⟨rfl, B2.out⟩

set_option maxRecDepth 100000 in
set_option maxHeartbeats 4000000 in
theorem predat_noy (mode : Int) (f : Nat) (A : Option Addr) (cA : Nat) (B : Option Addr) (cB : Nat) (t l : List Int) (k : Int) (b1 b2 : Bool) (n x y : Int) (w : World) (hT : Ints w w.heap.size A t) (hL : Ints w w.heap.size B l) (RU : Hid (∀ w, Calls Try.prog 40 #[.int .i64 mode] w fun e w' => e = .returned (.tuple #[.func (.func f) #[] #[], .bool true]) ∧ Below w.heap.size w w')) (NK : Hid (∀ w, Ints w w.heap.size A t → Ints w w.heap.size B l → Calls Try.prog 21 #[.agg #[.slice A t.length cA, .slice B l.length cB, .int .i64 k, .bool b1, .bool b2], .int .i64 n] w fun e w' => e = .returned (.bool true) ∧ Below w.heap.size w w')) (X1 : Hid (∀ w, Calls Try.prog 52 #[.int .i64 x, .int .i64 n] w fun e w' => e = .returned (.bool true) ∧ w = w')) (Y1 : Hid (∀ w, Calls Try.prog 52 #[.int .i64 y, .int .i64 n] w fun e w' => e = .returned (.bool false) ∧ w = w')) :
    Calls Try.prog 17 #[.int .i64 mode, .agg #[.slice A t.length cA, .slice B l.length cB, .int .i64 k, .bool b1, .bool b2], .int .i64 n, .int .i64 x, .int .i64 y] w fun e w' => e = .returned (.int .i64 (-1)) ∧ Below w.heap.size w w' := by
  have HK := Lib.hid (heap_alloc_new w (.cells #[.slice A t.length cA, .slice B l.length cB, .int .i64 k, .bool b1, .bool b2] 26))
  have BW := Lib.hid (below_new w (.cells #[.slice A t.length cA, .slice B l.length cB, .int .i64 k, .bool b1, .bool b2] 26))
  have I1 : Hid (∀ wr, Below w.heap.size w wr → Ints wr wr.heap.size A t) := Lib.hid fun wr h => (hT.below h (Nat.le_refl _)).mono h.size
  have I2 : Hid (∀ wr, Below w.heap.size w wr → Ints wr wr.heap.size B l) := Lib.hid fun wr h => (hL.below h (Nat.le_refl _)).mono h.size
  clear hT hL
  go_enter Try.func17, Try.ntmps17
  go_wp2_with fail
  refine (RU.out _).mono ?_
  rintro e w1 ⟨rfl, hb1⟩
  have B1 := Lib.hid (below_up BW.out hb1 BW.out.size)
  have K1 := Lib.hid (cell_kept HK.out hb1)
  obtain ⟨c0, c1, c2, c3, c4⟩ := cells5 K1.out
  clear hb1
  go_wp2_with fail
  refine (NK.out _ (I1.out _ B1.out) (I2.out _ B1.out)).mono ?_
  rintro e w2 ⟨rfl, hb2⟩
  have B2 := Lib.hid (below_up B1.out hb2 B1.out.size)
  have K2 := Lib.hid (cell_kept K1.out hb2)
  clear hb2 c0 c1 c2 c3 c4
  obtain ⟨c0, c1, c2, c3, c4⟩ := cells5 K2.out
  go_wp2_with fail
  refine (X1.out _).mono ?_
  rintro e wx ⟨rfl, hw⟩
  subst hw
  go_wp2_with fail
  refine (Y1.out _).mono ?_
  rintro e wx ⟨rfl, hw⟩
  subst hw
  go_wp2
  go_ret
  exact ⟨rfl, B2.out⟩

set_option maxRecDepth 100000 in
set_option maxHeartbeats 4000000 in
theorem predat_in (mode : Int) (f : Nat) (ef : ∀ (args : Array Value) (w : World), (callFunc f args).run Try.prog w = .ok (.enter f args) w) (A : Option Addr) (cA : Nat) (B : Option Addr) (cB : Nat) (t l : List Int) (k : Int) (b1 b2 : Bool) (r : List Int) (mv v : Int) (hr : r.length ≤ 100) (n x y : Int) (w : World) (hT : Ints w w.heap.size A t) (hL : Ints w w.heap.size B l) (RU : Hid (∀ w, Calls Try.prog 40 #[.int .i64 mode] w fun e w' => e = .returned (.tuple #[.func (.func f) #[] #[], .bool true]) ∧ Below w.heap.size w w')) (NK : Hid (∀ w, Ints w w.heap.size A t → Ints w w.heap.size B l → Calls Try.prog 21 #[.agg #[.slice A t.length cA, .slice B l.length cB, .int .i64 k, .bool b1, .bool b2], .int .i64 n] w fun e w' => e = .returned (.bool true) ∧ Below w.heap.size w w')) (X1 : Hid (∀ w, Calls Try.prog 52 #[.int .i64 x, .int .i64 n] w fun e w' => e = .returned (.bool true) ∧ w = w')) (Y1 : Hid (∀ w, Calls Try.prog 52 #[.int .i64 y, .int .i64 n] w fun e w' => e = .returned (.bool true) ∧ w = w')) (PO : Hid (∀ w, Ints w w.heap.size A t → Ints w w.heap.size B l → Calls Try.prog 41 #[.agg #[.slice A t.length cA, .slice B l.length cB, .int .i64 k, .bool b1, .bool b2], .int .i64 n] w fun e w' => ∃ R cR, e = .returned (.agg #[.slice A t.length cA, .slice B l.length cB, .int .i64 k, .bool b1, .bool b2, .slice R r.length cR, .int .i64 mv]) ∧ OwnI w' w.heap.size R cR r ∧ Below w.heap.size w w')) (RL : Hid (∀ (R : Option Addr) (cR : Nat) w, Ints w w.heap.size A t → Ints w w.heap.size B l → Ints w w.heap.size R r → Calls Try.prog f #[.agg #[.slice A t.length cA, .slice B l.length cB, .int .i64 k, .bool b1, .bool b2, .slice R r.length cR, .int .i64 mv], .int .i64 x, .int .i64 y] w fun e w' => e = .returned (.int .i64 v) ∧ Below w.heap.size w w')) :
    Calls Try.prog 17 #[.int .i64 mode, .agg #[.slice A t.length cA, .slice B l.length cB, .int .i64 k, .bool b1, .bool b2], .int .i64 n, .int .i64 x, .int .i64 y] w fun e w' => e = .returned (.int .i64 v) ∧ Below w.heap.size w w' := by
  have HK := Lib.hid (heap_alloc_new w (.cells #[.slice A t.length cA, .slice B l.length cB, .int .i64 k, .bool b1, .bool b2] 26))
  have BW := Lib.hid (below_new w (.cells #[.slice A t.length cA, .slice B l.length cB, .int .i64 k, .bool b1, .bool b2] 26))
  have I1 : Hid (∀ wr, Below w.heap.size w wr → Ints wr wr.heap.size A t) := Lib.hid fun wr h => (hT.below h (Nat.le_refl _)).mono h.size
  have I2 : Hid (∀ wr, Below w.heap.size w wr → Ints wr wr.heap.size B l) := Lib.hid fun wr h => (hL.below h (Nat.le_refl _)).mono h.size
  clear hT hL
  go_enter Try.func17, Try.ntmps17
  go_wp2_with fail
  refine (RU.out _).mono ?_
  rintro e w1 ⟨rfl, hb1⟩
  have B1 := Lib.hid (below_up BW.out hb1 BW.out.size)
  have K1 := Lib.hid (cell_kept HK.out hb1)
  obtain ⟨c0, c1, c2, c3, c4⟩ := cells5 K1.out
  clear hb1
  go_wp2_with fail
  refine (NK.out _ (I1.out _ B1.out) (I2.out _ B1.out)).mono ?_
  rintro e w2 ⟨rfl, hb2⟩
  have B2 := Lib.hid (below_up B1.out hb2 B1.out.size)
  have K2 := Lib.hid (cell_kept K1.out hb2)
  clear hb2 c0 c1 c2 c3 c4
  obtain ⟨c0, c1, c2, c3, c4⟩ := cells5 K2.out
  go_wp2_with fail
  refine (X1.out _).mono ?_
  rintro e wx ⟨rfl, hw⟩
  subst hw
  go_wp2_with fail
  refine (Y1.out _).mono ?_
  rintro e wx ⟨rfl, hw⟩
  subst hw
  go_wp2_with fail
  refine (PO.out _ (I1.out _ B2.out) (I2.out _ B2.out)).mono ?_
  rintro e w3 ⟨R, cR, rfl, ho, hb3⟩
  have B3 := Lib.hid (below_up B2.out hb3 B2.out.size)
  have RR := Lib.hid (ho.ints (by omega))
  clear hb3 ho c0 c1 c2 c3 c4
  go_wp2_with fail
  refine (RL.out _ _ _ (I1.out _ B3.out) (I2.out _ B3.out) RR.out).mono ?_
  rintro e w4 ⟨rfl, hb4⟩
  have B4 := Lib.hid (below_up B3.out hb4 B3.out.size)
  clear hb4
  go_wp2
  go_ret
  exact ⟨rfl, B4.out⟩

set_option maxRecDepth 100000 in
set_option maxHeartbeats 4000000 in
theorem pred_nomode (mode : Int) (A : Option Addr) (cA : Nat) (B : Option Addr) (cB : Nat) (t l : List Int) (k : Int) (b1 b2 : Bool) (n : Int) (w : World) (hT : Ints w w.heap.size A t) (hL : Ints w w.heap.size B l) (RU : Hid (∀ w, Calls Try.prog 40 #[.int .i64 mode] w fun e w' => e = .returned (.tuple #[.nilFunc, .bool false]) ∧ Below w.heap.size w w')) :
    Calls Try.prog 11 #[.int .i64 mode, .agg #[.slice A t.length cA, .slice B l.length cB, .int .i64 k, .bool b1, .bool b2], .int .i64 n] w fun e w' => ∃ A' c, e = .returned (.slice A' 0 c) ∧ OwnI w' w.heap.size A' c [] ∧ Below w.heap.size w w' := by
  have HK := Lib.hid (heap_alloc_new w (.cells #[.slice A t.length cA, .slice B l.length cB, .int .i64 k, .bool b1, .bool b2] 26))
  have BW := Lib.hid (below_new w (.cells #[.slice A t.length cA, .slice B l.length cB, .int .i64 k, .bool b1, .bool b2] 26))
  have I1 : Hid (∀ wr, Below w.heap.size w wr → Ints wr wr.heap.size A t) := Lib.hid fun wr h => (hT.below h (Nat.le_refl _)).mono h.size
  have I2 : Hid (∀ wr, Below w.heap.size w wr → Ints wr wr.heap.size B l) := Lib.hid fun wr h => (hL.below h (Nat.le_refl _)).mono h.size
  clear hT hL
  go_enter Try.func11, Try.ntmps11
  go_wp2_with fail
  refine (RU.out _).mono ?_
  rintro e w1 ⟨rfl, hb1⟩
  have B1 := Lib.hid (below_up BW.out hb1 BW.out.size)
  have K1 := Lib.hid (cell_kept HK.out hb1)
  obtain ⟨c0, c1, c2, c3, c4⟩ := cells5 K1.out
  clear hb1
  have O9 := Lib.hid (World.ownsRow_nil w1 w.heap.size 3 1)
  go_wp2
  go_ret
  exact ⟨_, _, rfl, O9.out, B1.out⟩

set_option maxRecDepth 100000 in
set_option maxHeartbeats 4000000 in
theorem pred_nonb (mode : Int) (f : Nat) (A : Option Addr) (cA : Nat) (B : Option Addr) (cB : Nat) (t l : List Int) (k : Int) (b1 b2 : Bool) (n : Int) (w : World) (hT : Ints w w.heap.size A t) (hL : Ints w w.heap.size B l) (RU : Hid (∀ w, Calls Try.prog 40 #[.int .i64 mode] w fun e w' => e = .returned (.tuple #[.func (.func f) #[] #[], .bool true]) ∧ Below w.heap.size w w')) (NK : Hid (∀ w, Ints w w.heap.size A t → Ints w w.heap.size B l → Calls Try.prog 21 #[.agg #[.slice A t.length cA, .slice B l.length cB, .int .i64 k, .bool b1, .bool b2], .int .i64 n] w fun e w' => e = .returned (.bool false) ∧ Below w.heap.size w w')) :
    Calls Try.prog 11 #[.int .i64 mode, .agg #[.slice A t.length cA, .slice B l.length cB, .int .i64 k, .bool b1, .bool b2], .int .i64 n] w fun e w' => ∃ A' c, e = .returned (.slice A' 0 c) ∧ OwnI w' w.heap.size A' c [] ∧ Below w.heap.size w w' := by
  have HK := Lib.hid (heap_alloc_new w (.cells #[.slice A t.length cA, .slice B l.length cB, .int .i64 k, .bool b1, .bool b2] 26))
  have BW := Lib.hid (below_new w (.cells #[.slice A t.length cA, .slice B l.length cB, .int .i64 k, .bool b1, .bool b2] 26))
  have I1 : Hid (∀ wr, Below w.heap.size w wr → Ints wr wr.heap.size A t) := Lib.hid fun wr h => (hT.below h (Nat.le_refl _)).mono h.size
  have I2 : Hid (∀ wr, Below w.heap.size w wr → Ints wr wr.heap.size B l) := Lib.hid fun wr h => (hL.below h (Nat.le_refl _)).mono h.size
  clear hT hL
  go_enter Try.func11, Try.ntmps11
  go_wp2_with fail
  refine (RU.out _).mono ?_
  rintro e w1 ⟨rfl, hb1⟩
  have B1 := Lib.hid (below_up BW.out hb1 BW.out.size)
  have K1 := Lib.hid (cell_kept HK.out hb1)
  obtain ⟨c0, c1, c2, c3, c4⟩ := cells5 K1.out
  clear hb1
  go_wp2_with fail
  refine (NK.out _ (I1.out _ B1.out) (I2.out _ B1.out)).mono ?_
  rintro e w2 ⟨rfl, hb2⟩
  have B2 := Lib.hid (below_up B1.out hb2 B1.out.size)
  have K2 := Lib.hid (cell_kept K1.out hb2)
  clear hb2 c0 c1 c2 c3 c4
  obtain ⟨c0, c1, c2, c3, c4⟩ := cells5 K2.out
  have O9 := Lib.hid (World.ownsRow_nil w2 w.heap.size 3 1)
  go_wp2
  go_ret
  exact ⟨_, _, rfl, O9.out, B2.out⟩

def fillI (C : List Int) (N j : Nat) : List Int := C.take j ++ List.replicate (N - j) 0
theorem fillI_len {C : List Int} {N j : Nat} (hC : C.length = N) (hj : j ≤ N) : (fillI C N j).length = N := by
  simp only [fillI, List.length_append, List.length_take, List.length_replicate]; omega
theorem fillI_zero (C : List Int) (N : Nat) : fillI C N 0 = List.replicate N 0 := by simp [fillI]
theorem fillI_full {C : List Int} {N : Nat} (hC : C.length = N) : fillI C N N = C := by
  rw [fillI, Nat.sub_self, List.replicate_zero, List.append_nil, List.take_of_length_le (by omega)]
theorem fillI_set {C : List Int} {N j : Nat} (hC : C.length = N) (hj : j < N) : (fillI C N j).set j (C.getD j 0) = fillI C N (j + 1) := by
  have hl : (C.take j).length = j := by rw [List.length_take]; omega
  rw [fillI, fillI, List.set_append_right _ _ (by omega), hl, Nat.sub_self, show N - j = (N - (j + 1)) + 1 by omega, List.replicate_succ, List.set_cons_zero, List.take_add_one, List.getD_eq_getElem?_getD, List.getElem?_eq_getElem (by omega), List.append_assoc]
  rfl
theorem prdF_get (t l : List Int) (k : Int) (b1 b2 : Bool) (m : Nat) (mode : Int) {j : Nat} (hj : j < m * m) : (prdF t l k b1 b2 m mode).getD j 0 = predF t l k b1 b2 m mode (j % m) (j / m) := by
  rw [List.getD_eq_getElem?_getD, prdF, List.getElem?_map, List.getElem?_range hj]
  rfl
set_option maxRecDepth 100000 in
set_option maxHeartbeats 8000000 in
theorem pred_in_4 (mode : Int) (f : Nat) (ef : ∀ (args : Array Value) (w : World), (callFunc f args).run Try.prog w = .ok (.enter f args) w) (F : Nat → Nat → Int) (C : List Int) (hCl : C.length = 16) (hCF : ∀ j, j < 16 → C.getD j 0 = F (j % 4) (j / 4)) (A : Option Addr) (cA : Nat) (B : Option Addr) (cB : Nat) (t l : List Int) (k : Int) (b1 b2 : Bool) (r : List Int) (mv : Int) (hr : r.length = 9) (w : World) (hT : Ints w w.heap.size A t) (hL : Ints w w.heap.size B l) (RU : Hid (∀ w, Calls Try.prog 40 #[.int .i64 mode] w fun e w' => e = .returned (.tuple #[.func (.func f) #[] #[], .bool true]) ∧ Below w.heap.size w w')) (NK : Hid (∀ w, Ints w w.heap.size A t → Ints w w.heap.size B l → Calls Try.prog 21 #[.agg #[.slice A 8 cA, .slice B 4 cB, .int .i64 k, .bool b1, .bool b2], .int .i64 4] w fun e w' => e = .returned (.bool true) ∧ Below w.heap.size w w')) (PO : Hid (∀ w, Ints w w.heap.size A t → Ints w w.heap.size B l → Calls Try.prog 41 #[.agg #[.slice A 8 cA, .slice B 4 cB, .int .i64 k, .bool b1, .bool b2], .int .i64 4] w fun e w' => ∃ R cR, e = .returned (.agg #[.slice A 8 cA, .slice B 4 cB, .int .i64 k, .bool b1, .bool b2, .slice R 9 cR, .int .i64 mv]) ∧ OwnI w' w.heap.size R cR r ∧ Below w.heap.size w w')) (RL : Hid (∀ (R : Option Addr) (cR x y : Nat) w, x < 4 → y < 4 → Ints w w.heap.size A t → Ints w w.heap.size B l → Ints w w.heap.size R r → Calls Try.prog f #[.agg #[.slice A 8 cA, .slice B 4 cB, .int .i64 k, .bool b1, .bool b2, .slice R 9 cR, .int .i64 mv], .int .i64 x, .int .i64 y] w fun e w' => e = .returned (.int .i64 (F x y)) ∧ Below w.heap.size w w')) :
    Calls Try.prog 11 #[.int .i64 mode, .agg #[.slice A 8 cA, .slice B 4 cB, .int .i64 k, .bool b1, .bool b2], .int .i64 4] w fun e w' => ∃ A' c, e = .returned (.slice A' 16 c) ∧ OwnI w' w.heap.size A' c C ∧ Below w.heap.size w w' := by
  have HK := Lib.hid (heap_alloc_new w (.cells #[.slice A 8 cA, .slice B 4 cB, .int .i64 k, .bool b1, .bool b2] 26))
  have BW := Lib.hid (below_new w (.cells #[.slice A 8 cA, .slice B 4 cB, .int .i64 k, .bool b1, .bool b2] 26))
  have I1 : Hid (∀ wr, Below w.heap.size w wr → Ints wr wr.heap.size A t) := Lib.hid fun wr h => (hT.below h (Nat.le_refl _)).mono h.size
  have I2 : Hid (∀ wr, Below w.heap.size w wr → Ints wr wr.heap.size B l) := Lib.hid fun wr h => (hL.below h (Nat.le_refl _)).mono h.size
  clear hT hL
  have hmk := make_ints 16 16 (by decide) (by decide)
  obtain ⟨z, hz⟩ : ∃ z : List Int, z = List.replicate 16 0 := ⟨_, rfl⟩
  rw [← hz] at hmk
  have HZ := Lib.hid hz; have HCL := Lib.hid hCl; have HCF := Lib.hid hCF; have HRL := Lib.hid hr
  have HZL : Hid (z.length = 16) := Lib.hid (by rw [hz, List.length_replicate])
  clear hz hCl hCF hr
  go_enter Try.func11, Try.ntmps11
  go_wp2_with fail
  refine (RU.out _).mono ?_
  rintro e w1 ⟨rfl, hb1⟩
  have B1 := Lib.hid (below_up BW.out hb1 BW.out.size)
  have K1 := Lib.hid (cell_kept HK.out hb1)
  obtain ⟨c0, c1, c2, c3, c4⟩ := cells5 K1.out
  clear hb1
  go_wp2_with fail
  refine (NK.out _ (I1.out _ B1.out) (I2.out _ B1.out)).mono ?_
  rintro e w2 ⟨rfl, hb2⟩
  have B2 := Lib.hid (below_up B1.out hb2 B1.out.size)
  have K2 := Lib.hid (cell_kept K1.out hb2)
  clear hb2 c0 c1 c2 c3 c4
  obtain ⟨c0, c1, c2, c3, c4⟩ := cells5 K2.out
  go_wp2_with fail
  refine (PO.out _ (I1.out _ B2.out) (I2.out _ B2.out)).mono ?_
  rintro e w3 ⟨R, cR, rfl, ho, hb3⟩
  have B3 := Lib.hid (below_up B2.out hb3 B2.out.size)
  have RR := Lib.hid (ho.ints (by rw [HRL.out]; decide))
  clear hb3 ho c0 c1 c2 c3 c4
  have hh := heap_alloc_new w3 (.cells #[.slice none 0 0, .slice none 0 0, .int .i64 0, .bool false, .bool false, .slice none 0 0, .int .i64 0] 60)
  obtain ⟨f0, f1, f2, f3, f4, f5, f6⟩ := frozen7 hh
  obtain ⟨e0, e1, e2, e3, e4, e5, e6⟩ := cells7 hh
  clear hh
  go_wp2
  clear e0 e1 e2 e3 e4 e5 e6 f0 f1 f2 f3 f4 f5 f6
  have h2 := heap_two w3 (.cells #[.slice A 8 cA, .slice B 4 cB, .int .i64 k, .bool b1, .bool b2, .slice R 9 cR, .int .i64 mv] 60) (.cells (ivs z).toArray 3)
  have hsz3 : (w3.alloc (.cells #[.slice A 8 cA, .slice B 4 cB, .int .i64 k, .bool b1, .bool b2, .slice R 9 cR, .int .i64 mv] 60)).heap.size = w3.heap.size + 1 := by simp
  have O0 : Hid (World.ownsRow ((w3.alloc (.cells #[.slice A 8 cA, .slice B 4 cB, .int .i64 k, .bool b1, .bool b2, .slice R 9 cR, .int .i64 mv] 60)).alloc (.cells (ivs z).toArray 3)) (w3.heap.size + 1) 3 1 (.slice (some ⟨w3.heap.size + 1, 0, none⟩) 16 16) 16 (ivs (fillI C 16 0))) := Lib.hid (by
    have h := own_ints (w3.alloc (.cells #[.slice A 8 cA, .slice B 4 cB, .int .i64 k, .bool b1, .bool b2, .slice R 9 cR, .int .i64 mv] 60)) (w3.heap.size + 1) z (by rw [hsz3]; exact Nat.le_refl _) (by rw [HZL.out]; simp [maxLen])
    unfold OwnI at h
    rw [hsz3, HZL.out] at h
    rw [fillI_zero, ← HZ.out]
    exact h)
  have S0 : Hid (((w3.alloc (.cells #[.slice A 8 cA, .slice B 4 cB, .int .i64 k, .bool b1, .bool b2, .slice R 9 cR, .int .i64 mv] 60)).alloc (.cells (ivs z).toArray 3)).cell? ⟨w3.heap.size, 0, none⟩ = some (.slice A 8 cA) ∧ ((w3.alloc (.cells #[.slice A 8 cA, .slice B 4 cB, .int .i64 k, .bool b1, .bool b2, .slice R 9 cR, .int .i64 mv] 60)).alloc (.cells (ivs z).toArray 3)).cell? ⟨w3.heap.size, 1, none⟩ = some (.slice B 4 cB) ∧ ((w3.alloc (.cells #[.slice A 8 cA, .slice B 4 cB, .int .i64 k, .bool b1, .bool b2, .slice R 9 cR, .int .i64 mv] 60)).alloc (.cells (ivs z).toArray 3)).cell? ⟨w3.heap.size, 2, none⟩ = some (.int .i64 k) ∧ ((w3.alloc (.cells #[.slice A 8 cA, .slice B 4 cB, .int .i64 k, .bool b1, .bool b2, .slice R 9 cR, .int .i64 mv] 60)).alloc (.cells (ivs z).toArray 3)).cell? ⟨w3.heap.size, 3, none⟩ = some (.bool b1) ∧ ((w3.alloc (.cells #[.slice A 8 cA, .slice B 4 cB, .int .i64 k, .bool b1, .bool b2, .slice R 9 cR, .int .i64 mv] 60)).alloc (.cells (ivs z).toArray 3)).cell? ⟨w3.heap.size, 4, none⟩ = some (.bool b2) ∧ ((w3.alloc (.cells #[.slice A 8 cA, .slice B 4 cB, .int .i64 k, .bool b1, .bool b2, .slice R 9 cR, .int .i64 mv] 60)).alloc (.cells (ivs z).toArray 3)).cell? ⟨w3.heap.size, 5, none⟩ = some (.slice R 9 cR) ∧ ((w3.alloc (.cells #[.slice A 8 cA, .slice B 4 cB, .int .i64 k, .bool b1, .bool b2, .slice R 9 cR, .int .i64 mv] 60)).alloc (.cells (ivs z).toArray 3)).cell? ⟨w3.heap.size, 6, none⟩ = some (.int .i64 mv) ∧ Below w3.heap.size w3 ((w3.alloc (.cells #[.slice A 8 cA, .slice B 4 cB, .int .i64 k, .bool b1, .bool b2, .slice R 9 cR, .int .i64 mv] 60)).alloc (.cells (ivs z).toArray 3)) ∧ w3.heap.size ≤ ((w3.alloc (.cells #[.slice A 8 cA, .slice B 4 cB, .int .i64 k, .bool b1, .bool b2, .slice R 9 cR, .int .i64 mv] 60)).alloc (.cells (ivs z).toArray 3)).heap.size) := Lib.hid (by
    obtain ⟨a0, a1, a2, a3, a4, a5, a6⟩ := cells7 h2.1
    exact ⟨a0, a1, a2, a3, a4, a5, a6, below_two _ _ _, (below_two _ _ _).size⟩)
  clear h2 hsz3 hmk
  have J1 : Hid (∀ wr, Below w3.heap.size w3 wr → Ints wr wr.heap.size A t) := Lib.hid fun wr h => I1.out wr (below_up B3.out h B3.out.size)
  have J2 : Hid (∀ wr, Below w3.heap.size w3 wr → Ints wr wr.heap.size B l) := Lib.hid fun wr h => I2.out wr (below_up B3.out h B3.out.size)
  have J3 : Hid (∀ wr, Below w3.heap.size w3 wr → Ints wr wr.heap.size R r) := Lib.hid fun wr h => (RR.out.below h (Nat.le_refl _)).mono h.size
  go_loopw [11, 34] (fun x i wr => ∃ j : Nat, j ≤ 16 ∧ i = .int .i64 j ∧ wr.ownsRow (w3.heap.size + 1) 3 1 (.slice (some ⟨w3.heap.size + 1, 0, none⟩) 16 16) 16 (ivs (fillI C 16 j)) ∧ wr.cell? ⟨w3.heap.size, 0, none⟩ = some (.slice A 8 cA) ∧ wr.cell? ⟨w3.heap.size, 1, none⟩ = some (.slice B 4 cB) ∧ wr.cell? ⟨w3.heap.size, 2, none⟩ = some (.int .i64 k) ∧ wr.cell? ⟨w3.heap.size, 3, none⟩ = some (.bool b1) ∧ wr.cell? ⟨w3.heap.size, 4, none⟩ = some (.bool b2) ∧ wr.cell? ⟨w3.heap.size, 5, none⟩ = some (.slice R 9 cR) ∧ wr.cell? ⟨w3.heap.size, 6, none⟩ = some (.int .i64 mv) ∧ Below w3.heap.size w3 wr ∧ w3.heap.size ≤ wr.heap.size)
    (fun _ i _ => 16 - (intOf i).toNat)
  case atStart => exact ⟨0, Nat.zero_le _, rfl, O0.out, S0.out⟩
  case round =>
    obtain ⟨j, hj, rfl, hown, hS⟩ := hrel
    have HO := Lib.hid hown; clear hown
    by_cases hlt : j < 16
    · have d1 : decide ((j : Int) < 16) = true := by simp; omega
      obtain ⟨v, hv⟩ : ∃ v, v = F (j % 4) (j / 4) := ⟨_, rfl⟩
      have RLX := Lib.hid fun R cR w => RL.out R cR (j % 4) (j / 4) w (by omega) (by omega)
      have HV : Hid (C.getD j 0 = v) := Lib.hid ((HCF.out j hlt).trans hv.symm)
      rw [← hv] at RLX
      clear hv
      obtain ⟨x, hx⟩ : ∃ x, x = j % 4 := ⟨_, rfl⟩
      obtain ⟨y, hy⟩ : ∃ y, y = j / 4 := ⟨_, rfl⟩
      rw [← hx, ← hy] at RLX
      have q1 : (j : Int) % 4 = (x : Int) := by omega
      have q2 : (j : Int) / 4 = (y : Int) := by omega
      have q3 : (j : Int).tmod 4 = (x : Int) := by rw [Int.tmod_eq_emod_of_nonneg (by omega)]; exact q1
      have q4 : (j : Int).tdiv 4 = (y : Int) := by rw [Int.tdiv_eq_ediv_of_nonneg (by omega)]; exact q2
      have q5 : IntKind.i64.wrap (x : Int) = (x : Int) := IntWalk.i64_in _ (by omega)
      have q6 : IntKind.i64.wrap (y : Int) = (y : Int) := IntWalk.i64_in _ (by omega)
      have j1 : (j : Int) < 16 := by omega
      clear hx hy
      go_wp2_with fail
      go_region_held3 (fun w' => w'.cell? ⟨w3.heap.size, 0, none⟩ = some (.slice A 8 cA) ∧ w'.cell? ⟨w3.heap.size, 1, none⟩ = some (.slice B 4 cB) ∧ w'.cell? ⟨w3.heap.size, 2, none⟩ = some (.int .i64 k) ∧ w'.cell? ⟨w3.heap.size, 3, none⟩ = some (.bool b1) ∧ w'.cell? ⟨w3.heap.size, 4, none⟩ = some (.bool b2) ∧ w'.cell? ⟨w3.heap.size, 5, none⟩ = some (.slice R 9 cR) ∧ w'.cell? ⟨w3.heap.size, 6, none⟩ = some (.int .i64 mv) ∧ Below w3.heap.size w3 w' ∧ w3.heap.size ≤ w'.heap.size)
        (first | with_reducible assumption | (with_reducible refine heldx7_drew ?_; with_reducible assumption) | (with_reducible refine heldx7 ?_ (by with_reducible assumption); with_reducible assumption) | (exact heldx7_set (by with_reducible assumption) (Nat.ne_of_lt (Nat.lt_succ_self _)) (Nat.le_succ _)) | fail)
        (first
          | ((with_reducible refine (RLX.out _ _ _ (J1.out _ (heldx7_below (by with_reducible assumption))) (J2.out _ (heldx7_below (by with_reducible assumption))) (J3.out _ (heldx7_below (by with_reducible assumption)))).mono ?_); rintro e w5 ⟨rfl, hb5⟩; have O5 := Lib.hid (own_keep (World.ownsRow.drew HO.out) hb5); have fz := O5.out.frozenAt j; obtain ⟨u0, cj⟩ : ∃ u, w5.cell? ⟨w3.heap.size + 1, j, none⟩ = some u := ⟨_, (O5.out.cellAt j hlt).trans (ivs_at _ j (by rw [fillI_len HCL.out hj]; exact hlt))⟩)
          | fail)
      have s1 := (O5.out.stored j (.int .i64 v)).1
      have e5 : (fillI C 16 j).set j v = fillI C 16 (j + 1) := by rw [← HV.out]; exact fillI_set HCL.out hlt
      rw [ivs_set, e5] at s1
      have S5 := Lib.hid s1
      clear s1 e5 cj fz
      go_wp2
      go_roundw
      case rel =>
        refine ⟨j + 1, by omega, by go_num, S5.out, ?_⟩
        assumption
      case measure => simp [intOf]; omega
    · have hjn : j = 16 := by omega
      have d1 : decide ((j : Int) < 16) = false := by simp; omega
      have O3 := HO.out
      rw [hjn, fillI_full HCL.out] at O3
      have O4 := Lib.hid O3
      have B4 := Lib.hid (below_up B3.out (heldx7_below hS) B3.out.size)
      have H0 := Lib.hid B3.out.size
      clear hS O3 hjn hlt
      go_wp2
      go_ret
      refine ⟨some ⟨w3.heap.size + 1, 0, none⟩, 16, rfl, ?_, B4.out⟩
      unfold OwnI
      rw [HCL.out]
      exact own_lower O4.out (Nat.le_succ_of_le H0.out)
set_option maxRecDepth 100000 in
set_option maxHeartbeats 8000000 in
theorem pred_in_8 (mode : Int) (f : Nat) (ef : ∀ (args : Array Value) (w : World), (callFunc f args).run Try.prog w = .ok (.enter f args) w) (F : Nat → Nat → Int) (C : List Int) (hCl : C.length = 64) (hCF : ∀ j, j < 64 → C.getD j 0 = F (j % 8) (j / 8)) (A : Option Addr) (cA : Nat) (B : Option Addr) (cB : Nat) (t l : List Int) (k : Int) (b1 b2 : Bool) (r : List Int) (mv : Int) (hr : r.length = 17) (w : World) (hT : Ints w w.heap.size A t) (hL : Ints w w.heap.size B l) (RU : Hid (∀ w, Calls Try.prog 40 #[.int .i64 mode] w fun e w' => e = .returned (.tuple #[.func (.func f) #[] #[], .bool true]) ∧ Below w.heap.size w w')) (NK : Hid (∀ w, Ints w w.heap.size A t → Ints w w.heap.size B l → Calls Try.prog 21 #[.agg #[.slice A 16 cA, .slice B 8 cB, .int .i64 k, .bool b1, .bool b2], .int .i64 8] w fun e w' => e = .returned (.bool true) ∧ Below w.heap.size w w')) (PO : Hid (∀ w, Ints w w.heap.size A t → Ints w w.heap.size B l → Calls Try.prog 41 #[.agg #[.slice A 16 cA, .slice B 8 cB, .int .i64 k, .bool b1, .bool b2], .int .i64 8] w fun e w' => ∃ R cR, e = .returned (.agg #[.slice A 16 cA, .slice B 8 cB, .int .i64 k, .bool b1, .bool b2, .slice R 17 cR, .int .i64 mv]) ∧ OwnI w' w.heap.size R cR r ∧ Below w.heap.size w w')) (RL : Hid (∀ (R : Option Addr) (cR x y : Nat) w, x < 8 → y < 8 → Ints w w.heap.size A t → Ints w w.heap.size B l → Ints w w.heap.size R r → Calls Try.prog f #[.agg #[.slice A 16 cA, .slice B 8 cB, .int .i64 k, .bool b1, .bool b2, .slice R 17 cR, .int .i64 mv], .int .i64 x, .int .i64 y] w fun e w' => e = .returned (.int .i64 (F x y)) ∧ Below w.heap.size w w')) :
    Calls Try.prog 11 #[.int .i64 mode, .agg #[.slice A 16 cA, .slice B 8 cB, .int .i64 k, .bool b1, .bool b2], .int .i64 8] w fun e w' => ∃ A' c, e = .returned (.slice A' 64 c) ∧ OwnI w' w.heap.size A' c C ∧ Below w.heap.size w w' := by
  have HK := Lib.hid (heap_alloc_new w (.cells #[.slice A 16 cA, .slice B 8 cB, .int .i64 k, .bool b1, .bool b2] 26))
  have BW := Lib.hid (below_new w (.cells #[.slice A 16 cA, .slice B 8 cB, .int .i64 k, .bool b1, .bool b2] 26))
  have I1 : Hid (∀ wr, Below w.heap.size w wr → Ints wr wr.heap.size A t) := Lib.hid fun wr h => (hT.below h (Nat.le_refl _)).mono h.size
  have I2 : Hid (∀ wr, Below w.heap.size w wr → Ints wr wr.heap.size B l) := Lib.hid fun wr h => (hL.below h (Nat.le_refl _)).mono h.size
  clear hT hL
  have hmk := make_ints 64 64 (by decide) (by decide)
  obtain ⟨z, hz⟩ : ∃ z : List Int, z = List.replicate 64 0 := ⟨_, rfl⟩
  rw [← hz] at hmk
  have HZ := Lib.hid hz; have HCL := Lib.hid hCl; have HCF := Lib.hid hCF; have HRL := Lib.hid hr
  have HZL : Hid (z.length = 64) := Lib.hid (by rw [hz, List.length_replicate])
  clear hz hCl hCF hr
  go_enter Try.func11, Try.ntmps11
  go_wp2_with fail
  refine (RU.out _).mono ?_
  rintro e w1 ⟨rfl, hb1⟩
  have B1 := Lib.hid (below_up BW.out hb1 BW.out.size)
  have K1 := Lib.hid (cell_kept HK.out hb1)
  obtain ⟨c0, c1, c2, c3, c4⟩ := cells5 K1.out
  clear hb1
  go_wp2_with fail
  refine (NK.out _ (I1.out _ B1.out) (I2.out _ B1.out)).mono ?_
  rintro e w2 ⟨rfl, hb2⟩
  have B2 := Lib.hid (below_up B1.out hb2 B1.out.size)
  have K2 := Lib.hid (cell_kept K1.out hb2)
  clear hb2 c0 c1 c2 c3 c4
  obtain ⟨c0, c1, c2, c3, c4⟩ := cells5 K2.out
  go_wp2_with fail
  refine (PO.out _ (I1.out _ B2.out) (I2.out _ B2.out)).mono ?_
  rintro e w3 ⟨R, cR, rfl, ho, hb3⟩
  have B3 := Lib.hid (below_up B2.out hb3 B2.out.size)
  have RR := Lib.hid (ho.ints (by rw [HRL.out]; decide))
  clear hb3 ho c0 c1 c2 c3 c4
  have hh := heap_alloc_new w3 (.cells #[.slice none 0 0, .slice none 0 0, .int .i64 0, .bool false, .bool false, .slice none 0 0, .int .i64 0] 60)
  obtain ⟨f0, f1, f2, f3, f4, f5, f6⟩ := frozen7 hh
  obtain ⟨e0, e1, e2, e3, e4, e5, e6⟩ := cells7 hh
  clear hh
  go_wp2
  clear e0 e1 e2 e3 e4 e5 e6 f0 f1 f2 f3 f4 f5 f6
  have h2 := heap_two w3 (.cells #[.slice A 16 cA, .slice B 8 cB, .int .i64 k, .bool b1, .bool b2, .slice R 17 cR, .int .i64 mv] 60) (.cells (ivs z).toArray 3)
  have hsz3 : (w3.alloc (.cells #[.slice A 16 cA, .slice B 8 cB, .int .i64 k, .bool b1, .bool b2, .slice R 17 cR, .int .i64 mv] 60)).heap.size = w3.heap.size + 1 := by simp
  have O0 : Hid (World.ownsRow ((w3.alloc (.cells #[.slice A 16 cA, .slice B 8 cB, .int .i64 k, .bool b1, .bool b2, .slice R 17 cR, .int .i64 mv] 60)).alloc (.cells (ivs z).toArray 3)) (w3.heap.size + 1) 3 1 (.slice (some ⟨w3.heap.size + 1, 0, none⟩) 64 64) 64 (ivs (fillI C 64 0))) := Lib.hid (by
    have h := own_ints (w3.alloc (.cells #[.slice A 16 cA, .slice B 8 cB, .int .i64 k, .bool b1, .bool b2, .slice R 17 cR, .int .i64 mv] 60)) (w3.heap.size + 1) z (by rw [hsz3]; exact Nat.le_refl _) (by rw [HZL.out]; simp [maxLen])
    unfold OwnI at h
    rw [hsz3, HZL.out] at h
    rw [fillI_zero, ← HZ.out]
    exact h)
  have S0 : Hid (((w3.alloc (.cells #[.slice A 16 cA, .slice B 8 cB, .int .i64 k, .bool b1, .bool b2, .slice R 17 cR, .int .i64 mv] 60)).alloc (.cells (ivs z).toArray 3)).cell? ⟨w3.heap.size, 0, none⟩ = some (.slice A 16 cA) ∧ ((w3.alloc (.cells #[.slice A 16 cA, .slice B 8 cB, .int .i64 k, .bool b1, .bool b2, .slice R 17 cR, .int .i64 mv] 60)).alloc (.cells (ivs z).toArray 3)).cell? ⟨w3.heap.size, 1, none⟩ = some (.slice B 8 cB) ∧ ((w3.alloc (.cells #[.slice A 16 cA, .slice B 8 cB, .int .i64 k, .bool b1, .bool b2, .slice R 17 cR, .int .i64 mv] 60)).alloc (.cells (ivs z).toArray 3)).cell? ⟨w3.heap.size, 2, none⟩ = some (.int .i64 k) ∧ ((w3.alloc (.cells #[.slice A 16 cA, .slice B 8 cB, .int .i64 k, .bool b1, .bool b2, .slice R 17 cR, .int .i64 mv] 60)).alloc (.cells (ivs z).toArray 3)).cell? ⟨w3.heap.size, 3, none⟩ = some (.bool b1) ∧ ((w3.alloc (.cells #[.slice A 16 cA, .slice B 8 cB, .int .i64 k, .bool b1, .bool b2, .slice R 17 cR, .int .i64 mv] 60)).alloc (.cells (ivs z).toArray 3)).cell? ⟨w3.heap.size, 4, none⟩ = some (.bool b2) ∧ ((w3.alloc (.cells #[.slice A 16 cA, .slice B 8 cB, .int .i64 k, .bool b1, .bool b2, .slice R 17 cR, .int .i64 mv] 60)).alloc (.cells (ivs z).toArray 3)).cell? ⟨w3.heap.size, 5, none⟩ = some (.slice R 17 cR) ∧ ((w3.alloc (.cells #[.slice A 16 cA, .slice B 8 cB, .int .i64 k, .bool b1, .bool b2, .slice R 17 cR, .int .i64 mv] 60)).alloc (.cells (ivs z).toArray 3)).cell? ⟨w3.heap.size, 6, none⟩ = some (.int .i64 mv) ∧ Below w3.heap.size w3 ((w3.alloc (.cells #[.slice A 16 cA, .slice B 8 cB, .int .i64 k, .bool b1, .bool b2, .slice R 17 cR, .int .i64 mv] 60)).alloc (.cells (ivs z).toArray 3)) ∧ w3.heap.size ≤ ((w3.alloc (.cells #[.slice A 16 cA, .slice B 8 cB, .int .i64 k, .bool b1, .bool b2, .slice R 17 cR, .int .i64 mv] 60)).alloc (.cells (ivs z).toArray 3)).heap.size) := Lib.hid (by
    obtain ⟨a0, a1, a2, a3, a4, a5, a6⟩ := cells7 h2.1
    exact ⟨a0, a1, a2, a3, a4, a5, a6, below_two _ _ _, (below_two _ _ _).size⟩)
  clear h2 hsz3 hmk
  have J1 : Hid (∀ wr, Below w3.heap.size w3 wr → Ints wr wr.heap.size A t) := Lib.hid fun wr h => I1.out wr (below_up B3.out h B3.out.size)
  have J2 : Hid (∀ wr, Below w3.heap.size w3 wr → Ints wr wr.heap.size B l) := Lib.hid fun wr h => I2.out wr (below_up B3.out h B3.out.size)
  have J3 : Hid (∀ wr, Below w3.heap.size w3 wr → Ints wr wr.heap.size R r) := Lib.hid fun wr h => (RR.out.below h (Nat.le_refl _)).mono h.size
  go_loopw [11, 34] (fun x i wr => ∃ j : Nat, j ≤ 64 ∧ i = .int .i64 j ∧ wr.ownsRow (w3.heap.size + 1) 3 1 (.slice (some ⟨w3.heap.size + 1, 0, none⟩) 64 64) 64 (ivs (fillI C 64 j)) ∧ wr.cell? ⟨w3.heap.size, 0, none⟩ = some (.slice A 16 cA) ∧ wr.cell? ⟨w3.heap.size, 1, none⟩ = some (.slice B 8 cB) ∧ wr.cell? ⟨w3.heap.size, 2, none⟩ = some (.int .i64 k) ∧ wr.cell? ⟨w3.heap.size, 3, none⟩ = some (.bool b1) ∧ wr.cell? ⟨w3.heap.size, 4, none⟩ = some (.bool b2) ∧ wr.cell? ⟨w3.heap.size, 5, none⟩ = some (.slice R 17 cR) ∧ wr.cell? ⟨w3.heap.size, 6, none⟩ = some (.int .i64 mv) ∧ Below w3.heap.size w3 wr ∧ w3.heap.size ≤ wr.heap.size)
    (fun _ i _ => 64 - (intOf i).toNat)
  case atStart => exact ⟨0, Nat.zero_le _, rfl, O0.out, S0.out⟩
  case round =>
    obtain ⟨j, hj, rfl, hown, hS⟩ := hrel
    have HO := Lib.hid hown; clear hown
    by_cases hlt : j < 64
    · have d1 : decide ((j : Int) < 64) = true := by simp; omega
      obtain ⟨v, hv⟩ : ∃ v, v = F (j % 8) (j / 8) := ⟨_, rfl⟩
      have RLX := Lib.hid fun R cR w => RL.out R cR (j % 8) (j / 8) w (by omega) (by omega)
      have HV : Hid (C.getD j 0 = v) := Lib.hid ((HCF.out j hlt).trans hv.symm)
      rw [← hv] at RLX
      clear hv
      obtain ⟨x, hx⟩ : ∃ x, x = j % 8 := ⟨_, rfl⟩
      obtain ⟨y, hy⟩ : ∃ y, y = j / 8 := ⟨_, rfl⟩
      rw [← hx, ← hy] at RLX
      have q1 : (j : Int) % 8 = (x : Int) := by omega
      have q2 : (j : Int) / 8 = (y : Int) := by omega
      have q3 : (j : Int).tmod 8 = (x : Int) := by rw [Int.tmod_eq_emod_of_nonneg (by omega)]; exact q1
      have q4 : (j : Int).tdiv 8 = (y : Int) := by rw [Int.tdiv_eq_ediv_of_nonneg (by omega)]; exact q2
      have q5 : IntKind.i64.wrap (x : Int) = (x : Int) := IntWalk.i64_in _ (by omega)
      have q6 : IntKind.i64.wrap (y : Int) = (y : Int) := IntWalk.i64_in _ (by omega)
      have j1 : (j : Int) < 64 := by omega
      clear hx hy
      go_wp2_with fail
      go_region_held3 (fun w' => w'.cell? ⟨w3.heap.size, 0, none⟩ = some (.slice A 16 cA) ∧ w'.cell? ⟨w3.heap.size, 1, none⟩ = some (.slice B 8 cB) ∧ w'.cell? ⟨w3.heap.size, 2, none⟩ = some (.int .i64 k) ∧ w'.cell? ⟨w3.heap.size, 3, none⟩ = some (.bool b1) ∧ w'.cell? ⟨w3.heap.size, 4, none⟩ = some (.bool b2) ∧ w'.cell? ⟨w3.heap.size, 5, none⟩ = some (.slice R 17 cR) ∧ w'.cell? ⟨w3.heap.size, 6, none⟩ = some (.int .i64 mv) ∧ Below w3.heap.size w3 w' ∧ w3.heap.size ≤ w'.heap.size)
        (first | with_reducible assumption | (with_reducible refine heldx7_drew ?_; with_reducible assumption) | (with_reducible refine heldx7 ?_ (by with_reducible assumption); with_reducible assumption) | (exact heldx7_set (by with_reducible assumption) (Nat.ne_of_lt (Nat.lt_succ_self _)) (Nat.le_succ _)) | fail)
        (first
          | ((with_reducible refine (RLX.out _ _ _ (J1.out _ (heldx7_below (by with_reducible assumption))) (J2.out _ (heldx7_below (by with_reducible assumption))) (J3.out _ (heldx7_below (by with_reducible assumption)))).mono ?_); rintro e w5 ⟨rfl, hb5⟩; have O5 := Lib.hid (own_keep (World.ownsRow.drew HO.out) hb5); have fz := O5.out.frozenAt j; obtain ⟨u0, cj⟩ : ∃ u, w5.cell? ⟨w3.heap.size + 1, j, none⟩ = some u := ⟨_, (O5.out.cellAt j hlt).trans (ivs_at _ j (by rw [fillI_len HCL.out hj]; exact hlt))⟩)
          | fail)
      have s1 := (O5.out.stored j (.int .i64 v)).1
      have e5 : (fillI C 64 j).set j v = fillI C 64 (j + 1) := by rw [← HV.out]; exact fillI_set HCL.out hlt
      rw [ivs_set, e5] at s1
      have S5 := Lib.hid s1
      clear s1 e5 cj fz
      go_wp2
      go_roundw
      case rel =>
        refine ⟨j + 1, by omega, by go_num, S5.out, ?_⟩
        assumption
      case measure => simp [intOf]; omega
    · have hjn : j = 64 := by omega
      have d1 : decide ((j : Int) < 64) = false := by simp; omega
      have O3 := HO.out
      rw [hjn, fillI_full HCL.out] at O3
      have O4 := Lib.hid O3
      have B4 := Lib.hid (below_up B3.out (heldx7_below hS) B3.out.size)
      have H0 := Lib.hid B3.out.size
      clear hS O3 hjn hlt
      go_wp2
      go_ret
      refine ⟨some ⟨w3.heap.size + 1, 0, none⟩, 64, rfl, ?_, B4.out⟩
      unfold OwnI
      rw [HCL.out]
      exact own_lower O4.out (Nat.le_succ_of_le H0.out)
/-- The number of the way by which a mode predicts. -/
def ruleN (m : Int) : Nat := if m = 0 then 70 else if m = 1 then 71 else if m = 2 then 72 else if m = 3 then 73 else if m = 4 then 74 else 75
theorem mdOk_cases {m : Int} (h : mdOk m = true) : m = 0 ∨ m = 1 ∨ m = 2 ∨ m = 3 ∨ m = 4 ∨ m = 5 := by
  simp only [mdOk, Bool.and_eq_true, decide_eq_true_eq] at h
  omega
theorem ruleof_in {m : Int} (h : mdOk m = true) (w : World) : Calls Try.prog 40 #[.int .i64 m] w fun e w' => e = .returned (.tuple #[.func (.func (ruleN m)) #[] #[], .bool true]) ∧ Below w.heap.size w w' := by
  rcases mdOk_cases h with rfl | rfl | rfl | rfl | rfl | rfl
  · exact ruleof_0 w
  · exact ruleof_1 w
  · exact ruleof_2 w
  · exact ruleof_3 w
  · exact ruleof_4 w
  · exact ruleof_5 w
theorem rule_enters {m : Int} (h : mdOk m = true) : ∀ (args : Array Value) (w : World), (callFunc (ruleN m) args).run Try.prog w = .ok (.enter (ruleN m) args) w := by
  rcases mdOk_cases h with rfl | rfl | rfl | rfl | rfl | rfl <;> (intro args w; kernel_rfl)
set_option maxHeartbeats 1000000 in
theorem rule_any_4 {m : Int} (h : mdOk m = true) (A : Option Addr) (cA : Nat) (B : Option Addr) (cB : Nat) (t l : List Int) (k : Int) (b1 b2 : Bool) (hok : nbOk t l k ((4 : Nat) : Int) = true) (R : Option Addr) (cR x y : Nat) (w : World) (hx : x < 4) (hy : y < 4) (hT : Ints w w.heap.size A t) (hL : Ints w w.heap.size B l) (hR : Ints w w.heap.size R (bordF t l k)) :
    Calls Try.prog (ruleN m) #[.agg #[.slice A 8 cA, .slice B 4 cB, .int .i64 k, .bool b1, .bool b2, .slice R 9 cR, .int .i64 (meanV t l k b1 b2 ((4 : Nat) : Int))], .int .i64 x, .int .i64 y] w fun e w' => e = .returned (.int .i64 (predF t l k b1 b2 4 m x y)) ∧ Below w.heap.size w w' := by
  obtain ⟨m', hm', hm48, ht, hl, hpt, hpl, hk⟩ := nbOk_side hok
  obtain rfl : m' = 4 := by omega
  have hbl : (bordF t l k).length = 9 := bordF_len ht hl
  have hpb := bordF_pix (k := k) ht hl hpt hpl hk
  obtain ⟨tb, toff, rfl, htb, htc⟩ := hT.at 0 (by omega)
  obtain ⟨lb, loff, rfl, hlb, hlc⟩ := hL.at 0 (by omega)
  obtain ⟨rb, roff, rfl, hrb, hrc⟩ := hR.at 0 (by omega)
  rw [ht] at htc
  rw [hl] at hlc
  rw [hbl] at hrc
  unfold predF
  rcases mdOk_cases h with rfl | rfl | rfl | rfl | rfl | rfl
  · rw [if_pos rfl]
    exact impl_meanat_4 tb toff cA lb loff cB rb roff cR t l (bordF t l k) k _ b1 b2 x y hx hy w htb hlb hrb htc hlc hrc hpt hpl hpb hk
  · rw [if_neg (by decide), if_pos rfl]
    exact impl_downat_4 tb toff cA lb loff cB rb roff cR t l (bordF t l k) k _ b1 b2 x y hx hy w htb hlb hrb htc hlc hrc hpt hpl hpb hk
  · rw [if_neg (by decide), if_neg (by decide), if_pos rfl]
    exact impl_acrossat_4 tb toff cA lb loff cB rb roff cR t l (bordF t l k) k _ b1 b2 x y hx hy w htb hlb hrb htc hlc hrc hpt hpl hpb hk
  · rw [if_neg (by decide), if_neg (by decide), if_neg (by decide), if_pos rfl]
    exact impl_slopeat_4 tb toff cA lb loff cB rb roff cR t l (bordF t l k) k _ b1 b2 x y hx hy w htb hlb hrb htc hlc hrc hpt hpl hpb hk
  · rw [if_neg (by decide), if_neg (by decide), if_neg (by decide), if_neg (by decide), if_pos rfl]
    exact impl_leftat_4 tb toff cA lb loff cB rb roff cR t l (bordF t l k) k _ b1 b2 x y hx hy w htb hlb hrb htc hlc hrc hpt hpl hpb hk
  · rw [if_neg (by decide), if_neg (by decide), if_neg (by decide), if_neg (by decide), if_neg (by decide), if_pos rfl]
    exact impl_rightat_4 tb toff cA lb loff cB rb roff cR t l (bordF t l k) k _ b1 b2 x y hx hy w htb hlb hrb htc hlc hrc hpt hpl hpb hk
set_option maxHeartbeats 1000000 in
theorem rule_any_8 {m : Int} (h : mdOk m = true) (A : Option Addr) (cA : Nat) (B : Option Addr) (cB : Nat) (t l : List Int) (k : Int) (b1 b2 : Bool) (hok : nbOk t l k ((8 : Nat) : Int) = true) (R : Option Addr) (cR x y : Nat) (w : World) (hx : x < 8) (hy : y < 8) (hT : Ints w w.heap.size A t) (hL : Ints w w.heap.size B l) (hR : Ints w w.heap.size R (bordF t l k)) :
    Calls Try.prog (ruleN m) #[.agg #[.slice A 16 cA, .slice B 8 cB, .int .i64 k, .bool b1, .bool b2, .slice R 17 cR, .int .i64 (meanV t l k b1 b2 ((8 : Nat) : Int))], .int .i64 x, .int .i64 y] w fun e w' => e = .returned (.int .i64 (predF t l k b1 b2 8 m x y)) ∧ Below w.heap.size w w' := by
  obtain ⟨m', hm', hm48, ht, hl, hpt, hpl, hk⟩ := nbOk_side hok
  obtain rfl : m' = 8 := by omega
  have hbl : (bordF t l k).length = 17 := bordF_len ht hl
  have hpb := bordF_pix (k := k) ht hl hpt hpl hk
  obtain ⟨tb, toff, rfl, htb, htc⟩ := hT.at 0 (by omega)
  obtain ⟨lb, loff, rfl, hlb, hlc⟩ := hL.at 0 (by omega)
  obtain ⟨rb, roff, rfl, hrb, hrc⟩ := hR.at 0 (by omega)
  rw [ht] at htc
  rw [hl] at hlc
  rw [hbl] at hrc
  unfold predF
  rcases mdOk_cases h with rfl | rfl | rfl | rfl | rfl | rfl
  · rw [if_pos rfl]
    exact impl_meanat_8 tb toff cA lb loff cB rb roff cR t l (bordF t l k) k _ b1 b2 x y hx hy w htb hlb hrb htc hlc hrc hpt hpl hpb hk
  · rw [if_neg (by decide), if_pos rfl]
    exact impl_downat_8 tb toff cA lb loff cB rb roff cR t l (bordF t l k) k _ b1 b2 x y hx hy w htb hlb hrb htc hlc hrc hpt hpl hpb hk
  · rw [if_neg (by decide), if_neg (by decide), if_pos rfl]
    exact impl_acrossat_8 tb toff cA lb loff cB rb roff cR t l (bordF t l k) k _ b1 b2 x y hx hy w htb hlb hrb htc hlc hrc hpt hpl hpb hk
  · rw [if_neg (by decide), if_neg (by decide), if_neg (by decide), if_pos rfl]
    exact impl_slopeat_8 tb toff cA lb loff cB rb roff cR t l (bordF t l k) k _ b1 b2 x y hx hy w htb hlb hrb htc hlc hrc hpt hpl hpb hk
  · rw [if_neg (by decide), if_neg (by decide), if_neg (by decide), if_neg (by decide), if_pos rfl]
    exact impl_leftat_8 tb toff cA lb loff cB rb roff cR t l (bordF t l k) k _ b1 b2 x y hx hy w htb hlb hrb htc hlc hrc hpt hpl hpb hk
  · rw [if_neg (by decide), if_neg (by decide), if_neg (by decide), if_neg (by decide), if_neg (by decide), if_pos rfl]
    exact impl_rightat_8 tb toff cA lb loff cB rb roff cR t l (bordF t l k) k _ b1 b2 x y hx hy w htb hlb hrb htc hlc hrc hpt hpl hpb hk
set_option maxHeartbeats 1000000 in
theorem impl_predat_any (mode : Int) (A : Option Addr) (cA : Nat) (B : Option Addr) (cB : Nat) (t l : List Int) (k : Int) (b1 b2 : Bool) (n x y : Int) (w : World) (hT : Ints w w.heap.size A t) (hL : Ints w w.heap.size B l) (hcA : t.length ≤ cA) :
    Calls Try.prog 17 #[.int .i64 mode, .agg #[.slice A t.length cA, .slice B l.length cB, .int .i64 k, .bool b1, .bool b2], .int .i64 n, .int .i64 x, .int .i64 y] w fun e w' => e = .returned (.int .i64 (predV mode t l k b1 b2 n x y)) ∧ Below w.heap.size w w' := by
  cases hmd : mdOk mode with
  | false =>
    have e : predV mode t l k b1 b2 n x y = -1 := by
      unfold predV
      split
      · simp only [mdOk, Bool.and_eq_false_iff, decide_eq_false_iff_not] at hmd
        unfold predF
        rw [if_neg (by omega), if_neg (by omega), if_neg (by omega), if_neg (by omega), if_neg (by omega), if_neg (by omega)]
      · rfl
    rw [e]
    exact predat_nomode mode A cA B cB t l k b1 b2 n x y w hT hL (Lib.hid fun w => ruleof_off mode hmd w)
  | true =>
    have RU := Lib.hid fun w => ruleof_in hmd w
    have NK := Lib.hid fun w h1 h2 => impl_nbok_any A cA B cB t l k b1 b2 n w h1 h2
    cases hok : nbOk t l k n with
    | false =>
      rw [hok] at NK
      rw [predV_off (by rw [hok]; simp)]
      exact predat_nonb mode _ A cA B cB t l k b1 b2 n x y w hT hL RU NK
    | true =>
      rw [hok] at NK
      have hside := nbOk_side hok
      obtain ⟨m, rfl, hm, ht, hl, _⟩ := hside
      by_cases hx : 0 ≤ x ∧ x ≤ (m : Int) - 1
      rotate_left
      · rw [predV_off (fun h => hx h.2.1)]
        exact predat_nox mode _ A cA B cB t l k b1 b2 _ x y w hT hL RU NK (Lib.hid fun w => indexok_off x m hx w)
      by_cases hy : 0 ≤ y ∧ y ≤ (m : Int) - 1
      rotate_left
      · rw [predV_off (fun h => hy h.2.2)]
        obtain ⟨x', rfl⟩ := Int.eq_ofNat_of_zero_le hx.1
        exact predat_noy mode _ A cA B cB t l k b1 b2 _ _ y w hT hL RU NK (Lib.hid fun w => indexok_at x' m (by omega) (by omega) w) (Lib.hid fun w => indexok_off y m hy w)
      unfold predV
      rw [if_pos ⟨hok, hx, hy⟩]
      obtain ⟨x', rfl⟩ := Int.eq_ofNat_of_zero_le hx.1
      obtain ⟨y', rfl⟩ := Int.eq_ofNat_of_zero_le hy.1
      have BD := Lib.hid fun w h1 h2 => impl_border_any A cA B cB t l k b1 b2 (m : Int) w h1 h2 hcA
      have MN := Lib.hid fun w h1 h2 => impl_mean_any A cA B cB t l k b1 b2 (m : Int) w h1 h2 hcA
      rw [nbOk_true_bord hok] at BD
      have hbl : (bordF t l k).length = 2 * m + 1 := bordF_len ht hl
      have PO := Lib.hid fun w h1 h2 => impl_predictorof_any A cA B cB t l (bordF t l k) k _ b1 b2 (m : Int) w h1 h2 BD MN
      simp only [Int.toNat_natCast]
      refine predat_in mode _ (rule_enters hmd) A cA B cB t l k b1 b2 (bordF t l k) _ _ (by omega) _ _ _ w hT hL RU NK (Lib.hid fun w => indexok_at x' m (by omega) (by omega) w) (Lib.hid fun w => indexok_at y' m (by omega) (by omega) w) PO (Lib.hid fun R cR w h1 h2 h3 => ?_)
      rw [ht, hl, hbl]
      rcases hm with rfl | rfl
      · exact rule_any_4 hmd A cA B cB t l k b1 b2 hok R cR x' y' w (by omega) (by omega) h1 h2 h3
      · exact rule_any_8 hmd A cA B cB t l k b1 b2 hok R cR x' y' w (by omega) (by omega) h1 h2 h3
set_option maxHeartbeats 1000000 in
theorem impl_pred_any (mode : Int) (A : Option Addr) (cA : Nat) (B : Option Addr) (cB : Nat) (t l : List Int) (k : Int) (b1 b2 : Bool) (n : Int) (w : World) (hT : Ints w w.heap.size A t) (hL : Ints w w.heap.size B l) (hcA : t.length ≤ cA) :
    Calls Try.prog 11 #[.int .i64 mode, .agg #[.slice A t.length cA, .slice B l.length cB, .int .i64 k, .bool b1, .bool b2], .int .i64 n] w fun e w' => ∃ A' c, e = .returned (.slice A' (prdL mode t l k b1 b2 n).length c) ∧ OwnI w' w.heap.size A' c (prdL mode t l k b1 b2 n) ∧ Below w.heap.size w w' := by
  cases hmd : mdOk mode with
  | false =>
    rw [prdL_off (by rw [hmd]; simp)]
    exact pred_nomode mode A cA B cB t l k b1 b2 n w hT hL (Lib.hid fun w => ruleof_off mode hmd w)
  | true =>
    have RU := Lib.hid fun w => ruleof_in hmd w
    have NK := Lib.hid fun w h1 h2 => impl_nbok_any A cA B cB t l k b1 b2 n w h1 h2
    cases hok : nbOk t l k n with
    | false =>
      rw [hok] at NK
      rw [prdL_off (by rw [hok]; simp)]
      exact pred_nonb mode _ A cA B cB t l k b1 b2 n w hT hL RU NK
    | true =>
      rw [hok] at NK
      obtain ⟨m, rfl, hm, ht, hl, _⟩ := nbOk_side hok
      have e1 : prdL mode t l k b1 b2 (m : Int) = prdF t l k b1 b2 m mode := by unfold prdL; rw [if_pos ⟨hok, hmd⟩, Int.toNat_natCast]
      have BD := Lib.hid fun w h1 h2 => impl_border_any A cA B cB t l k b1 b2 (m : Int) w h1 h2 hcA
      have MN := Lib.hid fun w h1 h2 => impl_mean_any A cA B cB t l k b1 b2 (m : Int) w h1 h2 hcA
      rw [nbOk_true_bord hok] at BD
      have hbl : (bordF t l k).length = 2 * m + 1 := bordF_len ht hl
      have PO := Lib.hid fun w h1 h2 => impl_predictorof_any A cA B cB t l (bordF t l k) k _ b1 b2 (m : Int) w h1 h2 BD MN
      rw [e1, prdF_len]
      rw [ht, hl] at NK
      rw [ht, hl, hbl] at PO
      rw [ht, hl]
      rcases hm with rfl | rfl
      · exact pred_in_4 mode _ (rule_enters hmd) (fun x y => predF t l k b1 b2 4 mode x y) _ (prdF_len ..) (fun j hj => prdF_get _ _ _ _ _ _ _ hj) A cA B cB t l k b1 b2 (bordF t l k) _ hbl w hT hL RU NK PO (Lib.hid fun R cR x y w hx hy h1 h2 h3 => rule_any_4 hmd A cA B cB t l k b1 b2 hok R cR x y w hx hy h1 h2 h3)
      · exact pred_in_8 mode _ (rule_enters hmd) (fun x y => predF t l k b1 b2 8 mode x y) _ (prdF_len ..) (fun j hj => prdF_get _ _ _ _ _ _ _ hj) A cA B cB t l k b1 b2 (bordF t l k) _ hbl w hT hL RU NK PO (Lib.hid fun R cR x y w hx hy h1 h2 h3 => rule_any_8 hmd A cA B cB t l k b1 b2 hok R cR x y w hx hy h1 h2 h3)
end Go.Proofs.Ytjgbenhjafgimaa
