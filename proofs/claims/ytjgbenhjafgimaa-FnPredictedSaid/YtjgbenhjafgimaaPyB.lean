/-
  Contracts of the program's predictorOf and ruleOf. Condition: the neighbourhood is valid.
-/
import Derived.Test.YtjgbenhjafgimaaPyA
import Derived.Test.YtjgbenhjafgimaaK7
import Derived.Test.YtjgbenhjafgimaaNbY
import Derived.Test.YtjgbenhjafgimaaPrF
import Derived.Deep.Cut
import Derived.Laws.EntriesVeiled
import Derived.Deep.RegionHeld3
namespace Go.Proofs.Ytjgbenhjafgimaa
open Go.RowKit
set_option linter.unusedVariables false


set_option maxRecDepth 100000 in
set_option maxHeartbeats 4000000 in
theorem impl_predictorof_any (A : Option Addr) (cA : Nat) (B : Option Addr) (cB : Nat) (t l r : List Int) (k mv : Int) (b1 b2 : Bool) (n : Int) (w : World) (hT : Ints w w.heap.size A t) (hL : Ints w w.heap.size B l)
    (BD : Hid (∀ w, Ints w w.heap.size A t → Ints w w.heap.size B l → Calls Try.prog 20 #[.agg #[.slice A t.length cA, .slice B l.length cB, .int .i64 k, .bool b1, .bool b2], .int .i64 n] w fun e w' => ∃ A' c, e = .returned (.slice A' r.length c) ∧ OwnI w' w.heap.size A' c r ∧ Below w.heap.size w w'))
    (MN : Hid (∀ w, Ints w w.heap.size A t → Ints w w.heap.size B l → Calls Try.prog 19 #[.agg #[.slice A t.length cA, .slice B l.length cB, .int .i64 k, .bool b1, .bool b2], .int .i64 n] w fun e w' => e = .returned (.int .i64 mv) ∧ Below w.heap.size w w')) :
    Calls Try.prog 41 #[.agg #[.slice A t.length cA, .slice B l.length cB, .int .i64 k, .bool b1, .bool b2], .int .i64 n] w fun e w' => ∃ R cR, e = .returned (.agg #[.slice A t.length cA, .slice B l.length cB, .int .i64 k, .bool b1, .bool b2, .slice R r.length cR, .int .i64 mv]) ∧ OwnI w' w.heap.size R cR r ∧ Below w.heap.size w w' := by
  have h2 := heap_two w (.cells #[.slice A t.length cA, .slice B l.length cB, .int .i64 k, .bool b1, .bool b2] 26) (.cells #[.slice none 0 0, .slice none 0 0, .int .i64 0, .bool false, .bool false, .slice none 0 0, .int .i64 0] 60)
  have HR := Lib.hid h2.2
  have bt := below_two w (.cells #[.slice A t.length cA, .slice B l.length cB, .int .i64 k, .bool b1, .bool b2] 26) (.cells #[.slice none 0 0, .slice none 0 0, .int .i64 0, .bool false, .bool false, .slice none 0 0, .int .i64 0] 60)
  have hsz : ((w.alloc (.cells #[.slice A t.length cA, .slice B l.length cB, .int .i64 k, .bool b1, .bool b2] 26)).alloc (.cells #[.slice none 0 0, .slice none 0 0, .int .i64 0, .bool false, .bool false, .slice none 0 0, .int .i64 0] 60)).heap.size = w.heap.size + 1 + 1 := by simp
  have hS : ((w.alloc (.cells #[.slice A t.length cA, .slice B l.length cB, .int .i64 k, .bool b1, .bool b2] 26)).alloc (.cells #[.slice none 0 0, .slice none 0 0, .int .i64 0, .bool false, .bool false, .slice none 0 0, .int .i64 0] 60)).cell? ⟨w.heap.size, 0, none⟩ = some (.slice A t.length cA) ∧ ((w.alloc (.cells #[.slice A t.length cA, .slice B l.length cB, .int .i64 k, .bool b1, .bool b2] 26)).alloc (.cells #[.slice none 0 0, .slice none 0 0, .int .i64 0, .bool false, .bool false, .slice none 0 0, .int .i64 0] 60)).cell? ⟨w.heap.size, 1, none⟩ = some (.slice B l.length cB) ∧ ((w.alloc (.cells #[.slice A t.length cA, .slice B l.length cB, .int .i64 k, .bool b1, .bool b2] 26)).alloc (.cells #[.slice none 0 0, .slice none 0 0, .int .i64 0, .bool false, .bool false, .slice none 0 0, .int .i64 0] 60)).cell? ⟨w.heap.size, 2, none⟩ = some (.int .i64 k) ∧ ((w.alloc (.cells #[.slice A t.length cA, .slice B l.length cB, .int .i64 k, .bool b1, .bool b2] 26)).alloc (.cells #[.slice none 0 0, .slice none 0 0, .int .i64 0, .bool false, .bool false, .slice none 0 0, .int .i64 0] 60)).cell? ⟨w.heap.size, 3, none⟩ = some (.bool b1) ∧ ((w.alloc (.cells #[.slice A t.length cA, .slice B l.length cB, .int .i64 k, .bool b1, .bool b2] 26)).alloc (.cells #[.slice none 0 0, .slice none 0 0, .int .i64 0, .bool false, .bool false, .slice none 0 0, .int .i64 0] 60)).cell? ⟨w.heap.size, 4, none⟩ = some (.bool b2) ∧ Below (w.heap.size + 1) ((w.alloc (.cells #[.slice A t.length cA, .slice B l.length cB, .int .i64 k, .bool b1, .bool b2] 26)).alloc (.cells #[.slice none 0 0, .slice none 0 0, .int .i64 0, .bool false, .bool false, .slice none 0 0, .int .i64 0] 60)) ((w.alloc (.cells #[.slice A t.length cA, .slice B l.length cB, .int .i64 k, .bool b1, .bool b2] 26)).alloc (.cells #[.slice none 0 0, .slice none 0 0, .int .i64 0, .bool false, .bool false, .slice none 0 0, .int .i64 0] 60)) ∧ w.heap.size + 1 ≤ ((w.alloc (.cells #[.slice A t.length cA, .slice B l.length cB, .int .i64 k, .bool b1, .bool b2] 26)).alloc (.cells #[.slice none 0 0, .slice none 0 0, .int .i64 0, .bool false, .bool false, .slice none 0 0, .int .i64 0] 60)).heap.size := by
    obtain ⟨c0, c1, c2, c3, c4⟩ := cells5 h2.1
    exact ⟨c0, c1, c2, c3, c4, Below.refl _ _, by omega⟩
  have UP : Hid (∀ wr, Below (w.heap.size + 1) ((w.alloc (.cells #[.slice A t.length cA, .slice B l.length cB, .int .i64 k, .bool b1, .bool b2] 26)).alloc (.cells #[.slice none 0 0, .slice none 0 0, .int .i64 0, .bool false, .bool false, .slice none 0 0, .int .i64 0] 60)) wr → Below w.heap.size w wr) := Lib.hid fun wr h => bt.trans (h.mono (Nat.le_succ _))
  have I1 : Hid (∀ wr, Below (w.heap.size + 1) ((w.alloc (.cells #[.slice A t.length cA, .slice B l.length cB, .int .i64 k, .bool b1, .bool b2] 26)).alloc (.cells #[.slice none 0 0, .slice none 0 0, .int .i64 0, .bool false, .bool false, .slice none 0 0, .int .i64 0] 60)) wr → Ints wr wr.heap.size A t) := Lib.hid fun wr h => (hT.below (UP.out wr h) (Nat.le_refl _)).mono (UP.out wr h).size
  have I2 : Hid (∀ wr, Below (w.heap.size + 1) ((w.alloc (.cells #[.slice A t.length cA, .slice B l.length cB, .int .i64 k, .bool b1, .bool b2] 26)).alloc (.cells #[.slice none 0 0, .slice none 0 0, .int .i64 0, .bool false, .bool false, .slice none 0 0, .int .i64 0] 60)) wr → Ints wr wr.heap.size B l) := Lib.hid fun wr h => (hL.below (UP.out wr h) (Nat.le_refl _)).mono (UP.out wr h).size
  clear h2 bt hsz hT hL
  go_enter Try.func41, Try.ntmps41
  go_upto_region 1 with fail
  go_region_held3 (fun w' => w'.cell? ⟨w.heap.size, 0, none⟩ = some (.slice A t.length cA) ∧ w'.cell? ⟨w.heap.size, 1, none⟩ = some (.slice B l.length cB) ∧ w'.cell? ⟨w.heap.size, 2, none⟩ = some (.int .i64 k) ∧ w'.cell? ⟨w.heap.size, 3, none⟩ = some (.bool b1) ∧ w'.cell? ⟨w.heap.size, 4, none⟩ = some (.bool b2) ∧ Below (w.heap.size + 1) ((w.alloc (.cells #[.slice A t.length cA, .slice B l.length cB, .int .i64 k, .bool b1, .bool b2] 26)).alloc (.cells #[.slice none 0 0, .slice none 0 0, .int .i64 0, .bool false, .bool false, .slice none 0 0, .int .i64 0] 60)) w' ∧ w.heap.size + 1 ≤ w'.heap.size)
    (first | with_reducible assumption | (with_reducible refine heldx5_drew ?_; with_reducible assumption) | (with_reducible refine heldx5 ?_ (by with_reducible assumption); with_reducible assumption) | (exact heldx5_put7 (by with_reducible assumption) (Nat.ne_of_lt (Nat.lt_succ_self _)) (Nat.le_refl _)) | fail)
    (first
      | (go_at_call 20; have k0 := K2.out; (with_reducible refine (BD.out _ (I1.out _ (heldx5_below (by with_reducible assumption))) (I2.out _ (heldx5_below (by with_reducible assumption)))).mono ?_); rintro e w1 ⟨R, cR, rfl, hoR, hb'⟩; have K1 : Hid (w1.heap[w.heap.size + 1]? = some (.cells #[.slice none 0 0, .slice none 0 0, .int .i64 0, .bool false, .bool false, .slice none 0 0, .int .i64 0] 60 (0, 0))) := Lib.hid ((hb'.block (w.heap.size + 1) (heap_lt k0)).trans k0); have O1 : Hid (OwnI w1 (w.heap.size + 1 + 1) R cR r) := Lib.hid (own_lower hoR (Nat.succ_le_of_lt (heap_lt k0))); obtain ⟨f0, f1, f2, f3, f4, f5, f6⟩ := frozen7 K1.out; obtain ⟨d0, d1, d2, d3, d4, d5, d6⟩ := cells7 K1.out; clear hoR k0)
      | (go_at_call 20; have k0 := HR.out; (with_reducible refine (BD.out _ (I1.out _ (heldx5_below (by with_reducible assumption))) (I2.out _ (heldx5_below (by with_reducible assumption)))).mono ?_); rintro e w1 ⟨R, cR, rfl, hoR, hb'⟩; have K1 : Hid (w1.heap[w.heap.size + 1]? = some (.cells #[.slice none 0 0, .slice none 0 0, .int .i64 0, .bool false, .bool false, .slice none 0 0, .int .i64 0] 60 (0, 0))) := Lib.hid ((hb'.block (w.heap.size + 1) (heap_lt k0)).trans k0); have O1 : Hid (OwnI w1 (w.heap.size + 1 + 1) R cR r) := Lib.hid (own_lower hoR (Nat.succ_le_of_lt (heap_lt k0))); obtain ⟨f0, f1, f2, f3, f4, f5, f6⟩ := frozen7 K1.out; obtain ⟨d0, d1, d2, d3, d4, d5, d6⟩ := cells7 K1.out; clear hoR k0)
      | (go_at_call 19; have k0 := K1.out; (with_reducible refine (MN.out _ (I1.out _ (heldx5_below (by with_reducible assumption))) (I2.out _ (heldx5_below (by with_reducible assumption)))).mono ?_); rintro e w2 ⟨rfl, hb''⟩; have K2 : Hid (w2.heap[w.heap.size + 1]? = some (.cells #[.slice none 0 0, .slice none 0 0, .int .i64 0, .bool false, .bool false, .slice none 0 0, .int .i64 0] 60 (0, 0))) := Lib.hid ((hb''.block (w.heap.size + 1) (heap_lt k0)).trans k0); have O2 : Hid (OwnI w2 (w.heap.size + 1 + 1) R cR r) := Lib.hid (OwnI.kept O1.out hb'' (Nat.le_refl _)); obtain ⟨f0, f1, f2, f3, f4, f5, f6⟩ := frozen7 K2.out; obtain ⟨d0, d1, d2, d3, d4, d5, d6⟩ := cells7 K2.out; clear k0)
      | (go_at_call 19; have k0 := HR.out; (with_reducible refine (MN.out _ (I1.out _ (heldx5_below (by with_reducible assumption))) (I2.out _ (heldx5_below (by with_reducible assumption)))).mono ?_); rintro e w2 ⟨rfl, hb''⟩; have K2 : Hid (w2.heap[w.heap.size + 1]? = some (.cells #[.slice none 0 0, .slice none 0 0, .int .i64 0, .bool false, .bool false, .slice none 0 0, .int .i64 0] 60 (0, 0))) := Lib.hid ((hb''.block (w.heap.size + 1) (heap_lt k0)).trans k0); obtain ⟨f0, f1, f2, f3, f4, f5, f6⟩ := frozen7 K2.out; obtain ⟨d0, d1, d2, d3, d4, d5, d6⟩ := cells7 K2.out; clear k0)
      | fail)
  all_goals go_wp2
  all_goals first
    | (have P := put7_block K2.out (.slice A t.length cA) (.slice B l.length cB) (.int .i64 k) (.bool b1) (.bool b2) (.slice R r.length cR) (.int .i64 mv); obtain ⟨e0, e1, e2, e3, e4, e5, e6⟩ := cells7 P; have OX := own_lower (OwnI.other O2.out (put7_grown w2 (w.heap.size + 1) (.slice A t.length cA) (.slice B l.length cB) (.int .i64 k) (.bool b1) (.bool b2) (.slice R r.length cR) (.int .i64 mv)) (fun k hk => by simp only [Option.some.injEq] at hk; omega)) (Nat.le_of_lt (Nat.lt_succ_of_lt (Nat.lt_succ_self w.heap.size))); exact bodyPost_ret (v := .agg #[.slice A t.length cA, .slice B l.length cB, .int .i64 k, .bool b1, .bool b2, .slice R r.length cR, .int .i64 mv]) (by simp [results, Try.results41, go_sem, e0, e1, e2, e3, e4, e5, e6]) rfl ⟨R, cR, rfl, OX, UP.out _ (heldx5_below (by with_reducible assumption))⟩)
    | (have P := put7_block K1.out (.slice A t.length cA) (.slice B l.length cB) (.int .i64 k) (.bool b1) (.bool b2) (.slice R r.length cR) (.int .i64 mv); obtain ⟨e0, e1, e2, e3, e4, e5, e6⟩ := cells7 P; have OX := own_lower (OwnI.other O1.out (put7_grown w1 (w.heap.size + 1) (.slice A t.length cA) (.slice B l.length cB) (.int .i64 k) (.bool b1) (.bool b2) (.slice R r.length cR) (.int .i64 mv)) (fun k hk => by simp only [Option.some.injEq] at hk; omega)) (Nat.le_of_lt (Nat.lt_succ_of_lt (Nat.lt_succ_self w.heap.size))); exact bodyPost_ret (v := .agg #[.slice A t.length cA, .slice B l.length cB, .int .i64 k, .bool b1, .bool b2, .slice R r.length cR, .int .i64 mv]) (by simp [results, Try.results41, go_sem, e0, e1, e2, e3, e4, e5, e6]) rfl ⟨R, cR, rfl, OX, UP.out _ (heldx5_below (by with_reducible assumption))⟩)

set_option maxRecDepth 100000 in
set_option maxHeartbeats 1000000 in
theorem ruleof_0 (w : World) : Calls Try.prog 40 #[.int .i64 0] w fun e w' => e = .returned (.tuple #[.func (.func 70) #[] #[], .bool true]) ∧ Below w.heap.size w w' := by
  have hh := heap_alloc_new w (.cells #[.nilFunc, .nilFunc, .nilFunc, .nilFunc, .nilFunc, .nilFunc] 80)
  obtain ⟨f0, f1, f2, f3, f4, f5⟩ := frozen6 hh
  obtain ⟨c0, c1, c2, c3, c4, c5⟩ := cells6 hh
  clear hh
  go_enter Try.func40, Try.ntmps40
  go_wp2
  go_ret2
  exact ⟨rfl, below_new w _⟩

set_option maxRecDepth 100000 in
set_option maxHeartbeats 1000000 in
theorem ruleof_1 (w : World) : Calls Try.prog 40 #[.int .i64 1] w fun e w' => e = .returned (.tuple #[.func (.func 71) #[] #[], .bool true]) ∧ Below w.heap.size w w' := by
  have hh := heap_alloc_new w (.cells #[.nilFunc, .nilFunc, .nilFunc, .nilFunc, .nilFunc, .nilFunc] 80)
  obtain ⟨f0, f1, f2, f3, f4, f5⟩ := frozen6 hh
  obtain ⟨c0, c1, c2, c3, c4, c5⟩ := cells6 hh
  clear hh
  go_enter Try.func40, Try.ntmps40
  go_wp2
  go_ret2
  exact ⟨rfl, below_new w _⟩

set_option maxRecDepth 100000 in
set_option maxHeartbeats 1000000 in
theorem ruleof_2 (w : World) : Calls Try.prog 40 #[.int .i64 2] w fun e w' => e = .returned (.tuple #[.func (.func 72) #[] #[], .bool true]) ∧ Below w.heap.size w w' := by
  have hh := heap_alloc_new w (.cells #[.nilFunc, .nilFunc, .nilFunc, .nilFunc, .nilFunc, .nilFunc] 80)
  obtain ⟨f0, f1, f2, f3, f4, f5⟩ := frozen6 hh
  obtain ⟨c0, c1, c2, c3, c4, c5⟩ := cells6 hh
  clear hh
  go_enter Try.func40, Try.ntmps40
  go_wp2
  go_ret2
  exact ⟨rfl, below_new w _⟩

set_option maxRecDepth 100000 in
set_option maxHeartbeats 1000000 in
theorem ruleof_3 (w : World) : Calls Try.prog 40 #[.int .i64 3] w fun e w' => e = .returned (.tuple #[.func (.func 73) #[] #[], .bool true]) ∧ Below w.heap.size w w' := by
  have hh := heap_alloc_new w (.cells #[.nilFunc, .nilFunc, .nilFunc, .nilFunc, .nilFunc, .nilFunc] 80)
  obtain ⟨f0, f1, f2, f3, f4, f5⟩ := frozen6 hh
  obtain ⟨c0, c1, c2, c3, c4, c5⟩ := cells6 hh
  clear hh
  go_enter Try.func40, Try.ntmps40
  go_wp2
  go_ret2
  exact ⟨rfl, below_new w _⟩

set_option maxRecDepth 100000 in
set_option maxHeartbeats 1000000 in
theorem ruleof_4 (w : World) : Calls Try.prog 40 #[.int .i64 4] w fun e w' => e = .returned (.tuple #[.func (.func 74) #[] #[], .bool true]) ∧ Below w.heap.size w w' := by
  have hh := heap_alloc_new w (.cells #[.nilFunc, .nilFunc, .nilFunc, .nilFunc, .nilFunc, .nilFunc] 80)
  obtain ⟨f0, f1, f2, f3, f4, f5⟩ := frozen6 hh
  obtain ⟨c0, c1, c2, c3, c4, c5⟩ := cells6 hh
  clear hh
  go_enter Try.func40, Try.ntmps40
  go_wp2
  go_ret2
  exact ⟨rfl, below_new w _⟩

set_option maxRecDepth 100000 in
set_option maxHeartbeats 1000000 in
theorem ruleof_5 (w : World) : Calls Try.prog 40 #[.int .i64 5] w fun e w' => e = .returned (.tuple #[.func (.func 75) #[] #[], .bool true]) ∧ Below w.heap.size w w' := by
  have hh := heap_alloc_new w (.cells #[.nilFunc, .nilFunc, .nilFunc, .nilFunc, .nilFunc, .nilFunc] 80)
  obtain ⟨f0, f1, f2, f3, f4, f5⟩ := frozen6 hh
  obtain ⟨c0, c1, c2, c3, c4, c5⟩ := cells6 hh
  clear hh
  go_enter Try.func40, Try.ntmps40
  go_wp2
  go_ret2
  exact ⟨rfl, below_new w _⟩

set_option maxRecDepth 100000 in
set_option maxHeartbeats 1000000 in
theorem ruleof_off (m : Int) (hm : mdOk m = false) (w : World) : Calls Try.prog 40 #[.int .i64 m] w fun e w' => e = .returned (.tuple #[.nilFunc, .bool false]) ∧ Below w.heap.size w w' := by
  have hh := heap_alloc_new w (.cells #[.nilFunc, .nilFunc, .nilFunc, .nilFunc, .nilFunc, .nilFunc] 80)
  obtain ⟨f0, f1, f2, f3, f4, f5⟩ := frozen6 hh
  obtain ⟨c0, c1, c2, c3, c4, c5⟩ := cells6 hh
  clear hh
  by_cases h0 : m < 0
  · have d1 : decide (m < 0) = true := by simpa using h0
    clear hm h0
    go_enter Try.func40, Try.ntmps40
    go_wp2
    go_ret2
    exact ⟨rfl, below_new w _⟩
  · have d1 : decide (m < 0) = false := by simpa using h0
    have h6 : 6 ≤ m := by
      simp only [mdOk, Bool.and_eq_false_iff, decide_eq_false_iff_not] at hm
      omega
    have d2 : decide ((6 : Int) ≤ m) = true := by simpa using h6
    clear hm h0
    go_enter Try.func40, Try.ntmps40
    go_wp2
    go_ret2
    exact ⟨rfl, below_new w _⟩
end Go.Proofs.Ytjgbenhjafgimaa
