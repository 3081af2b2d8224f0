/-
  Contracts of the program's ways to predict one sample, of smoothed, clipped and indexOk. Condition: the neighbourhood is valid.
-/
import Derived.Test.YtjgbenhjafgimaaPrA
namespace Go.Proofs.Ytjgbenhjafgimaa
open Go.RowKit
set_option linter.unusedVariables false

set_option maxRecDepth 100000 in
set_option maxHeartbeats 1000000 in
theorem smoothed_any (a b c : Int) (ha : 0 ≤ a ∧ a ≤ 255) (hb : 0 ≤ b ∧ b ≤ 255) (hc : 0 ≤ c ∧ c ≤ 255) (w : World) : Calls Try.prog 62 #[.int .i64 a, .int .i64 b, .int .i64 c] w fun e w' => e = .returned (.int .i64 (softV a b c)) ∧ w' = w := by
  have e : (a + 2 * b + c + 2).tdiv 4 = softV a b c := Int.tdiv_eq_ediv_of_nonneg (by omega)
  have hr := softV_pix ha hb hc
  obtain ⟨z, hz⟩ : ∃ z, z = softV a b c := ⟨_, rfl⟩
  rw [← hz] at e hr ⊢
  clear hz
  go_enter Try.func62, Try.ntmps62
  go_wp2
  go_ret
  exact ⟨rfl, rfl⟩
set_option maxRecDepth 100000 in
set_option maxHeartbeats 1000000 in
theorem clipped_any (v : Int) (w : World) : Calls Try.prog 63 #[.int .i64 v] w fun e w' => e = .returned (.int .i64 (clipV v)) ∧ w' = w := by
  by_cases h : v < 255
  · by_cases h0 : 0 < v
    · rw [show clipV v = v by unfold clipV; omega]
      go_enter Try.func63, Try.ntmps63
      go_wp2
      go_ret
      first | exact ⟨rfl, rfl⟩ | exact ⟨congrArg (fun z => Ending.returned (.int .i64 z)) (by omega), rfl⟩
    · rw [show clipV v = 0 by unfold clipV; omega]
      go_enter Try.func63, Try.ntmps63
      go_wp2
      go_ret
      first | exact ⟨rfl, rfl⟩ | exact ⟨congrArg (fun z => Ending.returned (.int .i64 z)) (by omega), rfl⟩
  · rw [show clipV v = 255 by unfold clipV; omega]
    go_enter Try.func63, Try.ntmps63
    go_wp2
    go_ret
    first | exact ⟨rfl, rfl⟩ | exact ⟨congrArg (fun z => Ending.returned (.int .i64 z)) (by omega), rfl⟩
set_option maxRecDepth 100000 in
set_option maxHeartbeats 1000000 in
theorem indexok_at (x : Nat) (n : Nat) (hx : x < n) (hn : n ≤ 1000) (w : World) : Calls Try.prog 52 #[.int .i64 x, .int .i64 n] w fun e w' => e = .returned (.bool true) ∧ w = w' := by
  have d1 : decide ((0 : Int) ≤ (x : Int)) = true := by simp
  have d2 : decide ((x : Int) < (n : Int)) = true := by simp; omega
  go_enter Try.func52, Try.ntmps52
  go_wp2
  go_ret
  exact ⟨rfl, rfl⟩
set_option maxRecDepth 100000 in
set_option maxHeartbeats 1000000 in
theorem indexok_off (x : Int) (n : Int) (hx : ¬ (0 ≤ x ∧ x ≤ n - 1)) (w : World) : Calls Try.prog 52 #[.int .i64 x, .int .i64 n] w fun e w' => e = .returned (.bool false) ∧ w = w' := by
  by_cases h : 0 ≤ x
  · have d1 : decide (0 ≤ x) = true := by simpa using h
    have d2 : decide (x < n) = false := by simp; omega
    clear hx h
    go_enter Try.func52, Try.ntmps52
    go_wp2
    go_ret
    exact ⟨rfl, rfl⟩
  · have d1 : decide (0 ≤ x) = false := by simpa using h
    clear hx h
    go_enter Try.func52, Try.ntmps52
    go_wp2
    go_ret
    exact ⟨rfl, rfl⟩

set_option maxRecDepth 100000 in
set_option maxHeartbeats 2000000 in
theorem impl_meanat_4 (tb toff cA lb loff cB rb roff cR : Nat) (t l r : List Int) (k mv : Int) (b1 b2 : Bool) (x y : Nat) (hx : x < 4) (hy : y < 4) (w : World) (htb : tb < w.heap.size) (hlb : lb < w.heap.size) (hrb : rb < w.heap.size)
    (htc : ∀ j, j < 8 → w.cell? ⟨tb, toff + j, none⟩ = some (.int .i64 (t.getD j 0))) (hlc : ∀ j, j < 4 → w.cell? ⟨lb, loff + j, none⟩ = some (.int .i64 (l.getD j 0))) (hrc : ∀ j, j < 9 → w.cell? ⟨rb, roff + j, none⟩ = some (.int .i64 (r.getD j 0)))
    (hpt : ∀ i, i < 8 → 0 ≤ t.getD i 0 ∧ t.getD i 0 ≤ 255) (hpl : ∀ i, i < 4 → 0 ≤ l.getD i 0 ∧ l.getD i 0 ≤ 255) (hpr : ∀ i, i < 9 → 0 ≤ r.getD i 0 ∧ r.getD i 0 ≤ 255) (hk : 0 ≤ k ∧ k ≤ 255) :
    Calls Try.prog 70 #[.agg #[.slice (some ⟨tb, toff, none⟩) 8 cA, .slice (some ⟨lb, loff, none⟩) 4 cB, .int .i64 k, .bool b1, .bool b2, .slice (some ⟨rb, roff, none⟩) 9 cR, .int .i64 mv], .int .i64 x, .int .i64 y] w fun e w' => e = .returned (.int .i64 mv) ∧ Below w.heap.size w w' := by
  clear htc hlc hrc hpt hpl hpr
  go_enter Try.func70, Try.ntmps70
  go_wp2
  go_ret
  exact ⟨rfl, below_new w _⟩

set_option maxRecDepth 100000 in
set_option maxHeartbeats 2000000 in
theorem impl_downat_4 (tb toff cA lb loff cB rb roff cR : Nat) (t l r : List Int) (k mv : Int) (b1 b2 : Bool) (x y : Nat) (hx : x < 4) (hy : y < 4) (w : World) (htb : tb < w.heap.size) (hlb : lb < w.heap.size) (hrb : rb < w.heap.size)
    (htc : ∀ j, j < 8 → w.cell? ⟨tb, toff + j, none⟩ = some (.int .i64 (t.getD j 0))) (hlc : ∀ j, j < 4 → w.cell? ⟨lb, loff + j, none⟩ = some (.int .i64 (l.getD j 0))) (hrc : ∀ j, j < 9 → w.cell? ⟨rb, roff + j, none⟩ = some (.int .i64 (r.getD j 0)))
    (hpt : ∀ i, i < 8 → 0 ≤ t.getD i 0 ∧ t.getD i 0 ≤ 255) (hpl : ∀ i, i < 4 → 0 ≤ l.getD i 0 ∧ l.getD i 0 ≤ 255) (hpr : ∀ i, i < 9 → 0 ≤ r.getD i 0 ∧ r.getD i 0 ≤ 255) (hk : 0 ≤ k ∧ k ≤ 255) :
    Calls Try.prog 71 #[.agg #[.slice (some ⟨tb, toff, none⟩) 8 cA, .slice (some ⟨lb, loff, none⟩) 4 cB, .int .i64 k, .bool b1, .bool b2, .slice (some ⟨rb, roff, none⟩) 9 cR, .int .i64 mv], .int .i64 x, .int .i64 y] w fun e w' => e = .returned (.int .i64 (t.getD x 0)) ∧ Below w.heap.size w w' := by
  have c := htc x (by omega)
  obtain ⟨u, hu⟩ : ∃ u, u = t.getD x 0 := ⟨_, rfl⟩
  rw [← hu] at c ⊢
  have xi : (x : Int) < 8 := by omega
  clear htc hlc hrc hpt hpl hpr hu
  go_enter Try.func71, Try.ntmps71
  go_wp2
  go_ret
  exact ⟨rfl, below_new w _⟩

set_option maxRecDepth 100000 in
set_option maxHeartbeats 2000000 in
theorem impl_acrossat_4 (tb toff cA lb loff cB rb roff cR : Nat) (t l r : List Int) (k mv : Int) (b1 b2 : Bool) (x y : Nat) (hx : x < 4) (hy : y < 4) (w : World) (htb : tb < w.heap.size) (hlb : lb < w.heap.size) (hrb : rb < w.heap.size)
    (htc : ∀ j, j < 8 → w.cell? ⟨tb, toff + j, none⟩ = some (.int .i64 (t.getD j 0))) (hlc : ∀ j, j < 4 → w.cell? ⟨lb, loff + j, none⟩ = some (.int .i64 (l.getD j 0))) (hrc : ∀ j, j < 9 → w.cell? ⟨rb, roff + j, none⟩ = some (.int .i64 (r.getD j 0)))
    (hpt : ∀ i, i < 8 → 0 ≤ t.getD i 0 ∧ t.getD i 0 ≤ 255) (hpl : ∀ i, i < 4 → 0 ≤ l.getD i 0 ∧ l.getD i 0 ≤ 255) (hpr : ∀ i, i < 9 → 0 ≤ r.getD i 0 ∧ r.getD i 0 ≤ 255) (hk : 0 ≤ k ∧ k ≤ 255) :
    Calls Try.prog 72 #[.agg #[.slice (some ⟨tb, toff, none⟩) 8 cA, .slice (some ⟨lb, loff, none⟩) 4 cB, .int .i64 k, .bool b1, .bool b2, .slice (some ⟨rb, roff, none⟩) 9 cR, .int .i64 mv], .int .i64 x, .int .i64 y] w fun e w' => e = .returned (.int .i64 (l.getD y 0)) ∧ Below w.heap.size w w' := by
  have c := hlc y (by omega)
  obtain ⟨u, hu⟩ : ∃ u, u = l.getD y 0 := ⟨_, rfl⟩
  rw [← hu] at c ⊢
  have xi : (y : Int) < 4 := by omega
  clear htc hlc hrc hpt hpl hpr hu
  go_enter Try.func72, Try.ntmps72
  go_wp2
  go_ret
  exact ⟨rfl, below_new w _⟩

set_option maxRecDepth 100000 in
set_option maxHeartbeats 2000000 in
theorem impl_slopeat_4 (tb toff cA lb loff cB rb roff cR : Nat) (t l r : List Int) (k mv : Int) (b1 b2 : Bool) (x y : Nat) (hx : x < 4) (hy : y < 4) (w : World) (htb : tb < w.heap.size) (hlb : lb < w.heap.size) (hrb : rb < w.heap.size)
    (htc : ∀ j, j < 8 → w.cell? ⟨tb, toff + j, none⟩ = some (.int .i64 (t.getD j 0))) (hlc : ∀ j, j < 4 → w.cell? ⟨lb, loff + j, none⟩ = some (.int .i64 (l.getD j 0))) (hrc : ∀ j, j < 9 → w.cell? ⟨rb, roff + j, none⟩ = some (.int .i64 (r.getD j 0)))
    (hpt : ∀ i, i < 8 → 0 ≤ t.getD i 0 ∧ t.getD i 0 ≤ 255) (hpl : ∀ i, i < 4 → 0 ≤ l.getD i 0 ∧ l.getD i 0 ≤ 255) (hpr : ∀ i, i < 9 → 0 ≤ r.getD i 0 ∧ r.getD i 0 ≤ 255) (hk : 0 ≤ k ∧ k ≤ 255) :
    Calls Try.prog 73 #[.agg #[.slice (some ⟨tb, toff, none⟩) 8 cA, .slice (some ⟨lb, loff, none⟩) 4 cB, .int .i64 k, .bool b1, .bool b2, .slice (some ⟨rb, roff, none⟩) 9 cR, .int .i64 mv], .int .i64 x, .int .i64 y] w fun e w' => e = .returned (.int .i64 (clipV (l.getD y 0 + t.getD x 0 - k))) ∧ Below w.heap.size w w' := by
  have cx := htc x (by omega)
  have cy := hlc y (by omega)
  have px := hpt x (by omega)
  have py := hpl y (by omega)
  obtain ⟨u, hu⟩ : ∃ u, u = t.getD x 0 := ⟨_, rfl⟩
  obtain ⟨v, hv⟩ : ∃ v, v = l.getD y 0 := ⟨_, rfl⟩
  rw [← hu] at px cx ⊢
  rw [← hv] at py cy ⊢
  have CL := Lib.hid (clipped_any (v + u - k))
  obtain ⟨z, hz⟩ : ∃ z, z = clipV (v + u - k) := ⟨_, rfl⟩
  rw [← hz] at CL ⊢
  have xi : (x : Int) < 8 := by omega
  have yi : (y : Int) < 4 := by omega
  clear htc hlc hrc hpt hpl hpr hu hv hz
  go_enter Try.func73, Try.ntmps73
  go_wp2_with fail
  go_quiet (first
    | (go_at_call 63; with_reducible exact Calls.quiet_of_same (CL.out _)))
  go_wp2
  go_ret
  exact ⟨rfl, below_drews (below_new w _) _⟩

set_option maxRecDepth 100000 in
set_option maxHeartbeats 2000000 in
theorem impl_leftat_4 (tb toff cA lb loff cB rb roff cR : Nat) (t l r : List Int) (k mv : Int) (b1 b2 : Bool) (x y : Nat) (hx : x < 4) (hy : y < 4) (w : World) (htb : tb < w.heap.size) (hlb : lb < w.heap.size) (hrb : rb < w.heap.size)
    (htc : ∀ j, j < 8 → w.cell? ⟨tb, toff + j, none⟩ = some (.int .i64 (t.getD j 0))) (hlc : ∀ j, j < 4 → w.cell? ⟨lb, loff + j, none⟩ = some (.int .i64 (l.getD j 0))) (hrc : ∀ j, j < 9 → w.cell? ⟨rb, roff + j, none⟩ = some (.int .i64 (r.getD j 0)))
    (hpt : ∀ i, i < 8 → 0 ≤ t.getD i 0 ∧ t.getD i 0 ≤ 255) (hpl : ∀ i, i < 4 → 0 ≤ l.getD i 0 ∧ l.getD i 0 ≤ 255) (hpr : ∀ i, i < 9 → 0 ≤ r.getD i 0 ∧ r.getD i 0 ≤ 255) (hk : 0 ≤ k ∧ k ≤ 255) :
    Calls Try.prog 74 #[.agg #[.slice (some ⟨tb, toff, none⟩) 8 cA, .slice (some ⟨lb, loff, none⟩) 4 cB, .int .i64 k, .bool b1, .bool b2, .slice (some ⟨rb, roff, none⟩) 9 cR, .int .i64 mv], .int .i64 x, .int .i64 y] w fun e w' => e = .returned (.int .i64 (softV (t.getD (x + y) 0) (t.getD (min 7 (x + y + 1)) 0) (t.getD (min 7 (x + y + 2)) 0))) ∧ Below w.heap.size w w' := by
  obtain ⟨p1, hp1⟩ : ∃ q, q = min 7 (x + y + 1) := ⟨_, rfl⟩
  obtain ⟨p2, hp2⟩ : ∃ q, q = min 7 (x + y + 2) := ⟨_, rfl⟩
  rw [← hp1, ← hp2]
  obtain ⟨q, hq⟩ : ∃ q, q = x + y := ⟨_, rfl⟩
  have hp1e : p1 = q + 1 := by omega
  subst hp1e
  rw [← hq]
  have ca := htc q (by omega)
  have cb := htc (q + 1) (by omega)
  have cc := htc p2 (by omega)
  have SF := Lib.hid (smoothed_any _ _ _ (hpt q (by omega)) (hpt (q + 1) (by omega)) (hpt p2 (by omega)))
  obtain ⟨u, hu⟩ : ∃ u, u = t.getD q 0 := ⟨_, rfl⟩
  obtain ⟨v, hv⟩ : ∃ v, v = t.getD (q + 1) 0 := ⟨_, rfl⟩
  obtain ⟨s, hs⟩ : ∃ v, v = t.getD p2 0 := ⟨_, rfl⟩
  rw [← hu, ← hv, ← hs] at SF ⊢
  rw [← hu] at ca
  rw [← hv] at cb
  rw [← hs] at cc
  obtain ⟨z, hz⟩ : ∃ z, z = softV u v s := ⟨_, rfl⟩
  rw [← hz] at SF ⊢
  have q0 : (x : Int) + (y : Int) = (q : Int) := by omega
  have q1 : (q : Int) < 8 := by omega
  have q2 : (q : Int) + 1 < 8 := by omega
  have q3 : min ((q : Int) + 2) 7 = (p2 : Int) := by omega
  have q4 : (p2 : Int) < 8 := by omega
  clear htc hlc hrc hpt hpl hpr hu hv hs hz hp1 hp2 hq
  go_enter Try.func74, Try.ntmps74
  go_wp2_with fail
  go_quiet (first
    | (go_at_call 62; with_reducible exact Calls.quiet_of_same (SF.out _)))
  go_wp2
  go_ret
  exact ⟨rfl, below_drews (below_new w _) _⟩

set_option maxRecDepth 100000 in
set_option maxHeartbeats 2000000 in
theorem impl_rightat_4 (tb toff cA lb loff cB rb roff cR : Nat) (t l r : List Int) (k mv : Int) (b1 b2 : Bool) (x y : Nat) (hx : x < 4) (hy : y < 4) (w : World) (htb : tb < w.heap.size) (hlb : lb < w.heap.size) (hrb : rb < w.heap.size)
    (htc : ∀ j, j < 8 → w.cell? ⟨tb, toff + j, none⟩ = some (.int .i64 (t.getD j 0))) (hlc : ∀ j, j < 4 → w.cell? ⟨lb, loff + j, none⟩ = some (.int .i64 (l.getD j 0))) (hrc : ∀ j, j < 9 → w.cell? ⟨rb, roff + j, none⟩ = some (.int .i64 (r.getD j 0)))
    (hpt : ∀ i, i < 8 → 0 ≤ t.getD i 0 ∧ t.getD i 0 ≤ 255) (hpl : ∀ i, i < 4 → 0 ≤ l.getD i 0 ∧ l.getD i 0 ≤ 255) (hpr : ∀ i, i < 9 → 0 ≤ r.getD i 0 ∧ r.getD i 0 ≤ 255) (hk : 0 ≤ k ∧ k ≤ 255) :
    Calls Try.prog 75 #[.agg #[.slice (some ⟨tb, toff, none⟩) 8 cA, .slice (some ⟨lb, loff, none⟩) 4 cB, .int .i64 k, .bool b1, .bool b2, .slice (some ⟨rb, roff, none⟩) 9 cR, .int .i64 mv], .int .i64 x, .int .i64 y] w fun e w' => e = .returned (.int .i64 (softV (r.getD (x + 4 - y - 1) 0) (r.getD (x + 4 - y) 0) (r.getD (x + 4 - y + 1) 0))) ∧ Below w.heap.size w w' := by
  obtain ⟨q, hq⟩ : ∃ q, q = x + 4 - y - 1 := ⟨_, rfl⟩
  have hqa : x + 4 - y = q + 1 := by omega
  rw [hqa, ← show q = q + 1 - 1 by omega]
  have hqi : (x : Int) - (y : Int) + 4 = (q : Int) + 1 := by omega
  have hqb : q + 2 < 9 := by omega
  have SF := Lib.hid (smoothed_any _ _ _ (hpr q (by omega)) (hpr (q + 1) (by omega)) (hpr (q + 1 + 1) (by omega)))
  have ca := hrc q (by omega)
  have cb := hrc (q + 1) (by omega)
  have cc := hrc (q + 1 + 1) (by omega)
  obtain ⟨u, hu⟩ : ∃ u, u = r.getD q 0 := ⟨_, rfl⟩
  obtain ⟨v, hv⟩ : ∃ v, v = r.getD (q + 1) 0 := ⟨_, rfl⟩
  obtain ⟨s, hs⟩ : ∃ v, v = r.getD (q + 1 + 1) 0 := ⟨_, rfl⟩
  rw [← hu, ← hv, ← hs] at SF ⊢
  rw [← hu] at ca
  rw [← hv] at cb
  rw [← hs] at cc
  obtain ⟨z, hz⟩ : ∃ z, z = softV u v s := ⟨_, rfl⟩
  rw [← hz] at SF ⊢
  have qi0 : (q : Int) < 9 := by omega
  have qi1 : (q : Int) + 1 < 9 := by omega
  have qi2 : (q : Int) + 1 + 1 < 9 := by omega
  clear hu hv hs hq hqa hz
  clear htc hlc hrc hpt hpl hpr
  go_enter Try.func75, Try.ntmps75
  go_wp2_with fail
  go_quiet (first
    | (go_at_call 62; with_reducible exact Calls.quiet_of_same (SF.out _)))
  go_wp2
  go_ret
  exact ⟨rfl, below_drews (below_new w _) _⟩

set_option maxRecDepth 100000 in
set_option maxHeartbeats 2000000 in
theorem impl_meanat_8 (tb toff cA lb loff cB rb roff cR : Nat) (t l r : List Int) (k mv : Int) (b1 b2 : Bool) (x y : Nat) (hx : x < 8) (hy : y < 8) (w : World) (htb : tb < w.heap.size) (hlb : lb < w.heap.size) (hrb : rb < w.heap.size)
    (htc : ∀ j, j < 16 → w.cell? ⟨tb, toff + j, none⟩ = some (.int .i64 (t.getD j 0))) (hlc : ∀ j, j < 8 → w.cell? ⟨lb, loff + j, none⟩ = some (.int .i64 (l.getD j 0))) (hrc : ∀ j, j < 17 → w.cell? ⟨rb, roff + j, none⟩ = some (.int .i64 (r.getD j 0)))
    (hpt : ∀ i, i < 16 → 0 ≤ t.getD i 0 ∧ t.getD i 0 ≤ 255) (hpl : ∀ i, i < 8 → 0 ≤ l.getD i 0 ∧ l.getD i 0 ≤ 255) (hpr : ∀ i, i < 17 → 0 ≤ r.getD i 0 ∧ r.getD i 0 ≤ 255) (hk : 0 ≤ k ∧ k ≤ 255) :
    Calls Try.prog 70 #[.agg #[.slice (some ⟨tb, toff, none⟩) 16 cA, .slice (some ⟨lb, loff, none⟩) 8 cB, .int .i64 k, .bool b1, .bool b2, .slice (some ⟨rb, roff, none⟩) 17 cR, .int .i64 mv], .int .i64 x, .int .i64 y] w fun e w' => e = .returned (.int .i64 mv) ∧ Below w.heap.size w w' := by
  clear htc hlc hrc hpt hpl hpr
  go_enter Try.func70, Try.ntmps70
  go_wp2
  go_ret
  exact ⟨rfl, below_new w _⟩

set_option maxRecDepth 100000 in
set_option maxHeartbeats 2000000 in
theorem impl_downat_8 (tb toff cA lb loff cB rb roff cR : Nat) (t l r : List Int) (k mv : Int) (b1 b2 : Bool) (x y : Nat) (hx : x < 8) (hy : y < 8) (w : World) (htb : tb < w.heap.size) (hlb : lb < w.heap.size) (hrb : rb < w.heap.size)
    (htc : ∀ j, j < 16 → w.cell? ⟨tb, toff + j, none⟩ = some (.int .i64 (t.getD j 0))) (hlc : ∀ j, j < 8 → w.cell? ⟨lb, loff + j, none⟩ = some (.int .i64 (l.getD j 0))) (hrc : ∀ j, j < 17 → w.cell? ⟨rb, roff + j, none⟩ = some (.int .i64 (r.getD j 0)))
    (hpt : ∀ i, i < 16 → 0 ≤ t.getD i 0 ∧ t.getD i 0 ≤ 255) (hpl : ∀ i, i < 8 → 0 ≤ l.getD i 0 ∧ l.getD i 0 ≤ 255) (hpr : ∀ i, i < 17 → 0 ≤ r.getD i 0 ∧ r.getD i 0 ≤ 255) (hk : 0 ≤ k ∧ k ≤ 255) :
    Calls Try.prog 71 #[.agg #[.slice (some ⟨tb, toff, none⟩) 16 cA, .slice (some ⟨lb, loff, none⟩) 8 cB, .int .i64 k, .bool b1, .bool b2, .slice (some ⟨rb, roff, none⟩) 17 cR, .int .i64 mv], .int .i64 x, .int .i64 y] w fun e w' => e = .returned (.int .i64 (t.getD x 0)) ∧ Below w.heap.size w w' := by
  have c := htc x (by omega)
  obtain ⟨u, hu⟩ : ∃ u, u = t.getD x 0 := ⟨_, rfl⟩
  rw [← hu] at c ⊢
  have xi : (x : Int) < 16 := by omega
  clear htc hlc hrc hpt hpl hpr hu
  go_enter Try.func71, Try.ntmps71
  go_wp2
  go_ret
  exact ⟨rfl, below_new w _⟩

set_option maxRecDepth 100000 in
set_option maxHeartbeats 2000000 in
theorem impl_acrossat_8 (tb toff cA lb loff cB rb roff cR : Nat) (t l r : List Int) (k mv : Int) (b1 b2 : Bool) (x y : Nat) (hx : x < 8) (hy : y < 8) (w : World) (htb : tb < w.heap.size) (hlb : lb < w.heap.size) (hrb : rb < w.heap.size)
    (htc : ∀ j, j < 16 → w.cell? ⟨tb, toff + j, none⟩ = some (.int .i64 (t.getD j 0))) (hlc : ∀ j, j < 8 → w.cell? ⟨lb, loff + j, none⟩ = some (.int .i64 (l.getD j 0))) (hrc : ∀ j, j < 17 → w.cell? ⟨rb, roff + j, none⟩ = some (.int .i64 (r.getD j 0)))
    (hpt : ∀ i, i < 16 → 0 ≤ t.getD i 0 ∧ t.getD i 0 ≤ 255) (hpl : ∀ i, i < 8 → 0 ≤ l.getD i 0 ∧ l.getD i 0 ≤ 255) (hpr : ∀ i, i < 17 → 0 ≤ r.getD i 0 ∧ r.getD i 0 ≤ 255) (hk : 0 ≤ k ∧ k ≤ 255) :
    Calls Try.prog 72 #[.agg #[.slice (some ⟨tb, toff, none⟩) 16 cA, .slice (some ⟨lb, loff, none⟩) 8 cB, .int .i64 k, .bool b1, .bool b2, .slice (some ⟨rb, roff, none⟩) 17 cR, .int .i64 mv], .int .i64 x, .int .i64 y] w fun e w' => e = .returned (.int .i64 (l.getD y 0)) ∧ Below w.heap.size w w' := by
  have c := hlc y (by omega)
  obtain ⟨u, hu⟩ : ∃ u, u = l.getD y 0 := ⟨_, rfl⟩
  rw [← hu] at c ⊢
  have xi : (y : Int) < 8 := by omega
  clear htc hlc hrc hpt hpl hpr hu
  go_enter Try.func72, Try.ntmps72
  go_wp2
  go_ret
  exact ⟨rfl, below_new w _⟩

set_option maxRecDepth 100000 in
set_option maxHeartbeats 2000000 in
theorem impl_slopeat_8 (tb toff cA lb loff cB rb roff cR : Nat) (t l r : List Int) (k mv : Int) (b1 b2 : Bool) (x y : Nat) (hx : x < 8) (hy : y < 8) (w : World) (htb : tb < w.heap.size) (hlb : lb < w.heap.size) (hrb : rb < w.heap.size)
    (htc : ∀ j, j < 16 → w.cell? ⟨tb, toff + j, none⟩ = some (.int .i64 (t.getD j 0))) (hlc : ∀ j, j < 8 → w.cell? ⟨lb, loff + j, none⟩ = some (.int .i64 (l.getD j 0))) (hrc : ∀ j, j < 17 → w.cell? ⟨rb, roff + j, none⟩ = some (.int .i64 (r.getD j 0)))
    (hpt : ∀ i, i < 16 → 0 ≤ t.getD i 0 ∧ t.getD i 0 ≤ 255) (hpl : ∀ i, i < 8 → 0 ≤ l.getD i 0 ∧ l.getD i 0 ≤ 255) (hpr : ∀ i, i < 17 → 0 ≤ r.getD i 0 ∧ r.getD i 0 ≤ 255) (hk : 0 ≤ k ∧ k ≤ 255) :
    Calls Try.prog 73 #[.agg #[.slice (some ⟨tb, toff, none⟩) 16 cA, .slice (some ⟨lb, loff, none⟩) 8 cB, .int .i64 k, .bool b1, .bool b2, .slice (some ⟨rb, roff, none⟩) 17 cR, .int .i64 mv], .int .i64 x, .int .i64 y] w fun e w' => e = .returned (.int .i64 (clipV (l.getD y 0 + t.getD x 0 - k))) ∧ Below w.heap.size w w' := by
  have cx := htc x (by omega)
  have cy := hlc y (by omega)
  have px := hpt x (by omega)
  have py := hpl y (by omega)
  obtain ⟨u, hu⟩ : ∃ u, u = t.getD x 0 := ⟨_, rfl⟩
  obtain ⟨v, hv⟩ : ∃ v, v = l.getD y 0 := ⟨_, rfl⟩
  rw [← hu] at px cx ⊢
  rw [← hv] at py cy ⊢
  have CL := Lib.hid (clipped_any (v + u - k))
  obtain ⟨z, hz⟩ : ∃ z, z = clipV (v + u - k) := ⟨_, rfl⟩
  rw [← hz] at CL ⊢
  have xi : (x : Int) < 16 := by omega
  have yi : (y : Int) < 8 := by omega
  clear htc hlc hrc hpt hpl hpr hu hv hz
  go_enter Try.func73, Try.ntmps73
  go_wp2_with fail
  go_quiet (first
    | (go_at_call 63; with_reducible exact Calls.quiet_of_same (CL.out _)))
  go_wp2
  go_ret
  exact ⟨rfl, below_drews (below_new w _) _⟩

set_option maxRecDepth 100000 in
set_option maxHeartbeats 2000000 in
theorem impl_leftat_8 (tb toff cA lb loff cB rb roff cR : Nat) (t l r : List Int) (k mv : Int) (b1 b2 : Bool) (x y : Nat) (hx : x < 8) (hy : y < 8) (w : World) (htb : tb < w.heap.size) (hlb : lb < w.heap.size) (hrb : rb < w.heap.size)
    (htc : ∀ j, j < 16 → w.cell? ⟨tb, toff + j, none⟩ = some (.int .i64 (t.getD j 0))) (hlc : ∀ j, j < 8 → w.cell? ⟨lb, loff + j, none⟩ = some (.int .i64 (l.getD j 0))) (hrc : ∀ j, j < 17 → w.cell? ⟨rb, roff + j, none⟩ = some (.int .i64 (r.getD j 0)))
    (hpt : ∀ i, i < 16 → 0 ≤ t.getD i 0 ∧ t.getD i 0 ≤ 255) (hpl : ∀ i, i < 8 → 0 ≤ l.getD i 0 ∧ l.getD i 0 ≤ 255) (hpr : ∀ i, i < 17 → 0 ≤ r.getD i 0 ∧ r.getD i 0 ≤ 255) (hk : 0 ≤ k ∧ k ≤ 255) :
    Calls Try.prog 74 #[.agg #[.slice (some ⟨tb, toff, none⟩) 16 cA, .slice (some ⟨lb, loff, none⟩) 8 cB, .int .i64 k, .bool b1, .bool b2, .slice (some ⟨rb, roff, none⟩) 17 cR, .int .i64 mv], .int .i64 x, .int .i64 y] w fun e w' => e = .returned (.int .i64 (softV (t.getD (x + y) 0) (t.getD (min 15 (x + y + 1)) 0) (t.getD (min 15 (x + y + 2)) 0))) ∧ Below w.heap.size w w' := by
  obtain ⟨p1, hp1⟩ : ∃ q, q = min 15 (x + y + 1) := ⟨_, rfl⟩
  obtain ⟨p2, hp2⟩ : ∃ q, q = min 15 (x + y + 2) := ⟨_, rfl⟩
  rw [← hp1, ← hp2]
  obtain ⟨q, hq⟩ : ∃ q, q = x + y := ⟨_, rfl⟩
  have hp1e : p1 = q + 1 := by omega
  subst hp1e
  rw [← hq]
  have ca := htc q (by omega)
  have cb := htc (q + 1) (by omega)
  have cc := htc p2 (by omega)
  have SF := Lib.hid (smoothed_any _ _ _ (hpt q (by omega)) (hpt (q + 1) (by omega)) (hpt p2 (by omega)))
  obtain ⟨u, hu⟩ : ∃ u, u = t.getD q 0 := ⟨_, rfl⟩
  obtain ⟨v, hv⟩ : ∃ v, v = t.getD (q + 1) 0 := ⟨_, rfl⟩
  obtain ⟨s, hs⟩ : ∃ v, v = t.getD p2 0 := ⟨_, rfl⟩
  rw [← hu, ← hv, ← hs] at SF ⊢
  rw [← hu] at ca
  rw [← hv] at cb
  rw [← hs] at cc
  obtain ⟨z, hz⟩ : ∃ z, z = softV u v s := ⟨_, rfl⟩
  rw [← hz] at SF ⊢
  have q0 : (x : Int) + (y : Int) = (q : Int) := by omega
  have q1 : (q : Int) < 16 := by omega
  have q2 : (q : Int) + 1 < 16 := by omega
  have q3 : min ((q : Int) + 2) 15 = (p2 : Int) := by omega
  have q4 : (p2 : Int) < 16 := by omega
  clear htc hlc hrc hpt hpl hpr hu hv hs hz hp1 hp2 hq
  go_enter Try.func74, Try.ntmps74
  go_wp2_with fail
  go_quiet (first
    | (go_at_call 62; with_reducible exact Calls.quiet_of_same (SF.out _)))
  go_wp2
  go_ret
  exact ⟨rfl, below_drews (below_new w _) _⟩

set_option maxRecDepth 100000 in
set_option maxHeartbeats 2000000 in
theorem impl_rightat_8 (tb toff cA lb loff cB rb roff cR : Nat) (t l r : List Int) (k mv : Int) (b1 b2 : Bool) (x y : Nat) (hx : x < 8) (hy : y < 8) (w : World) (htb : tb < w.heap.size) (hlb : lb < w.heap.size) (hrb : rb < w.heap.size)
    (htc : ∀ j, j < 16 → w.cell? ⟨tb, toff + j, none⟩ = some (.int .i64 (t.getD j 0))) (hlc : ∀ j, j < 8 → w.cell? ⟨lb, loff + j, none⟩ = some (.int .i64 (l.getD j 0))) (hrc : ∀ j, j < 17 → w.cell? ⟨rb, roff + j, none⟩ = some (.int .i64 (r.getD j 0)))
    (hpt : ∀ i, i < 16 → 0 ≤ t.getD i 0 ∧ t.getD i 0 ≤ 255) (hpl : ∀ i, i < 8 → 0 ≤ l.getD i 0 ∧ l.getD i 0 ≤ 255) (hpr : ∀ i, i < 17 → 0 ≤ r.getD i 0 ∧ r.getD i 0 ≤ 255) (hk : 0 ≤ k ∧ k ≤ 255) :
    Calls Try.prog 75 #[.agg #[.slice (some ⟨tb, toff, none⟩) 16 cA, .slice (some ⟨lb, loff, none⟩) 8 cB, .int .i64 k, .bool b1, .bool b2, .slice (some ⟨rb, roff, none⟩) 17 cR, .int .i64 mv], .int .i64 x, .int .i64 y] w fun e w' => e = .returned (.int .i64 (softV (r.getD (x + 8 - y - 1) 0) (r.getD (x + 8 - y) 0) (r.getD (x + 8 - y + 1) 0))) ∧ Below w.heap.size w w' := by
  obtain ⟨q, hq⟩ : ∃ q, q = x + 8 - y - 1 := ⟨_, rfl⟩
  have hqa : x + 8 - y = q + 1 := by omega
  rw [hqa, ← show q = q + 1 - 1 by omega]
  have hqi : (x : Int) - (y : Int) + 8 = (q : Int) + 1 := by omega
  have hqb : q + 2 < 17 := by omega
  have SF := Lib.hid (smoothed_any _ _ _ (hpr q (by omega)) (hpr (q + 1) (by omega)) (hpr (q + 1 + 1) (by omega)))
  have ca := hrc q (by omega)
  have cb := hrc (q + 1) (by omega)
  have cc := hrc (q + 1 + 1) (by omega)
  obtain ⟨u, hu⟩ : ∃ u, u = r.getD q 0 := ⟨_, rfl⟩
  obtain ⟨v, hv⟩ : ∃ v, v = r.getD (q + 1) 0 := ⟨_, rfl⟩
  obtain ⟨s, hs⟩ : ∃ v, v = r.getD (q + 1 + 1) 0 := ⟨_, rfl⟩
  rw [← hu, ← hv, ← hs] at SF ⊢
  rw [← hu] at ca
  rw [← hv] at cb
  rw [← hs] at cc
  obtain ⟨z, hz⟩ : ∃ z, z = softV u v s := ⟨_, rfl⟩
  rw [← hz] at SF ⊢
  have qi0 : (q : Int) < 17 := by omega
  have qi1 : (q : Int) + 1 < 17 := by omega
  have qi2 : (q : Int) + 1 + 1 < 17 := by omega
  clear hu hv hs hq hqa hz
  clear htc hlc hrc hpt hpl hpr
  go_enter Try.func75, Try.ntmps75
  go_wp2_with fail
  go_quiet (first
    | (go_at_call 62; with_reducible exact Calls.quiet_of_same (SF.out _)))
  go_wp2
  go_ret
  exact ⟨rfl, below_drews (below_new w _) _⟩

end Go.Proofs.Ytjgbenhjafgimaa
