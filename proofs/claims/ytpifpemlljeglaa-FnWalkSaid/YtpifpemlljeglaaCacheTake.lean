/-
  Contracts of TakeBits and CacheNew, in both texts. Condition: the string is no longer than 1048576 bytes (the laws ask no more).
-/
import Derived.Test.YtpifpemlljeglaaCacheSkip
namespace Go.Proofs.Ytpifpemlljeglaa
open Go.RowKit
set_option linter.unusedVariables false

theorem heap_keep {w : World} {g : Nat} {o : Obj} (h : w.heap[g]? = some o) (x : Obj) : (w.alloc x).heap[g]? = some o := by
  rw [Below.heap_alloc _ _ _ (heap_lt h)]; exact h
/-- The end of a call that answers a cache out of its result's block, behind an allocation. -/
theorem out4a {w w2 : World} {T : TypeId} {g : Nat} {u v x y : Value} (s : ByteArray) (p wd k : Int) (h : w2.heap[g]? = some (.cells #[u, v, x, y] T (0, 0))) (hg : w.heap.size ≤ g) (hb : Below w.heap.size w w2) (o : Obj) : ∃ w3, w3 = (((w2.setCell ⟨g, 0, none⟩ (.string s)).setCell ⟨g, 1, none⟩ (.int .i64 p)).setCell ⟨g, 2, none⟩ (.int .i64 wd)).setCell ⟨g, 3, none⟩ (.int .i64 k) ∧
      (w3.alloc o).cell? ⟨g, 0, none⟩ = some (.string s) ∧ (w3.alloc o).cell? ⟨g, 1, none⟩ = some (.int .i64 p) ∧ (w3.alloc o).cell? ⟨g, 2, none⟩ = some (.int .i64 wd) ∧ (w3.alloc o).cell? ⟨g, 3, none⟩ = some (.int .i64 k) ∧ Below w.heap.size w (w3.alloc o) := by
  obtain ⟨a0, a1, a2, a3⟩ := cells4 (heap_keep (put4_block h s p wd k) o)
  have b := put4_below hb g hg s p wd k
  exact ⟨_, rfl, a0, a1, a2, a3, b.alloc b.size o⟩
/-- A second Peek of as many bits reads no more. -/
theorem pkP_again (s : ByteArray) (a P n : Nat) (hA : At s a P) (hn : n ≤ 16) : pkP s a (pkP s a P n) n = pkP s a P n := by
  obtain ⟨h1, h2, h3⟩ := hA
  unfold pkP
  by_cases h : 8 * P - a < n
  · rw [if_pos h]
    have e : rfP s a P = min s.size ((a + 48) / 8 + 1) := by rw [rfP, if_pos (by omega)]
    by_cases h4 : 8 * rfP s a P - a < n
    · rw [if_pos h4]
      have e2 : rfP s a (rfP s a P) = min s.size ((a + 48) / 8 + 1) := by rw [rfP, if_pos (by omega)]
      rw [e2, e]
    · rw [if_neg h4]
  · rw [if_neg h, if_neg h]
/-- What TakeBits answers where `Q` bytes are read behind Refill. -/
def tkR (s : ByteArray) (a Q n : Nat) : Value := if n ≤ 8 * Q - a then .tuple #[cw s (a + n) Q, .int .i64 (pkV s a Q n), .bool true] else .tuple #[cw s a Q, .int .i64 0, .bool false]

set_option maxRecDepth 100000 in
set_option maxHeartbeats 800000 in
theorem impl_take_gen (s : ByteArray) (p wd h n q y x v q' y' x' : Int) (b : Bool)
    (PK : Hid (∀ w, Calls Try.prog 19 #[cv s p wd h, .int .i64 n] w fun e w' => e = .returned (.tuple #[cv s q y x, .int .i64 v]) ∧ Below w.heap.size w w'))
    (SK : Hid (∀ w, Calls Try.prog 23 #[cv s q y x, .int .i64 n] w fun e w' => e = .returned (.tuple #[cv s q' y' x', .bool b]) ∧ Below w.heap.size w w')) (w : World) :
    Calls Try.prog 15 #[cv s p wd h, .int .i64 n] w fun e w' => e = .returned (if b = true then .tuple #[cv s q' y' x', .int .i64 v, .bool true] else .tuple #[cv s q y x, .int .i64 0, .bool false]) ∧ Below w.heap.size w w' := by
  unfold cv at *
  cases b with
  | true =>
    rw [if_pos rfl]
    go_enter Try.func15, Try.ntmps15
    go_wp2_with fail
    refine (PK.out _).mono ?_
    rintro e w1 ⟨rfl, hb1⟩
    have K1 := Lib.hid (boxes_kept hb1).2
    have B1 := Lib.hid (below_step ((below_new w _).alloc (below_new w _).size _) hb1)
    clear hb1
    go_wp2_with fail
    refine (SK.out _).mono ?_
    rintro e w2 ⟨rfl, hb2⟩
    have k1 := cell_kept (heap_keep K1.out _) hb2
    have bb := below_step (B1.out.alloc B1.out.size _) hb2
    clear hb2
    obtain ⟨d0, d1, d2, d3⟩ := cells4 k1
    obtain ⟨g0, g1, g2, g3⟩ := frozen4 k1
    have lt := heap_lt k1
    obtain ⟨w3, hw3, e0, e1, e2, e3, hb3⟩ := out4a s q' y' x' k1 (Nat.le_succ _) bb (.cells #[.string s, .int .i64 q', .int .i64 y', .int .i64 x'] 25)
    have HW := Lib.hid hw3; have HE := Lib.hid (And.intro e0 (And.intro e1 (And.intro e2 (And.intro e3 hb3))))
    clear hw3 hb3 e0 e1 e2 e3 k1 bb
    go_wp2
    rw [← HW.out]
    obtain ⟨e0, e1, e2, e3, hb3⟩ := HE.out
    exact bodyPost_ret (v := .tuple #[.agg #[.string s, .int .i64 q', .int .i64 y', .int .i64 x'], .int .i64 v, .bool true]) (by simp [results, Try.results15, go_sem, e0, e1, e2, e3]) rfl ⟨rfl, hb3⟩
  | false =>
    rw [if_neg (by decide)]
    go_enter Try.func15, Try.ntmps15
    go_wp2_with fail
    refine (PK.out _).mono ?_
    rintro e w1 ⟨rfl, hb1⟩
    have K1 := Lib.hid (boxes_kept hb1).2
    have B1 := Lib.hid (below_step ((below_new w _).alloc (below_new w _).size _) hb1)
    clear hb1
    go_wp2_with fail
    refine (SK.out _).mono ?_
    rintro e w2 ⟨rfl, hb2⟩
    have k1 := cell_kept (heap_keep K1.out _) hb2
    have k2 := cell_kept (heap_alloc_new w1 _) hb2
    have bb := below_step (B1.out.alloc B1.out.size _) hb2
    clear hb2
    obtain ⟨c0, c1, c2, c3⟩ := cells4 k2
    obtain ⟨d0, d1, d2, d3⟩ := cells4 k1
    obtain ⟨g0, g1, g2, g3⟩ := frozen4 k1
    have lt := heap_lt k1
    have lt2 := heap_lt k2
    obtain ⟨w3, hw3, e0, e1, e2, e3, hb3⟩ := out4a s q y x k1 (Nat.le_succ _) bb (.cells #[.string s, .int .i64 q', .int .i64 y', .int .i64 x'] 25)
    have HW := Lib.hid hw3; have HE := Lib.hid (And.intro e0 (And.intro e1 (And.intro e2 (And.intro e3 hb3))))
    clear hw3 hb3 e0 e1 e2 e3 k1 k2 bb
    go_wp2
    rw [← HW.out]
    obtain ⟨e0, e1, e2, e3, hb3⟩ := HE.out
    exact bodyPost_ret (v := .tuple #[.agg #[.string s, .int .i64 q, .int .i64 y, .int .i64 x], .int .i64 0, .bool false]) (by simp [results, Try.results15, go_sem, e0, e1, e2, e3]) rfl ⟨rfl, hb3⟩

theorem impl_take_in (s : ByteArray) (a P n : Nat) (hs : s.size ≤ 1048576) (hA : At s a P) (hn : n ≤ 16) (w : World) :
    Calls Try.prog 15 #[cw s a P, .int .i64 n] w fun e w' => e = .returned (tkR s a (pkP s a P n) n) ∧ Below w.heap.size w w' := by
  have PK := impl_peek_in s a P n hs hA hn
  have SK := impl_skip_in s a (pkP s a P n) n hs (pkP_at s a P n hA).2 hn
  rw [pkP_again s a P n hA hn] at SK
  obtain ⟨Q, hQ⟩ : ∃ Q, Q = pkP s a P n := ⟨_, rfl⟩
  rw [← hQ] at PK SK ⊢
  have := impl_take_gen s _ _ _ (n : Int) _ _ _ _ _ _ _ _ (Lib.hid PK) (Lib.hid SK) w
  unfold tkR
  by_cases h : n ≤ 8 * Q - a
  · rw [if_pos (by simpa using h), if_pos h] at this
    rw [if_pos h]
    exact this
  · rw [if_neg (by simpa using h)] at this
    rw [if_neg h]
    exact this
theorem impl_take_out (s : ByteArray) (p wd h n : Int) (hs : s.size ≤ 1048576) (hno : ckOk s p wd h = false ∨ ckOk s p wd h = true ∧ pkOk n = false) (w : World) :
    Calls Try.prog 15 #[cv s p wd h, .int .i64 n] w fun e w' => e = .returned (.tuple #[cv s p wd h, .int .i64 0, .bool false]) ∧ Below w.heap.size w w' :=
  impl_take_gen s p wd h n p wd h 0 p wd h false (Lib.hid (impl_peek_out s p wd h n hs hno)) (Lib.hid (impl_skip_out s p wd h n hs hno)) w

set_option maxRecDepth 100000 in
set_option maxHeartbeats 800000 in
theorem spec_take_gen (s : ByteArray) (p wd h n q y x v q' y' x' : Int) (b : Bool)
    (PK : Hid (∀ w, Calls Try.prog 37 #[cv s p wd h, .int .i64 n] w fun e w' => e = .returned (.tuple #[cv s q y x, .int .i64 v]) ∧ Below w.heap.size w w'))
    (SK : Hid (∀ w, Calls Try.prog 38 #[cv s q y x, .int .i64 n] w fun e w' => e = .returned (.tuple #[cv s q' y' x', .bool b]) ∧ Below w.heap.size w w')) (w : World) :
    Calls Try.prog 39 #[cv s p wd h, .int .i64 n] w fun e w' => e = .returned (if b = true then .tuple #[cv s q' y' x', .int .i64 v, .bool true] else .tuple #[cv s q y x, .int .i64 0, .bool false]) ∧ Below w.heap.size w w' := by
  unfold cv at *
  cases b with
  | true =>
    rw [if_pos rfl]
    go_enter Try.func39, Try.ntmps39
    go_wp2_with fail
    refine (PK.out _).mono ?_
    rintro e w1 ⟨rfl, hb1⟩
    have K1 := Lib.hid (boxes_kept hb1).2
    have B1 := Lib.hid (below_step ((below_new w _).alloc (below_new w _).size _) hb1)
    clear hb1
    go_wp2_with fail
    refine (SK.out _).mono ?_
    rintro e w2 ⟨rfl, hb2⟩
    have k1 := cell_kept (heap_keep K1.out _) hb2
    have bb := below_step (B1.out.alloc B1.out.size _) hb2
    clear hb2
    obtain ⟨d0, d1, d2, d3⟩ := cells4 k1
    obtain ⟨g0, g1, g2, g3⟩ := frozen4 k1
    have lt := heap_lt k1
    obtain ⟨w3, hw3, e0, e1, e2, e3, hb3⟩ := out4a s q' y' x' k1 (Nat.le_succ _) bb (.cells #[.string s, .int .i64 q', .int .i64 y', .int .i64 x'] 25)
    have HW := Lib.hid hw3; have HE := Lib.hid (And.intro e0 (And.intro e1 (And.intro e2 (And.intro e3 hb3))))
    clear hw3 hb3 e0 e1 e2 e3 k1 bb
    go_wp2
    rw [← HW.out]
    obtain ⟨e0, e1, e2, e3, hb3⟩ := HE.out
    exact bodyPost_ret (v := .tuple #[.agg #[.string s, .int .i64 q', .int .i64 y', .int .i64 x'], .int .i64 v, .bool true]) (by simp [results, Try.results39, go_sem, e0, e1, e2, e3]) rfl ⟨rfl, hb3⟩
  | false =>
    rw [if_neg (by decide)]
    go_enter Try.func39, Try.ntmps39
    go_wp2_with fail
    refine (PK.out _).mono ?_
    rintro e w1 ⟨rfl, hb1⟩
    have K1 := Lib.hid (boxes_kept hb1).2
    have B1 := Lib.hid (below_step ((below_new w _).alloc (below_new w _).size _) hb1)
    clear hb1
    go_wp2_with fail
    refine (SK.out _).mono ?_
    rintro e w2 ⟨rfl, hb2⟩
    have k1 := cell_kept (heap_keep K1.out _) hb2
    have k2 := cell_kept (heap_alloc_new w1 _) hb2
    have bb := below_step (B1.out.alloc B1.out.size _) hb2
    clear hb2
    obtain ⟨c0, c1, c2, c3⟩ := cells4 k2
    obtain ⟨d0, d1, d2, d3⟩ := cells4 k1
    obtain ⟨g0, g1, g2, g3⟩ := frozen4 k1
    have lt := heap_lt k1
    have lt2 := heap_lt k2
    obtain ⟨w3, hw3, e0, e1, e2, e3, hb3⟩ := out4a s q y x k1 (Nat.le_succ _) bb (.cells #[.string s, .int .i64 q', .int .i64 y', .int .i64 x'] 25)
    have HW := Lib.hid hw3; have HE := Lib.hid (And.intro e0 (And.intro e1 (And.intro e2 (And.intro e3 hb3))))
    clear hw3 hb3 e0 e1 e2 e3 k1 k2 bb
    go_wp2
    rw [← HW.out]
    obtain ⟨e0, e1, e2, e3, hb3⟩ := HE.out
    exact bodyPost_ret (v := .tuple #[.agg #[.string s, .int .i64 q, .int .i64 y, .int .i64 x], .int .i64 0, .bool false]) (by simp [results, Try.results39, go_sem, e0, e1, e2, e3]) rfl ⟨rfl, hb3⟩

theorem spec_take_in (s : ByteArray) (a P n : Nat) (hs : s.size ≤ 1048576) (hA : At s a P) (hn : n ≤ 16) (w : World) :
    Calls Try.prog 39 #[cw s a P, .int .i64 n] w fun e w' => e = .returned (tkR s a (pkP s a P n) n) ∧ Below w.heap.size w w' := by
  have PK := spec_peek_in s a P n hs hA hn
  have SK := spec_skip_in s a (pkP s a P n) n hs (pkP_at s a P n hA).2 hn
  rw [pkP_again s a P n hA hn] at SK
  obtain ⟨Q, hQ⟩ : ∃ Q, Q = pkP s a P n := ⟨_, rfl⟩
  rw [← hQ] at PK SK ⊢
  have := spec_take_gen s _ _ _ (n : Int) _ _ _ _ _ _ _ _ (Lib.hid PK) (Lib.hid SK) w
  unfold tkR
  by_cases h : n ≤ 8 * Q - a
  · rw [if_pos (by simpa using h), if_pos h] at this
    rw [if_pos h]
    exact this
  · rw [if_neg (by simpa using h)] at this
    rw [if_neg h]
    exact this
theorem spec_take_out (s : ByteArray) (p wd h n : Int) (hs : s.size ≤ 1048576) (hno : ckOk s p wd h = false ∨ ckOk s p wd h = true ∧ pkOk n = false) (w : World) :
    Calls Try.prog 39 #[cv s p wd h, .int .i64 n] w fun e w' => e = .returned (.tuple #[cv s p wd h, .int .i64 0, .bool false]) ∧ Below w.heap.size w w' :=
  spec_take_gen s p wd h n p wd h 0 p wd h false (Lib.hid (spec_peek_out s p wd h n hs hno)) (Lib.hid (spec_skip_out s p wd h n hs hno)) w
set_option maxRecDepth 100000 in
set_option maxHeartbeats 800000 in
theorem impl_new_any (s : ByteArray) (w : World) :
    Calls Try.prog 24 #[.string s] w fun e w' => e = .returned (cv s 0 0 0) ∧ Below w.heap.size w w' := by
  unfold cv
  go_enter Try.func24, Try.ntmps24
  go_wp2
  obtain ⟨e0, e1, e2, e3⟩ := cells4 (heap_alloc_new w (.cells #[.string s, .int .i64 0, .int .i64 0, .int .i64 0] 25))
  exact bodyPost_ret (v := .agg #[.string s, .int .i64 0, .int .i64 0, .int .i64 0]) (by simp [results, Try.results24, go_sem, e0, e1, e2, e3]) rfl ⟨rfl, below_new _ _⟩
set_option maxRecDepth 100000 in
set_option maxHeartbeats 800000 in
theorem spec_new_any (s : ByteArray) (w : World) :
    Calls Try.prog 30 #[.string s] w fun e w' => e = .returned (cv s 0 0 0) ∧ Below w.heap.size w w' := by
  unfold cv
  go_enter Try.func30, Try.ntmps30
  go_wp2
  obtain ⟨e0, e1, e2, e3⟩ := cells4 (heap_alloc_new w (.cells #[.string s, .int .i64 0, .int .i64 0, .int .i64 0] 25))
  exact bodyPost_ret (v := .agg #[.string s, .int .i64 0, .int .i64 0, .int .i64 0]) (by simp [results, Try.results30, go_sem, e0, e1, e2, e3]) rfl ⟨rfl, below_new _ _⟩
end Go.Proofs.Ytpifpemlljeglaa
