/-
  The walk of the law on caches. No condition.
-/
import Derived.Test.YtpifpemlljeglaaCacheDraws
import Derived.Deep.RegionHeld3
namespace Go.Proofs.Ytpifpemlljeglaa
open Go.RowKit
set_option linter.unusedVariables false

set_option maxRecDepth 100000 in
set_option maxHeartbeats 4000000 in
theorem caches_bad (A : Option Addr) (cap : Nat) (ys : List Int) (w : World) (hw : Code w A ys) (N : Nat) (hN : N = ys.length) (s : ByteArray) (cp cy cx n : Int)
    (hbig : decide (1048576 < (N : Int)) = false)
    (BG : Hid (∀ w, Calls Try.prog 13 #[.slice A N cap] w fun e w' => e = .returned (.bool (decide (1048576 < (N : Int)))) ∧ w = w'))
    (DR : Hid (∀ w, Code w A ys → Calls Try.prog 14 #[.slice A N cap] w fun e w' => e = .returned (.tuple #[.agg #[.string s, .int .i64 cp, .int .i64 cy, .int .i64 cx], .int .i64 n]) ∧ Below w.heap.size w w'))
    (CO : Hid (∀ w, Calls Try.prog 16 #[.agg #[.string s, .int .i64 cp, .int .i64 cy, .int .i64 cx]] w fun e w' => e = .returned (.bool false) ∧ Below w.heap.size w w'))
    (TK : Hid (∀ w, Calls Try.prog 15 #[.agg #[.string s, .int .i64 cp, .int .i64 cy, .int .i64 cx], .int .i64 n] w fun e w' => e = .returned (.tuple #[.agg #[.string s, .int .i64 cp, .int .i64 cy, .int .i64 cx], .int .i64 0, .bool false]) ∧ Below w.heap.size w w'))
    (PI : Hid (∀ w, Calls Try.prog 17 #[.agg #[.string s, .int .i64 cp, .int .i64 cy, .int .i64 cx]] w fun e w' => e = .returned (.int .i64 (-1)) ∧ Below w.heap.size w w'))
    :
    Calls Try.prog 3 #[.slice A N cap] w fun e w' => e = .returned (.bool true) ∧ Below w.heap.size w w' := by
  have e1 : (s.toList == s.toList) = true := by simp
  have e2 : (cp == cp) = true := by simp
  have e3 : (cy == cy) = true := by simp
  have e4 : (cx == cx) = true := by simp
  have W0 := Lib.hid hw
  clear hw hN
  go_enter Try.func3, Try.ntmps3
  go_wp2_with fail
  refine (BG.out _).mono ?_
  rintro e w' ⟨rfl, rfl⟩
  go_wp2_with fail
  refine (DR.out _ W0.out).mono ?_
  rintro e w1 ⟨rfl, hb⟩
  have B1 := Lib.hid hb; clear hb
  go_wp2_with fail
  refine (TK.out _).mono ?_
  rintro e w2 ⟨rfl, hb⟩
  have Gc := Lib.hid (cell_kept (heap_alloc_new w1 _) hb)
  have B2 := Lib.hid (below_step ((B1.out).alloc (B1.out).size _) hb)
  clear hb B1
  have Fc := Gc; clear Gc
  obtain ⟨cc0, cc1, cc2, cc3⟩ := cells4 Fc.out
  have ltc := heap_lt Fc.out
  go_wp2_with fail
  refine (CO.out _).mono ?_
  rintro e w3 ⟨rfl, hb⟩
  clear cc0 cc1 cc2 cc3 ltc
  have Gc := Lib.hid (cell_kept (heap_keep Fc.out _) hb)
  have Gd := Lib.hid (cell_kept (heap_alloc_new w2 _) hb)
  have B3 := Lib.hid (below_step ((B2.out).alloc (B2.out).size _) hb)
  clear hb B2 Fc
  have Fc := Gc; clear Gc
  have Fd := Gd; clear Gd
  obtain ⟨cc0, cc1, cc2, cc3⟩ := cells4 Fc.out
  have ltc := heap_lt Fc.out
  go_wp2_with fail
  refine (PI.out _).mono ?_
  rintro e w4 ⟨rfl, hb⟩
  clear cc0 cc1 cc2 cc3 ltc
  have Gc := Lib.hid (cell_kept Fc.out hb)
  have Gd := Lib.hid (cell_kept Fd.out hb)
  have B4 := Lib.hid (below_step B3.out hb)
  clear hb B3 Fc Fd
  have Fc := Gc; clear Gc
  have Fd := Gd; clear Gd
  obtain ⟨cc0, cc1, cc2, cc3⟩ := cells4 Fc.out
  have ltc := heap_lt Fc.out
  obtain ⟨cd0, cd1, cd2, cd3⟩ := cells4 Fd.out
  have ltd := heap_lt Fd.out
  go_wp2
  go_ret
  exact ⟨rfl, B4.out⟩

set_option maxRecDepth 100000 in
set_option maxHeartbeats 4000000 in
theorem caches_lo (A : Option Addr) (cap : Nat) (ys : List Int) (w : World) (hw : Code w A ys) (N : Nat) (hN : N = ys.length) (s : ByteArray) (cp cy cx n a rp rv : Int)
    (hbig : decide (1048576 < (N : Int)) = false)
    (BG : Hid (∀ w, Calls Try.prog 13 #[.slice A N cap] w fun e w' => e = .returned (.bool (decide (1048576 < (N : Int)))) ∧ w = w'))
    (DR : Hid (∀ w, Code w A ys → Calls Try.prog 14 #[.slice A N cap] w fun e w' => e = .returned (.tuple #[.agg #[.string s, .int .i64 cp, .int .i64 cy, .int .i64 cx], .int .i64 n]) ∧ Below w.heap.size w w'))
    (CO : Hid (∀ w, Calls Try.prog 16 #[.agg #[.string s, .int .i64 cp, .int .i64 cy, .int .i64 cx]] w fun e w' => e = .returned (.bool true) ∧ Below w.heap.size w w'))
    (TK : Hid (∀ w, Calls Try.prog 15 #[.agg #[.string s, .int .i64 cp, .int .i64 cy, .int .i64 cx], .int .i64 n] w fun e w' => e = .returned (.tuple #[.agg #[.string s, .int .i64 cp, .int .i64 cy, .int .i64 cx], .int .i64 0, .bool false]) ∧ Below w.heap.size w w'))
    (PI : Hid (∀ w, Calls Try.prog 17 #[.agg #[.string s, .int .i64 cp, .int .i64 cy, .int .i64 cx]] w fun e w' => e = .returned (.int .i64 a) ∧ Below w.heap.size w w'))
    (ro : Bool)
    (RB : Hid (∀ w, Calls Try.prog 18 #[.agg #[.string s, .int .i64 a], .int .i64 n] w fun e w' => e = .returned (.tuple #[.agg #[.string s, .int .i64 rp], .int .i64 rv, .bool ro]) ∧ Below w.heap.size w w'))
    (hn : decide (n < 0) = true) :
    Calls Try.prog 3 #[.slice A N cap] w fun e w' => e = .returned (.bool true) ∧ Below w.heap.size w w' := by
  have e1 : (s.toList == s.toList) = true := by simp
  have e2 : (cp == cp) = true := by simp
  have e3 : (cy == cy) = true := by simp
  have e4 : (cx == cx) = true := by simp
  have W0 := Lib.hid hw
  clear hw hN
  go_enter Try.func3, Try.ntmps3
  go_wp2_with fail
  refine (BG.out _).mono ?_
  rintro e w' ⟨rfl, rfl⟩
  go_wp2_with fail
  refine (DR.out _ W0.out).mono ?_
  rintro e w1 ⟨rfl, hb⟩
  have B1 := Lib.hid hb; clear hb
  go_wp2_with fail
  refine (TK.out _).mono ?_
  rintro e w2 ⟨rfl, hb⟩
  have Gc := Lib.hid (cell_kept (heap_alloc_new w1 _) hb)
  have B2 := Lib.hid (below_step ((B1.out).alloc (B1.out).size _) hb)
  clear hb B1
  have Fc := Gc; clear Gc
  obtain ⟨cc0, cc1, cc2, cc3⟩ := cells4 Fc.out
  have ltc := heap_lt Fc.out
  go_wp2_with fail
  refine (CO.out _).mono ?_
  rintro e w3 ⟨rfl, hb⟩
  clear cc0 cc1 cc2 cc3 ltc
  have Gc := Lib.hid (cell_kept (heap_keep Fc.out _) hb)
  have Gd := Lib.hid (cell_kept (heap_alloc_new w2 _) hb)
  have B3 := Lib.hid (below_step ((B2.out).alloc (B2.out).size _) hb)
  clear hb B2 Fc
  have Fc := Gc; clear Gc
  have Fd := Gd; clear Gd
  obtain ⟨cc0, cc1, cc2, cc3⟩ := cells4 Fc.out
  have ltc := heap_lt Fc.out
  go_wp2_with fail
  refine (PI.out _).mono ?_
  rintro e w4 ⟨rfl, hb⟩
  clear cc0 cc1 cc2 cc3 ltc
  have Gc := Lib.hid (cell_kept Fc.out hb)
  have Gd := Lib.hid (cell_kept Fd.out hb)
  have B4 := Lib.hid (below_step B3.out hb)
  clear hb B3 Fc Fd
  have Fc := Gc; clear Gc
  have Fd := Gd; clear Gd
  obtain ⟨cc0, cc1, cc2, cc3⟩ := cells4 Fc.out
  have ltc := heap_lt Fc.out
  go_wp2_with fail
  refine (RB.out _).mono ?_
  rintro e w5 ⟨rfl, hb⟩
  clear cc0 cc1 cc2 cc3 ltc
  have Gc := Lib.hid (cell_kept (heap_keep Fc.out _) hb)
  have Gd := Lib.hid (cell_kept (heap_keep Fd.out _) hb)
  have B5 := Lib.hid (below_step ((B4.out).alloc (B4.out).size _) hb)
  clear hb B4 Fc Fd
  have Fc := Gc; clear Gc
  have Fd := Gd; clear Gd
  obtain ⟨cc0, cc1, cc2, cc3⟩ := cells4 Fc.out
  have ltc := heap_lt Fc.out
  obtain ⟨cd0, cd1, cd2, cd3⟩ := cells4 Fd.out
  have ltd := heap_lt Fd.out
  go_wp2
  go_ret
  exact ⟨rfl, B5.out.alloc B5.out.size _⟩

set_option maxRecDepth 100000 in
set_option maxHeartbeats 4000000 in
theorem caches_hi (A : Option Addr) (cap : Nat) (ys : List Int) (w : World) (hw : Code w A ys) (N : Nat) (hN : N = ys.length) (s : ByteArray) (cp cy cx n a rp rv : Int)
    (hbig : decide (1048576 < (N : Int)) = false)
    (BG : Hid (∀ w, Calls Try.prog 13 #[.slice A N cap] w fun e w' => e = .returned (.bool (decide (1048576 < (N : Int)))) ∧ w = w'))
    (DR : Hid (∀ w, Code w A ys → Calls Try.prog 14 #[.slice A N cap] w fun e w' => e = .returned (.tuple #[.agg #[.string s, .int .i64 cp, .int .i64 cy, .int .i64 cx], .int .i64 n]) ∧ Below w.heap.size w w'))
    (CO : Hid (∀ w, Calls Try.prog 16 #[.agg #[.string s, .int .i64 cp, .int .i64 cy, .int .i64 cx]] w fun e w' => e = .returned (.bool true) ∧ Below w.heap.size w w'))
    (TK : Hid (∀ w, Calls Try.prog 15 #[.agg #[.string s, .int .i64 cp, .int .i64 cy, .int .i64 cx], .int .i64 n] w fun e w' => e = .returned (.tuple #[.agg #[.string s, .int .i64 cp, .int .i64 cy, .int .i64 cx], .int .i64 0, .bool false]) ∧ Below w.heap.size w w'))
    (PI : Hid (∀ w, Calls Try.prog 17 #[.agg #[.string s, .int .i64 cp, .int .i64 cy, .int .i64 cx]] w fun e w' => e = .returned (.int .i64 a) ∧ Below w.heap.size w w'))
    (ro : Bool)
    (RB : Hid (∀ w, Calls Try.prog 18 #[.agg #[.string s, .int .i64 a], .int .i64 n] w fun e w' => e = .returned (.tuple #[.agg #[.string s, .int .i64 rp], .int .i64 rv, .bool ro]) ∧ Below w.heap.size w w'))
    (hn : decide (n < 0) = false) (hm : decide ((16 : Int) < n) = true) :
    Calls Try.prog 3 #[.slice A N cap] w fun e w' => e = .returned (.bool true) ∧ Below w.heap.size w w' := by
  have e1 : (s.toList == s.toList) = true := by simp
  have e2 : (cp == cp) = true := by simp
  have e3 : (cy == cy) = true := by simp
  have e4 : (cx == cx) = true := by simp
  have W0 := Lib.hid hw
  clear hw hN
  go_enter Try.func3, Try.ntmps3
  go_wp2_with fail
  refine (BG.out _).mono ?_
  rintro e w' ⟨rfl, rfl⟩
  go_wp2_with fail
  refine (DR.out _ W0.out).mono ?_
  rintro e w1 ⟨rfl, hb⟩
  have B1 := Lib.hid hb; clear hb
  go_wp2_with fail
  refine (TK.out _).mono ?_
  rintro e w2 ⟨rfl, hb⟩
  have Gc := Lib.hid (cell_kept (heap_alloc_new w1 _) hb)
  have B2 := Lib.hid (below_step ((B1.out).alloc (B1.out).size _) hb)
  clear hb B1
  have Fc := Gc; clear Gc
  obtain ⟨cc0, cc1, cc2, cc3⟩ := cells4 Fc.out
  have ltc := heap_lt Fc.out
  go_wp2_with fail
  refine (CO.out _).mono ?_
  rintro e w3 ⟨rfl, hb⟩
  clear cc0 cc1 cc2 cc3 ltc
  have Gc := Lib.hid (cell_kept (heap_keep Fc.out _) hb)
  have Gd := Lib.hid (cell_kept (heap_alloc_new w2 _) hb)
  have B3 := Lib.hid (below_step ((B2.out).alloc (B2.out).size _) hb)
  clear hb B2 Fc
  have Fc := Gc; clear Gc
  have Fd := Gd; clear Gd
  obtain ⟨cc0, cc1, cc2, cc3⟩ := cells4 Fc.out
  have ltc := heap_lt Fc.out
  go_wp2_with fail
  refine (PI.out _).mono ?_
  rintro e w4 ⟨rfl, hb⟩
  clear cc0 cc1 cc2 cc3 ltc
  have Gc := Lib.hid (cell_kept Fc.out hb)
  have Gd := Lib.hid (cell_kept Fd.out hb)
  have B4 := Lib.hid (below_step B3.out hb)
  clear hb B3 Fc Fd
  have Fc := Gc; clear Gc
  have Fd := Gd; clear Gd
  obtain ⟨cc0, cc1, cc2, cc3⟩ := cells4 Fc.out
  have ltc := heap_lt Fc.out
  go_wp2_with fail
  refine (RB.out _).mono ?_
  rintro e w5 ⟨rfl, hb⟩
  clear cc0 cc1 cc2 cc3 ltc
  have Gc := Lib.hid (cell_kept (heap_keep Fc.out _) hb)
  have Gd := Lib.hid (cell_kept (heap_keep Fd.out _) hb)
  have B5 := Lib.hid (below_step ((B4.out).alloc (B4.out).size _) hb)
  clear hb B4 Fc Fd
  have Fc := Gc; clear Gc
  have Fd := Gd; clear Gd
  obtain ⟨cc0, cc1, cc2, cc3⟩ := cells4 Fc.out
  have ltc := heap_lt Fc.out
  obtain ⟨cd0, cd1, cd2, cd3⟩ := cells4 Fd.out
  have ltd := heap_lt Fd.out
  go_wp2
  go_ret
  exact ⟨rfl, B5.out.alloc B5.out.size _⟩

/-- What the drawn region of the law reads stays behind a call that writes to new memory alone. -/
theorem held12 {w w' W : World} {p0 p1 p2 p3 p4 p5 p6 p7 p8 p9 p10 p11 : Addr} {v0 v1 v2 v3 v4 v5 v6 v7 v8 v9 v10 v11 : Value} {B : Nat} (h : w.cell? p0 = some v0 ∧ w.cell? p1 = some v1 ∧ w.cell? p2 = some v2 ∧ w.cell? p3 = some v3 ∧ w.cell? p4 = some v4 ∧ w.cell? p5 = some v5 ∧ w.cell? p6 = some v6 ∧ w.cell? p7 = some v7 ∧ w.cell? p8 = some v8 ∧ w.cell? p9 = some v9 ∧ w.cell? p10 = some v10 ∧ w.cell? p11 = some v11 ∧ Below B W w ∧ B ≤ w.heap.size)
    (hb : Below w.heap.size w w') : w'.cell? p0 = some v0 ∧ w'.cell? p1 = some v1 ∧ w'.cell? p2 = some v2 ∧ w'.cell? p3 = some v3 ∧ w'.cell? p4 = some v4 ∧ w'.cell? p5 = some v5 ∧ w'.cell? p6 = some v6 ∧ w'.cell? p7 = some v7 ∧ w'.cell? p8 = some v8 ∧ w'.cell? p9 = some v9 ∧ w'.cell? p10 = some v10 ∧ w'.cell? p11 = some v11 ∧ Below B W w' ∧ B ≤ w'.heap.size := by
  obtain ⟨h0, h1, h2, h3, h4, h5, h6, h7, h8, h9, h10, h11, hx, hy⟩ := h
  have k : ∀ {p : Addr} {v : Value}, w.cell? p = some v → w'.cell? p = some v := fun hc => by
    rw [hb.cell (World.block_lt_of_cell? w _ hc)]; exact hc
  exact ⟨k h0, k h1, k h2, k h3, k h4, k h5, k h6, k h7, k h8, k h9, k h10, k h11, hx.trans (hb.mono hy), Nat.le_trans hy hb.size⟩
theorem held12_drew {w W : World} {p0 p1 p2 p3 p4 p5 p6 p7 p8 p9 p10 p11 : Addr} {v0 v1 v2 v3 v4 v5 v6 v7 v8 v9 v10 v11 : Value} {B : Nat} (h : w.cell? p0 = some v0 ∧ w.cell? p1 = some v1 ∧ w.cell? p2 = some v2 ∧ w.cell? p3 = some v3 ∧ w.cell? p4 = some v4 ∧ w.cell? p5 = some v5 ∧ w.cell? p6 = some v6 ∧ w.cell? p7 = some v7 ∧ w.cell? p8 = some v8 ∧ w.cell? p9 = some v9 ∧ w.cell? p10 = some v10 ∧ w.cell? p11 = some v11 ∧ Below B W w ∧ B ≤ w.heap.size) :
    w.drew.cell? p0 = some v0 ∧ w.drew.cell? p1 = some v1 ∧ w.drew.cell? p2 = some v2 ∧ w.drew.cell? p3 = some v3 ∧ w.drew.cell? p4 = some v4 ∧ w.drew.cell? p5 = some v5 ∧ w.drew.cell? p6 = some v6 ∧ w.drew.cell? p7 = some v7 ∧ w.drew.cell? p8 = some v8 ∧ w.drew.cell? p9 = some v9 ∧ w.drew.cell? p10 = some v10 ∧ w.drew.cell? p11 = some v11 ∧ Below B W w.drew ∧ B ≤ w.drew.heap.size := by
  obtain ⟨h0, h1, h2, h3, h4, h5, h6, h7, h8, h9, h10, h11, hx, hy⟩ := h
  exact ⟨h0, h1, h2, h3, h4, h5, h6, h7, h8, h9, h10, h11, hx.drew, hy⟩
theorem held12_below {w W : World} {p0 p1 p2 p3 p4 p5 p6 p7 p8 p9 p10 p11 : Addr} {v0 v1 v2 v3 v4 v5 v6 v7 v8 v9 v10 v11 : Value} {B : Nat} (h : w.cell? p0 = some v0 ∧ w.cell? p1 = some v1 ∧ w.cell? p2 = some v2 ∧ w.cell? p3 = some v3 ∧ w.cell? p4 = some v4 ∧ w.cell? p5 = some v5 ∧ w.cell? p6 = some v6 ∧ w.cell? p7 = some v7 ∧ w.cell? p8 = some v8 ∧ w.cell? p9 = some v9 ∧ w.cell? p10 = some v10 ∧ w.cell? p11 = some v11 ∧ Below B W w ∧ B ≤ w.heap.size) : Below B W w := by
  obtain ⟨h0, h1, h2, h3, h4, h5, h6, h7, h8, h9, h10, h11, hx, hy⟩ := h
  exact hx
theorem held12_of {w wr : World} {a b c : Nat} {u0 u1 u2 u3 v0 v1 v2 v3 x0 x1 x2 x3 : Value} {T U V : TypeId} {fr fs ft : Nat × Nat} (h1 : wr.heap[a]? = some (.cells #[u0, u1, u2, u3] T fr)) (h2 : wr.heap[b]? = some (.cells #[v0, v1, v2, v3] U fs)) (h3 : wr.heap[c]? = some (.cells #[x0, x1, x2, x3] V ft)) (hb : Below w.heap.size w wr) :
    wr.cell? ⟨a, 0, none⟩ = some u0 ∧ wr.cell? ⟨a, 1, none⟩ = some u1 ∧ wr.cell? ⟨a, 2, none⟩ = some u2 ∧ wr.cell? ⟨a, 3, none⟩ = some u3 ∧ wr.cell? ⟨b, 0, none⟩ = some v0 ∧ wr.cell? ⟨b, 1, none⟩ = some v1 ∧ wr.cell? ⟨b, 2, none⟩ = some v2 ∧ wr.cell? ⟨b, 3, none⟩ = some v3 ∧
    wr.cell? ⟨c, 0, none⟩ = some x0 ∧ wr.cell? ⟨c, 1, none⟩ = some x1 ∧ wr.cell? ⟨c, 2, none⟩ = some x2 ∧ wr.cell? ⟨c, 3, none⟩ = some x3 ∧ Below w.heap.size w wr ∧ w.heap.size ≤ wr.heap.size := by
  obtain ⟨a0, a1, a2, a3⟩ := cells4 h1
  obtain ⟨b0, b1, b2, b3⟩ := cells4 h2
  obtain ⟨c0, c1, c2, c3⟩ := cells4 h3
  exact ⟨a0, a1, a2, a3, b0, b1, b2, b3, c0, c1, c2, c3, hb, hb.size⟩

set_option maxRecDepth 100000 in
set_option maxHeartbeats 4000000 in
theorem caches_yes (A : Option Addr) (cap : Nat) (ys : List Int) (w : World) (hw : Code w A ys) (N : Nat) (hN : N = ys.length) (s : ByteArray) (cp cy cx n a rp rv v dp dy dx ep ey ex pv fp fy fx sp sy sx gp gy gx gv hp hy hx tp ty tx : Int)
    (hbig : decide (1048576 < (N : Int)) = false)
    (BG : Hid (∀ w, Calls Try.prog 13 #[.slice A N cap] w fun e w' => e = .returned (.bool (decide (1048576 < (N : Int)))) ∧ w = w'))
    (DR : Hid (∀ w, Code w A ys → Calls Try.prog 14 #[.slice A N cap] w fun e w' => e = .returned (.tuple #[.agg #[.string s, .int .i64 cp, .int .i64 cy, .int .i64 cx], .int .i64 n]) ∧ Below w.heap.size w w'))
    (CO : Hid (∀ w, Calls Try.prog 16 #[.agg #[.string s, .int .i64 cp, .int .i64 cy, .int .i64 cx]] w fun e w' => e = .returned (.bool true) ∧ Below w.heap.size w w'))
    (TK : Hid (∀ w, Calls Try.prog 15 #[.agg #[.string s, .int .i64 cp, .int .i64 cy, .int .i64 cx], .int .i64 n] w fun e w' => e = .returned (.tuple #[.agg #[.string s, .int .i64 dp, .int .i64 dy, .int .i64 dx], .int .i64 v, .bool true]) ∧ Below w.heap.size w w'))
    (PI : Hid (∀ w, Calls Try.prog 17 #[.agg #[.string s, .int .i64 cp, .int .i64 cy, .int .i64 cx]] w fun e w' => e = .returned (.int .i64 a) ∧ Below w.heap.size w w'))
    (RB : Hid (∀ w, Calls Try.prog 18 #[.agg #[.string s, .int .i64 a], .int .i64 n] w fun e w' => e = .returned (.tuple #[.agg #[.string s, .int .i64 rp], .int .i64 v, .bool true]) ∧ Below w.heap.size w w'))
    (PK : Hid (∀ w, Calls Try.prog 19 #[.agg #[.string s, .int .i64 cp, .int .i64 cy, .int .i64 cx], .int .i64 n] w fun e w' => e = .returned (.tuple #[.agg #[.string s, .int .i64 ep, .int .i64 ey, .int .i64 ex], .int .i64 v]) ∧ Below w.heap.size w w'))
    (RF : Hid (∀ w, Calls Try.prog 20 #[.agg #[.string s, .int .i64 cp, .int .i64 cy, .int .i64 cx]] w fun e w' => e = .returned (.agg #[.string s, .int .i64 fp, .int .i64 fy, .int .i64 fx]) ∧ Below w.heap.size w w'))
    (ST : Hid (∀ w, Calls Try.prog 21 #[.agg #[.string s, .int .i64 cp, .int .i64 cy, .int .i64 cx]] w fun e w' => e = .returned (.agg #[.string s, .int .i64 sp, .int .i64 sy, .int .i64 sx]) ∧ Below w.heap.size w w'))
    (PG : Hid (∀ w, Calls Try.prog 19 #[.agg #[.string s, .int .i64 sp, .int .i64 sy, .int .i64 sx], .int .i64 n] w fun e w' => e = .returned (.tuple #[.agg #[.string s, .int .i64 gp, .int .i64 gy, .int .i64 gx], .int .i64 gv]) ∧ Below w.heap.size w w'))
    (PD : Hid (∀ w, Calls Try.prog 17 #[.agg #[.string s, .int .i64 dp, .int .i64 dy, .int .i64 dx]] w fun e w' => e = .returned (.int .i64 (a + n)) ∧ Below w.heap.size w w'))
    (PE : Hid (∀ w, Calls Try.prog 17 #[.agg #[.string s, .int .i64 ep, .int .i64 ey, .int .i64 ex]] w fun e w' => e = .returned (.int .i64 a) ∧ Below w.heap.size w w'))
    (PF : Hid (∀ w, Calls Try.prog 17 #[.agg #[.string s, .int .i64 fp, .int .i64 fy, .int .i64 fx]] w fun e w' => e = .returned (.int .i64 a) ∧ Below w.heap.size w w'))
    (PQ : Hid (∀ w, Calls Try.prog 17 #[.agg #[.string s, .int .i64 gp, .int .i64 gy, .int .i64 gx]] w fun e w' => e = .returned (.int .i64 a) ∧ Below w.heap.size w w'))
    (KD : Hid (∀ w, Calls Try.prog 22 #[.agg #[.string s, .int .i64 dp, .int .i64 dy, .int .i64 dx]] w fun e w' => e = .returned (.bool true) ∧ Below w.heap.size w w'))
    (KF : Hid (∀ w, Calls Try.prog 22 #[.agg #[.string s, .int .i64 fp, .int .i64 fy, .int .i64 fx]] w fun e w' => e = .returned (.bool true) ∧ Below w.heap.size w w'))
    (SF : Hid (∀ w, Calls Try.prog 23 #[.agg #[.string s, .int .i64 fp, .int .i64 fy, .int .i64 fx], .int .i64 n] w fun e w' => e = .returned (.tuple #[.agg #[.string s, .int .i64 hp, .int .i64 hy, .int .i64 hx], .bool true]) ∧ Below w.heap.size w w'))
    (PH : Hid (∀ w, Calls Try.prog 17 #[.agg #[.string s, .int .i64 hp, .int .i64 hy, .int .i64 hx]] w fun e w' => e = .returned (.int .i64 (a + n)) ∧ Below w.heap.size w w'))
    (SH : Hid (∀ w, Calls Try.prog 21 #[.agg #[.string s, .int .i64 hp, .int .i64 hy, .int .i64 hx]] w fun e w' => e = .returned (.agg #[.string s, .int .i64 tp, .int .i64 ty, .int .i64 tx]) ∧ Below w.heap.size w w'))
    (SD : Hid (∀ w, Calls Try.prog 21 #[.agg #[.string s, .int .i64 dp, .int .i64 dy, .int .i64 dx]] w fun e w' => e = .returned (.agg #[.string s, .int .i64 tp, .int .i64 ty, .int .i64 tx]) ∧ Below w.heap.size w w'))
    (KS : Hid (∀ w, Calls Try.prog 22 #[.agg #[.string s, .int .i64 sp, .int .i64 sy, .int .i64 sx]] w fun e w' => e = .returned (.bool true) ∧ Below w.heap.size w w'))
    (CN : Hid (∀ w, Calls Try.prog 24 #[.string s] w fun e w' => e = .returned (.agg #[.string s, .int .i64 0, .int .i64 0, .int .i64 0]) ∧ Below w.heap.size w w'))
    (n0 : 0 ≤ n) (n9 : n ≤ 16) (a0 : 0 ≤ a) (a9 : a ≤ 64) (hsx : decide (sx < 8) = true) :
    Calls Try.prog 3 #[.slice A N cap] w fun e w' => e = .returned (.bool true) ∧ Below w.heap.size w w' := by
  have e1 : (s.toList == s.toList) = true := by simp
  have e2 : (tp == tp) = true := by simp
  have e3 : (ty == ty) = true := by simp
  have e4 : (tx == tx) = true := by simp
  have q0 : decide (n < 0) = false := by simpa using n0
  have q1 : decide ((16 : Int) < n) = false := by simpa using n9
  have q2 : (v != v) = false := by simp
  have q3 : (a != a) = false := by simp
  have q4 : (a + n != a + n) = false := by simp
  have q5 : (a + n == a + n) = true := by simp
  have hfd3 : ∀ w : World, (Instr.field 25 (.agg #[.string s, .int .i64 sp, .int .i64 sy, .int .i64 sx]) 3).run Try.prog w = .ok (.int .i64 sx) w := fun _ => by kernel_rfl
  have hfd0 : ∀ w : World, (Instr.field 25 (.agg #[.string s, .int .i64 0, .int .i64 0, .int .i64 0]) 0).run Try.prog w = .ok (.string s) w := fun _ => by kernel_rfl
  have sm1 : IntKind.i64.wrap (a + n) = a + n := IntWalk.i64_in _ (by omega)
  have W0 := Lib.hid hw
  clear hw hN
  go_enter Try.func3, Try.ntmps3
  go_wp2_with fail
  refine (BG.out _).mono ?_
  rintro e w' ⟨rfl, rfl⟩
  go_wp2_with fail
  refine (DR.out _ W0.out).mono ?_
  rintro e w1 ⟨rfl, hb⟩
  have B1 := Lib.hid hb; clear hb
  go_wp2_with fail
  refine (TK.out _).mono ?_
  rintro e w2 ⟨rfl, hb⟩
  have Gc := Lib.hid (cell_kept (heap_alloc_new w1 _) hb)
  have B2 := Lib.hid (below_step ((B1.out).alloc (B1.out).size _) hb)
  clear hb B1
  have Fc := Gc; clear Gc
  obtain ⟨cc0, cc1, cc2, cc3⟩ := cells4 Fc.out
  have ltc := heap_lt Fc.out
  go_wp2_with fail
  refine (CO.out _).mono ?_
  rintro e w3 ⟨rfl, hb⟩
  clear cc0 cc1 cc2 cc3 ltc
  have Gc := Lib.hid (cell_kept (heap_keep Fc.out _) hb)
  have Gd := Lib.hid (cell_kept (heap_alloc_new w2 _) hb)
  have B3 := Lib.hid (below_step ((B2.out).alloc (B2.out).size _) hb)
  clear hb B2 Fc
  have Fc := Gc; clear Gc
  have Fd := Gd; clear Gd
  obtain ⟨cc0, cc1, cc2, cc3⟩ := cells4 Fc.out
  have ltc := heap_lt Fc.out
  go_wp2_with fail
  refine (PI.out _).mono ?_
  rintro e w4 ⟨rfl, hb⟩
  clear cc0 cc1 cc2 cc3 ltc
  have Gc := Lib.hid (cell_kept Fc.out hb)
  have Gd := Lib.hid (cell_kept Fd.out hb)
  have B4 := Lib.hid (below_step B3.out hb)
  clear hb B3 Fc Fd
  have Fc := Gc; clear Gc
  have Fd := Gd; clear Gd
  obtain ⟨cc0, cc1, cc2, cc3⟩ := cells4 Fc.out
  have ltc := heap_lt Fc.out
  go_wp2_with fail
  refine (RB.out _).mono ?_
  rintro e w5 ⟨rfl, hb⟩
  clear cc0 cc1 cc2 cc3 ltc
  have Gc := Lib.hid (cell_kept (heap_keep Fc.out _) hb)
  have Gd := Lib.hid (cell_kept (heap_keep Fd.out _) hb)
  have B5 := Lib.hid (below_step ((B4.out).alloc (B4.out).size _) hb)
  clear hb B4 Fc Fd
  have Fc := Gc; clear Gc
  have Fd := Gd; clear Gd
  obtain ⟨cc0, cc1, cc2, cc3⟩ := cells4 Fc.out
  have ltc := heap_lt Fc.out
  go_wp2_with fail
  refine (PK.out _).mono ?_
  rintro e w6 ⟨rfl, hb⟩
  clear cc0 cc1 cc2 cc3 ltc
  have Gc := Lib.hid (cell_kept (heap_keep Fc.out _) hb)
  have Gd := Lib.hid (cell_kept (heap_keep Fd.out _) hb)
  have B6 := Lib.hid (below_step ((B5.out).alloc (B5.out).size _) hb)
  clear hb B5 Fc Fd
  have Fc := Gc; clear Gc
  have Fd := Gd; clear Gd
  obtain ⟨cc0, cc1, cc2, cc3⟩ := cells4 Fc.out
  have ltc := heap_lt Fc.out
  go_wp2_with fail
  refine (RF.out _).mono ?_
  rintro e w7 ⟨rfl, hb⟩
  clear cc0 cc1 cc2 cc3 ltc
  have Gc := Lib.hid (cell_kept (heap_keep Fc.out _) hb)
  have Gd := Lib.hid (cell_kept (heap_keep Fd.out _) hb)
  have Ge := Lib.hid (cell_kept (heap_alloc_new w6 _) hb)
  have B7 := Lib.hid (below_step ((B6.out).alloc (B6.out).size _) hb)
  clear hb B6 Fc Fd
  have Fc := Gc; clear Gc
  have Fd := Gd; clear Gd
  have Fe := Ge; clear Ge
  obtain ⟨cc0, cc1, cc2, cc3⟩ := cells4 Fc.out
  have ltc := heap_lt Fc.out
  go_wp2_with fail
  refine (ST.out _).mono ?_
  rintro e w8 ⟨rfl, hb⟩
  clear cc0 cc1 cc2 cc3 ltc
  have Gc := Lib.hid (cell_kept (heap_keep Fc.out _) hb)
  have Gd := Lib.hid (cell_kept (heap_keep Fd.out _) hb)
  have Ge := Lib.hid (cell_kept (heap_keep Fe.out _) hb)
  have Gf := Lib.hid (cell_kept (heap_alloc_new w7 _) hb)
  have B8 := Lib.hid (below_step ((B7.out).alloc (B7.out).size _) hb)
  clear hb B7 Fc Fd Fe
  have Fc := Gc; clear Gc
  have Fd := Gd; clear Gd
  have Fe := Ge; clear Ge
  have Ff := Gf; clear Gf
  go_wp2_with fail
  refine (PG.out _).mono ?_
  rintro e w9 ⟨rfl, hb⟩
  have Gc := Lib.hid (cell_kept Fc.out hb)
  have Gd := Lib.hid (cell_kept Fd.out hb)
  have Ge := Lib.hid (cell_kept Fe.out hb)
  have Gf := Lib.hid (cell_kept Ff.out hb)
  have B9 := Lib.hid (below_step B8.out hb)
  clear hb B8 Fc Fd Fe Ff
  have Fc := Gc; clear Gc
  have Fd := Gd; clear Gd
  have Fe := Ge; clear Ge
  have Ff := Gf; clear Gf
  obtain ⟨cd0, cd1, cd2, cd3⟩ := cells4 Fd.out
  have ltd := heap_lt Fd.out
  go_wp2_with fail
  refine (PD.out _).mono ?_
  rintro e w10 ⟨rfl, hb⟩
  clear cd0 cd1 cd2 cd3 ltd
  have Gc := Lib.hid (cell_kept (heap_keep Fc.out _) hb)
  have Gd := Lib.hid (cell_kept (heap_keep Fd.out _) hb)
  have Ge := Lib.hid (cell_kept (heap_keep Fe.out _) hb)
  have Gf := Lib.hid (cell_kept (heap_keep Ff.out _) hb)
  have Gg := Lib.hid (cell_kept (heap_alloc_new w9 _) hb)
  have B10 := Lib.hid (below_step ((B9.out).alloc (B9.out).size _) hb)
  clear hb B9 Fc Fd Fe Ff
  have Fc := Gc; clear Gc
  have Fd := Gd; clear Gd
  have Fe := Ge; clear Ge
  have Ff := Gf; clear Gf
  have Fg := Gg; clear Gg
  obtain ⟨ce0, ce1, ce2, ce3⟩ := cells4 Fe.out
  have lte := heap_lt Fe.out
  go_wp2_with fail
  refine (PE.out _).mono ?_
  rintro e w11 ⟨rfl, hb⟩
  clear ce0 ce1 ce2 ce3 lte
  have Gc := Lib.hid (cell_kept Fc.out hb)
  have Gd := Lib.hid (cell_kept Fd.out hb)
  have Ge := Lib.hid (cell_kept Fe.out hb)
  have Gf := Lib.hid (cell_kept Ff.out hb)
  have Gg := Lib.hid (cell_kept Fg.out hb)
  have B11 := Lib.hid (below_step B10.out hb)
  clear hb B10 Fc Fd Fe Ff Fg
  have Fc := Gc; clear Gc
  have Fd := Gd; clear Gd
  have Fe := Ge; clear Ge
  have Ff := Gf; clear Gf
  have Fg := Gg; clear Gg
  obtain ⟨cf0, cf1, cf2, cf3⟩ := cells4 Ff.out
  have ltf := heap_lt Ff.out
  go_wp2_with fail
  refine (PF.out _).mono ?_
  rintro e w12 ⟨rfl, hb⟩
  clear cf0 cf1 cf2 cf3 ltf
  have Gc := Lib.hid (cell_kept Fc.out hb)
  have Gd := Lib.hid (cell_kept Fd.out hb)
  have Ge := Lib.hid (cell_kept Fe.out hb)
  have Gf := Lib.hid (cell_kept Ff.out hb)
  have Gg := Lib.hid (cell_kept Fg.out hb)
  have B12 := Lib.hid (below_step B11.out hb)
  clear hb B11 Fc Fd Fe Ff Fg
  have Fc := Gc; clear Gc
  have Fd := Gd; clear Gd
  have Fe := Ge; clear Ge
  have Ff := Gf; clear Gf
  have Fg := Gg; clear Gg
  obtain ⟨cg0, cg1, cg2, cg3⟩ := cells4 Fg.out
  have ltg := heap_lt Fg.out
  go_wp2_with fail
  refine (PQ.out _).mono ?_
  rintro e w13 ⟨rfl, hb⟩
  clear cg0 cg1 cg2 cg3 ltg
  have Gc := Lib.hid (cell_kept Fc.out hb)
  have Gd := Lib.hid (cell_kept Fd.out hb)
  have Ge := Lib.hid (cell_kept Fe.out hb)
  have Gf := Lib.hid (cell_kept Ff.out hb)
  have Gg := Lib.hid (cell_kept Fg.out hb)
  have B13 := Lib.hid (below_step B12.out hb)
  clear hb B12 Fc Fd Fe Ff Fg
  have Fc := Gc; clear Gc
  have Fd := Gd; clear Gd
  have Fe := Ge; clear Ge
  have Ff := Gf; clear Gf
  have Fg := Gg; clear Gg
  obtain ⟨cd0, cd1, cd2, cd3⟩ := cells4 Fd.out
  have ltd := heap_lt Fd.out
  go_wp2_with fail
  refine (KD.out _).mono ?_
  rintro e w14 ⟨rfl, hb⟩
  clear cd0 cd1 cd2 cd3 ltd
  have Gc := Lib.hid (cell_kept Fc.out hb)
  have Gd := Lib.hid (cell_kept Fd.out hb)
  have Ge := Lib.hid (cell_kept Fe.out hb)
  have Gf := Lib.hid (cell_kept Ff.out hb)
  have Gg := Lib.hid (cell_kept Fg.out hb)
  have B14 := Lib.hid (below_step B13.out hb)
  clear hb B13 Fc Fd Fe Ff Fg
  have Fc := Gc; clear Gc
  have Fd := Gd; clear Gd
  have Fe := Ge; clear Ge
  have Ff := Gf; clear Gf
  have Fg := Gg; clear Gg
  obtain ⟨cf0, cf1, cf2, cf3⟩ := cells4 Ff.out
  have ltf := heap_lt Ff.out
  go_wp2_with fail
  refine (KF.out _).mono ?_
  rintro e w15 ⟨rfl, hb⟩
  clear cf0 cf1 cf2 cf3 ltf
  have Gc := Lib.hid (cell_kept Fc.out hb)
  have Gd := Lib.hid (cell_kept Fd.out hb)
  have Ge := Lib.hid (cell_kept Fe.out hb)
  have Gf := Lib.hid (cell_kept Ff.out hb)
  have Gg := Lib.hid (cell_kept Fg.out hb)
  have B15 := Lib.hid (below_step B14.out hb)
  clear hb B14 Fc Fd Fe Ff Fg
  have Fc := Gc; clear Gc
  have Fd := Gd; clear Gd
  have Fe := Ge; clear Ge
  have Ff := Gf; clear Gf
  have Fg := Gg; clear Gg
  obtain ⟨cf0, cf1, cf2, cf3⟩ := cells4 Ff.out
  have ltf := heap_lt Ff.out
  go_wp2_with fail
  refine (SF.out _).mono ?_
  rintro e w16 ⟨rfl, hb⟩
  clear cf0 cf1 cf2 cf3 ltf
  have Gc := Lib.hid (cell_kept Fc.out hb)
  have Gd := Lib.hid (cell_kept Fd.out hb)
  have B16 := Lib.hid (below_step B15.out hb)
  clear hb B15 Fc Fd Fe Ff Fg
  have Fc := Gc; clear Gc
  have Fd := Gd; clear Gd
  have fc := heap_keep Fc.out (.cells #[.string s, .int .i64 hp, .int .i64 hy, .int .i64 hx] 25)
  have fd := heap_keep Fd.out (.cells #[.string s, .int .i64 hp, .int .i64 hy, .int .i64 hx] 25)
  have fh := heap_alloc_new w16 (.cells #[.string s, .int .i64 hp, .int .i64 hy, .int .i64 hx] 25)
  have fb := B16.out.alloc B16.out.size (.cells #[.string s, .int .i64 hp, .int .i64 hy, .int .i64 hx] 25)
  obtain ⟨wr, hwr⟩ : ∃ wr, wr = w16.alloc (.cells #[.string s, .int .i64 hp, .int .i64 hy, .int .i64 hx] 25) := ⟨_, rfl⟩
  rw [← hwr] at fc fd fh fb
  have HH := Lib.hid (held12_of fc fd fh fb)
  have HWR := Lib.hid hwr
  clear fc fd fh fb hwr
  go_wp2
  rw [← HWR.out]
  have H12 := HH.out
  go_region_held3 (fun w' => w'.cell? ⟨w1.heap.size, 0, none⟩ = some (.string s) ∧ w'.cell? ⟨w1.heap.size, 1, none⟩ = some (.int .i64 cp) ∧ w'.cell? ⟨w1.heap.size, 2, none⟩ = some (.int .i64 cy) ∧ w'.cell? ⟨w1.heap.size, 3, none⟩ = some (.int .i64 cx) ∧ w'.cell? ⟨w2.heap.size, 0, none⟩ = some (.string s) ∧ w'.cell? ⟨w2.heap.size, 1, none⟩ = some (.int .i64 dp) ∧ w'.cell? ⟨w2.heap.size, 2, none⟩ = some (.int .i64 dy) ∧ w'.cell? ⟨w2.heap.size, 3, none⟩ = some (.int .i64 dx) ∧ w'.cell? ⟨w16.heap.size, 0, none⟩ = some (.string s) ∧ w'.cell? ⟨w16.heap.size, 1, none⟩ = some (.int .i64 hp) ∧ w'.cell? ⟨w16.heap.size, 2, none⟩ = some (.int .i64 hy) ∧ w'.cell? ⟨w16.heap.size, 3, none⟩ = some (.int .i64 hx) ∧ Below w.heap.size w w' ∧ w.heap.size ≤ w'.heap.size)
    (first | (refine held12_drew ?_; assumption) | (refine held12 ?_ (by assumption); assumption))
    (first | (go_at_call 17; with_reducible refine (PH.out _).mono ?_; rintro e w' ⟨rfl, hb'⟩) | (go_at_call 21; with_reducible refine (SH.out _).mono ?_; rintro e w' ⟨rfl, hb'⟩) | (go_at_call 21; with_reducible refine (SD.out _).mono ?_; rintro e w' ⟨rfl, hb'⟩) | (go_at_call 21; with_reducible refine (ST.out _).mono ?_; rintro e w' ⟨rfl, hb'⟩) | (go_at_call 22; with_reducible refine (KS.out _).mono ?_; rintro e w' ⟨rfl, hb'⟩) | (go_at_call 24; with_reducible refine (CN.out _).mono ?_; rintro e w' ⟨rfl, hb'⟩))
  all_goals
    go_wp2
    go_ret
    exact ⟨rfl, held12_below (by assumption)⟩

set_option maxRecDepth 100000 in
set_option maxHeartbeats 4000000 in
theorem caches_no (A : Option Addr) (cap : Nat) (ys : List Int) (w : World) (hw : Code w A ys) (N : Nat) (hN : N = ys.length) (s : ByteArray) (cp cy cx n a rp rv v dp dy dx ep ey ex pv fp fy fx sp sy sx gp gy gx gv hp hy hx tp ty tx : Int)
    (hbig : decide (1048576 < (N : Int)) = false)
    (BG : Hid (∀ w, Calls Try.prog 13 #[.slice A N cap] w fun e w' => e = .returned (.bool (decide (1048576 < (N : Int)))) ∧ w = w'))
    (DR : Hid (∀ w, Code w A ys → Calls Try.prog 14 #[.slice A N cap] w fun e w' => e = .returned (.tuple #[.agg #[.string s, .int .i64 cp, .int .i64 cy, .int .i64 cx], .int .i64 n]) ∧ Below w.heap.size w w'))
    (CO : Hid (∀ w, Calls Try.prog 16 #[.agg #[.string s, .int .i64 cp, .int .i64 cy, .int .i64 cx]] w fun e w' => e = .returned (.bool true) ∧ Below w.heap.size w w'))
    (TK : Hid (∀ w, Calls Try.prog 15 #[.agg #[.string s, .int .i64 cp, .int .i64 cy, .int .i64 cx], .int .i64 n] w fun e w' => e = .returned (.tuple #[.agg #[.string s, .int .i64 dp, .int .i64 dy, .int .i64 dx], .int .i64 0, .bool false]) ∧ Below w.heap.size w w'))
    (PI : Hid (∀ w, Calls Try.prog 17 #[.agg #[.string s, .int .i64 cp, .int .i64 cy, .int .i64 cx]] w fun e w' => e = .returned (.int .i64 a) ∧ Below w.heap.size w w'))
    (RB : Hid (∀ w, Calls Try.prog 18 #[.agg #[.string s, .int .i64 a], .int .i64 n] w fun e w' => e = .returned (.tuple #[.agg #[.string s, .int .i64 rp], .int .i64 rv, .bool false]) ∧ Below w.heap.size w w'))
    (PK : Hid (∀ w, Calls Try.prog 19 #[.agg #[.string s, .int .i64 cp, .int .i64 cy, .int .i64 cx], .int .i64 n] w fun e w' => e = .returned (.tuple #[.agg #[.string s, .int .i64 ep, .int .i64 ey, .int .i64 ex], .int .i64 pv]) ∧ Below w.heap.size w w'))
    (RF : Hid (∀ w, Calls Try.prog 20 #[.agg #[.string s, .int .i64 cp, .int .i64 cy, .int .i64 cx]] w fun e w' => e = .returned (.agg #[.string s, .int .i64 fp, .int .i64 fy, .int .i64 fx]) ∧ Below w.heap.size w w'))
    (ST : Hid (∀ w, Calls Try.prog 21 #[.agg #[.string s, .int .i64 cp, .int .i64 cy, .int .i64 cx]] w fun e w' => e = .returned (.agg #[.string s, .int .i64 sp, .int .i64 sy, .int .i64 sx]) ∧ Below w.heap.size w w'))
    (PG : Hid (∀ w, Calls Try.prog 19 #[.agg #[.string s, .int .i64 sp, .int .i64 sy, .int .i64 sx], .int .i64 n] w fun e w' => e = .returned (.tuple #[.agg #[.string s, .int .i64 gp, .int .i64 gy, .int .i64 gx], .int .i64 gv]) ∧ Below w.heap.size w w'))
    (PE : Hid (∀ w, Calls Try.prog 17 #[.agg #[.string s, .int .i64 ep, .int .i64 ey, .int .i64 ex]] w fun e w' => e = .returned (.int .i64 a) ∧ Below w.heap.size w w'))
    (PF : Hid (∀ w, Calls Try.prog 17 #[.agg #[.string s, .int .i64 fp, .int .i64 fy, .int .i64 fx]] w fun e w' => e = .returned (.int .i64 a) ∧ Below w.heap.size w w'))
    (PQ : Hid (∀ w, Calls Try.prog 17 #[.agg #[.string s, .int .i64 gp, .int .i64 gy, .int .i64 gx]] w fun e w' => e = .returned (.int .i64 a) ∧ Below w.heap.size w w'))
    (KD : Hid (∀ w, Calls Try.prog 22 #[.agg #[.string s, .int .i64 dp, .int .i64 dy, .int .i64 dx]] w fun e w' => e = .returned (.bool true) ∧ Below w.heap.size w w'))
    (KF : Hid (∀ w, Calls Try.prog 22 #[.agg #[.string s, .int .i64 fp, .int .i64 fy, .int .i64 fx]] w fun e w' => e = .returned (.bool true) ∧ Below w.heap.size w w'))
    (SF : Hid (∀ w, Calls Try.prog 23 #[.agg #[.string s, .int .i64 fp, .int .i64 fy, .int .i64 fx], .int .i64 n] w fun e w' => e = .returned (.tuple #[.agg #[.string s, .int .i64 hp, .int .i64 hy, .int .i64 hx], .bool false]) ∧ Below w.heap.size w w'))
    (KS : Hid (∀ w, Calls Try.prog 22 #[.agg #[.string s, .int .i64 sp, .int .i64 sy, .int .i64 sx]] w fun e w' => e = .returned (.bool true) ∧ Below w.heap.size w w'))
    (CN : Hid (∀ w, Calls Try.prog 24 #[.string s] w fun e w' => e = .returned (.agg #[.string s, .int .i64 0, .int .i64 0, .int .i64 0]) ∧ Below w.heap.size w w'))
    (n0 : 0 ≤ n) (n9 : n ≤ 16) (a0 : 0 ≤ a) (a9 : a ≤ 64) (hsx : decide (sx < 8) = true) :
    Calls Try.prog 3 #[.slice A N cap] w fun e w' => e = .returned (.bool true) ∧ Below w.heap.size w w' := by
  have e1 : (s.toList == s.toList) = true := by simp
  have e2 : (tp == tp) = true := by simp
  have e3 : (ty == ty) = true := by simp
  have e4 : (tx == tx) = true := by simp
  have q0 : decide (n < 0) = false := by simpa using n0
  have q1 : decide ((16 : Int) < n) = false := by simpa using n9
  have q2 : (v != v) = false := by simp
  have q3 : (a != a) = false := by simp
  have q4 : (a + n != a + n) = false := by simp
  have q5 : (a + n == a + n) = true := by simp
  have hfd3 : ∀ w : World, (Instr.field 25 (.agg #[.string s, .int .i64 sp, .int .i64 sy, .int .i64 sx]) 3).run Try.prog w = .ok (.int .i64 sx) w := fun _ => by kernel_rfl
  have hfd0 : ∀ w : World, (Instr.field 25 (.agg #[.string s, .int .i64 0, .int .i64 0, .int .i64 0]) 0).run Try.prog w = .ok (.string s) w := fun _ => by kernel_rfl
  have sm1 : IntKind.i64.wrap (a + n) = a + n := IntWalk.i64_in _ (by omega)
  have W0 := Lib.hid hw
  clear hw hN
  go_enter Try.func3, Try.ntmps3
  go_wp2_with fail
  refine (BG.out _).mono ?_
  rintro e w' ⟨rfl, rfl⟩
  go_wp2_with fail
  refine (DR.out _ W0.out).mono ?_
  rintro e w1 ⟨rfl, hb⟩
  have B1 := Lib.hid hb; clear hb
  go_wp2_with fail
  refine (TK.out _).mono ?_
  rintro e w2 ⟨rfl, hb⟩
  have Gc := Lib.hid (cell_kept (heap_alloc_new w1 _) hb)
  have B2 := Lib.hid (below_step ((B1.out).alloc (B1.out).size _) hb)
  clear hb B1
  have Fc := Gc; clear Gc
  obtain ⟨cc0, cc1, cc2, cc3⟩ := cells4 Fc.out
  have ltc := heap_lt Fc.out
  go_wp2_with fail
  refine (CO.out _).mono ?_
  rintro e w3 ⟨rfl, hb⟩
  clear cc0 cc1 cc2 cc3 ltc
  have Gc := Lib.hid (cell_kept (heap_keep Fc.out _) hb)
  have Gd := Lib.hid (cell_kept (heap_alloc_new w2 _) hb)
  have B3 := Lib.hid (below_step ((B2.out).alloc (B2.out).size _) hb)
  clear hb B2 Fc
  have Fc := Gc; clear Gc
  have Fd := Gd; clear Gd
  obtain ⟨cc0, cc1, cc2, cc3⟩ := cells4 Fc.out
  have ltc := heap_lt Fc.out
  go_wp2_with fail
  refine (PI.out _).mono ?_
  rintro e w4 ⟨rfl, hb⟩
  clear cc0 cc1 cc2 cc3 ltc
  have Gc := Lib.hid (cell_kept Fc.out hb)
  have Gd := Lib.hid (cell_kept Fd.out hb)
  have B4 := Lib.hid (below_step B3.out hb)
  clear hb B3 Fc Fd
  have Fc := Gc; clear Gc
  have Fd := Gd; clear Gd
  obtain ⟨cc0, cc1, cc2, cc3⟩ := cells4 Fc.out
  have ltc := heap_lt Fc.out
  go_wp2_with fail
  refine (RB.out _).mono ?_
  rintro e w5 ⟨rfl, hb⟩
  clear cc0 cc1 cc2 cc3 ltc
  have Gc := Lib.hid (cell_kept (heap_keep Fc.out _) hb)
  have Gd := Lib.hid (cell_kept (heap_keep Fd.out _) hb)
  have B5 := Lib.hid (below_step ((B4.out).alloc (B4.out).size _) hb)
  clear hb B4 Fc Fd
  have Fc := Gc; clear Gc
  have Fd := Gd; clear Gd
  obtain ⟨cc0, cc1, cc2, cc3⟩ := cells4 Fc.out
  have ltc := heap_lt Fc.out
  go_wp2_with fail
  refine (PK.out _).mono ?_
  rintro e w6 ⟨rfl, hb⟩
  clear cc0 cc1 cc2 cc3 ltc
  have Gc := Lib.hid (cell_kept (heap_keep Fc.out _) hb)
  have Gd := Lib.hid (cell_kept (heap_keep Fd.out _) hb)
  have B6 := Lib.hid (below_step ((B5.out).alloc (B5.out).size _) hb)
  clear hb B5 Fc Fd
  have Fc := Gc; clear Gc
  have Fd := Gd; clear Gd
  obtain ⟨cc0, cc1, cc2, cc3⟩ := cells4 Fc.out
  have ltc := heap_lt Fc.out
  go_wp2_with fail
  refine (RF.out _).mono ?_
  rintro e w7 ⟨rfl, hb⟩
  clear cc0 cc1 cc2 cc3 ltc
  have Gc := Lib.hid (cell_kept (heap_keep Fc.out _) hb)
  have Gd := Lib.hid (cell_kept (heap_keep Fd.out _) hb)
  have Ge := Lib.hid (cell_kept (heap_alloc_new w6 _) hb)
  have B7 := Lib.hid (below_step ((B6.out).alloc (B6.out).size _) hb)
  clear hb B6 Fc Fd
  have Fc := Gc; clear Gc
  have Fd := Gd; clear Gd
  have Fe := Ge; clear Ge
  obtain ⟨cc0, cc1, cc2, cc3⟩ := cells4 Fc.out
  have ltc := heap_lt Fc.out
  go_wp2_with fail
  refine (ST.out _).mono ?_
  rintro e w8 ⟨rfl, hb⟩
  clear cc0 cc1 cc2 cc3 ltc
  have Gc := Lib.hid (cell_kept (heap_keep Fc.out _) hb)
  have Gd := Lib.hid (cell_kept (heap_keep Fd.out _) hb)
  have Ge := Lib.hid (cell_kept (heap_keep Fe.out _) hb)
  have Gf := Lib.hid (cell_kept (heap_alloc_new w7 _) hb)
  have B8 := Lib.hid (below_step ((B7.out).alloc (B7.out).size _) hb)
  clear hb B7 Fc Fd Fe
  have Fc := Gc; clear Gc
  have Fd := Gd; clear Gd
  have Fe := Ge; clear Ge
  have Ff := Gf; clear Gf
  go_wp2_with fail
  refine (PG.out _).mono ?_
  rintro e w9 ⟨rfl, hb⟩
  have Gc := Lib.hid (cell_kept Fc.out hb)
  have Gd := Lib.hid (cell_kept Fd.out hb)
  have Ge := Lib.hid (cell_kept Fe.out hb)
  have Gf := Lib.hid (cell_kept Ff.out hb)
  have B9 := Lib.hid (below_step B8.out hb)
  clear hb B8 Fc Fd Fe Ff
  have Fc := Gc; clear Gc
  have Fd := Gd; clear Gd
  have Fe := Ge; clear Ge
  have Ff := Gf; clear Gf
  obtain ⟨ce0, ce1, ce2, ce3⟩ := cells4 Fe.out
  have lte := heap_lt Fe.out
  go_wp2_with fail
  refine (PE.out _).mono ?_
  rintro e w10 ⟨rfl, hb⟩
  clear ce0 ce1 ce2 ce3 lte
  have Gc := Lib.hid (cell_kept (heap_keep Fc.out _) hb)
  have Gd := Lib.hid (cell_kept (heap_keep Fd.out _) hb)
  have Ge := Lib.hid (cell_kept (heap_keep Fe.out _) hb)
  have Gf := Lib.hid (cell_kept (heap_keep Ff.out _) hb)
  have Gg := Lib.hid (cell_kept (heap_alloc_new w9 _) hb)
  have B10 := Lib.hid (below_step ((B9.out).alloc (B9.out).size _) hb)
  clear hb B9 Fc Fd Fe Ff
  have Fc := Gc; clear Gc
  have Fd := Gd; clear Gd
  have Fe := Ge; clear Ge
  have Ff := Gf; clear Gf
  have Fg := Gg; clear Gg
  obtain ⟨cf0, cf1, cf2, cf3⟩ := cells4 Ff.out
  have ltf := heap_lt Ff.out
  go_wp2_with fail
  refine (PF.out _).mono ?_
  rintro e w11 ⟨rfl, hb⟩
  clear cf0 cf1 cf2 cf3 ltf
  have Gc := Lib.hid (cell_kept Fc.out hb)
  have Gd := Lib.hid (cell_kept Fd.out hb)
  have Ge := Lib.hid (cell_kept Fe.out hb)
  have Gf := Lib.hid (cell_kept Ff.out hb)
  have Gg := Lib.hid (cell_kept Fg.out hb)
  have B11 := Lib.hid (below_step B10.out hb)
  clear hb B10 Fc Fd Fe Ff Fg
  have Fc := Gc; clear Gc
  have Fd := Gd; clear Gd
  have Fe := Ge; clear Ge
  have Ff := Gf; clear Gf
  have Fg := Gg; clear Gg
  obtain ⟨cg0, cg1, cg2, cg3⟩ := cells4 Fg.out
  have ltg := heap_lt Fg.out
  go_wp2_with fail
  refine (PQ.out _).mono ?_
  rintro e w12 ⟨rfl, hb⟩
  clear cg0 cg1 cg2 cg3 ltg
  have Gc := Lib.hid (cell_kept Fc.out hb)
  have Gd := Lib.hid (cell_kept Fd.out hb)
  have Ge := Lib.hid (cell_kept Fe.out hb)
  have Gf := Lib.hid (cell_kept Ff.out hb)
  have Gg := Lib.hid (cell_kept Fg.out hb)
  have B12 := Lib.hid (below_step B11.out hb)
  clear hb B11 Fc Fd Fe Ff Fg
  have Fc := Gc; clear Gc
  have Fd := Gd; clear Gd
  have Fe := Ge; clear Ge
  have Ff := Gf; clear Gf
  have Fg := Gg; clear Gg
  obtain ⟨cd0, cd1, cd2, cd3⟩ := cells4 Fd.out
  have ltd := heap_lt Fd.out
  go_wp2_with fail
  refine (KD.out _).mono ?_
  rintro e w13 ⟨rfl, hb⟩
  clear cd0 cd1 cd2 cd3 ltd
  have Gc := Lib.hid (cell_kept Fc.out hb)
  have Gd := Lib.hid (cell_kept Fd.out hb)
  have Ge := Lib.hid (cell_kept Fe.out hb)
  have Gf := Lib.hid (cell_kept Ff.out hb)
  have Gg := Lib.hid (cell_kept Fg.out hb)
  have B13 := Lib.hid (below_step B12.out hb)
  clear hb B12 Fc Fd Fe Ff Fg
  have Fc := Gc; clear Gc
  have Fd := Gd; clear Gd
  have Fe := Ge; clear Ge
  have Ff := Gf; clear Gf
  have Fg := Gg; clear Gg
  obtain ⟨cf0, cf1, cf2, cf3⟩ := cells4 Ff.out
  have ltf := heap_lt Ff.out
  go_wp2_with fail
  refine (KF.out _).mono ?_
  rintro e w14 ⟨rfl, hb⟩
  clear cf0 cf1 cf2 cf3 ltf
  have Gc := Lib.hid (cell_kept Fc.out hb)
  have Gd := Lib.hid (cell_kept Fd.out hb)
  have Ge := Lib.hid (cell_kept Fe.out hb)
  have Gf := Lib.hid (cell_kept Ff.out hb)
  have Gg := Lib.hid (cell_kept Fg.out hb)
  have B14 := Lib.hid (below_step B13.out hb)
  clear hb B13 Fc Fd Fe Ff Fg
  have Fc := Gc; clear Gc
  have Fd := Gd; clear Gd
  have Fe := Ge; clear Ge
  have Ff := Gf; clear Gf
  have Fg := Gg; clear Gg
  obtain ⟨cf0, cf1, cf2, cf3⟩ := cells4 Ff.out
  have ltf := heap_lt Ff.out
  go_wp2_with fail
  refine (SF.out _).mono ?_
  rintro e w15 ⟨rfl, hb⟩
  clear cf0 cf1 cf2 cf3 ltf
  have Gc := Lib.hid (cell_kept Fc.out hb)
  have Gd := Lib.hid (cell_kept Fd.out hb)
  have B15 := Lib.hid (below_step B14.out hb)
  clear hb B14 Fc Fd Fe Ff Fg
  have Fc := Gc; clear Gc
  have Fd := Gd; clear Gd
  have fc := heap_keep Fc.out (.cells #[.string s, .int .i64 hp, .int .i64 hy, .int .i64 hx] 25)
  have fd := heap_keep Fd.out (.cells #[.string s, .int .i64 hp, .int .i64 hy, .int .i64 hx] 25)
  have fh := heap_alloc_new w15 (.cells #[.string s, .int .i64 hp, .int .i64 hy, .int .i64 hx] 25)
  have fb := B15.out.alloc B15.out.size (.cells #[.string s, .int .i64 hp, .int .i64 hy, .int .i64 hx] 25)
  obtain ⟨wr, hwr⟩ : ∃ wr, wr = w15.alloc (.cells #[.string s, .int .i64 hp, .int .i64 hy, .int .i64 hx] 25) := ⟨_, rfl⟩
  rw [← hwr] at fc fd fh fb
  have HH := Lib.hid (held12_of fc fd fh fb)
  have HWR := Lib.hid hwr
  clear fc fd fh fb hwr
  go_wp2
  rw [← HWR.out]
  have H12 := HH.out
  refine wp_region_held_drew (S := (fun w' => w'.cell? ⟨w1.heap.size, 0, none⟩ = some (.string s) ∧ w'.cell? ⟨w1.heap.size, 1, none⟩ = some (.int .i64 cp) ∧ w'.cell? ⟨w1.heap.size, 2, none⟩ = some (.int .i64 cy) ∧ w'.cell? ⟨w1.heap.size, 3, none⟩ = some (.int .i64 cx) ∧ w'.cell? ⟨w2.heap.size, 0, none⟩ = some (.string s) ∧ w'.cell? ⟨w2.heap.size, 1, none⟩ = some (.int .i64 dp) ∧ w'.cell? ⟨w2.heap.size, 2, none⟩ = some (.int .i64 dy) ∧ w'.cell? ⟨w2.heap.size, 3, none⟩ = some (.int .i64 dx) ∧ w'.cell? ⟨w15.heap.size, 0, none⟩ = some (.string s) ∧ w'.cell? ⟨w15.heap.size, 1, none⟩ = some (.int .i64 hp) ∧ w'.cell? ⟨w15.heap.size, 2, none⟩ = some (.int .i64 hy) ∧ w'.cell? ⟨w15.heap.size, 3, none⟩ = some (.int .i64 hx) ∧ Below w.heap.size w w' ∧ w.heap.size ≤ w'.heap.size)) (by kernel_rfl) ?_ (fun hHeld => ?_)
  · (try dsimp only); (first | (refine held12_drew ?_; assumption) | (refine held12 ?_ (by assumption); assumption))
  first | (refine wpAnyH_take (i := 0) (oi := ⟨some 148, _, _, _, _, _⟩) (v := ?_) rfl (by kernel_rfl) (by kernel_rfl) (by kernel_rfl) (fun _ _ _ h => h) (Or.inl ⟨by rfl, ?_⟩) (by assumption) ?_; rotate_left; focus (intro w hSw; (try dsimp only at hSw); go_simp; (try with_reducible rfl); done)) | (refine wpAnyH_take (i := 0) (oi := ⟨some 148, _, _, _, _, _⟩) (v := undef) rfl (by kernel_rfl) (by kernel_rfl) (by kernel_rfl) (fun _ _ _ h => h) (Or.inr ⟨by rfl, rfl⟩) (by assumption) ?_)
  try simp only [Act.put, List.setIfInBounds_toArray, List.set_cons_zero, List.set_cons_succ]
  first | (refine wpAnyH_take (i := 1) (oi := ⟨some 149, _, _, _, _, _⟩) (v := ?_) rfl (by kernel_rfl) (by kernel_rfl) (by kernel_rfl) (fun _ _ _ h => h) (Or.inl ⟨by rfl, ?_⟩) (by assumption) ?_; rotate_left; focus (intro w hSw; (try dsimp only at hSw); go_simp; (try with_reducible rfl); done)) | (refine wpAnyH_take (i := 1) (oi := ⟨some 149, _, _, _, _, _⟩) (v := undef) rfl (by kernel_rfl) (by kernel_rfl) (by kernel_rfl) (fun _ _ _ h => h) (Or.inr ⟨by rfl, rfl⟩) (by assumption) ?_)
  try simp only [Act.put, List.setIfInBounds_toArray, List.set_cons_zero, List.set_cons_succ]
  first | (refine wpAnyH_take (i := 2) (oi := ⟨some 150, _, _, _, _, _⟩) (v := ?_) rfl (by kernel_rfl) (by kernel_rfl) (by kernel_rfl) (fun _ _ _ h => h) (Or.inl ⟨by rfl, ?_⟩) (by assumption) ?_; rotate_left; focus (intro w hSw; (try dsimp only at hSw); go_simp; (try with_reducible rfl); done)) | (refine wpAnyH_take (i := 2) (oi := ⟨some 150, _, _, _, _, _⟩) (v := undef) rfl (by kernel_rfl) (by kernel_rfl) (by kernel_rfl) (fun _ _ _ h => h) (Or.inr ⟨by rfl, rfl⟩) (by assumption) ?_)
  try simp only [Act.put, List.setIfInBounds_toArray, List.set_cons_zero, List.set_cons_succ]
  first | (refine wpAnyH_take (i := 3) (oi := ⟨some 151, _, _, _, _, _⟩) (v := ?_) rfl (by kernel_rfl) (by kernel_rfl) (by kernel_rfl) (fun _ _ _ h => h) (Or.inl ⟨by rfl, ?_⟩) (by assumption) ?_; rotate_left; focus (intro w hSw; (try dsimp only at hSw); go_simp; (try with_reducible rfl); done)) | (refine wpAnyH_take (i := 3) (oi := ⟨some 151, _, _, _, _, _⟩) (v := undef) rfl (by kernel_rfl) (by kernel_rfl) (by kernel_rfl) (fun _ _ _ h => h) (Or.inr ⟨by rfl, rfl⟩) (by assumption) ?_)
  try simp only [Act.put, List.setIfInBounds_toArray, List.set_cons_zero, List.set_cons_succ]
  first | (refine wpAnyH_take (i := 4) (oi := ⟨some 152, _, _, _, _, _⟩) (v := ?_) rfl (by kernel_rfl) (by kernel_rfl) (by kernel_rfl) (fun _ _ _ h => h) (Or.inl ⟨by rfl, ?_⟩) (by assumption) ?_; rotate_left; focus (intro w hSw; (try dsimp only at hSw); go_simp; (try with_reducible rfl); done)) | (refine wpAnyH_take (i := 4) (oi := ⟨some 152, _, _, _, _, _⟩) (v := undef) rfl (by kernel_rfl) (by kernel_rfl) (by kernel_rfl) (fun _ _ _ h => h) (Or.inr ⟨by rfl, rfl⟩) (by assumption) ?_)
  try simp only [Act.put, List.setIfInBounds_toArray, List.set_cons_zero, List.set_cons_succ]
  first | (refine wpAnyH_take (i := 5) (oi := ⟨some 153, _, _, _, _, _⟩) (v := ?_) rfl (by kernel_rfl) (by kernel_rfl) (by kernel_rfl) (fun _ _ _ h => h) (Or.inl ⟨by rfl, ?_⟩) (by assumption) ?_; rotate_left; focus (intro w hSw; (try dsimp only at hSw); go_simp; (try with_reducible rfl); done)) | (refine wpAnyH_take (i := 5) (oi := ⟨some 153, _, _, _, _, _⟩) (v := undef) rfl (by kernel_rfl) (by kernel_rfl) (by kernel_rfl) (fun _ _ _ h => h) (Or.inr ⟨by rfl, rfl⟩) (by assumption) ?_)
  try simp only [Act.put, List.setIfInBounds_toArray, List.set_cons_zero, List.set_cons_succ]
  first | (refine wpAnyH_take (i := 6) (oi := ⟨some 154, _, _, _, _, _⟩) (v := ?_) rfl (by kernel_rfl) (by kernel_rfl) (by kernel_rfl) (fun _ _ _ h => h) (Or.inl ⟨by rfl, ?_⟩) (by assumption) ?_; rotate_left; focus (intro w hSw; (try dsimp only at hSw); go_simp; (try with_reducible rfl); done)) | (refine wpAnyH_take (i := 6) (oi := ⟨some 154, _, _, _, _, _⟩) (v := undef) rfl (by kernel_rfl) (by kernel_rfl) (by kernel_rfl) (fun _ _ _ h => h) (Or.inr ⟨by rfl, rfl⟩) (by assumption) ?_)
  try simp only [Act.put, List.setIfInBounds_toArray, List.set_cons_zero, List.set_cons_succ]
  first | (refine wpAnyH_take (i := 7) (oi := ⟨some 155, _, _, _, _, _⟩) (v := ?_) rfl (by kernel_rfl) (by kernel_rfl) (by kernel_rfl) (fun _ _ _ h => h) (Or.inl ⟨by rfl, ?_⟩) (by assumption) ?_; rotate_left; focus (intro w hSw; (try dsimp only at hSw); go_simp; (try with_reducible rfl); done)) | (refine wpAnyH_take (i := 7) (oi := ⟨some 155, _, _, _, _, _⟩) (v := undef) rfl (by kernel_rfl) (by kernel_rfl) (by kernel_rfl) (fun _ _ _ h => h) (Or.inr ⟨by rfl, rfl⟩) (by assumption) ?_)
  try simp only [Act.put, List.setIfInBounds_toArray, List.set_cons_zero, List.set_cons_succ]
  first | (refine wpAnyH_take (i := 8) (oi := ⟨some 156, _, _, _, _, _⟩) (v := ?_) rfl (by kernel_rfl) (by kernel_rfl) (by kernel_rfl) (fun _ _ _ h => h) (Or.inl ⟨by rfl, ?_⟩) (by assumption) ?_; rotate_left; focus (intro w hSw; (try dsimp only at hSw); go_simp; (try with_reducible rfl); done)) | (refine wpAnyH_take (i := 8) (oi := ⟨some 156, _, _, _, _, _⟩) (v := undef) rfl (by kernel_rfl) (by kernel_rfl) (by kernel_rfl) (fun _ _ _ h => h) (Or.inr ⟨by rfl, rfl⟩) (by assumption) ?_)
  try simp only [Act.put, List.setIfInBounds_toArray, List.set_cons_zero, List.set_cons_succ]
  first | (refine wpAnyH_take (i := 9) (oi := ⟨some 157, _, _, _, _, _⟩) (v := ?_) rfl (by kernel_rfl) (by kernel_rfl) (by kernel_rfl) (fun _ _ _ h => h) (Or.inl ⟨by rfl, ?_⟩) (by assumption) ?_; rotate_left; focus (intro w hSw; (try dsimp only at hSw); go_simp; (try with_reducible rfl); done)) | (refine wpAnyH_take (i := 9) (oi := ⟨some 157, _, _, _, _, _⟩) (v := undef) rfl (by kernel_rfl) (by kernel_rfl) (by kernel_rfl) (fun _ _ _ h => h) (Or.inr ⟨by rfl, rfl⟩) (by assumption) ?_)
  try simp only [Act.put, List.setIfInBounds_toArray, List.set_cons_zero, List.set_cons_succ]
  first | (refine wpAnyH_take (i := 10) (oi := ⟨some 158, _, _, _, _, _⟩) (v := ?_) rfl (by kernel_rfl) (by kernel_rfl) (by kernel_rfl) (fun _ _ _ h => h) (Or.inl ⟨by rfl, ?_⟩) (by assumption) ?_; rotate_left; focus (intro w hSw; (try dsimp only at hSw); go_simp; (try with_reducible rfl); done)) | (refine wpAnyH_take (i := 10) (oi := ⟨some 158, _, _, _, _, _⟩) (v := undef) rfl (by kernel_rfl) (by kernel_rfl) (by kernel_rfl) (fun _ _ _ h => h) (Or.inr ⟨by rfl, rfl⟩) (by assumption) ?_)
  try simp only [Act.put, List.setIfInBounds_toArray, List.set_cons_zero, List.set_cons_succ]
  first | (refine wpAnyH_take (i := 11) (oi := ⟨some 159, _, _, _, _, _⟩) (v := ?_) rfl (by kernel_rfl) (by kernel_rfl) (by kernel_rfl) (fun _ _ _ h => h) (Or.inl ⟨by rfl, ?_⟩) (by assumption) ?_; rotate_left; focus (intro w hSw; (try dsimp only at hSw); go_simp; (try with_reducible rfl); done)) | (refine wpAnyH_take (i := 11) (oi := ⟨some 159, _, _, _, _, _⟩) (v := undef) rfl (by kernel_rfl) (by kernel_rfl) (by kernel_rfl) (fun _ _ _ h => h) (Or.inr ⟨by rfl, rfl⟩) (by assumption) ?_)
  try simp only [Act.put, List.setIfInBounds_toArray, List.set_cons_zero, List.set_cons_succ]
  first | (refine wpAnyH_take (i := 12) (oi := ⟨some 160, _, _, _, _, _⟩) (v := ?_) rfl (by kernel_rfl) (by kernel_rfl) (by kernel_rfl) (fun _ _ _ h => h) (Or.inl ⟨by rfl, ?_⟩) (by assumption) ?_; rotate_left; focus (intro w hSw; (try dsimp only at hSw); go_simp; (try with_reducible rfl); done)) | (refine wpAnyH_take (i := 12) (oi := ⟨some 160, _, _, _, _, _⟩) (v := undef) rfl (by kernel_rfl) (by kernel_rfl) (by kernel_rfl) (fun _ _ _ h => h) (Or.inr ⟨by rfl, rfl⟩) (by assumption) ?_)
  try simp only [Act.put, List.setIfInBounds_toArray, List.set_cons_zero, List.set_cons_succ]
  first | (refine wpAnyH_take (i := 13) (oi := ⟨some 161, _, _, _, _, _⟩) (v := ?_) rfl (by kernel_rfl) (by kernel_rfl) (by kernel_rfl) (fun _ _ _ h => h) (Or.inl ⟨by rfl, ?_⟩) (by assumption) ?_; rotate_left; focus (intro w hSw; (try dsimp only at hSw); go_simp; (try with_reducible rfl); done)) | (refine wpAnyH_take (i := 13) (oi := ⟨some 161, _, _, _, _, _⟩) (v := undef) rfl (by kernel_rfl) (by kernel_rfl) (by kernel_rfl) (fun _ _ _ h => h) (Or.inr ⟨by rfl, rfl⟩) (by assumption) ?_)
  try simp only [Act.put, List.setIfInBounds_toArray, List.set_cons_zero, List.set_cons_succ]
  first | (refine wpAnyH_take (i := 14) (oi := ⟨some 162, _, _, _, _, _⟩) (v := ?_) rfl (by kernel_rfl) (by kernel_rfl) (by kernel_rfl) (fun _ _ _ h => h) (Or.inl ⟨by rfl, ?_⟩) (by assumption) ?_; rotate_left; focus (intro w hSw; (try dsimp only at hSw); go_simp; (try with_reducible rfl); done)) | (refine wpAnyH_take (i := 14) (oi := ⟨some 162, _, _, _, _, _⟩) (v := undef) rfl (by kernel_rfl) (by kernel_rfl) (by kernel_rfl) (fun _ _ _ h => h) (Or.inr ⟨by rfl, rfl⟩) (by assumption) ?_)
  try simp only [Act.put, List.setIfInBounds_toArray, List.set_cons_zero, List.set_cons_succ]
  first | (refine wpAnyH_take (i := 15) (oi := ⟨some 163, _, _, _, _, _⟩) (v := ?_) rfl (by kernel_rfl) (by kernel_rfl) (by kernel_rfl) (fun _ _ _ h => h) (Or.inl ⟨by rfl, ?_⟩) (by assumption) ?_; rotate_left; focus (intro w hSw; (try dsimp only at hSw); go_simp; (try with_reducible rfl); done)) | (refine wpAnyH_take (i := 15) (oi := ⟨some 163, _, _, _, _, _⟩) (v := undef) rfl (by kernel_rfl) (by kernel_rfl) (by kernel_rfl) (fun _ _ _ h => h) (Or.inr ⟨by rfl, rfl⟩) (by assumption) ?_)
  try simp only [Act.put, List.setIfInBounds_toArray, List.set_cons_zero, List.set_cons_succ]
  first | (refine wpAnyH_take (i := 16) (oi := ⟨some 164, _, _, _, _, _⟩) (v := ?_) rfl (by kernel_rfl) (by kernel_rfl) (by kernel_rfl) (fun _ _ _ h => h) (Or.inl ⟨by rfl, ?_⟩) (by assumption) ?_; rotate_left; focus (intro w hSw; (try dsimp only at hSw); go_simp; (try with_reducible rfl); done)) | (refine wpAnyH_take (i := 16) (oi := ⟨some 164, _, _, _, _, _⟩) (v := undef) rfl (by kernel_rfl) (by kernel_rfl) (by kernel_rfl) (fun _ _ _ h => h) (Or.inr ⟨by rfl, rfl⟩) (by assumption) ?_)
  try simp only [Act.put, List.setIfInBounds_toArray, List.set_cons_zero, List.set_cons_succ]
  first | (refine wpAnyH_take (i := 17) (oi := ⟨some 165, _, _, _, _, _⟩) (v := ?_) rfl (by kernel_rfl) (by kernel_rfl) (by kernel_rfl) (fun _ _ _ h => h) (Or.inl ⟨by rfl, ?_⟩) (by assumption) ?_; rotate_left; focus (intro w hSw; (try dsimp only at hSw); go_simp; (try with_reducible rfl); done)) | (refine wpAnyH_take (i := 17) (oi := ⟨some 165, _, _, _, _, _⟩) (v := undef) rfl (by kernel_rfl) (by kernel_rfl) (by kernel_rfl) (fun _ _ _ h => h) (Or.inr ⟨by rfl, rfl⟩) (by assumption) ?_)
  try simp only [Act.put, List.setIfInBounds_toArray, List.set_cons_zero, List.set_cons_succ]
  first | (refine wpAnyH_take (i := 18) (oi := ⟨some 166, _, _, _, _, _⟩) (v := ?_) rfl (by kernel_rfl) (by kernel_rfl) (by kernel_rfl) (fun _ _ _ h => h) (Or.inl ⟨by rfl, ?_⟩) (by assumption) ?_; rotate_left; focus (intro w hSw; (try dsimp only at hSw); go_simp; (try with_reducible rfl); done)) | (refine wpAnyH_take (i := 18) (oi := ⟨some 166, _, _, _, _, _⟩) (v := undef) rfl (by kernel_rfl) (by kernel_rfl) (by kernel_rfl) (fun _ _ _ h => h) (Or.inr ⟨by rfl, rfl⟩) (by assumption) ?_)
  try simp only [Act.put, List.setIfInBounds_toArray, List.set_cons_zero, List.set_cons_succ]
  first | (refine wpAnyH_take (i := 19) (oi := ⟨some 167, _, _, _, _, _⟩) (v := ?_) rfl (by kernel_rfl) (by kernel_rfl) (by kernel_rfl) (fun _ _ _ h => h) (Or.inl ⟨by rfl, ?_⟩) (by assumption) ?_; rotate_left; focus (intro w hSw; (try dsimp only at hSw); go_simp; (try with_reducible rfl); done)) | (refine wpAnyH_take (i := 19) (oi := ⟨some 167, _, _, _, _, _⟩) (v := undef) rfl (by kernel_rfl) (by kernel_rfl) (by kernel_rfl) (fun _ _ _ h => h) (Or.inr ⟨by rfl, rfl⟩) (by assumption) ?_)
  try simp only [Act.put, List.setIfInBounds_toArray, List.set_cons_zero, List.set_cons_succ]
  first | (refine wpAnyH_take (i := 20) (oi := ⟨some 168, _, _, _, _, _⟩) (v := ?_) rfl (by kernel_rfl) (by kernel_rfl) (by kernel_rfl) (fun _ _ _ h => h) (Or.inl ⟨by rfl, ?_⟩) (by assumption) ?_; rotate_left; focus (intro w hSw; (try dsimp only at hSw); go_simp; (try with_reducible rfl); done)) | (refine wpAnyH_take (i := 20) (oi := ⟨some 168, _, _, _, _, _⟩) (v := undef) rfl (by kernel_rfl) (by kernel_rfl) (by kernel_rfl) (fun _ _ _ h => h) (Or.inr ⟨by rfl, rfl⟩) (by assumption) ?_)
  try simp only [Act.put, List.setIfInBounds_toArray, List.set_cons_zero, List.set_cons_succ]
  first | (refine wpAnyH_take (i := 21) (oi := ⟨some 169, _, _, _, _, _⟩) (v := ?_) rfl (by kernel_rfl) (by kernel_rfl) (by kernel_rfl) (fun _ _ _ h => h) (Or.inl ⟨by rfl, ?_⟩) (by assumption) ?_; rotate_left; focus (intro w hSw; (try dsimp only at hSw); go_simp; (try with_reducible rfl); done)) | (refine wpAnyH_take (i := 21) (oi := ⟨some 169, _, _, _, _, _⟩) (v := undef) rfl (by kernel_rfl) (by kernel_rfl) (by kernel_rfl) (fun _ _ _ h => h) (Or.inr ⟨by rfl, rfl⟩) (by assumption) ?_)
  try simp only [Act.put, List.setIfInBounds_toArray, List.set_cons_zero, List.set_cons_succ]
  first | (refine wpAnyH_take (i := 22) (oi := ⟨some 170, _, _, _, _, _⟩) (v := ?_) rfl (by kernel_rfl) (by kernel_rfl) (by kernel_rfl) (fun _ _ _ h => h) (Or.inl ⟨by rfl, ?_⟩) (by assumption) ?_; rotate_left; focus (intro w hSw; (try dsimp only at hSw); go_simp; (try with_reducible rfl); done)) | (refine wpAnyH_take (i := 22) (oi := ⟨some 170, _, _, _, _, _⟩) (v := undef) rfl (by kernel_rfl) (by kernel_rfl) (by kernel_rfl) (fun _ _ _ h => h) (Or.inr ⟨by rfl, rfl⟩) (by assumption) ?_)
  try simp only [Act.put, List.setIfInBounds_toArray, List.set_cons_zero, List.set_cons_succ]
  first | (refine wpAnyH_take (i := 23) (oi := ⟨some 171, _, _, _, _, _⟩) (v := ?_) rfl (by kernel_rfl) (by kernel_rfl) (by kernel_rfl) (fun _ _ _ h => h) (Or.inl ⟨by rfl, ?_⟩) (by assumption) ?_; rotate_left; focus (intro w hSw; (try dsimp only at hSw); go_simp; (try with_reducible rfl); done)) | (refine wpAnyH_take (i := 23) (oi := ⟨some 171, _, _, _, _, _⟩) (v := undef) rfl (by kernel_rfl) (by kernel_rfl) (by kernel_rfl) (fun _ _ _ h => h) (Or.inr ⟨by rfl, rfl⟩) (by assumption) ?_)
  try simp only [Act.put, List.setIfInBounds_toArray, List.set_cons_zero, List.set_cons_succ]
  refine wpAnyH_ready (rs := [24]) (by kernel_rfl) (by simp) ?_
  refine AllReadyH.cons (o := ⟨some 172, _, _, _, _, _⟩) rfl (fun K hK => ?_) AllReadyH.nil
  go_simp
  (go_at_call 21; refine (ST.out _).mono ?_; rintro e w' ⟨rfl, hb'⟩)
  try go_wp2_with fail
  refine hK.out _ _ ?_ (fun hHeld' => ?_)
  · (try dsimp only); (first | (refine held12_drew ?_; assumption) | (refine held12 ?_ (by assumption); assumption))
  clear hK K hHeld
  have hHeld := hHeld'
  clear hHeld'
  try simp only [Act.put, List.setIfInBounds_toArray, List.set_cons_zero, List.set_cons_succ]
  refine wpAnyH_ready (rs := [25]) (by kernel_rfl) (by simp) ?_
  refine AllReadyH.cons (o := ⟨some 173, _, _, _, _, _⟩) rfl (fun K hK => ?_) AllReadyH.nil
  go_simp
  (go_at_call 22; refine (KS.out _).mono ?_; rintro e w' ⟨rfl, hb'⟩)
  try go_wp2_with fail
  refine hK.out _ _ ?_ (fun hHeld' => ?_)
  · (try dsimp only); (first | (refine held12_drew ?_; assumption) | (refine held12 ?_ (by assumption); assumption))
  clear hK K hHeld
  have hHeld := hHeld'
  clear hHeld'
  try simp only [Act.put, List.setIfInBounds_toArray, List.set_cons_zero, List.set_cons_succ]
  first | (refine wpAnyH_take (i := 26) (oi := ⟨some 174, _, _, _, _, _⟩) (v := ?_) rfl (by kernel_rfl) (by kernel_rfl) (by kernel_rfl) (fun _ _ _ h => h) (Or.inl ⟨by rfl, ?_⟩) (by assumption) ?_; rotate_left; focus (intro w hSw; (try dsimp only at hSw); go_simp; (try with_reducible rfl); done)) | (refine wpAnyH_take (i := 26) (oi := ⟨some 174, _, _, _, _, _⟩) (v := undef) rfl (by kernel_rfl) (by kernel_rfl) (by kernel_rfl) (fun _ _ _ h => h) (Or.inr ⟨by rfl, rfl⟩) (by assumption) ?_)
  try simp only [Act.put, List.setIfInBounds_toArray, List.set_cons_zero, List.set_cons_succ]
  first | (refine wpAnyH_take (i := 27) (oi := ⟨some 175, _, _, _, _, _⟩) (v := ?_) rfl (by kernel_rfl) (by kernel_rfl) (by kernel_rfl) (fun _ _ _ h => h) (Or.inl ⟨by rfl, ?_⟩) (by assumption) ?_; rotate_left; focus (intro w hSw; (try dsimp only at hSw); go_simp; (try with_reducible rfl); done)) | (refine wpAnyH_take (i := 27) (oi := ⟨some 175, _, _, _, _, _⟩) (v := undef) rfl (by kernel_rfl) (by kernel_rfl) (by kernel_rfl) (fun _ _ _ h => h) (Or.inr ⟨by rfl, rfl⟩) (by assumption) ?_)
  try simp only [Act.put, List.setIfInBounds_toArray, List.set_cons_zero, List.set_cons_succ]
  first | (refine wpAnyH_take (i := 28) (oi := ⟨some 176, _, _, _, _, _⟩) (v := ?_) rfl (by kernel_rfl) (by kernel_rfl) (by kernel_rfl) (fun _ _ _ h => h) (Or.inl ⟨by rfl, ?_⟩) (by assumption) ?_; rotate_left; focus (intro w hSw; (try dsimp only at hSw); go_simp; (try with_reducible rfl); done)) | (refine wpAnyH_take (i := 28) (oi := ⟨some 176, _, _, _, _, _⟩) (v := undef) rfl (by kernel_rfl) (by kernel_rfl) (by kernel_rfl) (fun _ _ _ h => h) (Or.inr ⟨by rfl, rfl⟩) (by assumption) ?_)
  try simp only [Act.put, List.setIfInBounds_toArray, List.set_cons_zero, List.set_cons_succ]
  refine wpAnyH_ready (rs := [29]) (by kernel_rfl) (by simp) ?_
  refine AllReadyH.cons (o := ⟨some 177, _, _, _, _, _⟩) rfl (fun K hK => ?_) AllReadyH.nil
  go_simp
  (go_at_call 21; refine (ST.out _).mono ?_; rintro e w' ⟨rfl, hb'⟩)
  try go_wp2_with fail
  refine hK.out _ _ ?_ (fun hHeld' => ?_)
  · (try dsimp only); (first | (refine held12_drew ?_; assumption) | (refine held12 ?_ (by assumption); assumption))
  clear hK K hHeld
  have hHeld := hHeld'
  clear hHeld'
  try simp only [Act.put, List.setIfInBounds_toArray, List.set_cons_zero, List.set_cons_succ]
  first | (refine wpAnyH_take (i := 30) (oi := ⟨some 178, _, _, _, _, _⟩) (v := ?_) rfl (by kernel_rfl) (by kernel_rfl) (by kernel_rfl) (fun _ _ _ h => h) (Or.inl ⟨by rfl, ?_⟩) (by assumption) ?_; rotate_left; focus (intro w hSw; (try dsimp only at hSw); go_simp; (try with_reducible rfl); done)) | (refine wpAnyH_take (i := 30) (oi := ⟨some 178, _, _, _, _, _⟩) (v := undef) rfl (by kernel_rfl) (by kernel_rfl) (by kernel_rfl) (fun _ _ _ h => h) (Or.inr ⟨by rfl, rfl⟩) (by assumption) ?_)
  try simp only [Act.put, List.setIfInBounds_toArray, List.set_cons_zero, List.set_cons_succ]
  first | (refine wpAnyH_take (i := 31) (oi := ⟨some 179, _, _, _, _, _⟩) (v := ?_) rfl (by kernel_rfl) (by kernel_rfl) (by kernel_rfl) (fun _ _ _ h => h) (Or.inl ⟨by rfl, ?_⟩) (by assumption) ?_; rotate_left; focus (intro w hSw; (try dsimp only at hSw); go_simp; (try with_reducible rfl); done)) | (refine wpAnyH_take (i := 31) (oi := ⟨some 179, _, _, _, _, _⟩) (v := undef) rfl (by kernel_rfl) (by kernel_rfl) (by kernel_rfl) (fun _ _ _ h => h) (Or.inr ⟨by rfl, rfl⟩) (by assumption) ?_)
  try simp only [Act.put, List.setIfInBounds_toArray, List.set_cons_zero, List.set_cons_succ]
  first | (refine wpAnyH_take (i := 32) (oi := ⟨some 180, _, _, _, _, _⟩) (v := ?_) rfl (by kernel_rfl) (by kernel_rfl) (by kernel_rfl) (fun _ _ _ h => h) (Or.inl ⟨by rfl, ?_⟩) (by assumption) ?_; rotate_left; focus (intro w hSw; (try dsimp only at hSw); go_simp; (try with_reducible rfl); done)) | (refine wpAnyH_take (i := 32) (oi := ⟨some 180, _, _, _, _, _⟩) (v := undef) rfl (by kernel_rfl) (by kernel_rfl) (by kernel_rfl) (fun _ _ _ h => h) (Or.inr ⟨by rfl, rfl⟩) (by assumption) ?_)
  try simp only [Act.put, List.setIfInBounds_toArray, List.set_cons_zero, List.set_cons_succ]
  first | (refine wpAnyH_take (i := 33) (oi := ⟨some 181, _, _, _, _, _⟩) (v := ?_) rfl (by kernel_rfl) (by kernel_rfl) (by kernel_rfl) (fun _ _ _ h => h) (Or.inl ⟨by rfl, ?_⟩) (by assumption) ?_; rotate_left; focus (intro w hSw; (try dsimp only at hSw); go_simp; (try with_reducible rfl); done)) | (refine wpAnyH_take (i := 33) (oi := ⟨some 181, _, _, _, _, _⟩) (v := undef) rfl (by kernel_rfl) (by kernel_rfl) (by kernel_rfl) (fun _ _ _ h => h) (Or.inr ⟨by rfl, rfl⟩) (by assumption) ?_)
  try simp only [Act.put, List.setIfInBounds_toArray, List.set_cons_zero, List.set_cons_succ]
  first | (refine wpAnyH_take (i := 34) (oi := ⟨some 182, _, _, _, _, _⟩) (v := ?_) rfl (by kernel_rfl) (by kernel_rfl) (by kernel_rfl) (fun _ _ _ h => h) (Or.inl ⟨by rfl, ?_⟩) (by assumption) ?_; rotate_left; focus (intro w hSw; (try dsimp only at hSw); go_simp; (try with_reducible rfl); done)) | (refine wpAnyH_take (i := 34) (oi := ⟨some 182, _, _, _, _, _⟩) (v := undef) rfl (by kernel_rfl) (by kernel_rfl) (by kernel_rfl) (fun _ _ _ h => h) (Or.inr ⟨by rfl, rfl⟩) (by assumption) ?_)
  try simp only [Act.put, List.setIfInBounds_toArray, List.set_cons_zero, List.set_cons_succ]
  first | (refine wpAnyH_take (i := 35) (oi := ⟨some 183, _, _, _, _, _⟩) (v := ?_) rfl (by kernel_rfl) (by kernel_rfl) (by kernel_rfl) (fun _ _ _ h => h) (Or.inl ⟨by rfl, ?_⟩) (by assumption) ?_; rotate_left; focus (intro w hSw; (try dsimp only at hSw); go_simp; (try with_reducible rfl); done)) | (refine wpAnyH_take (i := 35) (oi := ⟨some 183, _, _, _, _, _⟩) (v := undef) rfl (by kernel_rfl) (by kernel_rfl) (by kernel_rfl) (fun _ _ _ h => h) (Or.inr ⟨by rfl, rfl⟩) (by assumption) ?_)
  try simp only [Act.put, List.setIfInBounds_toArray, List.set_cons_zero, List.set_cons_succ]
  first | (refine wpAnyH_take (i := 38) (oi := ⟨some 186, _, _, _, _, _⟩) (v := ?_) rfl (by kernel_rfl) (by kernel_rfl) (by kernel_rfl) (fun _ _ _ h => h) (Or.inl ⟨by rfl, ?_⟩) (by assumption) ?_; rotate_left; focus (intro w hSw; (try dsimp only at hSw); go_simp; (try with_reducible rfl); done)) | (refine wpAnyH_take (i := 38) (oi := ⟨some 186, _, _, _, _, _⟩) (v := undef) rfl (by kernel_rfl) (by kernel_rfl) (by kernel_rfl) (fun _ _ _ h => h) (Or.inr ⟨by rfl, rfl⟩) (by assumption) ?_)
  try simp only [Act.put, List.setIfInBounds_toArray, List.set_cons_zero, List.set_cons_succ]
  first | (refine wpAnyH_take (i := 39) (oi := ⟨some 187, _, _, _, _, _⟩) (v := ?_) rfl (by kernel_rfl) (by kernel_rfl) (by kernel_rfl) (fun _ _ _ h => h) (Or.inl ⟨by rfl, ?_⟩) (by assumption) ?_; rotate_left; focus (intro w hSw; (try dsimp only at hSw); go_simp; (try with_reducible rfl); done)) | (refine wpAnyH_take (i := 39) (oi := ⟨some 187, _, _, _, _, _⟩) (v := undef) rfl (by kernel_rfl) (by kernel_rfl) (by kernel_rfl) (fun _ _ _ h => h) (Or.inr ⟨by rfl, rfl⟩) (by assumption) ?_)
  try simp only [Act.put, List.setIfInBounds_toArray, List.set_cons_zero, List.set_cons_succ]
  refine wpAnyH_ready (rs := [36]) (by kernel_rfl) (by simp) ?_
  refine AllReadyH.cons (o := ⟨some 184, _, _, _, _, _⟩) rfl (fun K hK => ?_) AllReadyH.nil
  go_simp
  (go_at_call 24; refine (CN.out _).mono ?_; rintro e w' ⟨rfl, hb'⟩)
  try go_wp2_with fail
  refine hK.out _ _ ?_ (fun hHeld' => ?_)
  · (try dsimp only); (first | (refine held12_drew ?_; assumption) | (refine held12 ?_ (by assumption); assumption))
  clear hK K hHeld
  have hHeld := hHeld'
  clear hHeld'
  try simp only [Act.put, List.setIfInBounds_toArray, List.set_cons_zero, List.set_cons_succ]
  first | (refine wpAnyH_take (i := 37) (oi := ⟨some 185, _, _, _, _, _⟩) (v := ?_) rfl (by kernel_rfl) (by kernel_rfl) (by kernel_rfl) (fun _ _ _ h => h) (Or.inl ⟨by rfl, ?_⟩) (by assumption) ?_; rotate_left; focus (intro w hSw; (try dsimp only at hSw); go_simp; (try with_reducible rfl); done)) | (refine wpAnyH_take (i := 37) (oi := ⟨some 185, _, _, _, _, _⟩) (v := undef) rfl (by kernel_rfl) (by kernel_rfl) (by kernel_rfl) (fun _ _ _ h => h) (Or.inr ⟨by rfl, rfl⟩) (by assumption) ?_)
  try simp only [Act.put, List.setIfInBounds_toArray, List.set_cons_zero, List.set_cons_succ]
  first | (refine wpAnyH_take (i := 40) (oi := ⟨some 188, _, _, _, _, _⟩) (v := ?_) rfl (by kernel_rfl) (by kernel_rfl) (by kernel_rfl) (fun _ _ _ h => h) (Or.inl ⟨by rfl, ?_⟩) (by assumption) ?_; rotate_left; focus (intro w hSw; (try dsimp only at hSw); go_simp; (try with_reducible rfl); done)) | (refine wpAnyH_take (i := 40) (oi := ⟨some 188, _, _, _, _, _⟩) (v := undef) rfl (by kernel_rfl) (by kernel_rfl) (by kernel_rfl) (fun _ _ _ h => h) (Or.inr ⟨by rfl, rfl⟩) (by assumption) ?_)
  try simp only [Act.put, List.setIfInBounds_toArray, List.set_cons_zero, List.set_cons_succ]
  first | (refine wpAnyH_take (i := 41) (oi := ⟨some 189, _, _, _, _, _⟩) (v := ?_) rfl (by kernel_rfl) (by kernel_rfl) (by kernel_rfl) (fun _ _ _ h => h) (Or.inl ⟨by rfl, ?_⟩) (by assumption) ?_; rotate_left; focus (intro w hSw; (try dsimp only at hSw); go_simp; (try with_reducible rfl); done)) | (refine wpAnyH_take (i := 41) (oi := ⟨some 189, _, _, _, _, _⟩) (v := undef) rfl (by kernel_rfl) (by kernel_rfl) (by kernel_rfl) (fun _ _ _ h => h) (Or.inr ⟨by rfl, rfl⟩) (by assumption) ?_)
  try simp only [Act.put, List.setIfInBounds_toArray, List.set_cons_zero, List.set_cons_succ]
  first | (refine wpAnyH_take (i := 42) (oi := ⟨some 2, _, _, _, _, _⟩) (v := ?_) rfl (by kernel_rfl) (by kernel_rfl) (by kernel_rfl) (fun _ _ _ h => h) (Or.inl ⟨by rfl, ?_⟩) (by assumption) ?_; rotate_left; focus (intro w hSw; (try dsimp only at hSw); go_simp; (try with_reducible rfl); done)) | (refine wpAnyH_take (i := 42) (oi := ⟨some 2, _, _, _, _, _⟩) (v := undef) rfl (by kernel_rfl) (by kernel_rfl) (by kernel_rfl) (fun _ _ _ h => h) (Or.inr ⟨by rfl, rfl⟩) (by assumption) ?_)
  try simp only [Act.put, List.setIfInBounds_toArray, List.set_cons_zero, List.set_cons_succ]
  refine wpAnyH_done (by kernel_rfl) ?_ _
  go_wp2
  go_ret
  exact ⟨rfl, held12_below (by assumption)⟩

end Go.Proofs.Ytpifpemlljeglaa
