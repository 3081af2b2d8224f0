/-
  Contracts of the program's entryAhead and takeEntry, and of FastUe and FastSym over them. Condition: the string is no longer than 1048576 bytes (the laws ask no more).
-/
import Derived.Test.YtgacldhpohnpaaaFastA
import Derived.Deep.RegionWith
namespace Go.Proofs.Ytgacldhpohnpaaa
open Go.RowKit
set_option linter.unusedVariables false

/-- The end of a call that answers two numbers out of its result's block. -/
theorem out2i {w w2 : World} {T : TypeId} {g : Nat} {u v : Value} (p q : Int) (h : w2.heap[g]? = some (.cells #[u, v] T (0, 0))) (hg : w.heap.size ≤ g) (hb : Below w.heap.size w w2) :
    ∃ w3, w3 = (w2.setCell ⟨g, 0, none⟩ (.int .i64 p)).setCell ⟨g, 1, none⟩ (.int .i64 q) ∧ w3.cell? ⟨g, 0, none⟩ = some (.int .i64 p) ∧ w3.cell? ⟨g, 1, none⟩ = some (.int .i64 q) ∧ Below w.heap.size w w3 :=
  ⟨_, rfl, (cells2 (block_set2 h _ _)).1, (cells2 (block_set2 h _ _)).2, below_set2 hb g hg _ _⟩
/-- Three boxes behind a call. -/
theorem boxes3_kept {w w' : World} {cs ds es : Array Value} {T U V : TypeId} (hb : Below (((w.alloc (.cells cs T)).alloc (.cells ds U)).alloc (.cells es V)).heap.size (((w.alloc (.cells cs T)).alloc (.cells ds U)).alloc (.cells es V)) w') :
    w'.heap[w.heap.size]? = some (.cells cs T (0, 0)) ∧ w'.heap[w.heap.size + 1]? = some (.cells ds U (0, 0)) ∧ w'.heap[w.heap.size + 1 + 1]? = some (.cells es V (0, 0)) := by
  have h1 : (((w.alloc (.cells cs T)).alloc (.cells ds U)).alloc (.cells es V)).heap[w.heap.size]? = some (.cells cs T (0, 0)) := by
    rw [Below.heap_alloc _ _ _ (by simp; omega), Below.heap_alloc _ _ _ (by simp)]; exact heap_alloc_new w _
  have h2 : (((w.alloc (.cells cs T)).alloc (.cells ds U)).alloc (.cells es V)).heap[w.heap.size + 1]? = some (.cells ds U (0, 0)) := by
    rw [Below.heap_alloc _ _ _ (by simp)]; have := heap_alloc_new (w.alloc (.cells cs T)) (.cells ds U); simpa using this
  have h3 : (((w.alloc (.cells cs T)).alloc (.cells ds U)).alloc (.cells es V)).heap[w.heap.size + 1 + 1]? = some (.cells es V (0, 0)) := by
    have := heap_alloc_new ((w.alloc (.cells cs T)).alloc (.cells ds U)) (.cells es V); simpa using this
  exact ⟨cell_kept h1 hb, cell_kept h2 hb, cell_kept h3 hb⟩

/-- What is answered where an entry says a length and a value. -/
def takeR (s : ByteArray) (a P S : Nat) (n : Int) : Value := if a + S ≤ 8 * s.size then .tuple #[cw s (a + S) ((a + S + 7) / 8), .int .i64 n, .int .i64 0] else .tuple #[cw s a P, .int .i64 0, .int .i64 1]

theorem cell_drew_below {w w' : World} {p : Addr} {v : Value} (h : w.cell? p = some v) (hb : Below w.drew.heap.size w.drew w') : w'.cell? p = some v := by
  have h2 : w.drew.cell? p = some v := h
  rw [hb.cell (World.block_lt_of_cell? _ _ h2)]
  exact h2

set_option maxRecDepth 100000 in
set_option maxHeartbeats 1000000 in
theorem take_in (s : ByteArray) (p wd hh : Int) (z n : Int) (ok : Bool) (sp sw sh fp fw fh : Int)
    (HK : Hid (∀ w, Calls Try.prog 102 #[.agg #[.string s, .int .i64 p, .int .i64 wd, .int .i64 hh], .int .i64 z] w fun e w' => e = .returned (.tuple #[.agg #[.string s, .int .i64 sp, .int .i64 sw, .int .i64 sh], .bool ok]) ∧ Below w.heap.size w w'))
    (HT : Hid (ok = true → ∀ w, Calls Try.prog 103 #[.agg #[.string s, .int .i64 sp, .int .i64 sw, .int .i64 sh]] w fun e w' => e = .returned (.agg #[.string s, .int .i64 fp, .int .i64 fw, .int .i64 fh]) ∧ Below w.heap.size w w')) (w : World) :
    Calls Try.prog 68 #[.agg #[.string s, .int .i64 p, .int .i64 wd, .int .i64 hh], .agg #[.int .i64 z, .int .i64 n]] w fun e w' => e = .returned (if ok then .tuple #[.agg #[.string s, .int .i64 fp, .int .i64 fw, .int .i64 fh], .int .i64 n, .int .i64 0] else .tuple #[.agg #[.string s, .int .i64 p, .int .i64 wd, .int .i64 hh], .int .i64 0, .int .i64 1]) ∧ Below w.heap.size w w' := by
  go_enter Try.func68, Try.ntmps68
  go_wp2_with fail
  refine (HK.out _).mono ?_
  rintro e w1 ⟨rfl, hb1⟩
  obtain ⟨k0, k1, k2⟩ := boxes3_kept hb1
  have B1 := Lib.hid (below_step (((below_new w _).alloc (below_new w _).size _).alloc ((below_new w _).alloc (below_new w _).size _).size _) hb1)
  have K0 := Lib.hid k0; have K1 := Lib.hid k1; have K2 := Lib.hid k2
  clear hb1 k0 k1 k2
  cases ok with
  | false =>
    obtain ⟨c0, c1, c2, c3⟩ := cells4 K0.out
    obtain ⟨d0, d1, d2, d3⟩ := cells4 K2.out
    obtain ⟨f0, f1, f2, f3⟩ := frozen4 K2.out
    have l0 := heap_lt K0.out; have l2 := heap_lt K2.out
    have HB3 : Hid (Below w.heap.size w (((((w1.setCell ⟨w.heap.size + 1 + 1, 0, none⟩ (.string s)).setCell ⟨w.heap.size + 1 + 1, 1, none⟩ (.int .i64 p)).setCell ⟨w.heap.size + 1 + 1, 2, none⟩ (.int .i64 wd)).setCell ⟨w.heap.size + 1 + 1, 3, none⟩ (.int .i64 hh)).alloc (.cells #[.string s, .int .i64 sp, .int .i64 sw, .int .i64 sh] 25))) := Lib.hid ((put4_below B1.out _ (by omega) s p wd hh).alloc (put4_below B1.out _ (by omega) s p wd hh).size _)
    obtain ⟨e0, e1, e2, e3⟩ := cells4 (heap_keep (put4_block K2.out s p wd hh) (.cells #[.string s, .int .i64 sp, .int .i64 sw, .int .i64 sh] 25))
    obtain ⟨w3, hw3⟩ : ∃ w3, w3 = ((((w1.setCell ⟨w.heap.size + 1 + 1, 0, none⟩ (.string s)).setCell ⟨w.heap.size + 1 + 1, 1, none⟩ (.int .i64 p)).setCell ⟨w.heap.size + 1 + 1, 2, none⟩ (.int .i64 wd)).setCell ⟨w.heap.size + 1 + 1, 3, none⟩ (.int .i64 hh)).alloc (.cells #[.string s, .int .i64 sp, .int .i64 sw, .int .i64 sh] 25) := ⟨_, rfl⟩
    unfold put4 at e0 e1 e2 e3
    rw [← hw3] at e0 e1 e2 e3 HB3
    have HW := Lib.hid hw3
    have E0 := Lib.hid e0; have E1 := Lib.hid e1; have E2 := Lib.hid e2; have E3 := Lib.hid e3
    clear e0 e1 e2 e3 hw3
    go_wp2
    rw [← HW.out]
    have e0 := E0.out; have e1 := E1.out; have e2 := E2.out; have e3 := E3.out
    exact bodyPost_ret (v := .tuple #[.agg #[.string s, .int .i64 p, .int .i64 wd, .int .i64 hh], .int .i64 0, .int .i64 1]) (by simp [results, Try.results68, go_sem, e0, e1, e2, e3]) rfl ⟨rfl, HB3.out⟩
  | true =>
    have HT1 := Lib.hid (HT.out rfl)
    have k2 := heap_keep K2.out (.cells #[.string s, .int .i64 sp, .int .i64 sw, .int .i64 sh] 25)
    have k1 := heap_keep K1.out (.cells #[.string s, .int .i64 sp, .int .i64 sw, .int .i64 sh] 25)
    have K2b := Lib.hid k2; have K1b := Lib.hid k1
    have B2 := Lib.hid (B1.out.alloc B1.out.size (.cells #[.string s, .int .i64 sp, .int .i64 sw, .int .i64 sh] 25))
    clear k1 k2
    have ct := (cells2 K1b.out).2
    have CTW := Lib.hid ct
    have ct1 := (cells2 K1.out).2
    have l1 := heap_lt K1.out; have l2 := heap_lt K2.out
    go_wp2_with fail
    go_region_with (go_at_call 103; with_reducible refine (HT1.out _).mono ?_; rintro e w5 ⟨rfl, hb5⟩; have K5 := Lib.hid (cell_kept (w := World.drew (w1.alloc (.cells #[.string s, .int .i64 sp, .int .i64 sw, .int .i64 sh] 25))) K2b.out hb5); have B5 := Lib.hid (below_up B2.out.drew hb5 B2.out.drew.size); have ct5 := cell_drew_below CTW.out hb5; obtain ⟨d0, d1, d2, d3⟩ := cells4 K5.out; obtain ⟨f0, f1, f2, f3⟩ := frozen4 K5.out; clear hb5)
    all_goals
      obtain ⟨w3, hw3, e0, e1, e2, e3, hb3⟩ := out4 s fp fw fh K5.out (by omega) B5.out
      have HW := Lib.hid hw3; have HB3 := Lib.hid hb3; have E0 := Lib.hid e0; have E1 := Lib.hid e1; have E2 := Lib.hid e2; have E3 := Lib.hid e3
      clear hw3 hb3 e0 e1 e2 e3
      go_wp2
      rw [← HW.out]
      have e0 := E0.out; have e1 := E1.out; have e2 := E2.out; have e3 := E3.out
      exact bodyPost_ret (v := .tuple #[.agg #[.string s, .int .i64 fp, .int .i64 fw, .int .i64 fh], .int .i64 n, .int .i64 0]) (by simp [results, Try.results68, go_sem, e0, e1, e2, e3]) rfl ⟨rfl, HB3.out⟩

theorem take_any (s : ByteArray) (a P S : Nat) (n : Int) (hs : s.size ≤ 1048576) (hA : At s a P) (hS : S ≤ 16) (w : World) :
    Calls Try.prog 68 #[cw s a P, .agg #[.int .i64 S, .int .i64 n]] w fun e w' => e = .returned (takeR s a P S n) ∧ Below w.heap.size w w' := by
  have hK := impl_skip_in s a P S hs hA hS
  have hA2 := (pkP_at s a P S hA).2
  have hhas := pkP_has s a P S hA hS
  obtain ⟨Q, hQ⟩ : ∃ Q, Q = pkP s a P S := ⟨_, rfl⟩
  rw [← hQ] at hK hA2 hhas
  unfold takeR
  by_cases hin : a + S ≤ 8 * s.size
  · have hin2 := hhas.2 hin
    have hA3 : At s (a + S) Q := by obtain ⟨b1, b2, b3⟩ := hA2; exact ⟨b1, by omega, by omega⟩
    have e1 : skR s a Q S = .tuple #[cw s (a + S) Q, .bool true] := by
      rw [skR, if_pos hin2, decide_eq_true hin2]
    rw [if_pos hin]
    have h := take_in s _ _ _ (S : Int) n true _ _ _ _ _ _ (Lib.hid (fun w => by have h := hK w; rw [e1] at h; exact h)) (Lib.hid (fun _ w => impl_settle_in s (a + S) Q hs hA3 w)) w
    rw [if_pos rfl] at h
    exact h
  · have hin2 : ¬ S ≤ 8 * Q - a := fun h => hin (hhas.1 h)
    have e1 : skR s a Q S = .tuple #[cw s a Q, .bool false] := by
      rw [skR, if_neg hin2, decide_eq_false hin2]
    rw [if_neg hin]
    have h := take_in s _ _ _ (S : Int) n false _ _ _ 0 0 0 (Lib.hid (fun w => by have h := hK w; rw [e1] at h; exact h)) (Lib.hid (fun h => by cases h)) w
    rw [if_neg (by decide)] at h
    exact h

set_option maxRecDepth 100000 in
set_option maxHeartbeats 1000000 in
theorem ahead_no9 (s : ByteArray) (p wd hh : Int) (A : Option Addr) (len ca : Nat) (hl : len ≠ 512) (w : World) :
    Calls Try.prog 66 #[.agg #[.string s, .int .i64 p, .int .i64 wd, .int .i64 hh], .slice A len ca, .int .i64 9] w fun e w' => e = .returned (.tuple #[.agg #[.int .i64 0, .int .i64 0], .bool false]) ∧ Below w.heap.size w w' := by
  have hq : ((len : Int) != 512) = true := by rw [bne_iff_ne]; omega
  obtain ⟨k0, k1⟩ := boxes_kept (w := w) (cs := #[.string s, .int .i64 p, .int .i64 wd, .int .i64 hh]) (T := 25) (ds := #[.int .i64 0, .int .i64 0]) (U := 45) (Below.refl _ _)
  obtain ⟨d0, d1⟩ := cells2 k1
  have f := frozen2 k1
  obtain ⟨f0, f1⟩ := f
  obtain ⟨w3, hw3⟩ : ∃ w3, w3 = (w.alloc (.cells #[.string s, .int .i64 p, .int .i64 wd, .int .i64 hh] 25)).alloc (.cells #[.int .i64 0, .int .i64 0] 45) := ⟨_, rfl⟩
  have hb3 : Below w.heap.size w w3 := by rw [hw3]; exact (below_new w _).alloc (below_new w _).size _
  have e0 := d0; have e1 := d1
  rw [← hw3] at e0 e1
  have HW := Lib.hid hw3; have HB3 := Lib.hid hb3; have E0 := Lib.hid e0; have E1 := Lib.hid e1
  clear hw3 hb3 e0 e1 k0 k1 hl
  go_enter Try.func66, Try.ntmps66
  go_wp2
  rw [← HW.out]
  have e0 := E0.out; have e1 := E1.out
  exact bodyPost_ret (v := .tuple #[.agg #[.int .i64 0, .int .i64 0], .bool false]) (by simp [results, Try.results66, go_sem, e0, e1]) rfl ⟨rfl, HB3.out⟩

set_option maxRecDepth 100000 in
set_option maxHeartbeats 1000000 in
theorem ahead_in9 (s : ByteArray) (p wd hh q1 q2 q3 : Int) (x : Nat) (hx : x < 512) (HP : Hid (∀ w, Calls Try.prog 99 #[.agg #[.string s, .int .i64 p, .int .i64 wd, .int .i64 hh], .int .i64 9] w fun e w' => e = .returned (.tuple #[.agg #[.string s, .int .i64 q1, .int .i64 q2, .int .i64 q3], .int .i64 x]) ∧ Below w.heap.size w w'))
    (A : Option Addr) (ca : Nat) (l : EntL) (hl : l.length = 512) (w : World) (hE : Ents w w.heap.size A l) :
    Calls Try.prog 66 #[.agg #[.string s, .int .i64 p, .int .i64 wd, .int .i64 hh], .slice A 512 ca, .int .i64 9] w fun e w' => e = .returned (.tuple #[.agg #[.int .i64 (entAt l x).1, .int .i64 (entAt l x).2], .bool (decide (1 ≤ (entAt l x).1) && decide ((entAt l x).1 ≤ 9))]) ∧ Below w.heap.size w w' := by
  obtain ⟨b, off, rfl, hb, hct⟩ := hE.at x (by omega)
  obtain ⟨ct0, ct1⟩ := hct x (by omega)
  obtain ⟨z, n, hzn⟩ : ∃ z n, entAt l x = (z, n) := ⟨_, _, rfl⟩
  rw [hzn] at ct0 ct1
  rw [hzn]
  have CT0 := Lib.hid ct0; have CT1 := Lib.hid ct1
  clear hct ct0 ct1 hE hl hzn
  have hc : decide (1 ≤ z) = false ∨ decide (1 ≤ z) = true := by cases decide (1 ≤ z) <;> simp
  show Calls _ _ _ _ fun e w' => e = .returned (.tuple #[.agg #[.int .i64 z, .int .i64 n], .bool (decide (1 ≤ z) && decide (z ≤ 9))]) ∧ Below w.heap.size w w'
  rcases hc with hz | hz
  all_goals
    rw [hz]
    go_enter Try.func66, Try.ntmps66
    go_wp2_with fail
    refine (HP.out _).mono ?_
    rintro e w1 ⟨rfl, hb1⟩
    obtain ⟨k0, k1⟩ := boxes_kept hb1
    have B1 := Lib.hid (below_step ((below_new w _).alloc (below_new w _).size _) hb1)
    have c0 : w1.cell? ⟨b, off + x * 2, none⟩ = some (.int .i64 z) := by rw [B1.out.cell (p := ⟨b, off + x * 2, none⟩) hb]; exact CT0.out
    have c1 : w1.cell? ⟨b, off + x * 2 + 1, none⟩ = some (.int .i64 n) := by rw [B1.out.cell (p := ⟨b, off + x * 2 + 1, none⟩) hb]; exact CT1.out
    have lb : b < w1.heap.size := Nat.lt_of_lt_of_le hb B1.out.size
    have l1 := heap_lt k1
    obtain ⟨d0, d1⟩ := cells2 k1
    obtain ⟨f0, f1⟩ := frozen2 k1
    obtain ⟨w3, hw3⟩ : ∃ w3, w3 = World.drew (((w1.setCell ⟨w.heap.size + 1, 0, none⟩ (.int .i64 z)).setCell ⟨w.heap.size + 1, 1, none⟩ (.int .i64 n)).alloc (.cells #[.string s, .int .i64 q1, .int .i64 q2, .int .i64 q3] 25)) := ⟨_, rfl⟩
    have hb3 : Below w.heap.size w w3 := by rw [hw3]; exact ((below_set2 B1.out (w.heap.size + 1) (by omega) _ _).alloc (below_set2 B1.out (w.heap.size + 1) (by omega) _ _).size _).drew
    obtain ⟨e0, e1⟩ : w3.cell? ⟨w.heap.size + 1, 0, none⟩ = some (.int .i64 z) ∧ w3.cell? ⟨w.heap.size + 1, 1, none⟩ = some (.int .i64 n) := by rw [hw3]; exact cells2 (heap_keep (block_set2 k1 _ _) _)
    have HW := Lib.hid hw3; have HB3 := Lib.hid hb3; have E0 := Lib.hid e0; have E1 := Lib.hid e1
    clear hw3 hb3 e0 e1 hb1 k0 k1
    go_wp2
    go_region
    go_wp2
    rw [← HW.out]
    have e0 := E0.out; have e1 := E1.out
    exact bodyPost_ret (v := .tuple #[.agg #[.int .i64 z, .int .i64 n], .bool _]) (by simp [results, Try.results66, go_sem, e0, e1]; rfl) rfl ⟨by rfl, HB3.out⟩

set_option maxRecDepth 100000 in
set_option maxHeartbeats 1000000 in
theorem ahead_no7 (s : ByteArray) (p wd hh : Int) (A : Option Addr) (len ca : Nat) (hl : len ≠ 128) (w : World) :
    Calls Try.prog 66 #[.agg #[.string s, .int .i64 p, .int .i64 wd, .int .i64 hh], .slice A len ca, .int .i64 7] w fun e w' => e = .returned (.tuple #[.agg #[.int .i64 0, .int .i64 0], .bool false]) ∧ Below w.heap.size w w' := by
  have hq : ((len : Int) != 128) = true := by rw [bne_iff_ne]; omega
  obtain ⟨k0, k1⟩ := boxes_kept (w := w) (cs := #[.string s, .int .i64 p, .int .i64 wd, .int .i64 hh]) (T := 25) (ds := #[.int .i64 0, .int .i64 0]) (U := 45) (Below.refl _ _)
  obtain ⟨d0, d1⟩ := cells2 k1
  have f := frozen2 k1
  obtain ⟨f0, f1⟩ := f
  obtain ⟨w3, hw3⟩ : ∃ w3, w3 = (w.alloc (.cells #[.string s, .int .i64 p, .int .i64 wd, .int .i64 hh] 25)).alloc (.cells #[.int .i64 0, .int .i64 0] 45) := ⟨_, rfl⟩
  have hb3 : Below w.heap.size w w3 := by rw [hw3]; exact (below_new w _).alloc (below_new w _).size _
  have e0 := d0; have e1 := d1
  rw [← hw3] at e0 e1
  have HW := Lib.hid hw3; have HB3 := Lib.hid hb3; have E0 := Lib.hid e0; have E1 := Lib.hid e1
  clear hw3 hb3 e0 e1 k0 k1 hl
  go_enter Try.func66, Try.ntmps66
  go_wp2
  rw [← HW.out]
  have e0 := E0.out; have e1 := E1.out
  exact bodyPost_ret (v := .tuple #[.agg #[.int .i64 0, .int .i64 0], .bool false]) (by simp [results, Try.results66, go_sem, e0, e1]) rfl ⟨rfl, HB3.out⟩

set_option maxRecDepth 100000 in
set_option maxHeartbeats 1000000 in
theorem ahead_in7 (s : ByteArray) (p wd hh q1 q2 q3 : Int) (x : Nat) (hx : x < 128) (HP : Hid (∀ w, Calls Try.prog 99 #[.agg #[.string s, .int .i64 p, .int .i64 wd, .int .i64 hh], .int .i64 7] w fun e w' => e = .returned (.tuple #[.agg #[.string s, .int .i64 q1, .int .i64 q2, .int .i64 q3], .int .i64 x]) ∧ Below w.heap.size w w'))
    (A : Option Addr) (ca : Nat) (l : EntL) (hl : l.length = 128) (w : World) (hE : Ents w w.heap.size A l) :
    Calls Try.prog 66 #[.agg #[.string s, .int .i64 p, .int .i64 wd, .int .i64 hh], .slice A 128 ca, .int .i64 7] w fun e w' => e = .returned (.tuple #[.agg #[.int .i64 (entAt l x).1, .int .i64 (entAt l x).2], .bool (decide (1 ≤ (entAt l x).1) && decide ((entAt l x).1 ≤ 7))]) ∧ Below w.heap.size w w' := by
  obtain ⟨b, off, rfl, hb, hct⟩ := hE.at x (by omega)
  obtain ⟨ct0, ct1⟩ := hct x (by omega)
  obtain ⟨z, n, hzn⟩ : ∃ z n, entAt l x = (z, n) := ⟨_, _, rfl⟩
  rw [hzn] at ct0 ct1
  rw [hzn]
  have CT0 := Lib.hid ct0; have CT1 := Lib.hid ct1
  clear hct ct0 ct1 hE hl hzn
  have hc : decide (1 ≤ z) = false ∨ decide (1 ≤ z) = true := by cases decide (1 ≤ z) <;> simp
  show Calls _ _ _ _ fun e w' => e = .returned (.tuple #[.agg #[.int .i64 z, .int .i64 n], .bool (decide (1 ≤ z) && decide (z ≤ 7))]) ∧ Below w.heap.size w w'
  rcases hc with hz | hz
  all_goals
    rw [hz]
    go_enter Try.func66, Try.ntmps66
    go_wp2_with fail
    refine (HP.out _).mono ?_
    rintro e w1 ⟨rfl, hb1⟩
    obtain ⟨k0, k1⟩ := boxes_kept hb1
    have B1 := Lib.hid (below_step ((below_new w _).alloc (below_new w _).size _) hb1)
    have c0 : w1.cell? ⟨b, off + x * 2, none⟩ = some (.int .i64 z) := by rw [B1.out.cell (p := ⟨b, off + x * 2, none⟩) hb]; exact CT0.out
    have c1 : w1.cell? ⟨b, off + x * 2 + 1, none⟩ = some (.int .i64 n) := by rw [B1.out.cell (p := ⟨b, off + x * 2 + 1, none⟩) hb]; exact CT1.out
    have lb : b < w1.heap.size := Nat.lt_of_lt_of_le hb B1.out.size
    have l1 := heap_lt k1
    obtain ⟨d0, d1⟩ := cells2 k1
    obtain ⟨f0, f1⟩ := frozen2 k1
    obtain ⟨w3, hw3⟩ : ∃ w3, w3 = World.drew (((w1.setCell ⟨w.heap.size + 1, 0, none⟩ (.int .i64 z)).setCell ⟨w.heap.size + 1, 1, none⟩ (.int .i64 n)).alloc (.cells #[.string s, .int .i64 q1, .int .i64 q2, .int .i64 q3] 25)) := ⟨_, rfl⟩
    have hb3 : Below w.heap.size w w3 := by rw [hw3]; exact ((below_set2 B1.out (w.heap.size + 1) (by omega) _ _).alloc (below_set2 B1.out (w.heap.size + 1) (by omega) _ _).size _).drew
    obtain ⟨e0, e1⟩ : w3.cell? ⟨w.heap.size + 1, 0, none⟩ = some (.int .i64 z) ∧ w3.cell? ⟨w.heap.size + 1, 1, none⟩ = some (.int .i64 n) := by rw [hw3]; exact cells2 (heap_keep (block_set2 k1 _ _) _)
    have HW := Lib.hid hw3; have HB3 := Lib.hid hb3; have E0 := Lib.hid e0; have E1 := Lib.hid e1
    clear hw3 hb3 e0 e1 hb1 k0 k1
    go_wp2
    go_region
    go_wp2
    rw [← HW.out]
    have e0 := E0.out; have e1 := E1.out
    exact bodyPost_ret (v := .tuple #[.agg #[.int .i64 z, .int .i64 n], .bool _]) (by simp [results, Try.results66, go_sem, e0, e1]; rfl) rfl ⟨by rfl, HB3.out⟩

set_option maxRecDepth 100000 in
set_option maxHeartbeats 1000000 in
theorem impl_ue_out (s : ByteArray) (p wd hh : Int) (A : Option Addr) (len ca : Nat) (HO : Hid (∀ w, Calls Try.prog 65 #[.agg #[.string s, .int .i64 p, .int .i64 wd, .int .i64 hh]] w fun e w' => e = .returned (.bool false) ∧ Below w.heap.size w w')) (w : World) :
    Calls Try.prog 15 #[.agg #[.string s, .int .i64 p, .int .i64 wd, .int .i64 hh], .slice A len ca] w fun e w' => e = .returned (.tuple #[.agg #[.string s, .int .i64 p, .int .i64 wd, .int .i64 hh], .int .i64 0, .int .i64 1]) ∧ Below w.heap.size w w' := by
  go_enter Try.func15, Try.ntmps15
  go_wp2_with fail
  refine (HO.out _).mono ?_
  rintro e w1 ⟨rfl, hb1⟩
  obtain ⟨k0, k1⟩ := boxes_kept hb1
  obtain ⟨c0, c1, c2, c3⟩ := cells4 k0
  obtain ⟨d0, d1, d2, d3⟩ := cells4 k1
  obtain ⟨g0, g1, g2, g3⟩ := frozen4 k1
  obtain ⟨w4, hw4, e0, e1, e2, e3, hb4⟩ := out4 s p wd hh k1 (Nat.le_succ _) (below_step ((below_new w _).alloc (below_new w _).size _) hb1)
  clear hb1 k0 k1
  have HW := Lib.hid hw4; have HB := Lib.hid hb4; have E0 := Lib.hid e0; have E1 := Lib.hid e1; have E2 := Lib.hid e2; have E3 := Lib.hid e3
  clear hw4 hb4 e0 e1 e2 e3
  go_wp2
  rw [← HW.out]
  have e0 := E0.out; have e1 := E1.out; have e2 := E2.out; have e3 := E3.out
  exact bodyPost_ret (v := .tuple #[.agg #[.string s, .int .i64 p, .int .i64 wd, .int .i64 hh], .int .i64 0, .int .i64 1]) (by simp [results, Try.results15, go_sem, e0, e1, e2, e3]) rfl ⟨rfl, HB.out⟩
set_option maxRecDepth 100000 in
set_option maxHeartbeats 1000000 in
theorem impl_ue_take (s : ByteArray) (p wd hh z n fp fw fh fn fe : Int) (A : Option Addr) (ca : Nat) (l : EntL) (HO : Hid (∀ w, Calls Try.prog 65 #[.agg #[.string s, .int .i64 p, .int .i64 wd, .int .i64 hh]] w fun e w' => e = .returned (.bool true) ∧ Below w.heap.size w w')) (HA : Hid (∀ w, Ents w w.heap.size A l → Calls Try.prog 66 #[.agg #[.string s, .int .i64 p, .int .i64 wd, .int .i64 hh], .slice A l.length ca, .int .i64 9] w fun e w' => e = .returned (.tuple #[.agg #[.int .i64 z, .int .i64 n], .bool true]) ∧ Below w.heap.size w w')) (HR : Hid (∀ w, Calls Try.prog 68 #[.agg #[.string s, .int .i64 p, .int .i64 wd, .int .i64 hh], .agg #[.int .i64 z, .int .i64 n]] w fun e w' => e = .returned (.tuple #[.agg #[.string s, .int .i64 fp, .int .i64 fw, .int .i64 fh], .int .i64 fn, .int .i64 fe]) ∧ Below w.heap.size w w')) (w : World) (hE : Ents w w.heap.size A l) :
    Calls Try.prog 15 #[.agg #[.string s, .int .i64 p, .int .i64 wd, .int .i64 hh], .slice A l.length ca] w fun e w' => e = .returned (.tuple #[.agg #[.string s, .int .i64 fp, .int .i64 fw, .int .i64 fh], .int .i64 fn, .int .i64 fe]) ∧ Below w.heap.size w w' := by
  go_enter Try.func15, Try.ntmps15
  go_wp2_with fail
  refine (HO.out _).mono ?_
  rintro e w1 ⟨rfl, hb1⟩
  obtain ⟨k0, k1⟩ := boxes_kept hb1
  obtain ⟨c0, c1, c2, c3⟩ := cells4 k0
  have K0 := Lib.hid k0; have K1 := Lib.hid k1
  have B1 := Lib.hid (below_step ((below_new w _).alloc (below_new w _).size _) hb1)
  have E1 := Lib.hid ((hE.below B1.out (Nat.le_refl _)).mono B1.out.size)
  clear hb1 k0 k1 hE
  go_wp2_with fail
  refine (HA.out _ E1.out).mono ?_
  rintro e w2 ⟨rfl, hb2⟩
  have k0 := cell_kept K0.out hb2
  have k1 := cell_kept K1.out hb2
  have B2 := Lib.hid (below_up B1.out hb2 B1.out.size)
  clear c0 c1 c2 c3 hb2 E1
  obtain ⟨c0, c1, c2, c3⟩ := cells4 k0
  have l0 := heap_lt k0
  have l1 := heap_lt k1
  have k1b := heap_keep k1 (.cells #[.int .i64 z, .int .i64 n] 45)
  have K1b := Lib.hid k1b
  have B3 := Lib.hid (B2.out.alloc B2.out.size (.cells #[.int .i64 z, .int .i64 n] 45))
  clear k0 k1 k1b
  go_wp2_with fail
  refine (HR.out _).mono ?_
  rintro e w3 ⟨rfl, hb3⟩
  have k1 := cell_kept K1b.out hb3
  obtain ⟨d0, d1, d2, d3⟩ := cells4 k1
  obtain ⟨g0, g1, g2, g3⟩ := frozen4 k1
  obtain ⟨w4, hw4, e0, e1, e2, e3, hb4⟩ := out4 s fp fw fh k1 (Nat.le_succ _) (below_up B3.out hb3 B3.out.size)
  clear hb3 k1
  have HW := Lib.hid hw4; have HB := Lib.hid hb4; have E0 := Lib.hid e0; have E1 := Lib.hid e1; have E2 := Lib.hid e2; have E3 := Lib.hid e3
  clear hw4 hb4 e0 e1 e2 e3
  go_wp2
  rw [← HW.out]
  have e0 := E0.out; have e1 := E1.out; have e2 := E2.out; have e3 := E3.out
  exact bodyPost_ret (v := .tuple #[.agg #[.string s, .int .i64 fp, .int .i64 fw, .int .i64 fh], .int .i64 fn, .int .i64 fe]) (by simp [results, Try.results15, go_sem, e0, e1, e2, e3]) rfl ⟨rfl, HB.out⟩
set_option maxRecDepth 100000 in
set_option maxHeartbeats 1000000 in
theorem impl_sym_out (s : ByteArray) (p wd hh : Int) (A : Option Addr) (len ca : Nat) (HO : Hid (∀ w, Calls Try.prog 65 #[.agg #[.string s, .int .i64 p, .int .i64 wd, .int .i64 hh]] w fun e w' => e = .returned (.bool false) ∧ Below w.heap.size w w')) (w : World) :
    Calls Try.prog 38 #[.agg #[.string s, .int .i64 p, .int .i64 wd, .int .i64 hh], .slice A len ca] w fun e w' => e = .returned (.tuple #[.agg #[.string s, .int .i64 p, .int .i64 wd, .int .i64 hh], .int .i64 0, .int .i64 1]) ∧ Below w.heap.size w w' := by
  go_enter Try.func38, Try.ntmps38
  go_wp2_with fail
  refine (HO.out _).mono ?_
  rintro e w1 ⟨rfl, hb1⟩
  obtain ⟨k0, k1⟩ := boxes_kept hb1
  obtain ⟨c0, c1, c2, c3⟩ := cells4 k0
  obtain ⟨d0, d1, d2, d3⟩ := cells4 k1
  obtain ⟨g0, g1, g2, g3⟩ := frozen4 k1
  obtain ⟨w4, hw4, e0, e1, e2, e3, hb4⟩ := out4 s p wd hh k1 (Nat.le_succ _) (below_step ((below_new w _).alloc (below_new w _).size _) hb1)
  clear hb1 k0 k1
  have HW := Lib.hid hw4; have HB := Lib.hid hb4; have E0 := Lib.hid e0; have E1 := Lib.hid e1; have E2 := Lib.hid e2; have E3 := Lib.hid e3
  clear hw4 hb4 e0 e1 e2 e3
  go_wp2
  rw [← HW.out]
  have e0 := E0.out; have e1 := E1.out; have e2 := E2.out; have e3 := E3.out
  exact bodyPost_ret (v := .tuple #[.agg #[.string s, .int .i64 p, .int .i64 wd, .int .i64 hh], .int .i64 0, .int .i64 1]) (by simp [results, Try.results38, go_sem, e0, e1, e2, e3]) rfl ⟨rfl, HB.out⟩
set_option maxRecDepth 100000 in
set_option maxHeartbeats 1000000 in
theorem impl_sym_take (s : ByteArray) (p wd hh z n fp fw fh fn fe : Int) (A : Option Addr) (ca : Nat) (l : EntL) (HO : Hid (∀ w, Calls Try.prog 65 #[.agg #[.string s, .int .i64 p, .int .i64 wd, .int .i64 hh]] w fun e w' => e = .returned (.bool true) ∧ Below w.heap.size w w')) (HA : Hid (∀ w, Ents w w.heap.size A l → Calls Try.prog 66 #[.agg #[.string s, .int .i64 p, .int .i64 wd, .int .i64 hh], .slice A l.length ca, .int .i64 7] w fun e w' => e = .returned (.tuple #[.agg #[.int .i64 z, .int .i64 n], .bool true]) ∧ Below w.heap.size w w')) (HR : Hid (∀ w, Calls Try.prog 68 #[.agg #[.string s, .int .i64 p, .int .i64 wd, .int .i64 hh], .agg #[.int .i64 z, .int .i64 n]] w fun e w' => e = .returned (.tuple #[.agg #[.string s, .int .i64 fp, .int .i64 fw, .int .i64 fh], .int .i64 fn, .int .i64 fe]) ∧ Below w.heap.size w w')) (w : World) (hE : Ents w w.heap.size A l) :
    Calls Try.prog 38 #[.agg #[.string s, .int .i64 p, .int .i64 wd, .int .i64 hh], .slice A l.length ca] w fun e w' => e = .returned (.tuple #[.agg #[.string s, .int .i64 fp, .int .i64 fw, .int .i64 fh], .int .i64 fn, .int .i64 fe]) ∧ Below w.heap.size w w' := by
  go_enter Try.func38, Try.ntmps38
  go_wp2_with fail
  refine (HO.out _).mono ?_
  rintro e w1 ⟨rfl, hb1⟩
  obtain ⟨k0, k1⟩ := boxes_kept hb1
  obtain ⟨c0, c1, c2, c3⟩ := cells4 k0
  have K0 := Lib.hid k0; have K1 := Lib.hid k1
  have B1 := Lib.hid (below_step ((below_new w _).alloc (below_new w _).size _) hb1)
  have E1 := Lib.hid ((hE.below B1.out (Nat.le_refl _)).mono B1.out.size)
  clear hb1 k0 k1 hE
  go_wp2_with fail
  refine (HA.out _ E1.out).mono ?_
  rintro e w2 ⟨rfl, hb2⟩
  have k0 := cell_kept K0.out hb2
  have k1 := cell_kept K1.out hb2
  have B2 := Lib.hid (below_up B1.out hb2 B1.out.size)
  clear c0 c1 c2 c3 hb2 E1
  obtain ⟨c0, c1, c2, c3⟩ := cells4 k0
  have l0 := heap_lt k0
  have l1 := heap_lt k1
  have k1b := heap_keep k1 (.cells #[.int .i64 z, .int .i64 n] 45)
  have K1b := Lib.hid k1b
  have B3 := Lib.hid (B2.out.alloc B2.out.size (.cells #[.int .i64 z, .int .i64 n] 45))
  clear k0 k1 k1b
  go_wp2_with fail
  refine (HR.out _).mono ?_
  rintro e w3 ⟨rfl, hb3⟩
  have k1 := cell_kept K1b.out hb3
  obtain ⟨d0, d1, d2, d3⟩ := cells4 k1
  obtain ⟨g0, g1, g2, g3⟩ := frozen4 k1
  obtain ⟨w4, hw4, e0, e1, e2, e3, hb4⟩ := out4 s fp fw fh k1 (Nat.le_succ _) (below_up B3.out hb3 B3.out.size)
  clear hb3 k1
  have HW := Lib.hid hw4; have HB := Lib.hid hb4; have E0 := Lib.hid e0; have E1 := Lib.hid e1; have E2 := Lib.hid e2; have E3 := Lib.hid e3
  clear hw4 hb4 e0 e1 e2 e3
  go_wp2
  rw [← HW.out]
  have e0 := E0.out; have e1 := E1.out; have e2 := E2.out; have e3 := E3.out
  exact bodyPost_ret (v := .tuple #[.agg #[.string s, .int .i64 fp, .int .i64 fw, .int .i64 fh], .int .i64 fn, .int .i64 fe]) (by simp [results, Try.results38, go_sem, e0, e1, e2, e3]) rfl ⟨rfl, HB.out⟩
set_option maxRecDepth 100000 in
set_option maxHeartbeats 1000000 in
theorem impl_ue_slow (s : ByteArray) (p wd hh z n fp fw fh fn fe : Int) (A : Option Addr) (ca : Nat) (l : EntL) (HO : Hid (∀ w, Calls Try.prog 65 #[.agg #[.string s, .int .i64 p, .int .i64 wd, .int .i64 hh]] w fun e w' => e = .returned (.bool true) ∧ Below w.heap.size w w')) (HA : Hid (∀ w, Ents w w.heap.size A l → Calls Try.prog 66 #[.agg #[.string s, .int .i64 p, .int .i64 wd, .int .i64 hh], .slice A l.length ca, .int .i64 9] w fun e w' => e = .returned (.tuple #[.agg #[.int .i64 z, .int .i64 n], .bool false]) ∧ Below w.heap.size w w')) (HR : Hid (∀ w, Calls Try.prog 67 #[.agg #[.string s, .int .i64 p, .int .i64 wd, .int .i64 hh]] w fun e w' => e = .returned (.tuple #[.agg #[.string s, .int .i64 fp, .int .i64 fw, .int .i64 fh], .int .i64 fn, .int .i64 fe]) ∧ Below w.heap.size w w')) (w : World) (hE : Ents w w.heap.size A l) :
    Calls Try.prog 15 #[.agg #[.string s, .int .i64 p, .int .i64 wd, .int .i64 hh], .slice A l.length ca] w fun e w' => e = .returned (.tuple #[.agg #[.string s, .int .i64 fp, .int .i64 fw, .int .i64 fh], .int .i64 fn, .int .i64 fe]) ∧ Below w.heap.size w w' := by
  go_enter Try.func15, Try.ntmps15
  go_wp2_with fail
  refine (HO.out _).mono ?_
  rintro e w1 ⟨rfl, hb1⟩
  obtain ⟨k0, k1⟩ := boxes_kept hb1
  obtain ⟨c0, c1, c2, c3⟩ := cells4 k0
  have K0 := Lib.hid k0; have K1 := Lib.hid k1
  have B1 := Lib.hid (below_step ((below_new w _).alloc (below_new w _).size _) hb1)
  have E1 := Lib.hid ((hE.below B1.out (Nat.le_refl _)).mono B1.out.size)
  clear hb1 k0 k1 hE
  go_wp2_with fail
  refine (HA.out _ E1.out).mono ?_
  rintro e w2 ⟨rfl, hb2⟩
  have k0 := cell_kept K0.out hb2
  have k1 := cell_kept K1.out hb2
  have B2 := Lib.hid (below_up B1.out hb2 B1.out.size)
  clear c0 c1 c2 c3 hb2 E1
  obtain ⟨c0, c1, c2, c3⟩ := cells4 k0
  have l0 := heap_lt k0
  have l1 := heap_lt k1
  have k1b := heap_keep k1 (.cells #[.int .i64 z, .int .i64 n] 45)
  have K1b := Lib.hid k1b
  have B3 := Lib.hid (B2.out.alloc B2.out.size (.cells #[.int .i64 z, .int .i64 n] 45))
  clear k0 k1 k1b
  go_wp2_with fail
  refine (HR.out _).mono ?_
  rintro e w3 ⟨rfl, hb3⟩
  have k1 := cell_kept K1b.out hb3
  obtain ⟨d0, d1, d2, d3⟩ := cells4 k1
  obtain ⟨g0, g1, g2, g3⟩ := frozen4 k1
  obtain ⟨w4, hw4, e0, e1, e2, e3, hb4⟩ := out4 s fp fw fh k1 (Nat.le_succ _) (below_up B3.out hb3 B3.out.size)
  clear hb3 k1
  have HW := Lib.hid hw4; have HB := Lib.hid hb4; have E0 := Lib.hid e0; have E1 := Lib.hid e1; have E2 := Lib.hid e2; have E3 := Lib.hid e3
  clear hw4 hb4 e0 e1 e2 e3
  go_wp2
  rw [← HW.out]
  have e0 := E0.out; have e1 := E1.out; have e2 := E2.out; have e3 := E3.out
  exact bodyPost_ret (v := .tuple #[.agg #[.string s, .int .i64 fp, .int .i64 fw, .int .i64 fh], .int .i64 fn, .int .i64 fe]) (by simp [results, Try.results15, go_sem, e0, e1, e2, e3]) rfl ⟨rfl, HB.out⟩
set_option maxRecDepth 100000 in
set_option maxHeartbeats 1000000 in
theorem impl_sym_none (s : ByteArray) (p wd hh z n : Int) (A : Option Addr) (ca : Nat) (l : EntL) (HO : Hid (∀ w, Calls Try.prog 65 #[.agg #[.string s, .int .i64 p, .int .i64 wd, .int .i64 hh]] w fun e w' => e = .returned (.bool true) ∧ Below w.heap.size w w')) (HA : Hid (∀ w, Ents w w.heap.size A l → Calls Try.prog 66 #[.agg #[.string s, .int .i64 p, .int .i64 wd, .int .i64 hh], .slice A l.length ca, .int .i64 7] w fun e w' => e = .returned (.tuple #[.agg #[.int .i64 z, .int .i64 n], .bool false]) ∧ Below w.heap.size w w')) (w : World) (hE : Ents w w.heap.size A l) :
    Calls Try.prog 38 #[.agg #[.string s, .int .i64 p, .int .i64 wd, .int .i64 hh], .slice A l.length ca] w fun e w' => e = .returned (.tuple #[.agg #[.string s, .int .i64 p, .int .i64 wd, .int .i64 hh], .int .i64 0, .int .i64 4]) ∧ Below w.heap.size w w' := by
  go_enter Try.func38, Try.ntmps38
  go_wp2_with fail
  refine (HO.out _).mono ?_
  rintro e w1 ⟨rfl, hb1⟩
  obtain ⟨k0, k1⟩ := boxes_kept hb1
  obtain ⟨c0, c1, c2, c3⟩ := cells4 k0
  have K0 := Lib.hid k0; have K1 := Lib.hid k1
  have B1 := Lib.hid (below_step ((below_new w _).alloc (below_new w _).size _) hb1)
  have E1 := Lib.hid ((hE.below B1.out (Nat.le_refl _)).mono B1.out.size)
  clear hb1 k0 k1 hE
  go_wp2_with fail
  refine (HA.out _ E1.out).mono ?_
  rintro e w2 ⟨rfl, hb2⟩
  have k0 := cell_kept K0.out hb2
  have k1 := cell_kept K1.out hb2
  have B2 := Lib.hid (below_up B1.out hb2 B1.out.size)
  clear c0 c1 c2 c3 hb2 E1
  obtain ⟨c0, c1, c2, c3⟩ := cells4 k0
  have l0 := heap_lt k0
  have l1 := heap_lt k1
  obtain ⟨d0, d1, d2, d3⟩ := cells4 k1
  obtain ⟨g0, g1, g2, g3⟩ := frozen4 k1
  obtain ⟨w4, hw4⟩ : ∃ w4, w4 = (put4 w2 (w.heap.size + 1) s p wd hh).alloc (.cells #[.int .i64 z, .int .i64 n] 45) := ⟨_, rfl⟩
  have hb4 : Below w.heap.size w w4 := by rw [hw4]; exact (put4_below B2.out _ (by omega) s p wd hh).alloc (put4_below B2.out _ (by omega) s p wd hh).size _
  obtain ⟨e0, e1, e2, e3⟩ : w4.cell? ⟨w.heap.size + 1, 0, none⟩ = some (.string s) ∧ w4.cell? ⟨w.heap.size + 1, 1, none⟩ = some (.int .i64 p) ∧ w4.cell? ⟨w.heap.size + 1, 2, none⟩ = some (.int .i64 wd) ∧ w4.cell? ⟨w.heap.size + 1, 3, none⟩ = some (.int .i64 hh) := by rw [hw4]; exact cells4 (heap_keep (put4_block k1 s p wd hh) _)
  unfold put4 at hw4
  clear k0 k1
  have HW := Lib.hid hw4; have HB := Lib.hid hb4; have E0 := Lib.hid e0; have E1 := Lib.hid e1; have E2 := Lib.hid e2; have E3 := Lib.hid e3
  clear hw4 hb4 e0 e1 e2 e3
  go_wp2
  rw [← HW.out]
  have e0 := E0.out; have e1 := E1.out; have e2 := E2.out; have e3 := E3.out
  exact bodyPost_ret (v := .tuple #[.agg #[.string s, .int .i64 p, .int .i64 wd, .int .i64 hh], .int .i64 0, .int .i64 4]) (by simp [results, Try.results38, go_sem, e0, e1, e2, e3]) rfl ⟨rfl, HB.out⟩

end Go.Proofs.Ytgacldhpohnpaaa
