/-
  The walks of the exact laws of the bit reader. No condition.
-/
import Derived.Test.YtepkidockjiajaaZeros
namespace Go.Proofs.Ytepkidockjiajaa
open Go.RowKit
set_option linter.unusedVariables false

set_option maxRecDepth 100000 in
set_option maxHeartbeats 400000 in
theorem szreader_any (s : ByteArray) (a : Int) (hm : s.size ≤ 9223372036854775807) (w : World) :
    Calls Try.prog 15 #[.agg #[.string s, .int .i64 a], .int .i64 1048576] w fun e w' => e = .returned (.int .i64 (if 1048576 < s.size then -1 else 1048576 - (s.size : Int))) ∧ Below w.heap.size w w' := by
  by_cases h : 1048576 < s.size
  · rw [if_pos h]
    go_enter Try.func15, Try.ntmps15
    go_wp2
    go_ret
    exact ⟨rfl, below_new _ _⟩
  · rw [if_neg h]
    go_enter Try.func15, Try.ntmps15
    go_wp2
    go_ret
    exact ⟨rfl, below_new _ _⟩

set_option maxRecDepth 100000 in
set_option maxHeartbeats 400000 in
theorem toreader_any (s : ByteArray) (a : Int) (w : World) :
    Calls Try.prog 17 #[.agg #[.string s, .int .i64 a]] w fun e w' => e = .returned (.agg #[.string s, .int .i64 a]) ∧ Below w.heap.size w w' := by
  go_enter Try.func17, Try.ntmps17
  go_wp2
  have e0 : (((w.alloc (.cells #[.string s, .int .i64 a] 32)).alloc (.cells #[.string s, .int .i64 a] 25)).alloc (.cells #[.string s, .int .i64 a] 25)).heap[w.heap.size + 1]? = some (.cells #[.string s, .int .i64 a] 25 (0, 0)) := by
    rw [Below.heap_alloc _ _ _ (by simp)]
    have := heap_alloc_new (w.alloc (.cells #[.string s, .int .i64 a] 32)) (.cells #[.string s, .int .i64 a] 25)
    simpa using this
  obtain ⟨c0, c1⟩ := cells2 e0
  exact bodyPost_ret (v := .agg #[.string s, .int .i64 a]) (by simp [results, Try.results17, go_sem]) rfl ⟨rfl, ((below_new w _).alloc (by simp) _).alloc (by simp; omega) _⟩

set_option maxRecDepth 100000 in
set_option maxHeartbeats 400000 in
theorem eqreader_same (s : ByteArray) (a : Int) (w : World) :
    Calls Try.prog 20 #[.agg #[.string s, .int .i64 a], .agg #[.string s, .int .i64 a]] w fun e w' => e = .returned (.bool true) ∧ Below w.heap.size w w' := by
  have q1 : (s.toList != s.toList) = false := by simp
  have q2 : (a != a) = false := by simp
  go_enter Try.func20, Try.ntmps20
  go_wp2
  go_ret
  exact ⟨rfl, (below_new w _).alloc (by simp) _⟩

set_option maxRecDepth 100000 in
set_option maxHeartbeats 400000 in
/-- The law's own walk. -/
theorem fnExactReaderOk_walk (s : ByteArray) (a : Int) (hm : s.size ≤ maxLen) (wa : (Lit.int .i64 a).wf = true) (w : World) :
    Calls Try.prog 4 #[.agg #[.string s, .int .i64 a]] w fun e w' => e = .returned (.bool true) ∧ Below w.heap.size w w' := by
  have HZ := Lib.hid (szreader_any s a (by unfold maxLen at hm; omega))
  have HT := Lib.hid (toreader_any s a)
  clear hm wa
  by_cases hbig : 1048576 < s.size
  · rw [if_pos hbig] at HZ
    go_enter Try.func4, Try.ntmps4
    go_wp2_with fail
    refine (HZ.out _).mono ?_
    rintro e w1 ⟨rfl, hb⟩
    have B := Lib.hid (below_step (below_new w _) hb); clear hb
    go_wp2
    go_ret
    exact ⟨rfl, B.out⟩
  · rw [if_neg hbig] at HZ
    have SA := Lib.hid (spec_readerok_any s a (by omega))
    have IA := Lib.hid (impl_readerok_any s a (by omega))
    obtain ⟨v, hv⟩ : ∃ v, v = rdOk s a := ⟨_, rfl⟩
    rw [← hv] at SA IA
    have q1 : (v != v) = false := by simp
    clear hv
    go_enter Try.func4, Try.ntmps4
    go_wp2_with fail
    refine (HZ.out _).mono ?_
    rintro e w1 ⟨rfl, hb⟩
    have H := Lib.hid (cell_kept (heap_alloc_new w _) hb)
    have B := Lib.hid (below_step (below_new w _) hb); clear hb
    obtain ⟨c0, c1⟩ := cells2 H.out
    go_wp2_with fail
    refine (HT.out _).mono ?_
    rintro e w2 ⟨rfl, hb⟩
    have H1 := Lib.hid (cell_kept H.out hb)
    have B1 := Lib.hid (below_step B.out hb)
    clear hb c0 c1 H B
    have H := H1; have B := B1
    clear H1 B1
    obtain ⟨c0, c1⟩ := cells2 H.out
    go_wp2_with fail
    refine (SA.out _).mono ?_
    rintro e w3 ⟨rfl, hb⟩
    have H2 := Lib.hid (cell_kept H.out hb)
    have B2 := Lib.hid (below_step B.out hb)
    clear hb c0 c1 H B
    have H := H2; have B := B2
    clear H2 B2
    obtain ⟨c0, c1⟩ := cells2 H.out
    go_wp2_with fail
    refine (HT.out _).mono ?_
    rintro e w4 ⟨rfl, hb⟩
    have H3 := Lib.hid (cell_kept H.out hb)
    have B3 := Lib.hid (below_step B.out hb)
    clear hb c0 c1 H B
    have H := H3; have B := B3
    clear H3 B3
    obtain ⟨c0, c1⟩ := cells2 H.out
    go_wp2_with fail
    refine (IA.out _).mono ?_
    rintro e w5 ⟨rfl, hb⟩
    have H4 := Lib.hid (cell_kept H.out hb)
    have B4 := Lib.hid (below_step B.out hb)
    clear hb c0 c1 H B
    have H := H4; have B := B4
    clear H4 B4
    go_wp2
    go_ret
    exact ⟨rfl, B.out⟩

set_option maxRecDepth 100000 in
set_option maxHeartbeats 400000 in
/-- The law's own walk. -/
theorem fnExactLeft_walk (s : ByteArray) (a : Int) (hm : s.size ≤ maxLen) (wa : (Lit.int .i64 a).wf = true) (w : World) :
    Calls Try.prog 5 #[.agg #[.string s, .int .i64 a]] w fun e w' => e = .returned (.bool true) ∧ Below w.heap.size w w' := by
  have HZ := Lib.hid (szreader_any s a (by unfold maxLen at hm; omega))
  have HT := Lib.hid (toreader_any s a)
  clear hm wa
  by_cases hbig : 1048576 < s.size
  · rw [if_pos hbig] at HZ
    go_enter Try.func5, Try.ntmps5
    go_wp2_with fail
    refine (HZ.out _).mono ?_
    rintro e w1 ⟨rfl, hb⟩
    have B := Lib.hid (below_step (below_new w _) hb); clear hb
    go_wp2
    go_ret
    exact ⟨rfl, B.out⟩
  · rw [if_neg hbig] at HZ
    have SA := Lib.hid (spec_left_any s a (by omega))
    have IA := Lib.hid (impl_left_any s a (by omega))
    obtain ⟨v, hv⟩ : ∃ v, v = leftV s a := ⟨_, rfl⟩
    rw [← hv] at SA IA
    have q1 : (v != v) = false := by simp
    clear hv
    go_enter Try.func5, Try.ntmps5
    go_wp2_with fail
    refine (HZ.out _).mono ?_
    rintro e w1 ⟨rfl, hb⟩
    have H := Lib.hid (cell_kept (heap_alloc_new w _) hb)
    have B := Lib.hid (below_step (below_new w _) hb); clear hb
    obtain ⟨c0, c1⟩ := cells2 H.out
    go_wp2_with fail
    refine (HT.out _).mono ?_
    rintro e w2 ⟨rfl, hb⟩
    have H1 := Lib.hid (cell_kept H.out hb)
    have B1 := Lib.hid (below_step B.out hb)
    clear hb c0 c1 H B
    have H := H1; have B := B1
    clear H1 B1
    obtain ⟨c0, c1⟩ := cells2 H.out
    go_wp2_with fail
    refine (SA.out _).mono ?_
    rintro e w3 ⟨rfl, hb⟩
    have H2 := Lib.hid (cell_kept H.out hb)
    have B2 := Lib.hid (below_step B.out hb)
    clear hb c0 c1 H B
    have H := H2; have B := B2
    clear H2 B2
    obtain ⟨c0, c1⟩ := cells2 H.out
    go_wp2_with fail
    refine (HT.out _).mono ?_
    rintro e w4 ⟨rfl, hb⟩
    have H3 := Lib.hid (cell_kept H.out hb)
    have B3 := Lib.hid (below_step B.out hb)
    clear hb c0 c1 H B
    have H := H3; have B := B3
    clear H3 B3
    obtain ⟨c0, c1⟩ := cells2 H.out
    go_wp2_with fail
    refine (IA.out _).mono ?_
    rintro e w5 ⟨rfl, hb⟩
    have H4 := Lib.hid (cell_kept H.out hb)
    have B4 := Lib.hid (below_step B.out hb)
    clear hb c0 c1 H B
    have H := H4; have B := B4
    clear H4 B4
    go_wp2
    go_ret
    exact ⟨rfl, B.out⟩

set_option maxRecDepth 100000 in
set_option maxHeartbeats 400000 in
/-- The law's own walk. -/
theorem fnExactZerosAhead_walk (s : ByteArray) (a : Int) (hm : s.size ≤ maxLen) (wa : (Lit.int .i64 a).wf = true) (w : World) :
    Calls Try.prog 7 #[.agg #[.string s, .int .i64 a]] w fun e w' => e = .returned (.bool true) ∧ Below w.heap.size w w' := by
  have HZ := Lib.hid (szreader_any s a (by unfold maxLen at hm; omega))
  have HT := Lib.hid (toreader_any s a)
  clear hm wa
  by_cases hbig : 1048576 < s.size
  · rw [if_pos hbig] at HZ
    go_enter Try.func7, Try.ntmps7
    go_wp2_with fail
    refine (HZ.out _).mono ?_
    rintro e w1 ⟨rfl, hb⟩
    have B := Lib.hid (below_step (below_new w _) hb); clear hb
    go_wp2
    go_ret
    exact ⟨rfl, B.out⟩
  · rw [if_neg hbig] at HZ
    have SA := Lib.hid (spec_zeros_any s a (by omega))
    have IA := Lib.hid (impl_zeros_any s a (by omega))
    obtain ⟨v, hv⟩ : ∃ v, v = zaV s a := ⟨_, rfl⟩
    rw [← hv] at SA IA
    have q1 : (v != v) = false := by simp
    clear hv
    go_enter Try.func7, Try.ntmps7
    go_wp2_with fail
    refine (HZ.out _).mono ?_
    rintro e w1 ⟨rfl, hb⟩
    have H := Lib.hid (cell_kept (heap_alloc_new w _) hb)
    have B := Lib.hid (below_step (below_new w _) hb); clear hb
    obtain ⟨c0, c1⟩ := cells2 H.out
    go_wp2_with fail
    refine (HT.out _).mono ?_
    rintro e w2 ⟨rfl, hb⟩
    have H1 := Lib.hid (cell_kept H.out hb)
    have B1 := Lib.hid (below_step B.out hb)
    clear hb c0 c1 H B
    have H := H1; have B := B1
    clear H1 B1
    obtain ⟨c0, c1⟩ := cells2 H.out
    go_wp2_with fail
    refine (SA.out _).mono ?_
    rintro e w3 ⟨rfl, hb⟩
    have H2 := Lib.hid (cell_kept H.out hb)
    have B2 := Lib.hid (below_step B.out hb)
    clear hb c0 c1 H B
    have H := H2; have B := B2
    clear H2 B2
    obtain ⟨c0, c1⟩ := cells2 H.out
    go_wp2_with fail
    refine (HT.out _).mono ?_
    rintro e w4 ⟨rfl, hb⟩
    have H3 := Lib.hid (cell_kept H.out hb)
    have B3 := Lib.hid (below_step B.out hb)
    clear hb c0 c1 H B
    have H := H3; have B := B3
    clear H3 B3
    obtain ⟨c0, c1⟩ := cells2 H.out
    go_wp2_with fail
    refine (IA.out _).mono ?_
    rintro e w5 ⟨rfl, hb⟩
    have H4 := Lib.hid (cell_kept H.out hb)
    have B4 := Lib.hid (below_step B.out hb)
    clear hb c0 c1 H B
    have H := H4; have B := B4
    clear H4 B4
    go_wp2
    go_ret
    exact ⟨rfl, B.out⟩

/-- A block behind an allocation; it lies before the heap's end. -/
theorem heap_keep {w : World} {g : Nat} {o : Obj} (h : w.heap[g]? = some o) (x : Obj) : (w.alloc x).heap[g]? = some o := by
  rw [Below.heap_alloc _ _ _ (heap_lt h)]; exact h

set_option maxRecDepth 100000 in
set_option maxHeartbeats 400000 in
/-- The law's own walk. -/
theorem fnExactReadBits_walk (s : ByteArray) (a n : Int) (hm : s.size ≤ maxLen) (wa : (Lit.int .i64 a).wf = true) (hwn : (Lit.int .i64 n).wf = true) (w : World) :
    Calls Try.prog 6 #[.agg #[.string s, .int .i64 a], .int .i64 n] w fun e w' => e = .returned (.bool true) ∧ Below w.heap.size w w' := by
  have HZ := Lib.hid (szreader_any s a (by unfold maxLen at hm; omega))
  have HT := Lib.hid (toreader_any s a)
  clear hm wa hwn
  by_cases hbig : 1048576 < s.size
  · rw [if_pos hbig] at HZ
    go_enter Try.func6, Try.ntmps6
    go_wp2_with fail
    refine (HZ.out _).mono ?_
    rintro e w1 ⟨rfl, hb⟩
    have B := Lib.hid (below_step (below_new w _) hb); clear hb
    go_wp2
    go_ret
    exact ⟨rfl, B.out⟩
  · rw [if_neg hbig] at HZ
    have SA := Lib.hid (spec_readbits_any s a n (by omega))
    have IA := Lib.hid (impl_readbits_any s a n (by omega))
    have EQ := Lib.hid (eqreader_same s (rbPlace s a n))
    obtain ⟨p, hp⟩ : ∃ p, p = rbPlace s a n := ⟨_, rfl⟩
    obtain ⟨v, hv⟩ : ∃ v, v = rbNum s a n := ⟨_, rfl⟩
    obtain ⟨o, ho⟩ : ∃ o, o = rbOk s a n := ⟨_, rfl⟩
    rw [← hp, ← hv, ← ho] at SA IA
    rw [← hp] at EQ
    have q1 : (v != v) = false := by simp
    have q2 : (o != o) = false := by simp
    clear hp hv ho
    go_enter Try.func6, Try.ntmps6
    go_wp2_with fail
    refine (HZ.out _).mono ?_
    rintro e w1 ⟨rfl, hb⟩
    have H1 := Lib.hid (cell_kept (heap_alloc_new w _) hb)
    have B1 := Lib.hid (below_step (below_new w _) hb); clear hb
    obtain ⟨c0, c1⟩ := cells2 H1.out
    go_wp2_with fail
    refine (HT.out _).mono ?_
    rintro e w2 ⟨rfl, hb⟩
    have H2 := Lib.hid (cell_kept H1.out hb)
    have B2 := Lib.hid (below_step B1.out hb)
    clear hb c0 c1 H1 B1
    go_wp2_with fail
    refine (SA.out _).mono ?_
    rintro e w3 ⟨rfl, hb⟩
    have H3 := Lib.hid (cell_kept H2.out hb)
    have B3 := Lib.hid (below_step B2.out hb)
    clear hb H2 B2
    obtain ⟨c0, c1⟩ := cells2 H3.out
    have lt := heap_lt H3.out
    go_wp2_with fail
    refine (HT.out _).mono ?_
    rintro e w4 ⟨rfl, hb⟩
    have H4 := Lib.hid (cell_kept (heap_keep H3.out _) hb)
    have R4 := Lib.hid (cell_kept (heap_alloc_new w3 _) hb)
    have B4 := Lib.hid (below_step (B3.out.alloc B3.out.size _) hb)
    clear hb c0 c1 H3 B3 lt
    go_wp2_with fail
    refine (IA.out _).mono ?_
    rintro e w5 ⟨rfl, hb⟩
    have R5 := Lib.hid (cell_kept R4.out hb)
    have B5 := Lib.hid (below_step B4.out hb)
    clear hb H4 B4 R4
    obtain ⟨c0, c1⟩ := cells2 R5.out
    have lt := heap_lt R5.out
    go_wp2_with fail
    refine (EQ.out _).mono ?_
    rintro e w6 ⟨rfl, hb⟩
    have B6 := Lib.hid (below_step (B5.out.alloc B5.out.size _) hb)
    clear hb c0 c1 B5 lt
    go_wp2
    go_ret
    exact ⟨rfl, B6.out⟩
end Go.Proofs.Ytepkidockjiajaa
