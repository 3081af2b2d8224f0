/-
  The walk of the law of ReadSym. No condition.
-/
import Derived.Test.YtgacldhpohnpaaaSymR
namespace Go.Proofs.Ytgacldhpohnpaaa
open Go.RowKit
set_option linter.unusedVariables false

set_option maxRecDepth 100000 in
set_option maxHeartbeats 1000000 in
/-- The law's own walk. -/
theorem fnExactReadSym_walk (s : ByteArray) (p : Int) (a : Option Addr) (len cap : Nat) (zs : List Int) (hm : s.size ≤ maxLen) (wp : (Lit.int .i64 p).wf = true) (w : World) (hr : IsRow .i64 w a len cap zs) :
    Calls Try.prog 9 #[.agg #[.string s, .int .i64 p], .slice a len cap] w fun e w' => e = .returned (.bool true) ∧ Below w.heap.size w w' := by
  have HZ := Lib.hid (szreader_any s p (by unfold maxLen at hm; omega))
  have HT := Lib.hid (toreader_any s p)
  have hlm := hr.len_le
  unfold maxLen at hlm
  clear hm wp
  by_cases hbig : 1048576 < len
  · have B := Lib.hid (below_new w (.cells #[.string s, .int .i64 p] 67))
    clear hr
    go_enter Try.func9, Try.ntmps9
    go_wp2
    go_ret
    exact ⟨rfl, B.out⟩
  · obtain ⟨l, rfl, hI, _, _⟩ := ints_of hr (by omega)
    have hq0 : decide (1048576 < (l.length : Int)) = false := by simp; omega
    have R := Lib.hid hI; clear hI hr
    by_cases hbs : 1048576 < s.size
    · rw [if_pos hbs] at HZ
      go_enter Try.func9, Try.ntmps9
      go_wp2_with fail
      refine (HZ.out _).mono ?_
      rintro e w1 ⟨rfl, hb⟩
      have B1 := Lib.hid (below_step (below_new w _) hb); clear hb
      go_wp2
      go_ret
      exact ⟨rfl, B1.out⟩
    · rw [if_neg hbs] at HZ
      have SA := Lib.hid (fun A ca => spec_readsym_any s p (by omega) A ca l (by omega))
      have IA := Lib.hid (fun A ca => impl_readsym_any s p (by omega) A ca l)
      unfold syR at SA IA
      obtain ⟨q, hq⟩ : ∃ q, q = syP s p l := ⟨_, rfl⟩
      obtain ⟨n, hn⟩ : ∃ q, q = syM s p l := ⟨_, rfl⟩
      obtain ⟨er, hr⟩ : ∃ q, q = syF s p l := ⟨_, rfl⟩
      rw [← hq, ← hn, ← hr] at SA IA
      have q1 : (n != n) = false := by simp
      have q2 : (er != er) = false := by simp
      have EQ := Lib.hid (eqreader_same s q)
      have TO := Lib.hid (toints_any a cap l (by omega))
      have EE := Lib.hid @eqints_any
      have hll : l.length ≤ 1048576 := by omega
      have hsz : s.size ≤ 1048576 := by omega
      clear hq hn hr hbig hbs
      go_enter Try.func9, Try.ntmps9
      go_wp2_with fail
      refine (HZ.out _).mono ?_
      rintro e w1 ⟨rfl, hb⟩
      have H1 := Lib.hid (cell_kept (heap_alloc_new w _) hb)
      have B1 := Lib.hid (below_step (below_new w _) hb); clear hb
      obtain ⟨c0, c1⟩ := cells2 H1.out
      go_wp2_with fail
      refine (HT.out _).mono ?_
      rintro e w2 ⟨rfl, hb⟩
      have H2 := Lib.hid (cell_kept H1.out hb)
      have B2 := Lib.hid (below_step B1.out hb)
      clear hb c0 c1 H1 B1
      have R2 := Lib.hid ((R.out.below B2.out (Nat.le_refl _)).mono B2.out.size)
      go_wp2_with fail
      refine (TO.out _ R2.out).mono ?_
      rintro e w3 ⟨A3, c3', rfl, ho3, hb⟩
      have R3 := Lib.hid (ho3.ints (by omega)); clear ho3
      have H3 := Lib.hid (cell_kept H2.out hb)
      have B3 := Lib.hid (below_up B2.out hb B2.out.size)
      clear hb H2 B2
      go_wp2_with fail
      refine (SA.out _ _ _ R3.out).mono ?_
      rintro e w4 ⟨rfl, hb⟩
      have H4 := Lib.hid (cell_kept H3.out hb)
      have B4 := Lib.hid (below_step B3.out hb)
      clear hb H3 B3
      have C4 := Lib.hid (B4.out.alloc B4.out.size (.cells #[.string s, .int .i64 q] 35))
      have R4 := Lib.hid ((R.out.below C4.out (Nat.le_refl _)).mono C4.out.size)
      go_wp2_with fail
      refine (TO.out _ R4.out).mono ?_
      rintro e w5 ⟨A5, c5, rfl, ho5, hb⟩
      have R5 := Lib.hid (ho5.ints (by omega)); clear ho5
      have G5 := Lib.hid (cell_kept (heap_alloc_new w4 _) hb)
      have H5 := Lib.hid (cell_kept (heap_keep H4.out _) hb)
      have B5 := Lib.hid (below_up C4.out hb C4.out.size)
      clear hb H4 B4
      obtain ⟨c0, c1⟩ := cells2 H5.out
      have lt := heap_lt H5.out
      go_wp2_with fail
      refine (HT.out _).mono ?_
      rintro e w6 ⟨rfl, hb⟩
      have G6 := Lib.hid (cell_kept G5.out hb)
      have R6 := Lib.hid ((R5.out.below hb (Nat.le_refl _)).mono hb.size)
      have B6 := Lib.hid (below_up B5.out hb B5.out.size)
      clear hb c0 c1 lt H5 B5 G5
      go_wp2_with fail
      refine (IA.out _ _ _ R6.out).mono ?_
      rintro e w7 ⟨rfl, hb⟩
      have G7 := Lib.hid (cell_kept G6.out hb)
      have R7 := Lib.hid ((R6.out.below hb (Nat.le_refl _)).mono hb.size)
      have B7 := Lib.hid (below_up B6.out hb B6.out.size)
      clear hb G6 B6
      obtain ⟨c0, c1⟩ := cells2 G7.out
      have lt := heap_lt G7.out
      have C7 := Lib.hid (B7.out.alloc B7.out.size (.cells #[.string s, .int .i64 q] 35))
      have R7b := Lib.hid (R7.out.kept (w' := w7.alloc (.cells #[.string s, .int .i64 q] 35)) (fun k hk => Below.heap_alloc _ _ _ hk))
      go_wp2_with fail
      refine (EQ.out _).mono ?_
      rintro e w8 ⟨rfl, hb⟩
      have R8 := Lib.hid ((R7b.out.below hb (by simp)).mono (Nat.le_trans (by simp) hb.size))
      have B8 := Lib.hid (below_up C7.out hb C7.out.size)
      clear hb c0 c1 lt
      have R80 := Lib.hid ((R.out.below B8.out (Nat.le_refl _)).mono B8.out.size)
      go_wp2_with fail
      refine (TO.out _ R80.out).mono ?_
      rintro e w9 ⟨A9, c9, rfl, ho9, hb⟩
      have R9 := Lib.hid (ho9.ints (by omega)); clear ho9
      have R89 := Lib.hid ((R8.out.below hb (Nat.le_refl _)).mono hb.size)
      have B9 := Lib.hid (below_up B8.out hb B8.out.size); clear hb
      go_wp2_with fail
      refine (EE.out _ _ _ _ _ _ _ R89.out R9.out).mono ?_
      rintro e w10 ⟨rfl, hb⟩
      have B10 := Lib.hid (below_up B9.out hb B9.out.size); clear hb
      go_wp2
      go_ret
      exact ⟨rfl, B10.out⟩
end Go.Proofs.Ytgacldhpohnpaaa
