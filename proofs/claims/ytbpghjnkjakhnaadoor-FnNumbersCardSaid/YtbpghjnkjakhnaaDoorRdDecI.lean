/-
  The contract of the program's ReadDec, and the law's own walk. Conditions: the string is no longer than 1048576 bytes (the law asks no more); the library's table and its two errors read as Go lays them.
-/
import Derived.Test.YtbpghjnkjakhnaaDoorRdDec
namespace Go.Proofs.YtbpghjnkjakhnaaDoor
open Go.RowKit
set_option linter.unusedVariables false

/-- A variable that the row lists as an error: it holds some value. -/
theorem err_of {W : World} {name nm : String} {d : DataW Unit} {rest : List (String × DataW Unit)} {g ti : Nat} {ms : Array (String × TypeId)} (h : laidMet Tryd.prog ((name, .iface nm d) :: rest) W)
    (hg : Tryd.prog.globalNamed name = some g) (ht : (Tryd.prog.globals[g]?).map (·.type) = some ti) (hi : Tryd.prog.underlying ti = some (.interface ms)) :
    ∃ u v, W.var? Tryd.prog name = some #[.iface u v] := by
  obtain ⟨ps, ⟨g0, t0, cs0, f0, p0, q0, hg0, ht0, hv0, hd0, _, _⟩, _, _⟩ := h
  obtain rfl := Option.some.inj (hg.symm.trans hg0)
  obtain rfl := Option.some.inj (ht.symm.trans ht0)
  obtain ⟨f', u, v, hcs, _, _⟩ := iface_of_trod hi hd0
  obtain ⟨l0⟩ := cs0
  subst hcs
  exact ⟨u, v, hv0⟩

set_option maxRecDepth 100000 in
set_option maxHeartbeats 2000000 in
theorem impl_rddec_any (s : ByteArray) (hs : s.size ≤ 1048576) (w : World) (htab : Lib.TabIs Tryd.prog w "internal/strconv.uint64pow10" .u64 Lib.pow10Tab)
    (u1 : TypeId) (v1 : Value) (hsyn : w.var? Tryd.prog "strconv.ErrSyntax" = some #[.iface u1 v1]) (u2 : TypeId) (v2 : Value) (hrng : w.var? Tryd.prog "strconv.ErrRange" = some #[.iface u2 v2])
    (hg : 3 < w.heap.size) :
    Calls Tryd.prog 13 #[.string s] w fun e w' => e = .returned (.tuple #[.int .i64 (rdN s.data.toList), .bool (rdB s.data.toList)]) ∧ Below w.heap.size w w' := by
  obtain ⟨l, hl⟩ : ∃ l, l = s.data.toList := ⟨_, rfl⟩
  have hsl : s.toList = l := by rw [hl]; have := bs_toList s.data.toList; rw [bs_eta] at this; exact this
  have hbl : (bare l).length ≤ 1048576 := by
    have h1 : (bare l).length ≤ l.length := by unfold bare Lib.trimPrefix; split <;> simp
    have h2 : l.length = s.size := by rw [hl]; simp
    omega
  have tp : ∀ w, Calls Tryd.prog 24 #[.string s, .string { data := #[45] }] w fun e w' => e = .returned (.string (bs (bare l))) ∧ w = w' := fun w => by
    rw [hl]
    exact (Tryd.strings_TrimPrefix s { data := #[45] } w).mono fun e w' ⟨h1, h2⟩ => ⟨h1, h2.symm⟩
  have TP := Lib.hid tp; clear tp
  have HSL := Lib.hid hsl; clear hsl
  have hbs : (bs (bare l)).size = (bare l).length := rfl
  obtain ⟨B, hB⟩ : ∃ B, B = (bare l).length := ⟨_, rfl⟩
  rw [← hB] at hbs hbl
  rw [← hl]
  have HL := Lib.hid hl; clear hl
  have HB := Lib.hid hB; clear hB
  by_cases hlong : 9 < B
  · have hno : rdB l = false := by unfold rdB; rw [← HB.out, decide_eq_false (by omega)]; rfl
    have HN := Lib.hid hno; clear hno
    have hb9 : 9 < (B : Int) := by omega
    go_enter Tryd.func13, Tryd.ntmps13
    go_wp2_with (go_at_call 24; refine (TP.out _).mono ?_; rintro e w' ⟨rfl, rfl⟩)
    go_ret2
    exact ⟨by rw [rdN_false l HN.out, HN.out]; rfl, Below.refl _ _⟩
  · have hb9 : (B : Int) ≤ 9 := by omega
    cases hat : Lib.atoiAll l with
    | «syntax» =>
      have hno : rdB l = false := by unfold rdB; rw [hat]; simp
      have C := Lib.hid (Tryd.strconv_Atoi_syntax_var s (by omega) (by rw [← HL.out]; exact hat) u1 v1 w hsyn)
      have HN := Lib.hid hno; clear hno hat hsyn hrng htab
      go_enter Tryd.func13, Tryd.ntmps13
      go_wp2_with (go_at_call 24; refine (TP.out _).mono ?_; rintro e w' ⟨rfl, rfl⟩)
      refine C.out.mono ?_
      rintro e w' ⟨N, rfl, _, _, hb1⟩
      go_wp2
      go_ret2
      exact ⟨by rw [rdN_false l HN.out, HN.out]; rfl, hb1⟩
    | range =>
      have hno : rdB l = false := by unfold rdB; rw [hat]; simp
      have C := Lib.hid (Tryd.strconv_Atoi_range_var s (by omega) (by rw [← HL.out]; exact hat) u2 v2 w hrng)
      have HN := Lib.hid hno; clear hno hat hsyn hrng htab
      go_enter Tryd.func13, Tryd.ntmps13
      go_wp2_with (go_at_call 24; refine (TP.out _).mono ?_; rintro e w' ⟨rfl, rfl⟩)
      refine C.out.mono ?_
      rintro e w' ⟨N, rfl, _, _, hb1⟩
      go_wp2
      go_ret2
      exact ⟨by rw [rdN_false l HN.out, HN.out]; rfl, hb1⟩
    | ok v =>
      have C := Lib.hid (Tryd.strconv_Atoi_ok s (by omega) v (by rw [← HL.out]; exact hat) w)
      obtain ⟨b0, b1⟩ := Lib.atoiAll_bounds hat
      have hB : rdB l = decide (Lib.itoa v = l) := by unfold rdB; rw [← HB.out, decide_eq_true (by omega), hat]; rfl
      have hV : rdB l = true → rdN l = v := fun h => by unfold rdN; rw [if_pos h, hat]
      have HT := Lib.hid htab
      have HV := Lib.hid hV
      clear hat hsyn hrng htab hV
      have D := Lib.hid (impl_dec_any v b0 b1)
      clear b0 b1
      by_cases he : Lib.itoa v = l
      · have hq : ((bs (Lib.itoa v)).toList == s.toList) = true := by rw [bs_toList, HSL.out, he]; simp
        rw [decide_eq_true he] at hB
        have HBB := Lib.hid hB; clear hB
        have HE := Lib.hid he; clear he
        go_enter Tryd.func13, Tryd.ntmps13
        go_wp2_with (go_at_call 24; refine (TP.out _).mono ?_; rintro e w' ⟨rfl, rfl⟩)
        refine C.out.mono ?_
        rintro e w1 ⟨rfl, hw1⟩
        have hb1 : Below w.heap.size w w1 := by
          rcases hw1 with rfl | ⟨t, rfl⟩
          · exact Below.refl _ _
          · exact Go.Joins.below_bytesWorld _ _ _ _ (Nat.le_refl _)
        have HW := Lib.hid hw1; clear hw1
        go_wp2_with fail
        refine (D.out _ (var?_below hb1 (show Tryd.prog.globalNamed "internal/strconv.uint64pow10" = some 3 by kernel_rfl) hg HT.out)).mono ?_
        rintro e w2 ⟨rfl, hb2⟩
        go_wp2
        go_ret2
        exact ⟨by rw [HV.out HBB.out, HBB.out]; rfl, below_step hb1 hb2⟩
      · have hq : ((bs (Lib.itoa v)).toList == s.toList) = false := by rw [bs_toList, HSL.out, beq_eq_false_iff_ne]; exact he
        rw [decide_eq_false he] at hB
        have HBB := Lib.hid hB; clear hB
        have HE := Lib.hid he; clear he
        go_enter Tryd.func13, Tryd.ntmps13
        go_wp2_with (go_at_call 24; refine (TP.out _).mono ?_; rintro e w' ⟨rfl, rfl⟩)
        refine C.out.mono ?_
        rintro e w1 ⟨rfl, hw1⟩
        have hb1 : Below w.heap.size w w1 := by
          rcases hw1 with rfl | ⟨t, rfl⟩
          · exact Below.refl _ _
          · exact Go.Joins.below_bytesWorld _ _ _ _ (Nat.le_refl _)
        have HW := Lib.hid hw1; clear hw1
        go_wp2_with fail
        refine (D.out _ (var?_below hb1 (show Tryd.prog.globalNamed "internal/strconv.uint64pow10" = some 3 by kernel_rfl) hg HT.out)).mono ?_
        rintro e w2 ⟨rfl, hb2⟩
        go_wp2
        go_ret2
        exact ⟨by rw [rdN_false l HBB.out, HBB.out]; rfl, below_step hb1 hb2⟩

/-- What the row's condition gives: the table, the two errors, and that they lie in the heap. -/
structure LibVars (w : World) : Prop where
  tab : Lib.TabIs Tryd.prog w "internal/strconv.uint64pow10" .u64 Lib.pow10Tab
  low : 3 < w.heap.size
  syn : ∃ u v, w.var? Tryd.prog "strconv.ErrSyntax" = some #[.iface u v]
  rng : ∃ u v, w.var? Tryd.prog "strconv.ErrRange" = some #[.iface u v]
  lowS : 0 < w.heap.size
  lowR : 1 < w.heap.size
theorem gTab : Tryd.prog.globalNamed "internal/strconv.uint64pow10" = some 3 := by kernel_rfl
theorem gSyn : Tryd.prog.globalNamed "strconv.ErrSyntax" = some 0 := by kernel_rfl
theorem gRng : Tryd.prog.globalNamed "strconv.ErrRange" = some 1 := by kernel_rfl
theorem low_of_var {w : World} {name : String} {g : Nat} {u : TypeId} {v : Value} (hg : Tryd.prog.globalNamed name = some g) (h : w.var? Tryd.prog name = some #[.iface u v]) : g < w.heap.size := by
  have := World.var?_cell hg h 0
  exact Lib.lt_of_cell (v := .iface u v) (by rw [this]; rfl)
theorem libVars_of {w : World} (hL : laidMet Tryd.prog Rows.fnExactReadDecRow.laid w) : LibVars w := by
  have t := tab_of (laidMet.tail (laidMet.tail hL))
  obtain ⟨u2, v2, h2⟩ := err_of (laidMet.tail (laidMet.tail (laidMet.tail hL))) gRng (by kernel_rfl) Tryd.underlying45
  obtain ⟨u1, v1, h1⟩ := err_of (laidMet.tail (laidMet.tail (laidMet.tail (laidMet.tail hL)))) gSyn (by kernel_rfl) Tryd.underlying45
  refine ⟨t, ?_, ⟨u1, v1, h1⟩, ⟨u2, v2, h2⟩, low_of_var gSyn h1, low_of_var gRng h2⟩
  have := World.var?_cell gTab t 0
  exact Lib.lt_of_cell (v := .int .u64 1) (by rw [this]; kernel_rfl)
theorem LibVars.below {w w' : World} (h : LibVars w) (hb : Below w.heap.size w w') : LibVars w' := by
  obtain ⟨t, l, ⟨u1, v1, h1⟩, ⟨u2, v2, h2⟩, l1, l2⟩ := h
  exact ⟨var?_below hb gTab l t, Nat.lt_of_lt_of_le l hb.size, ⟨u1, v1, var?_below hb gSyn l1 h1⟩, ⟨u2, v2, var?_below hb gRng l2 h2⟩, Nat.lt_of_lt_of_le l1 hb.size, Nat.lt_of_lt_of_le l2 hb.size⟩
theorem impl_rddec_lib (s : ByteArray) (hs : s.size ≤ 1048576) (w : World) (hv : LibVars w) :
    Calls Tryd.prog 13 #[.string s] w fun e w' => e = .returned (.tuple #[.int .i64 (rdN s.data.toList), .bool (rdB s.data.toList)]) ∧ Below w.heap.size w w' := by
  obtain ⟨t, l, ⟨u1, v1, h1⟩, ⟨u2, v2, h2⟩, l1, l2⟩ := hv
  exact impl_rddec_any s hs w t u1 v1 h1 u2 v2 h2 l

set_option maxHeartbeats 400000 in
/-- The law's own walk. -/
theorem fnExactReadDec_walk (s : ByteArray) (hm : s.size ≤ maxLen) (w : World) (hL : laidMetH Tryd.prog Rows.fnExactReadDecRow.laid w) :
    Calls Tryd.prog 5 #[.string s] w fun e w' => e = .returned (.bool true) ∧ Below w.heap.size w w' := by
  rw [MakeChecks.laidMetH_plain _ _ _ (by kernel_rfl)] at hL
  have HV := Lib.hid (libVars_of hL)
  clear hL
  unfold maxLen at hm
  by_cases hbig : 1048576 < s.size
  · go_enter Tryd.func5, Tryd.ntmps5
    go_wp2
    go_ret
    exact ⟨rfl, Below.refl _ _⟩
  · go_enter Tryd.func5, Tryd.ntmps5
    go_wp2_with fail
    refine (spec_rddec_any s (by omega) _).mono ?_
    rintro e w1 ⟨rfl, hb1⟩
    go_wp2_with fail
    refine (impl_rddec_lib s (by omega) _ (HV.out.below hb1)).mono ?_
    rintro e w2 ⟨rfl, hb2⟩
    go_wp2
    go_ret
    exact ⟨rfl, below_step hb1 hb2⟩
end Go.Proofs.YtbpghjnkjakhnaaDoor
