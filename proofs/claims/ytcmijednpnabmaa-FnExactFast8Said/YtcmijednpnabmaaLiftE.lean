/-
  Contracts of the program's Lift4, Lift8 and Columns, and of slices.Clone. Condition: the world is any; the row is any that a slice can hold.
-/
import Derived.Test.YtcmijednpnabmaaLiftD
import Derived.Test.YtcmijednpnabmaaLiftQ
namespace Go.Proofs.Ytcmijednpnabmaa
open Go.RowKit
set_option linter.unusedVariables false

/-- Columns and rows, twice: the product of the matrices too. -/
theorem rows_mul (n : Nat) (l : List Int) : rowsL n (colL n (rowsL n (colL n l))) = mulF n (matE n true) l := by
  refine sq_ext (rowsL_len _ _) (mulF_len _ _ _) fun y x hy hx => ?_
  rw [rowsL_at _ hy hx, mulF_at hy hx]
  have e1 : sumTo (fun i => matE n true x i * (colL n (rowsL n (colL n l))).getD (y * n + i) 0) n = sumTo (fun i => matE n true x i * sumTo (fun j => matE n true y j * l.getD (j * n + i) 0) n) n :=
    sumTo_congr n fun i hi => by rw [colL_at _ hy hi, rowsL_at _ hi hy]; exact congrArg _ (sumTo_congr n fun j hj => by rw [colL_at _ hi hj])
  rw [e1]
  exact sumTo_congr n fun i hi => Int.mul_comm _ _
theorem fast_fit' {n : Nat} {l : List Int} (h : fitL n l = true) : rowsL n (colL n (rowsL n (colL n l))) = xfR n true l := by rw [rows_mul, xfR_fit true h]
theorem trL_col (n : Nat) (l : List Int) : trL n l = colL n l := by
  refine sq_ext (trL_len _ _) (colL_len _ _) fun y x hy hx => ?_
  rw [colL_at _ hy hx]
  exact lsq_at hy hx
theorem own_nil (w : World) : OwnI w w.heap.size none 0 [] := World.ownsRow_nil w w.heap.size 3 1

set_option maxRecDepth 100000 in
set_option maxHeartbeats 2000000 in
theorem clone_some (A : Option Addr) (ca : Nat) (l : List Int) (hpos : 0 < l.length) (hlt : l.length ≤ 1000) (w : World) (hA : Ints w w.heap.size A l) :
    Calls Try.prog 54 #[.slice A l.length ca] w fun e w' => ∃ A' c, e = .returned (.slice A' l.length c) ∧ OwnI w' w.heap.size A' c l ∧ Below w.heap.size w w' := by
  obtain ⟨i0, hi, hz0, hz1, hz2⟩ := info_parts Try.iinfo
  have O0 := Lib.hid (own_ints w w.heap.size [] (Nat.le_refl _) (by simp))
  have B0 := Lib.hid ((Below.refl w.heap.size w).alloc (Nat.le_refl _) (.cells (ivs []).toArray 3))
  have HA := Lib.hid (hA.below B0.out (Nat.le_refl _))
  obtain ⟨b, off, rfl, -, -⟩ := hA.at 0 hpos
  have PA : Hid (Placed (some ⟨b, off, none⟩) ca) := Lib.hid (by intro h; cases h)
  obtain ⟨n, hn⟩ : ∃ n, n = l.length := ⟨_, rfl⟩
  have HN := Lib.hid hn
  rw [← hn] at hlt ⊢
  have he : ∀ w : World, (binOp .eql 22 (.slice (some ⟨b, off, none⟩) n ca) (.slice none 0 0)).run Try.prog w = .ok (.bool false) w := fun _ => rfl
  clear hA hn hpos
  go_enter Try.func54, Try.ntmps54
  go_wp2_with (at_builtin; refine append_ints rfl (.tmp 5) (.tmp 6) 22 rfl w i0 Try.underlying22 hi hz0 hz1 hz2 _ _ _ rfl O0.out _ _ _ l HN.out rfl _ HA.out PA.out (by simp; omega) B0.out ?_; intro v' w1 hown hbel)
  rw [List.nil_append, List.length_nil, Nat.zero_add] at hown
  obtain ⟨Av, c, rfl⟩ := own_form3 hown
  have O1 := Lib.hid hown; have B1 := Lib.hid hbel
  clear hown hbel
  go_wp2
  go_ret
  exact ⟨_, _, rfl, own_back O1.out HN.out.symm, B1.out⟩

set_option maxRecDepth 100000 in
set_option maxHeartbeats 2000000 in
theorem lifted_four (A : Option Addr) (ca : Nat) (l : List Int) (w : World) (hA : Ints w w.heap.size A l) :
    Calls Try.prog 38 #[.slice A l.length ca, .int .i64 4, .func (.func 39) #[] #[]] w fun e w' => ∃ A' c, e = .returned (.slice A' (liR 4 l).length c) ∧ OwnI w' w.heap.size A' c (liR 4 l) ∧ Below w.heap.size w w' := by
  by_cases ha : l.length = 4
  · have CL := Lib.hid (clone_some A ca l (by omega) (by omega) w hA)
    rw [liR_full ha]
    rw [ha] at CL ⊢
    have HL := Lib.hid ha; have LP := Lib.hid @lift_four_part
    clear hA ha
    go_enter Try.func38, Try.ntmps38
    go_wp2_with fail
    refine CL.out.mono ?_
    rintro e w1 ⟨A1, c1, rfl, ho1, hb1⟩
    unfold OwnI at ho1
    rw [HL.out] at ho1
    obtain ⟨g, rfl, hbg, hgs, -, -⟩ := own_where' ho1 HL.out (by decide)
    have hP : PartI w1 w.heap.size g 4 c1 l 0 l := by
      unfold PartI
      rw [putP_all l l rfl]
      exact ho1
    have LX := Lib.hid (LP.out w.heap.size g 4 c1 0 c1 l l HL.out HL.out (by decide) (by decide) w1 hP)
    have B1 := Lib.hid hb1; have G1 := Lib.hid hbg
    clear ho1 hb1 hbg hP
    go_wp2_with fail
    refine LX.out.mono ?_
    rintro e w2 ⟨rfl, ho2, hg2⟩
    have B2 := Lib.hid (B1.out.trans (part_below hg2 G1.out B1.out.size))
    unfold PartI at ho2
    rw [putP_all _ _ (by rw [liR_full HL.out]; exact HL.out.symm)] at ho2
    have O2 := Lib.hid ho2
    clear ho2 hg2
    go_wp2
    go_ret
    exact ⟨_, _, rfl, own_back O2.out (liR_full HL.out), B2.out⟩
  · rw [liR_no ha]
    have hnm := hA.1
    obtain ⟨n, hn⟩ : ∃ n, n = l.length := ⟨_, rfl⟩
    rw [← hn] at ha hnm ⊢
    have hq : ((n : Int) != 4) = true := by rw [bne_iff_ne]; omega
    have O0 := Lib.hid (own_nil w); have B0 := Lib.hid (Below.refl w.heap.size w)
    clear hn ha hA
    go_enter Try.func38, Try.ntmps38
    go_wp2
    go_ret
    exact ⟨_, _, rfl, O0.out, B0.out⟩

set_option maxRecDepth 100000 in
set_option maxHeartbeats 1000000 in
theorem impl_lift4_any (A : Option Addr) (ca : Nat) (l : List Int) (w : World) (hA : Ints w w.heap.size A l) :
    Calls Try.prog 14 #[.slice A l.length ca] w fun e w' => ∃ A' c, e = .returned (.slice A' (liR 4 l).length c) ∧ OwnI w' w.heap.size A' c (liR 4 l) ∧ Below w.heap.size w w' := by
  have SO := Lib.hid (lifted_four A ca l w hA)
  obtain ⟨z, hz⟩ : ∃ z, z = liR 4 l := ⟨_, rfl⟩
  rw [← hz] at SO ⊢
  obtain ⟨n, hn⟩ : ∃ n, n = l.length := ⟨_, rfl⟩
  rw [← hn] at SO ⊢
  clear hA hz hn
  go_enter Try.func14, Try.ntmps14
  go_wp2_with fail
  refine SO.out.mono ?_
  rintro e w1 ⟨A1, c1, rfl, ho1, hb1⟩
  have O1 := Lib.hid ho1; have B1 := Lib.hid hb1
  clear ho1 hb1
  go_wp2
  go_ret
  exact ⟨_, _, rfl, O1.out, B1.out⟩

set_option maxRecDepth 100000 in
set_option maxHeartbeats 2000000 in
theorem lifted_eight (A : Option Addr) (ca : Nat) (l : List Int) (w : World) (hA : Ints w w.heap.size A l) :
    Calls Try.prog 38 #[.slice A l.length ca, .int .i64 8, .func (.func 40) #[] #[]] w fun e w' => ∃ A' c, e = .returned (.slice A' (liR 8 l).length c) ∧ OwnI w' w.heap.size A' c (liR 8 l) ∧ Below w.heap.size w w' := by
  by_cases ha : l.length = 8
  · have CL := Lib.hid (clone_some A ca l (by omega) (by omega) w hA)
    rw [liR_full ha]
    rw [ha] at CL ⊢
    have HL := Lib.hid ha; have LP := Lib.hid @lift_eight_part
    clear hA ha
    go_enter Try.func38, Try.ntmps38
    go_wp2_with fail
    refine CL.out.mono ?_
    rintro e w1 ⟨A1, c1, rfl, ho1, hb1⟩
    unfold OwnI at ho1
    rw [HL.out] at ho1
    obtain ⟨g, rfl, hbg, hgs, -, -⟩ := own_where' ho1 HL.out (by decide)
    have hP : PartI w1 w.heap.size g 8 c1 l 0 l := by
      unfold PartI
      rw [putP_all l l rfl]
      exact ho1
    have LX := Lib.hid (LP.out w.heap.size g 8 c1 0 c1 l l HL.out HL.out (by decide) (by decide) w1 hP)
    have B1 := Lib.hid hb1; have G1 := Lib.hid hbg
    clear ho1 hb1 hbg hP
    go_wp2_with fail
    refine LX.out.mono ?_
    rintro e w2 ⟨rfl, ho2, hg2⟩
    have B2 := Lib.hid (B1.out.trans (part_below hg2 G1.out B1.out.size))
    unfold PartI at ho2
    rw [putP_all _ _ (by rw [liR_full HL.out]; exact HL.out.symm)] at ho2
    have O2 := Lib.hid ho2
    clear ho2 hg2
    go_wp2
    go_ret
    exact ⟨_, _, rfl, own_back O2.out (liR_full HL.out), B2.out⟩
  · rw [liR_no ha]
    have hnm := hA.1
    obtain ⟨n, hn⟩ : ∃ n, n = l.length := ⟨_, rfl⟩
    rw [← hn] at ha hnm ⊢
    have hq : ((n : Int) != 8) = true := by rw [bne_iff_ne]; omega
    have O0 := Lib.hid (own_nil w); have B0 := Lib.hid (Below.refl w.heap.size w)
    clear hn ha hA
    go_enter Try.func38, Try.ntmps38
    go_wp2
    go_ret
    exact ⟨_, _, rfl, O0.out, B0.out⟩

set_option maxRecDepth 100000 in
set_option maxHeartbeats 1000000 in
theorem impl_lift8_any (A : Option Addr) (ca : Nat) (l : List Int) (w : World) (hA : Ints w w.heap.size A l) :
    Calls Try.prog 19 #[.slice A l.length ca] w fun e w' => ∃ A' c, e = .returned (.slice A' (liR 8 l).length c) ∧ OwnI w' w.heap.size A' c (liR 8 l) ∧ Below w.heap.size w w' := by
  have SO := Lib.hid (lifted_eight A ca l w hA)
  obtain ⟨z, hz⟩ : ∃ z, z = liR 8 l := ⟨_, rfl⟩
  rw [← hz] at SO ⊢
  obtain ⟨n, hn⟩ : ∃ n, n = l.length := ⟨_, rfl⟩
  rw [← hn] at SO ⊢
  clear hA hz hn
  go_enter Try.func19, Try.ntmps19
  go_wp2_with fail
  refine SO.out.mono ?_
  rintro e w1 ⟨A1, c1, rfl, ho1, hb1⟩
  have O1 := Lib.hid ho1; have B1 := Lib.hid hb1
  clear ho1 hb1
  go_wp2
  go_ret
  exact ⟨_, _, rfl, O1.out, B1.out⟩

set_option maxRecDepth 100000 in
set_option maxHeartbeats 1000000 in
theorem impl_columns_16 (A : Option Addr) (ca : Nat) (l : List Int) (hl : l.length = 16) (w : World) (hA : Ints w w.heap.size A l) :
    Calls Try.prog 21 #[.slice A 16 ca] w fun e w' => ∃ A' c, e = .returned (.slice A' 16 c) ∧ OwnI w' w.heap.size A' c (colL 4 l) ∧ Below w.heap.size w w' := by
  have TR := Lib.hid (impl_transposed_4 A ca l hl w hA)
  have SD := Lib.hid (impl_side_any 16)
  rw [trL_col, show sideN 16 = 4 from rfl] at *
  clear hA hl
  go_enter Try.func21, Try.ntmps21
  go_wp2_with fail
  refine (SD.out _).mono ?_
  rintro e w1 ⟨rfl, hw⟩
  subst hw
  go_wp2_with fail
  refine TR.out.mono ?_
  rintro e w1 ⟨A1, c1, rfl, ho1, hb1⟩
  have O1 := Lib.hid ho1; have B1 := Lib.hid hb1
  clear ho1 hb1
  go_wp2
  go_ret
  exact ⟨_, _, rfl, O1.out, B1.out⟩

set_option maxRecDepth 100000 in
set_option maxHeartbeats 1000000 in
theorem impl_columns_64 (A : Option Addr) (ca : Nat) (l : List Int) (hl : l.length = 64) (w : World) (hA : Ints w w.heap.size A l) :
    Calls Try.prog 21 #[.slice A 64 ca] w fun e w' => ∃ A' c, e = .returned (.slice A' 64 c) ∧ OwnI w' w.heap.size A' c (colL 8 l) ∧ Below w.heap.size w w' := by
  have TR := Lib.hid (impl_transposed_8 A ca l hl w hA)
  have SD := Lib.hid (impl_side_any 64)
  rw [trL_col, show sideN 64 = 8 from rfl] at *
  clear hA hl
  go_enter Try.func21, Try.ntmps21
  go_wp2_with fail
  refine (SD.out _).mono ?_
  rintro e w1 ⟨rfl, hw⟩
  subst hw
  go_wp2_with fail
  refine TR.out.mono ?_
  rintro e w1 ⟨A1, c1, rfl, ho1, hb1⟩
  have O1 := Lib.hid ho1; have B1 := Lib.hid hb1
  clear ho1 hb1
  go_wp2
  go_ret
  exact ⟨_, _, rfl, O1.out, B1.out⟩

set_option maxRecDepth 100000 in
set_option maxHeartbeats 1000000 in
theorem impl_columns_any (A : Option Addr) (ca : Nat) (l : List Int) (w : World) (hA : Ints w w.heap.size A l) :
    Calls Try.prog 21 #[.slice A l.length ca] w fun e w' => ∃ A' c, e = .returned (.slice A' (clR l).length c) ∧ OwnI w' w.heap.size A' c (clR l) ∧ Below w.heap.size w w' := by
  by_cases h1 : l.length = 16
  · rw [clR_four h1, colL_len, h1]
    exact impl_columns_16 A ca l h1 w hA
  by_cases h2 : l.length = 64
  · rw [clR_eight h2, colL_len, h2]
    exact impl_columns_64 A ca l h2 w hA
  rw [clR_no h1 h2]
  have SD := Lib.hid (impl_side_any l.length)
  have hs : sideN l.length = 0 := by unfold sideN; rw [if_neg h1, if_neg h2]
  rw [hs] at SD
  have O0 := Lib.hid (own_nil w); have B0 := Lib.hid (Below.refl w.heap.size w)
  obtain ⟨n, hn⟩ : ∃ n, n = l.length := ⟨_, rfl⟩
  rw [← hn] at SD ⊢
  clear hA hs hn h1 h2
  go_enter Try.func21, Try.ntmps21
  go_wp2_with fail
  refine (SD.out _).mono ?_
  rintro e w1 ⟨rfl, hw⟩
  subst hw
  go_wp2
  go_ret
  exact ⟨_, _, rfl, O0.out, B0.out⟩
end Go.Proofs.Ytcmijednpnabmaa
