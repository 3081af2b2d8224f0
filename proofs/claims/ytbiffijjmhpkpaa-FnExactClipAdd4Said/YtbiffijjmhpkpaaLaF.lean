/-
  Chapter 16: contracts of the model's Unpack4, AddLanes, ClipLanes. Condition: the numbers are those of an int.
-/
import Derived.Test.YtbiffijjmhpkpaaLaE
import Derived.Test.YtbiffijjmhpkpaaNbD
import Derived.Test.YtbiffijjmhpkpaaScanC
import Derived.RegionTactic
namespace Go.Proofs.Ytbiffijjmhpkpaa
open Go.RowKit
set_option linter.unusedVariables false

/-- What is left of a number behind j rounds. -/
def dvN (N j : Nat) : Nat := N / 65536 ^ j
theorem dvN_next (N j : Nat) : dvN N (j + 1) = dvN N j / 65536 := by unfold dvN; rw [Nat.pow_succ, Nat.div_div_eq_div_mul]
theorem upF_at (N : Nat) {j : Nat} (hj : j < 4) : (upF (N : Nat)).take (j + 1) = (upF (N : Nat)).take j ++ [((dvN N j : Nat) : Int) % 65536] := by
  rcases (show j = 0 ∨ j = 1 ∨ j = 2 ∨ j = 3 by omega) with rfl | rfl | rfl | rfl
  all_goals simp [upF, lnA, lnB, lnC, lnD, dvN, Nat.div_div_eq_div_mul]
set_option maxRecDepth 100000 in
set_option maxHeartbeats 2000000 in
theorem spec_unpack_in (N : Nat) (h1 : (N : Int) ≤ 9223372036854775807) (w : World) :
    Calls Try.prog 22 #[.int .i64 (N : Nat)] w fun e w' => ∃ A c, e = .returned (.slice A (upL (N : Nat)).length c) ∧ OwnI w' w.heap.size A c (upL (N : Nat)) ∧ Below w.heap.size w w' := by
  obtain ⟨i0, hi, hz0, hz1, hz2⟩ := info_parts Try.iinfo
  have O0 := Lib.hid (own_ints w w.heap.size [] (Nat.le_refl _) (by simp))
  have B0 := Lib.hid ((Below.refl w.heap.size w).alloc (Nat.le_refl _) (.cells (ivs []).toArray 3))
  have HNX := Lib.hid fun j (hj : j < 4) => upF_at N hj
  have HDV := Lib.hid (dvN_next N)
  have HD0 : Hid (dvN N 0 = N) := Lib.hid (by unfold dvN; simp)
  have HE : Hid (paqE (upF (N : Nat)) = upE (N : Nat)) := Lib.hid (by rw [paqE_upF]; unfold upE; rw [decide_eq_true (by omega), Bool.true_and])
  have HDL : Hid (∀ j, dvN N j ≤ N) := Lib.hid fun j => by unfold dvN; exact Nat.div_le_self _ _
  have SP := Lib.hid fun A cA w => spec_pack_any A cA (upF (N : Nat)) w
  have ON := Lib.hid (@upE_on (N : Nat)); have OFF := Lib.hid (@upE_off (N : Nat))
  obtain ⟨C, hC⟩ : ∃ C, C = upF (N : Nat) := ⟨_, rfl⟩
  have hCl : C.length = 4 := by rw [hC]; rfl
  rw [← hC] at HNX SP HE ON
  have HCL := Lib.hid hCl
  clear hC hCl
  go_enter Try.func22, Try.ntmps22
  go_wp2
  go_loopw [0, 3, 4] (fun n v i wr => ∃ j : Nat, j ≤ 4 ∧ n = .int .i64 (dvN N j : Nat) ∧ i = .int .i64 j ∧ wr.ownsRow w.heap.size 3 1 v j (ivs (C.take j)) ∧ Below w.heap.size w wr)
    (fun _ _ i _ => 4 - (intOf i).toNat)
  case atStart => exact ⟨0, Nat.zero_le _, by rw [HD0.out], rfl, O0.out, B0.out⟩
  case round =>
    obtain ⟨j, hj, rfl, rfl, hown, hbel⟩ := hrel
    by_cases hlt : j < 4
    · have d1 : decide ((j : Int) < 4) = true := by simp; omega
      have hnx := HNX.out j hlt
      have hdv := HDV.out j
      have hdl := HDL.out j
      obtain ⟨m, hm⟩ : ∃ m, m = dvN N j := ⟨_, rfl⟩
      rw [← hm] at hnx hdv hdl ⊢
      have HX := Lib.hid hnx; have HV := Lib.hid hdv
      have HB := Lib.hid hbel
      have O3 := hown
      clear hm hnx hdv hown hbel
      go_wp2_with (at_builtin; refine append_int wr rfl (.tmp 15) (.tmp 18) 24 rfl w.heap.size 3 i0 Try.underlying24 hi hz0 hz1 hz2 _ _ _ rfl O3 _ rfl rfl (by omega) HB.out.size ?_; intro v' w' hown' hgr hvb)
      have HO' := Lib.hid hown'
      have HG := Lib.hid hgr
      have HL := Lib.hid O3.lt
      clear hown' hgr hvb O3
      go_wp2
      go_roundw
      case rel => exact ⟨j + 1, by omega, by rw [HV.out]; rfl, by go_num, by rw [HX.out]; exact HO'.out, HB.out.grown HG.out HB.out.size fun k hk => (HL.out k hk).1⟩
      case measure => simp [intOf]; omega
    · obtain rfl : j = 4 := by omega
      have e1 : C.take 4 = C := List.take_of_length_le (by rw [HCL.out]; exact Nat.le_refl _)
      rw [e1] at hown
      obtain ⟨A3, c3, hv3, ho3⟩ := own_slice hown
      rw [HCL.out] at hv3
      subst hv3
      have S3 := Lib.hid (SP.out A3 c3 wr (ho3.ints (by rw [HCL.out]; decide)))
      rw [HCL.out, HE.out] at S3
      have O3 := Lib.hid ho3; have B3 := Lib.hid hbel
      have X0 := Lib.hid (own_ints wr w.heap.size [] hbel.size (by simp))
      have X1 := Lib.hid (hbel.alloc hbel.size (.cells (ivs []).toArray 3))
      clear hown hbel ho3 e1
      cases hu : upE (N : Nat) with
      | true =>
        rw [hu] at S3
        have HU := Lib.hid (ON.out hu)
        clear hu
        go_wp2_with fail
        refine S3.out.mono ?_
        rintro e w5 ⟨rfl, rfl⟩
        go_wp2
        go_ret
        rw [HU.out, HCL.out]
        exact ⟨_, _, rfl, O3.out, B3.out⟩
      | false =>
        rw [hu] at S3
        have HU := Lib.hid (OFF.out hu)
        clear hu
        go_wp2_with fail
        refine S3.out.mono ?_
        rintro e w5 ⟨rfl, rfl⟩
        go_wp2
        go_ret
        rw [HU.out]
        exact ⟨_, _, rfl, X0.out, X1.out⟩
set_option maxRecDepth 100000 in
set_option maxHeartbeats 2000000 in
theorem spec_unpack_any (n : Int) (h1 : n ≤ 9223372036854775807) (w : World) :
    Calls Try.prog 22 #[.int .i64 n] w fun e w' => ∃ A c, e = .returned (.slice A (upL n).length c) ∧ OwnI w' w.heap.size A c (upL n) ∧ Below w.heap.size w w' := by
  by_cases h0 : 0 ≤ n
  · obtain ⟨N, rfl⟩ := Int.eq_ofNat_of_zero_le h0
    exact spec_unpack_in N h1 w
  · have e : upL n = [] := upE_off (by unfold upE; rw [decide_eq_false h0]; rfl)
    rw [e]
    have d1 : decide (n < 0) = true := by simp; omega
    have O0 := Lib.hid (own_ints w w.heap.size [] (Nat.le_refl _) (by simp))
    have B0 := Lib.hid ((Below.refl w.heap.size w).alloc (Nat.le_refl _) (.cells (ivs []).toArray 3))
    clear e h0
    go_enter Try.func22, Try.ntmps22
    go_wp2
    go_ret
    exact ⟨_, _, rfl, O0.out, B0.out⟩
end Go.Proofs.Ytbiffijjmhpkpaa
