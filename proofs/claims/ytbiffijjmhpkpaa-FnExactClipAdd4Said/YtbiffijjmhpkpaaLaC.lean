/-
  Chapter 16: the contract of the program's Unpack4. Condition: the number is one of an int.
-/
import Derived.Test.YtbiffijjmhpkpaaLaB
namespace Go.Proofs.Ytbiffijjmhpkpaa
open Go.RowKit
set_option linter.unusedVariables false

set_option maxRecDepth 100000 in
set_option maxHeartbeats 1000000 in
theorem impl_unpack_in (n : Int) (n0 : 0 ≤ n) (n1 : n ≤ 9223372036854775807) (PK : Hid (∀ w, Calls Try.prog 32 #[.int .i64 n] w fun e w' => e = .returned (.bool true) ∧ w = w')) (w : World) :
    Calls Try.prog 14 #[.int .i64 n] w fun e w' => ∃ A c, e = .returned (.slice A 4 c) ∧ OwnI w' w.heap.size A c (upF n) ∧ Below w.heap.size w w' := by
  obtain ⟨N, rfl⟩ := Int.eq_ofNat_of_zero_le n0
  have O := Lib.hid (own_ints w w.heap.size (upF (N : Nat)) (Nat.le_refl _) (by simp [upF, maxLen]))
  have B := Lib.hid (below_new w (.cells (ivs (upF (N : Nat))).toArray 3))
  have hu : upF (N : Nat) = [(N : Int) % 65536, (N : Int) / 65536 % 65536, (N : Int) / 65536 / 65536 % 65536, (N : Int) / 65536 / 65536 / 65536 % 65536] := by
    unfold upF lnA lnB lnC lnD
    simp
  rw [hu] at O B ⊢
  have M1 : (N : Int).tmod 65536 = (N : Int) % 65536 := Int.tmod_eq_emod_of_nonneg (by omega)
  clear hu
  have hmk : ∀ w : World, (Instr.makeSlice 24 (.int .i64 4) (.int .i64 4)).run Try.prog w = .ok (.slice (some ⟨w.heap.size, 0, none⟩) 4 4) (w.alloc (.cells #[.int .i64 0, .int .i64 0, .int .i64 0, .int .i64 0] 3)) := make_ints 4 4 (by decide) (by decide)
  go_enter Try.func14, Try.ntmps14
  go_wp2_with fail
  refine (PK.out _).mono ?_
  rintro e w1 ⟨rfl, rfl⟩
  go_wp2
  refine wp_loop_rounds 5 ?_
  rw [rounds_succ]
  go_wp2
  rw [rounds_succ]
  go_wp2
  rw [rounds_succ]
  go_wp2
  rw [rounds_succ]
  go_wp2
  rw [rounds_succ]
  go_wp2
  go_ret
  exact ⟨_, _, rfl, O.out, B.out⟩
set_option maxRecDepth 100000 in
set_option maxHeartbeats 1000000 in
theorem impl_unpack_any (n : Int) (n0 : -9223372036854775808 ≤ n) (n1 : n ≤ 9223372036854775807) (w : World) :
    Calls Try.prog 14 #[.int .i64 n] w fun e w' => ∃ A c, e = .returned (.slice A (upL n).length c) ∧ OwnI w' w.heap.size A c (upL n) ∧ Below w.heap.size w w' := by
  have PK := Lib.hid (impl_packedok_any n n0 n1)
  cases hn : upE n with
  | true =>
    have h0 : 0 ≤ n := by unfold upE at hn; simp only [Bool.and_eq_true, decide_eq_true_eq] at hn; exact hn.1
    rw [hn] at PK
    rw [upE_len hn, upE_on hn]
    exact impl_unpack_in n h0 n1 PK w
  | false =>
    rw [upE_off hn]
    rw [hn] at PK
    have O0 : Hid (OwnI w w.heap.size none 0 []) := Lib.hid (World.ownsRow_nil _ w.heap.size 3 1)
    clear hn
    go_enter Try.func14, Try.ntmps14
    go_wp2_with fail
    refine (PK.out _).mono ?_
    rintro e w1 ⟨rfl, rfl⟩
    go_wp2
    go_ret
    exact ⟨_, _, rfl, O0.out, Below.refl _ _⟩
end Go.Proofs.Ytbiffijjmhpkpaa
