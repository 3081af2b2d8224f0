/-
  Contracts of BitsOf, in both texts, and the law of BitsOf. Condition: the string is no longer than 1048576 bytes (the law asks no more).
-/
import Derived.Test.YtpifpemlljeglaaBitAt
import Derived.Test.YtpifpemlljeglaaInts
namespace Go.Proofs.Ytpifpemlljeglaa
open Go.RowKit
set_option linter.unusedVariables false

/-- The first `k` bits. -/
def bitsL (s : ByteArray) (k : Nat) : List Int := (List.range k).map fun (i : Nat) => (bitN s i : Int)
theorem bitsL_len (s : ByteArray) (k : Nat) : (bitsL s k).length = k := by simp [bitsL]
theorem bitsL_at (s : ByteArray) (k j : Nat) (h : j < k) : (bitsL s k).getD j 0 = (bitN s j : Int) := by
  rw [List.getD_eq_getElem?_getD]
  simp [bitsL, h]
theorem bitsL_snoc (s : ByteArray) (k : Nat) : bitsL s (k + 1) = bitsL s k ++ [(bitN s k : Int)] := by
  unfold bitsL
  rw [List.range_succ, List.map_append]
  rfl

set_option maxRecDepth 100000 in
set_option maxHeartbeats 1000000 in
theorem spec_bitsof_any (s : ByteArray) (hs : s.size ≤ 1048576) (w : World) :
    Calls Try.prog 26 #[.string s] w fun e w' => ∃ A cap, e = .returned (.slice A (bitsL s (8 * s.size)).length cap) ∧ OwnI w' w.heap.size A cap (bitsL s (8 * s.size)) ∧ Below w.heap.size w w' := by
  obtain ⟨i0, hi, hz0, hz1, hz2⟩ := info_parts Try.iinfo
  obtain ⟨n, hn⟩ : ∃ n, n = 8 * s.size := ⟨_, rfl⟩
  have hn8 : n ≤ 8388608 := by omega
  have hnI : 8 * (s.size : Int) = (n : Int) := by omega
  have hOI : ∀ w' A cap, OwnI w' w.heap.size A cap (bitsL s n) ↔ w'.ownsRow w.heap.size 3 1 (.slice A n cap) n (ivs (bitsL s n)) := fun w' A cap => by unfold OwnI; rw [bitsL_len]
  rw [← hn]
  simp only [hOI, bitsL_len]
  clear hOI
  have HN := Lib.hid hn; clear hn
  have HB := Lib.hid (spec_bitat_in s)
  go_enter Try.func26, Try.ntmps26
  go_wp2
  go_loopw [3, 4] (fun v i wr => ∃ j : Nat, j ≤ n ∧ i = .int .i64 j ∧ wr.ownsRow w.heap.size 3 1 v j (ivs (bitsL s j)) ∧ Below w.heap.size w wr)
    (fun _ i _ => n - (intOf i).toNat)
  case atStart => exact ⟨0, Nat.zero_le _, rfl, own_ints w w.heap.size [] (Nat.le_refl _) (by simp), (Below.refl _ _).alloc (Nat.le_refl _) _⟩
  case round =>
    obtain ⟨j, hj, rfl, hown, hbel⟩ := hrel
    by_cases hlt : j < n
    · have hq : decide ((j : Int) < 8 * (s.size : Int)) = true := by simp; omega
      go_wp2_with fail
      refine (HB.out j hs (by have := HN.out; omega) _).mono ?_
      rintro e w' ⟨rfl, rfl⟩
      go_wp2_with (at_builtin; refine append_one wr rfl (.tmp 13) (.tmp 17) 42 rfl w 3 i0 (.int .i64 0) 8 Try.underlying42 hi hz0 hz1 hz2 rfl _ _ _ rfl hown _ rfl rfl rfl (by omega) (by unfold maxLen; omega) hbel ?_; intro v' w' hown' hb')
      go_roundw
      case rel =>
        refine ⟨j + 1, by omega, by go_num, ?_, hb'⟩
        rw [bitsL_snoc, ivs_append]
        exact hown'
      case measure => simp [intOf]; omega
    · obtain rfl : j = n := by omega
      have hq : decide ((j : Int) < 8 * (s.size : Int)) = false := by simp; omega
      go_wp2
      go_ret
      rcases hown.2 with ⟨rfl, h0⟩ | ⟨g, cap, cur, rfl, _⟩
      · subst h0
        exact ⟨_, _, rfl, hown, hbel⟩
      · exact ⟨_, _, rfl, hown, hbel⟩

end Go.Proofs.Ytpifpemlljeglaa
