/-
  The contract of the cursor's making. Condition: the input is no longer than 1048576 bytes.
-/
import Derived.Test.YthiplncceglnhaaDraw
namespace Go.Proofs.Ythiplncceglnhaa
open Go.RowKit
set_option linter.unusedVariables false

/-- The first mixed number, byte by byte. -/
def hashF (zs : List Int) : Nat → Int
  | 0 => 10101 + zs.length
  | k + 1 => (hashF zs k * 131 + zs.getD k 0 + 7) % 1073741824
theorem hashF_range (zs : List Int) (h : zs.length ≤ 1048576) (k : Nat) : 0 ≤ hashF zs k ∧ hashF zs k < 1073741824 := by
  cases k with
  | zero => unfold hashF; omega
  | succ k => unfold hashF; omega

set_option maxRecDepth 100000 in
set_option maxHeartbeats 1000000 in
theorem new_any (A : Option Addr) (cap : Nat) (zs : List Int) (hfew : zs.length ≤ 1048576) (hz : ∀ j, j < zs.length → 0 ≤ zs.getD j 0 ∧ zs.getD j 0 < 256) (w : World) (hL : Lies w w.heap.size A zs) :
    Calls Try.prog 27 #[.slice A zs.length cap] w fun e w' => e = .returned (.pointer (some ⟨w.heap.size, 0, none⟩)) ∧ Cursor w' w.heap.size A cap zs 0 (hashF zs (min zs.length 4000)) ∧ Below w.heap.size w w' := by
  obtain ⟨n, hn⟩ : ∃ n, n = zs.length := ⟨_, rfl⟩
  obtain ⟨M, hM⟩ : ∃ M : Nat, M = min zs.length 4000 := ⟨_, rfl⟩
  rw [← hM]
  have hMn : M ≤ n := by omega
  have hM4 : M ≤ 4000 := by omega
  have hMe : M < 4000 → n ≤ M := by omega
  have HR := Lib.hid (hashF_range zs hfew)
  have HF := Lib.hid hfew
  have h00 : hashF zs 0 = 10101 + (n : Int) := by rw [hn]; rfl
  have H00 := Lib.hid h00; clear h00
  have HZ := Lib.hid hz; clear hz
  have HL := Lib.hid hL; clear hL
  rw [← hn] at hfew ⊢
  have HN := Lib.hid hn
  clear hM hn
  go_enter Try.func27, Try.ntmps27
  go_wp2
  go_loop [3, 4] (fun hh i => ∃ k : Nat, k ≤ M ∧ i = .int .i64 k ∧ hh = .int .i64 (hashF zs k)) (fun _ i => M - (intOf i).toNat)
  case atStart => exact ⟨0, Nat.zero_le _, rfl, by rw [H00.out]⟩
  case round =>
    obtain ⟨k, hk, rfl, rfl⟩ := hrel
    obtain ⟨r0, r1⟩ := HR.out k
    by_cases hlt : k < M
    · have hkn : k < n := by omega
      rcases HL.out with h0 | ⟨b, off, rfl, hbg, hrow⟩
      · have := HN.out; rw [h0] at this; simp at this; omega
      have hv := hrow k (by rw [← HN.out]; exact hkn)
      obtain ⟨v0, v9⟩ := HZ.out k (by rw [← HN.out]; exact hkn)
      have hs : hashF zs (k + 1) = (hashF zs k * 131 + zs.getD k 0 + 7) % 1073741824 := rfl
      obtain ⟨v, hvd⟩ : ∃ v, v = zs.getD k 0 := ⟨_, rfl⟩
      obtain ⟨c, hcd⟩ : ∃ c, c = hashF zs k := ⟨_, rfl⟩
      rw [← hvd] at hv v0 v9 hs
      rw [← hcd] at hs r0 r1
      have hand : bits .and .i64 (c * 131 + v + 7) 1073741823 = (c * 131 + v + 7) % 1073741824 := and_i64 30 _ _ rfl (by omega) (by omega) (by omega)
      have HS := Lib.hid hs; clear hs hrow
      have HCD := Lib.hid hcd
      rw [← hcd]
      clear hcd hvd
      have hk4 : decide ((k : Int) < 4000) = true := by simp; omega
      have hkI : (k : Int) < (n : Int) := by omega
      go_wp2
      go_round
      case rel => exact ⟨k + 1, by omega, by go_num, by rw [HS.out]⟩
      case measure => simp [intOf]; omega
    · obtain rfl : k = M := by omega
      obtain ⟨c, hcd⟩ : ∃ c, c = hashF zs k := ⟨_, rfl⟩
      rw [← hcd] at r0 r1 ⊢
      have HCD := Lib.hid hcd; clear hcd
      have hex : ((k : Int) < (n : Int) ∧ decide ((k : Int) < 4000) = false) ∨ (n : Int) ≤ (k : Int) := by
        by_cases h : k < n
        · left; exact ⟨by omega, by simp; omega⟩
        · right; omega
      have fin : ∀ h : Int, Cursor (w.alloc (.cells #[.slice A n cap, .int .i64 0, .int .i64 h] 81)) w.heap.size A cap zs 0 h := fun h =>
        ⟨HF.out, Nat.zero_le _, by rw [← HN.out]; exact heap_alloc_new w _, HL.out.kept fun j hj => Below.heap_alloc _ _ _ hj⟩
      have FIN := Lib.hid fin; clear fin
      clear hMe hM4 hlt hMn
      rcases hex with ⟨hx1, hx2⟩ | hx1
      all_goals
        go_wp2
        go_ret
        exact ⟨rfl, by rw [← HCD.out]; exact FIN.out _, (Below.refl _ _).alloc (Nat.le_refl _) _⟩
end Go.Proofs.Ythiplncceglnhaa
