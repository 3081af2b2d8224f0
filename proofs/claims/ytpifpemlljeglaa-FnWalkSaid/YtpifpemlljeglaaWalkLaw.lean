/-
  The walk of the law on reading a string in parts from a cache, its cases joined. No condition.
-/
import Derived.Test.YtpifpemlljeglaaWalk
namespace Go.Proofs.Ytpifpemlljeglaa
open Go.RowKit
set_option linter.unusedVariables false

set_option maxRecDepth 100000 in
set_option maxHeartbeats 400000 in
theorem walk_big (a : Option Addr) (cap len : Nat) (h : 1048576 < len) (hm : len ≤ 9223372036854775807) (w : World) :
    Calls Try.prog 4 #[.slice a len cap] w fun e w' => e = .returned (.bool true) ∧ Below w.heap.size w w' := by
  have hq : decide (1048576 < (len : Int)) = true := by simp; omega
  have BG := Lib.hid (big_any a len cap hm)
  rw [hq] at BG
  go_enter Try.func4, Try.ntmps4
  go_wp2_with fail
  refine (BG.out _).mono ?_
  rintro e w' ⟨rfl, rfl⟩
  go_wp2
  go_ret
  exact ⟨rfl, Below.refl _ _⟩

/-- The law's own walk. -/
theorem fnWalk_walk (a : Option Addr) (len cap : Nat) (zs : List Int) (w : World) (h : IsRow .u8 w a len cap zs) :
    Calls Try.prog 4 #[.slice a len cap] w fun e w' => e = .returned (.bool true) ∧ Below w.heap.size w w' := by
  have hlm := h.len_le
  unfold maxLen at hlm
  by_cases hbig : 1048576 < len
  · exact walk_big a cap len hbig (by omega) w
  obtain ⟨ys, rfl, hW⟩ := code_of h (by omega)
  have hbigF : decide (1048576 < (ys.length : Int)) = false := by simp; omega
  obtain ⟨l, hl, CD⟩ := drawCacheNew_det a cap ys
  exact walk_in a cap ys w hW ys.length rfl (bs l) (by rw [bs_size]; exact hl) hbigF (Lib.hid (big_any a ys.length cap (by omega))) (Lib.hid CD) (Lib.hid fun i hi => at_det a cap ys (by omega) i hi)
end Go.Proofs.Ytpifpemlljeglaa
