/-
  Contracts of the draws of the laws of chapter 8. Condition: the input is no longer than 1048576 bytes.
-/
import Derived.Test.YtgacldhpohnpaaaSymD
namespace Go.Proofs.Ytgacldhpohnpaaa
open Go.RowKit
set_option linter.unusedVariables false

/-- What the draw of a law over lengths leaves. -/
def CdOut (w : World) (e : Ending) (w' : World) : Prop :=
  ∃ (l : List Int) (A' : Option Addr) (c : Nat), e = .returned (.slice A' l.length c) ∧ l.length ≤ 6 ∧ Ints w' w'.heap.size A' l ∧ Below w.heap.size w w'

set_option maxRecDepth 100000 in
set_option maxHeartbeats 1000000 in
theorem drawcodes_ex (A : Option Addr) (cap : Nat) (zs : List Int) (w : World) (hW : Code w A zs) :
    Calls Try.prog 24 #[.slice A zs.length cap] w (CdOut w) := by
  have HN := Lib.hid (new_any A cap zs hW.few hW.bytes w hW.lies)
  clear hW
  go_enter Try.func24, Try.ntmps24
  go_wp2_with fail
  refine HN.out.mono ?_
  rintro e w1 ⟨rfl, hC1, hb1⟩
  have B1 := Lib.hid hb1; have G1 := Lib.hid hC1; clear hb1 hC1
  go_wp2_with fail
  refine (l8any_ex A cap zs 0 _ (Nat.zero_le _) _ _ G1.out).mono ?_
  rintro e w2 hout
  obtain ⟨l, A2, c2, i2, h2, rfl, hl6, hI2, -, -, -, hg2⟩ := hout
  have B2 := Lib.hid (B1.out.trans (grown_below hg2 (Nat.le_refl _) B1.out.size))
  have I2 := Lib.hid hI2
  clear hg2 hI2
  go_wp2
  go_ret
  exact ⟨l, A2, c2, rfl, hl6, I2.out, B2.out⟩
end Go.Proofs.Ytgacldhpohnpaaa
