/-
  Contracts of chapter 10's draws. Condition: the input is no longer than 1048576 bytes.
-/
import Derived.Test.YtgccphidnbfcaaaDoorRunD
import Derived.Test.YtgccphidnbfcaaaDoorDw
import Derived.Deep.Cut
import Derived.Deep.DeepCutAuto
import Derived.Deep.RegionLaw
namespace Go.Proofs.YtgccphidnbfcaaaDoor
open Go.RowKit
set_option linter.unusedVariables false

theorem l10levels_dw (A : Option Addr) (cap : Nat) (zs : List Int) (w0 w : World) (g : Nat) (h : Dw g A cap zs w0 w) :
    Calls Tryd.prog 34 #[.pointer (some ⟨g, 0, none⟩)] w fun e w' => ∃ (l : List Int) (A' : Option Addr) (c : Nat), e = .returned (.slice A' l.length c) ∧ l.length ≤ 64 ∧ OwnI w' w.heap.size A' c l ∧ Dw g A cap zs w0 w' ∧ w.grownBy w' (some g) := by
  obtain ⟨i, x, hC, hg⟩ := h
  refine (l10levels_ex A cap zs i x hC.le w g hC).mono ?_
  rintro e w' ⟨l, A', c, i', h', rfl, hl, hO, li, hC', hg'⟩
  exact ⟨l, A', c, rfl, hl, hO, ⟨_, _, hC', hg.trans hg'⟩, hg'⟩

end Go.Proofs.YtgccphidnbfcaaaDoor
