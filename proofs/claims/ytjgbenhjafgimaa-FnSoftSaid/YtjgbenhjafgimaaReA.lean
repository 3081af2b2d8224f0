/-
  Chapter 19: what Recon and Residual answer, and the contracts of the model's l19Two, Recon and Residual. No condition.
-/
import Derived.Test.YtjgbenhjafgimaaLaA
namespace Go.Proofs.Ytjgbenhjafgimaa
open Go.RowKit
set_option linter.unusedVariables false

/-- Are two lists squares of one size, the first one of samples? -/
def twoOk (p r : List Int) : Bool := sizeV p.length && decide (p.length = r.length) && p.all pixE
theorem twoOk_parts {p r : List Int} (h : twoOk p r = true) : (p.length = 16 ∨ p.length = 64) ∧ p.length = r.length ∧ p.all pixE = true := by
  simp only [twoOk, Bool.and_eq_true, decide_eq_true_eq] at h
  exact ⟨sizeV_len h.1.1, h.1.2, h.2⟩
theorem pix_at {p : List Int} (h : p.all pixE = true) (i : Nat) (hi : i < p.length) : 0 ≤ p.getD i 0 ∧ p.getD i 0 ≤ 255 := by
  rw [List.all_eq_true] at h
  have := h p[i] (List.getElem_mem _)
  rw [List.getD_eq_getElem?_getD, List.getElem?_eq_getElem hi]
  exact pixE_true this
/-- What Recon answers. -/
def reAt (p r : List Int) (i : Nat) : Int := clipV (p.getD i 0 + lim 1000000 (r.getD i 0))
def reF (p r : List Int) : List Int := (List.range p.length).map (reAt p r)
def reL (p r : List Int) : List Int := if twoOk p r = true then reF p r else []
theorem reF_len (p r : List Int) : (reF p r).length = p.length := by simp [reF]
theorem reF_at (p r : List Int) {i : Nat} (hi : i < p.length) : (reF p r).getD i 0 = reAt p r i := by
  rw [List.getD_eq_getElem?_getD, reF, List.getElem?_map, List.getElem?_range hi]
  rfl
theorem reF_next (p r : List Int) {i : Nat} (hi : i < p.length) : (reF p r).take (i + 1) = (reF p r).take i ++ [reAt p r i] := by
  rw [take_snoc_q _ i (by rw [reF_len]; exact hi), reF_at p r hi]
theorem reL_len (p r : List Int) : (reL p r).length ≤ 64 := by
  unfold reL
  split
  · rename_i h
    have := (twoOk_parts h).1
    rw [reF_len]; omega
  · simp
/-- Four at a time come to the same. -/
theorem re_four {x r : Int} (hx : 0 ≤ x ∧ x ≤ 255) : clipV (x + lim 1023 r) = clipV (x + lim 1000000 r) := by unfold clipV lim; omega
/-- What Residual answers. -/
def rsF (f p : List Int) : List Int := (List.range p.length).map fun i => f.getD i 0 - p.getD i 0
def rsL (f p : List Int) : List Int := if twoOk p f = true ∧ f.all pixE = true then rsF f p else []
theorem rsF_len (f p : List Int) : (rsF f p).length = p.length := by simp [rsF]
theorem rsF_at (f p : List Int) {i : Nat} (hi : i < p.length) : (rsF f p).getD i 0 = f.getD i 0 - p.getD i 0 := by
  rw [List.getD_eq_getElem?_getD, rsF, List.getElem?_map, List.getElem?_range hi]
  rfl
theorem rsF_next (f p : List Int) {i : Nat} (hi : i < p.length) : (rsF f p).take (i + 1) = (rsF f p).take i ++ [f.getD i 0 - p.getD i 0] := by
  rw [take_snoc_q _ i (by rw [rsF_len]; exact hi), rsF_at f p hi]
theorem rsL_len (f p : List Int) : (rsL f p).length ≤ 64 := by
  unfold rsL
  split
  · rename_i h
    have := (twoOk_parts h.1).1
    rw [rsF_len]; omega
  · simp
theorem lim_mega (x : Int) : ∃ y : Int, (if x < 1000000 then x else (1000000 : Int)) = y ∧ (if (-1000000 : Int) < y then y else -1000000) = lim 1000000 x :=
  ⟨_, rfl, by unfold lim; split <;> split <;> omega⟩

end Go.Proofs.Ytjgbenhjafgimaa
