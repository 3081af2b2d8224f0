/-
  The package's table of steps, as the statements list it: what it reads as when the call begins, and that it reads so behind the call.
-/
import Derived.Test.YtgccphidnbfcaaaDoorRows
import Derived.Test.YtgccphidnbfcaaaDoorQuantA
import Derived.ProofKit
import Derived.ChangeVars
import Derived.ChangeSame
import Derived.LaidMore
import Derived.MakeChecks
namespace Go.Proofs.YtgccphidnbfcaaaDoor
open Go.ChangeShapes Go.WideShapes Go.ChangeAt Go.RowKit
set_option linter.unusedVariables false

theorem Tryd.gSteps : Tryd.prog.globalNamed "loop.example/g01613/impl.baseSteps" = some 0 := by kernel_rfl
theorem Tryd.gStepsType : (Tryd.prog.globals[0]?).map (·.type) = some 38 := by kernel_rfl
theorem Tryd.cellsArr : Tryd.prog.cellsOf 38 = 6 := by kernel_rfl
theorem Tryd.cellsInt : Tryd.prog.cellsOf 3 = 1 := by kernel_rfl

theorem int_of_trod {H : Type} {enc : TypeId × Value → H} {P : Program} {w : World} {base : Nat} {sp : Nat → Bool} {held : Bool} {fuel : Nat} {t : TypeId} {k : IntKind} {c : Value} {y : DataW H × List MemPlace}
    (ht : P.underlying t = some (.int k)) (h : DataW.trod enc P w base sp held fuel t [c] = some y) : ∃ n, c = .int k n ∧ y = (.lit (.int k n), []) := by
  cases fuel with
  | zero => simp [DataW.trod] at h
  | succ fuel =>
    cases c <;> simp [DataW.trod, ht] at h
    rename_i k' n
    obtain ⟨⟨rfl, _⟩, rfl⟩ := h
    exact ⟨n, rfl, rfl⟩

def stepCells : Array Value := #[.int .i64 8, .int .i64 9, .int .i64 10, .int .i64 11, .int .i64 13, .int .i64 14]
abbrev stepData {H : Type} : DataW H := .agg [.lit (.int .i64 8), .lit (.int .i64 9), .lit (.int .i64 10), .lit (.int .i64 11), .lit (.int .i64 13), .lit (.int .i64 14)]

theorem steps_of_laid {W : World} (h : laidMetH Tryd.prog [("loop.example/g01613/impl.baseSteps", Rows.laid_loop_example_g01613_impl_baseSteps)] W) : W.var? Tryd.prog "loop.example/g01613/impl.baseSteps" = some stepCells := by
  rw [MakeChecks.laidMetH_plain _ _ _ (by kernel_rfl)] at h
  obtain ⟨ps, ⟨g, t, cs, fuel, p, q, hg, ht, hvar, hd, _, _⟩, _⟩ := h
  obtain rfl := Option.some.inj (Tryd.gSteps.symm.trans hg)
  obtain rfl := Option.some.inj (Tryd.gStepsType.symm.trans ht)
  rw [hvar]
  congr 1
  obtain ⟨l⟩ := cs
  cases fuel with
  | zero => simp [DataW.trod] at hd
  | succ fuel =>
    simp only [DataW.trod, Tryd.underlying38, Tryd.cellsArr, Tryd.cellsInt] at hd
    split at hd
    · rename_i hl
      obtain ⟨c0, c1, c2, c3, c4, c5, rfl⟩ : ∃ c0 c1 c2 c3 c4 c5, l = [c0, c1, c2, c3, c4, c5] := by
        match l, hl with
        | [a, b, c, d, e, f], _ => exact ⟨a, b, c, d, e, f, rfl⟩
      have e : List.range 6 = [0, 1, 2, 3, 4, 5] := rfl
      rw [e] at hd
      simp only [Option.map_eq_some_iff, List.mapM_cons, List.mapM_nil, Option.bind_eq_bind, Option.bind_eq_some_iff, Option.pure_def, Option.some.injEq] at hd
      obtain ⟨xs, ⟨y0, h0, _, ⟨y1, h1, _, ⟨y2, h2, _, ⟨y3, h3, _, ⟨y4, h4, _, ⟨y5, h5, _, rfl, rfl⟩, rfl⟩, rfl⟩, rfl⟩, rfl⟩, rfl⟩, hx⟩ := hd
      obtain ⟨n0, rfl, rfl⟩ := int_of_trod Tryd.underlying3 h0
      obtain ⟨n1, rfl, rfl⟩ := int_of_trod Tryd.underlying3 h1
      obtain ⟨n2, rfl, rfl⟩ := int_of_trod Tryd.underlying3 h2
      obtain ⟨n3, rfl, rfl⟩ := int_of_trod Tryd.underlying3 h3
      obtain ⟨n4, rfl, rfl⟩ := int_of_trod Tryd.underlying3 h4
      obtain ⟨n5, rfl, rfl⟩ := int_of_trod Tryd.underlying3 h5
      simp [Rows.laid_loop_example_g01613_impl_baseSteps] at hx
      obtain ⟨⟨rfl, rfl, rfl, rfl, rfl, rfl⟩, _⟩ := hx
      rfl
    · cases hd

theorem steps_block {W : World} (h : W.var? Tryd.prog "loop.example/g01613/impl.baseSteps" = some stepCells) : 0 < W.heap.size := by
  have c := World.var?_cell Tryd.gSteps h 0
  cases hb : W.heap[0]? with
  | none => simp [World.cell?, hb, stepCells] at c
  | some o => exact (Array.getElem?_eq_some_iff.1 hb).1
/-- What the walks use. -/
theorem steps_at {W : World} (h : laidMetH Tryd.prog [("loop.example/g01613/impl.baseSteps", Rows.laid_loop_example_g01613_impl_baseSteps)] W) : StepsAt W := by
  have hv := steps_of_laid h
  refine ⟨steps_block hv, fun k hk => ?_⟩
  rw [World.var?_cell Tryd.gSteps hv k]
  rcases (show k = 0 ∨ k = 1 ∨ k = 2 ∨ k = 3 ∨ k = 4 ∨ k = 5 by omega) with rfl | rfl | rfl | rfl | rfl | rfl <;> rfl
theorem steps_read {H : Type} (enc : TypeId × Value → H) (W : World) (sp : Nat → Bool) : DataW.trod enc Tryd.prog W 0 sp true 3 38 stepCells.toList = some (stepData, []) := by kernel_rfl
/-- The listed variable reads behind the call as it read before. -/
theorem steps_kept {H : Type} {enc : TypeId × Value → H} {W W' : World} {sp sp' : Nat → Bool} {gs : List (DataW H)} {q : List MemPlace} (h : DataW.TrodVars enc Tryd.prog W sp ["loop.example/g01613/impl.baseSteps"] gs q)
    (hL : laidMetH Tryd.prog [("loop.example/g01613/impl.baseSteps", Rows.laid_loop_example_g01613_impl_baseSteps)] W) (hb : Below W.heap.size W W') : ∃ d pv, gs = [d] ∧ DataW.TrodVars enc Tryd.prog W' sp' ["loop.example/g01613/impl.baseSteps"] [d] pv := by
  have hv := steps_of_laid hL
  obtain ⟨g, t, cs, fuel, d, p', rfl, hg, ht, hvar, hd, rfl⟩ := trodVars_one h
  obtain rfl := Option.some.inj (Tryd.gSteps.symm.trans hg)
  obtain rfl := Option.some.inj (Tryd.gStepsType.symm.trans ht)
  obtain rfl : cs = stepCells := Option.some.inj (hvar.symm.trans hv)
  obtain ⟨rfl, rfl⟩ := DataW.Trod.unique (v := .agg stepCells) ⟨fuel, hd⟩ ⟨3, steps_read enc W _⟩
  have hv' : W'.var? Tryd.prog "loop.example/g01613/impl.baseSteps" = some stepCells := by
    have hk := steps_block hv
    simp only [World.var?, Tryd.gSteps, Option.bind_some] at hv ⊢
    rw [hb.block _ hk]
    exact hv
  exact ⟨_, _, rfl, trodVars_mk1 Tryd.gSteps Tryd.gStepsType hv' (steps_read enc W' _)⟩
end Go.Proofs.YtgccphidnbfcaaaDoor
