/-
  The statement of the law FnExactFastPred, proved: for every input the law answers true, and its arguments read afterwards as before. No condition.
-/
import Derived.Test.YtjgbenhjafgimaaRows
import Derived.Test.YtjgbenhjafgimaaFpL
import Derived.ProofKit
import Derived.OpenShut
import Derived.ShutString
import Derived.ChangeOld
import Derived.Below
import Derived.Carry
import Derived.ChangeSlices
import Derived.Test.YtjgbenhjafgimaaFields
namespace Go.Proofs.Ytjgbenhjafgimaa.fnExactFastPred
open Go.ChangeShapes Go.WideShapes Go.ChangeAt Go.RowKit
open Go.ChangeMaps (open_string shut_string)
set_option linter.unusedVariables false

theorem own : ownKnob Try.prog.godebug = none := by kernel_rfl
theorem laidOut : laidOutB Try.prog = true := by kernel_rfl

set_option maxRecDepth 100000 in
theorem lifted (os : Os) (started : os.Started) (H : Type) (enc : TypeId × Value → H) :
    ReturnsInHanded {} Try.checked os 8 .any (Rows.fnExactFastPredSpec.pre6 enc Try.prog Try.f8 Rows.fnExactFastPredRow.domain false) (Rows.fnExactFastPredSpec.post enc Try.prog Try.f8 false true false false) := by
  refine returnsInHanded_of_change (C := Try.checked) own started (by kernel_rfl) Try.func8
    (ChangeSpec.witness6 (enc := enc) (C := Try.checked) false ⟨#[], #[.int .i64 0, .agg #[.slice none 0 0, .slice none 0 0, .int .i64 0, .bool false, .bool false], .int .i64 0], []⟩ 8 (by kernel_rfl) (by kernel_rfl) (by kernel_rfl) (by kernel_rfl)) ?_
  intro W base args ds gs before hval0 hW hcnd _
  have hval : ∀ (j : Nat) t v, Try.f8.params[j]? = some t → args[j]? = some v → Value.okWide Try.prog W .any base t v := hval0
  have hW' := hW
  obtain ⟨p, q, hA0, hV, rfl, hfz, hnd⟩ := hW
  have hA : DataW.TrodAll enc Try.prog W 0 (fun _ => true) true Try.f8.params.toList args.toList ds p := hA0
  rw [Try.params8] at hA hval
  obtain ⟨v0, vs0, d0, ds0, p0, q0, hargs, rfl, rfl, h0, r0⟩ := trodAll_cons hA
  obtain ⟨v1, vs1, d1, ds1, p1, q1, rfl, rfl, rfl, h1, r1⟩ := trodAll_cons r0
  obtain ⟨v2, vs2, d2, ds2, p2, q2, rfl, rfl, rfl, h2, r2⟩ := trodAll_cons r1
  obtain ⟨rfl, rfl, rfl⟩ := trodAll_nil r2
  obtain rfl : args = #[v0, v1, v2] := by cases args; simp_all
  obtain ⟨rfl, rfl⟩ := trodVars_none hV
  obtain ⟨a0, rfl, rfl, rfl, w0⟩ := open_int Try.underlying3 (hval 0 3 v0 rfl rfl) h0
  have k1 := h1
  have lt1 : ∀ x ∈ p1, x.block < W.heap.size := by obtain ⟨m, hm⟩ := k1; exact DataW.trod_lt m _ _ _ hm
  obtain ⟨cs1, n1, rfl, hsz1, hf1⟩ := struct_cells Try.underlying44 (by kernel_rfl) (by kernel_rfl) (hval 1 44 v1 rfl rfl) h1
  obtain ⟨y1_0, t1_0⟩ := hf1 0 _ rfl
  obtain ⟨a1_0, len1_0, cap1_0, z1_0, e1_0, w1_0⟩ := field_row Try.underlying24 Try.underlying3 (by kernel_rfl) t1_0
  obtain ⟨y1_1, t1_1⟩ := hf1 1 _ rfl
  obtain ⟨a1_1, len1_1, cap1_1, z1_1, e1_1, w1_1⟩ := field_row Try.underlying24 Try.underlying3 (by kernel_rfl) t1_1
  obtain ⟨y1_2, t1_2⟩ := hf1 2 _ rfl
  obtain ⟨x1_2, e1_2, w1_2⟩ := field_int Try.underlying3 t1_2
  obtain ⟨y1_3, t1_3⟩ := hf1 3 _ rfl
  obtain ⟨x1_3, e1_3⟩ := field_bool Try.underlying4 t1_3
  obtain ⟨y1_4, t1_4⟩ := hf1 4 _ rfl
  obtain ⟨x1_4, e1_4⟩ := field_bool Try.underlying4 t1_4
  have ec1 := list_five hsz1
  rw [e1_0, e1_1, e1_2, e1_3, e1_4] at ec1
  subst ec1
  obtain ⟨a2, rfl, rfl, rfl, w2⟩ := open_int Try.underlying3 (hval 2 3 v2 rfl rfl) h2
  clear hA0 hval0
  refine (fnExactFastPred_walk a0 a1_0 len1_0 cap1_0 z1_0 a1_1 len1_1 cap1_1 z1_1 x1_2 x1_3 x1_4 a2 w0 w1_2 w2 W w1_0 w1_1).mono fun e W' ⟨he, bel⟩ => ?_
  subst he
  exact ⟨_, rfl, _, _, _, [], _, [], hW', trodAll_mk1 (shut_bool Try.underlying4 _), (trodAll_cons_mk (shut_int Try.underlying3 w0) (trodAll_cons_mk (Below.trod laidOut (by kernel_rfl) (of_decide_eq_true (by kernel_rfl)) k1 bel lt1) (trodAll_cons_mk (shut_int Try.underlying3 w2) trodAll_mk0))), rfl, bel.frame _, fun h => by cases h⟩

theorem over : Rows.fnExactFastPredRow.holds Try.pinned (OpenSpec.ofChange Rows.fnExactFastPredSpec) :=
  OpenClaim.holds_of_wide 8 Try.f8 rfl rfl rfl rfl rfl rfl rfl ⟨rfl, rfl, rfl, rfl, rfl⟩ rfl rfl rfl rfl rfl (by kernel_rfl) Try.func8 (by kernel_rfl)
    (of_decide_eq_true (by kernel_rfl)) (by unfold Func.isWrapper; first | (rw [if_pos (by decide +kernel)]; kernel_rfl) | (rw [if_neg (by decide +kernel)]; exact ⟨rfl, rfl⟩))
    (fun os started H enc _ => lifted os started H enc)

/-- The statement. -/
theorem proved : Rows.FnExactFastPredSaid := over
end Go.Proofs.Ytjgbenhjafgimaa.fnExactFastPred
