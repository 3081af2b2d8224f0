/-
  Contracts of the laws' helpers over Mb and Stream with a length that is a letter; what is owned depends on its blocks of memory alone. No condition.
-/
import Derived.Test.YtemfiglflbfocaaTrE
namespace Go.Proofs.Ytemfiglflbfocaa
open Go.RowKit
set_option linter.unusedVariables false

theorem len_is {xs ys : List BlkC} (h : ys.map BlkC.is = xs.map BlkC.is) : ys.length = xs.length := by have := congrArg List.length h; rw [List.length_map, List.length_map] at this; exact this
theorem len_mis {xs ys : List MbC} (h : ys.map MbC.is = xs.map MbC.is) : ys.length = xs.length := by have := congrArg List.length h; rw [List.length_map, List.length_map] at this; exact this
def sumIs (d : List (Int × List Int)) : Nat := d.length + sumW (fun x => x.2.length) d
theorem sumB_is (xs : List BlkC) : sumB xs = sumIs (xs.map BlkC.is) := by
  unfold sumB lenB sumIs
  rw [List.length_map, sumW_map (fun x : BlkC => x.l.length) BlkC.is (fun x => x.2.length) (fun x => rfl) xs]
theorem sumB_same {xs ys : List BlkC} (h : ys.map BlkC.is = xs.map BlkC.is) : sumB ys = sumB xs := by rw [sumB_is, sumB_is, h]
def sumMIs (d : List (Bool × List (Int × List Int))) : Nat := d.length + sumW (fun x => sumIs x.2) d
theorem sumM_is (xs : List MbC) : sumM xs = sumMIs (xs.map MbC.is) := by
  unfold sumM lenM sumMIs
  rw [List.length_map, sumW_map (fun x : MbC => sumB x.xs) MbC.is (fun x => sumIs x.2) (fun x => sumB_is x.xs) xs]
theorem sumM_same {xs ys : List MbC} (h : ys.map MbC.is = xs.map MbC.is) : sumM ys = sumM xs := by rw [sumM_is, sumM_is, h]
theorem markBs_small {k : Nat} {xs : List BlkC} (hs : sumB xs ≤ 1048576) : sumB (markBs k xs) ≤ 1048576 := by rw [markBs_sum]; exact hs
theorem markMs_sum (k : Nat) (ms : List MbC) : sumM (markMs k ms) = sumM ms := by unfold sumM; rw [markMs_len, markMs_lens]
end Go.Proofs.Ytemfiglflbfocaa
