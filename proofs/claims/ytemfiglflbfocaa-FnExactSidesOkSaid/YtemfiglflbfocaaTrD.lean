/-
  The laws' helpers over rows of macroblocks: their size, their copy, whether two are alike, their marks. Condition: sizes are no larger than 1048576 (the laws ask no more).
-/
import Derived.Test.YtemfiglflbfocaaTrA
import Derived.Test.YtemfiglflbfocaaTrC
import Derived.Test.YtemfiglflbfocaaCacheA
import Derived.Deep.RegionHeld3
namespace Go.Proofs.Ytemfiglflbfocaa
open Go.RowKit
set_option linter.unusedVariables false

def zeroMb : MbC := ⟨false, [], none, 0⟩
/-- What a row reads after it was marked. -/
def markMs (k : Nat) : List MbC → List MbC
  | [] => []
  | x :: xs => ⟨((k : Int) % 3 == 0), markBs (k + 1) x.xs, x.a, x.c⟩ :: markMs (k + 1 + sumB x.xs) xs
theorem markMs_len : ∀ (k : Nat) (xs : List MbC), (markMs k xs).length = xs.length
  | _, [] => rfl
  | k, x :: xs => by rw [markMs, List.length_cons, List.length_cons, markMs_len _ xs]
theorem markMs_at : ∀ (k : Nat) (xs : List MbC) (j : Nat) (x : MbC), xs[j]? = some x → (markMs k xs)[j]? = some ⟨(((k + j + sumW (fun x : MbC => sumB x.xs) (xs.take j) : Nat) : Int) % 3 == 0), markBs (k + j + sumW (fun x : MbC => sumB x.xs) (xs.take j) + 1) x.xs, x.a, x.c⟩
  | _, [], j, x, h => by simp at h
  | k, y :: xs, 0, x, h => by
    simp only [List.getElem?_cons_zero, Option.some.injEq] at h
    subst h
    rw [markMs, List.getElem?_cons_zero]
    simp [sumW]
  | k, y :: xs, j + 1, x, h => by
    rw [List.getElem?_cons_succ] at h
    rw [markMs, List.getElem?_cons_succ, markMs_at _ xs j x h, List.take_succ_cons, sumW]
    have e : k + 1 + sumB y.xs + j + sumW (fun x : MbC => sumB x.xs) (xs.take j) = k + (j + 1) + (sumB y.xs + sumW (fun x : MbC => sumB x.xs) (xs.take j)) := by omega
    rw [e]
theorem markMs_snoc : ∀ (k : Nat) (xs : List MbC) (x : MbC), markMs k (xs ++ [x]) = markMs k xs ++ [⟨(((k + xs.length + sumW (fun x : MbC => sumB x.xs) xs : Nat) : Int) % 3 == 0), markBs (k + xs.length + sumW (fun x : MbC => sumB x.xs) xs + 1) x.xs, x.a, x.c⟩]
  | k, [], x => by simp [markMs, sumW]
  | k, y :: xs, x => by
    rw [List.cons_append, markMs, markMs_snoc _ xs x, markMs, List.cons_append, List.length_cons, sumW]
    have e : k + 1 + sumB y.xs + xs.length + sumW (fun x : MbC => sumB x.xs) xs = k + (xs.length + 1) + (sumB y.xs + sumW (fun x : MbC => sumB x.xs) xs) := by omega
    rw [e]
theorem markBs_sum (k : Nat) (xs : List BlkC) : sumB (markBs k xs) = sumB xs := by unfold sumB; rw [markBs_len, markBs_lens]
theorem markMs_fp : ∀ (k : Nat) (xs : List MbC), fpMIn (markMs k xs) = fpMIn xs
  | _, [] => rfl
  | k, x :: xs => by have h := markMs_fp (k + 1 + sumB x.xs) xs; unfold fpMIn at h ⊢; rw [markMs, List.flatMap_cons, List.flatMap_cons, h, fpBs, fpBs, markBs_fp]
theorem markMs_lens : ∀ (k : Nat) (xs : List MbC), lenM (markMs k xs) = lenM xs
  | _, [] => rfl
  | k, x :: xs => by have h := markMs_lens (k + 1 + sumB x.xs) xs; unfold lenM at h ⊢; rw [markMs, sumW, sumW, h, markBs_sum]

end Go.Proofs.Ytemfiglflbfocaa
