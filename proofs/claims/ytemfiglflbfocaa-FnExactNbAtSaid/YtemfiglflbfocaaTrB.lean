/-
  The laws' helpers over rows of blocks: their size, their copy, whether two are alike, their marks. Condition: sizes are no larger than 1048576 (the laws ask no more).
-/
import Derived.Test.YtemfiglflbfocaaTrA
import Derived.Test.YtemfiglflbfocaaRsB
import Derived.Test.YtemfiglflbfocaaCacheA
import Derived.Deep.RegionHeld3
namespace Go.Proofs.Ytemfiglflbfocaa
open Go.RowKit
set_option linter.unusedVariables false

def zeroBlock : BlkC := ⟨0, [], none, 0⟩
/-- What a row reads after it was marked. -/
def markBs (k : Nat) : List BlkC → List BlkC
  | [] => []
  | x :: xs => ⟨(k : Int), markL ((k + 1 : Nat) : Int) x.l.length, x.a, x.c⟩ :: markBs (k + 1 + x.l.length) xs
theorem markBs_len : ∀ (k : Nat) (xs : List BlkC), (markBs k xs).length = xs.length
  | _, [] => rfl
  | k, x :: xs => by rw [markBs, List.length_cons, List.length_cons, markBs_len _ xs]
theorem markBs_at : ∀ (k : Nat) (xs : List BlkC) (j : Nat) (x : BlkC), xs[j]? = some x → (markBs k xs)[j]? = some ⟨((k + j + sumW (fun x : BlkC => x.l.length) (xs.take j) : Nat) : Int), markL ((k + j + sumW (fun x : BlkC => x.l.length) (xs.take j) + 1 : Nat) : Int) x.l.length, x.a, x.c⟩
  | _, [], j, x, h => by simp at h
  | k, y :: xs, 0, x, h => by
    simp only [List.getElem?_cons_zero, Option.some.injEq] at h
    subst h
    rw [markBs, List.getElem?_cons_zero]
    simp [sumW]
  | k, y :: xs, j + 1, x, h => by
    rw [List.getElem?_cons_succ] at h
    rw [markBs, List.getElem?_cons_succ, markBs_at _ xs j x h, List.take_succ_cons, sumW]
    have e : k + 1 + y.l.length + j + sumW (fun x : BlkC => x.l.length) (xs.take j) = k + (j + 1) + (y.l.length + sumW (fun x : BlkC => x.l.length) (xs.take j)) := by omega
    rw [e]
theorem markBs_snoc : ∀ (k : Nat) (xs : List BlkC) (x : BlkC), markBs k (xs ++ [x]) = markBs k xs ++ [⟨((k + xs.length + sumW (fun x : BlkC => x.l.length) xs : Nat) : Int), markL ((k + xs.length + sumW (fun x : BlkC => x.l.length) xs + 1 : Nat) : Int) x.l.length, x.a, x.c⟩]
  | k, [], x => by simp [markBs, sumW]
  | k, y :: xs, x => by
    rw [List.cons_append, markBs, markBs_snoc _ xs x, markBs, List.cons_append, List.length_cons, sumW]
    have e : k + 1 + y.l.length + xs.length + sumW (fun x : BlkC => x.l.length) xs = k + (xs.length + 1) + (y.l.length + sumW (fun x : BlkC => x.l.length) xs) := by omega
    rw [e]
theorem markBs_fp : ∀ (k : Nat) (xs : List BlkC), fpIn (markBs k xs) = fpIn xs
  | _, [] => rfl
  | k, x :: xs => by have h := markBs_fp (k + 1 + x.l.length) xs; unfold fpIn at h ⊢; rw [markBs, List.flatMap_cons, List.flatMap_cons, h]
theorem markBs_lens : ∀ (k : Nat) (xs : List BlkC), lenB (markBs k xs) = lenB xs
  | _, [] => rfl
  | k, x :: xs => by have h := markBs_lens (k + 1 + x.l.length) xs; unfold lenB at h ⊢; rw [markBs, sumW, sumW, h, markL_len]

end Go.Proofs.Ytemfiglflbfocaa
