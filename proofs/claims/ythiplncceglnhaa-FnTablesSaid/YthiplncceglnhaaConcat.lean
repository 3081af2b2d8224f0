/-
  Contracts of slices.Grow on nil and of slices.Concat over rows of integers; appending a whole row. Condition: the rows have no more than 4000000 elements together.
-/
import Derived.Test.YthiplncceglnhaaInts
import Derived.Lib.AppendZeros
namespace Go.Proofs.Ythiplncceglnhaa
open Go.RowKit
set_option linter.unusedVariables false

/-- Only a nil row has no place. -/
def Placed (A : Option Addr) (c : Nat) : Prop := A = none → c = 0
theorem OwnI.placed {w : World} {base : Nat} {A : Option Addr} {cap : Nat} {l : List Int} (h : OwnI w base A cap l) : Placed A cap := by
  intro hA
  rcases h.2 with ⟨h1, h2⟩ | ⟨g, cap', cur, h1, _⟩
  · simp only [Value.slice.injEq] at h1
    exact h1.2.2
  · simp only [Value.slice.injEq] at h1
    rw [hA] at h1
    exact absurd h1.1 (by simp)

/-- `append(v, A...)`, the row `v` the call's own, as one operation. -/
theorem wp_append_ints {P : Program} {w : World} {o : Oper} {a : Act} {K : Act → World → Prop} {Q : Exit → Act → World → Prop} (s x : Operand) (t : TypeId)
    (ho : o.op = .call { callee := .builtin .append, args := #[s, x], argTypes := #[t, t] })
    (wS : World) (i : TypeInfo) (ht : P.underlying t = some (.slice 3)) (hi : P.info? 3 = some i) (hz : i.zero = some (.int .i64 0))
    (hsize : i.size = 1) (hby : i.bytes = 8)
    (v : Value) (n : Nat) (l : List Int) (hs : a.eval s = v) (hown : w.ownsRow wS.heap.size 3 1 v n (ivs l))
    (A : Option Addr) (m c : Nat) (la : List Int) (hm : m = la.length) (hx : a.eval x = .slice A m c) (g : Nat) (hA : Ints w g A la) (hP : Placed A c)
    (hlen : n + m ≤ 4000000) (hb : Below wS.heap.size wS w)
    (h : ∀ v' w', w'.ownsRow wS.heap.size 3 1 v' (n + m) (ivs (l ++ la)) → Below wS.heap.size wS w' → K (a.put o.dst v') w') :
    o.wp P a w K Q := by
  subst hm
  cases A with
  | none =>
    obtain rfl : c = 0 := hP rfl
    have hl : la = [] := by
      rcases hA.2 with h | ⟨b, off, h, _⟩
      · exact h
      · exact absurd h (by simp)
    subst hl
    have hrun := run_append_owned_none (P := P) w wS.heap.size t o.type 3 i 1 ht hi v n (ivs l) hown
    unfold Oper.wp
    simp [execOp, ho, resolve, invoke, builtin, hs, hx, hrun, Result.andThen]
    exact h v w (by simpa using hown) hb
  | some ad =>
    have hcells : ∀ j u, (ivs la)[j]? = some u → w.cell? (ad.add j) = some u := by
      intro j u hj
      have hj2 : j < la.length := by
        have := (List.getElem?_eq_some_iff.1 hj).1
        rwa [ivs_len] at this
      obtain ⟨b, off, hb1, hb2, hb3⟩ := hA.at j hj2
      simp only [Option.some.injEq] at hb1
      subst hb1
      rw [Addr.add_lit, hb3 j hj2, ← hj, ivs_at la j hj2]
    refine wp_append_own w s x t ho wS.heap.size 3 i (.int .i64 0) 1 8 ht hi hz hsize hby rfl (by decide) v n (ivs l) hs hown ad la.length c (ivs la) hx (by rw [ivs_len, Nat.mul_one]) hcells ?_ (by unfold maxLen; omega) (by omega) hb.size ?_
    · intro u hu
      simp only [ivs, List.mem_map] at hu
      obtain ⟨y, _, rfl⟩ := hu
      rfl
    · intro v' w' hown' hg _
      refine h v' w' (by rw [ivs_append]; exact hown') (hb.grown hg hb.size fun k hk => ?_)
      exact (hown.lt k hk).1
/-- .. in a plain list of operations. -/
theorem append_ints {P : Program} {w : World} {ops : Array Oper} {rest : List Oper} {o : Oper} {a : Act} {Q : Exit → Act → World → Prop} (hgd : o.guard = none) (s x : Operand) (t : TypeId)
    (ho : o.op = .call { callee := .builtin .append, args := #[s, x], argTypes := #[t, t] })
    (wS : World) (i : TypeInfo) (ht : P.underlying t = some (.slice 3)) (hi : P.info? 3 = some i) (hz : i.zero = some (.int .i64 0))
    (hsize : i.size = 1) (hby : i.bytes = 8)
    (v : Value) (n : Nat) (l : List Int) (hs : a.eval s = v) (hown : w.ownsRow wS.heap.size 3 1 v n (ivs l))
    (A : Option Addr) (m c : Nat) (la : List Int) (hm : m = la.length) (hx : a.eval x = .slice A m c) (g : Nat) (hA : Ints w g A la) (hP : Placed A c)
    (hlen : n + m ≤ 4000000) (hb : Below wS.heap.size wS w)
    (h : ∀ v' w', w'.ownsRow wS.heap.size 3 1 v' (n + m) (ivs (l ++ la)) → Below wS.heap.size wS w' → wpList P ops Q rest (a.put o.dst v') w') :
    wpList P ops Q (o :: rest) a w :=
  wpList_plain hgd fun _ hK => wp_append_ints s x t ho wS i ht hi hz hsize hby v n l hs hown A m c la hm hx g hA hP hlen hb fun v' w' h2 h3 => hK _ _ (h v' w' h2 h3)
/-- .. in a region that draws its order. -/
theorem step_append_ints {P : Program} {w : World} {ops : Array Oper} {o : Oper} {a : Act} {K : Act → World → Prop} {Q : Exit → Act → World → Prop} {E : Prop} (hgd : o.guard = none) (s x : Operand) (t : TypeId)
    (ho : o.op = .call { callee := .builtin .append, args := #[s, x], argTypes := #[t, t] })
    (wS : World) (i : TypeInfo) (ht : P.underlying t = some (.slice 3)) (hi : P.info? 3 = some i) (hz : i.zero = some (.int .i64 0))
    (hsize : i.size = 1) (hby : i.bytes = 8)
    (v : Value) (n : Nat) (l : List Int) (hs : a.eval s = v) (hown : w.ownsRow wS.heap.size 3 1 v n (ivs l))
    (A : Option Addr) (m c : Nat) (la : List Int) (hm : m = la.length) (hx : a.eval x = .slice A m c) (g : Nat) (hA : Ints w g A la) (hP : Placed A c)
    (hlen : n + m ≤ 4000000) (hb : Below wS.heap.size wS w)
    (h : ∀ v' w', w'.ownsRow wS.heap.size 3 1 v' (n + m) (ivs (l ++ la)) → Below wS.heap.size wS w' → K (a.put o.dst v') w') :
    if Region.wanted o (yielded ops a.tmps) = true then Oper.wp P o a w K Q else E := by
  have hw' : Region.wanted o (yielded ops a.tmps) = true := by simp [Region.wanted, hgd]
  rw [if_pos hw']
  exact wp_append_ints s x t ho wS i ht hi hz hsize hby v n l hs hown A m c la hm hx g hA hP hlen hb h

/-- The rows one behind the other. -/
def catN (F : Nat → List Int) : Nat → List Int
  | 0 => []
  | k + 1 => catN F k ++ F k
theorem catN_len (F : Nat → List Int) (k : Nat) : (catN F (k + 1)).length = (catN F k).length + (F k).length := by rw [catN, List.length_append]
theorem catN_mono (F : Nat → List Int) (j k : Nat) (h : j ≤ k) : (catN F j).length ≤ (catN F k).length := by
  induction k with
  | zero => obtain rfl : j = 0 := by omega
            exact Nat.le_refl _
  | succ k ih =>
    by_cases hj : j = k + 1
    · subst hj; exact Nat.le_refl _
    · rw [catN_len]; have := ih (by omega); omega

end Go.Proofs.Ythiplncceglnhaa
