/-
  Contracts of chapter 1's draws of texts: each returns, its answer depends on the cursor's state alone, and it writes to the cursor and to new memory alone. Condition: the input is no longer than 1048576 bytes.
-/
import Derived.Test.YthiplncceglnhaaDraw1
import Derived.Test.YthiplncceglnhaaVar
namespace Go.Proofs.Ythiplncceglnhaa
open Go.RowKit
set_option linter.unusedVariables false

/-- A sequence out of a step. -/
theorem seq_of {σ : Type} (P : σ → Prop) (R : σ → σ → Prop) (s0 : σ) (h0 : P s0) (step : ∀ s, P s → ∃ s', P s' ∧ R s s') : ∃ f : Nat → σ, f 0 = s0 ∧ (∀ n, P (f n)) ∧ ∀ n, R (f n) (f (n + 1)) := by
  have hs : ∀ s : { s // P s }, ∃ s' : { s // P s }, R s.1 s'.1 := fun s => by
    obtain ⟨s', h1, h2⟩ := step s.1 s.2
    exact ⟨⟨s', h1⟩, h2⟩
  obtain ⟨F, hF⟩ := Classical.axiomOfChoice hs
  refine ⟨fun n => (Nat.rec (motive := fun _ => { s // P s }) ⟨s0, h0⟩ (fun _ s => F s) n).1, rfl, fun n => Subtype.property _, fun n => hF _⟩

/-- `append` of one byte, with what it writes to. -/
theorem append_byte {P : Program} {w : World} (w0 : World) {ops : Array Oper} {rest : List Oper} {o : Oper} {a : Act} {Q : Exit → Act → World → Prop} (hgd : o.guard = none) (s x : Operand) (t : TypeId)
    (ho : o.op = .call { callee := .builtin .append, args := #[s, x], argTypes := #[t, t] })
    (base : Nat) (e : TypeId) (i : TypeInfo) (z : Value) (ht : P.underlying t = some (.slice e)) (hi : P.info? e = some i) (hz : i.zero = some z)
    (hsize : i.size = 1) (hby : i.bytes = 1) (hzs : z.cells.size = 1)
    (v : Value) (n : Nat) (xs : List Value) (hs : a.eval s = v) (hown : w0.ownsRow base e 1 v n xs)
    (u : Value) (hw : w = w0.alloc (.cells #[u] e)) (h1 : u.oneCell' = true) (hx : a.eval x = .slice (some ⟨w0.heap.size, 0, none⟩) 1 1)
    (hbytes : (n + 1) * 1 ≤ 140737488355328) (h63 : n + 1 ≤ maxLen) (hb : base ≤ w0.heap.size)
    (h : ∀ v' w', w'.ownsRow base e 1 v' (n + 1) (xs ++ [u]) → (w0.alloc (.cells #[u] e)).grownBy w' v.ownBlock → wpList P ops Q rest (a.put o.dst v') w') :
    wpList P ops Q (o :: rest) a w := by
  subst hw
  refine wpList_append_own (w0.alloc (.cells #[u] e)) hgd s x t ho base e i z 1 1 ht hi hz hsize hby hzs (by decide) v n xs hs (hown.alloc _)
    ⟨w0.heap.size, 0, none⟩ 1 1 [u] hx rfl ?_ ?_ h63 hbytes (by simp; omega) ?_
  · intro j y hj
    match j, hj with
    | 0, hj =>
      simp at hj
      subst hj
      simp [Addr.add, World.cell?_alloc_mark]
  · intro y hy
    simp at hy
    subst hy
    exact h1
  · intro v' w' hown' hg _
    exact h v' w' hown' hg

/-- A row of the call's own lies in another block than one before it. -/
theorem own_far {w : World} {base : Nat} {e : TypeId} {size : Nat} {v : Value} {n : Nat} {xs : List Value} (h : w.ownsRow base e size v n xs) {g : Nat} (hg : g < base) : v.ownBlock = none ∨ v.ownBlock ≠ some g := by
  cases hob : v.ownBlock with
  | none => exact .inl rfl
  | some b => exact .inr (by have := (h.lt b hob).1; simp; omega)

/-- The styles of a text. -/
def sty (S x : Int) : Int := if S = 1 then x % 2 else if S = 2 then 97 + x % 4 else x
theorem sty_range (S x : Int) (h0 : 0 ≤ x) (h1 : x ≤ 255) : 0 ≤ sty S x ∧ sty S x < 256 := by unfold sty; split <;> (try split) <;> omega

theorem Try.dinfoU8 : (Try.prog.info? 5).map (fun i => (i.zero, i.size, i.bytes)) = some (some (.int .u8 0), 1, 1) := by kernel_rfl

end Go.Proofs.Ythiplncceglnhaa
