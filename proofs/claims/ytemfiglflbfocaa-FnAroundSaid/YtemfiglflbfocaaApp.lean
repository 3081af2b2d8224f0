/-
  append over one's own rows, where the row lies afterwards told too: a whole row, and a literal in a region that draws its order. No condition.
-/
import Derived.Test.YtemfiglflbfocaaScanC
import Derived.Maps.AppendAt
namespace Go.Proofs.Ytemfiglflbfocaa
open Go.RowKit
set_option linter.unusedVariables false

theorem ints_same {a b : List Int} {n : Nat} (ha : a.length = n) (hb : b.length = n) (h : ∀ i, i < n → a.getD i 0 = b.getD i 0) : a = b := by
  refine List.ext_getElem (by omega) fun q h1 h2 => ?_
  have e := h q (by omega)
  rw [List.getD_eq_getElem?_getD, List.getD_eq_getElem?_getD, List.getElem?_eq_getElem h1, List.getElem?_eq_getElem h2] at e
  exact e
theorem drop_take_at {s : List Int} {a n i : Nat} (hi : i < n) : ((s.drop a).take n).getD i 0 = s.getD (a + i) 0 := by
  simp only [List.getD_eq_getElem?_getD, List.getElem?_take, if_pos hi, List.getElem?_drop]
/-- `append(v, A...)`, the row `v` one's own and `A` not empty: where the row lies then. -/
theorem append_ints_at {P : Program} {w : World} {ops : Array Oper} {rest : List Oper} {o : Oper} {a : Act} {Q : Exit → Act → World → Prop} (hgd : o.guard = none) (s x : Operand) (t : TypeId)
    (ho : o.op = .call { callee := .builtin .append, args := #[s, x], argTypes := #[t, t] })
    (base : Nat) (i : TypeInfo) (ht : P.underlying t = some (.slice 3)) (hi : P.info? 3 = some i) (hz : i.zero = some (.int .i64 0))
    (hsize : i.size = 1) (hby : i.bytes = 8)
    (v : Value) (n : Nat) (l : List Int) (hs : a.eval s = v) (hown : w.ownsRow base 3 1 v n (ivs l))
    (A : Option Addr) (m c : Nat) (la : List Int) (hm : m = la.length) (hx : a.eval x = .slice A m c) (g : Nat) (hA : Ints w g A la) (hpos : 0 < la.length)
    (hlen : n + m ≤ 4000000) (hb : base ≤ w.heap.size)
    (h : ∀ v' w', w'.ownsRow base 3 1 v' (n + m) (ivs (l ++ la)) → w.grownBy w' v.ownBlock → (v'.ownBlock = v.ownBlock ∨ v'.ownBlock = some w.heap.size) → wpList P ops Q rest (a.put o.dst v') w') :
    wpList P ops Q (o :: rest) a w := by
  subst hm
  obtain ⟨b, off, rfl, hbg, hc⟩ := hA.at 0 hpos
  refine wpList_append_own_at w hgd s x t ho base 3 i (.int .i64 0) 1 8 ht hi hz hsize hby rfl (by decide) v n (ivs l) hs hown ⟨b, off, none⟩ la.length c (ivs la) hx (by rw [ivs_len, Nat.mul_one]) ?_ ?_ (by unfold maxLen; omega) (by omega) hb ?_
  · intro j u hj
    have hj2 : j < la.length := by
      have := (List.getElem?_eq_some_iff.1 hj).1
      rwa [ivs_len] at this
    rw [Addr.add_lit, hc j hj2, ← hj, ivs_at la j hj2]
  · intro u hu
    simp only [ivs, List.mem_map] at hu
    obtain ⟨y, _, rfl⟩ := hu
    rfl
  · intro v' w' h1 h2 _ h4
    exact h v' w' (by rw [ivs_append]; exact h1) h2 h4

/-- A literal of numbers appended in a region that draws its order. -/
theorem step_append_lit_at {P : Program} {w : World} (w0 : World) {ops : Array Oper} {o : Oper} {a : Act} {K : Act → World → Prop} {Q : Exit → Act → World → Prop} {E : Prop} (hgd : o.guard = none) (s x : Operand) (t : TypeId)
    (ho : o.op = .call { callee := .builtin .append, args := #[s, x], argTypes := #[t, t] })
    (base : Nat) (e : TypeId) (i : TypeInfo) (ht : P.underlying t = some (.slice e)) (hi : P.info? e = some i) (hz : i.zero = some (.int .i64 0))
    (hsize : i.size = 1) (hby : i.bytes = 8)
    (v : Value) (n : Nat) (l : List Int) (hs : a.eval s = v) (hown : w0.ownsRow base e 1 v n (ivs l))
    (us : List Int) (hw : w = w0.alloc (.cells (ivs us).toArray e)) (hx : a.eval x = .slice (some ⟨w0.heap.size, 0, none⟩) us.length us.length) (hn : n + us.length ≤ 4000000) (hb : base ≤ w0.heap.size)
    (h : ∀ v' w', w'.ownsRow base e 1 v' (n + us.length) (ivs (l ++ us)) → w0.grownBy w' v.ownBlock → (v'.ownBlock = v.ownBlock ∨ v'.ownBlock = some (w0.heap.size + 1)) → K (a.put o.dst v') w') :
    if Region.wanted o (yielded ops a.tmps) = true then Oper.wp P o a w K Q else E := by
  have hw' : Region.wanted o (yielded ops a.tmps) = true := by simp [Region.wanted, hgd]
  rw [if_pos hw']
  subst hw
  obtain ⟨v', w', hr, h2, h3, h4, h5⟩ := run_append_own_at (P := P) (w := w0.alloc (.cells (ivs us).toArray e)) base t o.type e i (.int .i64 0) 1 8 ht hi hz hsize hby rfl (by decide) v n (ivs l) (hown.alloc _) ⟨w0.heap.size, 0, none⟩ us.length us.length (ivs us) (by rw [ivs_len, Nat.mul_one])
    (fun j u hj => by
      have e1 : (⟨w0.heap.size, 0, none⟩ : Addr).add j = ⟨w0.heap.size, j, none⟩ := by unfold Addr.add; split <;> simp_all
      rw [e1, World.cell?_alloc_mark]
      simpa using hj)
    (fun u hu => by
      simp only [ivs, List.mem_map] at hu
      obtain ⟨y, _, rfl⟩ := hu
      rfl) (by unfold maxLen; omega) (by omega) (by simp; omega)
  unfold Oper.wp execOp
  simp only [ho, resolve, invoke, builtin, Sem.run_bind, Sem.run_pure, Result.andThen_ok, List.map_toArray, List.map_cons, List.map_nil, hs, hx, hr]
  refine h v' w' ?_ ?_ (by simpa using h5)
  · rw [ivs_append]
    exact h2
  · refine ⟨h3.os, h3.tape, h3.output, by have := h3.size; simp at this; omega, fun k hk hne => ?_⟩
    rw [h3.block k (by simp; omega) hne]
    exact Below.heap_alloc _ _ _ hk
end Go.Proofs.Ytemfiglflbfocaa
