/-
  The input of a law, as the draws take it: the bytes that it holds, and the test that it is not too long. No condition but those that each lemma states.
-/
import Derived.Test.YthiplncceglnhaaDraw3
namespace Go.Proofs.Ythiplncceglnhaa
open Go.RowKit
set_option linter.unusedVariables false

/-- The input: its bytes lie before the heap's end. -/
structure Code (w : World) (A : Option Addr) (zs : List Int) : Prop where
  few : zs.length ≤ 1048576
  bytes : ∀ j, j < zs.length → 0 ≤ zs.getD j 0 ∧ zs.getD j 0 < 256
  lies : Lies w w.heap.size A zs
theorem Lies.mono {w : World} {g g' : Nat} {A : Option Addr} {zs : List Int} (h : Lies w g A zs) (hg : g ≤ g') : Lies w g' A zs := by
  rcases h with h0 | ⟨b, off, hA, hbg, hc⟩
  · exact .inl h0
  · exact .inr ⟨b, off, hA, Nat.lt_of_lt_of_le hbg hg, hc⟩
theorem Code.below {w w' : World} {A : Option Addr} {zs : List Int} (h : Code w A zs) (hb : Below w.heap.size w w') : Code w' A zs :=
  ⟨h.few, h.bytes, (h.lies.kept fun k hk => hb.block k hk).mono hb.size⟩

/-- The input as the draws take it. -/
theorem code_of {w : World} {a : Option Addr} {len cap : Nat} {zs : List Int} (h : IsRow .u8 w a len cap zs) (hb : len ≤ 1048576) : ∃ ys : List Int, ys.length = len ∧ Code w a ys := by
  rcases h with ⟨rfl, rfl, rfl, rfl⟩ | ⟨x, rfl, hl, hm, hz, hcell, hwf⟩
  · exact ⟨[], rfl, by simp, fun j hj => absurd hj (by simp), .inl rfl⟩
  · have hlen : (zs.take len).length = len := by rw [List.length_take]; omega
    have hg : ∀ j, j < len → (zs.take len).getD j 0 = zs.getD j 0 := fun j hj => by
      rw [List.getD_eq_getElem?_getD, List.getElem?_take, if_pos hj, ← List.getD_eq_getElem?_getD]
    refine ⟨zs.take len, hlen, by omega, fun j hj => ?_, ?_⟩
    · rw [hlen] at hj
      rw [hg j hj, List.getD_eq_getElem?_getD, List.getElem?_eq_getElem (by omega)]
      have := hwf _ (List.getElem_mem (show j < zs.length by omega))
      have e1 : IntKind.u8.min = 0 := rfl
      have e2 : IntKind.u8.max = 255 := rfl
      simp [Lit.wf, e1, e2] at this
      simp
      omega
    · by_cases h0 : len = 0
      · left
        exact List.eq_nil_of_length_eq_zero (by omega)
      · right
        obtain ⟨b, off, spot⟩ := x
        have hc := hcell 0 (by omega)
        have hspot : spot = none := by simpa [Addr.add] using World.cell?_spot hc
        subst hspot
        have hadd : ∀ j, (⟨b, off, none⟩ : Addr).add j = ⟨b, off + j, none⟩ := fun j => by unfold Addr.add; split <;> simp_all
        refine ⟨b, off, rfl, ?_, fun j hj => ?_⟩
        · exact World.block_lt_of_cell? w _ hc
        · rw [hlen] at hj
          have := hcell j (by omega)
          rw [hadd] at this
          rw [hg j hj]
          exact this

set_option maxHeartbeats 400000 in
theorem big_any (a : Option Addr) (n cap : Nat) (hn : n ≤ 9223372036854775807) (w : World) :
    Calls Try.prog 7 #[.slice a n cap] w fun e w' => e = .returned (.bool (decide (1048576 < (n : Int)))) ∧ w = w' := by
  go_enter Try.func7, Try.ntmps7
  go_wp2
  go_ret
  exact ⟨rfl, rfl⟩

end Go.Proofs.Ythiplncceglnhaa
