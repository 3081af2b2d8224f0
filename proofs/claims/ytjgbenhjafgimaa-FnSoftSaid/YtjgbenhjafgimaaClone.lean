/-
  slices.Clone of a row of integers that is not empty. Condition: it is no longer than 1000.
-/
import Derived.Test.YtjgbenhjafgimaaScanC
namespace Go.Proofs.Ytjgbenhjafgimaa
open Go.RowKit
set_option linter.unusedVariables false

theorem own_nil (w : World) : OwnI w w.heap.size none 0 [] := World.ownsRow_nil w w.heap.size 3 1

set_option maxRecDepth 100000 in
set_option maxHeartbeats 2000000 in
theorem clone_some (A : Option Addr) (ca : Nat) (l : List Int) (hpos : 0 < l.length) (hlt : l.length ≤ 1000) (w : World) (hA : Ints w w.heap.size A l) :
    Calls Try.prog 53 #[.slice A l.length ca] w fun e w' => ∃ A' c, e = .returned (.slice A' l.length c) ∧ OwnI w' w.heap.size A' c l ∧ Below w.heap.size w w' := by
  obtain ⟨i0, hi, hz0, hz1, hz2⟩ := info_parts Try.iinfo
  have O0 := Lib.hid (own_ints w w.heap.size [] (Nat.le_refl _) (by simp))
  have B0 := Lib.hid ((Below.refl w.heap.size w).alloc (Nat.le_refl _) (.cells (ivs []).toArray 3))
  have HA := Lib.hid (hA.below B0.out (Nat.le_refl _))
  obtain ⟨b, off, rfl, -, -⟩ := hA.at 0 hpos
  have PA : Hid (Placed (some ⟨b, off, none⟩) ca) := Lib.hid (by intro h; cases h)
  obtain ⟨n, hn⟩ : ∃ n, n = l.length := ⟨_, rfl⟩
  have HN := Lib.hid hn
  rw [← hn] at hlt ⊢
  have he : ∀ w : World, (binOp .eql 24 (.slice (some ⟨b, off, none⟩) n ca) (.slice none 0 0)).run Try.prog w = .ok (.bool false) w := fun _ => rfl
  clear hA hn hpos
  go_enter Try.func53, Try.ntmps53
  go_wp2_with (at_builtin; refine append_ints rfl (.tmp 5) (.tmp 6) 24 rfl w i0 Try.underlying24 hi hz0 hz1 hz2 _ _ _ rfl O0.out _ _ _ l HN.out rfl _ HA.out PA.out (by simp; omega) B0.out ?_; intro v' w1 hown hbel)
  rw [List.nil_append, List.length_nil, Nat.zero_add] at hown
  obtain ⟨Av, c, rfl, ho⟩ := own_slice hown
  have O1 := Lib.hid ho; have B1 := Lib.hid hbel
  clear hown hbel ho
  go_wp2
  go_ret
  exact ⟨_, _, by rw [HN.out]; rfl, O1.out, B1.out⟩

end Go.Proofs.Ytjgbenhjafgimaa
