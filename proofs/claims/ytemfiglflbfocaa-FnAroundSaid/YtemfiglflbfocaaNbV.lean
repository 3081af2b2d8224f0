/-
  Contracts of the model's NbOk, Border and Mean. Condition: a slice is no longer than it holds.
  Contracts of the model's Border and Mean. Condition: a slice is no longer than it holds.
  The contract of the model's Mean. Condition: a slice is no longer than it holds.
-/
import Derived.Test.YtemfiglflbfocaaNbP
import Derived.Maps.AppendAt
import Derived.BigQuiet
namespace Go.Proofs.Ytemfiglflbfocaa
open Go.RowKit
set_option linter.unusedVariables false

theorem pix_no {l : List Int} {j : Nat} (hj : j < l.length) (h : pixE (l.getD j 0) = false) : l.all pixE = false := by
  rw [List.getD_eq_getElem?_getD, List.getElem?_eq_getElem hj] at h
  rw [List.all_eq_false]
  exact ⟨l[j], List.getElem_mem hj, by simpa using h⟩
theorem pix_yes {l : List Int} (h : ∀ t, t < l.length → pixE (l.getD t 0) = true) : l.all pixE = true := by
  rw [List.all_eq_true]
  intro x hx
  obtain ⟨i, hi, rfl⟩ := List.getElem_of_mem hx
  have := h i hi
  rwa [List.getD_eq_getElem?_getD, List.getElem?_eq_getElem hi] at this
theorem l1in_pix (x : Int) (w : World) : Calls Try.prog 63 #[.int .i64 x, .int .i64 0, .int .i64 255] w fun e w' => e = .returned (.bool (pixE x)) ∧ w = w' := l1In_any x 0 255 w
set_option maxRecDepth 100000 in
set_option maxHeartbeats 1000000 in
theorem l14pix_any (A : Option Addr) (ca : Nat) (l : List Int) (w : World) (hA : Ints w w.heap.size A l) :
    Calls Try.prog 56 #[.slice A l.length ca] w fun e w' => e = .returned (.bool (l.all pixE)) ∧ w = w' := by
  obtain ⟨n, hn⟩ : ∃ n, n = l.length := ⟨_, rfl⟩
  have hnm := hA.1
  rw [← hn] at hnm
  rw [← hn]
  have LO := Lib.hid l1in_pix
  have HA := Lib.hid hA; have HN := Lib.hid hn
  clear hA hn
  go_enter Try.func56, Try.ntmps56
  go_wp2
  go_loop [3] (fun i => ∃ j : Nat, j ≤ n ∧ i = .int .i64 j ∧ ∀ t, t < j → pixE (l.getD t 0) = true)
    (fun i => n - (intOf i).toNat)
  case atStart => exact ⟨0, Nat.zero_le _, rfl, fun t ht => absurd ht (by omega)⟩
  case round =>
    obtain ⟨j, hj, rfl, hpre⟩ := hrel
    have HE := Lib.hid hpre; clear hpre
    by_cases hlt : j < n
    · obtain ⟨b, off, rfl, hb, hc⟩ := HA.out.at j (by rw [← HN.out]; exact hlt)
      have c1 := hc j (by rw [← HN.out]; exact hlt)
      clear hc
      obtain ⟨x, hx⟩ : ∃ x, x = l.getD j 0 := ⟨_, rfl⟩
      rw [← hx] at c1
      have HX := Lib.hid hx; clear hx
      have LX := Lib.hid (LO.out x)
      cases hv : pixE x with
      | true =>
        rw [hv] at LX
        have HV := Lib.hid hv; clear hv
        go_wp2_with fail
        refine (LX.out _).mono ?_
        rintro e w1 ⟨rfl, hw⟩
        subst hw
        go_wp2
        go_round
        case rel =>
          refine ⟨j + 1, by omega, by go_num, fun t ht => ?_⟩
          by_cases htj : t = j
          · subst htj; rw [← HX.out]; exact HV.out
          · exact HE.out t (by omega)
        case measure => simp [intOf]; omega
      | false =>
        rw [hv] at LX
        have HV : Hid (l.all pixE = false) := Lib.hid (pix_no (by rw [← HN.out]; exact hlt) (by rw [← HX.out]; exact hv))
        clear hv
        go_wp2_with fail
        refine (LX.out _).mono ?_
        rintro e w1 ⟨rfl, hw⟩
        subst hw
        go_wp2
        go_ret
        exact ⟨by rw [HV.out]; rfl, rfl⟩
    · obtain rfl : j = n := by omega
      have HV : Hid (l.all pixE = true) := Lib.hid (pix_yes (by rw [← HN.out]; exact HE.out))
      go_wp2
      go_ret
      exact ⟨by rw [HV.out]; rfl, rfl⟩
end Go.Proofs.Ytemfiglflbfocaa

namespace Go.Proofs.Ytemfiglflbfocaa
open Go.RowKit
set_option linter.unusedVariables false

theorem ints_take {w : World} {g b off : Nat} {l : List Int} {n : Nat} (hn : n ≤ l.length) (hs : n ≤ 1000) (hb : b < g) (hc : ∀ j, j < l.length → w.cell? ⟨b, off + j, none⟩ = some (.int .i64 (l.getD j 0))) : Ints w g (some ⟨b, off, none⟩) (l.take n) := by
  refine ⟨by rw [List.length_take]; omega, .inr ⟨b, off, rfl, hb, fun j hj => ?_⟩⟩
  rw [List.length_take] at hj
  rw [hc j (by omega), List.getD_eq_getElem?_getD, List.getD_eq_getElem?_getD, List.getElem?_take, if_pos (by omega)]
theorem nbOk_false_bord {t l : List Int} {k n : Int} (h : nbOk t l k n = false) : bordL t l k n = [] := by unfold bordL; rw [if_neg (by rw [h]; simp)]
theorem nbOk_true_bord {t l : List Int} {k n : Int} (h : nbOk t l k n = true) : bordL t l k n = bordF t l k := by unfold bordL; rw [if_pos h]
theorem own_shape {w : World} {base : Nat} {e : TypeId} {size : Nat} {v : Value} {n : Nat} {xs : List Value} (h : w.ownsRow base e size v n xs) : ∃ A c, v = .slice A n c := by
  rcases h.2 with ⟨h1, h2⟩ | ⟨g, cap, cur, h1, _⟩
  · exact ⟨none, 0, by rw [h1, h2]⟩
  · exact ⟨_, _, h1⟩
theorem own_at' (w : World) (base k : Nat) (l : List Int) (hb : base ≤ w.heap.size) (hm : l.length ≤ maxLen) (hk : w.heap.size = k) : OwnI (w.alloc (.cells (ivs l).toArray 3)) base (some ⟨k, 0, none⟩) l.length l := by
  subst hk
  exact own_ints w base l hb hm

end Go.Proofs.Ytemfiglflbfocaa

namespace Go.Proofs.Ytemfiglflbfocaa
open Go.RowKit
set_option linter.unusedVariables false

theorem below_drews {B : Nat} {u w : World} (h : Below B u w) (k : Nat) : Below B u (w.drewN k) := ⟨h.os, h.tape, h.output, h.size, h.block⟩
theorem below_any_drew {B : Nat} {u w : World} (h : Below B u w) : Below B u w.drew := h.drew

end Go.Proofs.Ytemfiglflbfocaa
