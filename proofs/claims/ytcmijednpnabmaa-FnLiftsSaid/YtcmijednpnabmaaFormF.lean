/-
  Contracts of the model's l12Fits, l12Some and the four transforms. Condition: the list is no longer than 1048576 (the laws ask no more).
-/
import Derived.Test.YtcmijednpnabmaaForm4f
import Derived.Test.YtcmijednpnabmaaForm4b
import Derived.Test.YtcmijednpnabmaaForm8f
import Derived.Test.YtcmijednpnabmaaForm8b
import Derived.Test.YtcmijednpnabmaaFitsM
namespace Go.Proofs.Ytcmijednpnabmaa
open Go.RowKit
set_option linter.unusedVariables false


set_option maxRecDepth 100000 in
set_option maxHeartbeats 1000000 in
theorem l12some_4_false (A : Option Addr) (ca : Nat) (l : List Int) (w : World) (hA : Ints w w.heap.size A l) :
    Calls Try.prog 51 #[.slice A l.length ca, .int .i64 4, .bool false] w fun e w' => ∃ A' c, e = .returned (.slice A' (xfR 4 false l).length c) ∧ OwnI w' w.heap.size A' c (xfR 4 false l) ∧ Below w.heap.size w w' := by
  have FI := Lib.hid (l12fits_4 A ca l w hA)
  cases hf : fitL 4 l with
  | false =>
    rw [hf] at FI
    rw [xfR_unfit false hf]
    have O0 := Lib.hid (own_ints w w.heap.size [] (Nat.le_refl _) (by simp))
    have B0 := Lib.hid ((Below.refl w.heap.size w).alloc (Nat.le_refl _) (.cells (ivs []).toArray 3))
    obtain ⟨n, hn⟩ : ∃ n, n = l.length := ⟨_, rfl⟩
    rw [← hn] at FI ⊢
    clear hA hf hn
    go_enter Try.func51, Try.ntmps51
    go_wp2_with fail
    refine FI.out.mono ?_
    rintro e w1 ⟨rfl, hw⟩
    subst hw
    go_wp2
    go_ret
    exact ⟨_, _, rfl, O0.out, B0.out⟩
  | true =>
    rw [hf] at FI
    have hl : l.length = 16 := fitL_len hf
    rw [xfR_fit false hf, show (mulF 4 (matE 4 false) l).length = 16 from mulF_len _ _ _]
    have MU := Lib.hid (l12mul_4_false A ca l hl (fitL_at hf) w hA)
    rw [hl] at FI ⊢
    obtain ⟨z, hz⟩ : ∃ z, z = mulF 4 (matE 4 false) l := ⟨_, rfl⟩
    rw [← hz] at MU ⊢
    clear hA hf hl hz
    go_enter Try.func51, Try.ntmps51
    go_wp2_with fail
    refine FI.out.mono ?_
    rintro e w1 ⟨rfl, hw⟩
    subst hw
    go_wp2_with fail
    refine MU.out.mono ?_
    rintro e w1 ⟨A1, c1, rfl, ho1, hb1⟩
    have O1 := Lib.hid ho1; have B1 := Lib.hid hb1
    clear ho1 hb1
    go_wp2
    go_ret
    exact ⟨_, _, rfl, O1.out, B1.out⟩
set_option maxRecDepth 100000 in
set_option maxHeartbeats 1000000 in
theorem l12some_4_true (A : Option Addr) (ca : Nat) (l : List Int) (w : World) (hA : Ints w w.heap.size A l) :
    Calls Try.prog 51 #[.slice A l.length ca, .int .i64 4, .bool true] w fun e w' => ∃ A' c, e = .returned (.slice A' (xfR 4 true l).length c) ∧ OwnI w' w.heap.size A' c (xfR 4 true l) ∧ Below w.heap.size w w' := by
  have FI := Lib.hid (l12fits_4 A ca l w hA)
  cases hf : fitL 4 l with
  | false =>
    rw [hf] at FI
    rw [xfR_unfit true hf]
    have O0 := Lib.hid (own_ints w w.heap.size [] (Nat.le_refl _) (by simp))
    have B0 := Lib.hid ((Below.refl w.heap.size w).alloc (Nat.le_refl _) (.cells (ivs []).toArray 3))
    obtain ⟨n, hn⟩ : ∃ n, n = l.length := ⟨_, rfl⟩
    rw [← hn] at FI ⊢
    clear hA hf hn
    go_enter Try.func51, Try.ntmps51
    go_wp2_with fail
    refine FI.out.mono ?_
    rintro e w1 ⟨rfl, hw⟩
    subst hw
    go_wp2
    go_ret
    exact ⟨_, _, rfl, O0.out, B0.out⟩
  | true =>
    rw [hf] at FI
    have hl : l.length = 16 := fitL_len hf
    rw [xfR_fit true hf, show (mulF 4 (matE 4 true) l).length = 16 from mulF_len _ _ _]
    have MU := Lib.hid (l12mul_4_true A ca l hl (fitL_at hf) w hA)
    rw [hl] at FI ⊢
    obtain ⟨z, hz⟩ : ∃ z, z = mulF 4 (matE 4 true) l := ⟨_, rfl⟩
    rw [← hz] at MU ⊢
    clear hA hf hl hz
    go_enter Try.func51, Try.ntmps51
    go_wp2_with fail
    refine FI.out.mono ?_
    rintro e w1 ⟨rfl, hw⟩
    subst hw
    go_wp2_with fail
    refine MU.out.mono ?_
    rintro e w1 ⟨A1, c1, rfl, ho1, hb1⟩
    have O1 := Lib.hid ho1; have B1 := Lib.hid hb1
    clear ho1 hb1
    go_wp2
    go_ret
    exact ⟨_, _, rfl, O1.out, B1.out⟩
set_option maxRecDepth 100000 in
set_option maxHeartbeats 1000000 in
theorem spec_inverse4_any (A : Option Addr) (ca : Nat) (l : List Int) (w : World) (hA : Ints w w.heap.size A l) :
    Calls Try.prog 32 #[.slice A l.length ca] w fun e w' => ∃ A' c, e = .returned (.slice A' (xfR 4 true l).length c) ∧ OwnI w' w.heap.size A' c (xfR 4 true l) ∧ Below w.heap.size w w' := by
  have SO := Lib.hid (l12some_4_true A ca l w hA)
  obtain ⟨z, hz⟩ : ∃ z, z = xfR 4 true l := ⟨_, rfl⟩
  rw [← hz] at SO ⊢
  obtain ⟨n, hn⟩ : ∃ n, n = l.length := ⟨_, rfl⟩
  rw [← hn] at SO ⊢
  clear hA hz hn
  go_enter Try.func32, Try.ntmps32
  go_wp2_with fail
  refine SO.out.mono ?_
  rintro e w1 ⟨A1, c1, rfl, ho1, hb1⟩
  have O1 := Lib.hid ho1; have B1 := Lib.hid hb1
  clear ho1 hb1
  go_wp2
  go_ret
  exact ⟨_, _, rfl, O1.out, B1.out⟩

set_option maxRecDepth 100000 in
set_option maxHeartbeats 1000000 in
theorem l12some_8_false (A : Option Addr) (ca : Nat) (l : List Int) (w : World) (hA : Ints w w.heap.size A l) :
    Calls Try.prog 51 #[.slice A l.length ca, .int .i64 8, .bool false] w fun e w' => ∃ A' c, e = .returned (.slice A' (xfR 8 false l).length c) ∧ OwnI w' w.heap.size A' c (xfR 8 false l) ∧ Below w.heap.size w w' := by
  have FI := Lib.hid (l12fits_8 A ca l w hA)
  cases hf : fitL 8 l with
  | false =>
    rw [hf] at FI
    rw [xfR_unfit false hf]
    have O0 := Lib.hid (own_ints w w.heap.size [] (Nat.le_refl _) (by simp))
    have B0 := Lib.hid ((Below.refl w.heap.size w).alloc (Nat.le_refl _) (.cells (ivs []).toArray 3))
    obtain ⟨n, hn⟩ : ∃ n, n = l.length := ⟨_, rfl⟩
    rw [← hn] at FI ⊢
    clear hA hf hn
    go_enter Try.func51, Try.ntmps51
    go_wp2_with fail
    refine FI.out.mono ?_
    rintro e w1 ⟨rfl, hw⟩
    subst hw
    go_wp2
    go_ret
    exact ⟨_, _, rfl, O0.out, B0.out⟩
  | true =>
    rw [hf] at FI
    have hl : l.length = 64 := fitL_len hf
    rw [xfR_fit false hf, show (mulF 8 (matE 8 false) l).length = 64 from mulF_len _ _ _]
    have MU := Lib.hid (l12mul_8_false A ca l hl (fitL_at hf) w hA)
    rw [hl] at FI ⊢
    obtain ⟨z, hz⟩ : ∃ z, z = mulF 8 (matE 8 false) l := ⟨_, rfl⟩
    rw [← hz] at MU ⊢
    clear hA hf hl hz
    go_enter Try.func51, Try.ntmps51
    go_wp2_with fail
    refine FI.out.mono ?_
    rintro e w1 ⟨rfl, hw⟩
    subst hw
    go_wp2_with fail
    refine MU.out.mono ?_
    rintro e w1 ⟨A1, c1, rfl, ho1, hb1⟩
    have O1 := Lib.hid ho1; have B1 := Lib.hid hb1
    clear ho1 hb1
    go_wp2
    go_ret
    exact ⟨_, _, rfl, O1.out, B1.out⟩
set_option maxRecDepth 100000 in
set_option maxHeartbeats 1000000 in
theorem spec_forward8_any (A : Option Addr) (ca : Nat) (l : List Int) (w : World) (hA : Ints w w.heap.size A l) :
    Calls Try.prog 33 #[.slice A l.length ca] w fun e w' => ∃ A' c, e = .returned (.slice A' (xfR 8 false l).length c) ∧ OwnI w' w.heap.size A' c (xfR 8 false l) ∧ Below w.heap.size w w' := by
  have SO := Lib.hid (l12some_8_false A ca l w hA)
  obtain ⟨z, hz⟩ : ∃ z, z = xfR 8 false l := ⟨_, rfl⟩
  rw [← hz] at SO ⊢
  obtain ⟨n, hn⟩ : ∃ n, n = l.length := ⟨_, rfl⟩
  rw [← hn] at SO ⊢
  clear hA hz hn
  go_enter Try.func33, Try.ntmps33
  go_wp2_with fail
  refine SO.out.mono ?_
  rintro e w1 ⟨A1, c1, rfl, ho1, hb1⟩
  have O1 := Lib.hid ho1; have B1 := Lib.hid hb1
  clear ho1 hb1
  go_wp2
  go_ret
  exact ⟨_, _, rfl, O1.out, B1.out⟩

set_option maxRecDepth 100000 in
set_option maxHeartbeats 1000000 in
theorem l12some_8_true (A : Option Addr) (ca : Nat) (l : List Int) (w : World) (hA : Ints w w.heap.size A l) :
    Calls Try.prog 51 #[.slice A l.length ca, .int .i64 8, .bool true] w fun e w' => ∃ A' c, e = .returned (.slice A' (xfR 8 true l).length c) ∧ OwnI w' w.heap.size A' c (xfR 8 true l) ∧ Below w.heap.size w w' := by
  have FI := Lib.hid (l12fits_8 A ca l w hA)
  cases hf : fitL 8 l with
  | false =>
    rw [hf] at FI
    rw [xfR_unfit true hf]
    have O0 := Lib.hid (own_ints w w.heap.size [] (Nat.le_refl _) (by simp))
    have B0 := Lib.hid ((Below.refl w.heap.size w).alloc (Nat.le_refl _) (.cells (ivs []).toArray 3))
    obtain ⟨n, hn⟩ : ∃ n, n = l.length := ⟨_, rfl⟩
    rw [← hn] at FI ⊢
    clear hA hf hn
    go_enter Try.func51, Try.ntmps51
    go_wp2_with fail
    refine FI.out.mono ?_
    rintro e w1 ⟨rfl, hw⟩
    subst hw
    go_wp2
    go_ret
    exact ⟨_, _, rfl, O0.out, B0.out⟩
  | true =>
    rw [hf] at FI
    have hl : l.length = 64 := fitL_len hf
    rw [xfR_fit true hf, show (mulF 8 (matE 8 true) l).length = 64 from mulF_len _ _ _]
    have MU := Lib.hid (l12mul_8_true A ca l hl (fitL_at hf) w hA)
    rw [hl] at FI ⊢
    obtain ⟨z, hz⟩ : ∃ z, z = mulF 8 (matE 8 true) l := ⟨_, rfl⟩
    rw [← hz] at MU ⊢
    clear hA hf hl hz
    go_enter Try.func51, Try.ntmps51
    go_wp2_with fail
    refine FI.out.mono ?_
    rintro e w1 ⟨rfl, hw⟩
    subst hw
    go_wp2_with fail
    refine MU.out.mono ?_
    rintro e w1 ⟨A1, c1, rfl, ho1, hb1⟩
    have O1 := Lib.hid ho1; have B1 := Lib.hid hb1
    clear ho1 hb1
    go_wp2
    go_ret
    exact ⟨_, _, rfl, O1.out, B1.out⟩
end Go.Proofs.Ytcmijednpnabmaa
