/-
  Chapter 16: what ClipAdd4 answers, and the contract of the model's ClipAdd4. No condition.
-/
import Derived.Test.YtjgbenhjafgimaaPrA
import Derived.Test.YtjgbenhjafgimaaQuantA
import Derived.Deep.RegionHeld3
namespace Go.Proofs.Ytjgbenhjafgimaa
open Go.RowKit
set_option linter.unusedVariables false

/-- What ClipAdd4 answers: at a place, and as a whole. -/
def caAt (p r : List Int) (i : Nat) : Int := clipV (p.getD i 0 + lim 1023 (r.getD i 0))
def caF (p r : List Int) : List Int := (List.range 4).map (caAt p r)
def caL (p r : List Int) : List Int := if p.length = 4 ∧ r.length = 4 ∧ p.all pixE = true then caF p r else []
theorem caF_len (p r : List Int) : (caF p r).length = 4 := by simp [caF]
theorem caL_len (p r : List Int) : (caL p r).length ≤ 64 := by
  unfold caL
  split
  · rw [caF_len]; decide
  · simp
theorem caF_at (p r : List Int) {i : Nat} (hi : i < 4) : (caF p r).getD i 0 = caAt p r i := by
  rw [List.getD_eq_getElem?_getD, caF, List.getElem?_map, List.getElem?_range hi]
  rfl
theorem caF_next (p r : List Int) {i : Nat} (hi : i < 4) : (caF p r).take (i + 1) = (caF p r).take i ++ [caAt p r i] := by
  rw [take_snoc_q _ i (by rw [caF_len]; exact hi), caF_at p r hi]
theorem lim_k (x : Int) : ∃ y : Int, (if x < 1023 then x else (1023 : Int)) = y ∧ (if (-1023 : Int) < y then y else -1023) = lim 1023 x ∧ max (-1023) (min 1023 x) = lim 1023 x :=
  ⟨_, rfl, by unfold lim; split <;> split <;> omega, by unfold lim; omega⟩
theorem hold_two {w wr w' : World} {p q : Addr} {u v : Value} (h : wr.cell? p = some u ∧ wr.cell? q = some v ∧ Below w.heap.size w wr) (hb : Below wr.heap.size wr w') : w'.cell? p = some u ∧ w'.cell? q = some v ∧ Below w.heap.size w w' := by
  have k : ∀ {p : Addr} {v : Value}, wr.cell? p = some v → w'.cell? p = some v := fun hc => by
    rw [hb.cell (World.block_lt_of_cell? wr _ hc)]; exact hc
  exact ⟨k h.1, k h.2.1, below_up h.2.2 hb h.2.2.size⟩
theorem hold_two_drew {w wr : World} {p q : Addr} {u v : Value} (h : wr.cell? p = some u ∧ wr.cell? q = some v ∧ Below w.heap.size w wr) : wr.drew.cell? p = some u ∧ wr.drew.cell? q = some v ∧ Below w.heap.size w wr.drew := ⟨h.1, h.2.1, h.2.2.drew⟩
theorem hold_two_alloc {w wr : World} {p q : Addr} {u v : Value} (h : wr.cell? p = some u ∧ wr.cell? q = some v ∧ Below w.heap.size w wr) (o : Obj) : (wr.alloc o).cell? p = some u ∧ (wr.alloc o).cell? q = some v ∧ Below w.heap.size w (wr.alloc o) := hold_two h (below_new wr o)
theorem hold_two_below {w wr : World} {p q : Addr} {u v : Value} (h : wr.cell? p = some u ∧ wr.cell? q = some v ∧ Below w.heap.size w wr) : Below w.heap.size w wr := h.2.2
theorem hold_two_at {w w' : World} {p q : Addr} {u v : Value} (c : w.cell? p = some u) (d : w.cell? q = some v) (hp : p.block < w.heap.size) (hq : q.block < w.heap.size) (hb : Below w.heap.size w w') : w'.cell? p = some u ∧ w'.cell? q = some v ∧ Below w.heap.size w w' := ⟨by rw [hb.cell hp]; exact c, by rw [hb.cell hq]; exact d, hb⟩
set_option maxRecDepth 100000 in
set_option maxHeartbeats 4000000 in
theorem spec_clipadd_four (A B : Option Addr) (ca cb : Nat) (p r : List Int) (hp : p.length = 4) (hr : r.length = 4) (hpx : p.all pixE = true) (w : World) (hA : Ints w w.heap.size A p) (hB : Ints w w.heap.size B r) :
    Calls Try.prog 65 #[.slice A 4 ca, .slice B 4 cb] w fun e w' => ∃ A' c, e = .returned (.slice A' 4 c) ∧ OwnI w' w.heap.size A' c (caF p r) ∧ Below w.heap.size w w' := by
  obtain ⟨i0, hi, hz0, hz1, hz2⟩ := info_parts Try.iinfo
  have PX := Lib.hid (l14pix_any A ca p w hA)
  rw [hpx, hp] at PX
  obtain ⟨pb, poff, rfl, hpb, hpc⟩ := hA.at 0 (by omega)
  obtain ⟨rb, roff, rfl, hrb, hrc⟩ := hB.at 0 (by omega)
  have HPC := Lib.hid hpc; have HRC := Lib.hid hrc; have HPL := Lib.hid hp; have HRL := Lib.hid hr
  have HPX : Hid (∀ i, i < 4 → 0 ≤ p.getD i 0 ∧ p.getD i 0 ≤ 255) := Lib.hid fun i hi => by
    rw [List.all_eq_true] at hpx
    have := hpx (p[i]'(by omega)) (List.getElem_mem _)
    rw [List.getD_eq_getElem?_getD, List.getElem?_eq_getElem (by omega)]
    exact pixE_true this
  have HNX := Lib.hid fun i (hi : i < 4) => caF_next p r hi
  have HCL := Lib.hid (caF_len p r)
  have CL := Lib.hid l15clip_any
  have O0 := Lib.hid (own_ints w w.heap.size [] (Nat.le_refl _) (by simp))
  have B0 := Lib.hid ((Below.refl w.heap.size w).alloc (Nat.le_refl _) (.cells (ivs []).toArray 3))
  have HAT : Hid (∀ i, caAt p r i = clipV (p.getD i 0 + lim 1023 (r.getD i 0))) := Lib.hid fun i => rfl
  obtain ⟨C, hC⟩ : ∃ C, C = caF p r := ⟨_, rfl⟩
  rw [← hC] at HNX HCL ⊢
  clear hC hpc hrc hp hr hpx hA hB
  go_enter Try.func65, Try.ntmps65
  go_wp2_with fail
  refine PX.out.mono ?_
  rintro e w1 ⟨rfl, hw⟩
  subst hw
  go_wp2
  go_loopw [5, 6] (fun v i wr => ∃ j : Nat, j ≤ 4 ∧ i = .int .i64 j ∧ wr.ownsRow w.heap.size 3 1 v j (ivs (C.take j)) ∧ Below w.heap.size w wr)
    (fun _ i _ => 4 - (intOf i).toNat)
  case atStart => exact ⟨0, Nat.zero_le _, rfl, O0.out, B0.out⟩
  case round =>
    obtain ⟨j, hj, rfl, hown, hbel⟩ := hrel
    by_cases hlt : j < 4
    · have d1 : decide ((j : Int) < 4) = true := by simp; omega
      have cp := HPC.out j (by rw [HPL.out]; exact hlt)
      have cr := HRC.out j (by rw [HRL.out]; exact hlt)
      have hnx := HNX.out j hlt
      rw [HAT.out j] at hnx
      have hxr := HPX.out j hlt
      obtain ⟨x, hx⟩ : ∃ x, x = p.getD j 0 := ⟨_, rfl⟩
      obtain ⟨y, hy⟩ : ∃ x, x = r.getD j 0 := ⟨_, rfl⟩
      rw [← hx] at cp hnx hxr
      rw [← hy] at cr hnx
      obtain ⟨y1, hm1, hm2, hmm⟩ := lim_k y
      have hlr := lim_range (m := 1023) (v := y) (by decide)
      obtain ⟨z, hz⟩ : ∃ z, z = lim 1023 y := ⟨_, rfl⟩
      rw [← hz] at hm2 hmm hlr hnx
      have hp1 : IntKind.i64.wrap (x + z) = x + z := IntWalk.i64_in _ (by omega)
      have CX := Lib.hid (CL.out (x + z))
      obtain ⟨u, hu⟩ : ∃ u, u = clipV (x + z) := ⟨_, rfl⟩
      rw [← hu] at CX hnx
      have HX := Lib.hid hnx; have CP := Lib.hid cp; have CR := Lib.hid cr
      obtain ⟨rowv, hrow⟩ : ∃ r, r = C.take j := ⟨_, rfl⟩
      rw [← hrow] at hown HX
      obtain ⟨Av, cv, rfl⟩ := own_shape hown
      have hO0 := hown
      have hO := hown.drew
      have hS0 := hold_two_at cp cr hpb hrb hbel
      have hS := hold_two_drew hS0
      have hj0 : (0 : Int) ≤ (j : Int) := by omega
      have hj1 : (j : Int) < 4 := by omega
      clear hx hy hnx hz hu hrow cp cr hown hbel
      go_wp2_with fail
      go_region_held3 (fun w' => w'.cell? ⟨pb, poff + j, none⟩ = some (.int .i64 x) ∧ w'.cell? ⟨rb, roff + j, none⟩ = some (.int .i64 y) ∧ Below w.heap.size w w')
        (first | with_reducible assumption | (with_reducible refine hold_two_drew ?_; with_reducible assumption) | (with_reducible refine hold_two ?_ (by with_reducible assumption); with_reducible assumption) | (with_reducible refine hold_two_alloc ?_ _; with_reducible assumption) | (with_reducible refine hold_two_drew (hold_two_alloc ?_ _); with_reducible assumption) | (with_reducible exact hold_two_at CP.out CR.out (by assumption) (by assumption) (by with_reducible assumption)))
        (first
          | (go_at_call 79; with_reducible refine (CX.out _).mono ?_; rintro e w' ⟨rfl, rfl⟩)
          | (refine step_append_lit wr.drew rfl (.tmp 26) (.tmp 39) 24 rfl w 3 i0 (.int .i64 0) 8 Try.underlying24 hi hz0 hz1 hz2 rfl _ _ _ rfl (by assumption) [_] rfl (by simp [Value.oneCell']) rfl (by simp; omega) (by unfold maxLen; simp; omega) (by first | with_reducible assumption | exact hold_two_below (by with_reducible assumption)) ?_; intro v' w' hown' hb'))
      all_goals
        go_wp2
        go_roundw
        case rel =>
          refine ⟨j + 1, by omega, by go_num, ?_, by assumption⟩
          rw [HX.out, ivs_append]
          exact hown'
        case measure => simp [intOf]; omega
    · obtain rfl : j = 4 := by omega
      have e1 : C.take 4 = C := List.take_of_length_le (by rw [HCL.out]; exact Nat.le_refl _)
      rw [e1] at hown
      obtain ⟨A3, c3, hv3, ho3⟩ := own_slice hown
      rw [HCL.out] at hv3
      subst hv3
      have O3 := Lib.hid ho3; have B3 := Lib.hid hbel
      clear hown hbel ho3 e1
      go_wp2
      go_ret
      exact ⟨_, _, rfl, O3.out, B3.out⟩
set_option maxRecDepth 100000 in
set_option maxHeartbeats 1000000 in
theorem spec_clipadd4_any (A B : Option Addr) (ca cb : Nat) (p r : List Int) (w : World) (hA : Ints w w.heap.size A p) (hB : Ints w w.heap.size B r) :
    Calls Try.prog 65 #[.slice A p.length ca, .slice B r.length cb] w fun e w' => ∃ A' c, e = .returned (.slice A' (caL p r).length c) ∧ OwnI w' w.heap.size A' c (caL p r) ∧ Below w.heap.size w w' := by
  by_cases h1 : p.length = 4
  · by_cases h2 : r.length = 4
    · cases hpx : p.all pixE with
      | true =>
        have e : caL p r = caF p r := by unfold caL; rw [if_pos ⟨h1, h2, hpx⟩]
        rw [e, caF_len, h1, h2]
        exact spec_clipadd_four A B ca cb p r h1 h2 hpx w hA hB
      | false =>
        have e : caL p r = [] := by unfold caL; rw [if_neg (by rw [hpx]; simp)]
        rw [e]
        have PX := Lib.hid (l14pix_any A ca p w hA)
        rw [hpx] at PX
        have O0 := Lib.hid (own_ints w w.heap.size [] (Nat.le_refl _) (by simp))
        have B0 := Lib.hid ((Below.refl w.heap.size w).alloc (Nat.le_refl _) (.cells (ivs []).toArray 3))
        rw [h1] at PX ⊢
        rw [h2]
        clear e hpx hA hB h1 h2
        go_enter Try.func65, Try.ntmps65
        go_wp2_with fail
        refine PX.out.mono ?_
        rintro e w1 ⟨rfl, hw⟩
        subst hw
        go_wp2
        go_ret
        exact ⟨_, _, rfl, O0.out, B0.out⟩
    · have e : caL p r = [] := by unfold caL; rw [if_neg (fun h => h2 h.2.1)]
      rw [e]
      have hnr := hB.1
      have O0 := Lib.hid (own_ints w w.heap.size [] (Nat.le_refl _) (by simp))
      have B0 := Lib.hid ((Below.refl w.heap.size w).alloc (Nat.le_refl _) (.cells (ivs []).toArray 3))
      rw [h1]
      obtain ⟨n, hn⟩ : ∃ n, n = r.length := ⟨_, rfl⟩
      rw [← hn] at h2 hnr ⊢
      have q : ((n : Int) != 4) = true := by rw [bne_iff_ne]; omega
      clear e hn hA hB h1 h2
      go_enter Try.func65, Try.ntmps65
      go_wp2
      go_ret
      exact ⟨_, _, rfl, O0.out, B0.out⟩
  · have e : caL p r = [] := by unfold caL; rw [if_neg (fun h => h1 h.1)]
    rw [e]
    have hnp := hA.1; have hnr := hB.1
    have O0 := Lib.hid (own_ints w w.heap.size [] (Nat.le_refl _) (by simp))
    have B0 := Lib.hid ((Below.refl w.heap.size w).alloc (Nat.le_refl _) (.cells (ivs []).toArray 3))
    obtain ⟨n, hn⟩ : ∃ n, n = p.length := ⟨_, rfl⟩
    obtain ⟨m, hm⟩ : ∃ n, n = r.length := ⟨_, rfl⟩
    rw [← hn] at h1 hnp ⊢
    rw [← hm] at hnr ⊢
    have q : ((n : Int) != 4) = true := by rw [bne_iff_ne]; omega
    clear e hn hm hA hB h1
    go_enter Try.func65, Try.ntmps65
    go_wp2
    go_ret
    exact ⟨_, _, rfl, O0.out, B0.out⟩
end Go.Proofs.Ytjgbenhjafgimaa
