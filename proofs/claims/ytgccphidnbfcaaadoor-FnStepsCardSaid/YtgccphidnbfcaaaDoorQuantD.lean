/-
  The contract of the model's Scaled. Condition: the list is no longer than 1048576 (the laws ask no more).
-/
import Derived.Test.YtgccphidnbfcaaaDoorQuantC
import Derived.Deep.RegionHeld3
namespace Go.Proofs.YtgccphidnbfcaaaDoor
open Go.RowKit
set_option linter.unusedVariables false

section
variable {w wr w' : World} {p : Addr} {v : Value}
theorem holdq (c : w.cell? p = some v) (hp : p.block < w.heap.size) (hb : Below w.heap.size w w') : w'.cell? p = some v ∧ Below w.heap.size w w' := ⟨by rw [hb.cell hp]; exact c, hb⟩
theorem holdq_drew (h : wr.cell? p = some v ∧ Below w.heap.size w wr) : wr.drew.cell? p = some v ∧ Below w.heap.size w wr.drew := ⟨h.1, h.2.drew⟩
theorem holdq_call (hp : p.block < w.heap.size) (h : wr.cell? p = some v ∧ Below w.heap.size w wr) (hb : Below wr.heap.size wr w') : w'.cell? p = some v ∧ Below w.heap.size w w' :=
  ⟨by rw [hb.cell (Nat.lt_of_lt_of_le hp h.2.size)]; exact h.1, below_up h.2 hb h.2.size⟩
theorem holdq_alloc (hp : p.block < w.heap.size) (h : wr.cell? p = some v ∧ Below w.heap.size w wr) (o : Obj) : (wr.alloc o).cell? p = some v ∧ Below w.heap.size w (wr.alloc o) :=
  holdq_call hp h (below_new wr o)
theorem holdq_below (h : wr.cell? p = some v ∧ Below w.heap.size w wr) : Below w.heap.size w wr := h.2
end

set_option maxRecDepth 100000 in
set_option maxHeartbeats 4000000 in
theorem spec_scaled_any (A : Option Addr) (ca : Nat) (l : List Int) (q : Int) (hll : l.length ≤ 1048576) (w : World) (hA : Ints w w.heap.size A l) :
    Calls Tryd.prog 17 #[.slice A l.length ca, .int .i64 q] w fun e w' => ∃ A' c, e = .returned (.slice A' (scV l q).length c) ∧ OwnI w' w.heap.size A' c (scV l q) ∧ Below w.heap.size w w' := by
  obtain ⟨i0, hi, hz0, hz1, hz2⟩ := info_parts Tryd.iinfo
  have ST := Lib.hid (spec_stepof_any q)
  have LO := Lib.hid fun w h => spec_levelsok_any A ca l w h
  have O0 := Lib.hid (own_ints w w.heap.size [] (Nat.le_refl _) (by simp))
  have B0 := Lib.hid ((Below.refl w.heap.size w).alloc (Nat.le_refl _) (.cells (ivs []).toArray 3))
  have HA := Lib.hid hA
  cases hok : okV l with
  | false =>
    rw [scV_bad q hok]
    rw [hok] at LO
    obtain ⟨n, hn⟩ : ∃ n, n = l.length := ⟨_, rfl⟩
    rw [← hn] at LO hll ⊢
    clear hn hA hok
    go_enter Tryd.func17, Tryd.ntmps17
    go_wp2
    go_loopw [5, 6] (fun v i wr => v = .slice (some ⟨w.heap.size, 0, none⟩) 0 0 ∧ i = .int .i64 0 ∧ OwnI wr w.heap.size (some ⟨w.heap.size, 0, none⟩) 0 [] ∧ Below w.heap.size w wr)
      (fun _ _ _ => 0)
    case atStart => exact ⟨rfl, rfl, O0.out, B0.out⟩
    case round =>
      obtain ⟨rfl, rfl, ho, hb⟩ := hrel
      have O1 := Lib.hid ho; have B1 := Lib.hid hb; clear ho hb
      by_cases h0 : n = 0
      · subst h0
        go_wp2
        go_ret
        exact ⟨_, _, rfl, O1.out, B1.out⟩
      · have d1 : 0 < n := by omega
        clear h0
        go_wp2_with fail
        refine (LO.out _ ((HA.out.below B1.out (Nat.le_refl _)).mono B1.out.size)).mono ?_
        rintro e w1 ⟨rfl, hw⟩
        subst hw
        go_wp2
        go_ret
        exact ⟨_, _, rfl, O1.out, B1.out⟩
  | true =>
    rw [hok] at LO
    by_cases hs0 : stV q = 0
    · rw [scV_zero hs0]
      rw [hs0] at ST
      obtain ⟨n, hn⟩ : ∃ n, n = l.length := ⟨_, rfl⟩
      have d1 : 0 < n := by have := okV_len hok; omega
      rw [← hn] at LO hll ⊢
      clear hn hA hok hs0
      go_enter Tryd.func17, Tryd.ntmps17
      go_wp2
      go_loopw [5, 6] (fun v i wr => v = .slice (some ⟨w.heap.size, 0, none⟩) 0 0 ∧ i = .int .i64 0 ∧ OwnI wr w.heap.size (some ⟨w.heap.size, 0, none⟩) 0 [] ∧ Below w.heap.size w wr)
        (fun _ _ _ => 0)
      case atStart => exact ⟨rfl, rfl, O0.out, B0.out⟩
      case round =>
        obtain ⟨rfl, rfl, ho, hb⟩ := hrel
        have O1 := Lib.hid ho; have B1 := Lib.hid hb; clear ho hb
        go_wp2_with fail
        refine (LO.out _ ((HA.out.below B1.out (Nat.le_refl _)).mono B1.out.size)).mono ?_
        rintro e w1 ⟨rfl, hw⟩
        subst hw
        go_wp2_with fail
        refine (ST.out _).mono ?_
        rintro e w2 ⟨rfl, hb2⟩
        have O2 := Lib.hid (O1.out.kept hb2 (Nat.le_refl _))
        have B2 := Lib.hid (below_up B1.out hb2 B1.out.size)
        clear hb2
        go_wp2
        go_ret
        exact ⟨_, _, rfl, O2.out, B2.out⟩
    · rw [scV_full hok hs0]
      have hr := stV_range q
      have HR := Lib.hid fun j (hj : j < l.length) => scAt_range (q := q) (okV_at hok j hj)
      have hlen := okV_len hok
      obtain ⟨n, hn⟩ : ∃ n, n = l.length := ⟨_, rfl⟩
      rw [← hn] at LO hll hlen ⊢
      have SI := Lib.hid (spec_side_any A ca n)
      have hn64 : n ≤ 64 := by omega
      have HAT : Hid (∀ j, scAt l q j = l.getD j 0 * stV q * nmV (sideN n) (j : Int)) := Lib.hid fun j => by rw [hn]; rfl
      obtain ⟨S, hSS⟩ : ∃ S, S = sideN n := ⟨_, rfl⟩
      rw [← hSS] at SI HAT
      have NO := Lib.hid fun i w => spec_normat_any S i w
      obtain ⟨s, hs⟩ : ∃ s, s = stV q := ⟨_, rfl⟩
      rw [← hs] at ST hs0 HAT HR hr
      have b2 : decide (0 < s) = true := by simp; omega
      have HN := Lib.hid hn
      clear hn hA hok hs0 hs hlen hSS hr
      go_enter Tryd.func17, Tryd.ntmps17
      go_wp2
      go_loopw [5, 6] (fun v i wr => ∃ j : Nat, j ≤ n ∧ i = .int .i64 j ∧ wr.ownsRow w.heap.size 3 1 v j (ivs ((scF l q).take j)) ∧ Below w.heap.size w wr)
        (fun _ i _ => n - (intOf i).toNat)
      case atStart => exact ⟨0, Nat.zero_le _, rfl, O0.out, B0.out⟩
      case round =>
        obtain ⟨j, hj, rfl, hown, hbel⟩ := hrel
        by_cases hlt : j < n
        · have d1 : decide ((j : Int) < (n : Int)) = true := by simp; omega
          have hAl := HA.out.at j (by rw [← HN.out]; exact hlt)
          obtain ⟨b, off, hAe, hb, hc⟩ := hAl
          have cl := hc j (by rw [← HN.out]; exact hlt)
          have hxr := HR.out j (by rw [← HN.out]; exact hlt)
          rw [HAT.out j] at hxr
          have hnx := scF_next l q j (by rw [← HN.out]; exact hlt)
          rw [HAT.out j] at hnx
          obtain ⟨x, hx⟩ : ∃ x, x = l.getD j 0 := ⟨_, rfl⟩
          rw [← hx] at cl hxr hnx
          have NX := Lib.hid (NO.out (j : Int))
          obtain ⟨m, hm⟩ : ∃ m, m = nmV S (j : Int) := ⟨_, rfl⟩
          rw [← hm] at NX hxr hnx
          obtain ⟨r1, r2, r3, r4⟩ := hxr
          have hp1 : IntKind.i64.wrap (x * s) = x * s := IntWalk.i64_in _ (by omega)
          have hp2 : IntKind.i64.wrap (x * s * m) = x * s * m := IntWalk.i64_in _ (by omega)
          have HX := Lib.hid hnx; have HO := Lib.hid hown; have HB := Lib.hid hbel; have CL := Lib.hid cl
          obtain ⟨rowv, hrow⟩ : ∃ r, r = (scF l q).take j := ⟨_, rfl⟩
          rw [← hrow] at HO HX
          have IW := Lib.hid ((HA.out.below HB.out (Nat.le_refl _)).mono HB.out.size)
          subst hAe
          clear hx hnx hc hm cl hown hbel hrow
          go_wp2_with fail
          refine (LO.out _ IW.out).mono ?_
          rintro e w1 ⟨rfl, hw⟩
          subst hw
          go_wp2_with fail
          refine (ST.out _).mono ?_
          rintro e w2 ⟨rfl, hb2⟩
          have o2 : World.ownsRow w2.drew w.heap.size 3 1 u5 j (ivs rowv) := (own_keep HO.out hb2).drew
          have hS := holdq CL.out hb (below_up HB.out hb2 HB.out.size)
          clear hb2
          go_wp2_with fail
          go_region_held3 (fun w' => w'.cell? ⟨b, off + j, none⟩ = some (.int .i64 x) ∧ Below w.heap.size w w')
            (first | with_reducible assumption | (with_reducible refine holdq_drew ?_; with_reducible assumption) | (with_reducible refine holdq_call (by assumption) ?_ (by with_reducible assumption); with_reducible assumption) | (with_reducible refine holdq_alloc (by assumption) ?_ _; with_reducible assumption) | (with_reducible exact holdq CL.out (by assumption) (by with_reducible assumption)))
            (first
              | (go_at_call 10; with_reducible refine (ST.out _).mono ?_; rintro e w' ⟨rfl, hb'⟩; have o' : World.ownsRow w' w.heap.size 3 1 u5 j (ivs rowv) := own_keep (by with_reducible assumption) hb')
              | (go_at_call 32; with_reducible refine (SI.out _).mono ?_; rintro e w' ⟨rfl, rfl⟩)
              | (go_at_call 38; with_reducible refine (NX.out _).mono ?_; rintro e w' ⟨rfl, hb'⟩; have o' : World.ownsRow w' w.heap.size 3 1 u5 j (ivs rowv) := own_keep (by with_reducible assumption) hb'; have b' : Below w.heap.size w w' := (holdq_call (p := ⟨b, off + j, none⟩) (v := .int .i64 x) hb (by with_reducible assumption) hb').2)
              | (refine step_append_lit _ rfl (.tmp 23) (.tmp 36) 26 rfl w 3 i0 (.int .i64 0) 8 Tryd.underlying26 hi hz0 hz1 hz2 rfl _ _ _ rfl (by assumption) [_] rfl (by simp [Value.oneCell']) rfl (by simp; omega) (by unfold maxLen; simp; omega) (by assumption) ?_; intro v' w' hown' hb'))
          all_goals
            go_wp2
            go_roundw
            case rel =>
              refine ⟨j + 1, by omega, by go_num, ?_, by assumption⟩
              rw [HX.out, ivs_append]
              exact hown'
            case measure => simp [intOf]; omega
        · obtain rfl : j = n := by omega
          have d1 : decide ((j : Int) < (j : Int)) = false := by simp
          have e1 : (scF l q).take j = scF l q := List.take_of_length_le (by rw [scF_len, HN.out]; exact Nat.le_refl _)
          rw [e1] at hown
          obtain ⟨A3, c3, hv3, ho3⟩ := own_slice hown
          subst hv3
          have O3 := Lib.hid ho3; have B3 := Lib.hid hbel
          clear hown hbel ho3 e1
          go_wp2
          go_ret
          exact ⟨_, _, rfl, O3.out, B3.out⟩
end Go.Proofs.YtgccphidnbfcaaaDoor
