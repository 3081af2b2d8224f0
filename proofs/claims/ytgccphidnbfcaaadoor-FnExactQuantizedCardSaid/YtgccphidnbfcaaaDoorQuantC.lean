/-
  Contracts of Scaled, in both texts. Conditions: the list is no longer than 1048576 (the laws ask no more); the package's table of steps reads as its text lays it.
-/
import Derived.Test.YtgccphidnbfcaaaDoorQuantN
import Derived.Maps.AppendAt
namespace Go.Proofs.YtgccphidnbfcaaaDoor
open Go.RowKit
set_option linter.unusedVariables false

theorem scV_bad {l : List Int} (q : Int) (h : okV l = false) : scV l q = [] := by unfold scV; rw [if_neg (by rw [h]; simp)]
theorem scV_zero {l : List Int} {q : Int} (h : stV q = 0) : scV l q = [] := by unfold scV; rw [if_neg (by simp [h])]
theorem scV_full {l : List Int} {q : Int} (h : okV l = true) (hs : stV q ≠ 0) : scV l q = scF l q := by unfold scV; rw [if_pos ⟨h, hs⟩]
theorem scF_next (l : List Int) (q : Int) (j : Nat) (h : j < l.length) : (scF l q).take (j + 1) = (scF l q).take j ++ [scAt l q j] := by
  rw [take_snoc_q _ j (by rw [scF_len]; exact h), scF_at l q j h]

set_option maxRecDepth 100000 in
set_option maxHeartbeats 2000000 in
theorem impl_scaled_any (A : Option Addr) (ca : Nat) (l : List Int) (q : Int) (w : World) (hA : Ints w w.heap.size A l) (hS : StepsAt w) :
    Calls Tryd.prog 15 #[.slice A l.length ca, .int .i64 q] w fun e w' => ∃ A' c, e = .returned (.slice A' (scV l q).length c) ∧ OwnI w' w.heap.size A' c (scV l q) ∧ Below w.heap.size w w' := by
  have hnm := hA.1
  have ST := Lib.hid (impl_stepof_any q w hS)
  have LO := Lib.hid (impl_levelsok_any A ca l w hA)
  clear hS
  have HON : Hid (OwnI w w.heap.size none 0 []) := Lib.hid (World.ownsRow_nil w w.heap.size 3 1)
  cases hok : okV l with
  | false =>
    rw [scV_bad q hok]
    rw [hok] at LO
    obtain ⟨n, hn⟩ : ∃ n, n = l.length := ⟨_, rfl⟩
    rw [← hn] at LO hnm ⊢
    clear hn hA hok
    go_enter Tryd.func15, Tryd.ntmps15
    go_wp2_with fail
    refine ST.out.mono ?_
    rintro e w1 ⟨rfl, hw⟩
    subst hw
    go_wp2_with fail
    refine LO.out.mono ?_
    rintro e w1 ⟨rfl, hw⟩
    subst hw
    go_wp2
    go_ret
    exact ⟨none, 0, rfl, HON.out, Below.refl _ _⟩
  | true =>
    rw [hok] at LO
    by_cases hs0 : stV q = 0
    · rw [scV_zero hs0]
      rw [hs0] at ST
      obtain ⟨n, hn⟩ : ∃ n, n = l.length := ⟨_, rfl⟩
      rw [← hn] at LO hnm ⊢
      clear hn hA hok hs0
      go_enter Tryd.func15, Tryd.ntmps15
      go_wp2_with fail
      refine ST.out.mono ?_
      rintro e w1 ⟨rfl, hw⟩
      subst hw
      go_wp2_with fail
      refine LO.out.mono ?_
      rintro e w1 ⟨rfl, hw⟩
      subst hw
      go_wp2
      go_ret
      exact ⟨none, 0, rfl, HON.out, Below.refl _ _⟩
    · rw [scV_full hok hs0]
      have HR := Lib.hid fun j (hj : j < l.length) => scAt_range (q := q) (okV_at hok j hj)
      have hll := okV_len hok
      obtain ⟨n, hn⟩ : ∃ n, n = l.length := ⟨_, rfl⟩
      rw [← hn] at LO hnm hll ⊢
      have SI := Lib.hid (impl_side_any n)
      have hn64 : n ≤ 64 := by omega
      have HAT : Hid (∀ j, scAt l q j = l.getD j 0 * stV q * nmV (sideN n) (j : Int)) := Lib.hid fun j => by rw [hn]; rfl
      obtain ⟨S, hSS⟩ : ∃ S, S = sideN n := ⟨_, rfl⟩
      rw [← hSS] at SI HAT
      have NO := Lib.hid fun i w => impl_normat_any S i w
      obtain ⟨s, hs⟩ : ∃ s, s = stV q := ⟨_, rfl⟩
      rw [← hs] at ST hs0 HAT HR
      have b2 : (s == 0) = false := by simpa using hs0
      have HA := Lib.hid hA; have HN := Lib.hid hn
      have hmk := make_ints n (n : Int) rfl (by omega)
      have O0 : Hid ((w.alloc (.cells (ivs (List.replicate n 0)).toArray 3)).ownsRow w.heap.size 3 1 (.slice (some ⟨w.heap.size, 0, none⟩) n n) n (ivs (List.replicate n 0))) := Lib.hid (by
        have := own_ints w w.heap.size (List.replicate n 0) (Nat.le_refl _) (by simp [maxLen]; omega)
        unfold OwnI at this
        simpa using this)
      have B0 := Lib.hid (below_new w (.cells (ivs (List.replicate n 0)).toArray 3))
      clear hn hA hok hs0 hs hll hSS
      go_enter Tryd.func15, Tryd.ntmps15
      go_wp2_with fail
      refine ST.out.mono ?_
      rintro e w1 ⟨rfl, hw⟩
      subst hw
      go_wp2_with fail
      refine LO.out.mono ?_
      rintro e w1 ⟨rfl, hw⟩
      subst hw
      go_wp2_with fail
      refine (SI.out _).mono ?_
      rintro e w1 ⟨rfl, hw⟩
      subst hw
      go_wp2
      clear hmk
      go_loopw [8, 9, 27] (fun x8 x9 i wr => ∃ (j : Nat) (p : List Int), j ≤ n ∧ i = .int .i64 j ∧ p.length = n ∧ (∀ t, t < j → p.getD t 0 = scAt l q t) ∧ wr.ownsRow w.heap.size 3 1 (.slice (some ⟨w.heap.size, 0, none⟩) n n) n (ivs p) ∧ Below w.heap.size w wr)
        (fun _ _ i _ => n - (intOf i).toNat)
      case atStart => exact ⟨0, List.replicate n 0, Nat.zero_le _, rfl, by simp, fun t ht => absurd ht (by omega), O0.out, B0.out⟩
      case round =>
        obtain ⟨j, p, hj, rfl, hp, hpre, hown, hbel⟩ := hrel
        have HP := Lib.hid hp; have HE := Lib.hid hpre
        clear hp hpre
        by_cases hlt : j < n
        · have d1 : decide ((j : Int) < (n : Int)) = true := by simp; omega
          obtain ⟨b, off, rfl, hb, hc⟩ := HA.out.at j (by rw [← HN.out]; exact hlt)
          have cl := hc j (by rw [← HN.out]; exact hlt)
          rw [← hbel.cell (p := ⟨b, off + j, none⟩) hb] at cl
          have hxr := HR.out j (by rw [← HN.out]; exact hlt)
          rw [HAT.out j] at hxr
          have hat := HAT.out j
          obtain ⟨x, hx⟩ : ∃ x, x = l.getD j 0 := ⟨_, rfl⟩
          rw [← hx] at cl hxr hat
          have NX := Lib.hid (NO.out (j : Int))
          obtain ⟨m, hm⟩ : ∃ m, m = nmV S (j : Int) := ⟨_, rfl⟩
          rw [← hm] at NX hxr hat
          obtain ⟨r1, r2, r3, r4⟩ := hxr
          have HX := Lib.hid hat; have HO := Lib.hid hown; have HB := Lib.hid hbel
          clear hx hm hc hat hown hbel
          go_wp2_with fail
          refine (NX.out _).mono ?_
          rintro e w1 ⟨rfl, hb1⟩
          have o1 := own_keep HO.out hb1
          have B1 := below_up HB.out hb1 HB.out.size
          obtain ⟨b0, hcell⟩ : ∃ b0 : Int, w1.cell? ⟨w.heap.size, j, none⟩ = some (.int .i64 b0) := ⟨_, (o1.cellAt j (by omega)).trans (ivs_at p j (by rw [HP.out]; omega))⟩
          have hfz := o1.frozenAt j
          have s1 := o1.stored j (.int .i64 (x * s * m))
          rw [ivs_set] at s1
          have S1 := Lib.hid s1.1
          have S3 := Lib.hid (B1.setCell (p := ⟨w.heap.size, j, none⟩) (Nat.le_refl _) (.int .i64 (x * s * m)))
          clear s1 o1 B1 hb1 cl
          go_wp2
          go_roundw
          case rel =>
            refine ⟨j + 1, p.set j (x * s * m), by omega, by go_num, by rw [List.length_set]; exact HP.out, ?_, S1.out, S3.out⟩
            intro t ht
            by_cases htj : t = j
            · subst htj
              rw [List.getD_eq_getElem?_getD, List.getElem?_set_self (by rw [HP.out]; omega)]
              exact HX.out.symm
            · rw [List.getD_eq_getElem?_getD, List.getElem?_set_ne (fun e => htj e.symm), ← List.getD_eq_getElem?_getD]
              exact HE.out t (by omega)
          case measure => simp [intOf]; omega
        · obtain rfl : j = n := by omega
          have d1 : decide ((j : Int) < (j : Int)) = false := by simp
          have e : p = scF l q := List.ext_getElem (by rw [HP.out, scF_len, HN.out]) fun t h1 h2 => by
            have := HE.out t (by have := HP.out; omega)
            rw [List.getD_eq_getElem?_getD, List.getElem?_eq_getElem h1] at this
            rw [scF_len] at h2
            have e2 := scF_at l q t h2
            rw [List.getD_eq_getElem?_getD, List.getElem?_eq_getElem (by rw [scF_len]; exact h2)] at e2
            exact this.trans e2.symm
          have O3 := Lib.hid hown; have B3 := Lib.hid hbel; have HEQ := Lib.hid e
          clear hown hbel e
          go_wp2
          go_ret
          refine ⟨_, _, by rw [scF_len, ← HN.out]; rfl, ?_, B3.out⟩
          unfold OwnI
          rw [scF_len, ← HN.out, ← HEQ.out]
          exact O3.out
end Go.Proofs.YtgccphidnbfcaaaDoor
