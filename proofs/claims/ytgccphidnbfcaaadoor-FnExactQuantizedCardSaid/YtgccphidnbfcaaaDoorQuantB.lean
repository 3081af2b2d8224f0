/-
  Contracts of Quantized, in both texts. Conditions: the list is no longer than 1048576 (the laws ask no more); the package's table of steps reads as its text lays it.
-/
import Derived.Test.YtgccphidnbfcaaaDoorQuantL
import Derived.Maps.AppendAt
namespace Go.Proofs.YtgccphidnbfcaaaDoor
open Go.RowKit
set_option linter.unusedVariables false

theorem quV_small {l : List Int} (q : Int) (h : sizeV l.length = false) : quV l q = [] := by unfold quV; rw [if_neg (by rw [h]; simp)]
theorem quV_zero {l : List Int} {q : Int} (h : stV q = 0) : quV l q = [] := by unfold quV; rw [if_neg (by simp [h])]
theorem quV_full {l : List Int} {q : Int} (h : sizeV l.length = true) (hs : stV q ≠ 0) : quV l q = quF l q := by unfold quV; rw [if_pos ⟨h, hs⟩]
theorem quF_next (l : List Int) (q : Int) (j : Nat) (h : j < l.length) : (quF l q).take (j + 1) = (quF l q).take j ++ [quAt q (l.getD j 0)] := by
  rw [take_snoc_q _ j (by rw [quF_len]; exact h), quF_at l q j h]
theorem lim_mil (x : Int) : ∃ y : Int, (if x < 1000000 then x else (1000000 : Int)) = y ∧ (if (-1000000 : Int) < y then y else -1000000) = lim 1000000 x :=
  ⟨_, rfl, by unfold lim; split <;> split <;> omega⟩
theorem lim_max (x : Int) : ∃ y : Int, (if x < 16383 then x else (16383 : Int)) = y ∧ (if (-16383 : Int) < y then y else -16383) = lim 16383 x :=
  ⟨_, rfl, by unfold lim; split <;> split <;> omega⟩

set_option maxRecDepth 100000 in
set_option maxHeartbeats 2000000 in
theorem impl_quantized_any (A : Option Addr) (ca : Nat) (l : List Int) (q : Int) (w : World) (hA : Ints w w.heap.size A l) (hS : StepsAt w) :
    Calls Tryd.prog 12 #[.slice A l.length ca, .int .i64 q] w fun e w' => ∃ A' c, e = .returned (.slice A' (quV l q).length c) ∧ OwnI w' w.heap.size A' c (quV l q) ∧ Below w.heap.size w w' := by
  obtain ⟨n, hn⟩ : ∃ n, n = l.length := ⟨_, rfl⟩
  have hnm := hA.1
  have ST := Lib.hid (impl_stepof_any q w hS)
  have SI := Lib.hid (impl_side_any n)
  have hsz := (size_side n).1
  obtain ⟨S, hSS⟩ : ∃ S, S = sideN n := ⟨_, rfl⟩
  rw [← hSS] at SI hsz
  clear hSS hS
  rw [← hn] at hnm ⊢
  have HON : Hid (OwnI w w.heap.size none 0 []) := Lib.hid (World.ownsRow_nil w w.heap.size 3 1)
  cases hok : sizeV n with
  | false =>
    rw [quV_small q (by rw [← hn]; exact hok)]
    rw [hok] at hsz
    have b1 : (S == 0) = true := by simpa using hsz
    clear hn hA hok hsz
    go_enter Tryd.func12, Tryd.ntmps12
    go_wp2_with fail
    refine ST.out.mono ?_
    rintro e w1 ⟨rfl, hw⟩
    subst hw
    go_wp2_with fail
    refine (SI.out _).mono ?_
    rintro e w1 ⟨rfl, hw⟩
    subst hw
    go_wp2
    go_ret
    exact ⟨none, 0, rfl, HON.out, Below.refl _ _⟩
  | true =>
    rw [hok] at hsz
    have b1 : (S == 0) = false := by simpa using hsz
    by_cases hs0 : stV q = 0
    · rw [quV_zero hs0]
      rw [hs0] at ST
      clear hn hA hok hsz hs0
      go_enter Tryd.func12, Tryd.ntmps12
      go_wp2_with fail
      refine ST.out.mono ?_
      rintro e w1 ⟨rfl, hw⟩
      subst hw
      go_wp2_with fail
      refine (SI.out _).mono ?_
      rintro e w1 ⟨rfl, hw⟩
      subst hw
      go_wp2
      go_ret
      exact ⟨none, 0, rfl, HON.out, Below.refl _ _⟩
    · rw [quV_full (by rw [← hn]; exact hok) hs0]
      have hr := stV_range q
      have LI := Lib.hid fun x => limited_mil x
      have LM := Lib.hid fun x => limited_max x
      have NE := Lib.hid fun x => nearest_any (lim 1000000 x) (stV q) (lim_range (by decide)).1 (lim_range (by decide)).2 (by omega) hr.2
      have hn64 : n ≤ 64 := by have := sizeV_len hok; omega
      have hqu : Hid (∀ x, quAt q x = lim 16383 (nearV (lim 1000000 x) (stV q))) := Lib.hid fun x => rfl
      obtain ⟨s, hs⟩ : ∃ s, s = stV q := ⟨_, rfl⟩
      rw [← hs] at ST NE hqu hs0
      have b2 : (s == 0) = false := by simpa using hs0
      have HA := Lib.hid hA; have HN := Lib.hid hn
      have hmk := make_ints n (n : Int) rfl (by omega)
      have O0 : Hid ((w.alloc (.cells (ivs (List.replicate n 0)).toArray 3)).ownsRow w.heap.size 3 1 (.slice (some ⟨w.heap.size, 0, none⟩) n n) n (ivs (List.replicate n 0))) := Lib.hid (by
        have := own_ints w w.heap.size (List.replicate n 0) (Nat.le_refl _) (by simp [maxLen]; omega)
        unfold OwnI at this
        simpa using this)
      have B0 := Lib.hid (below_new w (.cells (ivs (List.replicate n 0)).toArray 3))
      clear hn hA hok hsz hs0 hr hs
      go_enter Tryd.func12, Tryd.ntmps12
      go_wp2_with fail
      refine ST.out.mono ?_
      rintro e w1 ⟨rfl, hw⟩
      subst hw
      go_wp2_with fail
      refine (SI.out _).mono ?_
      rintro e w1 ⟨rfl, hw⟩
      subst hw
      go_wp2
      clear hmk
      go_loopw [7, 8, 24] (fun x7 x8 i wr => ∃ (j : Nat) (p : List Int), j ≤ n ∧ i = .int .i64 j ∧ p.length = n ∧ (∀ t, t < j → p.getD t 0 = quAt q (l.getD t 0)) ∧ wr.ownsRow w.heap.size 3 1 (.slice (some ⟨w.heap.size, 0, none⟩) n n) n (ivs p) ∧ Below w.heap.size w wr)
        (fun _ _ i _ => n - (intOf i).toNat)
      case atStart => exact ⟨0, List.replicate n 0, Nat.zero_le _, rfl, by simp, fun t ht => absurd ht (by omega), O0.out, B0.out⟩
      case round =>
        obtain ⟨j, p, hj, rfl, hp, hpre, hown, hbel⟩ := hrel
        have HP := Lib.hid hp; have HE := Lib.hid hpre
        clear hp hpre
        by_cases hlt : j < n
        · have d1 : decide ((j : Int) < (n : Int)) = true := by simp; omega
          obtain ⟨b, off, rfl, hb, hc⟩ := HA.out.at j (by rw [← HN.out]; exact hlt)
          have cl := hc j (by rw [← HN.out]; exact hlt)
          rw [← hbel.cell (p := ⟨b, off + j, none⟩) hb] at cl
          obtain ⟨x, hx⟩ : ∃ x, x = l.getD j 0 := ⟨_, rfl⟩
          rw [← hx] at cl
          have LX := Lib.hid (LI.out x)
          have NX := Lib.hid (NE.out x)
          have LY := Lib.hid (LM.out (nearV (lim 1000000 x) s))
          rw [← hqu.out x] at LY
          obtain ⟨z, hz⟩ : ∃ z, z = quAt q x := ⟨_, rfl⟩
          rw [← hz] at LY
          obtain ⟨b0, hcell⟩ : ∃ b0 : Int, wr.cell? ⟨w.heap.size, j, none⟩ = some (.int .i64 b0) := ⟨_, (hown.cellAt j (by omega)).trans (ivs_at p j (by rw [HP.out]; omega))⟩
          have hfz := hown.frozenAt j
          have hxx : z = quAt q (l.getD j 0) := by rw [hz, hx]
          have HX := Lib.hid hxx
          have s1 := hown.stored j (.int .i64 z)
          rw [ivs_set] at s1
          have S1 := Lib.hid s1.1
          have S3 := Lib.hid (hbel.setCell (p := ⟨w.heap.size, j, none⟩) (Nat.le_refl _) (.int .i64 z))
          clear hx hz hxx hc s1 hown hbel
          go_wp2_with fail
          refine (LX.out _).mono ?_
          rintro e w1 ⟨rfl, hw⟩
          subst hw
          go_wp2_with fail
          refine (NX.out _).mono ?_
          rintro e w1 ⟨rfl, hw⟩
          subst hw
          go_wp2_with fail
          refine (LY.out _).mono ?_
          rintro e w1 ⟨rfl, hw⟩
          subst hw
          go_wp2
          go_roundw
          case rel =>
            refine ⟨j + 1, p.set j z, by omega, by go_num, by rw [List.length_set]; exact HP.out, ?_, S1.out, S3.out⟩
            intro t ht
            by_cases htj : t = j
            · subst htj
              rw [List.getD_eq_getElem?_getD, List.getElem?_set_self (by rw [HP.out]; omega)]
              exact HX.out
            · rw [List.getD_eq_getElem?_getD, List.getElem?_set_ne (fun e => htj e.symm), ← List.getD_eq_getElem?_getD]
              exact HE.out t (by omega)
          case measure => simp [intOf]; omega
        · obtain rfl : j = n := by omega
          have d1 : decide ((j : Int) < (j : Int)) = false := by simp
          have e : p = quF l q := List.ext_getElem (by rw [HP.out, quF_len, HN.out]) fun t h1 h2 => by
            have := HE.out t (by have := HP.out; omega)
            rw [List.getD_eq_getElem?_getD, List.getElem?_eq_getElem h1] at this
            rw [quF_len] at h2
            have e2 := quF_at l q t h2
            rw [List.getD_eq_getElem?_getD, List.getElem?_eq_getElem (by rw [quF_len]; exact h2)] at e2
            exact this.trans e2.symm
          have O3 := Lib.hid hown; have B3 := Lib.hid hbel; have HEQ := Lib.hid e
          clear hown hbel e
          go_wp2
          go_ret
          refine ⟨_, _, by rw [quF_len, ← HN.out]; rfl, ?_, B3.out⟩
          unfold OwnI
          rw [quF_len, ← HN.out, ← HEQ.out]
          exact O3.out
set_option maxRecDepth 100000 in
set_option maxHeartbeats 2000000 in
theorem spec_quantized_any (A : Option Addr) (ca : Nat) (l : List Int) (q : Int) (hll : l.length ≤ 1048576) (w : World) (hA : Ints w w.heap.size A l) :
    Calls Tryd.prog 13 #[.slice A l.length ca, .int .i64 q] w fun e w' => ∃ A' c, e = .returned (.slice A' (quV l q).length c) ∧ OwnI w' w.heap.size A' c (quV l q) ∧ Below w.heap.size w w' := by
  obtain ⟨i0, hi, hz0, hz1, hz2⟩ := info_parts Tryd.iinfo
  obtain ⟨n, hn⟩ : ∃ n, n = l.length := ⟨_, rfl⟩
  have ST := Lib.hid (spec_stepof_any q)
  have SI := Lib.hid (spec_side_any A ca n)
  have hsz := (size_side n).2
  obtain ⟨S, hSS⟩ : ∃ S, S = sideN n := ⟨_, rfl⟩
  rw [← hSS] at SI hsz
  clear hSS
  rw [← hn] at hll ⊢
  have O0 := Lib.hid (own_ints w w.heap.size [] (Nat.le_refl _) (by simp))
  have B0 := Lib.hid ((Below.refl w.heap.size w).alloc (Nat.le_refl _) (.cells (ivs []).toArray 3))
  cases hok : sizeV n with
  | false =>
    rw [quV_small q (by rw [← hn]; exact hok)]
    rw [hok] at hsz
    clear hn hA hok
    go_enter Tryd.func13, Tryd.ntmps13
    go_wp2
    go_loopw [5, 6, 7] (fun v i x7 wr => v = .slice (some ⟨w.heap.size, 0, none⟩) 0 0 ∧ i = .int .i64 0 ∧ OwnI wr w.heap.size (some ⟨w.heap.size, 0, none⟩) 0 [] ∧ Below w.heap.size w wr)
      (fun _ _ _ _ => 0)
    case atStart => exact ⟨rfl, rfl, O0.out, B0.out⟩
    case round =>
      obtain ⟨rfl, rfl, ho, hb⟩ := hrel
      have O1 := Lib.hid ho; have B1 := Lib.hid hb; clear ho hb
      by_cases h0 : n = 0
      · subst h0
        go_wp2
        go_ret
        exact ⟨_, _, rfl, O1.out, B1.out⟩
      · have d1 : 0 < n := by omega
        clear h0
        go_wp2_with fail
        refine (SI.out _).mono ?_
        rintro e w1 ⟨rfl, hw⟩
        subst hw
        go_wp2
        go_ret
        exact ⟨_, _, rfl, O1.out, B1.out⟩
  | true =>
    rw [hok] at hsz
    have hn16 : 16 ≤ n := by have := sizeV_len hok; omega
    have hn64 : n ≤ 64 := by have := sizeV_len hok; omega
    by_cases hs0 : stV q = 0
    · rw [quV_zero hs0]
      rw [hs0] at ST
      have d1 : 0 < n := by omega
      clear hn hA hok hs0
      go_enter Tryd.func13, Tryd.ntmps13
      go_wp2
      go_loopw [5, 6, 7] (fun v i x7 wr => v = .slice (some ⟨w.heap.size, 0, none⟩) 0 0 ∧ i = .int .i64 0 ∧ OwnI wr w.heap.size (some ⟨w.heap.size, 0, none⟩) 0 [] ∧ Below w.heap.size w wr)
        (fun _ _ _ _ => 0)
      case atStart => exact ⟨rfl, rfl, O0.out, B0.out⟩
      case round =>
        obtain ⟨rfl, rfl, ho, hb⟩ := hrel
        have O1 := Lib.hid ho; have B1 := Lib.hid hb; clear ho hb
        go_wp2_with fail
        refine (SI.out _).mono ?_
        rintro e w1 ⟨rfl, hw⟩
        subst hw
        go_wp2_with fail
        refine (ST.out _).mono ?_
        rintro e w2 ⟨rfl, hb2⟩
        have O2 := Lib.hid (O1.out.kept hb2 (Nat.le_refl _))
        have B2 := Lib.hid (below_up B1.out hb2 B1.out.size)
        clear hb2
        go_wp2
        go_ret
        exact ⟨_, _, rfl, O2.out, B2.out⟩
    · rw [quV_full (by rw [← hn]; exact hok) hs0]
      have hr := stV_range q
      have NE := Lib.hid fun x => l11near_any (lim 1000000 x) (stV q) (lim_range (by decide)).1 (lim_range (by decide)).2 (by omega) hr.2
      have hqu : Hid (∀ x, quAt q x = lim 16383 (nearV (lim 1000000 x) (stV q))) := Lib.hid fun x => rfl
      obtain ⟨s, hs⟩ : ∃ s, s = stV q := ⟨_, rfl⟩
      rw [← hs] at ST NE hqu hs0 hr
      have b2 : decide (0 < s) = true := by simp; omega
      have HA := Lib.hid hA; have HN := Lib.hid hn
      clear hn hA hok hs0 hr hs
      go_enter Tryd.func13, Tryd.ntmps13
      go_wp2
      go_loopw [5, 6, 7] (fun v i x7 wr => ∃ j : Nat, j ≤ n ∧ i = .int .i64 j ∧ wr.ownsRow w.heap.size 3 1 v j (ivs ((quF l q).take j)) ∧ Below w.heap.size w wr)
        (fun _ i _ _ => n - (intOf i).toNat)
      case atStart => exact ⟨0, Nat.zero_le _, rfl, O0.out, B0.out⟩
      case round =>
        obtain ⟨j, hj, rfl, hown, hbel⟩ := hrel
        by_cases hlt : j < n
        · have d1 : decide ((j : Int) < (n : Int)) = true := by simp; omega
          obtain ⟨b, off, rfl, hb, hc⟩ := HA.out.at j (by rw [← HN.out]; exact hlt)
          have cl := hc j (by rw [← HN.out]; exact hlt)
          obtain ⟨x, hx⟩ : ∃ x, x = l.getD j 0 := ⟨_, rfl⟩
          rw [← hx] at cl
          have hnx := quF_next l q j (by rw [← HN.out]; exact hlt)
          rw [← hx] at hnx
          obtain ⟨y, hy1, hy2⟩ := lim_mil x
          obtain ⟨u, hu1, hu2⟩ := lim_max (nearV (lim 1000000 x) s)
          rw [← hqu.out x] at hu2
          have NX := Lib.hid (NE.out x)
          obtain ⟨v1, hv1⟩ : ∃ v, v = lim 1000000 x := ⟨_, rfl⟩
          rw [← hv1] at hy2 NX hu1
          obtain ⟨v2, hv2⟩ : ∃ v, v = nearV v1 s := ⟨_, rfl⟩
          rw [← hv2] at NX hu1
          obtain ⟨z, hz⟩ : ∃ z, z = quAt q x := ⟨_, rfl⟩
          rw [← hz] at hnx hu2
          have HX := Lib.hid hnx; have HO := Lib.hid hown; have HB := Lib.hid hbel; have CL := Lib.hid cl
          clear hx hnx hc hv1 hv2 hz cl hown hbel
          go_wp2_with fail
          refine (SI.out _).mono ?_
          rintro e w1 ⟨rfl, hw⟩
          subst hw
          go_wp2_with fail
          refine (ST.out _).mono ?_
          rintro e w2 ⟨rfl, hb2⟩
          have O2 := Lib.hid (own_keep HO.out hb2)
          have B2 := Lib.hid (below_up HB.out hb2 HB.out.size)
          have cl : w2.cell? ⟨b, off + j, none⟩ = some (.int .i64 x) := by rw [B2.out.cell (p := ⟨b, off + j, none⟩) hb]; exact CL.out
          clear hb2
          go_wp2_with fail
          refine (ST.out _).mono ?_
          rintro e w3 ⟨rfl, hb3⟩
          have O3 := own_keep O2.out hb3
          have B3 := Lib.hid (below_up B2.out hb3 B2.out.size)
          clear hb3 cl
          go_wp2_with fail
          refine (NX.out _).mono ?_
          rintro e w1 ⟨rfl, hw⟩
          subst hw
          go_wp2_with (at_builtin; refine append_int w3 rfl (.tmp 31) (.tmp 38) 26 rfl w.heap.size 3 i0 Tryd.underlying26 hi hz0 hz1 hz2 _ _ _ rfl O3 _ rfl rfl (by omega) B3.out.size ?_; intro v' w' hown' hgr hvb)
          have HO' := Lib.hid hown'
          have HG : Hid (w3.grownBy w' u5.ownBlock) := Lib.hid hgr
          have HL : Hid (∀ k, u5.ownBlock = some k → w.heap.size ≤ k ∧ k < w3.heap.size) := Lib.hid O3.lt
          clear hown' hgr hvb O3
          go_roundw
          case rel =>
            refine ⟨j + 1, by omega, by go_num, by rw [HX.out]; exact HO'.out, B3.out.grown HG.out B3.out.size fun k hk => (HL.out k hk).1⟩
          case measure => simp [intOf]; omega
        · obtain rfl : j = n := by omega
          have d1 : decide ((j : Int) < (j : Int)) = false := by simp
          have e1 : (quF l q).take j = quF l q := List.take_of_length_le (by rw [quF_len, HN.out]; exact Nat.le_refl _)
          rw [e1] at hown
          obtain ⟨A3, c3, hv3, ho3⟩ := own_slice hown
          subst hv3
          have O3 := Lib.hid ho3; have B3 := Lib.hid hbel
          clear hown hbel ho3 e1
          go_wp2
          go_ret
          exact ⟨_, _, rfl, O3.out, B3.out⟩
end Go.Proofs.YtgccphidnbfcaaaDoor
