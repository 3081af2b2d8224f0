/-
  Contracts of Rounded, in both texts. Condition: the list is no longer than 1048576 (the laws ask no more).
-/
import Derived.Test.YtdocobphecllkaaFormP
import Derived.Maps.AppendAt
namespace Go.Proofs.Ytdocobphecllkaa
open Go.RowKit
set_option linter.unusedVariables false

theorem lim_tril (x : Int) : ∃ y : Int, (if x < 1000000000000 then x else (1000000000000 : Int)) = y ∧ (if (-1000000000000 : Int) < y then y else -1000000000000) = lim 1000000000000 x :=
  ⟨_, rfl, by unfold lim; split <;> split <;> omega⟩
set_option maxRecDepth 100000 in
set_option maxHeartbeats 1000000 in
theorem limited_tril (v : Int) (w : World) :
    Calls Try.prog 24 #[.int .i64 v, .int .i64 1000000000000] w fun e w' => e = .returned (.int .i64 (lim 1000000000000 v)) ∧ w = w' := by
  obtain ⟨y, hmin⟩ : ∃ y : Int, (if (1000000000000 : Int) < v then (1000000000000 : Int) else v) = y := ⟨_, rfl⟩
  have hmax : (if (-1000000000000 : Int) < y then y else -1000000000000) = lim 1000000000000 v := by unfold lim; split <;> split at hmin <;> omega
  obtain ⟨z, hz⟩ : ∃ z, z = lim 1000000000000 v := ⟨_, rfl⟩
  rw [← hz] at hmax ⊢
  clear hz
  go_enter Try.func24, Try.ntmps24
  go_wp2
  go_ret
  exact ⟨rfl, rfl⟩
theorem neg_tmod (v d : Int) (h : v ≤ 0) : v.tmod d = -((-v) % d) := by
  have := Int.neg_tmod (-v) d
  rw [Int.neg_neg] at this
  rw [this, Int.tmod_eq_emod_of_nonneg (by omega)]
theorem neg_tdiv' (v d : Int) (h : v ≤ 0) : v.tdiv d = -((-v) / d) := by
  have := Int.neg_tdiv (-v) d
  rw [Int.neg_neg] at this
  rw [this, Int.tdiv_eq_ediv_of_nonneg (by omega)]

set_option maxRecDepth 100000 in
set_option maxHeartbeats 1000000 in
theorem divdown_1600 (v : Int) (h1 : -1000000001000 ≤ v) (h2 : v ≤ 1000000001000) (w : World) :
    Calls Try.prog 23 #[.int .i64 v, .int .i64 1600] w fun e w' => e = .returned (.int .i64 (v / 1600)) ∧ w = w' := by
  by_cases hv : 0 ≤ v
  · have e1 : v.tmod 1600 = v % 1600 := Int.tmod_eq_emod_of_nonneg hv
    have e2 : v.tdiv 1600 = v / 1600 := Int.tdiv_eq_ediv_of_nonneg hv
    have hb : decide (v % 1600 < 0) = false := by simp; omega
    obtain ⟨q, hq⟩ : ∃ q, q = v / 1600 := ⟨_, rfl⟩
    have hq1 : -1000000001000 ≤ q ∧ q ≤ 1000000001000 := by omega
    obtain ⟨m, hm⟩ : ∃ m, m = v % 1600 := ⟨_, rfl⟩
    have hm1 : 0 ≤ m ∧ m < 1600 := by omega
    rw [← hm] at e1 hb
    rw [← hq] at e2 ⊢
    clear hv hq hm
    go_enter Try.func23, Try.ntmps23
    go_wp2
    go_ret
    exact ⟨rfl, rfl⟩
  · have e1 := neg_tmod v 1600 (by omega)
    have e2 := neg_tdiv' v 1600 (by omega)
    obtain ⟨q, hq⟩ : ∃ q, q = (-v) / 1600 := ⟨_, rfl⟩
    have hq1 : -1000000001000 ≤ q ∧ q ≤ 1000000001000 := by omega
    obtain ⟨m, hm⟩ : ∃ m, m = (-v) % 1600 := ⟨_, rfl⟩
    have hm1 : 0 ≤ m ∧ m < 1600 := by omega
    rw [← hm] at e1
    rw [← hq] at e2
    by_cases hm0 : m = 0
    · have e : v / 1600 = -q := by omega
      rw [e]
      have hb : decide (0 < m) = false := by simp; omega
      have HE := Lib.hid e
      clear e hv hq hm hm0
      go_enter Try.func23, Try.ntmps23
      go_wp2
      go_ret
      exact ⟨rfl, rfl⟩
    · have e : v / 1600 = -q - 1 := by omega
      rw [e]
      have hb : decide (0 < m) = true := by simp; omega
      have HE := Lib.hid e
      clear e hv hq hm hm0
      go_enter Try.func23, Try.ntmps23
      go_wp2
      go_ret
      exact ⟨rfl, rfl⟩
set_option maxRecDepth 100000 in
set_option maxHeartbeats 1000000 in
theorem divdown_64 (v : Int) (h1 : -1000000001000 ≤ v) (h2 : v ≤ 1000000001000) (w : World) :
    Calls Try.prog 23 #[.int .i64 v, .int .i64 64] w fun e w' => e = .returned (.int .i64 (v / 64)) ∧ w = w' := by
  by_cases hv : 0 ≤ v
  · have e1 : v.tmod 64 = v % 64 := Int.tmod_eq_emod_of_nonneg hv
    have e2 : v.tdiv 64 = v / 64 := Int.tdiv_eq_ediv_of_nonneg hv
    have hb : decide (v % 64 < 0) = false := by simp; omega
    obtain ⟨q, hq⟩ : ∃ q, q = v / 64 := ⟨_, rfl⟩
    have hq1 : -1000000001000 ≤ q ∧ q ≤ 1000000001000 := by omega
    obtain ⟨m, hm⟩ : ∃ m, m = v % 64 := ⟨_, rfl⟩
    have hm1 : 0 ≤ m ∧ m < 64 := by omega
    rw [← hm] at e1 hb
    rw [← hq] at e2 ⊢
    clear hv hq hm
    go_enter Try.func23, Try.ntmps23
    go_wp2
    go_ret
    exact ⟨rfl, rfl⟩
  · have e1 := neg_tmod v 64 (by omega)
    have e2 := neg_tdiv' v 64 (by omega)
    obtain ⟨q, hq⟩ : ∃ q, q = (-v) / 64 := ⟨_, rfl⟩
    have hq1 : -1000000001000 ≤ q ∧ q ≤ 1000000001000 := by omega
    obtain ⟨m, hm⟩ : ∃ m, m = (-v) % 64 := ⟨_, rfl⟩
    have hm1 : 0 ≤ m ∧ m < 64 := by omega
    rw [← hm] at e1
    rw [← hq] at e2
    by_cases hm0 : m = 0
    · have e : v / 64 = -q := by omega
      rw [e]
      have hb : decide (0 < m) = false := by simp; omega
      have HE := Lib.hid e
      clear e hv hq hm hm0
      go_enter Try.func23, Try.ntmps23
      go_wp2
      go_ret
      exact ⟨rfl, rfl⟩
    · have e : v / 64 = -q - 1 := by omega
      rw [e]
      have hb : decide (0 < m) = true := by simp; omega
      have HE := Lib.hid e
      clear e hv hq hm hm0
      go_enter Try.func23, Try.ntmps23
      go_wp2
      go_ret
      exact ⟨rfl, rfl⟩
theorem zer_row' (n : Nat) (hn : n ≤ 1000000) (w : World) : (w.alloc (.cells (ivs (List.replicate n 0)).toArray 3)).ownsRow w.heap.size 3 1 (.slice (some ⟨w.heap.size, 0, none⟩) n n) n (ivs (List.replicate n 0)) := by
  have := own_ints w w.heap.size (List.replicate n 0) (Nat.le_refl _) (by simp [maxLen]; omega)
  unfold OwnI at this
  simpa using this
theorem setpre' {p : List Int} {j : Nat} {z : Int} {f : Nat → Int} {N : Nat} (hp : p.length = N) (hj : j < N) (hpre : ∀ t, t < j → p.getD t 0 = f t) (hz : f j = z) : ∀ t, t < j + 1 → (p.set j z).getD t 0 = f t := by
  intro t ht
  by_cases htj : t = j
  · subst htj
    rw [List.getD_eq_getElem?_getD, List.getElem?_set_self (by omega), hz]
    rfl
  · rw [List.getD_eq_getElem?_getD, List.getElem?_set_ne (fun e => htj e.symm), ← List.getD_eq_getElem?_getD]
    exact hpre t (by omega)

set_option maxRecDepth 100000 in
set_option maxHeartbeats 2000000 in
theorem impl_rounded_16 (A : Option Addr) (ca : Nat) (l : List Int) (hl : l.length = 16) (w : World) (hA : Ints w w.heap.size A l) :
    Calls Try.prog 9 #[.slice A 16 ca] w fun e w' => ∃ A' c, e = .returned (.slice A' 16 c) ∧ OwnI w' w.heap.size A' c (rdF l) ∧ Below w.heap.size w w' := by
  have SI := Lib.hid (impl_side_any 16)
  rw [show sideN 16 = 4 by rfl] at SI
  have LI := Lib.hid limited_tril
  have DV := Lib.hid fun x => divdown_1600 (lim 1000000000000 x + 800) (by have := lim_range (m := 1000000000000) (v := x) (by decide); omega) (by have := lim_range (m := 1000000000000) (v := x) (by decide); omega)
  have LR := Lib.hid fun x => lim_range (m := 1000000000000) (v := x) (by decide)
  have HAT : Hid (∀ x, rdAt l.length x = (lim 1000000000000 x + 800) / 1600) := Lib.hid fun x => by rw [hl]; rfl
  have HF : Hid (∀ j, j < 16 → (rdF l).getD j 0 = rdAt l.length (l.getD j 0)) := Lib.hid fun j hj => rdF_at l j (by omega)
  have HFL : Hid ((rdF l).length = 16) := Lib.hid (by rw [rdF_len]; exact hl)
  have HA := Lib.hid hA; have HN := Lib.hid hl
  have hmk := make_ints 16 (16 : Int) rfl (by omega)
  have O0 := Lib.hid (zer_row' 16 (by decide) w)
  have B0 := Lib.hid (below_new w (.cells (ivs (List.replicate 16 0)).toArray 3))
  clear hA hl
  go_enter Try.func9, Try.ntmps9
  go_wp2_with fail
  refine (SI.out _).mono ?_
  rintro e w1 ⟨rfl, hw⟩
  subst hw
  go_wp2
  clear hmk
  go_loopw [6, 7, 20] (fun x6 x7 i wr => ∃ (j : Nat) (p : List Int), j ≤ 16 ∧ i = .int .i64 j ∧ p.length = 16 ∧ (∀ t, t < j → p.getD t 0 = (rdF l).getD t 0) ∧ wr.ownsRow w.heap.size 3 1 (.slice (some ⟨w.heap.size, 0, none⟩) 16 16) 16 (ivs p) ∧ Below w.heap.size w wr)
    (fun _ _ i _ => 16 - (intOf i).toNat)
  case atStart => exact ⟨0, List.replicate 16 0, Nat.zero_le _, rfl, List.length_replicate, fun t ht => absurd ht (by omega), O0.out, B0.out⟩
  case round =>
    obtain ⟨j, p, hj, rfl, hp, hpre, hown, hbel⟩ := hrel
    have HP := Lib.hid hp; have HE := Lib.hid hpre
    clear hp hpre
    by_cases hlt : j < 16
    · have d1 : decide ((j : Int) < 16) = true := by simp; omega
      obtain ⟨b, off, rfl, hb, hc⟩ := HA.out.at j (by rw [HN.out]; exact hlt)
      have cl := hc j (by rw [HN.out]; exact hlt)
      rw [← hbel.cell (p := ⟨b, off + j, none⟩) hb] at cl
      have hz0 := (HF.out j hlt).trans (HAT.out _)
      obtain ⟨x, hx⟩ : ∃ x, x = l.getD j 0 := ⟨_, rfl⟩
      rw [← hx] at cl hz0
      have LX := Lib.hid (LI.out x)
      have DX := Lib.hid (DV.out x)
      have hlr := LR.out x
      obtain ⟨y, hy⟩ : ∃ y, y = lim 1000000000000 x := ⟨_, rfl⟩
      rw [← hy] at LX DX hlr hz0
      obtain ⟨z, hz⟩ : ∃ z, z = (y + 800) / 1600 := ⟨_, rfl⟩
      rw [← hz] at DX hz0
      obtain ⟨b0, hcell⟩ : ∃ b0 : Int, wr.cell? ⟨w.heap.size, j, none⟩ = some (.int .i64 b0) := ⟨_, (hown.cellAt j (by omega)).trans (ivs_at p j (by rw [HP.out]; omega))⟩
      have hfz := hown.frozenAt j
      have HX := Lib.hid hz0
      have s1 := hown.stored j (.int .i64 z)
      rw [ivs_set] at s1
      have S1 := Lib.hid s1.1
      have S3 := Lib.hid (hbel.setCell (p := ⟨w.heap.size, j, none⟩) (Nat.le_refl _) (.int .i64 z))
      clear hx hz hy hz0 hc s1 hown hbel
      go_wp2_with fail
      refine (LX.out _).mono ?_
      rintro e w1 ⟨rfl, hw⟩
      subst hw
      go_wp2_with fail
      refine (DX.out _).mono ?_
      rintro e w1 ⟨rfl, hw⟩
      subst hw
      go_wp2
      go_roundw
      case rel => exact ⟨j + 1, p.set j z, by omega, by go_num, by rw [List.length_set]; exact HP.out, setpre' HP.out hlt HE.out HX.out, S1.out, S3.out⟩
      case measure => simp [intOf]; omega
    · obtain rfl : j = 16 := by omega
      have d1 : decide (((16 : Nat) : Int) < 16) = false := by simp
      have e : p = rdF l := list_of HP.out HFL.out HE.out
      have O3 := Lib.hid hown; have B3 := Lib.hid hbel; have HEQ := Lib.hid e
      clear hown hbel e
      go_wp2
      go_ret
      refine ⟨_, _, rfl, ?_, B3.out⟩
      have o := O3.out
      rw [HEQ.out] at o
      unfold OwnI
      rw [HFL.out]
      exact o
set_option maxRecDepth 100000 in
set_option maxHeartbeats 2000000 in
theorem impl_rounded_64 (A : Option Addr) (ca : Nat) (l : List Int) (hl : l.length = 64) (w : World) (hA : Ints w w.heap.size A l) :
    Calls Try.prog 9 #[.slice A 64 ca] w fun e w' => ∃ A' c, e = .returned (.slice A' 64 c) ∧ OwnI w' w.heap.size A' c (rdF l) ∧ Below w.heap.size w w' := by
  have SI := Lib.hid (impl_side_any 64)
  rw [show sideN 64 = 8 by rfl] at SI
  have LI := Lib.hid limited_tril
  have DV := Lib.hid fun x => divdown_64 (lim 1000000000000 x + 32) (by have := lim_range (m := 1000000000000) (v := x) (by decide); omega) (by have := lim_range (m := 1000000000000) (v := x) (by decide); omega)
  have LR := Lib.hid fun x => lim_range (m := 1000000000000) (v := x) (by decide)
  have HAT : Hid (∀ x, rdAt l.length x = (lim 1000000000000 x + 32) / 64) := Lib.hid fun x => by rw [hl]; rfl
  have HF : Hid (∀ j, j < 64 → (rdF l).getD j 0 = rdAt l.length (l.getD j 0)) := Lib.hid fun j hj => rdF_at l j (by omega)
  have HFL : Hid ((rdF l).length = 64) := Lib.hid (by rw [rdF_len]; exact hl)
  have HA := Lib.hid hA; have HN := Lib.hid hl
  have hmk := make_ints 64 (64 : Int) rfl (by omega)
  have O0 := Lib.hid (zer_row' 64 (by decide) w)
  have B0 := Lib.hid (below_new w (.cells (ivs (List.replicate 64 0)).toArray 3))
  clear hA hl
  go_enter Try.func9, Try.ntmps9
  go_wp2_with fail
  refine (SI.out _).mono ?_
  rintro e w1 ⟨rfl, hw⟩
  subst hw
  go_wp2
  clear hmk
  go_loopw [6, 7, 20] (fun x6 x7 i wr => ∃ (j : Nat) (p : List Int), j ≤ 64 ∧ i = .int .i64 j ∧ p.length = 64 ∧ (∀ t, t < j → p.getD t 0 = (rdF l).getD t 0) ∧ wr.ownsRow w.heap.size 3 1 (.slice (some ⟨w.heap.size, 0, none⟩) 64 64) 64 (ivs p) ∧ Below w.heap.size w wr)
    (fun _ _ i _ => 64 - (intOf i).toNat)
  case atStart => exact ⟨0, List.replicate 64 0, Nat.zero_le _, rfl, List.length_replicate, fun t ht => absurd ht (by omega), O0.out, B0.out⟩
  case round =>
    obtain ⟨j, p, hj, rfl, hp, hpre, hown, hbel⟩ := hrel
    have HP := Lib.hid hp; have HE := Lib.hid hpre
    clear hp hpre
    by_cases hlt : j < 64
    · have d1 : decide ((j : Int) < 64) = true := by simp; omega
      obtain ⟨b, off, rfl, hb, hc⟩ := HA.out.at j (by rw [HN.out]; exact hlt)
      have cl := hc j (by rw [HN.out]; exact hlt)
      rw [← hbel.cell (p := ⟨b, off + j, none⟩) hb] at cl
      have hz0 := (HF.out j hlt).trans (HAT.out _)
      obtain ⟨x, hx⟩ : ∃ x, x = l.getD j 0 := ⟨_, rfl⟩
      rw [← hx] at cl hz0
      have LX := Lib.hid (LI.out x)
      have DX := Lib.hid (DV.out x)
      have hlr := LR.out x
      obtain ⟨y, hy⟩ : ∃ y, y = lim 1000000000000 x := ⟨_, rfl⟩
      rw [← hy] at LX DX hlr hz0
      obtain ⟨z, hz⟩ : ∃ z, z = (y + 32) / 64 := ⟨_, rfl⟩
      rw [← hz] at DX hz0
      obtain ⟨b0, hcell⟩ : ∃ b0 : Int, wr.cell? ⟨w.heap.size, j, none⟩ = some (.int .i64 b0) := ⟨_, (hown.cellAt j (by omega)).trans (ivs_at p j (by rw [HP.out]; omega))⟩
      have hfz := hown.frozenAt j
      have HX := Lib.hid hz0
      have s1 := hown.stored j (.int .i64 z)
      rw [ivs_set] at s1
      have S1 := Lib.hid s1.1
      have S3 := Lib.hid (hbel.setCell (p := ⟨w.heap.size, j, none⟩) (Nat.le_refl _) (.int .i64 z))
      clear hx hz hy hz0 hc s1 hown hbel
      go_wp2_with fail
      refine (LX.out _).mono ?_
      rintro e w1 ⟨rfl, hw⟩
      subst hw
      go_wp2_with fail
      refine (DX.out _).mono ?_
      rintro e w1 ⟨rfl, hw⟩
      subst hw
      go_wp2
      go_roundw
      case rel => exact ⟨j + 1, p.set j z, by omega, by go_num, by rw [List.length_set]; exact HP.out, setpre' HP.out hlt HE.out HX.out, S1.out, S3.out⟩
      case measure => simp [intOf]; omega
    · obtain rfl : j = 64 := by omega
      have d1 : decide (((64 : Nat) : Int) < 64) = false := by simp
      have e : p = rdF l := list_of HP.out HFL.out HE.out
      have O3 := Lib.hid hown; have B3 := Lib.hid hbel; have HEQ := Lib.hid e
      clear hown hbel e
      go_wp2
      go_ret
      refine ⟨_, _, rfl, ?_, B3.out⟩
      have o := O3.out
      rw [HEQ.out] at o
      unfold OwnI
      rw [HFL.out]
      exact o
theorem rdL_yes {l : List Int} (h : sizeV l.length = true) : rdL l = rdF l := by unfold rdL; rw [if_pos h]
theorem rdL_no {l : List Int} (h : sizeV l.length = false) : rdL l = [] := by unfold rdL; rw [if_neg (by rw [h]; simp)]
set_option maxRecDepth 100000 in
set_option maxHeartbeats 2000000 in
theorem impl_rounded_any (A : Option Addr) (ca : Nat) (l : List Int) (w : World) (hA : Ints w w.heap.size A l) :
    Calls Try.prog 9 #[.slice A l.length ca] w fun e w' => ∃ A' c, e = .returned (.slice A' (rdL l).length c) ∧ OwnI w' w.heap.size A' c (rdL l) ∧ Below w.heap.size w w' := by
  cases hok : sizeV l.length with
  | true =>
    rw [rdL_yes hok, rdF_len]
    rcases sizeV_len hok with h | h
    · rw [h]; exact impl_rounded_16 A ca l h w hA
    · rw [h]; exact impl_rounded_64 A ca l h w hA
  | false =>
    rw [rdL_no hok]
    have HON : Hid (OwnI w w.heap.size none 0 []) := Lib.hid (World.ownsRow_nil w w.heap.size 3 1)
    have hnm := hA.1
    have SI := Lib.hid (impl_side_any l.length)
    have hsz := (size_side l.length).1
    obtain ⟨n, hn⟩ : ∃ n, n = l.length := ⟨_, rfl⟩
    rw [← hn] at SI hsz hok hnm ⊢
    obtain ⟨S, hSS⟩ : ∃ S, S = sideN n := ⟨_, rfl⟩
    rw [← hSS] at SI hsz
    rw [hok] at hsz
    have b1 : (S == 0) = true := by simpa using hsz
    clear hn hA hok hsz hSS
    go_enter Try.func9, Try.ntmps9
    go_wp2_with fail
    refine (SI.out _).mono ?_
    rintro e w1 ⟨rfl, hw⟩
    subst hw
    go_wp2
    go_ret
    exact ⟨none, 0, rfl, HON.out, Below.refl _ _⟩
end Go.Proofs.Ytdocobphecllkaa
