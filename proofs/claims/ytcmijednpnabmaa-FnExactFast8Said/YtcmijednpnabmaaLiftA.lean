/-
  Contracts of the model's Lift4 and Lift8. No condition.
-/
import Derived.Test.YtcmijednpnabmaaLiftP
import Derived.Maps.AppendAt
namespace Go.Proofs.Ytcmijednpnabmaa
open Go.RowKit
set_option linter.unusedVariables false

theorem own_list13 (w wx : World) (l : List Int) (hb : Below w.heap.size w wx) (hm : l.length ≤ 1000) : OwnI (wx.alloc (.cells (ivs l).toArray 3)) w.heap.size (some ⟨wx.heap.size, 0, none⟩) l.length l ∧ Below w.heap.size w (wx.alloc (.cells (ivs l).toArray 3)) :=
  ⟨own_ints wx w.heap.size l hb.size (by unfold maxLen; omega), hb.alloc hb.size _⟩
theorem own_where' {w : World} {base : Nat} {A : Option Addr} {n c : Nat} {l : List Int} (h : w.ownsRow base 3 1 (.slice A n c) n (ivs l)) (hl : l.length = n) (hn : 0 < n) : ∃ b, A = some ⟨b, 0, none⟩ ∧ base ≤ b ∧ b < w.heap.size ∧ n ≤ c ∧ c ≤ maxLen := by
  rcases h.2 with ⟨h1, h2⟩ | ⟨g, cap, cur, h1, hb, hg, hnc, hcm, hcs, htake⟩
  · omega
  · simp only [Value.slice.injEq] at h1
    obtain ⟨rfl, _, rfl⟩ := h1
    exact ⟨g, rfl, hb, (Array.getElem?_eq_some_iff.1 hg).1, hnc, hcm⟩
theorem own_form3 {w : World} {base : Nat} {e : TypeId} {size : Nat} {v : Value} {n : Nat} {xs : List Value} (h : w.ownsRow base e size v n xs) : ∃ A c, v = .slice A n c := by
  rcases h.2 with ⟨h1, h2⟩ | ⟨g, cap, cur, h1, _⟩
  · exact ⟨none, 0, by rw [h1, h2]⟩
  · exact ⟨_, _, h1⟩
theorem own_cells' {w : World} {base g n cap : Nat} {l : List Int} (h : w.ownsRow base 3 1 (.slice (some ⟨g, 0, none⟩) n cap) n (ivs l)) (hl : l.length = n) (j : Nat) (hj : j < n) : w.cell? ⟨g, j, none⟩ = some (.int .i64 (l.getD j 0)) :=
  (World.ownsRow.cellAt h j (by omega)).trans (ivs_at l j (by omega))
theorem bit_and_1 : ∀ j : Nat, j < 8 → bits .and .i64 (j : Int) 1 = ((j / 1 % 2 * 1 : Nat) : Int) := by decide +kernel
theorem bit_and_2 : ∀ j : Nat, j < 8 → bits .and .i64 (j : Int) 2 = ((j / 2 % 2 * 2 : Nat) : Int) := by decide +kernel
theorem bit_and_4 : ∀ j : Nat, j < 8 → bits .and .i64 (j : Int) 4 = ((j / 4 % 2 * 4 : Nat) : Int) := by decide +kernel

set_option maxRecDepth 100000 in
set_option maxHeartbeats 2000000 in
theorem spec_lift4_four (A : Option Addr) (ca : Nat) (a : List Int) (ha : a.length = 4) (w : World) (hA : Ints w w.heap.size A a) :
    Calls Try.prog 12 #[.slice A 4 ca] w fun e w' => ∃ A' c, e = .returned (.slice A' 4 c) ∧ OwnI w' w.heap.size A' c (liR 4 a) ∧ Below w.heap.size w w' := by
  obtain ⟨b, off, rfl, hb, hc⟩ := hA.at 0 (by omega)
  have c0 := hc 0 (by omega); have c1 := hc 1 (by omega); have c2 := hc 2 (by omega); have c3 := hc 3 (by omega)
  rw [Nat.add_zero] at c0
  rw [liR_four a ha]
  obtain ⟨a0, h0⟩ : ∃ x, x = a.getD 0 0 := ⟨_, rfl⟩
  obtain ⟨a1, h1⟩ : ∃ x, x = a.getD 1 0 := ⟨_, rfl⟩
  obtain ⟨a2, h2⟩ : ∃ x, x = a.getD 2 0 := ⟨_, rfl⟩
  obtain ⟨a3, h3⟩ : ∃ x, x = a.getD 3 0 := ⟨_, rfl⟩
  rw [← h0] at c0 ⊢
  rw [← h1] at c1 ⊢
  rw [← h2] at c2 ⊢
  rw [← h3] at c3 ⊢
  have hw := wr_lift a0 a1 a2 a3
  obtain ⟨e, he⟩ : ∃ e, wrap64 (a0 + a2) = e := ⟨_, rfl⟩
  obtain ⟨f, hf⟩ : ∃ e, wrap64 (a0 - a2) = e := ⟨_, rfl⟩
  obtain ⟨g1, hg1⟩ : ∃ e, wrap64 (2 * a1) = e := ⟨_, rfl⟩
  obtain ⟨g, hg⟩ : ∃ e, wrap64 (g1 + a3) = e := ⟨_, rfl⟩
  obtain ⟨h31, hh31⟩ : ∃ e, wrap64 (2 * a3) = e := ⟨_, rfl⟩
  obtain ⟨h, hh⟩ : ∃ e, wrap64 (a1 - h31) = e := ⟨_, rfl⟩
  have k0 : wrap64 (e + g) = wrap64 (a0 + a2 + (2 * a1 + a3)) := by rw [← he, ← hg, ← hg1]; exact hw.1
  have k1 : wrap64 (f + h) = wrap64 (a0 - a2 + (a1 - 2 * a3)) := by rw [← hf, ← hh, ← hh31]; exact hw.2.1
  have k2 : wrap64 (f - h) = wrap64 (a0 - a2 - (a1 - 2 * a3)) := by rw [← hf, ← hh, ← hh31]; exact hw.2.2.1
  have k3 : wrap64 (e - g) = wrap64 (a0 + a2 - (2 * a1 + a3)) := by rw [← he, ← hg, ← hg1]; exact hw.2.2.2
  obtain ⟨z0, hz0⟩ : ∃ z, z = wrap64 (a0 + a2 + (2 * a1 + a3)) := ⟨_, rfl⟩
  obtain ⟨z1, hz1⟩ : ∃ z, z = wrap64 (a0 - a2 + (a1 - 2 * a3)) := ⟨_, rfl⟩
  obtain ⟨z2, hz2⟩ : ∃ z, z = wrap64 (a0 - a2 - (a1 - 2 * a3)) := ⟨_, rfl⟩
  obtain ⟨z3, hz3⟩ : ∃ z, z = wrap64 (a0 + a2 - (2 * a1 + a3)) := ⟨_, rfl⟩
  rw [← hz0] at k0 ⊢
  rw [← hz1] at k1 ⊢
  rw [← hz2] at k2 ⊢
  rw [← hz3] at k3 ⊢
  have OL := Lib.hid fun wx hb => own_list13 w wx [z0, z1, z2, z3] hb (by simp)
  clear hw hz0 hz1 hz2 hz3 h0 h1 h2 h3 hc hA ha
  go_enter Try.func12, Try.ntmps12
  go_wp2
  go_region
  go_wp2
  go_region
  go_wp2
  go_region
  go_wp2
  go_region
  go_wp2
  go_ret
  have o := OL.out w.drew.drew.drew.drew (Below.refl _ _).drew.drew.drew.drew
  exact ⟨_, _, rfl, o.1, o.2⟩
set_option maxRecDepth 100000 in
set_option maxHeartbeats 1000000 in
theorem spec_lift4_any (A : Option Addr) (ca : Nat) (a : List Int) (w : World) (hA : Ints w w.heap.size A a) :
    Calls Try.prog 12 #[.slice A a.length ca] w fun e w' => ∃ A' c, e = .returned (.slice A' (liR 4 a).length c) ∧ OwnI w' w.heap.size A' c (liR 4 a) ∧ Below w.heap.size w w' := by
  by_cases ha : a.length = 4
  · rw [liR_full ha, ha]; exact spec_lift4_four A ca a ha w hA
  · rw [liR_no ha]
    have hnm := hA.1
    have OL := Lib.hid (own_list13 w w [] (Below.refl _ _) (by simp))
    obtain ⟨n, hn⟩ : ∃ n, n = a.length := ⟨_, rfl⟩
    rw [← hn] at ha hnm ⊢
    have hq : ((n : Int) != 4) = true := by rw [bne_iff_ne]; omega
    clear hn ha hA
    go_enter Try.func12, Try.ntmps12
    go_wp2
    go_ret
    exact ⟨_, _, rfl, OL.out.1, OL.out.2⟩

set_option maxRecDepth 100000 in
set_option maxHeartbeats 4000000 in
theorem spec_lift8_eight (A : Option Addr) (ca : Nat) (a : List Int) (hal : a.length = 8) (w : World) (hA : Ints w w.heap.size A a) :
    Calls Try.prog 18 #[.slice A 8 ca] w fun e w' => ∃ A' c, e = .returned (.slice A' 8 c) ∧ OwnI w' w.heap.size A' c (liR 8 a) ∧ Below w.heap.size w w' := by
  obtain ⟨i0, hi, hz0, hz1, hz2⟩ := info_parts Try.iinfo
  have O0 := Lib.hid (own_ints w w.heap.size [] (Nat.le_refl _) (by simp))
  have B0 := Lib.hid ((Below.refl w.heap.size w).alloc (Nat.le_refl _) (.cells (ivs []).toArray 3))
  have HA := Lib.hid (hA.below B0.out (Nat.le_refl _))
  have PA : Hid (Placed A ca) := Lib.hid (by obtain ⟨b, off, rfl, -⟩ := hA.at 0 (by omega); intro h; cases h)
  have HAL := Lib.hid hal
  clear hA
  go_enter Try.func18, Try.ntmps18
  go_wp2_with (at_builtin; refine append_ints rfl (.tmp 12) (.tmp 13) 22 rfl w i0 Try.underlying22 hi hz0 hz1 hz2 _ _ _ rfl O0.out _ _ _ a HAL.out.symm rfl _ HA.out PA.out (by simp) B0.out ?_; intro v' w1 hown hbel)
  obtain ⟨Av, c, rfl⟩ := own_form3 hown
  rw [List.nil_append] at hown
  obtain ⟨b, rfl, hbw, hbs, hnc, hcm⟩ := own_where' hown hal (by decide)
  unfold maxLen at hcm
  have O1 := Lib.hid hown; have B1 := Lib.hid hbel
  clear hown hbel hbs
  go_wp2
  go_loopw [4, 5, 6, 7] (fun w4 x5 x6 x7 wr => ∃ (t : Nat) (W : Int), ((t = 0 ∧ W = 1) ∨ (t = 1 ∧ W = 2) ∨ (t = 2 ∧ W = 4) ∨ (t = 3 ∧ W = 8)) ∧ w4 = .int .i64 W ∧ wr.ownsRow w.heap.size 3 1 (.slice (some ⟨b, 0, none⟩) 8 c) 8 (ivs (stA a t)) ∧ Below w.heap.size w wr)
    (fun w4 _ _ _ _ => 8 - (intOf w4).toNat)
  case atStart => exact ⟨0, 1, .inl ⟨rfl, rfl⟩, rfl, O1.out, B1.out⟩
  case round =>
    obtain ⟨t, W, htW, rfl, hown, hbel⟩ := hrel
    have hal := HAL.out
    rcases htW with ⟨rfl, rfl⟩ | ⟨rfl, rfl⟩ | ⟨rfl, rfl⟩ | ⟨rfl, rfl⟩
    · -- 0
      have hql : (stA a 0).length = 8 := stA_len hal 0
      have HAL := Lib.hid hal
      obtain ⟨q, hq⟩ : ∃ q, q = stA a 0 := ⟨_, rfl⟩
      rw [← hq] at hown hql
      rw [← stW_start 1 hql] at hown
      have HQ := Lib.hid hq; have HO := Lib.hid hown; have HB := Lib.hid hbel
      clear hq hown hbel hal
      go_wp2
      go_loopw [5, 6, 7] (fun i x6 x7 wr => ∃ j : Nat, j ≤ 8 ∧ i = .int .i64 j ∧ wr.ownsRow w.heap.size 3 1 (.slice (some ⟨b, 0, none⟩) 8 c) 8 (ivs (stW 1 q j)) ∧ Below w.heap.size w wr)
        (fun i _ _ _ => 8 - (intOf i).toNat)
      case atStart => exact ⟨0, Nat.zero_le _, rfl, HO.out, HB.out⟩
      case round =>
        obtain ⟨j, hj, rfl, hown, hbel⟩ := hrel
        by_cases hlt : j < 8
        · have d1 : decide ((j : Int) < 8) = true := by simp; omega
          have ha := bit_and_1 j hlt
          by_cases hbit : j / 1 % 2 = 0
          · rw [hbit, Nat.zero_mul] at ha
            have ha : bits .and .i64 (j : Int) 1 = 0 := ha
            obtain ⟨hjw, hk1, hk2⟩ := stW_keep_1 q j hlt hbit
            have hst := stW_step_1 q j hlt hbit
            have hlen := stW_len 1 q j
            obtain ⟨p, hp⟩ : ∃ p, p = stW 1 q j := ⟨_, rfl⟩
            rw [← hp] at hown hk1 hk2 hst hlen
            have cl1 := own_cells' hown hlen j (by omega)
            have cl2 := own_cells' hown hlen (j + 1) (by omega)
            rw [hk1] at cl1
            rw [hk2] at cl2
            obtain ⟨x, hx⟩ : ∃ x, x = q.getD j 0 := ⟨_, rfl⟩
            obtain ⟨y, hy⟩ : ∃ y, y = q.getD (j + 1) 0 := ⟨_, rfl⟩
            rw [← hx] at cl1
            rw [← hy] at cl2
            rw [← hx, ← hy] at hst
            obtain ⟨u, hu⟩ : ∃ e, wrap64 (x + y) = e := ⟨_, rfl⟩
            obtain ⟨v, hv⟩ : ∃ e, wrap64 (x - y) = e := ⟨_, rfl⟩
            rw [hu, hv] at hst
            have hfz := hown.frozenAt j
            have s1 := hown.stored j (.int .i64 u)
            rw [ivs_set] at s1
            have hfz2 := s1.1.frozenAt (j + 1)
            have cl3 : (wr.setCell ⟨b, j, none⟩ (.int .i64 u)).cell? ⟨b, j + 1, none⟩ = some (.int .i64 y) := by
              have := own_cells' s1.1 (by rw [List.length_set]; exact hlen) (j + 1) (by omega)
              rw [getD_set_ne _ (by omega), hk2, ← hy] at this
              exact this
            have s2 := s1.1.stored (j + 1) (.int .i64 v)
            rw [ivs_set, hst] at s2
            have S1 := Lib.hid s2.1
            have S3 := Lib.hid ((hbel.setCell (p := ⟨b, j, none⟩) hbw (.int .i64 u)).setCell (p := ⟨b, j + 1, none⟩) hbw (.int .i64 v))
            have hadd : IntKind.i64.wrap ((j : Int) + 1) = (j : Int) + 1 := IntWalk.i64_in _ (by omega)
            clear hx hy hp s1 s2 hown hbel hk1 hk2 hst hlen
            go_wp2
            go_roundw
            case rel => exact ⟨j + 1, by omega, by go_num, S1.out, S3.out⟩
            case measure => simp [intOf]; omega
          · have hsk := stW_skip_1 q j hlt hbit
            have hb1 : j / 1 % 2 = 1 := by omega
            rw [hb1] at ha
            have ha : bits .and .i64 (j : Int) 1 = 1 := ha
            rw [← hsk] at hown
            have S1 := Lib.hid hown; have S3 := Lib.hid hbel
            clear hown hbel hsk hb1 hbit
            go_wp2
            go_roundw
            case rel => exact ⟨j + 1, by omega, by go_num, S1.out, S3.out⟩
            case measure => simp [intOf]; omega
        · obtain rfl : j = 8 := by omega
          have S1 := Lib.hid hown; have S3 := Lib.hid hbel
          clear hown hbel
          go_wp2
          go_roundw
          case rel =>
            refine ⟨1, 2, by decide, by go_num, ?_, S3.out⟩
            have o := S1.out
            rw [HQ.out] at o
            exact o
          case measure => simp [intOf]
    · -- 1
      have hql : (stA a 1).length = 8 := stA_len hal 1
      have HAL := Lib.hid hal
      obtain ⟨q, hq⟩ : ∃ q, q = stA a 1 := ⟨_, rfl⟩
      rw [← hq] at hown hql
      rw [← stW_start 2 hql] at hown
      have HQ := Lib.hid hq; have HO := Lib.hid hown; have HB := Lib.hid hbel
      clear hq hown hbel hal
      go_wp2
      go_loopw [5, 6, 7] (fun i x6 x7 wr => ∃ j : Nat, j ≤ 8 ∧ i = .int .i64 j ∧ wr.ownsRow w.heap.size 3 1 (.slice (some ⟨b, 0, none⟩) 8 c) 8 (ivs (stW 2 q j)) ∧ Below w.heap.size w wr)
        (fun i _ _ _ => 8 - (intOf i).toNat)
      case atStart => exact ⟨0, Nat.zero_le _, rfl, HO.out, HB.out⟩
      case round =>
        obtain ⟨j, hj, rfl, hown, hbel⟩ := hrel
        by_cases hlt : j < 8
        · have d1 : decide ((j : Int) < 8) = true := by simp; omega
          have ha := bit_and_2 j hlt
          by_cases hbit : j / 2 % 2 = 0
          · rw [hbit, Nat.zero_mul] at ha
            have ha : bits .and .i64 (j : Int) 2 = 0 := ha
            obtain ⟨hjw, hk1, hk2⟩ := stW_keep_2 q j hlt hbit
            have hst := stW_step_2 q j hlt hbit
            have hlen := stW_len 2 q j
            obtain ⟨p, hp⟩ : ∃ p, p = stW 2 q j := ⟨_, rfl⟩
            rw [← hp] at hown hk1 hk2 hst hlen
            have cl1 := own_cells' hown hlen j (by omega)
            have cl2 := own_cells' hown hlen (j + 2) (by omega)
            rw [hk1] at cl1
            rw [hk2] at cl2
            obtain ⟨x, hx⟩ : ∃ x, x = q.getD j 0 := ⟨_, rfl⟩
            obtain ⟨y, hy⟩ : ∃ y, y = q.getD (j + 2) 0 := ⟨_, rfl⟩
            rw [← hx] at cl1
            rw [← hy] at cl2
            rw [← hx, ← hy] at hst
            obtain ⟨u, hu⟩ : ∃ e, wrap64 (x + y) = e := ⟨_, rfl⟩
            obtain ⟨v, hv⟩ : ∃ e, wrap64 (x - y) = e := ⟨_, rfl⟩
            rw [hu, hv] at hst
            have hfz := hown.frozenAt j
            have s1 := hown.stored j (.int .i64 u)
            rw [ivs_set] at s1
            have hfz2 := s1.1.frozenAt (j + 2)
            have cl3 : (wr.setCell ⟨b, j, none⟩ (.int .i64 u)).cell? ⟨b, j + 2, none⟩ = some (.int .i64 y) := by
              have := own_cells' s1.1 (by rw [List.length_set]; exact hlen) (j + 2) (by omega)
              rw [getD_set_ne _ (by omega), hk2, ← hy] at this
              exact this
            have s2 := s1.1.stored (j + 2) (.int .i64 v)
            rw [ivs_set, hst] at s2
            have S1 := Lib.hid s2.1
            have S3 := Lib.hid ((hbel.setCell (p := ⟨b, j, none⟩) hbw (.int .i64 u)).setCell (p := ⟨b, j + 2, none⟩) hbw (.int .i64 v))
            have hadd : IntKind.i64.wrap ((j : Int) + 2) = (j : Int) + 2 := IntWalk.i64_in _ (by omega)
            clear hx hy hp s1 s2 hown hbel hk1 hk2 hst hlen
            go_wp2
            go_roundw
            case rel => exact ⟨j + 1, by omega, by go_num, S1.out, S3.out⟩
            case measure => simp [intOf]; omega
          · have hsk := stW_skip_2 q j hlt hbit
            have hb1 : j / 2 % 2 = 1 := by omega
            rw [hb1] at ha
            have ha : bits .and .i64 (j : Int) 2 = 2 := ha
            rw [← hsk] at hown
            have S1 := Lib.hid hown; have S3 := Lib.hid hbel
            clear hown hbel hsk hb1 hbit
            go_wp2
            go_roundw
            case rel => exact ⟨j + 1, by omega, by go_num, S1.out, S3.out⟩
            case measure => simp [intOf]; omega
        · obtain rfl : j = 8 := by omega
          have S1 := Lib.hid hown; have S3 := Lib.hid hbel
          clear hown hbel
          go_wp2
          go_roundw
          case rel =>
            refine ⟨2, 4, by decide, by go_num, ?_, S3.out⟩
            have o := S1.out
            rw [HQ.out] at o
            exact o
          case measure => simp [intOf]
    · -- 2
      have hql : (stA a 2).length = 8 := stA_len hal 2
      have HAL := Lib.hid hal
      obtain ⟨q, hq⟩ : ∃ q, q = stA a 2 := ⟨_, rfl⟩
      rw [← hq] at hown hql
      rw [← stW_start 4 hql] at hown
      have HQ := Lib.hid hq; have HO := Lib.hid hown; have HB := Lib.hid hbel
      clear hq hown hbel hal
      go_wp2
      go_loopw [5, 6, 7] (fun i x6 x7 wr => ∃ j : Nat, j ≤ 8 ∧ i = .int .i64 j ∧ wr.ownsRow w.heap.size 3 1 (.slice (some ⟨b, 0, none⟩) 8 c) 8 (ivs (stW 4 q j)) ∧ Below w.heap.size w wr)
        (fun i _ _ _ => 8 - (intOf i).toNat)
      case atStart => exact ⟨0, Nat.zero_le _, rfl, HO.out, HB.out⟩
      case round =>
        obtain ⟨j, hj, rfl, hown, hbel⟩ := hrel
        by_cases hlt : j < 8
        · have d1 : decide ((j : Int) < 8) = true := by simp; omega
          have ha := bit_and_4 j hlt
          by_cases hbit : j / 4 % 2 = 0
          · rw [hbit, Nat.zero_mul] at ha
            have ha : bits .and .i64 (j : Int) 4 = 0 := ha
            obtain ⟨hjw, hk1, hk2⟩ := stW_keep_4 q j hlt hbit
            have hst := stW_step_4 q j hlt hbit
            have hlen := stW_len 4 q j
            obtain ⟨p, hp⟩ : ∃ p, p = stW 4 q j := ⟨_, rfl⟩
            rw [← hp] at hown hk1 hk2 hst hlen
            have cl1 := own_cells' hown hlen j (by omega)
            have cl2 := own_cells' hown hlen (j + 4) (by omega)
            rw [hk1] at cl1
            rw [hk2] at cl2
            obtain ⟨x, hx⟩ : ∃ x, x = q.getD j 0 := ⟨_, rfl⟩
            obtain ⟨y, hy⟩ : ∃ y, y = q.getD (j + 4) 0 := ⟨_, rfl⟩
            rw [← hx] at cl1
            rw [← hy] at cl2
            rw [← hx, ← hy] at hst
            obtain ⟨u, hu⟩ : ∃ e, wrap64 (x + y) = e := ⟨_, rfl⟩
            obtain ⟨v, hv⟩ : ∃ e, wrap64 (x - y) = e := ⟨_, rfl⟩
            rw [hu, hv] at hst
            have hfz := hown.frozenAt j
            have s1 := hown.stored j (.int .i64 u)
            rw [ivs_set] at s1
            have hfz2 := s1.1.frozenAt (j + 4)
            have cl3 : (wr.setCell ⟨b, j, none⟩ (.int .i64 u)).cell? ⟨b, j + 4, none⟩ = some (.int .i64 y) := by
              have := own_cells' s1.1 (by rw [List.length_set]; exact hlen) (j + 4) (by omega)
              rw [getD_set_ne _ (by omega), hk2, ← hy] at this
              exact this
            have s2 := s1.1.stored (j + 4) (.int .i64 v)
            rw [ivs_set, hst] at s2
            have S1 := Lib.hid s2.1
            have S3 := Lib.hid ((hbel.setCell (p := ⟨b, j, none⟩) hbw (.int .i64 u)).setCell (p := ⟨b, j + 4, none⟩) hbw (.int .i64 v))
            have hadd : IntKind.i64.wrap ((j : Int) + 4) = (j : Int) + 4 := IntWalk.i64_in _ (by omega)
            clear hx hy hp s1 s2 hown hbel hk1 hk2 hst hlen
            go_wp2
            go_roundw
            case rel => exact ⟨j + 1, by omega, by go_num, S1.out, S3.out⟩
            case measure => simp [intOf]; omega
          · have hsk := stW_skip_4 q j hlt hbit
            have hb1 : j / 4 % 2 = 1 := by omega
            rw [hb1] at ha
            have ha : bits .and .i64 (j : Int) 4 = 4 := ha
            rw [← hsk] at hown
            have S1 := Lib.hid hown; have S3 := Lib.hid hbel
            clear hown hbel hsk hb1 hbit
            go_wp2
            go_roundw
            case rel => exact ⟨j + 1, by omega, by go_num, S1.out, S3.out⟩
            case measure => simp [intOf]; omega
        · obtain rfl : j = 8 := by omega
          have S1 := Lib.hid hown; have S3 := Lib.hid hbel
          clear hown hbel
          go_wp2
          go_roundw
          case rel =>
            refine ⟨3, 8, by decide, by go_num, ?_, S3.out⟩
            have o := S1.out
            rw [HQ.out] at o
            exact o
          case measure => simp [intOf]
    · have HE := Lib.hid (stA_end a hal)
      have O3 := Lib.hid hown; have B3 := Lib.hid hbel
      clear hown hbel hal
      go_wp2
      go_ret
      refine ⟨_, _, rfl, ?_, B3.out⟩
      have o := O3.out
      rw [HE.out] at o
      unfold OwnI
      rw [liR_full HAL.out]
      exact o
set_option maxRecDepth 100000 in
set_option maxHeartbeats 1000000 in
theorem spec_lift8_any (A : Option Addr) (ca : Nat) (a : List Int) (w : World) (hA : Ints w w.heap.size A a) :
    Calls Try.prog 18 #[.slice A a.length ca] w fun e w' => ∃ A' c, e = .returned (.slice A' (liR 8 a).length c) ∧ OwnI w' w.heap.size A' c (liR 8 a) ∧ Below w.heap.size w w' := by
  by_cases ha : a.length = 8
  · rw [liR_full ha, ha]; exact spec_lift8_eight A ca a ha w hA
  · rw [liR_no ha]
    have hnm := hA.1
    have OL := Lib.hid (own_list13 w w [] (Below.refl _ _) (by simp))
    obtain ⟨n, hn⟩ : ∃ n, n = a.length := ⟨_, rfl⟩
    rw [← hn] at ha hnm ⊢
    have hq : ((n : Int) != 8) = true := by rw [bne_iff_ne]; omega
    clear hn ha hA
    go_enter Try.func18, Try.ntmps18
    go_wp2
    go_ret
    exact ⟨_, _, rfl, OL.out.1, OL.out.2⟩
end Go.Proofs.Ytcmijednpnabmaa
