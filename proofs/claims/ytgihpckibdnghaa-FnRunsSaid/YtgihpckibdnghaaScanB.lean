/-
  Contracts of the program's diagonal and of ScanOrder, in the program's text. Condition: the number is an int.
-/
import Derived.Test.YtgihpckibdnghaaScanA
namespace Go.Proofs.Ytgihpckibdnghaa
open Go.RowKit
set_option linter.unusedVariables false

/-- Cells of a row that the call owns, written one after the other. -/
theorem own_stored {base g n cap : Nat} : ∀ (vs : List Value) (o : Nat) (w : World) (xs : List Value), o + vs.length ≤ xs.length → w.ownsRow base 3 1 (.slice (some ⟨g, 0, none⟩) n cap) n xs →
    (w.setCells g o vs).ownsRow base 3 1 (.slice (some ⟨g, 0, none⟩) n cap) n (xs.take o ++ vs ++ xs.drop (o + vs.length)) ∧ w.grownBy (w.setCells g o vs) (some g)
  | [], o, w, xs, hl, h => by
    refine ⟨?_, ⟨rfl, rfl, rfl, Nat.le_refl _, fun _ _ _ => rfl⟩⟩
    have e : xs.take o ++ [] ++ xs.drop (o + ([] : List Value).length) = xs := by simp
    rw [e]
    exact h
  | v :: r, o, w, xs, hl, h => by
    have hlen : o < xs.length := by rw [List.length_cons] at hl; omega
    have s1 := h.stored o v
    have h2 := own_stored r (o + 1) (w.setCell ⟨g, o, none⟩ v) (xs.set o v) (by rw [List.length_set]; rw [List.length_cons] at hl; omega) s1.1
    have e : (xs.set o v).take (o + 1) ++ r ++ (xs.set o v).drop (o + 1 + r.length) = xs.take o ++ v :: r ++ xs.drop (o + (v :: r).length) := by
      have e1 : (xs.set o v).take (o + 1) = xs.take o ++ [v] := by
        rw [List.take_succ_eq_append_getElem (by simpa using hlen), List.getElem_set_self, List.take_set_of_le (Nat.le_refl _)]
      have e2 : (xs.set o v).drop (o + 1 + r.length) = xs.drop (o + (v :: r).length) := by
        rw [List.drop_set_of_lt (by omega), List.length_cons]
        congr 1
        omega
      rw [e1, e2]
      simp
    rw [e] at h2
    refine ⟨h2.1, ⟨h2.2.os.trans s1.2.os, h2.2.tape.trans s1.2.tape, h2.2.output.trans s1.2.output, Nat.le_trans s1.2.size h2.2.size, fun k hk hne => ?_⟩⟩
    exact (h2.2.block k (Nat.lt_of_lt_of_le hk s1.2.size) hne).trans (s1.2.block k hk hne)

/-- slices.Reverse of one's own row. -/
theorem reverse_own (base : Nat) (A : Option Addr) (cap : Nat) (l : List Int) (hl : l.length ≤ 4000000) (w : World) (hO : OwnI w base A cap l) :
    Calls Try.prog 55 #[.slice A l.length cap] w fun e w' => e = .returned (.tuple #[]) ∧ OwnI w' base A cap l.reverse ∧ w.grownBy w' (Value.slice A l.length cap).ownBlock := by
  have hO2 := hO
  unfold OwnI at hO2
  rcases hO2.2 with ⟨h1, h2⟩ | ⟨g, cap', cur, h1, hb, hg, _⟩
  · simp only [Value.slice.injEq] at h1
    obtain ⟨rfl, _, rfl⟩ := h1
    obtain rfl : l = [] := List.eq_nil_of_length_eq_zero h2
    refine (Try.slices_Reverse_int_empty none 0 w).mono ?_
    rintro e w' ⟨rfl, rfl⟩
    exact ⟨rfl, hO, ⟨rfl, rfl, rfl, Nat.le_refl _, fun _ _ _ => rfl⟩⟩
  · simp only [Value.slice.injEq] at h1
    obtain ⟨rfl, _, rfl⟩ := h1
    have hH : Go.Sort.Holds (Value.int .i64) w g 0 l.toArray := by
      have h := Lib.holds_of_ints (w := w) (b := g) (off := 0) (n := l.length) (zs := l) (Nat.le_refl _) (fun j hj => ?_) (fun j hj => ?_)
      · rw [List.take_length] at h
        exact h
      · rw [Nat.zero_add]
        exact (hO2.cellAt j (by omega)).trans (ivs_at l j hj)
      · rw [Nat.zero_add]
        exact hO2.frozenAt j
    refine (Try.slices_Reverse_int g 0 cap l w hH (by omega)).mono ?_
    rintro e w' ⟨rfl, q, hw⟩
    have hw2 := hw.trans (Lib.putRow_eq_setCells _ w g 0 _ _ q hH (by simp))
    subst hw2
    have h := own_stored (base := base) (g := g) (n := l.length) (cap := cap) (l.reverse.map (Value.int .i64)) 0 (w.drewN q) (ivs l) (by simp [ivs_len]) hO2
    have e : (ivs l).take 0 ++ l.reverse.map (Value.int .i64) ++ (ivs l).drop (0 + (l.reverse.map (Value.int .i64)).length) = ivs l.reverse := by
      rw [List.take_zero, List.drop_eq_nil_of_le (by simp [ivs_len]), List.append_nil, List.nil_append]
      rfl
    rw [e] at h
    refine ⟨rfl, ?_, ?_⟩
    · unfold OwnI
      rw [List.length_reverse]
      exact h.1
    · exact ⟨h.2.os, h.2.tape, h.2.output, h.2.size, h.2.block⟩
theorem imRow_next (n d a X : Nat) (h : a ≤ X) : imRow n d a (X + 1 - a) = imRow n d a (X - a) ++ [imStep n d X] := by
  obtain ⟨k, rfl⟩ : ∃ k, X = a + k := ⟨X - a, by omega⟩
  rw [show a + k + 1 - a = k + 1 by omega, show a + k - a = k by omega, imRow]

set_option maxRecDepth 100000 in
set_option maxHeartbeats 2000000 in
theorem diagonal_4 (d : Nat) (hd : d < 7) (w : World) :
    Calls Try.prog 51 #[.int .i64 4, .int .i64 d] w fun e w' => ∃ A c, e = .returned (.slice A (imDia 4 d).length c) ∧ OwnI w' w.heap.size A c (imDia 4 d) ∧ Below w.heap.size w w' := by
  obtain ⟨i0, hi, hz0, hz1, hz2⟩ := info_parts Try.iinfo
  have RV := Lib.hid reverse_own
  obtain ⟨a, ha⟩ : ∃ a, a = imA 4 d := ⟨_, rfl⟩
  obtain ⟨M, hM⟩ : ∃ M, M = (if d < 4 - 1 then d else 4 - 1) := ⟨_, rfl⟩
  have hK : imK 4 d = M + 1 - a := by unfold imK; rw [← ha, hM]
  have hmax : max 0 ((d : Int) - 4 + 1) = (a : Int) := by unfold imA at ha; omega
  have hmin : (if (3 : Int) < (d : Int) then (3 : Int) else (d : Int)) = (M : Int) := by split at hM <;> split <;> omega
  have hMd : M ≤ d := by split at hM <;> omega
  have hM3 : M ≤ 3 := by split at hM <;> omega
  have haM : a ≤ M := by unfold imA at ha; split at hM <;> omega
  have hres : imDia 4 d = if d % 2 = 0 then (imRow 4 d a (M + 1 - a)).reverse else imRow 4 d a (M + 1 - a) := by unfold imDia; rw [hK, ← ha]
  obtain ⟨R, hR⟩ : ∃ R, R = imDia 4 d := ⟨_, rfl⟩
  rw [← hR] at hres ⊢
  have HR := Lib.hid hres
  clear ha hM hK hres hR
  go_enter Try.func51, Try.ntmps51
  go_wp2
  go_loopw [5, 6] (fun v x wr => ∃ X : Nat, a ≤ X ∧ X ≤ M + 1 ∧ x = .int .i64 X ∧ wr.ownsRow w.heap.size 3 1 v (X - a) (ivs (imRow 4 d a (X - a))) ∧ Below w.heap.size w wr)
    (fun _ x _ => M + 1 - (intOf x).toNat)
  case atStart => exact ⟨a, Nat.le_refl _, by omega, rfl, by rw [Nat.sub_self]; exact World.ownsRow_nil w w.heap.size 3 1, Below.refl _ _⟩
  case round =>
    obtain ⟨X, haX, hXM, rfl, hown, hbel⟩ := hrel
    by_cases hlt : X ≤ M
    · have b1 : decide ((X : Int) ≤ (M : Int)) = true := by simp; omega
      go_wp2_with (at_builtin; refine append_one wr rfl (.tmp 20) (.tmp 28) 24 rfl w 3 i0 (.int .i64 0) 8 Try.underlying24 hi hz0 hz1 hz2 rfl _ _ _ rfl hown _ rfl rfl rfl (by omega) (by unfold maxLen; omega) hbel ?_; intro v' w' hown' hb')
      go_roundw
      case rel =>
        refine ⟨X + 1, by omega, by omega, by go_num, ?_, hb'⟩
        have e : imStep 4 d X = ((d : Int) - (X : Int)) * 4 + (X : Int) := by unfold imStep; omega
        rw [imRow_next _ _ _ _ haX, e, ivs_append, show X + 1 - a = X - a + 1 by omega]
        exact hown'
      case measure => simp [intOf]; omega
    · have hXe : M + 1 - a = X - a := by omega
      rw [hXe] at HR
      have b1 : decide ((X : Int) ≤ (M : Int)) = false := by simp; omega
      have hlen := imRow_len 4 d a (X - a)
      obtain ⟨r, hr⟩ : ∃ r, r = imRow 4 d a (X - a) := ⟨_, rfl⟩
      rw [← hr] at hown hlen
      obtain ⟨A, c, rfl, ho⟩ := own_slice hown
      have O1 := Lib.hid ho; have B1 := Lib.hid hbel
      clear hown ho hbel
      have HR2 := HR.out
      rw [← hr] at HR2
      have hrl : r.length ≤ 8 := by omega
      clear hr hlen hmax hXe
      by_cases hev : d % 2 = 0
      · have b2 : ((d : Int) % 2 == 0) = true := by rw [beq_iff_eq]; omega
        rw [if_pos hev] at HR2
        have HR3 := Lib.hid HR2
        clear hev HR2
        go_wp2_with fail
        refine (RV.out _ _ _ _ (by omega) _ O1.out).mono ?_
        rintro e w' ⟨rfl, ho', hg'⟩
        have O2 := Lib.hid ho'
        have B2 := Lib.hid (B1.out.trans (O1.out.marked hg' (B := w.heap.size) (Nat.le_refl _) B1.out.size))
        clear ho' hg'
        go_wp2
        go_ret
        rw [HR3.out, List.length_reverse]
        exact ⟨_, _, rfl, O2.out, B2.out⟩
      · have b2 : ((d : Int) % 2 == 0) = false := by rw [beq_eq_false_iff_ne]; omega
        rw [if_neg hev] at HR2
        have HR3 := Lib.hid HR2
        clear hev HR2
        go_wp2
        go_ret
        rw [HR3.out]
        exact ⟨_, _, rfl, O1.out, B1.out⟩

set_option maxRecDepth 100000 in
set_option maxHeartbeats 2000000 in
theorem impl_scan_4 (w : World) :
    Calls Try.prog 30 #[.int .i64 4] w fun e w' => ∃ A c, e = .returned (.slice A (scTab 4 7).length c) ∧ OwnI w' w.heap.size A c (scTab 4 7) ∧ Below w.heap.size w w' := by
  obtain ⟨i0, hi, hz0, hz1, hz2⟩ := info_parts Try.iinfo
  have SZ := Lib.hid (impl_sizeok_any 4)
  rw [show okN 4 = true from rfl] at SZ
  have DI := Lib.hid diagonal_4
  have hmk : ∀ w, (Instr.makeSlice 24 (.int .i64 0) (.int .i64 16)).run Try.prog w = .ok (.slice (some ⟨w.heap.size, 0, none⟩) 0 16) (w.alloc (.cells (ivs (List.replicate 16 0)).toArray 3)) := fun _ => by kernel_rfl
  have O0 := Lib.hid (World.ownsRow_made w (e := 3) (base := w.heap.size) (size := 1) (ivs (List.replicate 16 0)).toArray 16 (Nat.le_refl _) (by simp [maxLen]) (by simp [ivs]))
  have B0 := Lib.hid ((Below.refl w.heap.size w).alloc (Nat.le_refl _) (.cells (ivs (List.replicate 16 0)).toArray 3))
  go_enter Try.func30, Try.ntmps30
  go_wp2_with fail
  refine (SZ.out _).mono ?_
  rintro e w1 ⟨rfl, hw⟩
  subst hw
  go_wp2
  clear hmk
  go_loopw [3, 4, 15] (fun v x i wr => ∃ d p : Nat, d ≤ 7 ∧ i = .int .i64 d ∧ p = (scTab 4 d).length ∧ wr.ownsRow w.heap.size 3 1 v p (ivs (scTab 4 d)) ∧ Below w.heap.size w wr)
    (fun _ _ i _ => 7 - (intOf i).toNat)
  case atStart => exact ⟨0, 0, by omega, rfl, rfl, O0.out, B0.out⟩
  case round =>
    obtain ⟨d, p, hd, rfl, hp, hown, hbel⟩ := hrel
    by_cases hlt : d < 7
    · have b1 : decide ((d : Int) < 7) = true := by simp; omega
      have hpl := scTab_len 4 d
      have hpp : p ≤ 225 := by
        have : d * d ≤ 14 * 14 := Nat.mul_le_mul (by omega) (by omega)
        omega
      obtain ⟨T, hT⟩ : ∃ T, T = scTab 4 d := ⟨_, rfl⟩
      rw [← hT] at hown hp
      have HT := Lib.hid hT; have HP := Lib.hid hp; have O1 := Lib.hid hown; have B1 := Lib.hid hbel
      have hlt2 := hlt
      clear hT hp hpl hown hbel
      go_wp2_with fail
      refine (DI.out d hlt _).mono ?_
      rintro e w2 ⟨A, c, rfl, ho, hb⟩
      have hdl : (imDia 4 d).length ≤ 15 := by rw [imDia_4 d hlt]; have := scDia_len 4 d (d + 1); omega
      have O2 := own_keep O1.out (hb.mono (by exact Nat.le_refl _))
      have B2 := below_up B1.out hb B1.out.size
      have I2 := ho.ints (by omega)
      have P2 := ho.placed
      have HD := Lib.hid (imDia_4 d hlt)
      obtain ⟨D, hD⟩ : ∃ D, D = imDia 4 d := ⟨_, rfl⟩
      rw [← hD] at HD I2 hdl ⊢
      obtain ⟨m, hm⟩ : ∃ m, m = D.length := ⟨_, rfl⟩
      rw [← hm] at hdl ⊢
      have HM := Lib.hid hm
      clear hm hD ho hb
      go_wp2_with (at_builtin; refine append_ints rfl (.tmp 18) (.tmp 21) 24 rfl w i0 Try.underlying24 hi hz0 hz1 hz2 _ _ _ rfl O2 _ _ _ _ HM.out rfl _ I2 P2 (by omega) B2 ?_; intro v' w3 hown3 hb3)
      go_roundw
      case rel => exact ⟨d + 1, p + m, by omega, by go_num, by rw [scTab, ← HT.out, List.length_append, ← HP.out, ← HD.out, HM.out], by rw [scTab, ← HT.out, ← HD.out]; exact hown3, hb3⟩
      case measure => simp [intOf]; omega
    · obtain rfl : d = 7 := by omega
      obtain ⟨A, c, rfl, ho⟩ := own_slice hown
      have O1 := Lib.hid ho; have B1 := Lib.hid hbel
      clear hp hown ho hbel
      go_wp2
      go_ret
      exact ⟨_, _, rfl, O1.out, B1.out⟩

set_option maxRecDepth 100000 in
set_option maxHeartbeats 2000000 in
theorem diagonal_8 (d : Nat) (hd : d < 15) (w : World) :
    Calls Try.prog 51 #[.int .i64 8, .int .i64 d] w fun e w' => ∃ A c, e = .returned (.slice A (imDia 8 d).length c) ∧ OwnI w' w.heap.size A c (imDia 8 d) ∧ Below w.heap.size w w' := by
  obtain ⟨i0, hi, hz0, hz1, hz2⟩ := info_parts Try.iinfo
  have RV := Lib.hid reverse_own
  obtain ⟨a, ha⟩ : ∃ a, a = imA 8 d := ⟨_, rfl⟩
  obtain ⟨M, hM⟩ : ∃ M, M = (if d < 8 - 1 then d else 8 - 1) := ⟨_, rfl⟩
  have hK : imK 8 d = M + 1 - a := by unfold imK; rw [← ha, hM]
  have hmax : max 0 ((d : Int) - 8 + 1) = (a : Int) := by unfold imA at ha; omega
  have hmin : (if (7 : Int) < (d : Int) then (7 : Int) else (d : Int)) = (M : Int) := by split at hM <;> split <;> omega
  have hMd : M ≤ d := by split at hM <;> omega
  have hM3 : M ≤ 7 := by split at hM <;> omega
  have haM : a ≤ M := by unfold imA at ha; split at hM <;> omega
  have hres : imDia 8 d = if d % 2 = 0 then (imRow 8 d a (M + 1 - a)).reverse else imRow 8 d a (M + 1 - a) := by unfold imDia; rw [hK, ← ha]
  obtain ⟨R, hR⟩ : ∃ R, R = imDia 8 d := ⟨_, rfl⟩
  rw [← hR] at hres ⊢
  have HR := Lib.hid hres
  clear ha hM hK hres hR
  go_enter Try.func51, Try.ntmps51
  go_wp2
  go_loopw [5, 6] (fun v x wr => ∃ X : Nat, a ≤ X ∧ X ≤ M + 1 ∧ x = .int .i64 X ∧ wr.ownsRow w.heap.size 3 1 v (X - a) (ivs (imRow 8 d a (X - a))) ∧ Below w.heap.size w wr)
    (fun _ x _ => M + 1 - (intOf x).toNat)
  case atStart => exact ⟨a, Nat.le_refl _, by omega, rfl, by rw [Nat.sub_self]; exact World.ownsRow_nil w w.heap.size 3 1, Below.refl _ _⟩
  case round =>
    obtain ⟨X, haX, hXM, rfl, hown, hbel⟩ := hrel
    by_cases hlt : X ≤ M
    · have b1 : decide ((X : Int) ≤ (M : Int)) = true := by simp; omega
      go_wp2_with (at_builtin; refine append_one wr rfl (.tmp 20) (.tmp 28) 24 rfl w 3 i0 (.int .i64 0) 8 Try.underlying24 hi hz0 hz1 hz2 rfl _ _ _ rfl hown _ rfl rfl rfl (by omega) (by unfold maxLen; omega) hbel ?_; intro v' w' hown' hb')
      go_roundw
      case rel =>
        refine ⟨X + 1, by omega, by omega, by go_num, ?_, hb'⟩
        have e : imStep 8 d X = ((d : Int) - (X : Int)) * 8 + (X : Int) := by unfold imStep; omega
        rw [imRow_next _ _ _ _ haX, e, ivs_append, show X + 1 - a = X - a + 1 by omega]
        exact hown'
      case measure => simp [intOf]; omega
    · have hXe : M + 1 - a = X - a := by omega
      rw [hXe] at HR
      have b1 : decide ((X : Int) ≤ (M : Int)) = false := by simp; omega
      have hlen := imRow_len 8 d a (X - a)
      obtain ⟨r, hr⟩ : ∃ r, r = imRow 8 d a (X - a) := ⟨_, rfl⟩
      rw [← hr] at hown hlen
      obtain ⟨A, c, rfl, ho⟩ := own_slice hown
      have O1 := Lib.hid ho; have B1 := Lib.hid hbel
      clear hown ho hbel
      have HR2 := HR.out
      rw [← hr] at HR2
      have hrl : r.length ≤ 8 := by omega
      clear hr hlen hmax hXe
      by_cases hev : d % 2 = 0
      · have b2 : ((d : Int) % 2 == 0) = true := by rw [beq_iff_eq]; omega
        rw [if_pos hev] at HR2
        have HR3 := Lib.hid HR2
        clear hev HR2
        go_wp2_with fail
        refine (RV.out _ _ _ _ (by omega) _ O1.out).mono ?_
        rintro e w' ⟨rfl, ho', hg'⟩
        have O2 := Lib.hid ho'
        have B2 := Lib.hid (B1.out.trans (O1.out.marked hg' (B := w.heap.size) (Nat.le_refl _) B1.out.size))
        clear ho' hg'
        go_wp2
        go_ret
        rw [HR3.out, List.length_reverse]
        exact ⟨_, _, rfl, O2.out, B2.out⟩
      · have b2 : ((d : Int) % 2 == 0) = false := by rw [beq_eq_false_iff_ne]; omega
        rw [if_neg hev] at HR2
        have HR3 := Lib.hid HR2
        clear hev HR2
        go_wp2
        go_ret
        rw [HR3.out]
        exact ⟨_, _, rfl, O1.out, B1.out⟩

set_option maxRecDepth 100000 in
set_option maxHeartbeats 2000000 in
theorem impl_scan_8 (w : World) :
    Calls Try.prog 30 #[.int .i64 8] w fun e w' => ∃ A c, e = .returned (.slice A (scTab 8 15).length c) ∧ OwnI w' w.heap.size A c (scTab 8 15) ∧ Below w.heap.size w w' := by
  obtain ⟨i0, hi, hz0, hz1, hz2⟩ := info_parts Try.iinfo
  have SZ := Lib.hid (impl_sizeok_any 8)
  rw [show okN 8 = true from rfl] at SZ
  have DI := Lib.hid diagonal_8
  have hmk : ∀ w, (Instr.makeSlice 24 (.int .i64 0) (.int .i64 64)).run Try.prog w = .ok (.slice (some ⟨w.heap.size, 0, none⟩) 0 64) (w.alloc (.cells (ivs (List.replicate 64 0)).toArray 3)) := fun _ => by kernel_rfl
  have O0 := Lib.hid (World.ownsRow_made w (e := 3) (base := w.heap.size) (size := 1) (ivs (List.replicate 64 0)).toArray 64 (Nat.le_refl _) (by simp [maxLen]) (by simp [ivs]))
  have B0 := Lib.hid ((Below.refl w.heap.size w).alloc (Nat.le_refl _) (.cells (ivs (List.replicate 64 0)).toArray 3))
  go_enter Try.func30, Try.ntmps30
  go_wp2_with fail
  refine (SZ.out _).mono ?_
  rintro e w1 ⟨rfl, hw⟩
  subst hw
  go_wp2
  clear hmk
  go_loopw [3, 4, 15] (fun v x i wr => ∃ d p : Nat, d ≤ 15 ∧ i = .int .i64 d ∧ p = (scTab 8 d).length ∧ wr.ownsRow w.heap.size 3 1 v p (ivs (scTab 8 d)) ∧ Below w.heap.size w wr)
    (fun _ _ i _ => 15 - (intOf i).toNat)
  case atStart => exact ⟨0, 0, by omega, rfl, rfl, O0.out, B0.out⟩
  case round =>
    obtain ⟨d, p, hd, rfl, hp, hown, hbel⟩ := hrel
    by_cases hlt : d < 15
    · have b1 : decide ((d : Int) < 15) = true := by simp; omega
      have hpl := scTab_len 8 d
      have hpp : p ≤ 225 := by
        have : d * d ≤ 14 * 14 := Nat.mul_le_mul (by omega) (by omega)
        omega
      obtain ⟨T, hT⟩ : ∃ T, T = scTab 8 d := ⟨_, rfl⟩
      rw [← hT] at hown hp
      have HT := Lib.hid hT; have HP := Lib.hid hp; have O1 := Lib.hid hown; have B1 := Lib.hid hbel
      have hlt2 := hlt
      clear hT hp hpl hown hbel
      go_wp2_with fail
      refine (DI.out d hlt _).mono ?_
      rintro e w2 ⟨A, c, rfl, ho, hb⟩
      have hdl : (imDia 8 d).length ≤ 15 := by rw [imDia_8 d hlt]; have := scDia_len 8 d (d + 1); omega
      have O2 := own_keep O1.out (hb.mono (by exact Nat.le_refl _))
      have B2 := below_up B1.out hb B1.out.size
      have I2 := ho.ints (by omega)
      have P2 := ho.placed
      have HD := Lib.hid (imDia_8 d hlt)
      obtain ⟨D, hD⟩ : ∃ D, D = imDia 8 d := ⟨_, rfl⟩
      rw [← hD] at HD I2 hdl ⊢
      obtain ⟨m, hm⟩ : ∃ m, m = D.length := ⟨_, rfl⟩
      rw [← hm] at hdl ⊢
      have HM := Lib.hid hm
      clear hm hD ho hb
      go_wp2_with (at_builtin; refine append_ints rfl (.tmp 18) (.tmp 21) 24 rfl w i0 Try.underlying24 hi hz0 hz1 hz2 _ _ _ rfl O2 _ _ _ _ HM.out rfl _ I2 P2 (by omega) B2 ?_; intro v' w3 hown3 hb3)
      go_roundw
      case rel => exact ⟨d + 1, p + m, by omega, by go_num, by rw [scTab, ← HT.out, List.length_append, ← HP.out, ← HD.out, HM.out], by rw [scTab, ← HT.out, ← HD.out]; exact hown3, hb3⟩
      case measure => simp [intOf]; omega
    · obtain rfl : d = 15 := by omega
      obtain ⟨A, c, rfl, ho⟩ := own_slice hown
      have O1 := Lib.hid ho; have B1 := Lib.hid hbel
      clear hp hown ho hbel
      go_wp2
      go_ret
      exact ⟨_, _, rfl, O1.out, B1.out⟩

set_option maxRecDepth 100000 in
set_option maxHeartbeats 1000000 in
theorem impl_scan_any (n : Int) (hn : (Lit.int .i64 n).wf = true) (w : World) :
    Calls Try.prog 30 #[.int .i64 n] w fun e w' => ∃ A c, e = .returned (.slice A (scanL n).length c) ∧ OwnI w' w.heap.size A c (scanL n) ∧ Below w.heap.size w w' := by
  cases hok : okN n with
  | false =>
    rw [scanL_bad hok]
    have SZ := Lib.hid (impl_sizeok_any n)
    rw [hok] at SZ
    clear hok hn
    go_enter Try.func30, Try.ntmps30
    go_wp2_with fail
    refine (SZ.out _).mono ?_
    rintro e w1 ⟨rfl, hw⟩
    subst hw
    go_wp2
    go_ret
    exact ⟨_, _, rfl, own_none _ _, Below.refl _ _⟩
  | true =>
    rcases okN_cases hok with rfl | rfl
    · exact impl_scan_4 w
    · exact impl_scan_8 w
end Go.Proofs.Ytgihpckibdnghaa
