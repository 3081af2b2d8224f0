/-
  The law on numbers: its cases joined. Condition: the library's table and its two errors read as Go lays them (the card ties them).
-/
import Derived.Test.YtbpghjnkjakhnaaDoorNumbersB
namespace Go.Proofs.YtbpghjnkjakhnaaDoor
open Go.RowKit
set_option linter.unusedVariables false

theorem ne_facts (S : ByteArray) (l : List UInt8) (h : S = bs l) (hl : l ≠ []) :
    S.toList.isEmpty = false ∧ (S.toList == ({ data := #[] } : ByteArray).toList) = false ∧ (S.toList == []) = false ∧ ¬ S.toList = [] := by
  have e0 : ({ data := #[] } : ByteArray).toList = [] := by simp
  have e : S.toList = l := by rw [h, bs_toList]
  rw [e0, e]
  refine ⟨?_, ?_, ?_, hl⟩
  · cases l with
    | nil => exact absurd rfl hl
    | cons x y => rfl
  · rw [beq_eq_false_iff_ne]; exact hl
  · rw [beq_eq_false_iff_ne]; exact hl
theorem em_facts (S : ByteArray) (h : S = bs []) :
    S.toList.isEmpty = true ∧ (S.toList == ({ data := #[] } : ByteArray).toList) = true ∧ (S.toList == []) = true ∧ S.toList = [] := by
  have e0 : ({ data := #[] } : ByteArray).toList = [] := by simp
  have e : S.toList = [] := by rw [h, bs_toList]
  rw [e0, e]
  exact ⟨rfl, rfl, rfl, rfl⟩
theorem varS_in (n : Int) (h0 : 0 ≤ n) (h1 : n ≤ 562949953421311) : varS n = bs (varL n.toNat) := by rw [varS, if_pos ⟨h0, h1⟩]
theorem varS_out (n : Int) (h : n < 0 ∨ 562949953421311 < n) : varS n = bs [] := by rw [varS, if_neg (by omega)]
theorem fixS7_size (n : Int) : (fixS n 7).size ≤ 7 := by
  by_cases h : 0 ≤ n ∧ n < 72057594037927936
  · rw [fix7 n h.1 h.2, bs_size, beL_len]; exact Nat.le_refl _
  · rw [fix7_no n (by omega), bs_size]; simp

set_option maxRecDepth 100000 in
set_option maxHeartbeats 800000 in
theorem numbers_all (a : Option Addr) (cap : Nat) (ys : List Int) (w : World) (hW : Code w a ys) (hL : LibVars w) :
    Calls Tryd.prog 3 #[.slice a ys.length cap] w fun e w' => e = .returned (.bool true) ∧ Below w.heap.size w w' := by
  obtain ⟨n, hn0, hn1, CV⟩ := drawVar_det a cap ys
  obtain ⟨tl, htl, CH⟩ := drawHex_det a cap ys
  obtain ⟨R, hR, CR⟩ := drawReadVar_det a cap ys
  have hbig : decide (1048576 < (ys.length : Int)) = false := by have := hW.few; simp; omega
  have BIG := Lib.hid (big_any a ys.length cap (by have := hW.few; omega))
  have HCV := Lib.hid CV; clear CV
  have HCH := Lib.hid CH; clear CH
  have HCR := Lib.hid CR; clear CR
  have hsS := varS_size n
  have hsB : (bs tl).size ≤ 40 := by rw [bs_size]; exact htl
  have hsT := fixS7_size n
  have hds : (Lib.itoa n).length ≤ 21 := by
    have h1 := itoa_len n
    have h2 := decDigits_len n.natAbs (by omega)
    omega
  have V := Lib.hid (impl_var_any n)
  have RV := Lib.hid (impl_rdvar_any (varS n ++ bs tl) (by rw [ByteArray.size_append]; omega))
  have F := Lib.hid (impl_fixed_any n 7 hn1)
  have RF := Lib.hid (impl_rdfix_any (fixS n 7 ++ bs tl) 7 (by rw [ByteArray.size_append]; omega))
  have DC : Hid (∀ w, LibVars w → Calls Tryd.prog 14 #[.int .i64 n] w fun e w' => e = .returned (.string (bs (Lib.itoa n))) ∧ Below w.heap.size w w') :=
    Lib.hid fun w hv => impl_dec_any n hn0 hn1 w hv.tab
  have RD : Hid (∀ w, LibVars w → Calls Tryd.prog 13 #[.string (bs (Lib.itoa n))] w fun e w' => e = .returned (.tuple #[.int .i64 (rdN (Lib.itoa n)), .bool (rdB (Lib.itoa n))]) ∧ Below w.heap.size w w') :=
    Lib.hid fun w hv => impl_rddec_lib (bs (Lib.itoa n)) (by rw [bs_size]; omega) w hv
  have HE : Hid (∀ w, Calls Tryd.prog 16 #[.string (bs tl)] w fun e w' => e = .returned (.string (bs (hexL tl))) ∧ Below w.heap.size w w') :=
    Lib.hid fun w => impl_hex_any (bs tl) (by omega) w
  have UH : Hid (∀ w, Calls Tryd.prog 15 #[.string (bs (hexL tl))] w fun e w' => e = .returned (.tuple #[.string (bs tl), .bool true]) ∧ Below w.heap.size w w') :=
    Lib.hid fun w => by
      have h := impl_unhex_any (bs (hexL tl)) (by rw [bs_size, hexL_len]; omega) w
      have e : (bs (hexL tl)).data.toList = hexL tl := rfl
      rw [e, (un_hex tl).1, (un_hex tl).2] at h
      exact h
  obtain ⟨z, hz⟩ : ∃ z, z = rvN R.data.toList := ⟨_, rfl⟩
  obtain ⟨j, hj⟩ : ∃ j, j = rvK R.data.toList := ⟨_, rfl⟩
  have RZ := Lib.hid (impl_rdvar_any R (by omega))
  rw [← hz, ← hj] at RZ
  have hRl : R.data.toList.length = R.size := by simp
  have VZ : j ≠ 0 → j ≤ R.size ∧ Hid (∀ w, Calls Tryd.prog 9 #[.int .i64 (z : Int)] w fun e w' => e = .returned (.string (bs (R.data.toList.take j))) ∧ Below w.heap.size w w') := fun hne => by
    obtain ⟨h1, h2⟩ := rv_hit R.data.toList (by omega)
    refine ⟨by omega, Lib.hid fun w => ?_⟩
    have h := impl_var_any (z : Int) w
    have hle := rvN_le R.data.toList
    rw [varS_in (z : Int) (by omega) (by omega), show (z : Int).toNat = z by omega, hz, h2, ← hj] at h
    rw [hz]
    exact h
  clear hz hj
  by_cases hneg : n < 0
  · obtain ⟨s1, s2, s3, s4⟩ := em_facts (varS n) (varS_out n (by omega))
    obtain ⟨t1, t2, t3, t4⟩ := em_facts (fixS n 7) (fix7_no n (by omega))
    by_cases hf : -1000000000 < n
    · obtain ⟨r1, r2⟩ := rd_small n (by omega) (by omega)
      rw [r1, r2] at RD
      by_cases hj0 : j = 0
      · exact numbers_Dtzero a cap ys w hW hL _ rfl n _ _ _ _ _ R z j _ _ _ _ hbig BIG HCV HCH HCR V RV F RF DC RD HE UH RZ hsS hsB hsT hR hneg s1 s2 s3 s4 t1 t2 t3 t4 hf (by omega) hj0
      · exact numbers_Dthit a cap ys w hW hL _ rfl n _ _ _ _ _ R z j _ _ _ _ hbig BIG HCV HCH HCR V RV F RF DC RD HE UH RZ (VZ hj0).2 hsS hsB hsT hR hneg s1 s2 s3 s4 t1 t2 t3 t4 hf (by omega) (by omega) (VZ hj0).1
    · rw [rd_big n (by omega)] at RD
      by_cases hj0 : j = 0
      · exact numbers_Dfzero a cap ys w hW hL _ rfl n _ _ _ _ _ R z j _ _ _ _ _ hbig BIG HCV HCH HCR V RV F RF DC RD HE UH RZ hsS hsB hsT hR hneg s1 s2 s3 s4 t1 t2 t3 t4 (by omega) hj0
      · exact numbers_Dfhit a cap ys w hW hL _ rfl n _ _ _ _ _ R z j _ _ _ _ _ hbig BIG HCV HCH HCR V RV F RF DC RD HE UH RZ (VZ hj0).2 hsS hsB hsT hR hneg s1 s2 s3 s4 t1 t2 t3 t4 (by omega) (by omega) (VZ hj0).1
  · by_cases hmax : n ≤ 562949953421311
    · have hS := varS_in n (by omega) hmax
      have hT := fix7 n (by omega) (by omega)
      obtain ⟨s1, s2, s3, s4⟩ := ne_facts (varS n) _ hS (lebL_ne 6 _)
      obtain ⟨t1, t2, t3, t4⟩ := ne_facts (fixS n 7) _ hT (fun e => by have := beL_len 7 n.toNat; rw [e] at this; simp at this)
      have tz : ((fixS n 7).size : Int) = 7 := by rw [hT, bs_size, beL_len]; rfl
      obtain ⟨e1, e2⟩ := rv_tail n.toNat (by omega) tl
      have eV : (varS n ++ bs tl).data.toList = varL n.toNat ++ tl := by rw [hS, bs_append]; rfl
      have eS : (varS n).size = (varL n.toNat).length := by rw [hS, bs_size]
      rw [eV, e1, e2, ← eS, show ((n.toNat : Nat) : Int) = n by omega] at RV
      obtain ⟨f1, f2⟩ := rdf_tail n.toNat (by omega) tl
      have eF : fixS n 7 ++ bs tl = bs (beL 7 n.toNat) ++ bs tl := by rw [hT]
      rw [← eF, show ((n.toNat : Nat) : Int) = n by omega] at f1
      rw [← eF] at f2
      rw [f1, f2] at RF
      by_cases hf : n < 1000000000
      · obtain ⟨r1, r2⟩ := rd_small n (by omega) (by omega)
        rw [r1, r2] at RD
        by_cases hj0 : j = 0
        · exact numbers_Atzero a cap ys w hW hL _ rfl n _ _ _ _ _ R z j hbig BIG HCV HCH HCR V RV F RF DC RD HE UH RZ hsS hsB hsT hR (by omega) hmax s1 s2 s3 s4 t1 t2 t3 t4 tz (by omega) hf hj0
        · exact numbers_Athit a cap ys w hW hL _ rfl n _ _ _ _ _ R z j hbig BIG HCV HCH HCR V RV F RF DC RD HE UH RZ (VZ hj0).2 hsS hsB hsT hR (by omega) hmax s1 s2 s3 s4 t1 t2 t3 t4 tz (by omega) hf (by omega) (VZ hj0).1
      · rw [rd_big n (by omega)] at RD
        by_cases hj0 : j = 0
        · exact numbers_Agzero a cap ys w hW hL _ rfl n _ _ _ _ _ R z j _ hbig BIG HCV HCH HCR V RV F RF DC RD HE UH RZ hsS hsB hsT hR (by omega) hmax s1 s2 s3 s4 t1 t2 t3 t4 tz (by omega) hj0
        · exact numbers_Aghit a cap ys w hW hL _ rfl n _ _ _ _ _ R z j _ hbig BIG HCV HCH HCR V RV F RF DC RD HE UH RZ (VZ hj0).2 hsS hsB hsT hR (by omega) hmax s1 s2 s3 s4 t1 t2 t3 t4 tz (by omega) (by omega) (VZ hj0).1
    · obtain ⟨s1, s2, s3, s4⟩ := em_facts (varS n) (varS_out n (by omega))
      rw [rd_big n (by omega)] at RD
      by_cases hfix : n < 72057594037927936
      · have hT := fix7 n (by omega) hfix
        obtain ⟨t1, t2, t3, t4⟩ := ne_facts (fixS n 7) _ hT (fun e => by have := beL_len 7 n.toNat; rw [e] at this; simp at this)
        have tz : ((fixS n 7).size : Int) = 7 := by rw [hT, bs_size, beL_len]; rfl
        obtain ⟨f1, f2⟩ := rdf_tail n.toNat (by omega) tl
        have eF : fixS n 7 ++ bs tl = bs (beL 7 n.toNat) ++ bs tl := by rw [hT]
        rw [← eF, show ((n.toNat : Nat) : Int) = n by omega] at f1
        rw [← eF] at f2
        rw [f1, f2] at RF
        by_cases hj0 : j = 0
        · exact numbers_Bgzero a cap ys w hW hL _ rfl n _ _ _ _ _ R z j _ _ _ hbig BIG HCV HCH HCR V RV F RF DC RD HE UH RZ hsS hsB hsT hR (by omega) hfix s1 s2 s3 s4 t1 t2 t3 t4 tz (by omega) hj0
        · exact numbers_Bghit a cap ys w hW hL _ rfl n _ _ _ _ _ R z j _ _ _ hbig BIG HCV HCH HCR V RV F RF DC RD HE UH RZ (VZ hj0).2 hsS hsB hsT hR (by omega) hfix s1 s2 s3 s4 t1 t2 t3 t4 tz (by omega) (by omega) (VZ hj0).1
      · obtain ⟨t1, t2, t3, t4⟩ := em_facts (fixS n 7) (fix7_no n (by omega))
        by_cases hj0 : j = 0
        · exact numbers_Cgzero a cap ys w hW hL _ rfl n _ _ _ _ _ R z j _ _ _ _ _ hbig BIG HCV HCH HCR V RV F RF DC RD HE UH RZ hsS hsB hsT hR (by omega) s1 s2 s3 s4 t1 t2 t3 t4 (by omega) hj0
        · exact numbers_Cghit a cap ys w hW hL _ rfl n _ _ _ _ _ R z j _ _ _ _ _ hbig BIG HCV HCH HCR V RV F RF DC RD HE UH RZ (VZ hj0).2 hsS hsB hsT hR (by omega) s1 s2 s3 s4 t1 t2 t3 t4 (by omega) (by omega) (VZ hj0).1

set_option maxRecDepth 100000 in
set_option maxHeartbeats 400000 in
/-- The law's own walk. -/
theorem fnNumbers_walk (a : Option Addr) (len cap : Nat) (zs : List Int) (w : World) (h : IsRow .u8 w a len cap zs) (hL : laidMetH Tryd.prog Rows.fnNumbersRow.laid w) :
    Calls Tryd.prog 3 #[.slice a len cap] w fun e w' => e = .returned (.bool true) ∧ Below w.heap.size w w' := by
  rw [MakeChecks.laidMetH_plain _ _ _ (by kernel_rfl)] at hL
  have hv : LibVars w := libVars_of hL
  clear hL
  have hlen := h.len_le
  unfold maxLen at hlen
  by_cases hbig : 1048576 < len
  · have hd : decide (1048576 < (len : Int)) = true := by simp; omega
    have BIG := Lib.hid (big_any a len cap hlen)
    clear h hv
    go_enter Tryd.func3, Tryd.ntmps3
    go_wp2_with fail
    refine (BIG.out _).mono ?_
    rintro e w1 ⟨rfl, rfl⟩
    go_wp2
    go_ret
    exact ⟨rfl, Below.refl _ _⟩
  · obtain ⟨ys, rfl, hW⟩ := code_of h (by omega)
    exact numbers_all a cap ys w hW hv
end Go.Proofs.YtbpghjnkjakhnaaDoor
