/-
  The walk of the law FnFlat. No condition.
-/
import Derived.Test.YtjgbenhjafgimaaFpL
import Derived.Test.YtjgbenhjafgimaaFlP
import Derived.Test.YtjgbenhjafgimaaPdM
import Derived.Test.YtjgbenhjafgimaaK7
import Derived.RegionTactic
import Derived.BigRegion
import Derived.BigQuiet
import Derived.Deep.QuietTactic
import Derived.Deep.Cut
import Derived.Deep.DeepCutAuto
import Derived.Deep.RegionHeld3
namespace Go.Proofs.Ytjgbenhjafgimaa
open Go.RowKit
set_option linter.unusedVariables false

theorem below_gr {w0 w w' : World} {B : Nat} {r : Option Nat} (h : Below B w0 w) (hg : w.grownBy w' r) (hr : ∀ k, r = some k → B ≤ k) (hB : B ≤ w.heap.size) : Below B w0 w' :=
  ⟨hg.os.trans h.os, hg.tape.trans h.tape, hg.output.trans h.output, Nat.le_trans h.size hg.size, fun k hk => (hg.block k (by omega) (fun e => by have := hr k e.symm; omega)).trans (h.block k hk)⟩
theorem row_ne {w w' : World} {base : Nat} {e : TypeId} {size : Nat} {v : Value} {n : Nat} {xs : List Value} {r : Option Nat} (h : w.ownsRow base e size v n xs) (hg : w.grownBy w' r) (hne : ∀ k, v.ownBlock = some k → r ≠ some k) : w'.ownsRow base e size v n xs := by
  refine World.ownsRow.kept h hg ?_
  cases hv : v.ownBlock with
  | none => exact .inl rfl
  | some k => exact .inr (fun e => hne k hv e.symm)
theorem rep_snoc (j : Nat) (v : Int) : List.replicate j v ++ [v] = List.replicate (j + 1) v := by rw [List.replicate_succ']
theorem rep_at (m : Nat) (v : Int) (i : Nat) (hi : i < m) : (List.replicate m v).getD i 0 = v := by rw [List.getD_eq_getElem?_getD, List.getElem?_replicate, if_pos hi]; rfl

/-- The block of the neighbourhood that is being filled: its rows are one's own, apart from each other. -/
def FlH (w0 : World) (bb : Nat) (v : Int) (vT vL : Value) (j m : Nat) (w : World) : Prop :=
  w.heap[bb]? = some (.cells #[vT, vL, .int .i64 v, .bool true, .bool true] 26 (0, 0)) ∧ w.ownsRow (bb + 1) 3 1 vT j (ivs (List.replicate j v)) ∧ w.ownsRow (bb + 1) 3 1 vL m (ivs (List.replicate m v)) ∧ (∀ k, vT.ownBlock = some k → vL.ownBlock ≠ some k) ∧ Below bb w0 w
theorem FlH.top {w0 w w' : World} {bb j m : Nat} {v : Int} {vT vL v' : Value} (h : FlH w0 bb v vT vL j m w) (ho : w'.ownsRow (bb + 1) 3 1 v' (j + 1) (ivs (List.replicate j v ++ [v]))) (hg : w.grownBy w' vT.ownBlock) (hvb : v'.ownBlock = vT.ownBlock ∨ v'.ownBlock = some (w.heap.size + 1)) :
    w'.heap[bb]? = some (.cells #[vT, vL, .int .i64 v, .bool true, .bool true] 26 (0, 0)) ∧ FlH w0 bb v v' vL (j + 1) m (w'.setCell ⟨bb, 0, none⟩ v') := by
  obtain ⟨hK, hT, hL, hne, hb⟩ := h
  have hbl := heap_lt hK
  have hTb : ∀ k, vT.ownBlock = some k → bb + 1 ≤ k := fun k hk => (hT.lt k hk).1
  have K2 := (hg.block bb hbl (fun e => by have := hTb _ e.symm; omega)).trans hK
  have L2 := row_ne hL hg (fun k hk e => hne k e hk)
  have B2 := below_gr hb hg (fun k hk => by have := hTb k hk; omega) (by omega)
  rw [rep_snoc] at ho
  have G3 := grown_cell w' bb 0 v'
  refine ⟨K2, heap_setCell_same w' bb 0 _ _ v' K2, row_ne ho G3 (fun k hk e => by have := (ho.lt k hk).1; simp only [Option.some.injEq] at e; omega), row_ne L2 G3 (fun k hk e => by have := (L2.lt k hk).1; simp only [Option.some.injEq] at e; omega), fun k hk e => ?_, B2.setCell (p := ⟨bb, 0, none⟩) (Nat.le_refl _) _⟩
  rcases hvb with hv | hv
  · rw [hv] at hk; exact hne k hk e
  · rw [hv] at hk; have := (hL.lt k e).2; simp only [Option.some.injEq] at hk; omega
theorem FlH.left {w0 w w' : World} {bb j m : Nat} {v : Int} {vT vL v' : Value} (h : FlH w0 bb v vT vL j m w) (ho : w'.ownsRow (bb + 1) 3 1 v' (m + 1) (ivs (List.replicate m v ++ [v]))) (hg : w.grownBy w' vL.ownBlock) (hvb : v'.ownBlock = vL.ownBlock ∨ v'.ownBlock = some (w.heap.size + 1)) :
    w'.heap[bb]? = some (.cells #[vT, vL, .int .i64 v, .bool true, .bool true] 26 (0, 0)) ∧ FlH w0 bb v vT v' j (m + 1) (w'.setCell ⟨bb, 1, none⟩ v') := by
  obtain ⟨hK, hT, hL, hne, hb⟩ := h
  have hbl := heap_lt hK
  have hLb : ∀ k, vL.ownBlock = some k → bb + 1 ≤ k := fun k hk => (hL.lt k hk).1
  have K2 := (hg.block bb hbl (fun e => by have := hLb _ e.symm; omega)).trans hK
  have T2 := row_ne hT hg (fun k hk e => hne k hk e)
  have B2 := below_gr hb hg (fun k hk => by have := hLb k hk; omega) (by omega)
  rw [rep_snoc] at ho
  have G3 := grown_cell w' bb 1 v'
  refine ⟨K2, heap_setCell_same w' bb 1 _ _ v' K2, row_ne T2 G3 (fun k hk e => by have := (T2.lt k hk).1; simp only [Option.some.injEq] at e; omega), row_ne ho G3 (fun k hk e => by have := (ho.lt k hk).1; simp only [Option.some.injEq] at e; omega), fun k hk e => ?_, B2.setCell (p := ⟨bb, 1, none⟩) (Nat.le_refl _) _⟩
  rcases hvb with hv | hv
  · rw [hv] at e; exact hne k hk e
  · rw [hv] at e; have := (hT.lt k hk).2; simp only [Option.some.injEq] at e; omega

set_option maxRecDepth 100000 in
set_option maxHeartbeats 8000000 in
/-- The law's own walk. -/
theorem fnFlat_walk (a : Option Addr) (len cap : Nat) (zs : List Int) (w : World) (hr : IsRow .u8 w a len cap zs) :
    Calls Try.prog 4 #[.slice a len cap] w fun e w' => e = .returned (.bool true) ∧ Below w.heap.size w w' := by
  obtain ⟨i0, hii, hz0, hz1, hz2⟩ := info_parts Try.iinfo
  have hlm := hr.len_le
  unfold maxLen at hlm
  by_cases hbig : 1048576 < len
  · have BG := Lib.hid (big_any a len cap (by omega))
    have hb : decide (1048576 < (len : Int)) = true := decide_eq_true (by omega)
    rw [hb] at BG
    clear hr hlm hbig hb
    go_enter Try.func4, Try.ntmps4
    go_wp2_with fail
    refine (BG.out _).mono ?_
    rintro e w1 ⟨rfl, hw⟩
    subst hw
    go_wp2
    go_ret
    exact ⟨rfl, Below.refl _ _⟩
  · have hbigF : decide (1048576 < (len : Int)) = false := decide_eq_false (by omega)
    obtain ⟨ys, rfl, hW⟩ := code_of hr (by omega)
    have BG := Lib.hid (big_any a ys.length cap hlm)
    rw [hbigF] at BG
    have HW := Lib.hid hW
    obtain ⟨v, v0, v1, AT0⟩ := at_det a cap ys hW.few 0 (by decide)
    obtain ⟨q, qa, qb, AT1⟩ := at_det a cap ys hW.few 1 (by decide)
    have A0 := Lib.hid (AT0 w hW); have A1 := Lib.hid (AT1 w hW)
    clear AT0 AT1
    clear hr hbig hbigF hlm hW
    go_enter Try.func4, Try.ntmps4
    go_wp2_with fail
    refine (BG.out _).mono ?_
    rintro e w1 ⟨rfl, hw⟩
    subst hw
    go_wp2_with fail
    refine A0.out.mono ?_
    rintro e wa ⟨rfl, hw⟩
    subst hw
    go_wp2_with fail
    refine A1.out.mono ?_
    rintro e wa ⟨rfl, hw⟩
    subst hw
    rcases (show q % 2 = 0 ∨ q % 2 = 1 by omega) with hq | hq
    · have hq2 : q.tmod 2 = 0 := by rw [Int.tmod_eq_emod_of_nonneg qa]; exact hq
      go_wp2
      have O0 : Hid ((w.alloc (.cells #[.slice none 0 0, .slice none 0 0, .int .i64 v, .bool true, .bool true] 26)).ownsRow (w.heap.size + 1) 3 1 (.slice none 0 0) 0 (ivs [])) := Lib.hid (World.ownsRow_nil _ _ _ _)
      have K0 := Lib.hid (heap_alloc_new w (.cells #[.slice none 0 0, .slice none 0 0, .int .i64 v, .bool true, .bool true] 26))
      have B0 := Lib.hid (below_new w (.cells #[.slice none 0 0, .slice none 0 0, .int .i64 v, .bool true, .bool true] 26))
      go_loopw [6] (fun x6 wr => ∃ (j m : Nat) (TA : Option Addr) (cT : Nat) (LA : Option Addr) (cL : Nat), j ≤ 8 ∧ m = min j 4 ∧ x6 = .int .i64 j ∧ FlH w w.heap.size v (.slice TA j cT) (.slice LA m cL) j m wr) (fun x6 _ => 8 - (intOf x6).toNat)
      case atStart => exact ⟨0, 0, none, 0, none, 0, Nat.zero_le _, by simp, rfl, K0.out, O0.out, O0.out, (fun k h => by simp [Value.ownBlock] at h), B0.out⟩
      case round =>
        obtain ⟨j, m, TA, cT, LA, cL, hj, hm, rfl, hH⟩ := hrel
        have HR := Lib.hid hH; have HM := Lib.hid hm
        clear hH hm
        by_cases hlt : j < 8
        · have d1 : decide ((j : Int) < 8) = true := by simp; omega
          have hszr : w.heap.size + 1 ≤ wr.heap.size := heap_lt HR.out.1
          obtain ⟨c0, c1, c2, c3, c4⟩ := cells5 HR.out.1
          by_cases hln : j < 4
          · have hmj : m = j := by have := HM.out; omega
            subst hmj
            have d2 : decide ((m : Int) < 4) = true := by simp; omega
            go_wp2_with (first | (at_builtin; refine append_int wr rfl (.tmp 28) (.tmp 30) 24 rfl (w.heap.size + 1) 3 i0 Try.underlying24 hii hz0 hz1 hz2 _ _ _ rfl HR.out.2.1 _ rfl rfl (by omega) hszr ?_; intro v' w2 hown' hgr hvb; obtain ⟨TA2, cT2, rfl⟩ := own_formP hown'; have HT2 := FlH.top HR.out hown' hgr hvb; have H3 := Lib.hid HT2.2; have hsz3 := heap_lt HT2.2.1; clear c0 c1 c2 c3 c4; obtain ⟨c0, c1, c2, c3, c4⟩ := cells5 HT2.1; obtain ⟨f0, f1, f2, f3, f4⟩ := frozen5 HT2.1; clear HT2 hown' hgr hvb) | (at_builtin; refine append_int _ rfl (.tmp 37) (.tmp 39) 24 rfl (w.heap.size + 1) 3 i0 Try.underlying24 hii hz0 hz1 hz2 _ _ _ rfl H3.out.2.2.1 _ rfl ((show _ = Value.slice (some ⟨w2.heap.size, 0, none⟩) 1 1 from rfl).trans (by rw [size_set])) (by omega) hsz3 ?_; intro v' w4 hown' hgr hvb; obtain ⟨LA2, cL2, rfl⟩ := own_formP hown'; have HL2 := FlH.left H3.out hown' hgr hvb; have H5 := Lib.hid HL2.2; clear c0 c1 c2 c3 c4 f0 f1 f2 f3 f4; obtain ⟨c0, c1, c2, c3, c4⟩ := cells5 HL2.1; obtain ⟨f0, f1, f2, f3, f4⟩ := frozen5 HL2.1; clear HL2 hown' hgr hvb))
            go_roundw
            case rel => exact ⟨m + 1, m + 1, _, _, _, _, by omega, by omega, by go_num, H5.out⟩
            case measure => simp [intOf]; omega
          · have d2 : decide ((j : Int) < 4) = false := by simp; omega
            have hm2 : m ≤ 4 := by have := HM.out; omega
            go_wp2_with (first | (at_builtin; refine append_int wr rfl (.tmp 28) (.tmp 30) 24 rfl (w.heap.size + 1) 3 i0 Try.underlying24 hii hz0 hz1 hz2 _ _ _ rfl HR.out.2.1 _ rfl rfl (by omega) hszr ?_; intro v' w2 hown' hgr hvb; obtain ⟨TA2, cT2, rfl⟩ := own_formP hown'; have HT2 := FlH.top HR.out hown' hgr hvb; have H3 := Lib.hid HT2.2; have hsz3 := heap_lt HT2.2.1; clear c0 c1 c2 c3 c4; obtain ⟨c0, c1, c2, c3, c4⟩ := cells5 HT2.1; obtain ⟨f0, f1, f2, f3, f4⟩ := frozen5 HT2.1; clear HT2 hown' hgr hvb))
            go_roundw
            case rel => exact ⟨j + 1, m, _, _, _, _, by omega, by have := HM.out; omega, by go_num, H3.out⟩
            case measure => simp [intOf]; omega
        · have hjn : j = 8 := by omega
          have hmn : m = 4 := by have := HM.out; omega
          obtain ⟨hK, hT, hL, hne, hb⟩ := HR.out
          rw [hjn] at hK hT
          rw [hmn] at hK hL
          have d1 : decide ((j : Int) < 8) = false := by simp; omega
          clear hjn hmn hne
          -- the neighbourhood stands
          have hA : Ints wr wr.heap.size TA (List.replicate 8 v) := OwnI.ints (base := w.heap.size + 1) (cap := cT) (by unfold OwnI; rw [List.length_replicate]; exact hT) (by rw [List.length_replicate]; decide)
          have hB : Ints wr wr.heap.size LA (List.replicate 4 v) := OwnI.ints (base := w.heap.size + 1) (cap := cL) (by unfold OwnI; rw [List.length_replicate]; exact hL) (by rw [List.length_replicate]; decide)
          have hcT : 8 ≤ cT := by
            have := OwnI.cap_le (w := wr) (base := w.heap.size + 1) (A := TA) (cap := cT) (l := List.replicate 8 v) (by unfold OwnI; rw [List.length_replicate]; exact hT)
            rwa [List.length_replicate] at this
          have flt := @flat_nb (List.replicate 8 v) (List.replicate 4 v) v 4 (by decide) (by simp) (by simp) (fun i hi => rep_at _ v i hi) (fun i hi => rep_at _ v i hi) v0 (by omega)
          have flp := fun (mode : Nat) (hmo : mode < 6) => @flat_prd (List.replicate 8 v) (List.replicate 4 v) v 4 (by decide) (by simp) (by simp) (fun i hi => rep_at _ v i hi) (fun i hi => rep_at _ v i hi) v0 (by omega) (mode : Int) ⟨by omega, by omega⟩
          have flm := @flat_pred (List.replicate 8 v) (List.replicate 4 v) v 4 (by decide) (by simp) (by simp) (fun i hi => rep_at _ v i hi) (fun i hi => rep_at _ v i hi) v0 (by omega) 0 ⟨by decide, by decide⟩ 0 0 (by decide) (by decide)
          have hmv : meanV (List.replicate 8 v) (List.replicate 4 v) v true true ((4 : Nat) : Int) = v := by
            unfold predF at flm
            rwa [if_pos rfl] at flm
          have FP : Hid (∀ (mode : Nat) w, mode < 6 → Ints w w.heap.size TA (List.replicate 8 v) → Ints w w.heap.size LA (List.replicate 4 v) → Calls Try.prog 12 #[.int .i64 mode, .agg #[.slice TA 8 cT, .slice LA 4 cL, .int .i64 v, .bool true, .bool true], .int .i64 4] w fun e w' => ∃ (X : List Int) (A' : Option Addr) (c : Nat), e = .returned (.slice A' 16 c) ∧ X.length = 16 ∧ (∀ i, i < 16 → X.getD i 0 = v) ∧ OwnI w' w.heap.size A' c X ∧ Below w.heap.size w w') := Lib.hid fun mode w hmo h1 h2 => by
            have r := impl_fastpred_any (mode : Int) TA cT LA cL (List.replicate 8 v) (List.replicate 4 v) v true true ((4 : Nat) : Int) w h1 h2 (by rw [List.length_replicate]; exact hcT)
            have hmd : mdOk (mode : Int) = true := by simp [mdOk]; omega
            have e1 : prdL (mode : Int) (List.replicate 8 v) (List.replicate 4 v) v true true ((4 : Nat) : Int) = prdF (List.replicate 8 v) (List.replicate 4 v) v true true 4 (mode : Int) := by unfold prdL; rw [if_pos ⟨flt, hmd⟩, Int.toNat_natCast]
            rw [e1, prdF_len, List.length_replicate, List.length_replicate] at r
            refine r.mono ?_
            rintro e w' ⟨A', c, rfl, ho, hb⟩
            exact ⟨_, A', c, rfl, prdF_len .., flp mode hmo, ho, hb⟩
          have MN : Hid (∀ w, Ints w w.heap.size TA (List.replicate 8 v) → Ints w w.heap.size LA (List.replicate 4 v) → Calls Try.prog 19 #[.agg #[.slice TA 8 cT, .slice LA 4 cL, .int .i64 v, .bool true, .bool true], .int .i64 4] w fun e w' => e = .returned (.int .i64 v) ∧ Below w.heap.size w w') := Lib.hid fun w h1 h2 => by
            have r := impl_mean_any TA cT LA cL (List.replicate 8 v) (List.replicate 4 v) v true true ((4 : Nat) : Int) w h1 h2 (by rw [List.length_replicate]; exact hcT)
            rw [hmv, List.length_replicate, List.length_replicate] at r
            exact r
          have BD : Hid (∀ w, Ints w w.heap.size TA (List.replicate 8 v) → Ints w w.heap.size LA (List.replicate 4 v) → Calls Try.prog 20 #[.agg #[.slice TA 8 cT, .slice LA 4 cL, .int .i64 v, .bool true, .bool true], .int .i64 4] w fun e w' => ∃ A' c, e = .returned (.slice A' 9 c) ∧ Below w.heap.size w w') := Lib.hid fun w h1 h2 => by
            have r := impl_border_any TA cT LA cL (List.replicate 8 v) (List.replicate 4 v) v true true ((4 : Nat) : Int) w h1 h2 (by rw [List.length_replicate]; exact hcT)
            rw [nbOk_true_bord flt, bordF_len (m := 4) (by simp) (by simp), List.length_replicate, List.length_replicate] at r
            refine r.mono ?_
            rintro e w' ⟨A', c, rfl, ho, hb⟩
            exact ⟨A', c, rfl, hb⟩
          have NO : Hid (∀ w, Ints w w.heap.size TA (List.replicate 8 v) → Ints w w.heap.size LA (List.replicate 4 v) → Calls Try.prog 21 #[.agg #[.slice TA 8 cT, .slice LA 4 cL, .int .i64 v, .bool true, .bool true], .int .i64 4] w fun e w' => e = .returned (.bool true) ∧ Below w.heap.size w w') := Lib.hid fun w h1 h2 => by
            have r := impl_nbok_any TA cT LA cL (List.replicate 8 v) (List.replicate 4 v) v true true ((4 : Nat) : Int) w h1 h2
            rw [flt, List.length_replicate, List.length_replicate] at r
            exact r
          have SBX : Hid (∀ wx, Below wr.heap.size wr wx → wx.heap[w.heap.size]? = some (.cells #[.slice TA 8 cT, .slice LA 4 cL, .int .i64 v, .bool true, .bool true] 26 (0, 0)) ∧ Ints wx wx.heap.size TA (List.replicate 8 v) ∧ Ints wx wx.heap.size LA (List.replicate 4 v)) := Lib.hid fun wx h => ⟨(h.block w.heap.size (heap_lt hK)).trans hK, (hA.below h (Nat.le_refl _)).mono h.size, (hB.below h (Nat.le_refl _)).mono h.size⟩
          have BBr := Lib.hid hb
          clear hK hT hL hb hA hB hcT flt flp flm hmv K0 O0 B0
          go_wp2
          go_loopw [7, 8, 9] (fun x7 x8 x9 wz => ∃ m : Nat, m ≤ 6 ∧ x7 = .int .i64 m ∧ Below wr.heap.size wr wz) (fun x7 _ _ _ => 6 - (intOf x7).toNat)
          case atStart => exact ⟨0, Nat.zero_le _, rfl, Below.refl _ _⟩
          case round =>
            obtain ⟨m, hm, rfl, hbz⟩ := hrel
            have BZ := Lib.hid hbz
            clear hbz
            obtain ⟨hk, h1, h2⟩ := SBX.out _ BZ.out
            obtain ⟨c0, c1, c2, c3, c4⟩ := cells5 hk
            have J1 := Lib.hid h1; have J2 := Lib.hid h2
            clear hk h1 h2
            by_cases hl6 : m < 6
            · have d6 : decide ((m : Int) < 6) = true := by simp; omega
              go_wp2_with fail
              refine (FP.out m _ hl6 J1.out J2.out).mono ?_
              rintro e w6 ⟨X, A6, c6, rfl, hXl, hXv, ho, hb6⟩
              have IX := Lib.hid (ho.ints (by rw [hXl]; decide)); have XL := Lib.hid hXl; have XV := Lib.hid hXv; have B6 := Lib.hid hb6
              clear hXl hXv ho hb6 c0 c1 c2 c3 c4
              go_wp2
              go_loopw [9] (fun x9 wy => ∃ i : Nat, i ≤ 16 ∧ x9 = .int .i64 i ∧ Below w6.heap.size w6 wy) (fun x9 _ => 16 - (intOf x9).toNat)
              case atStart => exact ⟨0, Nat.zero_le _, rfl, Below.refl _ _⟩
              case round =>
                obtain ⟨i, hi, rfl, hby⟩ := hrel
                by_cases hli : i < 16
                · have d7 : decide ((i : Int) < 16) = true := by simp; omega
                  have IXy := (IX.out.below hby (Nat.le_refl _)).mono hby.size
                  obtain ⟨b, o, rfl, hbb, hc⟩ := IXy.at i (by rw [XL.out]; exact hli)
                  have cu := hc i (by rw [XL.out]; exact hli)
                  rw [XV.out i hli] at cu
                  have e3 : (v != v) = false := by simp
                  have i1 : (i : Int) < 16 := by omega
                  have i00 : (0 : Int) ≤ (i : Int) := by omega
                  have BY := Lib.hid hby
                  clear hc hby IXy hbb
                  go_wp2
                  go_roundw
                  case rel => exact ⟨i + 1, by omega, by go_num, BY.out⟩
                  case measure => simp [intOf]; omega
                · have hin : i = 16 := by omega
                  have d7 : decide ((i : Int) < 16) = false := by simp; omega
                  clear hin
                  have BY := Lib.hid (below_up BZ.out (below_up B6.out hby B6.out.size) BZ.out.size)
                  clear hby
                  go_wp2
                  go_roundw
                  case rel => exact ⟨m + 1, by omega, by go_num, BY.out⟩
                  case measure => simp [intOf]; omega
            · have hm6 : m = 6 := by omega
              have d6 : decide ((m : Int) < 6) = false := by simp; omega
              clear hm6
              have e3 : (v == v) = true := by simp
              go_wp2_with fail
              refine (MN.out _ J1.out J2.out).mono ?_
              rintro e w6 ⟨rfl, hb6⟩
              have B6 := Lib.hid (below_up BZ.out hb6 BZ.out.size)
              clear hb6 c0 c1 c2 c3 c4
              obtain ⟨hk, h1, h2⟩ := SBX.out _ B6.out
              obtain ⟨c0, c1, c2, c3, c4⟩ := cells5 hk
              have J3 := Lib.hid h1; have J4 := Lib.hid h2
              clear hk h1 h2
              go_wp2_with fail
              refine (BD.out _ J3.out J4.out).mono ?_
              rintro e w7 ⟨A7, c7, rfl, hb7⟩
              have B7 := Lib.hid (below_up B6.out hb7 B6.out.size)
              clear hb7 c0 c1 c2 c3 c4
              obtain ⟨hk, h1, h2⟩ := SBX.out _ B7.out
              obtain ⟨c0, c1, c2, c3, c4⟩ := cells5 hk
              have J5 := Lib.hid h1; have J6 := Lib.hid h2
              clear hk h1 h2
              go_wp2_with fail
              refine (NO.out _ J5.out J6.out).mono ?_
              rintro e w8 ⟨rfl, hb8⟩
              have B8 := Lib.hid (BBr.out.trans ((below_up B7.out hb8 B7.out.size).mono BBr.out.size))
              clear hb8
              go_wp2
              go_ret
              exact ⟨rfl, B8.out⟩
    · have hq2 : q.tmod 2 = 1 := by rw [Int.tmod_eq_emod_of_nonneg qa]; exact hq
      go_wp2
      have O0 : Hid ((w.alloc (.cells #[.slice none 0 0, .slice none 0 0, .int .i64 v, .bool true, .bool true] 26)).ownsRow (w.heap.size + 1) 3 1 (.slice none 0 0) 0 (ivs [])) := Lib.hid (World.ownsRow_nil _ _ _ _)
      have K0 := Lib.hid (heap_alloc_new w (.cells #[.slice none 0 0, .slice none 0 0, .int .i64 v, .bool true, .bool true] 26))
      have B0 := Lib.hid (below_new w (.cells #[.slice none 0 0, .slice none 0 0, .int .i64 v, .bool true, .bool true] 26))
      go_loopw [6] (fun x6 wr => ∃ (j m : Nat) (TA : Option Addr) (cT : Nat) (LA : Option Addr) (cL : Nat), j ≤ 16 ∧ m = min j 8 ∧ x6 = .int .i64 j ∧ FlH w w.heap.size v (.slice TA j cT) (.slice LA m cL) j m wr) (fun x6 _ => 16 - (intOf x6).toNat)
      case atStart => exact ⟨0, 0, none, 0, none, 0, Nat.zero_le _, by simp, rfl, K0.out, O0.out, O0.out, (fun k h => by simp [Value.ownBlock] at h), B0.out⟩
      case round =>
        obtain ⟨j, m, TA, cT, LA, cL, hj, hm, rfl, hH⟩ := hrel
        have HR := Lib.hid hH; have HM := Lib.hid hm
        clear hH hm
        by_cases hlt : j < 16
        · have d1 : decide ((j : Int) < 16) = true := by simp; omega
          have hszr : w.heap.size + 1 ≤ wr.heap.size := heap_lt HR.out.1
          obtain ⟨c0, c1, c2, c3, c4⟩ := cells5 HR.out.1
          by_cases hln : j < 8
          · have hmj : m = j := by have := HM.out; omega
            subst hmj
            have d2 : decide ((m : Int) < 8) = true := by simp; omega
            go_wp2_with (first | (at_builtin; refine append_int wr rfl (.tmp 28) (.tmp 30) 24 rfl (w.heap.size + 1) 3 i0 Try.underlying24 hii hz0 hz1 hz2 _ _ _ rfl HR.out.2.1 _ rfl rfl (by omega) hszr ?_; intro v' w2 hown' hgr hvb; obtain ⟨TA2, cT2, rfl⟩ := own_formP hown'; have HT2 := FlH.top HR.out hown' hgr hvb; have H3 := Lib.hid HT2.2; have hsz3 := heap_lt HT2.2.1; clear c0 c1 c2 c3 c4; obtain ⟨c0, c1, c2, c3, c4⟩ := cells5 HT2.1; obtain ⟨f0, f1, f2, f3, f4⟩ := frozen5 HT2.1; clear HT2 hown' hgr hvb) | (at_builtin; refine append_int _ rfl (.tmp 37) (.tmp 39) 24 rfl (w.heap.size + 1) 3 i0 Try.underlying24 hii hz0 hz1 hz2 _ _ _ rfl H3.out.2.2.1 _ rfl ((show _ = Value.slice (some ⟨w2.heap.size, 0, none⟩) 1 1 from rfl).trans (by rw [size_set])) (by omega) hsz3 ?_; intro v' w4 hown' hgr hvb; obtain ⟨LA2, cL2, rfl⟩ := own_formP hown'; have HL2 := FlH.left H3.out hown' hgr hvb; have H5 := Lib.hid HL2.2; clear c0 c1 c2 c3 c4 f0 f1 f2 f3 f4; obtain ⟨c0, c1, c2, c3, c4⟩ := cells5 HL2.1; obtain ⟨f0, f1, f2, f3, f4⟩ := frozen5 HL2.1; clear HL2 hown' hgr hvb))
            go_roundw
            case rel => exact ⟨m + 1, m + 1, _, _, _, _, by omega, by omega, by go_num, H5.out⟩
            case measure => simp [intOf]; omega
          · have d2 : decide ((j : Int) < 8) = false := by simp; omega
            have hm2 : m ≤ 8 := by have := HM.out; omega
            go_wp2_with (first | (at_builtin; refine append_int wr rfl (.tmp 28) (.tmp 30) 24 rfl (w.heap.size + 1) 3 i0 Try.underlying24 hii hz0 hz1 hz2 _ _ _ rfl HR.out.2.1 _ rfl rfl (by omega) hszr ?_; intro v' w2 hown' hgr hvb; obtain ⟨TA2, cT2, rfl⟩ := own_formP hown'; have HT2 := FlH.top HR.out hown' hgr hvb; have H3 := Lib.hid HT2.2; have hsz3 := heap_lt HT2.2.1; clear c0 c1 c2 c3 c4; obtain ⟨c0, c1, c2, c3, c4⟩ := cells5 HT2.1; obtain ⟨f0, f1, f2, f3, f4⟩ := frozen5 HT2.1; clear HT2 hown' hgr hvb))
            go_roundw
            case rel => exact ⟨j + 1, m, _, _, _, _, by omega, by have := HM.out; omega, by go_num, H3.out⟩
            case measure => simp [intOf]; omega
        · have hjn : j = 16 := by omega
          have hmn : m = 8 := by have := HM.out; omega
          obtain ⟨hK, hT, hL, hne, hb⟩ := HR.out
          rw [hjn] at hK hT
          rw [hmn] at hK hL
          have d1 : decide ((j : Int) < 16) = false := by simp; omega
          clear hjn hmn hne
          -- the neighbourhood stands
          have hA : Ints wr wr.heap.size TA (List.replicate 16 v) := OwnI.ints (base := w.heap.size + 1) (cap := cT) (by unfold OwnI; rw [List.length_replicate]; exact hT) (by rw [List.length_replicate]; decide)
          have hB : Ints wr wr.heap.size LA (List.replicate 8 v) := OwnI.ints (base := w.heap.size + 1) (cap := cL) (by unfold OwnI; rw [List.length_replicate]; exact hL) (by rw [List.length_replicate]; decide)
          have hcT : 16 ≤ cT := by
            have := OwnI.cap_le (w := wr) (base := w.heap.size + 1) (A := TA) (cap := cT) (l := List.replicate 16 v) (by unfold OwnI; rw [List.length_replicate]; exact hT)
            rwa [List.length_replicate] at this
          have flt := @flat_nb (List.replicate 16 v) (List.replicate 8 v) v 8 (by decide) (by simp) (by simp) (fun i hi => rep_at _ v i hi) (fun i hi => rep_at _ v i hi) v0 (by omega)
          have flp := fun (mode : Nat) (hmo : mode < 6) => @flat_prd (List.replicate 16 v) (List.replicate 8 v) v 8 (by decide) (by simp) (by simp) (fun i hi => rep_at _ v i hi) (fun i hi => rep_at _ v i hi) v0 (by omega) (mode : Int) ⟨by omega, by omega⟩
          have flm := @flat_pred (List.replicate 16 v) (List.replicate 8 v) v 8 (by decide) (by simp) (by simp) (fun i hi => rep_at _ v i hi) (fun i hi => rep_at _ v i hi) v0 (by omega) 0 ⟨by decide, by decide⟩ 0 0 (by decide) (by decide)
          have hmv : meanV (List.replicate 16 v) (List.replicate 8 v) v true true ((8 : Nat) : Int) = v := by
            unfold predF at flm
            rwa [if_pos rfl] at flm
          have FP : Hid (∀ (mode : Nat) w, mode < 6 → Ints w w.heap.size TA (List.replicate 16 v) → Ints w w.heap.size LA (List.replicate 8 v) → Calls Try.prog 12 #[.int .i64 mode, .agg #[.slice TA 16 cT, .slice LA 8 cL, .int .i64 v, .bool true, .bool true], .int .i64 8] w fun e w' => ∃ (X : List Int) (A' : Option Addr) (c : Nat), e = .returned (.slice A' 64 c) ∧ X.length = 64 ∧ (∀ i, i < 64 → X.getD i 0 = v) ∧ OwnI w' w.heap.size A' c X ∧ Below w.heap.size w w') := Lib.hid fun mode w hmo h1 h2 => by
            have r := impl_fastpred_any (mode : Int) TA cT LA cL (List.replicate 16 v) (List.replicate 8 v) v true true ((8 : Nat) : Int) w h1 h2 (by rw [List.length_replicate]; exact hcT)
            have hmd : mdOk (mode : Int) = true := by simp [mdOk]; omega
            have e1 : prdL (mode : Int) (List.replicate 16 v) (List.replicate 8 v) v true true ((8 : Nat) : Int) = prdF (List.replicate 16 v) (List.replicate 8 v) v true true 8 (mode : Int) := by unfold prdL; rw [if_pos ⟨flt, hmd⟩, Int.toNat_natCast]
            rw [e1, prdF_len, List.length_replicate, List.length_replicate] at r
            refine r.mono ?_
            rintro e w' ⟨A', c, rfl, ho, hb⟩
            exact ⟨_, A', c, rfl, prdF_len .., flp mode hmo, ho, hb⟩
          have MN : Hid (∀ w, Ints w w.heap.size TA (List.replicate 16 v) → Ints w w.heap.size LA (List.replicate 8 v) → Calls Try.prog 19 #[.agg #[.slice TA 16 cT, .slice LA 8 cL, .int .i64 v, .bool true, .bool true], .int .i64 8] w fun e w' => e = .returned (.int .i64 v) ∧ Below w.heap.size w w') := Lib.hid fun w h1 h2 => by
            have r := impl_mean_any TA cT LA cL (List.replicate 16 v) (List.replicate 8 v) v true true ((8 : Nat) : Int) w h1 h2 (by rw [List.length_replicate]; exact hcT)
            rw [hmv, List.length_replicate, List.length_replicate] at r
            exact r
          have BD : Hid (∀ w, Ints w w.heap.size TA (List.replicate 16 v) → Ints w w.heap.size LA (List.replicate 8 v) → Calls Try.prog 20 #[.agg #[.slice TA 16 cT, .slice LA 8 cL, .int .i64 v, .bool true, .bool true], .int .i64 8] w fun e w' => ∃ A' c, e = .returned (.slice A' 17 c) ∧ Below w.heap.size w w') := Lib.hid fun w h1 h2 => by
            have r := impl_border_any TA cT LA cL (List.replicate 16 v) (List.replicate 8 v) v true true ((8 : Nat) : Int) w h1 h2 (by rw [List.length_replicate]; exact hcT)
            rw [nbOk_true_bord flt, bordF_len (m := 8) (by simp) (by simp), List.length_replicate, List.length_replicate] at r
            refine r.mono ?_
            rintro e w' ⟨A', c, rfl, ho, hb⟩
            exact ⟨A', c, rfl, hb⟩
          have NO : Hid (∀ w, Ints w w.heap.size TA (List.replicate 16 v) → Ints w w.heap.size LA (List.replicate 8 v) → Calls Try.prog 21 #[.agg #[.slice TA 16 cT, .slice LA 8 cL, .int .i64 v, .bool true, .bool true], .int .i64 8] w fun e w' => e = .returned (.bool true) ∧ Below w.heap.size w w') := Lib.hid fun w h1 h2 => by
            have r := impl_nbok_any TA cT LA cL (List.replicate 16 v) (List.replicate 8 v) v true true ((8 : Nat) : Int) w h1 h2
            rw [flt, List.length_replicate, List.length_replicate] at r
            exact r
          have SBX : Hid (∀ wx, Below wr.heap.size wr wx → wx.heap[w.heap.size]? = some (.cells #[.slice TA 16 cT, .slice LA 8 cL, .int .i64 v, .bool true, .bool true] 26 (0, 0)) ∧ Ints wx wx.heap.size TA (List.replicate 16 v) ∧ Ints wx wx.heap.size LA (List.replicate 8 v)) := Lib.hid fun wx h => ⟨(h.block w.heap.size (heap_lt hK)).trans hK, (hA.below h (Nat.le_refl _)).mono h.size, (hB.below h (Nat.le_refl _)).mono h.size⟩
          have BBr := Lib.hid hb
          clear hK hT hL hb hA hB hcT flt flp flm hmv K0 O0 B0
          go_wp2
          go_loopw [7, 8, 9] (fun x7 x8 x9 wz => ∃ m : Nat, m ≤ 6 ∧ x7 = .int .i64 m ∧ Below wr.heap.size wr wz) (fun x7 _ _ _ => 6 - (intOf x7).toNat)
          case atStart => exact ⟨0, Nat.zero_le _, rfl, Below.refl _ _⟩
          case round =>
            obtain ⟨m, hm, rfl, hbz⟩ := hrel
            have BZ := Lib.hid hbz
            clear hbz
            obtain ⟨hk, h1, h2⟩ := SBX.out _ BZ.out
            obtain ⟨c0, c1, c2, c3, c4⟩ := cells5 hk
            have J1 := Lib.hid h1; have J2 := Lib.hid h2
            clear hk h1 h2
            by_cases hl6 : m < 6
            · have d6 : decide ((m : Int) < 6) = true := by simp; omega
              go_wp2_with fail
              refine (FP.out m _ hl6 J1.out J2.out).mono ?_
              rintro e w6 ⟨X, A6, c6, rfl, hXl, hXv, ho, hb6⟩
              have IX := Lib.hid (ho.ints (by rw [hXl]; decide)); have XL := Lib.hid hXl; have XV := Lib.hid hXv; have B6 := Lib.hid hb6
              clear hXl hXv ho hb6 c0 c1 c2 c3 c4
              go_wp2
              go_loopw [9] (fun x9 wy => ∃ i : Nat, i ≤ 64 ∧ x9 = .int .i64 i ∧ Below w6.heap.size w6 wy) (fun x9 _ => 64 - (intOf x9).toNat)
              case atStart => exact ⟨0, Nat.zero_le _, rfl, Below.refl _ _⟩
              case round =>
                obtain ⟨i, hi, rfl, hby⟩ := hrel
                by_cases hli : i < 64
                · have d7 : decide ((i : Int) < 64) = true := by simp; omega
                  have IXy := (IX.out.below hby (Nat.le_refl _)).mono hby.size
                  obtain ⟨b, o, rfl, hbb, hc⟩ := IXy.at i (by rw [XL.out]; exact hli)
                  have cu := hc i (by rw [XL.out]; exact hli)
                  rw [XV.out i hli] at cu
                  have e3 : (v != v) = false := by simp
                  have i1 : (i : Int) < 64 := by omega
                  have i00 : (0 : Int) ≤ (i : Int) := by omega
                  have BY := Lib.hid hby
                  clear hc hby IXy hbb
                  go_wp2
                  go_roundw
                  case rel => exact ⟨i + 1, by omega, by go_num, BY.out⟩
                  case measure => simp [intOf]; omega
                · have hin : i = 64 := by omega
                  have d7 : decide ((i : Int) < 64) = false := by simp; omega
                  clear hin
                  have BY := Lib.hid (below_up BZ.out (below_up B6.out hby B6.out.size) BZ.out.size)
                  clear hby
                  go_wp2
                  go_roundw
                  case rel => exact ⟨m + 1, by omega, by go_num, BY.out⟩
                  case measure => simp [intOf]; omega
            · have hm6 : m = 6 := by omega
              have d6 : decide ((m : Int) < 6) = false := by simp; omega
              clear hm6
              have e3 : (v == v) = true := by simp
              go_wp2_with fail
              refine (MN.out _ J1.out J2.out).mono ?_
              rintro e w6 ⟨rfl, hb6⟩
              have B6 := Lib.hid (below_up BZ.out hb6 BZ.out.size)
              clear hb6 c0 c1 c2 c3 c4
              obtain ⟨hk, h1, h2⟩ := SBX.out _ B6.out
              obtain ⟨c0, c1, c2, c3, c4⟩ := cells5 hk
              have J3 := Lib.hid h1; have J4 := Lib.hid h2
              clear hk h1 h2
              go_wp2_with fail
              refine (BD.out _ J3.out J4.out).mono ?_
              rintro e w7 ⟨A7, c7, rfl, hb7⟩
              have B7 := Lib.hid (below_up B6.out hb7 B6.out.size)
              clear hb7 c0 c1 c2 c3 c4
              obtain ⟨hk, h1, h2⟩ := SBX.out _ B7.out
              obtain ⟨c0, c1, c2, c3, c4⟩ := cells5 hk
              have J5 := Lib.hid h1; have J6 := Lib.hid h2
              clear hk h1 h2
              go_wp2_with fail
              refine (NO.out _ J5.out J6.out).mono ?_
              rintro e w8 ⟨rfl, hb8⟩
              have B8 := Lib.hid (BBr.out.trans ((below_up B7.out hb8 B7.out.size).mono BBr.out.size))
              clear hb8
              go_wp2
              go_ret
              exact ⟨rfl, B8.out⟩
end Go.Proofs.Ytjgbenhjafgimaa
