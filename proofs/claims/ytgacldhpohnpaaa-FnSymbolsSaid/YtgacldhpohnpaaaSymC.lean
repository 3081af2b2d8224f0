/-
  Contracts of CodesOf and of what it calls, in both texts. Condition: the list is no longer than 1048576 (the laws ask no more).
-/
import Derived.Test.YtgacldhpohnpaaaShelf
import Derived.Test.YtgacldhpohnpaaaSymM
import Derived.Test.YtgacldhpohnpaaaPut
namespace Go.Proofs.Ytgacldhpohnpaaa
open Go.RowKit
set_option linter.unusedVariables false

set_option maxRecDepth 100000 in
/-- What a copy within the row of `slices.Repeat` leaves. -/
theorem rep_copy (n m : Nat) (hm : m = Nat.min n (6 - n)) (h6 : n + m ≤ 6) (g cs : Nat) (w w0 : World) (B : Nat) (hb : Below B w0 w) (hBg : B ≤ g) (hg : w.heap[g]? = some (.cells (ivs (List.replicate n (-1) ++ List.replicate (6 - n) 0)).toArray 3 (0, 0))) :
    ∃ w', (Builtin.copy_ #[39, 39] 3 #[.slice (some ⟨g, n, none⟩) (6 - n) (6 - n), .slice (some ⟨g, 0, none⟩) n cs]).run Try.prog w = .ok (.int .i64 m) w' ∧ w'.heap[g]? = some (.cells (ivs (List.replicate (n + m) (-1) ++ List.replicate (6 - (n + m)) 0)).toArray 3 (0, 0)) ∧ Below B w0 w' := by
  have hl : (ivs (List.replicate m (-1))).length = m := by rw [ivs_len, List.length_replicate]
  have hmn : m ≤ n := by rw [hm]; exact Nat.min_le_left _ _
  have hcur : (ivs (List.replicate n (-1) ++ List.replicate (6 - n) 0)).length = 6 := by rw [ivs_len, List.length_append, List.length_replicate, List.length_replicate]; omega
  have hrun := run_copy_row (P := Try.prog) w 39 39 3 3 g n (6 - n) (6 - n) ⟨g, 0, none⟩ n cs (ivs (List.replicate n (-1) ++ List.replicate (6 - n) 0)).toArray 3 (ivs (List.replicate m (-1))) Try.underlying39 Try.iinfo1 hg (by rw [hl, hm])
    (fun j v hj => by
      have hj2 : j < m := by
        have := (List.getElem?_eq_some_iff.1 hj).1
        rwa [hl] at this
      have hcell : w.cell? ⟨g, j, none⟩ = (ivs (List.replicate n (-1) ++ List.replicate (6 - n) 0))[j]? := by simp [World.cell?, hg]
      rw [Addr.add_lit, Nat.zero_add, hcell]
      rw [ ivs_at _ j (by rw [List.length_append, List.length_replicate, List.length_replicate]; omega)]
      rw [ivs_at _ j (by rw [List.length_replicate]; exact hj2)] at hj
      rw [← hj, List.getD_eq_getElem?_getD, List.getD_eq_getElem?_getD, List.getElem?_append_left (by rw [List.length_replicate]; omega), List.getElem?_replicate, List.getElem?_replicate, if_pos hj2, if_pos (by omega)])
    (by rw [hl]; simp only [List.size_toArray]; rw [hcur]; omega) (fun u hu => by
      simp only [ivs, List.mem_map] at hu
      obtain ⟨y, _, rfl⟩ := hu
      rfl)
  have e : ((ivs (List.replicate n (-1) ++ List.replicate (6 - n) 0)).toArray.toList.take n ++ ivs (List.replicate m (-1)) ++ (ivs (List.replicate n (-1) ++ List.replicate (6 - n) 0)).toArray.toList.drop (n + (ivs (List.replicate m (-1))).length)) = ivs (List.replicate (n + m) (-1) ++ List.replicate (6 - (n + m)) 0) := by
    rw [hl]
    have : n = 0 ∨ n = 1 ∨ n = 2 ∨ n = 3 ∨ n = 4 ∨ n = 5 ∨ n = 6 := by omega
    rcases this with rfl | rfl | rfl | rfl | rfl | rfl | rfl <;> (subst hm; rfl)
  rw [e] at hrun
  refine ⟨_, by rw [hrun]; congr 1; rw [hl]; rfl, setRow_heap w g _ _ 3 _ hg, below_setRow hb hBg _⟩

set_option maxRecDepth 100000 in
set_option maxHeartbeats 1000000 in
theorem repeat_any (g0 cs : Nat) (w : World) (hc : w.cell? ⟨g0, 0, none⟩ = some (.int .i64 (-1))) :
    Calls Try.prog 81 #[.slice (some ⟨g0, 0, none⟩) 1 cs, .int .i64 6] w fun e w' => ∃ A c, e = .returned (.slice A 6 c) ∧ OwnI w' w.heap.size A c (List.replicate 6 (-1)) ∧ Below w.heap.size w w' := by
  have hmk := make_ints 6 6 (by decide) (by decide)
  obtain ⟨z, hz⟩ : ∃ z : List Int, z = List.replicate 6 0 := ⟨_, rfl⟩
  rw [← hz] at hmk
  have hA : Ints w w.heap.size (some ⟨g0, 0, none⟩) [-1] := ⟨by decide, .inr ⟨g0, 0, rfl, World.block_lt_of_cell? w _ hc, fun j hj => by
    obtain rfl : j = 0 := by simpa using hj
    simpa using hc⟩⟩
  obtain ⟨w2, hcp, hg2, hb2⟩ := copy_ints (P := Try.prog) (w.alloc (.cells (ivs z).toArray 3)) 39 3 Try.underlying39 Try.iinfo1 w.heap.size 6 z (by rw [hz]; rfl) (heap_alloc_new w _) (some ⟨g0, 0, none⟩) 1 cs [-1] rfl w.heap.size (hA.below (below_new w _) (Nat.le_refl _)) (by omega) w.heap.size w (below_new w _) (Nat.le_refl _)
  have G2 : Hid (w2.heap[w.heap.size]? = some (.cells (ivs (List.replicate 1 (-1) ++ List.replicate (6 - 1) 0)).toArray 3 (0, 0))) := Lib.hid (by rw [hz] at hg2; exact hg2)
  have B2 := Lib.hid hb2
  clear hg2 hb2 hA hc hz
  have MU := Lib.hid (Try.bits_Mul 1 6 (by decide) (by decide))
  go_enter Try.func81, Try.ntmps81
  go_wp2_with fail
  refine (MU.out _).mono ?_
  rintro e w' ⟨rfl, hw⟩
  subst hw
  go_wp2
  go_loopw [8] (fun i wr => ∃ n : Nat, (n = 1 ∨ n = 2 ∨ n = 4 ∨ n = 6) ∧ i = .int .i64 n ∧ wr.heap[w'.heap.size]? = some (.cells (ivs (List.replicate n (-1) ++ List.replicate (6 - n) 0)).toArray 3 (0, 0)) ∧ Below w'.heap.size w' wr)
    (fun i _ => 6 - (intOf i).toNat)
  case atStart => exact ⟨1, by omega, rfl, G2.out, B2.out⟩
  case round =>
    obtain ⟨n, hn, rfl, hg, hb⟩ := hrel
    have HG := Lib.hid hg; have HB := Lib.hid hb
    rcases hn with rfl | rfl | rfl | rfl
    · obtain ⟨w3, hr, hg3, hb3⟩ := rep_copy 1 1 rfl (by decide) w'.heap.size 6 wr.drew w' w'.heap.size hb.drew (Nat.le_refl _) hg
      have G3 := Lib.hid hg3; have B3 := Lib.hid hb3
      clear hg hb hg3 hb3
      go_wp2
      go_region
      go_wp2
      go_roundw
      case rel => exact ⟨2, by omega, rfl, G3.out, B3.out⟩
      case measure => simp [intOf]
    · obtain ⟨w3, hr, hg3, hb3⟩ := rep_copy 2 2 rfl (by decide) w'.heap.size 6 wr.drew w' w'.heap.size hb.drew (Nat.le_refl _) hg
      have G3 := Lib.hid hg3; have B3 := Lib.hid hb3
      clear hg hb hg3 hb3
      go_wp2
      go_region
      go_wp2
      go_roundw
      case rel => exact ⟨4, by omega, rfl, G3.out, B3.out⟩
      case measure => simp [intOf]
    · obtain ⟨w3, hr, hg3, hb3⟩ := rep_copy 4 2 rfl (by decide) w'.heap.size 6 wr.drew w' w'.heap.size hb.drew (Nat.le_refl _) hg
      have G3 := Lib.hid hg3; have B3 := Lib.hid hb3
      clear hg hb hg3 hb3
      go_wp2
      go_region
      go_wp2
      go_roundw
      case rel => exact ⟨6, by omega, rfl, G3.out, B3.out⟩
      case measure => simp [intOf]
    · clear hg hb
      go_wp2
      go_ret
      refine ⟨_, _, rfl, ?_, HB.out⟩
      exact ⟨rfl, .inr ⟨w'.heap.size, 6, _, rfl, Nat.le_refl _, HG.out, Nat.le_refl _, by unfold maxLen; omega, rfl, rfl⟩⟩

set_option maxRecDepth 100000 in
set_option maxHeartbeats 1000000 in
theorem order_any (A : Option Addr) (ca : Nat) (l : List Int) (h6 : l.length = 6) (w : World) (hA : Ints w w.heap.size A l) :
    Calls Try.prog 82 #[.slice A 6 ca] w fun e w' => ∃ A' c, e = .returned (.slice A' (ordS l 7).length c) ∧ OwnI w' w.heap.size A' c (ordS l 7) ∧ Below w.heap.size w w' := by
  obtain ⟨i0, hi, hz0, hz1, hz2⟩ := info_parts Try.iinfo
  obtain ⟨b, off, rfl, hb, hc⟩ := hA.at 0 (by omega)
  rw [h6] at hc
  have HC := Lib.hid hc; clear hc hA h6
  have HL := Lib.hid (ordS_len l)
  have HLI := Lib.hid (ordI_len l)
  have hmk : ∀ w, (Instr.makeSlice 39 (.int .i64 0) (.int .i64 6)).run Try.prog w = .ok (.slice (some ⟨w.heap.size, 0, none⟩) 0 6) (w.alloc (.cells (ivs (List.replicate 6 0)).toArray 3)) := fun _ => by kernel_rfl
  obtain ⟨z, hz⟩ : ∃ z : List Int, z = List.replicate 6 0 := ⟨_, rfl⟩
  simp only [← hz] at hmk
  have hzl : (ivs z).length = 6 := by rw [hz]; rfl
  have hO : (w.alloc (.cells (ivs z).toArray 3)).ownsRow w.heap.size 3 1 (.slice (some ⟨w.heap.size, 0, none⟩) 0 6) 0 (ivs []) := World.ownsRow_made w _ 6 (Nat.le_refl _) (by simp [maxLen]) (by simpa using hzl)
  have HO := Lib.hid hO; clear hO hzl hz
  go_enter Try.func82, Try.ntmps82
  go_wp2
  clear hmk
  go_loopw [3, 4] (fun v s wr => ∃ j : Nat, j ≤ 7 ∧ s = .int .i64 ((j : Int) + 1) ∧ wr.ownsRow w.heap.size 3 1 v (ordS l j).length (ivs (ordS l j)) ∧ Below w.heap.size w wr)
    (fun _ s _ => 8 - (intOf s).toNat)
  case atStart => exact ⟨0, Nat.zero_le _, rfl, HO.out, (Below.refl _ _).alloc (Nat.le_refl _) _⟩
  case round =>
    obtain ⟨j, hj, rfl, hown, hbel⟩ := hrel
    by_cases hlt : j < 7
    · have hlen := HL.out j hj
      obtain ⟨n, hn⟩ : ∃ n, n = (ordS l j).length := ⟨_, rfl⟩
      obtain ⟨o, ho⟩ : ∃ o, o = ordS l j := ⟨_, rfl⟩
      have hno : n = o.length := by rw [hn, ho]
      rw [← ho] at hown
      rw [← hn] at hlen
      rw [← hno] at hown
      have HOO := Lib.hid ho; have HN := Lib.hid hno
      clear ho hn hno HO
      have H1 := Lib.hid hown; have B1 := Lib.hid hbel
      clear hown hbel
      have hq7 : decide ((j : Int) + 1 ≤ 7) = true := by simp; omega
      go_wp2
      go_loopw [3, 5, 13] (fun v x i wr => ∃ (m k : Nat), m ≤ 6 ∧ i = .int .i64 m ∧ k = (ordI l ((j : Int) + 1) m).length ∧ k ≤ m ∧ wr.ownsRow w.heap.size 3 1 v (n + k) (ivs (o ++ ordI l ((j : Int) + 1) m)) ∧ Below w.heap.size w wr)
        (fun _ _ i _ => 6 - (intOf i).toNat)
      case atStart => exact ⟨0, 0, Nat.zero_le _, rfl, rfl, Nat.le_refl _, by rw [ordI, List.append_nil]; exact H1.out, B1.out⟩
      case round =>
        obtain ⟨m, k, hm, rfl, hk, hkm, hown, hbel⟩ := hrel
        have HK := Lib.hid hk; clear hk
        by_cases hlm : m < 6
        · have c := HC.out m hlm
          rw [← hbel.cell (p := ⟨b, off + m, none⟩) hb] at c
          obtain ⟨x, hx⟩ : ∃ x, x = l.getD m 0 := ⟨_, rfl⟩
          rw [← hx] at c
          have HX := Lib.hid hx; clear hx
          by_cases hxs : x = (j : Int) + 1
          · have hq : (x == (j : Int) + 1) = true := by rw [beq_iff_eq]; exact hxs
            have HXS := Lib.hid hxs; clear hxs
            go_wp2_with (at_builtin; refine append_one wr rfl (.tmp 22) (.tmp 24) 39 rfl w 3 i0 (.int .i64 0) 8 Try.underlying39 hi hz0 hz1 hz2 rfl _ _ _ rfl hown _ rfl rfl rfl (by omega) (by unfold maxLen; omega) hbel ?_; intro v' w' hown' hb')
            go_roundw
            case rel =>
              have e : ordI l ((j : Int) + 1) (m + 1) = ordI l ((j : Int) + 1) m ++ [(m : Int)] := by rw [ordI, if_pos (by show l.getD m 0 = _; rw [← HX.out]; exact HXS.out)]
              refine ⟨m + 1, k + 1, by omega, by go_num, ?_, by omega, ?_, hb'⟩
              · rw [e, List.length_append, ← HK.out]; rfl
              · rw [e, ← List.append_assoc, ivs_append]; exact hown'
            case measure => simp [intOf]; omega
          · have hq : (x == (j : Int) + 1) = false := by rw [beq_eq_false_iff_ne]; exact hxs
            have HXS := Lib.hid hxs; clear hxs
            go_wp2
            go_roundw
            case rel =>
              have e : ordI l ((j : Int) + 1) (m + 1) = ordI l ((j : Int) + 1) m := by rw [ordI, if_neg (by show ¬ l.getD m 0 = _; rw [← HX.out]; exact HXS.out)]
              refine ⟨m + 1, k, by omega, by go_num, by rw [e]; exact HK.out, by omega, by rw [e]; exact hown, hbel⟩
            case measure => simp [intOf]; omega
        · obtain rfl : m = 6 := by omega
          have H2 := Lib.hid hown; clear hown
          go_wp2
          go_roundw
          case rel =>
            have e : ordS l (j + 1) = o ++ ordI l ((j : Int) + 1) 6 := by rw [ordS, ← HOO.out]
            refine ⟨j + 1, by omega, by go_num, ?_, hbel⟩
            rw [e, List.length_append, ← HN.out, ← HK.out]
            exact H2.out
          case measure => simp [intOf]; omega
    · obtain rfl : j = 7 := by omega
      have H2 := Lib.hid hown; clear hown
      go_wp2
      go_ret
      have hown := H2.out
      rcases hown.2 with ⟨rfl, h0⟩ | ⟨g, cap, cur, rfl, _⟩
      · unfold OwnI
        rw [h0] at hown ⊢
        exact ⟨_, _, rfl, hown, hbel⟩
      · exact ⟨_, _, rfl, hown, hbel⟩

/-- What CodesOf gives. -/
def codesR (l : List Int) : List Int := if okC l then codeL l else []
theorem codesR_len (l : List Int) : (codesR l).length ≤ 6 := by
  unfold codesR
  split
  · rename_i h
    rw [codeL_len h]
    omega
  · simp

set_option maxRecDepth 100000 in
set_option maxHeartbeats 2000000 in
theorem impl_codesof_any (A : Option Addr) (ca : Nat) (l : List Int) (w : World) (hA : Ints w w.heap.size A l) :
    Calls Try.prog 25 #[.slice A l.length ca] w fun e w' => ∃ A' c, e = .returned (.slice A' (codesR l).length c) ∧ OwnI w' w.heap.size A' c (codesR l) ∧ Below w.heap.size w w' := by
  have CO := Lib.hid (impl_codeok_any A ca l w hA)
  cases hok : okC l with
  | false =>
    rw [hok] at CO
    have hr : codesR l = [] := by unfold codesR; rw [hok]; rfl
    rw [hr]
    have HON := Lib.hid (own_none w w.heap.size)
    clear hr hok
    go_enter Try.func25, Try.ntmps25
    go_wp2_with fail
    refine CO.out.mono ?_
    rintro e w' ⟨rfl, rfl⟩
    go_wp2
    go_ret
    exact ⟨none, 0, rfl, HON.out, Below.refl _ _⟩
  | true =>
    rw [hok] at CO
    obtain ⟨hl6, hall, -⟩ := okC_parts hok
    have hr : codesR l = codeL l := by unfold codesR; rw [hok]; rfl
    have hcl := codeL_len hok
    have hv := (valid_got hok).1
    rw [hr, hcl]
    have HCL := Lib.hid hcl
    have HV := Lib.hid hv
    have HIN := Lib.hid (lenC_range hok)
    have PK := Lib.hid peeks_any
    have OR := Lib.hid (fun w hA => order_any A ca l hl6 w hA)
    have OA := Lib.hid (ordS_at l)
    have hol := ordS_len l 7 (Nat.le_refl _)
    obtain ⟨o, ho⟩ : ∃ o, o = ordS l 7 := ⟨_, rfl⟩
    rw [← ho] at HV OR OA hol
    obtain ⟨n, hn⟩ : ∃ n, n = o.length := ⟨_, rfl⟩
    rw [← hn] at OR OA hol
    have HA := Lib.hid hA
    have HN := Lib.hid hn
    obtain ⟨b, off, rfl, hb, hc⟩ := hA.at 0 (by omega)
    rw [hl6] at hc CO ⊢
    have HC := Lib.hid hc
    clear hc hA hl6 hall hr hcl hv ho hok hn
    go_enter Try.func25, Try.ntmps25
    go_wp2_with fail
    refine CO.out.mono ?_
    rintro e w' ⟨rfl, hw⟩
    subst hw
    go_wp2_with fail
    refine (repeat_any w.heap.size _ _ (by rw [World.cell?_alloc_mark]; rfl)).mono ?_
    rintro e w2 ⟨A2, c2, rfl, ho2, hb2⟩
    rcases ho2.2 with ⟨h1, h2⟩ | ⟨g, cap, cur, h1, hgb, hg3, _⟩
    · exact absurd h2 (by decide)
    simp only [Value.slice.injEq] at h1
    obtain ⟨rfl, -, rfl⟩ := h1
    have hg2 : g < w2.heap.size := (Array.getElem?_eq_some_iff.1 hg3).1
    have B2 := Lib.hid (below_step (below_new w _) hb2)
    have hbase : w.heap.size ≤ (w.alloc (.cells #[.int .i64 (-1)] 3)).heap.size := (below_new w _).size
    have ho3 : w2.ownsRow w.heap.size 3 1 (.slice (some ⟨g, 0, none⟩) 6 c2) 6 (ivs (List.replicate 6 (-1))) := by
      refine ⟨ho2.1, ?_⟩
      rcases ho2.2 with ⟨h1, h2⟩ | ⟨g', cap', cur', q1, q2, q3⟩
      · exact absurd h2 (by decide)
      · exact .inr ⟨g', cap', cur', q1, Nat.le_trans hbase q2, q3⟩
    have O2 := Lib.hid ho3
    have hgb2 : w.heap.size ≤ g := Nat.le_trans hbase hgb
    clear ho2 hb2 hg3 hgb ho3 hbase
    go_wp2_with fail
    refine (OR.out _ ((HA.out.below B2.out (Nat.le_refl _)).mono B2.out.size)).mono ?_
    rintro e w3 ⟨A3, c3, rfl, ho3, hb3⟩
    have O3 := Lib.hid ho3
    have O23 := Lib.hid (own_keep O2.out hb3)
    have B3 := Lib.hid (below_up B2.out hb3 B2.out.size)
    clear ho3 hb3 O2 B2
    go_wp2
    go_loopw [4, 6, 15] (fun f x i wr => ∃ (j : Nat) (c : List Int) (F : Int), j ≤ n ∧ (c, F) = impC l (o.take j) ∧ 0 ≤ F ∧ F ≤ 64 * (j : Int) ∧ f = .int .i64 F ∧ i = .int .i64 j ∧ c.length = 6 ∧ wr.ownsRow w.heap.size 3 1 (.slice (some ⟨g, 0, none⟩) 6 c2) 6 (ivs c) ∧ OwnI wr w2.heap.size A3 c3 o ∧ Below w.heap.size w wr)
      (fun _ _ i _ => n - (intOf i).toNat)
    case atStart => exact ⟨0, _, 0, Nat.zero_le _, rfl, Int.le_refl _, Int.le_refl _, rfl, rfl, rfl, O23.out, O3.out, B3.out⟩
    case round =>
      obtain ⟨j, c, F, hj, hI, hF0, hF1, rfl, rfl, hcl, hown, hord, hbel⟩ := hrel
      have HI := Lib.hid hI; have HCLL := Lib.hid hcl
      clear hI hcl
      by_cases hlt : j < n
      · obtain ⟨p, q, hp, hq, hop, hlp⟩ := OA.out j hlt
        have hoi := hord.ints (by have := HN.out; omega)
        obtain ⟨bo, oo, rfl, hbo, hco⟩ := hoi.at j (by rw [← HN.out]; exact hlt)
        have co := hco j (by rw [← HN.out]; exact hlt)
        rw [hop] at co
        have cl := HC.out p hp
        rw [← hbel.cell (p := ⟨b, off + p, none⟩) hb] at cl
        have cc := (hown.cellAt p (by omega)).trans (ivs_at c p (by rw [HCLL.out]; exact hp))
        have hz := hown.frozenAt p
        obtain ⟨y, hy⟩ : ∃ y, y = c.getD p 0 := ⟨_, rfl⟩
        rw [← hy] at cc
        have hin := HIN.out p
        have P0 := PK.out (lenC l p) hin
        have hkr := krI_range hin
        have hx : l.getD p 0 = (q : Int) + 1 := hlp
        rw [hx] at cl
        rw [hlp] at P0 hkr
        obtain ⟨K, hK⟩ : ∃ K, K = krI ((q : Int) + 1) := ⟨_, rfl⟩
        rw [← hK] at P0 hkr
        have s1 := hown.stored p (.int .i64 (F / 2 ^ (6 - q)))
        rw [ivs_set] at s1
        have hord2 : OwnI (wr.setCell ⟨g, p, none⟩ (.int .i64 (F / 2 ^ (6 - q)))) w2.heap.size (some ⟨bo, oo, none⟩) c3 o := hord.other s1.2 fun k hk => by
          simp only [Option.some.injEq] at hk
          omega
        have S1 := Lib.hid s1.1
        have S2 := Lib.hid hord2
        have S3 := Lib.hid (hbel.setCell (p := ⟨g, p, none⟩) hgb2 (.int .i64 (F / 2 ^ (6 - q))))
        have PP := Lib.hid P0
        have HK := Lib.hid hK; have HOP := Lib.hid hop; have HLP := Lib.hid hlp
        clear hoi hbo hco hy hin s1 hord2 P0 hK hop hlp hx hord hown hbel
        have key : impC l (o.take (j + 1)) = (c.set p (F / 2 ^ (6 - q)), F + K) := by
          rw [take_snoc_i o j (by rw [← HN.out]; exact hlt), impC_snoc, HOP.out, ← HI.out]
          unfold impC1
          rw [Int.toNat_natCast, HLP.out, ← HK.out, show (7 - ((q : Int) + 1)).toNat = 6 - q by omega]
        have KEY := Lib.hid key; clear key
        rcases (show q = 0 ∨ q = 1 ∨ q = 2 ∨ q = 3 ∨ q = 4 ∨ q = 5 ∨ q = 6 by omega) with rfl | rfl | rfl | rfl | rfl | rfl | rfl
        all_goals
          (try rw [show F / 2 ^ (6 - 6) = F by simp] at S1 S2 S3 KEY)
          go_wp2_with fail
          refine (PP.out _).mono ?_
          rintro e w' ⟨rfl, rfl⟩
          go_wp2
          go_roundw
          case rel => exact ⟨j + 1, _, F + K, by omega, KEY.out.symm, by omega, by omega, by go_num, by go_num, by rw [List.length_set]; exact HCLL.out, S1.out, S2.out, S3.out⟩
          case measure => simp [intOf]; omega
      · obtain rfl : j = n := by omega
        have O9 := Lib.hid hown; clear hown hord
        go_wp2
        go_ret
        have e1 : o.take j = o := List.take_of_length_le (by rw [← HN.out]; exact Nat.le_refl _)
        have e2 := HI.out
        rw [e1] at e2
        have e3 : c = codeL l := by rw [← HV.out, ← e2]
        refine ⟨_, _, rfl, ?_, hbel⟩
        unfold OwnI
        rw [HCL.out, ← e3]
        exact O9.out

set_option maxRecDepth 100000 in
set_option maxHeartbeats 2000000 in
theorem spec_codesof_any (A : Option Addr) (ca : Nat) (l : List Int) (hll : l.length ≤ 1048576) (w : World) (hA : Ints w w.heap.size A l) :
    Calls Try.prog 47 #[.slice A l.length ca] w fun e w' => ∃ A' c, e = .returned (.slice A' (codesR l).length c) ∧ OwnI w' w.heap.size A' c (codesR l) ∧ Below w.heap.size w w' := by
  have CO := Lib.hid (fun w hA => spec_codeok_any A ca l hll w hA)
  have O0 := Lib.hid (own_ints w w.heap.size [] (Nat.le_refl _) (by simp))
  have B0 := Lib.hid ((Below.refl w.heap.size w).alloc (Nat.le_refl _) (.cells (ivs []).toArray 3))
  have HA := Lib.hid hA
  cases hok : okC l with
  | false =>
    rw [hok] at CO
    have hr : codesR l = [] := by unfold codesR; rw [hok]; rfl
    rw [hr]
    clear hr hok hA
    go_enter Try.func47, Try.ntmps47
    go_wp2_with fail
    refine (CO.out _ ((HA.out.below B0.out (Nat.le_refl _)).mono B0.out.size)).mono ?_
    rintro e w' ⟨rfl, hw⟩
    subst hw
    go_wp2
    go_ret
    exact ⟨_, _, rfl, O0.out, B0.out⟩
  | true =>
    obtain ⟨i0, hi, hz0, hz1, hz2⟩ := info_parts Try.iinfo
    rw [hok] at CO
    obtain ⟨hl6, -, -⟩ := okC_parts hok
    have hr : codesR l = codeL l := by unfold codesR; rw [hok]; rfl
    have hcl := codeL_len hok
    rw [hr, hcl]
    have HCL := Lib.hid hcl
    obtain ⟨b, off, rfl, hb, hc⟩ := hA.at 0 (by omega)
    rw [hl6] at hc CO ⊢
    have HC := Lib.hid hc
    clear hc hA hl6 hr hcl hok hll
    go_enter Try.func47, Try.ntmps47
    go_wp2_with fail
    refine (CO.out _ ((HA.out.below B0.out (Nat.le_refl _)).mono B0.out.size)).mono ?_
    rintro e w1 ⟨rfl, hw⟩
    subst hw
    go_wp2
    go_loopw [3, 4] (fun v i wr => ∃ j : Nat, j ≤ 6 ∧ i = .int .i64 j ∧ wr.ownsRow w.heap.size 3 1 v j (ivs (List.replicate j (-1))) ∧ Below w.heap.size w wr)
      (fun _ i _ => 6 - (intOf i).toNat)
    case atStart => exact ⟨0, Nat.zero_le _, rfl, O0.out, B0.out⟩
    case round =>
      obtain ⟨j, hj, rfl, hown, hbel⟩ := hrel
      by_cases hlt : j < 6
      · go_wp2_with (at_builtin; refine append_one wr rfl (.tmp 19) (.tmp 20) 39 rfl w 3 i0 (.int .i64 0) 8 Try.underlying39 hi hz0 hz1 hz2 rfl _ _ _ rfl hown _ rfl rfl rfl (by omega) (by unfold maxLen; omega) hbel ?_; intro v' w' hown' hb')
        go_roundw
        case rel =>
          refine ⟨j + 1, by omega, by go_num, ?_, hb'⟩
          rw [List.replicate_succ', ivs_append]
          exact hown'
        case measure => simp [intOf]; omega
      · obtain rfl : j = 6 := by omega
        rcases hown.2 with ⟨_, h2⟩ | ⟨g, cap, cur, rfl, hgb, hg3, _⟩
        · exact absurd h2 (by decide)
        have hgs : g < wr.heap.size := (Array.getElem?_eq_some_iff.1 hg3).1
        have O1 := Lib.hid hown; have B1 := Lib.hid hbel
        clear hown hbel hg3
        go_wp2
        go_loopw [5, 6] (fun f s wr => ∃ (j k : Nat) (c : List Int), j ≤ 7 ∧ spW l j = (c, (k : Int)) ∧ k ≤ 6 * (2 ^ j - 1) ∧ f = .int .i64 k ∧ s = .int .i64 ((j : Int) + 1) ∧ c.length = 6 ∧ wr.ownsRow w.heap.size 3 1 (.slice (some ⟨g, 0, none⟩) 6 cap) 6 (ivs c) ∧ Below w.heap.size w wr)
          (fun _ s _ => 8 - (intOf s).toNat)
        case atStart => exact ⟨0, 0, _, Nat.zero_le _, rfl, Nat.zero_le _, rfl, rfl, rfl, O1.out, B1.out⟩
        case round =>
          obtain ⟨j, k, c, hj, hW, hk, rfl, rfl, hcl, hown, hbel⟩ := hrel
          have HW := Lib.hid hW; have HCLL := Lib.hid hcl
          clear hW hcl
          by_cases hlt2 : j < 7
          · have hq7 : decide ((j : Int) + 1 ≤ 7) = true := by simp; omega
            have hk7 : k ≤ 384 := by
              have : 2 ^ j ≤ 2 ^ 6 := Nat.pow_le_pow_right (by decide) (by omega)
              omega
            have HK := Lib.hid hk
            clear hk
            have O2 := Lib.hid hown; have B2 := Lib.hid hbel
            clear hown hbel
            obtain ⟨k2, hk2⟩ : ∃ k2, k2 = 2 * k := ⟨_, rfl⟩
            have hkk : (k : Int) * 2 = (k2 : Int) := by omega
            have hk28 : k2 ≤ 768 := by omega
            have HK2 := Lib.hid hk2
            clear hk2
            go_wp2
            go_loopw [5, 7] (fun f i wr => ∃ (m k' : Nat) (c' : List Int), m ≤ 6 ∧ spI l ((j : Int) + 1) (c, (k2 : Int)) m = (c', (k' : Int)) ∧ k' ≤ k2 + m ∧ f = .int .i64 k' ∧ i = .int .i64 m ∧ c'.length = 6 ∧ wr.ownsRow w.heap.size 3 1 (.slice (some ⟨g, 0, none⟩) 6 cap) 6 (ivs c') ∧ Below w.heap.size w wr)
              (fun _ i _ => 6 - (intOf i).toNat)
            case atStart => exact ⟨0, k2, c, Nat.zero_le _, rfl, Nat.le_refl _, by first | rfl | exact congrArg _ hkk, rfl, HCLL.out, O2.out, B2.out⟩
            case round =>
              obtain ⟨m, k', c', hm, hI, hk', rfl, rfl, hcl', hown, hbel⟩ := hrel
              have HI := Lib.hid hI; have HC2 := Lib.hid hcl'
              clear hI hcl'
              by_cases hlm : m < 6
              · have cl := HC.out m hlm
                rw [← hbel.cell (p := ⟨b, off + m, none⟩) hb] at cl
                obtain ⟨x, hx⟩ : ∃ x, x = l.getD m 0 := ⟨_, rfl⟩
                rw [← hx] at cl
                have HX := Lib.hid hx; clear hx
                by_cases hxs : x = (j : Int) + 1
                · have hq : (x == (j : Int) + 1) = true := by rw [beq_iff_eq]; exact hxs
                  have HXS := Lib.hid hxs; clear hxs
                  have cc := (hown.cellAt m (by omega)).trans (ivs_at c' m (by rw [HC2.out]; exact hlm))
                  have hz := hown.frozenAt m
                  obtain ⟨y, hy⟩ : ∃ y, y = c'.getD m 0 := ⟨_, rfl⟩
                  rw [← hy] at cc
                  have s1 := (hown.stored m (.int .i64 k')).1
                  rw [ivs_set] at s1
                  have S1 := Lib.hid s1
                  have S3 := Lib.hid (hbel.setCell (p := ⟨g, m, none⟩) hgb (.int .i64 k'))
                  clear hy s1 hown hbel
                  go_wp2
                  go_roundw
                  case rel =>
                    refine ⟨m + 1, k' + 1, c'.set m k', by omega, ?_, by omega, by go_num, by go_num, by rw [List.length_set]; exact HC2.out, S1.out, S3.out⟩
                    rw [spI, if_pos (by show l.getD m 0 = _; rw [← HX.out]; exact HXS.out), HI.out]
                    rfl
                  case measure => simp [intOf]; omega
                · have hq : (x == (j : Int) + 1) = false := by rw [beq_eq_false_iff_ne]; exact hxs
                  have HXS := Lib.hid hxs; clear hxs
                  go_wp2
                  go_roundw
                  case rel =>
                    refine ⟨m + 1, k', c', by omega, ?_, by omega, by first | rfl | go_num, by go_num, HC2.out, hown, hbel⟩
                    rw [spI, if_neg (by show ¬ l.getD m 0 = _; rw [← HX.out]; exact HXS.out), HI.out]
                  case measure => simp [intOf]; omega
              · obtain rfl : m = 6 := by omega
                have O3 := Lib.hid hown; clear hown
                go_wp2
                go_roundw
                case rel =>
                  refine ⟨j + 1, k', c', by omega, ?_, ?_, rfl, by go_num, HC2.out, O3.out, hbel⟩
                  · rw [spW, HW.out, ← HI.out, HK2.out]
                    congr 1
                  · have := HK.out; have := HK2.out
                    rw [Nat.pow_succ]
                    have := Nat.two_pow_pos j
                    omega
                case measure => simp [intOf]; omega
          · obtain rfl : j = 7 := by omega
            have O3 := Lib.hid hown; clear hown
            go_wp2
            go_ret
            have e3 : c = codeL l := by unfold codeL; rw [HW.out]
            refine ⟨_, _, rfl, ?_, hbel⟩
            unfold OwnI
            rw [HCL.out, ← e3]
            exact O3.out
end Go.Proofs.Ytgacldhpohnpaaa
