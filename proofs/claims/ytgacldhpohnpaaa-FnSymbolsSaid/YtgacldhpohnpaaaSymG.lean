/-
  Contracts of the draws of the law of reading symbols: a reader over codes of symbols, and the reader with its lengths. Condition: the input is no longer than 1048576 bytes.
-/
import Derived.Test.YtgacldhpohnpaaaSymE
import Derived.Test.YtgacldhpohnpaaaSymR
namespace Go.Proofs.Ytgacldhpohnpaaa
open Go.RowKit
set_option linter.unusedVariables false

/-- A symbol's bits are seven at most. -/
theorem symB_seven (l : List Int) (m : Int) : (symB l m).length ≤ 7 := by
  by_cases h : okC l = true ∧ 0 ≤ m ∧ m < 6
  · obtain ⟨hok, h0, h6⟩ := h
    obtain ⟨p, rfl⟩ := Int.eq_ofNat_of_zero_le h0
    have hp : p < 6 := by omega
    unfold symB
    rw [if_pos ⟨hok, by omega, by omega⟩, Int.toNat_natCast]
    have hin := lenC_range hok p
    simp only [inC, Bool.and_eq_true, decide_eq_true_eq] at hin
    unfold inR
    split
    · rw [inL_len]; omega
    · simp
  · unfold symB
    rw [if_neg h]
    simp
/-- A view behind a write to a block that it does not lie in. -/
theorem Ints.away {w w' : World} {G g : Nat} {A : Option Addr} {l : List Int} (h : Ints w G A l) (hf : ∀ b off, A = some ⟨b, off, none⟩ → b ≠ g) (hg : w.grownBy w' (some g)) (hG : G ≤ w.heap.size) : Ints w' G A l := by
  obtain ⟨hm, h0 | ⟨b, off, hA, hbg, hc⟩⟩ := h
  · exact ⟨hm, .inl h0⟩
  · have hb := hg.block b (Nat.lt_of_lt_of_le hbg hG) (fun e => hf b off hA (Option.some.inj e))
    refine ⟨hm, .inr ⟨b, off, hA, hbg, fun i hi => ?_⟩⟩
    rw [World.cell?_of_block (w := w) (w' := w') (a := ⟨b, off + i, none⟩) hb]
    exact hc i hi

set_option maxRecDepth 100000 in
set_option maxHeartbeats 1000000 in
theorem l8reader_ex (A : Option Addr) (cap : Nat) (zs : List Int) (i : Nat) (h : Int) (hi : i ≤ zs.length) (w : World) (g : Nat) (hC : Cursor w g A cap zs i h)
    (AL : Option Addr) (cl : Nat) (l : List Int) (hl6 : l.length ≤ 6) (hI : Ints w w.heap.size AL l) (hf : ∀ b off, AL = some ⟨b, off, none⟩ → b ≠ g) :
    Calls Try.prog 87 #[.pointer (some ⟨g, 0, none⟩), .slice AL l.length cl] w (RdOut w g A cap zs) := by
  have hgw := hC.lt
  have HC := Lib.hid hC; have HF := Lib.hid hf; have HL6 := Lib.hid hl6
  have SB := Lib.hid (fun m w hA => spec_symbits_any AL cl l m (by omega) w hA)
  have SV := Lib.hid (fun m => symB_seven l m)
  obtain ⟨nl, hnl⟩ : ∃ n, n = l.length := ⟨_, rfl⟩
  rw [← hnl] at SB ⊢
  obtain ⟨i0, hii, hz0, hz1, hz2⟩ := info_parts Try.iinfo
  have C1 := HC.out.alloc (.cells #[.string ⟨#[]⟩, .int .i64 0] 35)
  have C2 := Lib.hid (C1.alloc (.cells (ivs []).toArray 3))
  have R1 := heap_alloc_new w (.cells #[.string ⟨#[]⟩, .int .i64 0] 35)
  have R2 := Lib.hid (heap_keep R1 (.cells (ivs []).toArray 3))
  have Q2 := Lib.hid (grown_alloc (World.grownBy_alloc w (.cells #[.string ⟨#[]⟩, .int .i64 0] 35) (some g)) (.cells (ivs []).toArray 3))
  have O2 := Lib.hid (own_ints (w.alloc (.cells #[.string ⟨#[]⟩, .int .i64 0] 35)) (w.heap.size + 1) [] (by simp) (by simp))
  have IL2 := Lib.hid (hI.away hf Q2.out (Nat.le_refl _))
  clear hC hI hf hl6 hnl C1 R1
  obtain ⟨N, i2, h2, a2, b2, _, l2, CB⟩ := below_det A cap zs i h hi 5
  have b2 := b2 (by decide)
  obtain ⟨N, rfl⟩ := Int.eq_ofNat_of_zero_le a2
  have CN := Lib.hid CB; clear CB
  go_enter Try.func87, Try.ntmps87
  go_wp2_with fail
  refine (CN.out _ _ C2.out).mono ?_
  rintro e w3 ⟨rfl, hC3, hg3⟩
  have R3 := Lib.hid (grown_at R2.out hg3 (by omega))
  have Q3 := Lib.hid (Q2.out.trans hg3)
  have G3 := Lib.hid hC3
  have O3 := Lib.hid (World.ownsRow.kept O2.out hg3 (own_far O2.out (by omega)))
  have IL3 := Lib.hid (IL2.out.away HF.out hg3 (by simp; omega))
  clear hC3 hg3
  go_wp2
  go_loopw [5, 6] (fun v x wr => ∃ (k : Nat) (i2 : Nat) (h2 : Int) (p : List Int), k ≤ 4 ∧ x = .int .i64 k ∧ wr.ownsRow (w.heap.size + 1) 3 1 v p.length (ivs p) ∧ p.length ≤ 28 - 7 * k ∧ i2 ≤ zs.length ∧ Cursor wr g A cap zs i2 h2 ∧ wr.heap[w.heap.size]? = some (.cells #[.string ⟨#[]⟩, .int .i64 0] 35 (0, 0)) ∧ w.grownBy wr (some g) ∧ Ints wr w.heap.size AL l)
    (fun _ x _ => (intOf x).toNat)
  case atStart => exact ⟨N, i2, h2, [], by omega, rfl, by have h := O3.out; rwa [show (w.alloc (.cells #[.string ⟨#[]⟩, .int .i64 0] 35)).heap.size = w.heap.size + 1 by simp] at h, by simp, l2, G3.out, R3.out, Q3.out, IL3.out⟩
  case round =>
    obtain ⟨k, i4, h4, p, hk4, rfl, hown, hp, li4, hCr, hRr, hgr, hIr⟩ := hrel
    have HO4 := Lib.hid hown; have HC4 := Lib.hid hCr; have HR4 := Lib.hid hRr; have HG4 := Lib.hid hgr; have IL4 := Lib.hid hIr
    clear hown hCr hRr hgr hIr
    obtain ⟨m, hm⟩ : ∃ m, m = p.length := ⟨_, rfl⟩
    rw [← hm] at HO4 hp
    have HM := Lib.hid hm; clear hm
    by_cases hk : 0 < k
    · have hq : decide (0 < (k : Int)) = true := by simp; omega
      obtain ⟨x, i5, h5, x0, x1, _, l5, C5⟩ := below_det A cap zs i4 h4 li4 6
      have HC5 := Lib.hid C5; clear C5
      have hul := SV.out x
      have HU := Lib.hid (SB.out x)
      obtain ⟨r, hr⟩ : ∃ r, r = symB l x := ⟨_, rfl⟩
      rw [← hr] at HU hul
      clear hr
      go_wp2_with fail
      refine (HC5.out _ _ HC4.out).mono ?_
      rintro e w5 ⟨rfl, hC5, hg5⟩
      have R5 := Lib.hid (grown_at HR4.out hg5 (by omega))
      have Q5 := Lib.hid (HG4.out.trans hg5)
      have G5 := Lib.hid hC5
      have O5 := Lib.hid (World.ownsRow.kept HO4.out hg5 (own_far HO4.out (by omega)))
      have IL5 := Lib.hid (IL4.out.away HF.out hg5 HG4.out.size)
      clear hC5 hg5
      go_wp2_with fail
      refine (HU.out _ (IL5.out.mono Q5.out.size)).mono ?_
      rintro e w6 ⟨A6, c6, rfl, ho6, hb6⟩
      have R6 := Lib.hid (cell_kept R5.out hb6)
      have Q6 := Lib.hid (Q5.out.trans (below_grows hb6 _))
      have G6 := Lib.hid (cursor_below G5.out hb6)
      have O6 := Lib.hid (World.ownsRow.kept (row := none) O5.out ⟨hb6.os, hb6.tape, hb6.output, hb6.size, fun k hk _ => hb6.block k hk⟩ (by cases hv : Value.ownBlock _ <;> simp))
      have P6 := Lib.hid ho6.placed
      have I6 := Lib.hid (ho6.ints (by omega))
      have IL6 := Lib.hid (IL5.out.below hb6 Q5.out.size)
      have hsz6 := Q6.out.size
      have hsz7 : w.heap.size + 1 ≤ w6.heap.size := by have := heap_lt R6.out; omega
      clear ho6 hb6
      go_wp2_with (at_builtin; refine append_row rfl (.tmp 15) (.tmp 19) 39 rfl (w.heap.size + 1) i0 Try.underlying39 hii hz0 hz1 hz2 _ _ _ rfl O6.out _ _ _ _ rfl rfl _ I6.out P6.out (by omega) hsz7 ?_; intro v' w7 hown7 hg7)
      go_roundw
      case rel =>
        refine ⟨k - 1, i5, h5, p ++ r, by omega, by congr 1; omega, by rw [List.length_append, ← HM.out]; exact hown7, by rw [List.length_append, ← HM.out]; omega, l5, G6.out.grown hg7 (fun j hj => by have := (O6.out.lt j hj).1; omega), ?_, grown_own Q6.out hg7 (fun j hj => by have := (O6.out.lt j hj).1; omega), IL6.out.grown hg7 (by omega) (fun j hj => by have := (O6.out.lt j hj).1; omega)⟩
        rw [hg7.block _ (heap_lt R6.out) (fun e => by have := (O6.out.lt _ e.symm).1; omega)]
        exact R6.out
      case measure => simp [intOf]; omega
    · obtain rfl : k = 0 := by omega
      have hq : decide (0 < ((0 : Nat) : Int)) = false := by simp
      obtain ⟨A8, c8, rfl⟩ := own_form HO4.out
      have hss := stopS_size p
      rw [← HM.out] at hss
      obtain ⟨b, i9, h9, l9, C9⟩ := once_det A cap zs i4 h4 li4 4
      have HC9 := Lib.hid C9; clear C9
      go_wp2_with fail
      refine (HC9.out _ _ HC4.out).mono ?_
      rintro e w9 ⟨rfl, hC9, hg9⟩
      have R9 := Lib.hid (grown_at HR4.out hg9 (by omega))
      have Q9 := Lib.hid (HG4.out.trans hg9)
      have G9 := Lib.hid hC9
      have O9 := Lib.hid (World.ownsRow.kept HO4.out hg9 (own_far HO4.out (by omega)))
      clear hC9 hg9
      cases b with
      | false =>
        have hO8 : OwnI w9 (w.heap.size + 1) A8 c8 p := by unfold OwnI; rw [← HM.out]; exact O9.out
        have ST := Lib.hid (spec_stopped_any A8 c8 p (by rw [← HM.out]; omega) w9 (hO8.ints (by rw [← HM.out]; omega)) hO8.placed)
        rw [← HM.out] at ST
        obtain ⟨S, hS⟩ : ∃ S, S = stopS p := ⟨_, rfl⟩
        rw [← hS] at hss ST
        clear hS hO8
        go_wp2_with fail
        refine ST.out.mono ?_
        rintro e w8 ⟨rfl, hb8⟩
        have R8 := Lib.hid (cell_kept R9.out hb8)
        have Q8 := Lib.hid (Q9.out.trans (below_grows hb8 _))
        have G8 := Lib.hid (cursor_below G9.out hb8)
        clear hb8 ST
        obtain ⟨d0, d1⟩ := cells2 R8.out
        have f0 := frozen_of_row _ _ 0 _ _ R8.out
        have f1 := frozen_of_row _ _ 1 _ _ R8.out
        have hE := cells2 (block_set2 R8.out (.string S) (.int .i64 0))
        have hCE := cursor_new (cursor_new G8.out hgw 0 (.string S)) hgw 1 (.int .i64 0)
        have hQE := grown_new (grown_new Q8.out (Nat.le_refl _) 0 (.string S)) (Nat.le_refl _) 1 (.int .i64 0)
        have HE := Lib.hid hE; have HCE := Lib.hid hCE; have HQE := Lib.hid hQE
        clear hE hCE hQE
        go_wp2
        obtain ⟨e0, e1⟩ := HE.out
        exact bodyPost_ret (v := .agg #[.string S, .int .i64 0]) (by simp [results, Try.results87, go_sem, e0, e1]) rfl ⟨S, 0, i9, h9, rfl, by omega, by omega, by omega, l9, HCE.out, HQE.out⟩
      | true =>
        obtain ⟨s3, a3, i10, h10, s8, a0, a1, l10, C10⟩ := l3reader_det A cap zs i9 h9 l9
        have HC10 := Lib.hid C10; clear C10
        go_wp2_with fail
        refine (HC10.out _ _ G9.out).mono ?_
        rintro e w10 ⟨rfl, hC10, hg10⟩
        have R10 := Lib.hid (grown_at R9.out hg10 (by omega))
        have Q10 := Lib.hid (Q9.out.trans hg10)
        have G10 := Lib.hid hC10
        clear hC10 hg10
        obtain ⟨d0, d1⟩ := cells2 R10.out
        have f0 := frozen_of_row _ _ 0 _ _ R10.out
        have f1 := frozen_of_row _ _ 1 _ _ R10.out
        have hE := cells2 (block_set2 R10.out (.string s3) (.int .i64 a3))
        have hCE := cursor_new (cursor_new G10.out hgw 0 (.string s3)) hgw 1 (.int .i64 a3)
        have hQE := grown_new (grown_new Q10.out (Nat.le_refl _) 0 (.string s3)) (Nat.le_refl _) 1 (.int .i64 a3)
        have HE := Lib.hid hE; have HCE := Lib.hid hCE; have HQE := Lib.hid hQE
        clear hE hCE hQE
        go_wp2
        obtain ⟨e0, e1⟩ := HE.out
        exact bodyPost_ret (v := .agg #[.string s3, .int .i64 a3]) (by simp [results, Try.results87, go_sem, e0, e1]) rfl ⟨s3, a3, i10, h10, rfl, by omega, a0, by omega, l10, HCE.out, HQE.out⟩

/-- What the draw of a reader with lengths leaves. -/
def RyOut (w : World) (e : Ending) (w' : World) : Prop :=
  ∃ (s : ByteArray) (a : Int) (l : List Int) (A' : Option Addr) (c : Nat), e = .returned (.tuple #[.agg #[.string s, .int .i64 a], .slice A' l.length c]) ∧ s.size ≤ 1000 ∧ -1 ≤ a ∧ a ≤ 1000 ∧ l.length ≤ 6 ∧ Ints w' w'.heap.size A' l ∧ Below w.heap.size w w'

set_option maxRecDepth 100000 in
set_option maxHeartbeats 1000000 in
theorem drawreadsym_ex (A : Option Addr) (cap : Nat) (zs : List Int) (w : World) (hW : Code w A zs) :
    Calls Try.prog 33 #[.slice A zs.length cap] w (RyOut w) := by
  have HN := Lib.hid (fun w hb => new_any A cap zs hW.few hW.bytes w hb)
  have HW := Lib.hid hW
  clear hW
  go_enter Try.func33, Try.ntmps33
  go_wp2_with fail
  refine (HN.out _ ((HW.out.below (below_new w _)).lies)).mono ?_
  obtain ⟨g, hg⟩ : ∃ g, g = (w.alloc (.cells #[.string ⟨#[]⟩, .int .i64 0] 35)).heap.size := ⟨_, rfl⟩
  have hgw : w.heap.size < g := by rw [hg]; simp
  rw [← hg]
  rintro e w1 ⟨rfl, hC, hb⟩
  rw [hg] at hb
  have G1 := Lib.hid hC; clear hC
  have R1 := Lib.hid (cell_kept (heap_alloc_new w _) hb)
  have B1 := Lib.hid (below_step (below_new w _) hb); clear hb hg
  go_wp2_with fail
  refine (l8any_ex A cap zs 0 _ (Nat.zero_le _) _ g G1.out).mono ?_
  rintro e w2 hout
  obtain ⟨l, AL, cl, i2, h2, rfl, hl6, hI2, hF2, l2, hC2, hg2⟩ := hout
  have G2 := Lib.hid hC2
  have I2 := Lib.hid hI2
  have hF : ∀ b off, AL = some ⟨b, off, none⟩ → b ≠ g := fun b off hb => by have h1 := hF2 b off hb; have h2 := G1.out.lt; omega
  have HF := Lib.hid hF
  have hFw : ∀ b off, AL = some ⟨b, off, none⟩ → b ≠ w.heap.size := fun b off hb => by have h1 := hF2 b off hb; have h2 := G1.out.lt; omega
  have HFW := Lib.hid hFw
  have R2 := Lib.hid (grown_at R1.out hg2 (by omega))
  have B2 := Lib.hid (B1.out.trans (grown_below hg2 (Nat.le_of_lt hgw) B1.out.size)); clear hC2 hg2 hI2 hF2 hF hFw
  go_wp2_with fail
  refine (l8reader_ex A cap zs i2 h2 l2 _ g G2.out AL cl l hl6 I2.out HF.out).mono ?_
  rintro e w3 hout
  obtain ⟨s, a, i3, h3, rfl, hs, ha0, ha1, l3, hC3, hg3⟩ := hout
  have R3 := Lib.hid (grown_at R2.out hg3 (by omega))
  have I3 := Lib.hid ((I2.out.away HF.out hg3 (Nat.le_refl _)).mono hg3.size)
  have B3 := Lib.hid (B2.out.trans (grown_below hg3 (Nat.le_of_lt hgw) B2.out.size)); clear hC3 hg3
  obtain ⟨d0, d1⟩ := cells2 R3.out
  have f0 := frozen_of_row _ _ 0 _ _ R3.out
  have f1 := frozen_of_row _ _ 1 _ _ R3.out
  have hE := cells2 (block_set2 R3.out (.string s) (.int .i64 a))
  have hBE := below_set2 B3.out w.heap.size (Nat.le_refl _) (.string s) (.int .i64 a)
  have HE := Lib.hid hE; have HBE := Lib.hid hBE
  clear hE hBE
  have hIE : Ints ((w3.setCell ⟨w.heap.size, 0, none⟩ (.string s)).setCell ⟨w.heap.size, 1, none⟩ (.int .i64 a)) ((w3.setCell ⟨w.heap.size, 0, none⟩ (.string s)).setCell ⟨w.heap.size, 1, none⟩ (.int .i64 a)).heap.size AL l := by
    have h1 := grown_set (grown_set (grown_refl w3 (some w.heap.size)) 0 (.string s)) 1 (.int .i64 a)
    exact (I3.out.away HFW.out h1 (Nat.le_refl _)).mono h1.size
  have HIE := Lib.hid hIE
  clear hIE
  go_wp2
  obtain ⟨e0, e1⟩ := HE.out
  exact bodyPost_ret (v := .tuple #[.agg #[.string s, .int .i64 a], .slice AL l.length cl]) (by simp [results, Try.results33, go_sem, e0, e1]) rfl ⟨s, a, l, AL, cl, rfl, hs, ha0, ha1, hl6, HIE.out, HBE.out⟩
end Go.Proofs.Ytgacldhpohnpaaa
