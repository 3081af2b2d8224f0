/-
  The law on symbols: what the fast way reads is what is read bit by bit; the walk of the law. No condition.
-/
import Derived.Test.YtgacldhpohnpaaaSymG
import Derived.Test.YtgacldhpohnpaaaSymFC
import Derived.Test.YtgacldhpohnpaaaFastC
import Derived.Deep.RegionHeld3
import Derived.Deep.DeepCutAuto
import Derived.IntWalk
namespace Go.Proofs.Ytgacldhpohnpaaa
open Go.RowKit
set_option linter.unusedVariables false

theorem fnY_bits (s : ByteArray) (a P : Nat) (hA : At s a P) : ∃ m, m ≤ 7 ∧ a + m ≤ 8 * s.size ∧ (m = 7 ∨ a + m = 8 * s.size) ∧ fnY s a P = rdN s a m * 2 ^ (7 - m) := by
  obtain ⟨h1, h2, h3⟩ := hA
  obtain ⟨q1, q2, q3⟩ := (pkP_at s a P 7 ⟨h1, h2, h3⟩).2
  unfold fnY pkV
  by_cases h : 8 * pkP s a P 7 - a < 7
  · rw [if_pos h]
    have hQ : pkP s a P 7 = s.size := by
      have hk := (pkP_has s a P 7 ⟨h1, h2, h3⟩ (by decide))
      unfold pkP rfP at h q1 ⊢
      split at h
      · rename_i h8
        rw [if_pos h8] at q1 ⊢
        split at h
        · rename_i h9
          rw [if_pos h9] at q1 ⊢
          omega
        · omega
      · omega
    refine ⟨8 * pkP s a P 7 - a, by omega, by omega, .inr (by omega), ?_⟩
    rw [Int.toNat_natCast]
  · rw [if_neg h]
    exact ⟨7, Nat.le_refl _, by omega, .inl rfl, by simp⟩
theorem fnY_rx (s : ByteArray) (a P : Nat) (hA : At s a P) : fnY s a P = rx s a := by
  obtain ⟨m, h1, h2, h3, h4⟩ := fnY_bits s a P hA
  have e : min 7 (8 * s.size - a) = m := by omega
  rw [h4, rx, e]
/-- The fast way answers what is read bit by bit. -/
theorem take_sym (s : ByteArray) (a P : Nat) (hA : At s a P) (l : List Int) (hok : okC l = true) : quick7 s a P (symT l) ∧ ∃ D Pd : Nat, At s D Pd ∧ syP s (a : Int) l = (D : Int) ∧
    takeR s a P (entAt (symT l) (fnY s a P)).1.toNat (entAt (symT l) (fnY s a P)).2 = .tuple #[cw s D Pd, .int .i64 (syM s (a : Int) l), .int .i64 (syF s (a : Int) l)] := by
  have hx := (fnY_eq s a P).2
  obtain ⟨p, q, hp, hq, hl, he, -⟩ := valid_has hok (fnY s a P) hx
  have hrx := fnY_rx s a P hA
  have hA' := hA
  obtain ⟨h1, h2, h3⟩ := hA
  refine ⟨⟨symT_len hok, by rw [he]; show (1 : Int) ≤ (q : Int) + 1; omega, by rw [he]; show (q : Int) + 1 ≤ 7; omega⟩, ?_⟩
  have hE : symE s (a : Int) l = ((q : Int) + 1, (p : Int)) := by unfold symE; rw [Int.toNat_natCast, ← hrx]; exact he
  have hrd : rdOk s (a : Int) = true := (rdOk_true _ _).2 ⟨by omega, by omega⟩
  have hto : ((q : Int) + 1).toNat = q + 1 := by omega
  rw [he]
  show ∃ D Pd : Nat, _ ∧ _ ∧ takeR s a P ((q : Int) + 1).toNat (p : Int) = _
  rw [hto]
  unfold takeR
  by_cases hin : a + (q + 1) ≤ 8 * s.size
  · have hh : sHit s (a : Int) l = true := by
      unfold sHit
      rw [hok, hrd, hE]
      simp only [Bool.true_and, decide_eq_true_eq]
      omega
    refine ⟨a + (q + 1), (a + (q + 1) + 7) / 8, ⟨by omega, by omega, by omega⟩, ?_, ?_⟩
    · unfold syP; rw [if_pos hh, hE]; show (a : Int) + ((q : Int) + 1) = _; omega
    · rw [if_pos hin]; unfold syM syF; rw [if_pos hh, if_pos hh, if_pos hok, hE]
  · have hh : sHit s (a : Int) l = false := by
      unfold sHit
      rw [hok, hrd, hE]
      simp only [Bool.true_and, decide_eq_false_iff_not]
      omega
    refine ⟨a, P, hA', ?_, ?_⟩
    · unfold syP; rw [hh]; rfl
    · rw [if_neg hin]; unfold syM syF; rw [hh, hok]; rfl
/-- Bits that are there are skipped. -/
theorem skip_ok (s : ByteArray) (b P n : Nat) (hs : s.size ≤ 1048576) (hA : At s b P) (hn : n ≤ 16) (hb : b + n ≤ 8 * s.size) : ∃ Q : Nat, At s (b + n) Q ∧ ∀ w : World,
    Calls Try.prog 37 #[cw s b P, .int .i64 n] w fun e w' => e = .returned (.tuple #[cw s (b + n) Q, .bool true]) ∧ Below w.heap.size w w' := by
  have h1 := (pkP_has s b P n hA hn).2 hb
  obtain ⟨h2, q1, q2, q3⟩ := pkP_at s b P n hA
  refine ⟨pkP s b P n, ⟨q1, by omega, by omega⟩, fun w => ?_⟩
  have h := spec_skip_in s b P n hs hA hn w
  unfold skR at h
  rw [if_pos h1, decide_eq_true h1] at h
  exact h
theorem place_at (s : ByteArray) (b P : Nat) (hs : s.size ≤ 1048576) (hA : At s b P) (w : World) :
    Calls Try.prog 22 #[cw s b P] w fun e w' => e = .returned (.int .i64 (b : Int)) ∧ Below w.heap.size w w' := spec_placein_in s b P hs hA w

set_option maxRecDepth 100000 in
set_option maxHeartbeats 400000 in
theorem symbols_big (a : Option Addr) (cap len : Nat) (hbig : 1048576 < len) (hm : len ≤ 9223372036854775807) (w : World) :
    Calls Try.prog 5 #[.slice a len cap] w fun e w' => e = .returned (.bool true) ∧ Below w.heap.size w w' := by
  have h := big_any a len cap hm
  rw [decide_eq_true (by omega)] at h
  have HB := Lib.hid h
  clear h
  go_enter Try.func5, Try.ntmps5
  go_wp2_with fail
  refine (HB.out _).mono ?_
  rintro e w' ⟨rfl, rfl⟩
  go_wp2
  go_ret
  exact ⟨rfl, Below.refl _ _⟩

set_option maxRecDepth 100000 in
set_option maxHeartbeats 4000000 in
theorem symbols_in (A : Option Addr) (cap : Nat) (ys : List Int) (w : World) (hw : Code w A ys) (N : Nat) (hbig : decide (1048576 < (N : Int)) = false)
    (BG : Hid (∀ w, Calls Try.prog 13 #[.slice A N cap] w fun e w' => e = .returned (.bool (decide (1048576 < (N : Int)))) ∧ w = w'))
    (DF : Hid (∀ w, Code w A ys → Calls Try.prog 33 #[.slice A N cap] w (RyOut w))) :
    Calls Try.prog 5 #[.slice A N cap] w fun e w' => e = .returned (.bool true) ∧ Below w.heap.size w w' := by
  have W0 := Lib.hid hw
  clear hw
  go_enter Try.func5, Try.ntmps5
  go_wp2_with fail
  refine (BG.out _).mono ?_
  rintro e w' ⟨rfl, hw⟩
  subst hw
  go_wp2_with fail
  refine (DF.out _ W0.out).mono ?_
  rintro e w1 ⟨s, a, l, AL, cl, rfl, hs, ha0, ha1, hl6, hI1, hb1⟩
  have IM := Lib.hid (fun w hA => impl_readsym_any s a (by omega) AL cl l w hA)
  have SP := Lib.hid (fun w hA => spec_readsym_any s a (by omega) AL cl l (by omega) w hA)
  have SC := Lib.hid (fun w hA => spec_codeok_any AL cl l (by omega) w hA)
  have RO := Lib.hid (spec_readerok_any s a (by omega))
  have IT := Lib.hid (fun w hA => impl_symtable_any AL cl l w hA)
  unfold syR at IM SP
  have HK := Lib.hid (fun (n : Nat) (hA : a = (n : Int)) (P : Nat) (hP : At s n P) (hok : okC l = true) => take_sym s n P hP l hok)
  obtain ⟨vP, hvP⟩ : ∃ v, v = syP s a l := ⟨_, rfl⟩
  obtain ⟨vM, hvM⟩ : ∃ v, v = syM s a l := ⟨_, rfl⟩
  obtain ⟨vF, hvF⟩ : ∃ v, v = syF s a l := ⟨_, rfl⟩
  rw [← hvP, ← hvM, ← hvF] at IM SP
  obtain ⟨nl, hnl⟩ : ∃ n, n = l.length := ⟨_, rfl⟩
  rw [← hnl] at IM SP SC IT ⊢
  have HVP := Lib.hid hvP; have HVM := Lib.hid hvM; have HVF := Lib.hid hvF; have HNL := Lib.hid hnl
  clear hvP hvM hvF hnl
  have R1 := Lib.hid (heap_alloc_new w1 (.cells #[.string s, .int .i64 a] 35))
  have N1 := Lib.hid (below_new w1 (.cells #[.string s, .int .i64 a] 35))
  have B1 := Lib.hid (below_up hb1 N1.out hb1.size)
  have I1 := Lib.hid ((hI1.below N1.out (Nat.le_refl _)).mono N1.out.size)
  clear hI1 hb1
  go_wp2_with fail
  refine (IM.out _ I1.out).mono ?_
  rintro e w2 ⟨rfl, hb2⟩
  have N2 := Lib.hid (below_new w2 (.cells #[.string s, .int .i64 vP] 35))
  have R2 := Lib.hid (heap_keep (cell_kept R1.out hb2) (.cells #[.string s, .int .i64 vP] 35))
  have X2 := Lib.hid (heap_alloc_new w2 (.cells #[.string s, .int .i64 vP] 35))
  have B2 := Lib.hid (below_up (below_up B1.out hb2 B1.out.size) N2.out (Nat.le_trans B1.out.size hb2.size))
  have I2 := Lib.hid ((((I1.out.below hb2 (Nat.le_refl _)).mono hb2.size).below N2.out (Nat.le_refl _)).mono N2.out.size)
  clear hb2
  obtain ⟨r0, r1⟩ := cells2 R2.out
  go_wp2_with fail
  refine (SP.out _ I2.out).mono ?_
  rintro e w3 ⟨rfl, hb3⟩
  clear r0 r1
  have N3 := Lib.hid (below_new w3 (.cells #[.string s, .int .i64 vP] 35))
  have R3 := Lib.hid (heap_keep (cell_kept R2.out hb3) (.cells #[.string s, .int .i64 vP] 35))
  have X3 := Lib.hid (heap_keep (cell_kept X2.out hb3) (.cells #[.string s, .int .i64 vP] 35))
  have B3 := Lib.hid (below_up (below_up B2.out hb3 B2.out.size) N3.out (Nat.le_trans B2.out.size hb3.size))
  have I3 := Lib.hid ((((I2.out.below hb3 (Nat.le_refl _)).mono hb3.size).below N3.out (Nat.le_refl _)).mono N3.out.size)
  clear hb3
  have q1 : (vM != vM) = false := by simp
  have q2 : (vF != vF) = false := by simp
  obtain ⟨r0, r1⟩ := cells2 R3.out
  cases hro : rdOk s a with
  | false =>
    rw [hro] at RO
    go_wp2_with fail
    refine (RO.out _).mono ?_
    rintro e w4 ⟨rfl, hb4⟩
    have B4 := Lib.hid (below_up B3.out hb4 B3.out.size)
    clear hb4
    go_wp2
    go_ret
    exact ⟨rfl, B4.out⟩
  | true =>
    rw [hro] at RO
    go_wp2_with fail
    refine (RO.out _).mono ?_
    rintro e w4 ⟨rfl, hb4⟩
    have B4 := Lib.hid (below_up B3.out hb4 B3.out.size)
    have I4 := Lib.hid ((I3.out.below hb4 (Nat.le_refl _)).mono hb4.size)
    have R4 := Lib.hid (cell_kept R3.out hb4)
    have X4 := Lib.hid (cell_kept X3.out hb4)
    clear hb4 r0 r1
    cases hok : okC l with
    | false =>
      rw [hok] at SC
      go_wp2_with fail
      refine (SC.out _ I4.out).mono ?_
      rintro e w' ⟨rfl, hw⟩
      subst hw
      go_wp2
      go_ret
      exact ⟨rfl, B4.out⟩
    | true =>
      rw [hok] at SC
      obtain ⟨ha0', ha8⟩ := (rdOk_true s a).1 hro
      obtain ⟨n, rfl⟩ := Int.eq_ofNat_of_zero_le ha0'
      have HOK := Lib.hid hok
      have htl := symT_len hok
      have e2 : symTR l = symT l := by unfold symTR; rw [hok]; rfl
      rw [e2, htl] at IT
      have TK : Hid (∀ P, At s n P → quick7 s n P (symT l) ∧ ∃ D Pd : Nat, At s D Pd ∧ vP = (D : Int) ∧ takeR s n P (entAt (symT l) (fnY s n P)).1.toNat (entAt (symT l) (fnY s n P)).2 = .tuple #[cw s D Pd, .int .i64 vM, .int .i64 vF]) := Lib.hid (fun P hP => by
        have h := HK.out n rfl P hP hok
        rw [← HVP.out, ← HVM.out, ← HVF.out] at h
        exact h)
      clear HK HVP HVM HVF e2 hok hro ha0'
      have HTL := Lib.hid htl; clear htl
      have NW := Lib.hid (spec_new_any s)
      unfold cv at NW
      go_wp2_with fail
      refine (SC.out _ I4.out).mono ?_
      rintro e w' ⟨rfl, hw⟩
      subst hw
      obtain ⟨r0, r1⟩ := cells2 R4.out
      go_wp2_with fail
      refine (NW.out _).mono ?_
      rintro e w5 ⟨rfl, hb5⟩
      clear r0 r1
      have I5 := Lib.hid ((I4.out.below hb5 (Nat.le_refl _)).mono hb5.size)
      have R5 := Lib.hid (cell_kept R4.out hb5)
      have X5 := Lib.hid (cell_kept X4.out hb5)
      have B5 := Lib.hid (below_up B4.out hb5 B4.out.size)
      have C6 := Lib.hid (heap_alloc_new w5 (.cells #[.string s, .int .i64 0, .int .i64 0, .int .i64 0] 25))
      have N6 := Lib.hid (below_new w5 (.cells #[.string s, .int .i64 0, .int .i64 0, .int .i64 0] 25))
      clear hb5
      go_wp2
      go_loopw [12] (fun x wr => ∃ i P : Nat, i ≤ 64 ∧ At s (16 * i) P ∧ 16 * i ≤ n ∧ x = .int .i64 i ∧ wr.heap[w5.heap.size]? = some (.cells #[.string s, .int .i64 P, .int .i64 ((rdN s (16 * i) (8 * P - 16 * i) : Nat) : Int), .int .i64 ((8 * P - 16 * i : Nat) : Int)] 25 (0, 0)) ∧ Below w5.heap.size w5 wr)
        (fun x _ => 64 - (intOf x).toNat)
      case atStart => exact ⟨0, 0, by omega, ⟨by omega, by omega, by omega⟩, by omega, rfl, C6.out, N6.out⟩
      case round =>
        obtain ⟨i, P, hi, hAt, hin, rfl, hK, hbel⟩ := hrel
        have PI := place_at s (16 * i) P (by omega) hAt
        unfold cw cv at PI
        have HAT := Lib.hid hAt
        have SKf := Lib.hid (fun m hm hb => skip_ok s (16 * i) P m (by omega) hAt hm hb)
        obtain ⟨wd, hwd⟩ : ∃ v : Int, v = ((rdN s (16 * i) (8 * P - 16 * i) : Nat) : Int) := ⟨_, rfl⟩
        obtain ⟨hv, hhv⟩ : ∃ v : Int, v = ((8 * P - 16 * i : Nat) : Int) := ⟨_, rfl⟩
        obtain ⟨b, hb⟩ : ∃ v : Int, v = ((16 * i : Nat) : Int) := ⟨_, rfl⟩
        unfold cw cv at SKf
        rw [← hwd, ← hhv] at PI hK SKf
        rw [← hb] at PI
        have PI := Lib.hid PI
        have KC := Lib.hid hK; have BL := Lib.hid hbel
        have R7 := Lib.hid (cell_kept R5.out hbel)
        have hq200 : decide ((i : Int) < 200) = true := by simp; omega
        have hwr : IntKind.i64.wrap (b + 16) = b + 16 := IntWalk.i64_in _ (by omega)
        by_cases hgo : b + 16 < (n : Int)
        · have hd : decide (b + 16 < (n : Int)) = true := decide_eq_true hgo
          obtain ⟨Q, hQ, SK0⟩ := SKf.out 16 (by omega) (by omega)
          have SK1 : ∀ w : World, Calls Try.prog 37 #[.agg #[.string s, .int .i64 P, .int .i64 wd, .int .i64 hv], .int .i64 16] w fun e w' => e = .returned (.tuple #[.agg #[.string s, .int .i64 Q, .int .i64 ((rdN s (16 * i + 16) (8 * Q - (16 * i + 16)) : Nat) : Int), .int .i64 ((8 * Q - (16 * i + 16) : Nat) : Int)], .bool true]) ∧ Below w.heap.size w w' := SK0
          obtain ⟨wd2, hwd2⟩ : ∃ v : Int, v = ((rdN s (16 * i + 16) (8 * Q - (16 * i + 16)) : Nat) : Int) := ⟨_, rfl⟩
          obtain ⟨hv2, hhv2⟩ : ∃ v : Int, v = ((8 * Q - (16 * i + 16) : Nat) : Int) := ⟨_, rfl⟩
          rw [← hwd2, ← hhv2] at SK1
          have SK := Lib.hid SK1; have HW2 := Lib.hid hwd2; have HV2 := Lib.hid hhv2; have HQ := Lib.hid hQ; have HGO := Lib.hid hgo; have HB := Lib.hid hb
          clear SK0 SK1 hwd2 hhv2 hQ hbel hAt hwd hhv hb hgo
          obtain ⟨c0, c1, c2, c3⟩ := cells4 KC.out
          have r1 := (cells2 R7.out).2
          have hS := And.intro c0 (And.intro c1 (And.intro c2 (And.intro c3 (And.intro r1 (Below.refl wr.heap.size wr)))))
          clear c0 c1 c2 c3 r1 hK
          go_wp2
          go_region_held3 (fun w' => w'.cell? ⟨w5.heap.size, 0, none⟩ = some (.string s) ∧ w'.cell? ⟨w5.heap.size, 1, none⟩ = some (.int .i64 P) ∧ w'.cell? ⟨w5.heap.size, 2, none⟩ = some (.int .i64 wd) ∧ w'.cell? ⟨w5.heap.size, 3, none⟩ = some (.int .i64 hv) ∧ w'.cell? ⟨w1.heap.size, 1, none⟩ = some (.int .i64 n) ∧ Below wr.heap.size wr w')
            (first | (with_reducible refine held5_drew ?_; with_reducible assumption) | (with_reducible exact HT2.out))
            (first
              | (go_at_call 22; with_reducible refine (PI.out _).mono ?_; rintro e wp ⟨rfl, hb'⟩; have HT2 := Lib.hid (held5_below (by assumption) hb' (Nat.le_refl _)))
              | fail)
          go_wp2_with fail
          refine (SK.out _).mono ?_
          rintro e wq ⟨rfl, hbq⟩
          have BP := HT2.out.2.2.2.2.2
          have KQ := Lib.hid (cell_kept (cell_kept KC.out BP) hbq)
          have BQ := Lib.hid (below_up (below_up BL.out BP BL.out.size) hbq (Nat.le_trans BL.out.size BP.size))
          clear BP hbq hS
          obtain ⟨f0, f1, f2, f3⟩ := frozen4 KQ.out
          obtain ⟨d0, d1, d2, d3⟩ := cells4 KQ.out
          go_wp2
          go_roundw
          case rel =>
            refine ⟨i + 1, Q, by have := HGO.out; have := HB.out; omega, HQ.out, by have := HGO.out; have := HB.out; omega, by go_num, ?_, ?_⟩
            · have h := block_set4 KQ.out (.string s) (.int .i64 Q) (.int .i64 wd2) (.int .i64 hv2)
              rw [HW2.out, HV2.out] at h
              rw [HW2.out, HV2.out]
              exact h
            · exact Below.setCell (Below.setCell (Below.setCell (Below.setCell BQ.out (p := ⟨w5.heap.size, 0, none⟩) (Nat.le_refl _) _) (p := ⟨w5.heap.size, 1, none⟩) (Nat.le_refl _) _) (p := ⟨w5.heap.size, 2, none⟩) (Nat.le_refl _) _) (p := ⟨w5.heap.size, 3, none⟩) (Nat.le_refl _) _
          case measure => simp [intOf]; omega
        · have hd : decide (b + 16 < (n : Int)) = false := decide_eq_false hgo
          obtain ⟨m, hm⟩ : ∃ m : Nat, n = 16 * i + m := ⟨n - 16 * i, by omega⟩
          have hwm : IntKind.i64.wrap ((n : Int) - b) = (m : Int) := by rw [show (n : Int) - b = (m : Int) by omega]; exact IntWalk.i64_in _ (by omega)
          obtain ⟨Q, hQ, SK0⟩ := SKf.out m (by omega) (by omega)
          have TKQ := TK.out Q (by rw [hm]; exact hQ)
          rw [← hm] at SK0
          obtain ⟨hq7, D, Pd, hAD, hvD, htk⟩ := TKQ
          have FS : ∀ (A : Option Addr) (ca : Nat) (w : World), Ents w w.heap.size A (symT l) → Calls Try.prog 38 #[cw s n Q, .slice A 128 ca] w fun e w' => e = .returned (.tuple #[cw s D Pd, .int .i64 vM, .int .i64 vF]) ∧ Below w.heap.size w w' := fun A ca w hE => by
            have h := impl_symq_quick s n Q (by omega) (by rw [hm]; exact hQ) (symT l) hq7 A ca w hE
            rw [htk, HTL.out] at h
            exact h
          have PD := impl_placein_in s D Pd (by omega) hAD
          unfold cw cv at FS PD
          subst hvD
          obtain ⟨T, hT⟩ : ∃ T, T = symT l := ⟨_, rfl⟩
          rw [← hT] at IT FS
          obtain ⟨wd2, hwd2⟩ : ∃ v : Int, v = ((rdN s n (8 * Q - n) : Nat) : Int) := ⟨_, rfl⟩
          obtain ⟨hv2, hhv2⟩ : ∃ v : Int, v = ((8 * Q - n : Nat) : Int) := ⟨_, rfl⟩
          obtain ⟨wd3, hwd3⟩ : ∃ v : Int, v = ((rdN s D (8 * Pd - D) : Nat) : Int) := ⟨_, rfl⟩
          obtain ⟨hv3, hhv3⟩ : ∃ v : Int, v = ((8 * Pd - D : Nat) : Int) := ⟨_, rfl⟩
          rw [← hwd2, ← hhv2] at SK0 FS
          rw [← hwd3, ← hhv3] at FS PD
          have SK := Lib.hid SK0; have FS := Lib.hid FS; have PD := Lib.hid PD
          have HT := Lib.hid hT; have HM := Lib.hid hm
          clear hm SK0 hwd2 hhv2 hwd3 hhv3 hQ hbel hAt hwd hhv hb hgo hq7 htk hAD hT
          obtain ⟨c0, c1, c2, c3⟩ := cells4 KC.out
          have r1 := (cells2 R7.out).2
          have hS := And.intro c0 (And.intro c1 (And.intro c2 (And.intro c3 (And.intro r1 (Below.refl wr.heap.size wr)))))
          clear c0 c1 c2 c3 r1 hK
          go_wp2
          go_region_held3 (fun w' => w'.cell? ⟨w5.heap.size, 0, none⟩ = some (.string s) ∧ w'.cell? ⟨w5.heap.size, 1, none⟩ = some (.int .i64 P) ∧ w'.cell? ⟨w5.heap.size, 2, none⟩ = some (.int .i64 wd) ∧ w'.cell? ⟨w5.heap.size, 3, none⟩ = some (.int .i64 hv) ∧ w'.cell? ⟨w1.heap.size, 1, none⟩ = some (.int .i64 n) ∧ Below wr.heap.size wr w')
            (first | (with_reducible refine held5_drew ?_; with_reducible assumption) | (with_reducible exact HT2.out))
            (first
              | (go_at_call 22; with_reducible refine (PI.out _).mono ?_; rintro e wp ⟨rfl, hb'⟩; have HT2 := Lib.hid (held5_below (by assumption) hb' (Nat.le_refl _)))
              | fail)
          have BP := HT2.out.2.2.2.2.2
          have KP := Lib.hid (cell_kept KC.out BP)
          have RP := Lib.hid (cell_kept R7.out BP)
          have BQ := Lib.hid (below_up BL.out BP BL.out.size)
          clear BP hS HT2 hd hwr
          go_upto_region 15 with fail
          obtain ⟨c0, c1, c2, c3⟩ := cells4 KP.out
          have r1 := (cells2 RP.out).2
          go_cut [74] (fun _ wx => wx.heap[w5.heap.size]? = some (.cells #[.string s, .int .i64 Q, .int .i64 wd2, .int .i64 hv2] 25 (0, 0)) ∧ Below w5.heap.size w5 wx)
          case first =>
            go_region_with (first
              | (go_at_call 22; (with_reducible refine (PI.out _).mono ?_); rintro e wx ⟨rfl, hb'⟩; have KX := Lib.hid (cell_kept (w := wp.drew) KP.out hb'); have RX := (cells2 (cell_kept (w := wp.drew) RP.out hb')).2; have kx := cells4 KX.out; obtain ⟨k0, k1, k2, k3⟩ := kx; have BX := Lib.hid (below_up BQ.out.drew hb' BQ.out.drew.size); clear hb')
              | (go_at_call 37; (with_reducible refine (SK.out _).mono ?_); rintro e wy ⟨rfl, hb'⟩; have KY := Lib.hid (cell_kept KX.out hb'); have ky := cells4 KY.out; obtain ⟨y0, y1, y2, y3⟩ := ky; have kf := frozen4 KY.out; obtain ⟨f0, f1, f2, f3⟩ := kf; have BY := Lib.hid (below_up BX.out hb' BX.out.size); clear hb')
              | fail)
            all_goals go_wp2_with fail
            all_goals go_meet
            all_goals exact ⟨block_set4 KY.out (.string s) (.int .i64 Q) (.int .i64 wd2) (.int .i64 hv2), Below.setCell (Below.setCell (Below.setCell (Below.setCell BY.out (p := ⟨w5.heap.size, 0, none⟩) (Nat.le_refl _) _) (p := ⟨w5.heap.size, 1, none⟩) (Nat.le_refl _) _) (p := ⟨w5.heap.size, 2, none⟩) (Nat.le_refl _) _) (p := ⟨w5.heap.size, 3, none⟩) (Nat.le_refl _) _⟩
          case rest =>
            obtain ⟨kd, hbx⟩ := hcut
            clear c0 c1 c2 c3 r1
            have hX8 := cell_kept X5.out hbx
            have X8 := (cells2 hX8).2
            have HLT : Hid (w5.heap.size < wc.heap.size ∧ w2.heap.size < wc.heap.size) := Lib.hid ⟨heap_lt kd, heap_lt hX8⟩
            have I8 := (I5.out.below hbx (Nat.le_refl _)).mono hbx.size
            have BD := Lib.hid (below_up B5.out hbx B5.out.size)
            have IA1 : Hid (Ints wc.drew wc.drew.heap.size AL l) := Lib.hid (I8.kept (fun _ _ => rfl))
            have NZ := below_new wc (.cells #[.string ⟨#[]⟩, .int .i64 0, .int .i64 0, .int .i64 0] 25)
            have IA2 : Hid (Ints (wc.alloc (.cells #[.string ⟨#[]⟩, .int .i64 0, .int .i64 0, .int .i64 0] 25)).drew (wc.alloc (.cells #[.string ⟨#[]⟩, .int .i64 0, .int .i64 0, .int .i64 0] 25)).drew.heap.size AL l) := Lib.hid (((I8.below NZ (Nat.le_refl _)).mono NZ.size).kept (fun _ _ => rfl))
            obtain ⟨c0, c1, c2, c3⟩ := cells4 kd
            have hS := And.intro c0 (And.intro c1 (And.intro c2 (And.intro c3 (And.intro X8 (Below.refl wc.heap.size wc)))))
            have hTl : T.length ≤ 1000 := by rw [HT.out, HTL.out]; omega
            clear c0 c1 c2 c3 X8 I8 NZ kd hbx hX8
            go_upto_region 16 with fail
            go_cut [13, 14, 15] (fun s5 s6 s7 wz => ∃ g : Nat, s5 = .pointer (some ⟨g, 0, none⟩) ∧ s6 = .int .i64 vM ∧ s7 = .int .i64 vF ∧ wz.heap[g]? = some (.cells #[.string s, .int .i64 Pd, .int .i64 wd3, .int .i64 hv3] 25 (0, 0)) ∧
              wz.cell? ⟨w5.heap.size, 0, none⟩ = some (.string s) ∧ wz.cell? ⟨w5.heap.size, 1, none⟩ = some (.int .i64 Q) ∧ wz.cell? ⟨w5.heap.size, 2, none⟩ = some (.int .i64 wd2) ∧ wz.cell? ⟨w5.heap.size, 3, none⟩ = some (.int .i64 hv2) ∧ wz.cell? ⟨w2.heap.size, 1, none⟩ = some (.int .i64 D) ∧ Below wc.heap.size wc wz)
            case first =>
              go_region_held3 (fun w' => w'.cell? ⟨w5.heap.size, 0, none⟩ = some (.string s) ∧ w'.cell? ⟨w5.heap.size, 1, none⟩ = some (.int .i64 Q) ∧ w'.cell? ⟨w5.heap.size, 2, none⟩ = some (.int .i64 wd2) ∧ w'.cell? ⟨w5.heap.size, 3, none⟩ = some (.int .i64 hv2) ∧ w'.cell? ⟨w2.heap.size, 1, none⟩ = some (.int .i64 D) ∧ Below wc.heap.size wc w')
                (first | (with_reducible exact HT3.out) | (with_reducible exact HT2.out) | (with_reducible refine held5_drew ?_; with_reducible assumption) | (with_reducible exact held5_alloc HT3.out (Nat.le_refl _)) | (with_reducible exact held5_alloc HT2.out (Nat.le_refl _)) | (with_reducible refine held5_alloc ?_ (Nat.le_refl _); with_reducible assumption) | (with_reducible refine held5_drew (held5_alloc ?_ (Nat.le_refl _)); with_reducible assumption) | (with_reducible refine held5_set4 HT3.out ?_ ?_ <;> (have h1 := HLT.out; have h2 := HLW.out; (try simp only [World.drew_heap]); omega)))
                (first
                  | (go_at_call 26; (with_reducible refine (IT.out _ IA1.out).mono ?_); rintro e wt ⟨A3, c3, rfl, ho3, hb'⟩; have ET := Lib.hid (ho3.ents (by omega)); have ET2 := Lib.hid ((ET.out.below (below_new wt (.cells #[.string ⟨#[]⟩, .int .i64 0, .int .i64 0, .int .i64 0] 25)) (Nat.le_refl _)).mono (below_new wt (.cells #[.string ⟨#[]⟩, .int .i64 0, .int .i64 0, .int .i64 0] 25)).size); have HT2 := Lib.hid (held5_below (by assumption) hb' (Nat.le_refl _)); have HLW : Hid (wc.heap.size ≤ wt.heap.size) := Lib.hid HT2.out.2.2.2.2.2.size; clear ho3)
                  | (go_at_call 26; (with_reducible refine (IT.out _ IA2.out).mono ?_); rintro e wt ⟨A3, c3, rfl, ho3, hb'⟩; have ET := Lib.hid (ho3.ents (by omega)); have K5 := Lib.hid (cell_kept (w := (wc.alloc (.cells #[.string ⟨#[]⟩, .int .i64 0, .int .i64 0, .int .i64 0] 25)).drew) (heap_alloc_new wc (.cells #[.string ⟨#[]⟩, .int .i64 0, .int .i64 0, .int .i64 0] 25)) hb'); have HT2 := Lib.hid (held5_below (by assumption) hb' (Nat.le_refl _)); have HLW : Hid (wc.heap.size ≤ wt.heap.size) := Lib.hid HT2.out.2.2.2.2.2.size; clear ho3)
                  | (go_at_call 38; (with_reducible refine (FS.out _ _ _ ET.out).mono ?_); rintro e wf ⟨rfl, hb''⟩; have HT3 := Lib.hid (held5_below HT2.out hb'' (Nat.le_refl _)); (try (have K6 := Lib.hid (cell_kept K5.out hb''); have kk := cells4 K6.out; obtain ⟨k0, k1, k2, k3⟩ := kk; have kf := frozen4 K6.out; obtain ⟨f0, f1, f2, f3⟩ := kf)))
                  | (go_at_call 38; (with_reducible refine (FS.out _ _ _ ET2.out).mono ?_); rintro e wf ⟨rfl, hb''⟩; have HT3 := Lib.hid (held5_below (held5_alloc HT2.out (Nat.le_refl _)) hb'' (Nat.le_refl _)); have K6 := Lib.hid (cell_kept (heap_alloc_new wt (.cells #[.string ⟨#[]⟩, .int .i64 0, .int .i64 0, .int .i64 0] 25)) hb''); have kk := cells4 K6.out; obtain ⟨k0, k1, k2, k3⟩ := kk; have kf := frozen4 K6.out; obtain ⟨f0, f1, f2, f3⟩ := kf)
                  | fail)
              all_goals go_wp2_with fail
              all_goals go_meet
              all_goals refine ⟨_, rfl, rfl, rfl, ?_, by with_reducible assumption⟩
              all_goals first
                | (with_reducible exact heap_alloc_new _ _)
                | (with_reducible exact block_set4 K6.out _ _ _ _)
            case rest =>
              obtain ⟨g, rfl, rfl, rfl, kg, -, -, -, -, kx, hbz⟩ := hcut
              clear hS
              obtain ⟨c0, c1, c2, c3⟩ := cells4 kg
              have BE := below_up BD.out hbz BD.out.size
              have hS := And.intro c0 (And.intro c1 (And.intro c2 (And.intro c3 (And.intro kx BE))))
              have q3 : (vM == vM) = true := by simp
              have q4 : (vF == vF) = true := by simp
              clear c0 c1 c2 c3 kx kg hbz BE
              go_upto_region 17 with fail
              go_region_held3 (fun w' => w'.cell? ⟨g, 0, none⟩ = some (.string s) ∧ w'.cell? ⟨g, 1, none⟩ = some (.int .i64 Pd) ∧ w'.cell? ⟨g, 2, none⟩ = some (.int .i64 wd3) ∧ w'.cell? ⟨g, 3, none⟩ = some (.int .i64 hv3) ∧ w'.cell? ⟨w2.heap.size, 1, none⟩ = some (.int .i64 D) ∧ Below w.heap.size w w')
                (first | (with_reducible refine held5_drew ?_; with_reducible assumption) | (with_reducible exact HT2.out))
                (first
                  | (go_at_call 23; with_reducible refine (PD.out _).mono ?_; rintro e wv ⟨rfl, hb'⟩; have HT2 := Lib.hid (held5_below (by assumption) hb' (Nat.le_refl _)))
                  | fail)
              go_wp2
              go_ret
              exact ⟨rfl, HT2.out.2.2.2.2.2⟩

/-- The law's own walk. -/
theorem fnSymbols_walk (a : Option Addr) (len cap : Nat) (zs : List Int) (w : World) (hr : IsRow .u8 w a len cap zs) :
    Calls Try.prog 5 #[.slice a len cap] w fun e w' => e = .returned (.bool true) ∧ Below w.heap.size w w' := by
  have hlm := hr.len_le
  unfold maxLen at hlm
  by_cases hbig : 1048576 < len
  · exact symbols_big a cap len hbig hlm w
  · have hbigF : decide (1048576 < (len : Int)) = false := decide_eq_false (by omega)
    obtain ⟨ys, rfl, hW⟩ := code_of hr (by omega)
    exact symbols_in a cap ys w hW ys.length hbigF (Lib.hid (big_any a ys.length cap hlm)) (Lib.hid fun w hW => drawreadsym_ex a cap ys w hW)
end Go.Proofs.Ytgacldhpohnpaaa
