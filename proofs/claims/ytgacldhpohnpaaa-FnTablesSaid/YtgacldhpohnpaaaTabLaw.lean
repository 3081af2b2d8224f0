/-
  The walk of the law on reading numbers by the table. No condition.
-/
import Derived.Test.YtgacldhpohnpaaaFastC
import Derived.Test.YtgacldhpohnpaaaTabDrw
import Derived.Test.YtgacldhpohnpaaaTab
import Derived.Deep.RegionHeld3
import Derived.Deep.DeepCutAuto
namespace Go.Proofs.Ytgacldhpohnpaaa
open Go.RowKit
set_option linter.unusedVariables false

set_option maxRecDepth 100000 in
set_option maxHeartbeats 400000 in
theorem tables_big (a : Option Addr) (cap len : Nat) (hbig : 1048576 < len) (hm : len ≤ 9223372036854775807) (w : World) :
    Calls Try.prog 3 #[.slice a len cap] w fun e w' => e = .returned (.bool true) ∧ Below w.heap.size w w' := by
  have h := big_any a len cap hm
  rw [decide_eq_true (by omega)] at h
  have HB := Lib.hid h
  clear h
  go_enter Try.func3, Try.ntmps3
  go_wp2_with fail
  refine (HB.out _).mono ?_
  rintro e w' ⟨rfl, rfl⟩
  go_wp2
  go_ret
  exact ⟨rfl, Below.refl _ _⟩

/-- Where a cache stands behind a number that was read. -/
theorem fuR_place (s : ByteArray) (a P : Nat) (hA : At s a P) : ∃ D Pd : Nat, At s D Pd ∧ ruPlace s a = (D : Int) ∧ fuR s a P = .tuple #[cw s D Pd, .int .i64 (ruNum s a), .int .i64 (ruEr s a)] := by
  obtain ⟨h1, h2, h3⟩ := hA
  unfold fuR
  by_cases he : ruEr s a = 0
  · rw [if_pos he, he]
    have hp := ruPlace_in s a (by omega)
    exact ⟨(ruPlace s a).toNat, ((ruPlace s a).toNat + 7) / 8, ⟨by omega, by omega, by omega⟩, by omega, rfl⟩
  · rw [if_neg he]
    obtain ⟨e1, e2⟩ := ru_still s a he
    rw [e1, e2]
    exact ⟨a, P, ⟨h1, h2, h3⟩, rfl, rfl⟩

set_option maxRecDepth 100000 in
set_option maxHeartbeats 1000000 in
theorem tables_in (A : Option Addr) (cap : Nat) (ys : List Int) (w : World) (hw : Code w A ys) (N : Nat) (hbig : decide (1048576 < (N : Int)) = false)
    (BG : Hid (∀ w, Calls Try.prog 13 #[.slice A N cap] w fun e w' => e = .returned (.bool (decide (1048576 < (N : Int)))) ∧ w = w'))
    (DF : Hid (∀ w, Code w A ys → Calls Try.prog 14 #[.slice A N cap] w (FuOut w))) :
    Calls Try.prog 3 #[.slice A N cap] w fun e w' => e = .returned (.bool true) ∧ Below w.heap.size w w' := by
  have W0 := Lib.hid hw
  clear hw
  obtain ⟨u, hu⟩ : ∃ u, u = ueT := ⟨_, rfl⟩
  have IU : Hid (∀ w, Calls Try.prog 16 #[] w fun e w' => ∃ A' cap', e = .returned (.slice A' 512 cap') ∧ Ents w' w'.heap.size A' u ∧ Below w.heap.size w w') := Lib.hid (fun w => (impl_uetable_any w).mono fun e w' hh => by
    obtain ⟨A', c', rfl, ho, hb⟩ := hh
    rw [hu]
    exact ⟨A', c', by rw [ueT_len], ho.ents (by rw [ueT_len]; decide), hb⟩)
  have TU : Hid (∀ (A : Option Addr) (ca : Nat) (w : World), Ents w w.heap.size A u → Calls Try.prog 17 #[.slice A 512 ca] w fun e w' => e = .returned (.bool true) ∧ Below w.heap.size w w') := Lib.hid (fun A ca w hE => by
    rw [hu] at hE
    have h := impl_tableok_any A ca ueT w hE
    rw [decide_eq_true rfl, ueT_len] at h
    exact h)
  have HU := Lib.hid hu; clear hu
  go_enter Try.func3, Try.ntmps3
  go_wp2_with fail
  refine (BG.out _).mono ?_
  rintro e w' ⟨rfl, rfl⟩
  go_wp2_with fail
  refine (DF.out _ W0.out).mono ?_
  rintro e w1 hout
  obtain ⟨s, p, wd, h, A', ca, l, rfl, hs, hl, hE, hb⟩ := hout
  have BA0 := Lib.hid hb
  have BA := Lib.hid (hb.alloc hb.size (.cells #[.string s, .int .i64 p, .int .i64 wd, .int .i64 h] 25))
  have E1 := Lib.hid ((hE.below (Below.alloc (Below.refl w1.heap.size w1) (Nat.le_refl _) (.cells #[.string s, .int .i64 p, .int .i64 wd, .int .i64 h] 25)) (Nat.le_refl _)).mono (show w1.heap.size ≤ (w1.alloc (.cells #[.string s, .int .i64 p, .int .i64 wd, .int .i64 h] 25)).heap.size by simp))
  clear hE hb
  have TI0 := impl_tableok_any (la := l)
  have TS0 := spec_tableok_any (la := l)
  obtain ⟨b, hbd⟩ : ∃ b, b = decide (l = ueT) := ⟨_, rfl⟩
  rw [← hbd] at TI0 TS0
  have CK0 := spec_cacheok_any s p wd h (by omega)
  obtain ⟨n0, hn0⟩ : ∃ n, n = l.length := ⟨_, rfl⟩
  have HBD := Lib.hid hbd; clear hbd
  cases hk : ckOk s p wd h with
  | false =>
    obtain ⟨q, y, x, n, er, SA, IA⟩ := fast_both s p wd h (by omega) l
    rw [hk] at CK0
    rw [← hn0] at SA IA TI0 TS0 hl ⊢
    have SA := Lib.hid SA; have IA := Lib.hid IA; have CK := Lib.hid CK0; have TI := Lib.hid TI0; have TS := Lib.hid TS0
    have q1 : (n == n) = true := by simp
    have q2 : (er == er) = true := by simp
    clear TI0 TS0 CK0 hn0 hk
    cases b with
    | false =>
      go_wp2_with fail
      refine (IA.out _ _ _ E1.out).mono ?_
      rintro e w2 ⟨rfl, hb⟩
      have C2 := Lib.hid (cell_kept (heap_alloc_new w1 _) hb)
      have E2 := Lib.hid ((E1.out.below hb (Nat.le_refl _)).mono hb.size)
      have B2 := Lib.hid (below_up BA.out hb BA.out.size)
      clear hb
      have C2a := Lib.hid (heap_keep C2.out (.cells #[.string s, .int .i64 q, .int .i64 y, .int .i64 x] 25))
      have D2 := Lib.hid (heap_alloc_new w2 (.cells #[.string s, .int .i64 q, .int .i64 y, .int .i64 x] 25))
      have E2a := Lib.hid ((E2.out.below (Below.alloc (Below.refl w2.heap.size w2) (Nat.le_refl _) (.cells #[.string s, .int .i64 q, .int .i64 y, .int .i64 x] 25)) (Nat.le_refl _)).mono (show w2.heap.size ≤ (w2.alloc (.cells #[.string s, .int .i64 q, .int .i64 y, .int .i64 x] 25)).heap.size by simp))
      have B2a := Lib.hid (B2.out.alloc B2.out.size (.cells #[.string s, .int .i64 q, .int .i64 y, .int .i64 x] 25))
      go_wp2_with fail
      refine (IU.out _).mono ?_
      rintro e w3 ⟨A8, c8, rfl, hu8, hb⟩
      have U3 := Lib.hid hu8
      have C3 := Lib.hid (cell_kept C2a.out hb)
      have D3 := Lib.hid (cell_kept D2.out hb)
      have E3 := Lib.hid ((E2a.out.below hb (Nat.le_refl _)).mono hb.size)
      have B3 := Lib.hid (below_up B2a.out hb B2a.out.size)
      clear hb hu8
      go_wp2_with fail
      refine (TI.out _ _ _ E3.out).mono ?_
      rintro e w4 ⟨rfl, hb⟩
      have U4 := Lib.hid ((U3.out.below hb (Nat.le_refl _)).mono hb.size)
      have C4 := Lib.hid (cell_kept C3.out hb)
      have D4 := Lib.hid (cell_kept D3.out hb)
      have E4 := Lib.hid ((E3.out.below hb (Nat.le_refl _)).mono hb.size)
      have B4 := Lib.hid (below_up B3.out hb B3.out.size)
      clear hb
      go_wp2_with fail
      refine (TS.out _ _ _ E4.out).mono ?_
      rintro e w5 ⟨rfl, hb⟩
      have U5 := Lib.hid ((U4.out.below hb (Nat.le_refl _)).mono hb.size)
      have C5 := Lib.hid (cell_kept C4.out hb)
      have D5 := Lib.hid (cell_kept D4.out hb)
      have E5 := Lib.hid ((E4.out.below hb (Nat.le_refl _)).mono hb.size)
      have B5 := Lib.hid (below_up B4.out hb B4.out.size)
      clear hb
      go_wp2_with fail
      refine (TU.out _ _ _ U5.out).mono ?_
      rintro e w6 ⟨rfl, hb⟩
      have C6 := Lib.hid (cell_kept C5.out hb)
      have D6 := Lib.hid (cell_kept D5.out hb)
      have E6 := Lib.hid ((E5.out.below hb (Nat.le_refl _)).mono hb.size)
      have B6 := Lib.hid (below_up B5.out hb B5.out.size)
      clear hb
      obtain ⟨c0, c1, c2, c3⟩ := cells4 C6.out
      go_wp2_with fail
      refine (CK.out _).mono ?_
      rintro e w7 ⟨rfl, hb⟩
      have C7 := Lib.hid (cell_kept C6.out hb)
      have D7 := Lib.hid (cell_kept D6.out hb)
      have E7 := Lib.hid ((E6.out.below hb (Nat.le_refl _)).mono hb.size)
      have B7 := Lib.hid (below_up B6.out hb B6.out.size)
      clear hb c0 c1 c2 c3
      have C8 := C7
      have D8 := D7
      have E8 := E7
      have B8 := B7
      obtain ⟨c0, c1, c2, c3⟩ := cells4 C8.out
      go_wp2_with fail
      refine (SA.out _ _ _ E8.out).mono ?_
      rintro e w9 ⟨rfl, hb⟩
      have B9 := Lib.hid (below_up B8.out hb B8.out.size)
      clear hb c0 c1 c2 c3
      go_wp2
      go_ret
      exact ⟨rfl, B9.out.alloc B9.out.size _⟩
    | true =>
      go_wp2_with fail
      refine (IA.out _ _ _ E1.out).mono ?_
      rintro e w2 ⟨rfl, hb⟩
      have C2 := Lib.hid (cell_kept (heap_alloc_new w1 _) hb)
      have E2 := Lib.hid ((E1.out.below hb (Nat.le_refl _)).mono hb.size)
      have B2 := Lib.hid (below_up BA.out hb BA.out.size)
      clear hb
      have C2a := Lib.hid (heap_keep C2.out (.cells #[.string s, .int .i64 q, .int .i64 y, .int .i64 x] 25))
      have D2 := Lib.hid (heap_alloc_new w2 (.cells #[.string s, .int .i64 q, .int .i64 y, .int .i64 x] 25))
      have E2a := Lib.hid ((E2.out.below (Below.alloc (Below.refl w2.heap.size w2) (Nat.le_refl _) (.cells #[.string s, .int .i64 q, .int .i64 y, .int .i64 x] 25)) (Nat.le_refl _)).mono (show w2.heap.size ≤ (w2.alloc (.cells #[.string s, .int .i64 q, .int .i64 y, .int .i64 x] 25)).heap.size by simp))
      have B2a := Lib.hid (B2.out.alloc B2.out.size (.cells #[.string s, .int .i64 q, .int .i64 y, .int .i64 x] 25))
      go_wp2_with fail
      refine (IU.out _).mono ?_
      rintro e w3 ⟨A8, c8, rfl, hu8, hb⟩
      have U3 := Lib.hid hu8
      have C3 := Lib.hid (cell_kept C2a.out hb)
      have D3 := Lib.hid (cell_kept D2.out hb)
      have E3 := Lib.hid ((E2a.out.below hb (Nat.le_refl _)).mono hb.size)
      have B3 := Lib.hid (below_up B2a.out hb B2a.out.size)
      clear hb hu8
      go_wp2_with fail
      refine (TI.out _ _ _ E3.out).mono ?_
      rintro e w4 ⟨rfl, hb⟩
      have U4 := Lib.hid ((U3.out.below hb (Nat.le_refl _)).mono hb.size)
      have C4 := Lib.hid (cell_kept C3.out hb)
      have D4 := Lib.hid (cell_kept D3.out hb)
      have E4 := Lib.hid ((E3.out.below hb (Nat.le_refl _)).mono hb.size)
      have B4 := Lib.hid (below_up B3.out hb B3.out.size)
      clear hb
      go_wp2_with fail
      refine (TS.out _ _ _ E4.out).mono ?_
      rintro e w5 ⟨rfl, hb⟩
      have U5 := Lib.hid ((U4.out.below hb (Nat.le_refl _)).mono hb.size)
      have C5 := Lib.hid (cell_kept C4.out hb)
      have D5 := Lib.hid (cell_kept D4.out hb)
      have E5 := Lib.hid ((E4.out.below hb (Nat.le_refl _)).mono hb.size)
      have B5 := Lib.hid (below_up B4.out hb B4.out.size)
      clear hb
      go_wp2_with fail
      refine (TU.out _ _ _ U5.out).mono ?_
      rintro e w6 ⟨rfl, hb⟩
      have C6 := Lib.hid (cell_kept C5.out hb)
      have D6 := Lib.hid (cell_kept D5.out hb)
      have E6 := Lib.hid ((E5.out.below hb (Nat.le_refl _)).mono hb.size)
      have B6 := Lib.hid (below_up B5.out hb B5.out.size)
      clear hb
      obtain ⟨c0, c1, c2, c3⟩ := cells4 C6.out
      go_wp2_with fail
      refine (CK.out _).mono ?_
      rintro e w7 ⟨rfl, hb⟩
      have C7 := Lib.hid (cell_kept C6.out hb)
      have D7 := Lib.hid (cell_kept D6.out hb)
      have E7 := Lib.hid ((E6.out.below hb (Nat.le_refl _)).mono hb.size)
      have B7 := Lib.hid (below_up B6.out hb B6.out.size)
      clear hb c0 c1 c2 c3
      have C8 := C7
      have D8 := D7
      have E8 := E7
      have B8 := B7
      obtain ⟨c0, c1, c2, c3⟩ := cells4 C8.out
      go_wp2_with fail
      refine (SA.out _ _ _ E8.out).mono ?_
      rintro e w9 ⟨rfl, hb⟩
      have B9 := Lib.hid (below_up B8.out hb B8.out.size)
      clear hb c0 c1 c2 c3
      go_wp2
      go_ret
      exact ⟨rfl, B9.out.alloc B9.out.size _⟩
  | true =>
    cases b with
    | false =>
      obtain ⟨q, y, x, n, er, SA, IA⟩ := fast_both s p wd h (by omega) l
      rw [hk] at CK0
      rw [← hn0] at SA IA TI0 TS0 hl ⊢
      have SA := Lib.hid SA; have IA := Lib.hid IA; have CK := Lib.hid CK0; have TI := Lib.hid TI0; have TS := Lib.hid TS0
      have q1 : (n == n) = true := by simp
      have q2 : (er == er) = true := by simp
      clear TI0 TS0 CK0 hn0 hk
      go_wp2_with fail
      refine (IA.out _ _ _ E1.out).mono ?_
      rintro e w2 ⟨rfl, hb⟩
      have C2 := Lib.hid (cell_kept (heap_alloc_new w1 _) hb)
      have E2 := Lib.hid ((E1.out.below hb (Nat.le_refl _)).mono hb.size)
      have B2 := Lib.hid (below_up BA.out hb BA.out.size)
      clear hb
      have C2a := Lib.hid (heap_keep C2.out (.cells #[.string s, .int .i64 q, .int .i64 y, .int .i64 x] 25))
      have D2 := Lib.hid (heap_alloc_new w2 (.cells #[.string s, .int .i64 q, .int .i64 y, .int .i64 x] 25))
      have E2a := Lib.hid ((E2.out.below (Below.alloc (Below.refl w2.heap.size w2) (Nat.le_refl _) (.cells #[.string s, .int .i64 q, .int .i64 y, .int .i64 x] 25)) (Nat.le_refl _)).mono (show w2.heap.size ≤ (w2.alloc (.cells #[.string s, .int .i64 q, .int .i64 y, .int .i64 x] 25)).heap.size by simp))
      have B2a := Lib.hid (B2.out.alloc B2.out.size (.cells #[.string s, .int .i64 q, .int .i64 y, .int .i64 x] 25))
      go_wp2_with fail
      refine (IU.out _).mono ?_
      rintro e w3 ⟨A8, c8, rfl, hu8, hb⟩
      have U3 := Lib.hid hu8
      have C3 := Lib.hid (cell_kept C2a.out hb)
      have D3 := Lib.hid (cell_kept D2.out hb)
      have E3 := Lib.hid ((E2a.out.below hb (Nat.le_refl _)).mono hb.size)
      have B3 := Lib.hid (below_up B2a.out hb B2a.out.size)
      clear hb hu8
      go_wp2_with fail
      refine (TI.out _ _ _ E3.out).mono ?_
      rintro e w4 ⟨rfl, hb⟩
      have U4 := Lib.hid ((U3.out.below hb (Nat.le_refl _)).mono hb.size)
      have C4 := Lib.hid (cell_kept C3.out hb)
      have D4 := Lib.hid (cell_kept D3.out hb)
      have E4 := Lib.hid ((E3.out.below hb (Nat.le_refl _)).mono hb.size)
      have B4 := Lib.hid (below_up B3.out hb B3.out.size)
      clear hb
      go_wp2_with fail
      refine (TS.out _ _ _ E4.out).mono ?_
      rintro e w5 ⟨rfl, hb⟩
      have U5 := Lib.hid ((U4.out.below hb (Nat.le_refl _)).mono hb.size)
      have C5 := Lib.hid (cell_kept C4.out hb)
      have D5 := Lib.hid (cell_kept D4.out hb)
      have E5 := Lib.hid ((E4.out.below hb (Nat.le_refl _)).mono hb.size)
      have B5 := Lib.hid (below_up B4.out hb B4.out.size)
      clear hb
      go_wp2_with fail
      refine (TU.out _ _ _ U5.out).mono ?_
      rintro e w6 ⟨rfl, hb⟩
      have C6 := Lib.hid (cell_kept C5.out hb)
      have D6 := Lib.hid (cell_kept D5.out hb)
      have E6 := Lib.hid ((E5.out.below hb (Nat.le_refl _)).mono hb.size)
      have B6 := Lib.hid (below_up B5.out hb B5.out.size)
      clear hb
      obtain ⟨c0, c1, c2, c3⟩ := cells4 C6.out
      go_wp2_with fail
      refine (CK.out _).mono ?_
      rintro e w7 ⟨rfl, hb⟩
      have C7 := Lib.hid (cell_kept C6.out hb)
      have D7 := Lib.hid (cell_kept D6.out hb)
      have E7 := Lib.hid ((E6.out.below hb (Nat.le_refl _)).mono hb.size)
      have B7 := Lib.hid (below_up B6.out hb B6.out.size)
      clear hb c0 c1 c2 c3
      go_wp2_with fail
      refine (TS.out _ _ _ E7.out).mono ?_
      rintro e w8 ⟨rfl, hb⟩
      have C8 := Lib.hid (cell_kept C7.out hb)
      have D8 := Lib.hid (cell_kept D7.out hb)
      have E8 := Lib.hid ((E7.out.below hb (Nat.le_refl _)).mono hb.size)
      have B8 := Lib.hid (below_up B7.out hb B7.out.size)
      clear hb
      obtain ⟨c0, c1, c2, c3⟩ := cells4 C8.out
      go_wp2_with fail
      refine (SA.out _ _ _ E8.out).mono ?_
      rintro e w9 ⟨rfl, hb⟩
      have B9 := Lib.hid (below_up B8.out hb B8.out.size)
      clear hb c0 c1 c2 c3
      go_wp2
      go_ret
      exact ⟨rfl, B9.out.alloc B9.out.size _⟩
    | true =>
      have hlu : l = ueT := of_decide_eq_true HBD.out.symm
      obtain ⟨a, P, hA, hp, hh, hwd⟩ := ckOk_at s p wd h hk
      obtain ⟨D, Pd, hAD, hD, hfu⟩ := fuR_place s a P hA
      have IA0 := fast_table s a P (by omega) hA
      have HP0 := spec_placein_in s a P (by omega) hA
      have HR0 := spec_readue_any s (a : Int) (by omega)
      have HD0 := impl_placein_in s D Pd (by omega) hAD
      rw [hfu, ← hlu] at IA0
      rw [hD] at HR0
      unfold cw cv at IA0 HP0 HD0
      rw [← hp, ← hh, ← hwd] at IA0 HP0
      rw [hk] at CK0
      rw [← hn0] at IA0 TI0 TS0 hl ⊢
      obtain ⟨q, hq⟩ : ∃ q : Int, q = (Pd : Int) := ⟨_, rfl⟩
      obtain ⟨y, hy⟩ : ∃ y : Int, y = (rdN s D (8 * Pd - D) : Int) := ⟨_, rfl⟩
      obtain ⟨x, hx⟩ : ∃ x : Int, x = ((8 * Pd - D : Nat) : Int) := ⟨_, rfl⟩
      obtain ⟨n, hn⟩ : ∃ n, n = ruNum s a := ⟨_, rfl⟩
      obtain ⟨er, her⟩ : ∃ n, n = ruEr s a := ⟨_, rfl⟩
      rw [← hq, ← hy, ← hx, ← hn, ← her] at IA0
      rw [← hq, ← hy, ← hx] at HD0
      rw [← hn, ← her] at HR0
      have IA := Lib.hid IA0; have CK := Lib.hid CK0; have TI := Lib.hid TI0; have TS := Lib.hid TS0; have HP := Lib.hid HP0; have HR := Lib.hid HR0; have HPD := Lib.hid HD0
      have q1 : (n == n) = true := by simp
      have q2 : (er == er) = true := by simp
      have q3 : ((D : Int) == (D : Int)) = true := by simp
      clear IA0 TI0 TS0 CK0 HP0 HR0 HD0 hn0 hk hp hh hwd hlu hA hAD hD hfu hq hy hx hn her
      go_wp2_with fail
      refine (IA.out _ _ _ E1.out).mono ?_
      rintro e w2 ⟨rfl, hb⟩
      have C2 := Lib.hid (cell_kept (heap_alloc_new w1 _) hb)
      have E2 := Lib.hid ((E1.out.below hb (Nat.le_refl _)).mono hb.size)
      have B2 := Lib.hid (below_up BA.out hb BA.out.size)
      clear hb
      have C2a := Lib.hid (heap_keep C2.out (.cells #[.string s, .int .i64 q, .int .i64 y, .int .i64 x] 25))
      have D2 := Lib.hid (heap_alloc_new w2 (.cells #[.string s, .int .i64 q, .int .i64 y, .int .i64 x] 25))
      have E2a := Lib.hid ((E2.out.below (Below.alloc (Below.refl w2.heap.size w2) (Nat.le_refl _) (.cells #[.string s, .int .i64 q, .int .i64 y, .int .i64 x] 25)) (Nat.le_refl _)).mono (show w2.heap.size ≤ (w2.alloc (.cells #[.string s, .int .i64 q, .int .i64 y, .int .i64 x] 25)).heap.size by simp))
      have B2a := Lib.hid (B2.out.alloc B2.out.size (.cells #[.string s, .int .i64 q, .int .i64 y, .int .i64 x] 25))
      go_wp2_with fail
      refine (IU.out _).mono ?_
      rintro e w3 ⟨A8, c8, rfl, hu8, hb⟩
      have U3 := Lib.hid hu8
      have C3 := Lib.hid (cell_kept C2a.out hb)
      have D3 := Lib.hid (cell_kept D2.out hb)
      have E3 := Lib.hid ((E2a.out.below hb (Nat.le_refl _)).mono hb.size)
      have B3 := Lib.hid (below_up B2a.out hb B2a.out.size)
      clear hb hu8
      go_wp2_with fail
      refine (TI.out _ _ _ E3.out).mono ?_
      rintro e w4 ⟨rfl, hb⟩
      have U4 := Lib.hid ((U3.out.below hb (Nat.le_refl _)).mono hb.size)
      have C4 := Lib.hid (cell_kept C3.out hb)
      have D4 := Lib.hid (cell_kept D3.out hb)
      have E4 := Lib.hid ((E3.out.below hb (Nat.le_refl _)).mono hb.size)
      have B4 := Lib.hid (below_up B3.out hb B3.out.size)
      clear hb
      go_wp2_with fail
      refine (TS.out _ _ _ E4.out).mono ?_
      rintro e w5 ⟨rfl, hb⟩
      have U5 := Lib.hid ((U4.out.below hb (Nat.le_refl _)).mono hb.size)
      have C5 := Lib.hid (cell_kept C4.out hb)
      have D5 := Lib.hid (cell_kept D4.out hb)
      have E5 := Lib.hid ((E4.out.below hb (Nat.le_refl _)).mono hb.size)
      have B5 := Lib.hid (below_up B4.out hb B4.out.size)
      clear hb
      go_wp2_with fail
      refine (TU.out _ _ _ U5.out).mono ?_
      rintro e w6 ⟨rfl, hb⟩
      have C6 := Lib.hid (cell_kept C5.out hb)
      have D6 := Lib.hid (cell_kept D5.out hb)
      have E6 := Lib.hid ((E5.out.below hb (Nat.le_refl _)).mono hb.size)
      have B6 := Lib.hid (below_up B5.out hb B5.out.size)
      clear hb
      obtain ⟨c0, c1, c2, c3⟩ := cells4 C6.out
      go_wp2_with fail
      refine (CK.out _).mono ?_
      rintro e w7 ⟨rfl, hb⟩
      have C7 := Lib.hid (cell_kept C6.out hb)
      have D7 := Lib.hid (cell_kept D6.out hb)
      have E7 := Lib.hid ((E6.out.below hb (Nat.le_refl _)).mono hb.size)
      have B7 := Lib.hid (below_up B6.out hb B6.out.size)
      clear hb c0 c1 c2 c3
      go_wp2_with fail
      refine (TS.out _ _ _ E7.out).mono ?_
      rintro e w8 ⟨rfl, hb⟩
      have C8 := Lib.hid (cell_kept C7.out hb)
      have D8 := Lib.hid (cell_kept D7.out hb)
      have E8 := Lib.hid ((E7.out.below hb (Nat.le_refl _)).mono hb.size)
      have B8 := Lib.hid (below_up B7.out hb B7.out.size)
      clear hb
      have hz1 := heap_lt C8.out
      have hz2 := heap_lt D8.out
      have hz0 := B8.out.size
      obtain ⟨c0, c1, c2, c3⟩ := cells4 C8.out
      have hS := And.intro c0 (And.intro c1 (And.intro c2 (And.intro c3 (And.intro D8.out (And.intro B8.out B8.out.size)))))
      clear c0 c1 c2 c3
      go_upto_region 11 with fail
      go_cut [12, 13, 14] (fun s5 s6 s7 wx => ∃ g : Nat, s5 = .pointer (some ⟨g, 0, none⟩) ∧ s6 = .int .i64 n ∧ s7 = .int .i64 er ∧ wx.heap[g]? = some (.cells #[.string s, .int .i64 D] 35 (0, 0)) ∧ wx.cell? ⟨w1.heap.size, 0, none⟩ = some (.string s) ∧ wx.cell? ⟨w1.heap.size, 1, none⟩ = some (.int .i64 p) ∧ wx.cell? ⟨w1.heap.size, 2, none⟩ = some (.int .i64 wd) ∧ wx.cell? ⟨w1.heap.size, 3, none⟩ = some (.int .i64 h) ∧ wx.heap[w2.heap.size]? = some (.cells #[.string s, .int .i64 q, .int .i64 y, .int .i64 x] 25 (0, 0)) ∧ Below w.heap.size w wx ∧ w.heap.size ≤ wx.heap.size)
      case first =>
        go_region_held3 (fun w' => w'.cell? ⟨w1.heap.size, 0, none⟩ = some (.string s) ∧ w'.cell? ⟨w1.heap.size, 1, none⟩ = some (.int .i64 p) ∧ w'.cell? ⟨w1.heap.size, 2, none⟩ = some (.int .i64 wd) ∧ w'.cell? ⟨w1.heap.size, 3, none⟩ = some (.int .i64 h) ∧ w'.heap[w2.heap.size]? = some (.cells #[.string s, .int .i64 q, .int .i64 y, .int .i64 x] 25 (0, 0)) ∧ Below w.heap.size w w' ∧ w.heap.size ≤ w'.heap.size)
          (first | (with_reducible exact HS2.out) | (with_reducible refine held4k_drew ?_; with_reducible assumption) | (with_reducible refine held4k_drew (held4k_alloc ?_); with_reducible assumption) | (with_reducible exact held4k_alloc HS2.out) | (with_reducible exact held4k_alloc HS1.out) | (with_reducible exact HS1.out) | (with_reducible refine held4k_set2 HS2.out ?_ ?_ <;> (have := HL1.out; omega)))
          (first
            | (go_at_call 22; with_reducible refine (HP.out _).mono ?_; rintro e wp ⟨rfl, hb'⟩;
               have HS1 : Hid (wp.cell? ⟨w1.heap.size, 0, none⟩ = some (.string s) ∧ wp.cell? ⟨w1.heap.size, 1, none⟩ = some (.int .i64 p) ∧ wp.cell? ⟨w1.heap.size, 2, none⟩ = some (.int .i64 wd) ∧ wp.cell? ⟨w1.heap.size, 3, none⟩ = some (.int .i64 h) ∧ wp.heap[w2.heap.size]? = some (.cells #[.string s, .int .i64 q, .int .i64 y, .int .i64 x] 25 (0, 0)) ∧ Below w.heap.size w wp ∧ w.heap.size ≤ wp.heap.size) := Lib.hid (held4k (by assumption) hb');
               have HL1 : Hid (w8.heap.size ≤ wp.heap.size) := Lib.hid (by have h2 := hb'.size; first | exact h2 | (simp at h2; omega));
               (try (have HB6 : Below (World.drew (World.alloc w8 (.cells #[.string ⟨#[]⟩, .int .i64 0] 35))).heap.size (World.drew (World.alloc w8 (.cells #[.string ⟨#[]⟩, .int .i64 0] 35))) wp := by with_reducible assumption
                     have K5 : Hid (wp.heap[w8.heap.size]? = some (.cells #[.string ⟨#[]⟩, .int .i64 0] 35 (0, 0))) := Lib.hid (by have h := cell_kept (w := World.drew (World.alloc w8 (.cells #[.string ⟨#[]⟩, .int .i64 0] 35))) (heap_alloc_new w8 (.cells #[.string ⟨#[]⟩, .int .i64 0] 35)) HB6; simpa using h); clear HB6)))
            | (go_at_call 21; with_reducible refine (HR.out _).mono ?_; rintro e wq ⟨rfl, hb''⟩;
               have HS2 : Hid (wq.cell? ⟨w1.heap.size, 0, none⟩ = some (.string s) ∧ wq.cell? ⟨w1.heap.size, 1, none⟩ = some (.int .i64 p) ∧ wq.cell? ⟨w1.heap.size, 2, none⟩ = some (.int .i64 wd) ∧ wq.cell? ⟨w1.heap.size, 3, none⟩ = some (.int .i64 h) ∧ wq.heap[w2.heap.size]? = some (.cells #[.string s, .int .i64 q, .int .i64 y, .int .i64 x] 25 (0, 0)) ∧ Below w.heap.size w wq ∧ w.heap.size ≤ wq.heap.size) := Lib.hid (held4k (by assumption) hb'');
               (first
                 | (have K6 := Lib.hid (cell_kept K5.out hb''); have p5 := cells2 K6.out; obtain ⟨p6, p7⟩ := p5; have p8 := frozen_of_row _ _ 0 _ _ K6.out; have p9 := frozen_of_row _ _ 1 _ _ K6.out)
                 | (have HB6 : Below (World.alloc wp (.cells #[.string ⟨#[]⟩, .int .i64 0] 35)).heap.size (World.alloc wp (.cells #[.string ⟨#[]⟩, .int .i64 0] 35)) wq := by with_reducible assumption
                    have K6 : Hid (wq.heap[wp.heap.size]? = some (.cells #[.string ⟨#[]⟩, .int .i64 0] 35 (0, 0))) := Lib.hid (by have h := cell_kept (heap_alloc_new wp (.cells #[.string ⟨#[]⟩, .int .i64 0] 35)) HB6; simpa using h); clear HB6; have p5 := cells2 K6.out; obtain ⟨p6, p7⟩ := p5; have p8 := frozen_of_row _ _ 0 _ _ K6.out; have p9 := frozen_of_row _ _ 1 _ _ K6.out)
                 | skip))
            | fail)
        all_goals go_wp2_with fail
        all_goals go_meet
        all_goals first
          | exact ⟨_, rfl, rfl, rfl, heap_alloc_new _ _, by assumption⟩
          | exact ⟨_, rfl, rfl, rfl, block_set2 K6.out _ _, by assumption⟩
      case rest =>
        obtain ⟨g, rfl, rfl, rfl, kg, -, -, -, -, kd, hb, hle⟩ := hcut
        clear hS
        obtain ⟨c0, c1, c2, c3⟩ := cells4 kd
        have cg := (cells2 kg).2
        have hT := And.intro c0 (And.intro c1 (And.intro c2 (And.intro c3 (And.intro cg hb))))
        clear c0 c1 c2 c3 cg kg kd hb
        go_upto_region 12 with fail
        go_region_held3 (fun w' => w'.cell? ⟨w2.heap.size, 0, none⟩ = some (.string s) ∧ w'.cell? ⟨w2.heap.size, 1, none⟩ = some (.int .i64 q) ∧ w'.cell? ⟨w2.heap.size, 2, none⟩ = some (.int .i64 y) ∧ w'.cell? ⟨w2.heap.size, 3, none⟩ = some (.int .i64 x) ∧ w'.cell? ⟨g, 1, none⟩ = some (.int .i64 D) ∧ Below w.heap.size w w')
          (first | (with_reducible refine held5_drew ?_; with_reducible assumption) | (with_reducible exact HT2.out))
          (first
            | (go_at_call 23; with_reducible refine (HPD.out _).mono ?_; rintro e wr ⟨rfl, hb'⟩; have HT2 := Lib.hid (held5_below (by assumption) hb' (Nat.le_refl _)))
            | fail)
        go_wp2
        go_ret
        exact ⟨rfl, HT2.out.2.2.2.2.2⟩

/-- The law's own walk. -/
theorem fnTables_walk (a : Option Addr) (len cap : Nat) (zs : List Int) (w : World) (hr : IsRow .u8 w a len cap zs) :
    Calls Try.prog 3 #[.slice a len cap] w fun e w' => e = .returned (.bool true) ∧ Below w.heap.size w w' := by
  have hlm := hr.len_le
  unfold maxLen at hlm
  by_cases hbig : 1048576 < len
  · exact tables_big a cap len hbig hlm w
  · have hbigF : decide (1048576 < (len : Int)) = false := decide_eq_false (by omega)
    obtain ⟨ys, rfl, hW⟩ := code_of hr (by omega)
    exact tables_in a cap ys w hW ys.length hbigF (Lib.hid (big_any a ys.length cap hlm)) (Lib.hid fun w hW => drawfast_ex a cap ys w hW)
end Go.Proofs.Ytgacldhpohnpaaa
