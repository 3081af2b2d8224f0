/-
  The walk of the law on reading a string in parts from a cache. No condition.
-/
import Derived.Test.YtpifpemlljeglaaCacheTake
import Derived.Test.YtpifpemlljeglaaReadDraw
import Derived.Test.YtpifpemlljeglaaDraw2
import Derived.Test.YtpifpemlljeglaaBitsOf
import Derived.Test.YtpifpemlljeglaaBitsIn
import Derived.Deep.Cut
namespace Go.Proofs.Ytpifpemlljeglaa
open Go.RowKit
set_option linter.unusedVariables false

set_option maxHeartbeats 400000 in
theorem drawCacheNew_det (A : Option Addr) (cap : Nat) (zs : List Int) : ∃ l : List UInt8, l.length ≤ 5 ∧ ∀ w : World, Code w A zs →
    Calls Try.prog 25 #[.slice A zs.length cap] w fun e w' => e = .returned (.string (bs l)) ∧ Below w.heap.size w w' := by
  obtain ⟨l, i1, h1, a1, l1, C1⟩ := text_det A cap zs 0 (hashF zs (min zs.length 4000)) (Nat.zero_le _) 5 (by decide)
  refine ⟨l, a1, fun w hW => ?_⟩
  have HN := Lib.hid (new_any A cap zs hW.few hW.bytes w hW.lies)
  have HC1 := Lib.hid C1
  clear C1 hW a1
  go_enter Try.func25, Try.ntmps25
  go_wp2_with fail
  refine HN.out.mono ?_
  rintro e w1 ⟨rfl, hC, hb1⟩
  have HC := Lib.hid hC; clear hC
  go_wp2_with fail
  refine (HC1.out _ _ HC.out).mono ?_
  rintro e w2 ⟨rfl, hC2, hg2⟩
  have G2 := Lib.hid hC2; clear hC2
  go_wp2
  go_ret
  exact ⟨rfl, hb1.trans (grown_below hg2 (Nat.le_refl _) hb1.size)⟩

theorem below_grows {w w' : World} (h : Below w.heap.size w w') (row : Option Nat) : w.grownBy w' row := ⟨h.os, h.tape, h.output, h.size, fun k hk _ => h.block k hk⟩
/-- Bit `j` of a number of bits. -/
theorem rdN_bit (s : ByteArray) (a m j : Nat) (h : j < m) : rdN s a m / 2 ^ (m - 1 - j) % 2 = bitN s (a + j) := by
  have h1 := rdN_cut s a (j + 1) m (by omega)
  rw [show m - (j + 1) = m - 1 - j by omega] at h1
  have h2 := bitN_lt s (a + j)
  rw [h1, rdN]
  omega
/-- The bits of what is read are those of the string. -/
theorem inL_cut (s : ByteArray) (a m n : Nat) (h : a + m ≤ n) : inL (rdN s a m) m m = ((bitsL s n).drop a).take m := by
  apply List.ext_getElem
  · rw [inL_len, List.length_take, List.length_drop, bitsL_len]; omega
  · intro j h1 h2
    rw [inL_len] at h1
    have e1 := inL_at (rdN s a m) m m j h1
    have e2 := bitsL_at s n (a + j) (by omega)
    rw [List.getD_eq_getElem?_getD, List.getElem?_eq_getElem (by rw [inL_len]; exact h1), Option.getD_some] at e1
    rw [List.getD_eq_getElem?_getD, List.getElem?_eq_getElem (by rw [bitsL_len]; omega), Option.getD_some] at e2
    rw [e1, List.getElem_take, List.getElem_drop, e2, rdN_bit s a m j h1]
/-- A part of a row, as a view. -/
theorem ints_part {w : World} {g b off : Nat} {l : List Int} (hl : l.length ≤ 281474976710656) (hb : b < g) (hc : ∀ j, j < l.length → w.cell? ⟨b, off + j, none⟩ = some (.int .i64 (l.getD j 0))) (a m : Nat) (h : a + m ≤ l.length) : Ints w g (some ⟨b, off + a, none⟩) ((l.drop a).take m) := by
  have hlen : ((l.drop a).take m).length = m := by rw [List.length_take, List.length_drop]; omega
  refine ⟨by omega, .inr ⟨b, off + a, rfl, hb, fun j hj => ?_⟩⟩
  rw [hlen] at hj
  have := hc (a + j) (by omega)
  rw [show off + a + j = off + (a + j) by omega, this]
  congr 2
  rw [List.getD_eq_getElem?_getD, List.getD_eq_getElem?_getD, List.getElem?_take, if_pos hj, List.getElem?_drop]
/-- A row of the call's own: where it lies. -/
theorem OwnI.place {w : World} {base : Nat} {A : Option Addr} {cap : Nat} {l : List Int} (h : OwnI w base A cap l) (hl : 0 < l.length) : ∃ b, A = some ⟨b, 0, none⟩ ∧ base ≤ b ∧ b < w.heap.size ∧ l.length ≤ cap ∧ cap ≤ maxLen ∧ ∀ j, j < l.length → w.cell? ⟨b, j, none⟩ = some (.int .i64 (l.getD j 0)) := by
  have h0 := h
  rcases h.2 with ⟨h1, h2⟩ | ⟨g, cap, cur, h1, h2, h3, h4, h5, _⟩
  · omega
  · simp only [Value.slice.injEq] at h1
    obtain ⟨rfl, _, rfl⟩ := h1
    refine ⟨g, rfl, h2, (Array.getElem?_eq_some_iff.1 h3).1, h4, h5, fun j hj => ?_⟩
    rw [World.ownsRow.cellAt h0 j (by omega)]
    exact ivs_at l j hj

/-- The part of the string's bits, behind all that the round did. -/
theorem part_of {s : ByteArray} {w3 wd w6 : World} {bb x kk m : Nat} {L la : List Int} (hlist : la = (L.drop kk).take m) (s5 : s.size ≤ 5) (hLl : L.length = 8 * s.size) (hin : kk + m ≤ 8 * s.size) (hcell : ∀ j, j < L.length → w3.cell? ⟨bb, j, none⟩ = some (.int .i64 (L.getD j 0)))
    (hg : w3.grownBy wd (some x)) (hb2 : bb < w3.heap.size) (hne : bb ≠ x) (hb6 : Below wd.heap.size wd w6) : Ints w6 w6.heap.size (some ⟨bb, kk, none⟩) la := by
  have h1 : wd.heap[bb]? = w3.heap[bb]? := hg.block bb hb2 (by simp; omega)
  have hlt : bb < wd.heap.size := Nat.lt_of_lt_of_le hb2 hg.size
  have h2 : w6.heap[bb]? = w3.heap[bb]? := by rw [hb6.block bb hlt]; exact h1
  have := ints_part (w := w6) (g := w6.heap.size) (b := bb) (off := 0) (l := L) (by omega) (Nat.lt_of_lt_of_le hlt hb6.size) (fun j hj => by
    rw [Nat.zero_add, World.cell?_of_block (w := w3) (w' := w6) (a := ⟨bb, j, none⟩) h2]
    exact hcell j hj) kk m (by omega)
  rw [Nat.zero_add] at this
  rw [hlist]
  exact this

set_option maxRecDepth 100000 in
set_option maxHeartbeats 4000000 in
theorem walk_in (A : Option Addr) (cap : Nat) (ys : List Int) (w : World) (hw : Code w A ys) (N : Nat) (hN : N = ys.length) (s : ByteArray) (s5 : s.size ≤ 5)
    (hbig : decide (1048576 < (N : Int)) = false)
    (BG : Hid (∀ w, Calls Try.prog 13 #[.slice A N cap] w fun e w' => e = .returned (.bool (decide (1048576 < (N : Int)))) ∧ w = w'))
    (DR : Hid (∀ w, Code w A ys → Calls Try.prog 25 #[.slice A N cap] w fun e w' => e = .returned (.string s) ∧ Below w.heap.size w w'))
    (HAT : Hid (∀ i : Nat, i ≤ 1000 → ∃ x : Int, 0 ≤ x ∧ x < 256 ∧ ∀ w : World, Code w A ys → Calls Try.prog 27 #[.slice A N cap, .int .i64 i] w fun e w' => e = .returned (.int .i64 x) ∧ w = w')) :
    Calls Try.prog 4 #[.slice A N cap] w fun e w' => e = .returned (.bool true) ∧ Below w.heap.size w w' := by
  have NW := Lib.hid (impl_new_any s)
  unfold cv at NW
  have BO := Lib.hid (spec_bitsof_any s (by omega))
  obtain ⟨L, hL⟩ : ∃ L, L = bitsL s (8 * s.size) := ⟨_, rfl⟩
  have hLl : L.length = 8 * s.size := by rw [hL, bitsL_len]
  rw [← hL] at BO
  have HL := Lib.hid hL; clear hL
  have W0 := Lib.hid hw
  clear hw hN
  go_enter Try.func4, Try.ntmps4
  go_wp2_with fail
  refine (BG.out _).mono ?_
  rintro e w' ⟨rfl, rfl⟩
  go_wp2_with fail
  refine (DR.out _ W0.out).mono ?_
  rintro e w1 ⟨rfl, hb⟩
  have B1 := Lib.hid hb; clear hb
  go_wp2_with fail
  refine (NW.out _).mono ?_
  rintro e w2 ⟨rfl, hb⟩
  have B2 := Lib.hid (below_step B1.out hb); clear hb
  go_wp2_with fail
  refine (BO.out _).mono ?_
  rintro e w3 ⟨A0, capB, rfl, ho, hb⟩
  have X3 := Lib.hid (cell_kept (heap_alloc_new w2 _) hb)
  have B3 := Lib.hid (below_step (B2.out.alloc B2.out.size _) hb)
  have hx3 : w2.heap.size < w3.heap.size := heap_lt X3.out
  have hxw : w.heap.size ≤ w2.heap.size := B2.out.size
  have hP := fun h => ho.place h
  have HP := Lib.hid hP
  obtain ⟨x, hx⟩ : ∃ x, x = w2.heap.size := ⟨_, rfl⟩
  have hxa : (w2.alloc (.cells #[.string s, .int .i64 0, .int .i64 0, .int .i64 0] 25)).heap.size = x + 1 := by rw [hx]; simp
  have HXA := Lib.hid hxa
  rw [← hx] at X3 hx3 hxw ⊢
  clear hb ho hP hx hxa
  go_wp2
  go_loopw [6, 7] (fun kv iv wr => ∃ kk i Q : Nat, i ≤ kk ∧ At s kk Q ∧ kv = .int .i64 kk ∧ iv = .int .i64 i ∧ wr.heap[x]? = some (.cells #[.string s, .int .i64 Q, .int .i64 (rdN s kk (8 * Q - kk)), .int .i64 ((8 * Q - kk : Nat) : Int)] 25 (0, 0)) ∧ w3.grownBy wr (some x))
    (fun _ iv _ => 8 * s.size + 2 - (intOf iv).toNat)
  case atStart => exact ⟨0, 0, 0, Nat.le_refl _, ⟨Nat.zero_le _, Nat.le_refl _, Nat.zero_le _⟩, rfl, rfl, X3.out, grown_refl _ _⟩
  case round =>
    obtain ⟨kk, i, Q, hik, hA, rfl, rfl, hX, hG⟩ := hrel
    have hA1 := hA
    obtain ⟨a1, a2, a3⟩ := hA1
    have hi1 : i ≤ 8 * s.size := by omega
    have hlt : (i : Int) < 8 * (s.size : Int) + 2 := by omega
    obtain ⟨xv, v0, v9, CA⟩ := HAT.out i (by omega)
    obtain ⟨xv, rfl⟩ := Int.eq_ofNat_of_zero_le v0
    obtain ⟨m, hm⟩ : ∃ m, m = 1 + xv % 16 := ⟨_, rfl⟩
    have hmI : 1 + (xv : Int) % 16 = (m : Int) := by omega
    have m1 : 1 ≤ m := by omega
    have m9 : m ≤ 16 := by omega
    have k9 : kk ≤ 40 := by omega
    clear hm
    have BR := Lib.hid (B3.out.trans (grown_below hG hxw B3.out.size))
    have HG := Lib.hid hG; have HA := Lib.hid hA; have HX := Lib.hid hX
    have CA' := Lib.hid CA
    clear hG hA hX CA a1 a2 a3
    have TK := Lib.hid (impl_take_in s kk Q m (by omega) HA.out m9)
    unfold tkR cw cv at TK
    by_cases hin : kk + m ≤ 8 * s.size
    · have hpos : 0 < L.length := by omega
      obtain ⟨bb, rfl, hb1, hb2, hcap, hcm, hcell⟩ := HP.out hpos
      rw [HXA.out] at hb1
      have hle := (pkP_has s kk Q m HA.out m9).2 hin
      rw [if_pos hle, pkV, if_neg (by omega)] at TK
      have hD := (pkP_at s kk Q m HA.out).2
      obtain ⟨Q', hQ'⟩ : ∃ Q', Q' = pkP s kk Q m := ⟨_, rfl⟩
      rw [← hQ'] at TK hD hle
      clear hQ'
      have hD2 : At s (kk + m) Q' := by obtain ⟨b1, b2, b3⟩ := hD; exact ⟨b1, by omega, by omega⟩
      have BI := Lib.hid (impl_bitsin_ok (rdN s kk m) m (by omega) (rdN_lt s kk m))
      have hlist := inL_cut s kk m (8 * s.size) hin
      rw [← HL.out] at hlist
      have hlen : (inL (rdN s kk m) m m).length = m := inL_len _ _ _
      obtain ⟨v, hv⟩ : ∃ v : Int, v = (rdN s kk m : Int) := ⟨_, rfl⟩
      obtain ⟨la, hla⟩ : ∃ la, la = inL (rdN s kk m) m m := ⟨_, rfl⟩
      rw [← hv] at TK BI
      rw [← hla] at BI hlist hlen
      rw [hlen] at BI
      obtain ⟨p, hp⟩ : ∃ p : Int, p = (Q' : Int) := ⟨_, rfl⟩
      obtain ⟨y, hy⟩ : ∃ y : Int, y = (rdN s (kk + m) (8 * Q' - (kk + m)) : Int) := ⟨_, rfl⟩
      obtain ⟨z, hz⟩ : ∃ z : Int, z = ((8 * Q' - (kk + m) : Nat) : Int) := ⟨_, rfl⟩
      rw [← hp, ← hy, ← hz] at TK
      obtain ⟨p', hp'⟩ : ∃ p' : Int, p' = (Q : Int) := ⟨_, rfl⟩
      obtain ⟨y', hy'⟩ : ∃ y' : Int, y' = (rdN s kk (8 * Q - kk) : Int) := ⟨_, rfl⟩
      obtain ⟨z', hz'⟩ : ∃ z' : Int, z' = ((8 * Q - kk : Nat) : Int) := ⟨_, rfl⟩
      have hX := HX.out
      rw [← hp', ← hy', ← hz'] at TK hX
      obtain ⟨c0, c1, c2, c3⟩ := cells4 hX
      have HPYZ := Lib.hid (And.intro hp (And.intro hy hz))
      have HD2 := Lib.hid hD2; have HXX := Lib.hid hX; have HLI := Lib.hid hlist; have HLE := Lib.hid hlen; have HCE := Lib.hid hcell
      clear hp hy hz hp' hy' hz' hX HX hv hla hD hD2 hle hlist hcell hlen
      go_wp2_with fail
      refine (CA'.out _ (W0.out.below BR.out)).mono ?_
      rintro e w' ⟨rfl, rfl⟩
      go_wp2_with fail
      refine (TK.out _).mono ?_
      rintro e w4 ⟨rfl, hb4⟩
      clear c0 c1 c2 c3
      obtain ⟨wd, hwd⟩ : ∃ wd, wd = w4.alloc (.cells #[.string s, .int .i64 p, .int .i64 y, .int .i64 z] 25) := ⟨_, rfl⟩
      obtain ⟨d, hd⟩ : ∃ d, d = w4.heap.size := ⟨_, rfl⟩
      have hne : bb ≠ x := by omega
      have kd : wd.heap[d]? = some (.cells #[.string s, .int .i64 p, .int .i64 y, .int .i64 z] 25 (0, 0)) := by rw [hwd, hd]; exact heap_alloc_new w4 _
      have kx : wd.heap[x]? = some (.cells #[.string s, .int .i64 p', .int .i64 y', .int .i64 z'] 25 (0, 0)) := by rw [hwd]; exact heap_keep (cell_kept HXX.out hb4) _
      have kg : w3.grownBy wd (some x) := by rw [hwd]; exact (HG.out.trans (below_grows hb4 _)).trans (World.grownBy_alloc _ _ _)
      have KD := Lib.hid kd; have KX := Lib.hid kx; have KG := Lib.hid kg; have HWD := Lib.hid hwd
      clear kd kx kg hb4 hwd
      go_upto_region 14 with fail
      rw [← HWD.out, ← hd]
      have HDD := Lib.hid hd
      clear hd
      have hts : ((kk : Int) + (m : Int)).toNat - kk = m := by omega
      have hdw : d < wd.heap.size := heap_lt KD.out
      have hdx : x < wd.heap.size := heap_lt KX.out
      have sm : IntKind.i64.wrap ((kk : Int) + (m : Int)) = (kk : Int) + (m : Int) := IntWalk.i64_in _ (by omega)
      have qg : decide (8 * (s.size : Int) < (kk : Int) + (m : Int)) = false := by simp; omega
      have i1 : (0 : Int) ≤ (kk : Int) := by omega
      have i2 : (kk : Int) ≤ (kk : Int) + (m : Int) := by omega
      have i3 : (kk : Int) + (m : Int) ≤ 8 * (s.size : Int) := by omega
      have i4 : (kk : Int) + (m : Int) ≤ (capB : Int) := by omega
      have SA : Hid (∀ A B ca cb w, Ints w w.heap.size A la → Ints w w.heap.size B la → Calls Try.prog 28 #[.slice A m ca, .slice B m cb] w fun e w' => e = .returned (.bool true) ∧ Below w.heap.size w w') := Lib.hid fun A B ca cb w hA hB => by
        have h := sameints_any A B ca cb la la w hA hB
        rw [decide_eq_true rfl, HLE.out] at h
        exact h
      refine wp_region_held_drew (S := (fun w' => w'.heap[d]? = some (.cells #[.string s, .int .i64 p, .int .i64 y, .int .i64 z] 25 (0, 0)) ∧ w'.heap[x]? = some (.cells #[.string s, .int .i64 p', .int .i64 y', .int .i64 z'] 25 (0, 0)) ∧ w3.grownBy w' (some x))) (by kernel_rfl) ?_ (fun hHeld => ?_)
      · (try dsimp only); (first | exact ⟨KD.out, KX.out, grown_drew KG.out⟩ | exact ⟨cell_kept hHeld.1 hb', cell_kept hHeld.2.1 hb', hHeld.2.2.trans (below_grows hb' _)⟩)
      first | (refine wpAnyH_take (i := 0) (oi := ⟨some 54, _, _, _, _, _⟩) (v := ?_) rfl (by kernel_rfl) (by kernel_rfl) (by kernel_rfl) (fun _ _ _ h => h) (Or.inl ⟨by rfl, ?_⟩) (by assumption) ?_; rotate_left; focus (intro w hSw; (try dsimp only at hSw); go_simp; (try with_reducible rfl); done)) | (refine wpAnyH_take (i := 0) (oi := ⟨some 54, _, _, _, _, _⟩) (v := undef) rfl (by kernel_rfl) (by kernel_rfl) (by kernel_rfl) (fun _ _ _ h => h) (Or.inr ⟨by rfl, rfl⟩) (by assumption) ?_)
      try simp only [Act.put, List.setIfInBounds_toArray, List.set_cons_zero, List.set_cons_succ]
      first | (refine wpAnyH_take (i := 1) (oi := ⟨some 55, _, _, _, _, _⟩) (v := ?_) rfl (by kernel_rfl) (by kernel_rfl) (by kernel_rfl) (fun _ _ _ h => h) (Or.inl ⟨by rfl, ?_⟩) (by assumption) ?_; rotate_left; focus (intro w hSw; (try dsimp only at hSw); go_simp; (try with_reducible rfl); done)) | (refine wpAnyH_take (i := 1) (oi := ⟨some 55, _, _, _, _, _⟩) (v := undef) rfl (by kernel_rfl) (by kernel_rfl) (by kernel_rfl) (fun _ _ _ h => h) (Or.inr ⟨by rfl, rfl⟩) (by assumption) ?_)
      try simp only [Act.put, List.setIfInBounds_toArray, List.set_cons_zero, List.set_cons_succ]
      first | (refine wpAnyH_take (i := 2) (oi := ⟨some 56, _, _, _, _, _⟩) (v := ?_) rfl (by kernel_rfl) (by kernel_rfl) (by kernel_rfl) (fun _ _ _ h => h) (Or.inl ⟨by rfl, ?_⟩) (by assumption) ?_; rotate_left; focus (intro w hSw; (try dsimp only at hSw); go_simp; (try with_reducible rfl); done)) | (refine wpAnyH_take (i := 2) (oi := ⟨some 56, _, _, _, _, _⟩) (v := undef) rfl (by kernel_rfl) (by kernel_rfl) (by kernel_rfl) (fun _ _ _ h => h) (Or.inr ⟨by rfl, rfl⟩) (by assumption) ?_)
      try simp only [Act.put, List.setIfInBounds_toArray, List.set_cons_zero, List.set_cons_succ]
      first | (refine wpAnyH_take (i := 3) (oi := ⟨some 57, _, _, _, _, _⟩) (v := ?_) rfl (by kernel_rfl) (by kernel_rfl) (by kernel_rfl) (fun _ _ _ h => h) (Or.inl ⟨by rfl, ?_⟩) (by assumption) ?_; rotate_left; focus (intro w hSw; (try dsimp only at hSw); go_simp; (try with_reducible rfl); done)) | (refine wpAnyH_take (i := 3) (oi := ⟨some 57, _, _, _, _, _⟩) (v := undef) rfl (by kernel_rfl) (by kernel_rfl) (by kernel_rfl) (fun _ _ _ h => h) (Or.inr ⟨by rfl, rfl⟩) (by assumption) ?_)
      try simp only [Act.put, List.setIfInBounds_toArray, List.set_cons_zero, List.set_cons_succ]
      first | (refine wpAnyH_take (i := 4) (oi := ⟨some 58, _, _, _, _, _⟩) (v := ?_) rfl (by kernel_rfl) (by kernel_rfl) (by kernel_rfl) (fun _ _ _ h => h) (Or.inl ⟨by rfl, ?_⟩) (by assumption) ?_; rotate_left; focus (intro w hSw; (try dsimp only at hSw); go_simp; (try with_reducible rfl); done)) | (refine wpAnyH_take (i := 4) (oi := ⟨some 58, _, _, _, _, _⟩) (v := undef) rfl (by kernel_rfl) (by kernel_rfl) (by kernel_rfl) (fun _ _ _ h => h) (Or.inr ⟨by rfl, rfl⟩) (by assumption) ?_)
      try simp only [Act.put, List.setIfInBounds_toArray, List.set_cons_zero, List.set_cons_succ]
      first | (refine wpAnyH_take (i := 5) (oi := ⟨some 59, _, _, _, _, _⟩) (v := ?_) rfl (by kernel_rfl) (by kernel_rfl) (by kernel_rfl) (fun _ _ _ h => h) (Or.inl ⟨by rfl, ?_⟩) (by assumption) ?_; rotate_left; focus (intro w hSw; (try dsimp only at hSw); go_simp; (try with_reducible rfl); done)) | (refine wpAnyH_take (i := 5) (oi := ⟨some 59, _, _, _, _, _⟩) (v := undef) rfl (by kernel_rfl) (by kernel_rfl) (by kernel_rfl) (fun _ _ _ h => h) (Or.inr ⟨by rfl, rfl⟩) (by assumption) ?_)
      try simp only [Act.put, List.setIfInBounds_toArray, List.set_cons_zero, List.set_cons_succ]
      first | (refine wpAnyH_take (i := 6) (oi := ⟨some 60, _, _, _, _, _⟩) (v := ?_) rfl (by kernel_rfl) (by kernel_rfl) (by kernel_rfl) (fun _ _ _ h => h) (Or.inl ⟨by rfl, ?_⟩) (by assumption) ?_; rotate_left; focus (intro w hSw; (try dsimp only at hSw); go_simp; (try with_reducible rfl); done)) | (refine wpAnyH_take (i := 6) (oi := ⟨some 60, _, _, _, _, _⟩) (v := undef) rfl (by kernel_rfl) (by kernel_rfl) (by kernel_rfl) (fun _ _ _ h => h) (Or.inr ⟨by rfl, rfl⟩) (by assumption) ?_)
      try simp only [Act.put, List.setIfInBounds_toArray, List.set_cons_zero, List.set_cons_succ]
      first | (refine wpAnyH_take (i := 7) (oi := ⟨some 61, _, _, _, _, _⟩) (v := ?_) rfl (by kernel_rfl) (by kernel_rfl) (by kernel_rfl) (fun _ _ _ h => h) (Or.inl ⟨by rfl, ?_⟩) (by assumption) ?_; rotate_left; focus (intro w hSw; (try dsimp only at hSw); go_simp; (try with_reducible rfl); done)) | (refine wpAnyH_take (i := 7) (oi := ⟨some 61, _, _, _, _, _⟩) (v := undef) rfl (by kernel_rfl) (by kernel_rfl) (by kernel_rfl) (fun _ _ _ h => h) (Or.inr ⟨by rfl, rfl⟩) (by assumption) ?_)
      try simp only [Act.put, List.setIfInBounds_toArray, List.set_cons_zero, List.set_cons_succ]
      first | (refine wpAnyH_take (i := 8) (oi := ⟨some 62, _, _, _, _, _⟩) (v := ?_) rfl (by kernel_rfl) (by kernel_rfl) (by kernel_rfl) (fun _ _ _ h => h) (Or.inl ⟨by rfl, ?_⟩) (by assumption) ?_; rotate_left; focus (intro w hSw; (try dsimp only at hSw); go_simp; (try with_reducible rfl); done)) | (refine wpAnyH_take (i := 8) (oi := ⟨some 62, _, _, _, _, _⟩) (v := undef) rfl (by kernel_rfl) (by kernel_rfl) (by kernel_rfl) (fun _ _ _ h => h) (Or.inr ⟨by rfl, rfl⟩) (by assumption) ?_)
      try simp only [Act.put, List.setIfInBounds_toArray, List.set_cons_zero, List.set_cons_succ]
      first | (refine wpAnyH_take (i := 10) (oi := ⟨some 64, _, _, _, _, _⟩) (v := ?_) rfl (by kernel_rfl) (by kernel_rfl) (by kernel_rfl) (fun _ _ _ h => h) (Or.inl ⟨by rfl, ?_⟩) (by assumption) ?_; rotate_left; focus (intro w hSw; (try dsimp only at hSw); go_simp; (try with_reducible rfl); done)) | (refine wpAnyH_take (i := 10) (oi := ⟨some 64, _, _, _, _, _⟩) (v := undef) rfl (by kernel_rfl) (by kernel_rfl) (by kernel_rfl) (fun _ _ _ h => h) (Or.inr ⟨by rfl, rfl⟩) (by assumption) ?_)
      try simp only [Act.put, List.setIfInBounds_toArray, List.set_cons_zero, List.set_cons_succ]
      first | (refine wpAnyH_take (i := 11) (oi := ⟨some 65, _, _, _, _, _⟩) (v := ?_) rfl (by kernel_rfl) (by kernel_rfl) (by kernel_rfl) (fun _ _ _ h => h) (Or.inl ⟨by rfl, ?_⟩) (by assumption) ?_; rotate_left; focus (intro w hSw; (try dsimp only at hSw); go_simp; (try with_reducible rfl); done)) | (refine wpAnyH_take (i := 11) (oi := ⟨some 65, _, _, _, _, _⟩) (v := undef) rfl (by kernel_rfl) (by kernel_rfl) (by kernel_rfl) (fun _ _ _ h => h) (Or.inr ⟨by rfl, rfl⟩) (by assumption) ?_)
      try simp only [Act.put, List.setIfInBounds_toArray, List.set_cons_zero, List.set_cons_succ]
      first | (refine wpAnyH_take (i := 12) (oi := ⟨some 66, _, _, _, _, _⟩) (v := ?_) rfl (by kernel_rfl) (by kernel_rfl) (by kernel_rfl) (fun _ _ _ h => h) (Or.inl ⟨by rfl, ?_⟩) (by assumption) ?_; rotate_left; focus (intro w hSw; (try dsimp only at hSw); go_simp; (try with_reducible rfl); done)) | (refine wpAnyH_take (i := 12) (oi := ⟨some 66, _, _, _, _, _⟩) (v := undef) rfl (by kernel_rfl) (by kernel_rfl) (by kernel_rfl) (fun _ _ _ h => h) (Or.inr ⟨by rfl, rfl⟩) (by assumption) ?_)
      try simp only [Act.put, List.setIfInBounds_toArray, List.set_cons_zero, List.set_cons_succ]
      first | (refine wpAnyH_take (i := 13) (oi := ⟨some 67, _, _, _, _, _⟩) (v := ?_) rfl (by kernel_rfl) (by kernel_rfl) (by kernel_rfl) (fun _ _ _ h => h) (Or.inl ⟨by rfl, ?_⟩) (by assumption) ?_; rotate_left; focus (intro w hSw; (try dsimp only at hSw); go_simp; (try with_reducible rfl); done)) | (refine wpAnyH_take (i := 13) (oi := ⟨some 67, _, _, _, _, _⟩) (v := undef) rfl (by kernel_rfl) (by kernel_rfl) (by kernel_rfl) (fun _ _ _ h => h) (Or.inr ⟨by rfl, rfl⟩) (by assumption) ?_)
      try simp only [Act.put, List.setIfInBounds_toArray, List.set_cons_zero, List.set_cons_succ]
      first | (refine wpAnyH_take (i := 14) (oi := ⟨some 68, _, _, _, _, _⟩) (v := ?_) rfl (by kernel_rfl) (by kernel_rfl) (by kernel_rfl) (fun _ _ _ h => h) (Or.inl ⟨by rfl, ?_⟩) (by assumption) ?_; rotate_left; focus (intro w hSw; (try dsimp only at hSw); go_simp; (try with_reducible rfl); done)) | (refine wpAnyH_take (i := 14) (oi := ⟨some 68, _, _, _, _, _⟩) (v := undef) rfl (by kernel_rfl) (by kernel_rfl) (by kernel_rfl) (fun _ _ _ h => h) (Or.inr ⟨by rfl, rfl⟩) (by assumption) ?_)
      try simp only [Act.put, List.setIfInBounds_toArray, List.set_cons_zero, List.set_cons_succ]
      first | (refine wpAnyH_take (i := 15) (oi := ⟨some 69, _, _, _, _, _⟩) (v := ?_) rfl (by kernel_rfl) (by kernel_rfl) (by kernel_rfl) (fun _ _ _ h => h) (Or.inl ⟨by rfl, ?_⟩) (by assumption) ?_; rotate_left; focus (intro w hSw; (try dsimp only at hSw); go_simp; (try with_reducible rfl); done)) | (refine wpAnyH_take (i := 15) (oi := ⟨some 69, _, _, _, _, _⟩) (v := undef) rfl (by kernel_rfl) (by kernel_rfl) (by kernel_rfl) (fun _ _ _ h => h) (Or.inr ⟨by rfl, rfl⟩) (by assumption) ?_)
      try simp only [Act.put, List.setIfInBounds_toArray, List.set_cons_zero, List.set_cons_succ]
      refine wpAnyH_ready (rs := [9]) (by kernel_rfl) (by simp) ?_
      refine AllReadyH.cons (o := ⟨some 63, _, _, _, _, _⟩) rfl (fun K hK => ?_) AllReadyH.nil
      go_simp
      (go_at_call 29; refine (BI.out _).mono ?_; rintro e w6 ⟨A1, c1, rfl, ho6, hb'⟩; have R6 := Lib.hid (ho6.ints (by have := HLE.out; omega)); have S6 := Lib.hid (part_of HLI.out s5 hLl hin HCE.out hHeld.2.2 hb2 hne hb'); clear ho6)
      try go_wp2_with fail
      refine hK.out _ _ ?_ (fun hHeld' => ?_)
      · (try dsimp only); (first | exact ⟨KD.out, KX.out, grown_drew KG.out⟩ | exact ⟨cell_kept hHeld.1 hb', cell_kept hHeld.2.1 hb', hHeld.2.2.trans (below_grows hb' _)⟩)
      clear hK K hHeld
      have hHeld := hHeld'
      clear hHeld'
      try simp only [Act.put, List.setIfInBounds_toArray, List.set_cons_zero, List.set_cons_succ]
      refine wpAnyH_ready (rs := [16]) (by kernel_rfl) (by simp) ?_
      refine AllReadyH.cons (o := ⟨some 70, _, _, _, _, _⟩) rfl (fun K hK => ?_) AllReadyH.nil
      go_simp
      (go_at_call 28; refine (SA.out _ _ _ _ _ R6.out S6.out).mono ?_; rintro e w7 ⟨rfl, hb'⟩)
      try go_wp2_with fail
      refine hK.out _ _ ?_ (fun hHeld' => ?_)
      · (try dsimp only); (first | exact ⟨KD.out, KX.out, grown_drew KG.out⟩ | exact ⟨cell_kept hHeld.1 hb', cell_kept hHeld.2.1 hb', hHeld.2.2.trans (below_grows hb' _)⟩)
      clear hK K hHeld
      have hHeld := hHeld'
      clear hHeld'
      try simp only [Act.put, List.setIfInBounds_toArray, List.set_cons_zero, List.set_cons_succ]
      first | (refine wpAnyH_take (i := 17) (oi := ⟨some 71, _, _, _, _, _⟩) (v := ?_) rfl (by kernel_rfl) (by kernel_rfl) (by kernel_rfl) (fun _ _ _ h => h) (Or.inl ⟨by rfl, ?_⟩) (by assumption) ?_; rotate_left; focus (intro w hSw; (try dsimp only at hSw); go_simp; (try with_reducible rfl); done)) | (refine wpAnyH_take (i := 17) (oi := ⟨some 71, _, _, _, _, _⟩) (v := undef) rfl (by kernel_rfl) (by kernel_rfl) (by kernel_rfl) (fun _ _ _ h => h) (Or.inr ⟨by rfl, rfl⟩) (by assumption) ?_)
      try simp only [Act.put, List.setIfInBounds_toArray, List.set_cons_zero, List.set_cons_succ]
      first | (refine wpAnyH_take (i := 18) (oi := ⟨some 72, _, _, _, _, _⟩) (v := ?_) rfl (by kernel_rfl) (by kernel_rfl) (by kernel_rfl) (fun _ _ _ h => h) (Or.inl ⟨by rfl, ?_⟩) (by assumption) ?_; rotate_left; focus (intro w hSw; (try dsimp only at hSw); go_simp; (try with_reducible rfl); done)) | (refine wpAnyH_take (i := 18) (oi := ⟨some 72, _, _, _, _, _⟩) (v := undef) rfl (by kernel_rfl) (by kernel_rfl) (by kernel_rfl) (fun _ _ _ h => h) (Or.inr ⟨by rfl, rfl⟩) (by assumption) ?_)
      try simp only [Act.put, List.setIfInBounds_toArray, List.set_cons_zero, List.set_cons_succ]
      refine wpAnyH_done (by kernel_rfl) ?_ _
      obtain ⟨k7d, k7x, k7g⟩ := hHeld
      obtain ⟨c0, c1', c2, c3⟩ := cells4 k7d
      obtain ⟨f0, f1, f2, f3⟩ := frozen4 k7x
      obtain ⟨g0, g1, g2, g3⟩ := cells4 k7x
      have hput := put4_block k7x s p y z
      have hgro := grown_set (grown_set (grown_set (grown_set k7g 0 (.string s)) 1 (.int .i64 p)) 2 (.int .i64 y)) 3 (.int .i64 z)
      have HP1 := Lib.hid hput; have HP2 := Lib.hid hgro
      clear k7d k7x k7g hput hgro
      go_wp2
      go_roundw
      case rel =>
        refine ⟨kk + m, i + 1, Q', by omega, HD2.out, by go_num, by go_num, ?_, HP2.out⟩
        rw [← HPYZ.out.1, ← HPYZ.out.2.1, ← HPYZ.out.2.2]
        exact HP1.out
      case measure => simp [intOf]; omega
    · rw [if_neg (fun e => hin ((pkP_has s kk Q m HA.out m9).1 e))] at TK
      have hD := (pkP_at s kk Q m HA.out).2
      have PI := Lib.hid (impl_placein_in s kk _ (by omega) hD)
      unfold cw cv at PI
      obtain ⟨p, hp⟩ : ∃ p : Int, p = (pkP s kk Q m : Int) := ⟨_, rfl⟩
      obtain ⟨y, hy⟩ : ∃ y : Int, y = (rdN s kk (8 * pkP s kk Q m - kk) : Int) := ⟨_, rfl⟩
      obtain ⟨z, hz⟩ : ∃ z : Int, z = ((8 * pkP s kk Q m - kk : Nat) : Int) := ⟨_, rfl⟩
      rw [← hp, ← hy, ← hz] at TK PI
      obtain ⟨p', hp'⟩ : ∃ p' : Int, p' = (Q : Int) := ⟨_, rfl⟩
      obtain ⟨y', hy'⟩ : ∃ y' : Int, y' = (rdN s kk (8 * Q - kk) : Int) := ⟨_, rfl⟩
      obtain ⟨z', hz'⟩ : ∃ z' : Int, z' = ((8 * Q - kk : Nat) : Int) := ⟨_, rfl⟩
      have hX := HX.out
      rw [← hp', ← hy', ← hz'] at TK hX
      obtain ⟨c0, c1, c2, c3⟩ := cells4 hX
      clear hp hy hz hp' hy' hz' hX HX
      have hgt : 8 * (s.size : Int) < (kk : Int) + (m : Int) := by omega
      have e1 : ((kk : Int) == (kk : Int)) = true := by simp
      go_wp2_with fail
      refine (CA'.out _ (W0.out.below BR.out)).mono ?_
      rintro e w' ⟨rfl, rfl⟩
      go_wp2_with fail
      refine (TK.out _).mono ?_
      rintro e w4 ⟨rfl, hb4⟩
      have B4 := Lib.hid (below_step BR.out hb4); clear hb4
      go_wp2_with fail
      refine (PI.out _).mono ?_
      rintro e w5 ⟨rfl, hb5⟩
      have B5 := Lib.hid (below_step (B4.out.alloc B4.out.size _) hb5); clear hb5
      go_wp2
      go_ret
      exact ⟨rfl, B5.out⟩
end Go.Proofs.Ytpifpemlljeglaa
