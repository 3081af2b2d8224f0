/-
  Plain helpers: rows of pairs (two integers each) that a call owns; contracts of what the laws do with them (compare, mark, look again, copy). No condition but those that each lemma states.
-/
import Derived.Test.YtgihpckibdnghaaEnt
namespace Go.Proofs.Ytgihpckibdnghaa
open Go.RowKit
set_option linter.unusedVariables false

def OwnP (w : World) (base : Nat) (A : Option Addr) (cap : Nat) (l : EntL) : Prop := w.ownsRow base 50 2 (.slice A l.length cap) l.length (ivs (els l))
theorem OwnP.ents {w : World} {base : Nat} {A : Option Addr} {cap : Nat} {l : EntL} (h : OwnP w base A cap l) (hm : l.length ≤ 281474976710656) : Ents w w.heap.size A l := by
  refine ⟨hm, ?_⟩
  have h0 := h
  rcases h.2 with ⟨h1, h2⟩ | ⟨g, cap, cur, h1, h2, h3, _⟩
  · exact .inl (List.eq_nil_of_length_eq_zero h2)
  · simp only [Value.slice.injEq] at h1
    obtain ⟨rfl, _, rfl⟩ := h1
    refine .inr ⟨g, 0, rfl, (Array.getElem?_eq_some_iff.1 h3).1, fun j hj => ?_⟩
    have hl := els_len l
    have e1 := ivs_at (els l) (j * 2) (by omega)
    have e2 := ivs_at (els l) (j * 2 + 1) (by omega)
    rw [els_fst] at e1
    rw [els_snd] at e2
    rw [Nat.zero_add, ← e1, ← e2]
    exact ⟨World.ownsRow.cellAt h0 (j * 2) (by omega), World.ownsRow.cellAt h0 (j * 2 + 1) (by omega)⟩
theorem OwnP.kept {w w' : World} {base B : Nat} {A : Option Addr} {cap : Nat} {l : EntL} (h : OwnP w base A cap l) (hb : Below B w w') (hB : w.heap.size ≤ B) : OwnP w' base A cap l := by
  unfold OwnP at h ⊢
  have hl := World.ownsRow.lt h
  refine World.ownsRow.kept (row := none) h ⟨hb.os, hb.tape, hb.output, hb.size, fun k hk _ => hb.block k (by omega)⟩ ?_
  cases hv : (Value.slice A l.length cap).ownBlock <;> simp
theorem OwnP.cap_le {w : World} {base : Nat} {A : Option Addr} {cap : Nat} {l : EntL} (h : OwnP w base A cap l) : l.length ≤ cap := by
  rcases h.2 with ⟨h1, h2⟩ | ⟨g, cap', cur, h1, _, _, h4, _⟩
  · omega
  · simp only [Value.slice.injEq] at h1
    omega
theorem OwnP.marked {w w' : World} {base : Nat} {A : Option Addr} {cap : Nat} {l : EntL} (h : OwnP w base A cap l) (hg : w.grownBy w' (Value.slice A l.length cap).ownBlock) {B : Nat} (hB : B ≤ base) (hw : B ≤ w.heap.size) : Below B w w' := by
  have hl := World.ownsRow.lt h
  exact (Below.refl B w).grown hg hw fun k hk => by have := hl k hk; omega
theorem Try.pinfo : (Try.prog.info? 50).map (fun i => (i.zero, i.size, i.bytes)) = some (some (.agg #[.int .i64 0, .int .i64 0]), 2, 16) := by kernel_rfl
theorem make_pairs (n : Nat) (x : Int) (hx : x = (n : Int)) (hn : n ≤ 1000000000000) (w : World) :
    (Instr.makeSlice 26 (.int .i64 x) (.int .i64 x)).run Try.prog w =
      .ok (.slice (some ⟨w.heap.size, 0, none⟩) n n) (w.alloc (.cells (ivs (els (List.replicate n (0, 0)))).toArray 50)) := by
  subst hx
  obtain ⟨i, hi, hz, h1, hb⟩ := info_parts Try.pinfo
  have h := run_make (P := Try.prog) w 26 50 i (.agg #[.int .i64 0, .int .i64 0]) Try.underlying26 hi hz .i64 .i64 (n : Int) (n : Int) (by omega) (by omega) (by rw [hb]; omega) (by omega)
  rw [h]
  have hc : madeCells (Value.agg #[.int .i64 0, .int .i64 0]).cells ((n : Int).toNat * i.size) = (ivs (els (List.replicate n (0, 0)))).toArray := by
    rw [h1, Int.toNat_natCast, els_zero]
    apply Array.ext
    · simp [madeCells, ivs]
    · intro k hk1 hk2
      have : k % 2 = 0 ∨ k % 2 = 1 := by omega
      rcases this with e | e <;> simp [madeCells, ivs, iv, Value.cells, e]
  rw [hc]
  simp
theorem own_pairs (w : World) (base : Nat) (l : EntL) (hb : base ≤ w.heap.size) (hm : l.length ≤ maxLen) : OwnP (w.alloc (.cells (ivs (els l)).toArray 50)) base (some ⟨w.heap.size, 0, none⟩) l.length l := by
  have h := World.ownsRow_lit (base := base) (e := 50) (size := 2) w (ivs (els l)).toArray l.length hb hm (by simp [ivs, els_len])
  unfold OwnP
  simpa using h
theorem eqpair_any (a b c d : Int) (w : World) :
    Calls Try.prog 49 #[.agg #[.int .i64 a, .int .i64 b], .agg #[.int .i64 c, .int .i64 d]] w fun e w' => e = .returned (.bool (decide (a = c ∧ b = d))) ∧ Below w.heap.size w w' := by
  by_cases h1 : a = c
  · subst h1
    have q1 : (a != a) = false := by simp
    by_cases h2 : b = d
    · subst h2
      have q2 : (b != b) = false := by simp
      go_enter Try.func49, Try.ntmps49
      go_wp2
      go_ret
      refine ⟨by simp, (((Below.refl _ _).alloc (Nat.le_refl _) _).alloc (by simp) _)⟩
    · have q2 : (b != d) = true := by rw [bne_iff_ne]; exact h2
      have HH := Lib.hid h2; clear h2
      go_enter Try.func49, Try.ntmps49
      go_wp2
      go_ret
      refine ⟨by simp [HH.out], (((Below.refl _ _).alloc (Nat.le_refl _) _).alloc (by simp) _)⟩
  · have q1 : (a != c) = true := by rw [bne_iff_ne]; exact h1
    have HH := Lib.hid h1; clear h1
    go_enter Try.func49, Try.ntmps49
    go_wp2
    go_ret
    refine ⟨by simp [HH.out], (((Below.refl _ _).alloc (Nat.le_refl _) _).alloc (by simp) _)⟩
theorem eqpairs_any (A B : Option Addr) (ca cb : Nat) (la lb : EntL) (w : World) (hA : Ents w w.heap.size A la) (hB : Ents w w.heap.size B lb) :
    Calls Try.prog 21 #[.slice A la.length ca, .slice B lb.length cb] w fun e w' => e = .returned (.bool (decide (la = lb))) ∧ Below w.heap.size w w' := by
  by_cases hne : la.length = lb.length
  · obtain ⟨n, hn⟩ : ∃ n, n = la.length := ⟨_, rfl⟩
    have hn2 : lb.length = n := by omega
    have hnm := hA.1
    rw [← hn] at hnm
    rw [hn2, ← hn]
    have HN := Lib.hid hn; clear hn hne
    have HN2 := Lib.hid hn2; clear hn2
    have HA := Lib.hid hA; clear hA
    have HB := Lib.hid hB; clear hB
    go_enter Try.func21, Try.ntmps21
    go_wp2
    go_loopw [5] (fun i wr => ∃ j : Nat, j ≤ n ∧ (∀ t, t < j → entAt la t = entAt lb t) ∧ i = .int .i64 j ∧ Below w.heap.size w wr)
      (fun i _ => n - (intOf i).toNat)
    case atStart => exact ⟨0, Nat.zero_le _, fun t ht => absurd ht (by omega), rfl, Below.refl _ _⟩
    case round =>
      obtain ⟨j, hj, hpre, rfl, hbel⟩ := hrel
      have HE := Lib.hid hpre; clear hpre
      by_cases hlt : j < n
      · obtain ⟨ba, oa, rfl, ha1, ha2⟩ := HA.out.at j (by rw [← HN.out]; exact hlt)
        obtain ⟨bb, ob, rfl, hb1, hb2⟩ := HB.out.at j (by rw [HN2.out]; exact hlt)
        obtain ⟨c1, c2⟩ := ha2 j (by rw [← HN.out]; exact hlt)
        obtain ⟨c3, c4⟩ := hb2 j (by rw [HN2.out]; exact hlt)
        rw [← hbel.cell (p := ⟨ba, oa + j * 2, none⟩) ha1] at c1
        rw [← hbel.cell (p := ⟨ba, oa + j * 2 + 1, none⟩) ha1] at c2
        rw [← hbel.cell (p := ⟨bb, ob + j * 2, none⟩) hb1] at c3
        rw [← hbel.cell (p := ⟨bb, ob + j * 2 + 1, none⟩) hb1] at c4
        clear ha2 hb2
        obtain ⟨x, hx⟩ : ∃ x, x = entAt la j := ⟨_, rfl⟩
        obtain ⟨y, hy⟩ : ∃ y, y = entAt lb j := ⟨_, rfl⟩
        rw [← hx] at c1 c2
        rw [← hy] at c3 c4
        obtain ⟨x1, x2⟩ := x
        obtain ⟨y1, y2⟩ := y
        have HX := Lib.hid hx; clear hx
        have HY := Lib.hid hy; clear hy
        have hS : wr.cell? ⟨ba, oa + j * 2, none⟩ = some (.int .i64 x1) ∧ wr.cell? ⟨ba, oa + j * 2 + 1, none⟩ = some (.int .i64 x2) ∧ wr.cell? ⟨bb, ob + j * 2, none⟩ = some (.int .i64 y1) ∧ wr.cell? ⟨bb, ob + j * 2 + 1, none⟩ = some (.int .i64 y2) ∧ Below w.heap.size w wr ∧ w.heap.size ≤ wr.heap.size := ⟨c1, c2, c3, c4, hbel, hbel.size⟩
        have HC := Lib.hid (eqpair_any x1 x2 y1 y2)
        by_cases hxy : x1 = y1 ∧ x2 = y2
        · rw [decide_eq_true hxy] at HC
          have HXY := Lib.hid hxy; clear hxy
          go_wp2_with fail
          go_region_held3 (fun w' => w'.cell? ⟨ba, oa + j * 2, none⟩ = some (.int .i64 x1) ∧ w'.cell? ⟨ba, oa + j * 2 + 1, none⟩ = some (.int .i64 x2) ∧ w'.cell? ⟨bb, ob + j * 2, none⟩ = some (.int .i64 y1) ∧ w'.cell? ⟨bb, ob + j * 2 + 1, none⟩ = some (.int .i64 y2) ∧ Below w.heap.size w w' ∧ w.heap.size ≤ w'.heap.size)
            (first | (refine held4_drew ?_; assumption) | (refine held4 ?_ (by assumption); assumption))
            (first | (go_at_call 49; with_reducible refine (HC.out _).mono ?_; rintro e w' ⟨rfl, hb'⟩) | fail)
          go_wp2
          go_roundw
          case rel =>
            refine ⟨j + 1, by omega, fun t ht => ?_, by go_num, held4_below (by assumption)⟩
            by_cases htj : t = j
            · subst htj; rw [← HX.out, ← HY.out, HXY.out.1, HXY.out.2]
            · exact HE.out t (by omega)
          case measure => simp [intOf]; omega
        · rw [decide_eq_false hxy] at HC
          have HXY := Lib.hid hxy; clear hxy
          go_wp2_with fail
          go_region_held3 (fun w' => w'.cell? ⟨ba, oa + j * 2, none⟩ = some (.int .i64 x1) ∧ w'.cell? ⟨ba, oa + j * 2 + 1, none⟩ = some (.int .i64 x2) ∧ w'.cell? ⟨bb, ob + j * 2, none⟩ = some (.int .i64 y1) ∧ w'.cell? ⟨bb, ob + j * 2 + 1, none⟩ = some (.int .i64 y2) ∧ Below w.heap.size w w' ∧ w.heap.size ≤ w'.heap.size)
            (first | (refine held4_drew ?_; assumption) | (refine held4 ?_ (by assumption); assumption))
            (first | (go_at_call 49; with_reducible refine (HC.out _).mono ?_; rintro e w' ⟨rfl, hb'⟩) | fail)
          go_wp2
          go_ret
          refine ⟨?_, held4_below (by assumption)⟩
          rw [decide_eq_false (fun e => HXY.out (Prod.mk.inj (HX.out.trans ((congrArg (fun l => entAt l j) e).trans HY.out.symm))))]
          rfl
      · obtain rfl : j = n := by omega
        go_wp2
        go_ret
        refine ⟨?_, hbel⟩
        have e : la = lb := ents_ext _ _ (by rw [HN2.out, ← HN.out]) fun t h1 => HE.out t (by have := HN.out; omega)
        rw [decide_eq_true e]
        rfl
  · have hq : ((la.length : Int) != (lb.length : Int)) = true := by rw [bne_iff_ne]; omega
    have HNE := Lib.hid hne; clear hne
    go_enter Try.func21, Try.ntmps21
    go_wp2
    go_ret
    refine ⟨?_, Below.refl _ _⟩
    rw [decide_eq_false (fun e => HNE.out (by rw [e]))]
    rfl
theorem markpairs_any (base : Nat) (A : Option Addr) (cap : Nat) (l : EntL) (k : Int) (hk : 0 ≤ k) (hk2 : k ≤ 281474976710656) (hl : l.length ≤ 281474976710656) (w : World) (hO : OwnP w base A cap l) :
    Calls Try.prog 24 #[.slice A l.length cap, .int .i64 k] w fun e w' => e = .returned (.int .i64 (k + 2 * (l.length : Int))) ∧ OwnP w' base A cap (markE k l.length) ∧ w.grownBy w' (Value.slice A l.length cap).ownBlock := by
  obtain ⟨n, hn⟩ : ∃ n, n = l.length := ⟨_, rfl⟩
  have hO2 : w.ownsRow base 50 2 (.slice A n cap) n (ivs (els l)) := by rw [hn]; exact hO
  have hform := hO2.2
  have hOI : ∀ w', OwnP w' base A cap (markE k n) ↔ w'.ownsRow base 50 2 (.slice A n cap) n (ivs (els (markE k n))) := fun w' => by unfold OwnP; rw [markE_len]
  rw [← hn]
  simp only [hOI]
  rw [← hn] at hl
  clear hO hOI
  rcases hform with ⟨h1, h2⟩ | ⟨g, cap', cur, h1, h2, h3, _⟩
  · subst h2
    simp only [Value.slice.injEq] at h1
    obtain ⟨rfl, _, rfl⟩ := h1
    have hl0 : l = [] := List.eq_nil_of_length_eq_zero hn.symm
    subst hl0
    have HO := Lib.hid hO2; clear hO2 hn
    go_enter Try.func24, Try.ntmps24
    go_wp2
    go_loop [1, 5] (fun v i => v = .int .i64 k ∧ i = .int .i64 0) (fun _ _ => 0)
    case atStart => exact ⟨rfl, rfl⟩
    case round =>
      obtain ⟨rfl, rfl⟩ := hrel
      go_wp2
      go_ret
      exact ⟨rfl, HO.out, ⟨rfl, rfl, rfl, Nat.le_refl _, fun _ _ _ => rfl⟩⟩
  · simp only [Value.slice.injEq] at h1
    obtain ⟨rfl, _, rfl⟩ := h1
    have HN := Lib.hid hn; clear hn h3
    go_enter Try.func24, Try.ntmps24
    go_wp2
    go_loopw [1, 5] (fun v i wr => ∃ (j : Nat) (p : EntL), j ≤ n ∧ p.length = n ∧ (∀ t, t < j → entAt p t = (k + 2 * (t : Int), k + 2 * (t : Int) + 1)) ∧ v = .int .i64 (k + 2 * (j : Int)) ∧ i = .int .i64 j ∧ wr.ownsRow base 50 2 (.slice (some ⟨g, 0, none⟩) n cap) n (ivs (els p)) ∧ w.grownBy wr (some g))
      (fun _ i _ => n - (intOf i).toNat)
    case atStart => exact ⟨0, l, Nat.zero_le _, HN.out.symm, fun t ht => absurd ht (by omega), by congr 1; omega, rfl, hO2, ⟨rfl, rfl, rfl, Nat.le_refl _, fun _ _ _ => rfl⟩⟩
    case round =>
      obtain ⟨j, p, hj, hp, hpre, rfl, rfl, hown, hgr⟩ := hrel
      have HE := Lib.hid hpre; clear hpre
      have HP := Lib.hid hp; clear hp
      clear hO2
      by_cases hlt : j < n
      · have hel := els_len p
        have hpl := HP.out
        obtain ⟨b0, hc⟩ : ∃ b0 : Int, wr.cell? ⟨g, j * 2, none⟩ = some (.int .i64 b0) := ⟨_, (hown.cellAt (j * 2) (by omega)).trans (ivs_at (els p) (j * 2) (by omega))⟩
        obtain ⟨b1, hc1⟩ : ∃ b0 : Int, wr.cell? ⟨g, j * 2 + 1, none⟩ = some (.int .i64 b0) := ⟨_, (hown.cellAt (j * 2 + 1) (by omega)).trans (ivs_at (els p) (j * 2 + 1) (by omega))⟩
        have hz := hown.frozenAt (j * 2)
        have hz1 := hown.frozenAt (j * 2 + 1)
        clear hel hpl
        go_wp2
        go_roundw
        case rel =>
          have s1 := hown.stored (j * 2) (.int .i64 (k + 2 * (j : Int)))
          have s2 := s1.1.stored (j * 2 + 1) (.int .i64 (k + 2 * (j : Int) + 1))
          have s21 := s2.1
          rw [ivs_set, ivs_set, els_set] at s21
          refine ⟨j + 1, p.set j (k + 2 * (j : Int), k + 2 * (j : Int) + 1), by omega, by simpa using HP.out, ?_, ?_, by go_num, s21, ⟨hgr.os, hgr.tape, hgr.output, by have := hgr.size; have := s1.2.size; have := s2.2.size; omega, fun i hi hne => ?_⟩⟩
          · intro t ht
            by_cases htj : t = j
            · subst htj
              exact entAt_set_same _ _ _ (by rw [HP.out]; omega)
            · rw [entAt_set_other _ _ _ _ htj]
              exact HE.out t (by omega)
          · congr 1
            omega
          · rw [s2.2.block i (by have := hgr.size; have := s1.2.size; omega) hne, s1.2.block i (by have := hgr.size; omega) hne, hgr.block i hi hne]
        case measure => simp [intOf]; omega
      · obtain rfl : j = n := by omega
        go_wp2
        go_ret
        refine ⟨rfl, ?_, hgr⟩
        have e : p = markE k j := ents_ext _ _ (by rw [HP.out, markE_len]) fun t h1 => by
          have hp := HP.out
          rw [HE.out t (by omega), markE_at k j t (by omega)]
        rw [← e]
        exact hown
theorem heldpairs_any (A : Option Addr) (cap : Nat) (n : Nat) (k : Int) (hk : 0 ≤ k) (hk2 : k ≤ 281474976710656) (w : World) (hA : Ents w w.heap.size A (markE k n)) :
    Calls Try.prog 25 #[.slice A n cap, .int .i64 k] w fun e w' => e = .returned (.int .i64 (k + 2 * (n : Int))) ∧ Below w.heap.size w w' := by
  have hn := hA.1
  rw [markE_len] at hn
  have HA := Lib.hid hA; clear hA
  go_enter Try.func25, Try.ntmps25
  go_wp2
  go_loopw [1, 5] (fun v i wr => ∃ (j : Nat), j ≤ n ∧ v = .int .i64 (k + 2 * (j : Int)) ∧ i = .int .i64 j ∧ Below w.heap.size w wr)
    (fun _ i _ => n - (intOf i).toNat)
  case atStart => exact ⟨0, Nat.zero_le _, by congr 1; omega, rfl, Below.refl _ _⟩
  case round =>
    obtain ⟨j, hj, rfl, rfl, hbel⟩ := hrel
    by_cases hlt : j < n
    · obtain ⟨ba, oa, rfl, ha1, ha2⟩ := HA.out.at j (by rw [markE_len]; exact hlt)
      obtain ⟨c1, c2⟩ := ha2 j (by rw [markE_len]; exact hlt)
      rw [markE_at k n j hlt, ← hbel.cell (p := ⟨ba, oa + j * 2, none⟩) ha1] at c1
      rw [markE_at k n j hlt, ← hbel.cell (p := ⟨ba, oa + j * 2 + 1, none⟩) ha1] at c2
      clear ha2
      have hq : (k + 2 * (j : Int) != k + 2 * (j : Int)) = false := by simp
      have hq1 : (k + 2 * (j : Int) + 1 != k + 2 * (j : Int) + 1) = false := by simp
      go_wp2
      go_roundw
      case rel =>
        refine ⟨j + 1, by omega, ?_, by go_num, hbel⟩
        congr 1
        omega
      case measure => simp [intOf]; omega
    · obtain rfl : j = n := by omega
      go_wp2
      go_ret
      exact ⟨rfl, hbel⟩
theorem topair_any (a b : Int) (w : World) :
    Calls Try.prog 50 #[.agg #[.int .i64 a, .int .i64 b]] w fun e w' => e = .returned (.agg #[.int .i64 a, .int .i64 b]) ∧ Below w.heap.size w w' := by
  go_enter Try.func50, Try.ntmps50
  go_wp2
  exact bodyPost_ret (v := .agg #[.int .i64 a, .int .i64 b]) (by simp [results, Try.results50, go_sem]) rfl ⟨rfl, ((((Below.refl _ _).alloc (Nat.le_refl _) _).alloc (by simp) _).alloc (by simp; omega) _)⟩
theorem topairs_any (A : Option Addr) (ca : Nat) (l : EntL) (hl : l.length ≤ 1048576) (w : World) (hA : Ents w w.heap.size A l) :
    Calls Try.prog 27 #[.slice A l.length ca] w fun e w' => ∃ A' cap', e = .returned (.slice A' l.length cap') ∧ OwnP w' w.heap.size A' cap' l ∧ Below w.heap.size w w' := by
  obtain ⟨n, hn⟩ : ∃ n, n = l.length := ⟨_, rfl⟩
  have hOI : ∀ w' A' cap', OwnP w' w.heap.size A' cap' l ↔ w'.ownsRow w.heap.size 50 2 (.slice A' n cap') n (ivs (els l)) := fun w' A' cap' => by unfold OwnP; rw [hn]
  simp only [hOI]
  clear hOI
  rw [← hn] at hl ⊢
  have HN := Lib.hid hn; clear hn
  have HA := Lib.hid hA; clear hA
  have hmk := make_pairs n (n : Int) rfl (by omega)
  go_enter Try.func27, Try.ntmps27
  go_wp2
  clear hmk
  go_loopw [4] (fun i wr => ∃ (j : Nat) (p : EntL), j ≤ n ∧ p.length = n ∧ (∀ t, t < j → entAt p t = entAt l t) ∧ i = .int .i64 j ∧ wr.ownsRow w.heap.size 50 2 (.slice (some ⟨w.heap.size, 0, none⟩) n n) n (ivs (els p)) ∧ Below w.heap.size w wr)
    (fun i _ => n - (intOf i).toNat)
  case atStart =>
    refine ⟨0, List.replicate n (0, 0), Nat.zero_le _, by simp, fun t ht => absurd ht (by omega), rfl, ?_, (Below.refl _ _).alloc (Nat.le_refl _) _⟩
    have := own_pairs w w.heap.size (List.replicate n (0, 0)) (Nat.le_refl _) (by simp [maxLen]; omega)
    unfold OwnP at this
    simpa using this
  case round =>
    obtain ⟨j, p, hj, hp, hpre, rfl, hown, hbel⟩ := hrel
    have HE := Lib.hid hpre; clear hpre
    have HP := Lib.hid hp; clear hp
    by_cases hlt : j < n
    · obtain ⟨ba, oa, rfl, ha1, ha2⟩ := HA.out.at j (by rw [← HN.out]; exact hlt)
      obtain ⟨c1, c2⟩ := ha2 j (by rw [← HN.out]; exact hlt)
      rw [← hbel.cell (p := ⟨ba, oa + j * 2, none⟩) ha1] at c1
      rw [← hbel.cell (p := ⟨ba, oa + j * 2 + 1, none⟩) ha1] at c2
      clear ha2
      obtain ⟨x, hx⟩ : ∃ x, x = entAt l j := ⟨_, rfl⟩
      rw [← hx] at c1 c2
      obtain ⟨x1, x2⟩ := x
      have HX := Lib.hid hx; clear hx
      have HC := Lib.hid (topair_any x1 x2)
      have HO := Lib.hid hown; clear hown
      have HBL := Lib.hid hbel; clear hbel
      go_wp2_with fail
      refine (HC.out _).mono ?_
      rintro e w' ⟨rfl, hb'⟩
      have hown : w'.ownsRow w.heap.size 50 2 (.slice (some ⟨w.heap.size, 0, none⟩) n n) n (ivs (els p)) :=
        World.ownsRow.kept (row := none) HO.out ⟨hb'.os, hb'.tape, hb'.output, hb'.size, fun k hk _ => hb'.block k hk⟩ (by simp [Value.ownBlock])
      have hbel : Below w.heap.size w w' := below_up HBL.out hb' HBL.out.size
      clear c1 c2 hb'
      have hel := els_len p
      have hpl := HP.out
      obtain ⟨b0, hc⟩ : ∃ b0 : Int, w'.cell? ⟨w.heap.size, j * 2, none⟩ = some (.int .i64 b0) := ⟨_, (hown.cellAt (j * 2) (by omega)).trans (ivs_at (els p) (j * 2) (by omega))⟩
      obtain ⟨b1, hc1⟩ : ∃ b0 : Int, w'.cell? ⟨w.heap.size, j * 2 + 1, none⟩ = some (.int .i64 b0) := ⟨_, (hown.cellAt (j * 2 + 1) (by omega)).trans (ivs_at (els p) (j * 2 + 1) (by omega))⟩
      have hz := hown.frozenAt (j * 2)
      have hz1 := hown.frozenAt (j * 2 + 1)
      clear hel hpl
      go_wp2
      go_roundw
      case rel =>
        have s1 := hown.stored (j * 2) (.int .i64 x1)
        have s2 := s1.1.stored (j * 2 + 1) (.int .i64 x2)
        have s21 := s2.1
        rw [ivs_set, ivs_set, els_set] at s21
        refine ⟨j + 1, p.set j (x1, x2), by omega, by simpa using HP.out, ?_, by go_num, s21, (hbel.setCell (Nat.le_refl _) _).setCell (Nat.le_refl _) _⟩
        intro t ht
        by_cases htj : t = j
        · subst htj
          rw [entAt_set_same _ _ _ (by rw [HP.out]; omega)]
          exact HX.out
        · rw [entAt_set_other _ _ _ _ htj]
          exact HE.out t (by omega)
      case measure => simp [intOf]; omega
    · obtain rfl : j = n := by omega
      go_wp2
      go_ret
      have e : p = l := ents_ext _ _ (by rw [HP.out, HN.out]) fun t h1 => HE.out t (by have := HP.out; omega)
      rw [e] at hown
      exact ⟨_, _, rfl, hown, hbel⟩
theorem szpairs_any (A : Option Addr) (ca n : Nat) (left : Int) (hn : n ≤ 9223372036854775807) (h0 : 0 ≤ left) (h1 : left ≤ 1048576) (w : World) :
    Calls Try.prog 26 #[.slice A n ca, .int .i64 left] w fun e w' => e = .returned (.int .i64 (if (n : Int) ≤ left then left - n else -1)) ∧ w = w' := by
  by_cases h : (n : Int) ≤ left
  · rw [if_pos h]
    go_enter Try.func26, Try.ntmps26
    go_wp2
    go_ret
    exact ⟨rfl, rfl⟩
  · rw [if_neg h]
    go_enter Try.func26, Try.ntmps26
    go_wp2
    go_ret
    exact ⟨rfl, rfl⟩
end Go.Proofs.Ytgihpckibdnghaa
