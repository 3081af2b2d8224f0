/-
  Contracts of Scanned and Placed, in both texts. Condition: the list is no longer than 1048576 (the laws ask no more).
-/
import Derived.Test.YtgihpckibdnghaaScanB
import Derived.Maps.AppendAt
namespace Go.Proofs.Ytgihpckibdnghaa
open Go.RowKit
set_option linter.unusedVariables false

/-! ### A row that grows beside another that is read -/
/-- The row `v` lies in the block `lo`, or in one from `hi` on, or nowhere. -/
def FarOf (v : Value) (lo hi : Nat) : Prop := v.ownBlock = none ∨ v.ownBlock = some lo ∨ ∃ k, v.ownBlock = some k ∧ hi ≤ k
theorem FarOf.grew {v v' : Value} {lo hi k : Nat} (h : FarOf v lo hi) (h2 : v'.ownBlock = v.ownBlock ∨ v'.ownBlock = some k) (hk : hi ≤ k) : FarOf v' lo hi := by
  rcases h2 with h2 | h2
  · unfold FarOf; rw [h2]; exact h
  · exact .inr (.inr ⟨k, h2, hk⟩)
/-- What is read is no part of the row. -/
theorem Ints.past {w w' : World} {hi lo : Nat} {A : Option Addr} {l : List Int} {v : Value} (h : Ints w hi A l) (hne : ∀ b off, A = some ⟨b, off, none⟩ → b ≠ lo) (hF : FarOf v lo hi) (hg : w.grownBy w' v.ownBlock) (hs : hi ≤ w.heap.size) : Ints w' hi A l := by
  obtain ⟨hm, h0 | ⟨b, off, hA, hbg, hc⟩⟩ := h
  · exact ⟨hm, .inl h0⟩
  · have hb := hg.block b (Nat.lt_of_lt_of_le hbg hs) (fun e => by
      rcases hF with h | h | ⟨k, h, hk⟩
      · rw [h] at e; exact absurd e (by simp)
      · rw [h] at e; exact hne b off hA (Option.some.inj e)
      · rw [h] at e; have := Option.some.inj e; omega)
    refine ⟨hm, .inr ⟨b, off, hA, hbg, fun i hi => ?_⟩⟩
    rw [World.cell?_of_block (w := w) (w' := w') (a := ⟨b, off + i, none⟩) hb]
    exact hc i hi
theorem OwnI.not_lo {w : World} {base lo : Nat} {A : Option Addr} {cap : Nat} {l : List Int} (h : OwnI w base A cap l) (hlo : lo < base) : ∀ b off, A = some ⟨b, off, none⟩ → b ≠ lo := by
  intro b off hA
  subst hA
  rcases h.2 with ⟨h1, _⟩ | ⟨g, cap', cur, h1, hb, _⟩
  · simp at h1
  · simp only [Value.slice.injEq, Option.some.injEq, Addr.mk.injEq] at h1
    omega
/-- `append(v, x)` of one integer, the row `v` one's own: where the row lies then. -/
theorem append_int {P : Program} {w : World} (w0 : World) {ops : Array Oper} {rest : List Oper} {o : Oper} {a : Act} {Q : Exit → Act → World → Prop} (hgd : o.guard = none) (s x : Operand) (t : TypeId)
    (ho : o.op = .call { callee := .builtin .append, args := #[s, x], argTypes := #[t, t] })
    (base : Nat) (e : TypeId) (i : TypeInfo) (ht : P.underlying t = some (.slice e)) (hi : P.info? e = some i) (hz : i.zero = some (.int .i64 0))
    (hsize : i.size = 1) (hby : i.bytes = 8)
    (v : Value) (n : Nat) (l : List Int) (hs : a.eval s = v) (hown : w0.ownsRow base e 1 v n (ivs l))
    (y : Int) (hw : w = w0.alloc (.cells #[.int .i64 y] e)) (hx : a.eval x = .slice (some ⟨w0.heap.size, 0, none⟩) 1 1) (hn : n ≤ 4000000) (hb : base ≤ w0.heap.size)
    (h : ∀ v' w', w'.ownsRow base e 1 v' (n + 1) (ivs (l ++ [y])) → w0.grownBy w' v.ownBlock → (v'.ownBlock = v.ownBlock ∨ v'.ownBlock = some (w0.heap.size + 1)) → wpList P ops Q rest (a.put o.dst v') w') :
    wpList P ops Q (o :: rest) a w := by
  subst hw
  refine wpList_append_own_at (w0.alloc (.cells #[.int .i64 y] e)) hgd s x t ho base e i (.int .i64 0) 1 8 ht hi hz hsize hby rfl (by decide) v n (ivs l) hs (hown.alloc _)
    ⟨w0.heap.size, 0, none⟩ 1 1 [.int .i64 y] hx rfl ?_ ?_ (by unfold maxLen; omega) (by omega) (by simp; omega) ?_
  · intro j u hj
    match j, hj with
    | 0, hj =>
      simp at hj
      subst hj
      simp [Addr.add, World.cell?_alloc_mark]
  · intro u hu
    simp at hu
    subst hu
    rfl
  · intro v' w' hown' hg _ hb'
    refine h v' w' ?_ ?_ (by simpa using hb')
    · rw [ivs_append]
      exact hown'
    · refine ⟨hg.os, hg.tape, hg.output, by have := hg.size; simp at this; omega, fun k hk hne => ?_⟩
      rw [hg.block k (by simp; omega) hne]
      exact Below.heap_alloc _ _ _ hk

theorem own_lower {w : World} {base base' : Nat} {e : TypeId} {size : Nat} {v : Value} {n : Nat} {xs : List Value} (h : w.ownsRow base e size v n xs) (hb : base' ≤ base) : w.ownsRow base' e size v n xs := by
  refine ⟨h.1, ?_⟩
  rcases h.2 with h2 | ⟨g, cap, cur, h1, h2, h3⟩
  · exact .inl h2
  · exact .inr ⟨g, cap, cur, h1, Nat.le_trans hb h2, h3⟩
/-! ### Scanned and Placed -/
/-- Every place of the scan is a place of the block. -/
theorem scan_places : ∀ (n : Int) (j : Nat), j < (scanL n).length → ∃ q : Nat, (scanL n).getD j 0 = (q : Int) ∧ q < (scanL n).length := by
  intro n j hj
  have h4 : (scTab 4 7).all (fun p => decide (0 ≤ p) && decide (p < 16)) = true := by decide +kernel
  have h8 : (scTab 8 15).all (fun p => decide (0 ≤ p) && decide (p < 64)) = true := by decide +kernel
  have key : ∀ (T : List Int) (N : Nat), T.length = N → T.all (fun p => decide (0 ≤ p) && decide (p < (N : Int))) = true → j < T.length → ∃ q : Nat, T.getD j 0 = (q : Int) ∧ q < T.length := by
    intro T N hT hall hj
    rw [List.all_eq_true] at hall
    have h := hall (T.getD j 0) (by rw [List.getD_eq_getElem?_getD, List.getElem?_eq_getElem hj]; exact List.getElem_mem _)
    rw [Bool.and_eq_true, decide_eq_true_eq, decide_eq_true_eq] at h
    exact ⟨(T.getD j 0).toNat, by omega, by omega⟩
  unfold scanL at hj ⊢
  split at hj
  · rename_i h; rw [if_pos h]; exact key _ 16 scTab4_len h4 hj
  · split at hj
    · rename_i h1 h; rw [if_neg h1, if_pos h]; exact key _ 64 scTab8_len h8 hj
    · simp at hj
theorem scan_side (n : Nat) : (scanL (sideN n)).length = if n = 16 then 16 else if n = 64 then 64 else 0 := by
  unfold sideN
  split
  · exact scTab4_len
  · split
    · exact scTab8_len
    · rfl
/-- What is known of the scan of a list of so many numbers. -/
theorem side_scan (n : Nat) : ∃ (K : Nat) (o : List Int), o = scanL (sideN n) ∧ o.length = K ∧ K ≤ n ∧ K ≤ 64 ∧ ∀ j, j < K → ∃ q : Nat, o.getD j 0 = (q : Int) ∧ q < K := by
  refine ⟨_, _, rfl, rfl, ?_, scanL_len _, fun j hj => scan_places _ j hj⟩
  rw [scan_side]
  split
  · omega
  · split <;> omega
/-- What Scanned and Placed answer. -/
def scR (l : List Int) : List Int := (scanL (sideN l.length)).map fun p => l.getD p.toNat 0
def plN (o l : List Int) : Nat → List Int
  | 0 => List.replicate o.length 0
  | k + 1 => (plN o l k).set (o.getD k 0).toNat (l.getD k 0)
def plR (l : List Int) : List Int := plN (scanL (sideN l.length)) l (scanL (sideN l.length)).length
theorem plN_len (o l : List Int) : ∀ k, (plN o l k).length = o.length
  | 0 => by simp [plN]
  | k + 1 => by rw [plN, List.length_set, plN_len o l k]
theorem scR_len (l : List Int) : (scR l).length ≤ 64 := by unfold scR; rw [List.length_map]; exact scanL_len _
theorem plR_len (l : List Int) : (plR l).length ≤ 64 := by unfold plR; rw [plN_len]; exact scanL_len _

theorem sideN_wf (n : Nat) : (Lit.int .i64 (sideN n)).wf = true := by
  unfold sideN
  split
  · decide
  · split <;> decide

set_option maxRecDepth 100000 in
set_option maxHeartbeats 2000000 in
theorem spec_scanned_any (A : Option Addr) (ca : Nat) (l : List Int) (hll : l.length ≤ 1048576) (w : World) (hA : Ints w w.heap.size A l) :
    Calls Try.prog 37 #[.slice A l.length ca] w fun e w' => ∃ A' c, e = .returned (.slice A' (scR l).length c) ∧ OwnI w' w.heap.size A' c (scR l) ∧ Below w.heap.size w w' := by
  obtain ⟨i0, hi, hz0, hz1, hz2⟩ := info_parts Try.iinfo
  obtain ⟨n, hn⟩ : ∃ n, n = l.length := ⟨_, rfl⟩
  have hres : scR l = (scanL (sideN n)).map fun p => l.getD p.toNat 0 := by unfold scR; rw [hn]
  rw [hres, ← hn]
  rw [← hn] at hll
  have SI := Lib.hid (spec_side_any A ca n)
  have SC := Lib.hid (spec_scan_any (sideN n) (sideN_wf n))
  obtain ⟨K, o, ho, hoK, hKn, hK64, hq⟩ := side_scan n
  rw [← ho] at SC
  rw [← ho]
  rw [hoK] at SC
  obtain ⟨S, hS⟩ : ∃ S, S = sideN n := ⟨_, rfl⟩
  rw [← hS] at SI SC
  have O0 := Lib.hid (own_ints w w.heap.size [] (Nat.le_refl _) (by simp))
  have B0 := Lib.hid ((Below.refl w.heap.size w).alloc (Nat.le_refl _) (.cells (ivs []).toArray 3))
  have HA := Lib.hid hA; have HN := Lib.hid hn; have HOK := Lib.hid hoK; have HQ := Lib.hid hq
  clear hres ho hoK hq hS hA hn
  go_enter Try.func37, Try.ntmps37
  go_wp2_with fail
  refine (SI.out _).mono ?_
  rintro e w1 ⟨rfl, hw⟩
  subst hw
  go_wp2_with fail
  refine (SC.out _).mono ?_
  rintro e w2 ⟨A2, c2, rfl, ho2, hb2⟩
  have OE := own_keep O0.out hb2
  have BE := Lib.hid (below_up B0.out hb2 B0.out.size)
  have I2 := ho2.ints (by rw [HOK.out]; omega)
  have NE : Hid (∀ b off, A2 = some ⟨b, off, none⟩ → b ≠ w.heap.size) := Lib.hid (ho2.not_lo (by simp))
  have OE2 : Hid (w2.ownsRow w.heap.size 3 1 (.slice (some ⟨w.heap.size, 0, none⟩) 0 0) 0 (ivs [])) := Lib.hid OE
  have II := Lib.hid I2
  clear ho2 hb2 OE I2
  go_wp2
  go_loopw [3, 5] (fun v i wr => ∃ j : Nat, j ≤ K ∧ i = .int .i64 j ∧ wr.ownsRow w.heap.size 3 1 v j (ivs ((o.take j).map fun p => l.getD p.toNat 0)) ∧ FarOf v w.heap.size w2.heap.size ∧ Ints wr w2.heap.size A2 o ∧ w2.heap.size ≤ wr.heap.size ∧ Below w.heap.size w wr)
    (fun _ i _ => K - (intOf i).toNat)
  case atStart => exact ⟨0, Nat.zero_le _, rfl, OE2.out, .inr (.inl rfl), II.out, Nat.le_refl _, BE.out⟩
  case round =>
    obtain ⟨j, hj, rfl, hown, hfar, hI, hsz, hbel⟩ := hrel
    by_cases hlt : j < K
    · have b1 : decide ((j : Int) < (K : Int)) = true := by simp; omega
      obtain ⟨q, hqe, hqK⟩ := HQ.out j hlt
      obtain ⟨bo, oo, rfl, hbo, hco⟩ := hI.at j (by rw [HOK.out]; exact hlt)
      have co := hco j (by rw [HOK.out]; exact hlt)
      rw [hqe] at co
      obtain ⟨b, off, rfl, hb, hc⟩ := HA.out.at q (by rw [← HN.out]; omega)
      have cl := hc q (by rw [← HN.out]; omega)
      rw [← hbel.cell (p := ⟨b, off + q, none⟩) hb] at cl
      obtain ⟨x, hx⟩ : ∃ x, x = l.getD q 0 := ⟨_, rfl⟩
      rw [← hx] at cl
      have hnx : (o.take (j + 1)).map (fun p => l.getD p.toNat 0) = (o.take j).map (fun p => l.getD p.toNat 0) ++ [x] := by
        rw [take_snoc_i o j (by rw [HOK.out]; exact hlt), List.map_append, hqe]
        simp [hx]
      have HX := Lib.hid hnx; have HF := Lib.hid hfar; have HI := Lib.hid hI; have HB := Lib.hid hbel
      have hq64 : q < n := by omega
      clear hx hnx hfar hI hc hco hqe
      go_wp2_with (at_builtin; refine append_int wr rfl (.tmp 16) (.tmp 24) 24 rfl w.heap.size 3 i0 Try.underlying24 hi hz0 hz1 hz2 _ _ _ rfl hown _ rfl rfl (by omega) hbel.size ?_; intro v' w' hown' hgr hvb)
      have HO' := Lib.hid hown'
      have HG : Hid (wr.grownBy w' u3.ownBlock) := Lib.hid hgr
      have HV : Hid (v'.ownBlock = u3.ownBlock ∨ v'.ownBlock = some (wr.heap.size + 1)) := Lib.hid hvb
      have HL : Hid (∀ k, u3.ownBlock = some k → w.heap.size ≤ k ∧ k < wr.heap.size) := Lib.hid hown.lt
      clear hown' hgr hvb hown
      go_roundw
      case rel =>
        refine ⟨j + 1, by omega, by go_num, by rw [HX.out]; exact HO'.out, HF.out.grew HV.out (by omega), HI.out.past NE.out HF.out HG.out hsz, Nat.le_trans hsz HG.out.size, HB.out.grown HG.out HB.out.size fun k hk => (HL.out k hk).1⟩
      case measure => simp [intOf]; omega
    · obtain rfl : j = K := by omega
      have b1 : decide ((j : Int) < (j : Int)) = false := by simp
      have e1 : o.take j = o := List.take_of_length_le (by rw [HOK.out]; exact Nat.le_refl _)
      rw [e1] at hown
      obtain ⟨A3, c3, rfl, ho3⟩ := own_slice hown
      have O3 := Lib.hid ho3; have B3 := Lib.hid hbel
      clear hown hfar hI hbel ho3 e1
      go_wp2
      go_ret
      exact ⟨_, _, rfl, O3.out, B3.out⟩

set_option maxRecDepth 100000 in
set_option maxHeartbeats 2000000 in
theorem impl_scanned_any (A : Option Addr) (ca : Nat) (l : List Int) (w : World) (hA : Ints w w.heap.size A l) :
    Calls Try.prog 36 #[.slice A l.length ca] w fun e w' => ∃ A' c, e = .returned (.slice A' (scR l).length c) ∧ OwnI w' w.heap.size A' c (scR l) ∧ Below w.heap.size w w' := by
  obtain ⟨n, hn⟩ : ∃ n, n = l.length := ⟨_, rfl⟩
  have hnm := hA.1
  have hres : scR l = (scanL (sideN n)).map fun p => l.getD p.toNat 0 := by unfold scR; rw [hn]
  rw [hres, ← hn]
  rw [← hn] at hnm
  have SI := Lib.hid (impl_side_any n)
  have SC := Lib.hid (impl_scan_any (sideN n) (sideN_wf n))
  obtain ⟨K, o, ho, hoK, hKn, hK64, hq⟩ := side_scan n
  rw [← ho] at SC
  rw [← ho]
  rw [hoK] at SC
  rw [List.length_map, hoK]
  obtain ⟨S, hS⟩ : ∃ S, S = sideN n := ⟨_, rfl⟩
  rw [← hS] at SI SC
  have hmk := make_ints K (K : Int) rfl (by omega)
  have HA := Lib.hid hA; have HN := Lib.hid hn; have HOK := Lib.hid hoK; have HQ := Lib.hid hq
  clear hres ho hoK hq hS hA hn
  go_enter Try.func36, Try.ntmps36
  go_wp2_with fail
  refine (SI.out _).mono ?_
  rintro e w1 ⟨rfl, hw⟩
  subst hw
  go_wp2_with fail
  refine (SC.out _).mono ?_
  rintro e w2 ⟨A2, c2, rfl, ho2, hb2⟩
  have II := Lib.hid (ho2.ints (by rw [HOK.out]; omega))
  have hs2 := hb2.size
  have B2 := Lib.hid hb2
  have BE := Lib.hid (hb2.alloc hb2.size (.cells (ivs (List.replicate K 0)).toArray 3))
  have B0 := Lib.hid ((Below.refl w2.heap.size w2).alloc (Nat.le_refl _) (.cells (ivs (List.replicate K 0)).toArray 3))
  have O0 : Hid ((w2.alloc (.cells (ivs (List.replicate K 0)).toArray 3)).ownsRow w2.heap.size 3 1 (.slice (some ⟨w2.heap.size, 0, none⟩) K K) K (ivs (List.replicate K 0))) := Lib.hid (by
    have := own_ints w2 w2.heap.size (List.replicate K 0) (Nat.le_refl _) (by simp [maxLen]; omega)
    unfold OwnI at this
    simpa using this)
  clear ho2 hb2
  go_wp2
  clear hmk
  go_loopw [5, 6, 16] (fun x5 x6 i wr => ∃ (j : Nat) (p : List Int), j ≤ K ∧ i = .int .i64 j ∧ p.length = K ∧ (∀ t, t < j → p.getD t 0 = l.getD (o.getD t 0).toNat 0) ∧ wr.ownsRow w2.heap.size 3 1 (.slice (some ⟨w2.heap.size, 0, none⟩) K K) K (ivs p) ∧ Below w2.heap.size w2 wr)
    (fun _ _ i _ => K - (intOf i).toNat)
  case atStart => exact ⟨0, List.replicate K 0, Nat.zero_le _, rfl, by simp, fun t ht => absurd ht (by omega), O0.out, B0.out⟩
  case round =>
    obtain ⟨j, p, hj, rfl, hp, hpre, hown, hbel⟩ := hrel
    have HP := Lib.hid hp; have HE := Lib.hid hpre
    clear hp hpre
    by_cases hlt : j < K
    · have b1 : decide ((j : Int) < (K : Int)) = true := by simp; omega
      obtain ⟨q, hqe, hqK⟩ := HQ.out j hlt
      obtain ⟨bo, oo, rfl, hbo, hco⟩ := II.out.at j (by rw [HOK.out]; exact hlt)
      have co := hco j (by rw [HOK.out]; exact hlt)
      rw [hqe, ← hbel.cell (p := ⟨bo, oo + j, none⟩) hbo] at co
      obtain ⟨b, off, rfl, hb, hc⟩ := HA.out.at q (by rw [← HN.out]; omega)
      have cl := hc q (by rw [← HN.out]; omega)
      rw [← B2.out.cell (p := ⟨b, off + q, none⟩) hb, ← hbel.cell (p := ⟨b, off + q, none⟩) (Nat.lt_of_lt_of_le hb hs2)] at cl
      obtain ⟨x, hx⟩ : ∃ x, x = l.getD q 0 := ⟨_, rfl⟩
      rw [← hx] at cl
      obtain ⟨b0, hcell⟩ : ∃ b0 : Int, wr.cell? ⟨w2.heap.size, j, none⟩ = some (.int .i64 b0) := ⟨_, (hown.cellAt j (by omega)).trans (ivs_at p j (by rw [HP.out]; omega))⟩
      have hz := hown.frozenAt j
      have hxx : x = l.getD (o.getD j 0).toNat 0 := by rw [hqe, hx]; rfl
      have HX := Lib.hid hxx
      have s1 := hown.stored j (.int .i64 x)
      rw [ivs_set] at s1
      have S1 := Lib.hid s1.1
      have hqn : q < n := by omega
      have S3 := Lib.hid (hbel.setCell (p := ⟨w2.heap.size, j, none⟩) (Nat.le_refl _) (.int .i64 x))
      clear hx hxx hc hco hqe s1 hown hbel
      go_wp2
      go_roundw
      case rel =>
        refine ⟨j + 1, p.set j x, by omega, by go_num, by rw [List.length_set]; exact HP.out, ?_, S1.out, S3.out⟩
        intro t ht
        by_cases htj : t = j
        · subst htj
          rw [List.getD_eq_getElem?_getD, List.getElem?_set_self (by rw [HP.out]; omega)]
          exact HX.out
        · rw [List.getD_eq_getElem?_getD, List.getElem?_set_ne (fun e => htj e.symm), ← List.getD_eq_getElem?_getD]
          exact HE.out t (by omega)
      case measure => simp [intOf]; omega
    · obtain rfl : j = K := by omega
      have b1 : decide ((j : Int) < (j : Int)) = false := by simp
      have e : p = o.map fun p => l.getD p.toNat 0 := List.ext_getElem (by rw [HP.out, List.length_map, HOK.out]) fun t h1 h2 => by
        have := HE.out t (by have := HP.out; omega)
        rw [List.getD_eq_getElem?_getD, List.getElem?_eq_getElem h1] at this
        rw [List.length_map] at h2
        rw [show o.getD t 0 = o[t] by rw [List.getD_eq_getElem?_getD, List.getElem?_eq_getElem h2]; rfl] at this
        rw [List.getElem_map]
        exact this
      have O3 := Lib.hid hown; have B3 := Lib.hid (B2.out.trans (hbel.mono hs2)); have HEQ := Lib.hid e
      clear hown hbel e
      go_wp2
      go_ret
      refine ⟨_, _, rfl, ?_, B3.out⟩
      unfold OwnI
      rw [List.length_map, HOK.out, ← HEQ.out]
      exact (own_lower O3.out hs2)

set_option maxRecDepth 100000 in
set_option maxHeartbeats 2000000 in
theorem impl_placed_any (A : Option Addr) (ca : Nat) (l : List Int) (w : World) (hA : Ints w w.heap.size A l) :
    Calls Try.prog 35 #[.slice A l.length ca] w fun e w' => ∃ A' c, e = .returned (.slice A' (plR l).length c) ∧ OwnI w' w.heap.size A' c (plR l) ∧ Below w.heap.size w w' := by
  obtain ⟨n, hn⟩ : ∃ n, n = l.length := ⟨_, rfl⟩
  have hnm := hA.1
  have hres : plR l = plN (scanL (sideN n)) l (scanL (sideN n)).length := by unfold plR; rw [hn]
  rw [hres, ← hn]
  rw [← hn] at hnm
  have SI := Lib.hid (impl_side_any n)
  have SC := Lib.hid (impl_scan_any (sideN n) (sideN_wf n))
  obtain ⟨K, o, ho, hoK, hKn, hK64, hq⟩ := side_scan n
  rw [← ho] at SC
  rw [← ho]
  rw [plN_len, hoK]
  rw [hoK] at SC
  obtain ⟨S, hS⟩ : ∃ S, S = sideN n := ⟨_, rfl⟩
  rw [← hS] at SI SC
  have hmk := make_ints K (K : Int) rfl (by omega)
  have HA := Lib.hid hA; have HN := Lib.hid hn; have HOK := Lib.hid hoK; have HQ := Lib.hid hq
  have hp0 : plN o l 0 = List.replicate K 0 := by rw [plN, hoK]
  have HP0 := Lib.hid hp0
  clear hres ho hoK hq hS hA hn hp0
  go_enter Try.func35, Try.ntmps35
  go_wp2_with fail
  refine (SI.out _).mono ?_
  rintro e w1 ⟨rfl, hw⟩
  subst hw
  go_wp2_with fail
  refine (SC.out _).mono ?_
  rintro e w2 ⟨A2, c2, rfl, ho2, hb2⟩
  have II := Lib.hid (ho2.ints (by rw [HOK.out]; omega))
  have hs2 := hb2.size
  have B2 := Lib.hid hb2
  have B0 := Lib.hid ((Below.refl w2.heap.size w2).alloc (Nat.le_refl _) (.cells (ivs (List.replicate K 0)).toArray 3))
  have O0 : Hid ((w2.alloc (.cells (ivs (List.replicate K 0)).toArray 3)).ownsRow w2.heap.size 3 1 (.slice (some ⟨w2.heap.size, 0, none⟩) K K) K (ivs (plN o l 0))) := Lib.hid (by
    have := own_ints w2 w2.heap.size (List.replicate K 0) (Nat.le_refl _) (by simp [maxLen]; omega)
    unfold OwnI at this
    rw [HP0.out]
    simpa using this)
  clear ho2 hb2
  go_wp2
  clear hmk
  go_loopw [5, 6, 16] (fun x5 x6 i wr => ∃ (j : Nat), j ≤ K ∧ i = .int .i64 j ∧ wr.ownsRow w2.heap.size 3 1 (.slice (some ⟨w2.heap.size, 0, none⟩) K K) K (ivs (plN o l j)) ∧ Below w2.heap.size w2 wr)
    (fun _ _ i _ => K - (intOf i).toNat)
  case atStart => exact ⟨0, Nat.zero_le _, rfl, O0.out, B0.out⟩
  case round =>
    obtain ⟨j, hj, rfl, hown, hbel⟩ := hrel
    by_cases hlt : j < K
    · have b1 : decide ((j : Int) < (K : Int)) = true := by simp; omega
      obtain ⟨q, hqe, hqK⟩ := HQ.out j hlt
      obtain ⟨bo, oo, rfl, hbo, hco⟩ := II.out.at j (by rw [HOK.out]; exact hlt)
      have co := hco j (by rw [HOK.out]; exact hlt)
      rw [hqe, ← hbel.cell (p := ⟨bo, oo + j, none⟩) hbo] at co
      obtain ⟨b, off, rfl, hb, hc⟩ := HA.out.at j (by rw [← HN.out]; omega)
      have cl := hc j (by rw [← HN.out]; omega)
      rw [← B2.out.cell (p := ⟨b, off + j, none⟩) hb, ← hbel.cell (p := ⟨b, off + j, none⟩) (Nat.lt_of_lt_of_le hb hs2)] at cl
      obtain ⟨x, hx⟩ : ∃ x, x = l.getD j 0 := ⟨_, rfl⟩
      rw [← hx] at cl
      obtain ⟨b0, hcell⟩ : ∃ b0 : Int, wr.cell? ⟨w2.heap.size, q, none⟩ = some (.int .i64 b0) := ⟨_, (hown.cellAt q (by omega)).trans (ivs_at _ q (by rw [plN_len, HOK.out]; omega))⟩
      have hz := hown.frozenAt q
      have hnx : plN o l (j + 1) = (plN o l j).set q x := by rw [plN, hqe, hx]; rfl
      have HX := Lib.hid hnx
      have s1 := hown.stored q (.int .i64 x)
      rw [ivs_set] at s1
      have S1 := Lib.hid s1.1
      have hjn : j < n := by omega
      have S3 := Lib.hid (hbel.setCell (p := ⟨w2.heap.size, q, none⟩) (Nat.le_refl _) (.int .i64 x))
      clear hx hnx hc hco hqe s1 hown hbel
      go_wp2
      go_roundw
      case rel => exact ⟨j + 1, by omega, by go_num, by rw [HX.out]; exact S1.out, S3.out⟩
      case measure => simp [intOf]; omega
    · obtain rfl : j = K := by omega
      have b1 : decide ((j : Int) < (j : Int)) = false := by simp
      have O3 := Lib.hid hown; have B3 := Lib.hid (B2.out.trans (hbel.mono hs2))
      clear hown hbel
      go_wp2
      go_ret
      refine ⟨_, _, rfl, ?_, B3.out⟩
      unfold OwnI
      rw [plN_len, HOK.out]
      exact (own_lower O3.out hs2)

set_option maxRecDepth 100000 in
set_option maxHeartbeats 2000000 in
theorem spec_placed_any (A : Option Addr) (ca : Nat) (l : List Int) (hll : l.length ≤ 1048576) (w : World) (hA : Ints w w.heap.size A l) :
    Calls Try.prog 38 #[.slice A l.length ca] w fun e w' => ∃ A' c, e = .returned (.slice A' (plR l).length c) ∧ OwnI w' w.heap.size A' c (plR l) ∧ Below w.heap.size w w' := by
  obtain ⟨n, hn⟩ : ∃ n, n = l.length := ⟨_, rfl⟩
  have hnm := hA.1
  have hres : plR l = plN (scanL (sideN n)) l (scanL (sideN n)).length := by unfold plR; rw [hn]
  rw [hres, ← hn]
  rw [← hn] at hnm
  have SI := Lib.hid (spec_side_any A ca n)
  have SC := Lib.hid (spec_scan_any (sideN n) (sideN_wf n))
  obtain ⟨K, o, ho, hoK, hKn, hK64, hq⟩ := side_scan n
  rw [← ho] at SC
  rw [← ho]
  rw [plN_len, hoK]
  rw [hoK] at SC
  obtain ⟨S, hS⟩ : ∃ S, S = sideN n := ⟨_, rfl⟩
  rw [← hS] at SI SC
  have hmk := make_ints K (K : Int) rfl (by omega)
  have HA := Lib.hid hA; have HN := Lib.hid hn; have HOK := Lib.hid hoK; have HQ := Lib.hid hq
  have hp0 : plN o l 0 = List.replicate K 0 := by rw [plN, hoK]
  have HP0 := Lib.hid hp0
  clear hres ho hoK hq hS hA hn hp0
  go_enter Try.func38, Try.ntmps38
  go_wp2_with fail
  refine (SI.out _).mono ?_
  rintro e w1 ⟨rfl, hw⟩
  subst hw
  go_wp2_with fail
  refine (SC.out _).mono ?_
  rintro e w2 ⟨A2, c2, rfl, ho2, hb2⟩
  have II := Lib.hid (ho2.ints (by rw [HOK.out]; omega))
  have hs2 := hb2.size
  have B2 := Lib.hid hb2
  have B0 := Lib.hid ((Below.refl w2.heap.size w2).alloc (Nat.le_refl _) (.cells (ivs (List.replicate K 0)).toArray 3))
  have O0 : Hid ((w2.alloc (.cells (ivs (List.replicate K 0)).toArray 3)).ownsRow w2.heap.size 3 1 (.slice (some ⟨w2.heap.size, 0, none⟩) K K) K (ivs (plN o l 0))) := Lib.hid (by
    have := own_ints w2 w2.heap.size (List.replicate K 0) (Nat.le_refl _) (by simp [maxLen]; omega)
    unfold OwnI at this
    rw [HP0.out]
    simpa using this)
  clear ho2 hb2
  go_wp2
  clear hmk
  go_loopw [5] (fun i wr => ∃ (j : Nat), j ≤ K ∧ i = .int .i64 j ∧ wr.ownsRow w2.heap.size 3 1 (.slice (some ⟨w2.heap.size, 0, none⟩) K K) K (ivs (plN o l j)) ∧ Below w2.heap.size w2 wr)
    (fun i _ => K - (intOf i).toNat)
  case atStart => exact ⟨0, Nat.zero_le _, rfl, O0.out, B0.out⟩
  case round =>
    obtain ⟨j, hj, rfl, hown, hbel⟩ := hrel
    by_cases hlt : j < K
    · have b1 : decide ((j : Int) < (K : Int)) = true := by simp; omega
      obtain ⟨q, hqe, hqK⟩ := HQ.out j hlt
      obtain ⟨bo, oo, rfl, hbo, hco⟩ := II.out.at j (by rw [HOK.out]; exact hlt)
      have co := hco j (by rw [HOK.out]; exact hlt)
      rw [hqe, ← hbel.cell (p := ⟨bo, oo + j, none⟩) hbo] at co
      obtain ⟨b, off, rfl, hb, hc⟩ := HA.out.at j (by rw [← HN.out]; omega)
      have cl := hc j (by rw [← HN.out]; omega)
      rw [← B2.out.cell (p := ⟨b, off + j, none⟩) hb, ← hbel.cell (p := ⟨b, off + j, none⟩) (Nat.lt_of_lt_of_le hb hs2)] at cl
      obtain ⟨x, hx⟩ : ∃ x, x = l.getD j 0 := ⟨_, rfl⟩
      rw [← hx] at cl
      obtain ⟨b0, hcell⟩ : ∃ b0 : Int, wr.cell? ⟨w2.heap.size, q, none⟩ = some (.int .i64 b0) := ⟨_, (hown.cellAt q (by omega)).trans (ivs_at _ q (by rw [plN_len, HOK.out]; omega))⟩
      have hz := hown.frozenAt q
      have hnx : plN o l (j + 1) = (plN o l j).set q x := by rw [plN, hqe, hx]; rfl
      have HX := Lib.hid hnx
      have s1 := hown.stored q (.int .i64 x)
      rw [ivs_set] at s1
      have S1 := Lib.hid s1.1
      have hjn : j < n := by omega
      have S3 := Lib.hid (hbel.setCell (p := ⟨w2.heap.size, q, none⟩) (Nat.le_refl _) (.int .i64 x))
      clear hx hnx hc hco hqe s1 hown hbel
      go_wp2
      go_region
      go_wp2
      go_roundw
      case rel => exact ⟨j + 1, by omega, by go_num, by rw [HX.out]; exact S1.out, S3.out.drew⟩
      case measure => simp [intOf]; omega
    · obtain rfl : j = K := by omega
      have b1 : decide ((j : Int) < (j : Int)) = false := by simp
      have O3 := Lib.hid hown; have B3 := Lib.hid (B2.out.trans (hbel.mono hs2))
      clear hown hbel
      go_wp2
      go_ret
      refine ⟨_, _, rfl, ?_, B3.out⟩
      unfold OwnI
      rw [plN_len, HOK.out]
      exact (own_lower O3.out hs2)
end Go.Proofs.Ytgihpckibdnghaa
