/-
  Plain helpers: rows of integers, those that came in and those that a call owns; contracts of what the laws do with them (compare, mark, look again, copy). No condition but those that each lemma states.
-/
import Derived.Test.YthgddekklpojmaaRows
import Derived.Test.YthgddekklpojmaaKit
namespace Go.Proofs.Ythgddekklpojmaa
open Go.RowKit
set_option linter.unusedVariables false

/-- An integer as a cell; a list of integers as cells. -/
def iv (x : Int) : Value := .int .i64 x
def ivs (l : List Int) : List Value := l.map iv
theorem ivs_len (l : List Int) : (ivs l).length = l.length := by simp [ivs]
theorem ivs_append (a b : List Int) : ivs (a ++ b) = ivs a ++ ivs b := by simp [ivs]
theorem ivs_at (l : List Int) (j : Nat) (h : j < l.length) : (ivs l)[j]? = some (.int .i64 (l.getD j 0)) := by
  rw [List.getD_eq_getElem?_getD]
  simp [ivs, h, iv]
theorem ivs_set (l : List Int) (j : Nat) (x : Int) : (ivs l).set j (.int .i64 x) = ivs (l.set j x) := by
  show (ivs l).set j (iv x) = _
  simp [ivs, List.map_set]

/-- `A`'s elements read as `l`, and lie in blocks below `g`. -/
def Ints (w : World) (g : Nat) (A : Option Addr) (l : List Int) : Prop :=
  l.length ≤ 281474976710656 ∧ (l = [] ∨ ∃ b off, A = some ⟨b, off, none⟩ ∧ b < g ∧ ∀ j, j < l.length → w.cell? ⟨b, off + j, none⟩ = some (.int .i64 (l.getD j 0)))
theorem Ints.kept {w w' : World} {g : Nat} {A : Option Addr} {l : List Int} (h : Ints w g A l) (hb : ∀ k, k < g → w'.heap[k]? = w.heap[k]?) : Ints w' g A l := by
  obtain ⟨hm, h0 | ⟨b, off, hA, hbg, hc⟩⟩ := h
  · exact ⟨hm, .inl h0⟩
  · refine ⟨hm, .inr ⟨b, off, hA, hbg, fun i hi => ?_⟩⟩
    rw [World.cell?_of_block (w := w) (w' := w') (a := ⟨b, off + i, none⟩) (hb b hbg)]
    exact hc i hi
theorem Ints.below {w w' : World} {g B : Nat} {A : Option Addr} {l : List Int} (h : Ints w g A l) (hb : Below B w w') (hg : g ≤ B) : Ints w' g A l := h.kept fun k hk => hb.block k (Nat.lt_of_lt_of_le hk hg)
theorem Ints.mono {w : World} {g g' : Nat} {A : Option Addr} {l : List Int} (h : Ints w g A l) (hg : g ≤ g') : Ints w g' A l := by
  obtain ⟨hm, h0 | ⟨b, off, hA, hbg, hc⟩⟩ := h
  · exact ⟨hm, .inl h0⟩
  · exact ⟨hm, .inr ⟨b, off, hA, Nat.lt_of_lt_of_le hbg hg, hc⟩⟩
theorem Ints.grown {w w' : World} {g : Nat} {A : Option Addr} {l : List Int} {row : Option Nat} (h : Ints w g A l) (hg : w.grownBy w' row) (hl : g ≤ w.heap.size) (hr : ∀ k, row = some k → g ≤ k) : Ints w' g A l :=
  h.kept fun k hk => hg.block k (Nat.lt_of_lt_of_le hk hl) fun e => by have := hr k e.symm; omega
theorem Ints.at {w : World} {g : Nat} {A : Option Addr} {l : List Int} (h : Ints w g A l) (j : Nat) (hj : j < l.length) : ∃ b off, A = some ⟨b, off, none⟩ ∧ b < g ∧ ∀ j, j < l.length → w.cell? ⟨b, off + j, none⟩ = some (.int .i64 (l.getD j 0)) := by
  obtain ⟨_, rfl | h⟩ := h
  · exact absurd hj (by simp)
  · exact h

/-- A row of integers that the call owns. -/
def OwnI (w : World) (base : Nat) (A : Option Addr) (cap : Nat) (l : List Int) : Prop := w.ownsRow base 3 1 (.slice A l.length cap) l.length (ivs l)
theorem OwnI.ints {w : World} {base : Nat} {A : Option Addr} {cap : Nat} {l : List Int} (h : OwnI w base A cap l) (hm : l.length ≤ 281474976710656) : Ints w w.heap.size A l := by
  refine ⟨hm, ?_⟩
  have h0 := h
  rcases h.2 with ⟨h1, h2⟩ | ⟨g, cap, cur, h1, h2, h3, _⟩
  · exact .inl (List.eq_nil_of_length_eq_zero h2)
  · simp only [Value.slice.injEq] at h1
    obtain ⟨rfl, _, rfl⟩ := h1
    refine .inr ⟨g, 0, rfl, (Array.getElem?_eq_some_iff.1 h3).1, fun j hj => ?_⟩
    rw [Nat.zero_add, World.ownsRow.cellAt h0 j (by omega)]
    exact ivs_at l j hj
/-- A view of a row that the call owns at another state: the row is where it was. -/
theorem OwnI.kept {w w' : World} {base B : Nat} {A : Option Addr} {cap : Nat} {l : List Int} (h : OwnI w base A cap l) (hb : Below B w w') (hB : w.heap.size ≤ B) : OwnI w' base A cap l := by
  unfold OwnI at h ⊢
  have hl := World.ownsRow.lt h
  refine World.ownsRow.kept (row := none) h ⟨hb.os, hb.tape, hb.output, hb.size, fun k hk _ => hb.block k (by omega)⟩ ?_
  cases hv : (Value.slice A l.length cap).ownBlock <;> simp

theorem Try.iinfo : (Try.prog.info? 3).map (fun i => (i.zero, i.size, i.bytes)) = some (some (.int .i64 0), 1, 8) := by kernel_rfl

/-- `make([]int, n)`: the row of zeros. -/
theorem make_ints (n : Nat) (x : Int) (hx : x = (n : Int)) (hn : n ≤ 1000000000000) (w : World) :
    (Instr.makeSlice 25 (.int .i64 x) (.int .i64 x)).run Try.prog w =
      .ok (.slice (some ⟨w.heap.size, 0, none⟩) n n) (w.alloc (.cells (ivs (List.replicate n 0)).toArray 3)) := by
  subst hx
  obtain ⟨i, hi, hz, h1, hb⟩ := info_parts Try.iinfo
  have h := run_make (P := Try.prog) w 25 3 i (.int .i64 0) Try.underlying25 hi hz .i64 .i64 (n : Int) (n : Int) (by omega) (by omega) (by rw [hb]; omega) (by omega)
  rw [h]
  have hc : madeCells (Value.int .i64 0).cells ((n : Int).toNat * i.size) = (ivs (List.replicate n 0)).toArray := by
    rw [h1, Int.toNat_natCast, Nat.mul_one]
    have := toList_madeCells_one (.int .i64 0) n
    show madeCells #[Value.int .i64 0] n = _
    apply Array.ext'
    rw [this]
    simp [ivs, iv]
  rw [hc]
  simp
/-- A row that is the last block is owned. -/
theorem own_ints (w : World) (base : Nat) (l : List Int) (hb : base ≤ w.heap.size) (hm : l.length ≤ maxLen) : OwnI (w.alloc (.cells (ivs l).toArray 3)) base (some ⟨w.heap.size, 0, none⟩) l.length l := by
  have h := World.ownsRow_lit (base := base) (e := 3) (size := 1) w (ivs l).toArray l.length hb hm (by simp [ivs])
  unfold OwnI
  simpa using h

set_option maxRecDepth 100000 in
set_option maxHeartbeats 1000000 in
/-- Two rows of one length. -/
theorem eqints_any (A B : Option Addr) (ca cb : Nat) (la lb : List Int) (w : World) (hA : Ints w w.heap.size A la) (hB : Ints w w.heap.size B lb) :
    Calls Try.prog 21 #[.slice A la.length ca, .slice B lb.length cb] w fun e w' => e = .returned (.bool (decide (la = lb))) ∧ Below w.heap.size w w' := by
  by_cases hne : la.length = lb.length
  · obtain ⟨n, hn⟩ : ∃ n, n = la.length := ⟨_, rfl⟩
    have hn2 : lb.length = n := by omega
    have hnm := hA.1
    rw [← hn] at hnm
    rw [hn2, ← hn]
    have HN := Lib.hid hn; clear hn hne
    have HN2 := Lib.hid hn2; clear hn2
    have HA := Lib.hid hA; clear hA
    have HB := Lib.hid hB; clear hB
    go_enter Try.func21, Try.ntmps21
    go_wp2
    go_loopw [5] (fun i wr => ∃ j : Nat, j ≤ n ∧ (∀ t, t < j → la.getD t 0 = lb.getD t 0) ∧ i = .int .i64 j ∧ Below w.heap.size w wr)
      (fun i _ => n - (intOf i).toNat)
    case atStart => exact ⟨0, Nat.zero_le _, fun t ht => absurd ht (by omega), rfl, Below.refl _ _⟩
    case round =>
      obtain ⟨j, hj, hpre, rfl, hbel⟩ := hrel
      have HE := Lib.hid hpre; clear hpre
      by_cases hlt : j < n
      · obtain ⟨ba, oa, rfl, ha1, ha2⟩ := HA.out.at j (by rw [← HN.out]; exact hlt)
        obtain ⟨bb, ob, rfl, hb1, hb2⟩ := HB.out.at j (by rw [HN2.out]; exact hlt)
        have c1 := ha2 j (by rw [← HN.out]; exact hlt)
        have c2 := hb2 j (by rw [HN2.out]; exact hlt)
        rw [← hbel.cell (p := ⟨ba, oa + j, none⟩) ha1] at c1
        rw [← hbel.cell (p := ⟨bb, ob + j, none⟩) hb1] at c2
        clear ha2 hb2
        obtain ⟨x, hx⟩ : ∃ x, x = la.getD j 0 := ⟨_, rfl⟩
        obtain ⟨y, hy⟩ : ∃ y, y = lb.getD j 0 := ⟨_, rfl⟩
        rw [← hx] at c1
        rw [← hy] at c2
        have HX := Lib.hid hx; clear hx
        have HY := Lib.hid hy; clear hy
        by_cases hxy : x = y
        · subst hxy
          have hq : (x != x) = false := by simp
          go_wp2
          go_region
          go_wp2
          go_roundw
          case rel =>
            refine ⟨j + 1, by omega, fun t ht => ?_, by go_num, hbel.drew⟩
            by_cases htj : t = j
            · subst htj; rw [← HX.out, ← HY.out]
            · exact HE.out t (by omega)
          case measure => simp [intOf]; omega
        · have hq : (x != y) = true := by rw [bne_iff_ne]; exact hxy
          have HNE := Lib.hid hxy; clear hxy
          go_wp2
          go_region
          go_wp2
          go_ret
          refine ⟨?_, hbel.drew⟩
          rw [decide_eq_false (fun e => HNE.out (by rw [HX.out, HY.out, e]))]
          rfl
      · obtain rfl : j = n := by omega
        go_wp2
        go_ret
        refine ⟨?_, hbel⟩
        have e : la = lb := List.ext_getElem (by rw [HN2.out, ← HN.out]) fun t h1 h2 => by
          have := HE.out t (by have := HN.out; omega)
          rw [List.getD_eq_getElem?_getD, List.getD_eq_getElem?_getD, List.getElem?_eq_getElem h1, List.getElem?_eq_getElem h2] at this
          exact this
        rw [decide_eq_true e]
        rfl
  · have hq : ((la.length : Int) != (lb.length : Int)) = true := by rw [bne_iff_ne]; omega
    have HNE := Lib.hid hne; clear hne
    go_enter Try.func21, Try.ntmps21
    go_wp2
    go_ret
    refine ⟨?_, Below.refl _ _⟩
    rw [decide_eq_false (fun e => HNE.out (by rw [e]))]
    rfl
/-- What a row reads after it was marked. -/
def markL (k : Int) (n : Nat) : List Int := (List.range n).map fun (i : Nat) => k + (i : Int)
theorem markL_len (k : Int) (n : Nat) : (markL k n).length = n := by simp [markL]
theorem markL_at (k : Int) (n j : Nat) (h : j < n) : (markL k n).getD j 0 = k + (j : Int) := by
  rw [List.getD_eq_getElem?_getD]
  simp [markL, h]

set_option maxRecDepth 100000 in
set_option maxHeartbeats 1000000 in
/-- Marking: over a row that the caller owns. -/
theorem markints_any (base : Nat) (A : Option Addr) (cap : Nat) (l : List Int) (k : Int) (hk : 0 ≤ k) (hk2 : k ≤ 281474976710656) (hl : l.length ≤ 281474976710656) (w : World) (hO : OwnI w base A cap l) :
    Calls Try.prog 22 #[.slice A l.length cap, .int .i64 k] w fun e w' => e = .returned (.int .i64 (k + (l.length : Int))) ∧ OwnI w' base A cap (markL k l.length) ∧ w.grownBy w' (Value.slice A l.length cap).ownBlock := by
  obtain ⟨n, hn⟩ : ∃ n, n = l.length := ⟨_, rfl⟩
  have hO2 : w.ownsRow base 3 1 (.slice A n cap) n (ivs l) := by rw [hn]; exact hO
  have hform := hO2.2
  have hOI : ∀ w', OwnI w' base A cap (markL k n) ↔ w'.ownsRow base 3 1 (.slice A n cap) n (ivs (markL k n)) := fun w' => by unfold OwnI; rw [markL_len]
  rw [← hn]
  simp only [hOI]
  rw [← hn] at hl
  clear hO hOI
  rcases hform with ⟨h1, h2⟩ | ⟨g, cap', cur, h1, h2, h3, _⟩
  · subst h2
    simp only [Value.slice.injEq] at h1
    obtain ⟨rfl, _, rfl⟩ := h1
    have hl0 : l = [] := List.eq_nil_of_length_eq_zero hn.symm
    subst hl0
    have HO := Lib.hid hO2; clear hO2 hn
    go_enter Try.func22, Try.ntmps22
    go_wp2
    go_loop [1, 5] (fun v i => v = .int .i64 k ∧ i = .int .i64 0) (fun _ _ => 0)
    case atStart => exact ⟨rfl, rfl⟩
    case round =>
      obtain ⟨rfl, rfl⟩ := hrel
      go_wp2
      go_ret
      exact ⟨rfl, HO.out, ⟨rfl, rfl, rfl, Nat.le_refl _, fun _ _ _ => rfl⟩⟩
  · simp only [Value.slice.injEq] at h1
    obtain ⟨rfl, _, rfl⟩ := h1
    have HN := Lib.hid hn; clear hn h3
    go_enter Try.func22, Try.ntmps22
    go_wp2
    go_loopw [1, 5] (fun v i wr => ∃ (j : Nat) (p : List Int), j ≤ n ∧ p.length = n ∧ (∀ t, t < j → p.getD t 0 = k + (t : Int)) ∧ v = .int .i64 (k + (j : Int)) ∧ i = .int .i64 j ∧ wr.ownsRow base 3 1 (.slice (some ⟨g, 0, none⟩) n cap) n (ivs p) ∧ w.grownBy wr (some g))
      (fun _ i _ => n - (intOf i).toNat)
    case atStart => exact ⟨0, l, Nat.zero_le _, HN.out.symm, fun t ht => absurd ht (by omega), by rw [Int.natCast_zero, Int.add_zero], rfl, hO2, ⟨rfl, rfl, rfl, Nat.le_refl _, fun _ _ _ => rfl⟩⟩
    case round =>
      obtain ⟨j, p, hj, hp, hpre, rfl, rfl, hown, hgr⟩ := hrel
      have HE := Lib.hid hpre; clear hpre
      have HP := Lib.hid hp; clear hp
      clear hO2
      by_cases hlt : j < n
      · obtain ⟨b0, hc⟩ : ∃ b0 : Int, wr.cell? ⟨g, j, none⟩ = some (.int .i64 b0) := ⟨_, (hown.cellAt j (by omega)).trans (ivs_at p j (by rw [HP.out]; omega))⟩
        have hz := hown.frozenAt j
        go_wp2
        go_roundw
        case rel =>
          have s1 := hown.stored j (.int .i64 (k + (j : Int)))
          rw [ivs_set] at s1
          refine ⟨j + 1, p.set j (k + (j : Int)), by omega, by simpa using HP.out, ?_, ?_, by go_num, s1.1, ⟨hgr.os, hgr.tape, hgr.output, by have := hgr.size; have := s1.2.size; omega, fun i hi hne => ?_⟩⟩
          · intro t ht
            by_cases htj : t = j
            · subst htj
              rw [List.getD_eq_getElem?_getD, List.getElem?_set_self (by rw [HP.out]; omega)]
              rfl
            · rw [List.getD_eq_getElem?_getD, List.getElem?_set_ne (fun e => htj e.symm), ← List.getD_eq_getElem?_getD]
              exact HE.out t (by omega)
          · congr 1
            omega
          · rw [s1.2.block i (by have := hgr.size; omega) hne, hgr.block i hi hne]
        case measure => simp [intOf]; omega
      · obtain rfl : j = n := by omega
        go_wp2
        go_ret
        refine ⟨rfl, ?_, hgr⟩
        have e : p = markL k j := List.ext_getElem (by rw [HP.out, markL_len]) fun t h1 h2 => by
          have := HE.out t (by have := HP.out; omega)
          rw [List.getD_eq_getElem?_getD, List.getElem?_eq_getElem h1] at this
          have h3 := markL_at k j t (by rw [markL_len] at h2; exact h2)
          rw [List.getD_eq_getElem?_getD, List.getElem?_eq_getElem h2] at h3
          exact this.trans h3.symm
        rw [← e]
        exact hown

set_option maxRecDepth 100000 in
set_option maxHeartbeats 1000000 in
/-- Looking again: the marks stand. -/
theorem heldints_any (A : Option Addr) (cap : Nat) (n : Nat) (k : Int) (hk : 0 ≤ k) (hk2 : k ≤ 281474976710656) (w : World) (hA : Ints w w.heap.size A (markL k n)) :
    Calls Try.prog 23 #[.slice A n cap, .int .i64 k] w fun e w' => e = .returned (.int .i64 (k + (n : Int))) ∧ Below w.heap.size w w' := by
  have hn := hA.1
  rw [markL_len] at hn
  have HA := Lib.hid hA; clear hA
  go_enter Try.func23, Try.ntmps23
  go_wp2
  go_loopw [1, 5] (fun v i wr => ∃ (j : Nat), j ≤ n ∧ v = .int .i64 (k + (j : Int)) ∧ i = .int .i64 j ∧ Below w.heap.size w wr)
    (fun _ i _ => n - (intOf i).toNat)
  case atStart => exact ⟨0, Nat.zero_le _, by rw [Int.natCast_zero, Int.add_zero], rfl, Below.refl _ _⟩
  case round =>
    obtain ⟨j, hj, rfl, rfl, hbel⟩ := hrel
    by_cases hlt : j < n
    · obtain ⟨ba, oa, rfl, ha1, ha2⟩ := HA.out.at j (by rw [markL_len]; exact hlt)
      have c1 := ha2 j (by rw [markL_len]; exact hlt)
      rw [markL_at k n j hlt, ← hbel.cell (p := ⟨ba, oa + j, none⟩) ha1] at c1
      clear ha2
      have hq : (k + (j : Int) != k + (j : Int)) = false := by simp
      go_wp2
      go_roundw
      case rel =>
        refine ⟨j + 1, by omega, ?_, by go_num, hbel⟩
        congr 1
        omega
      case measure => simp [intOf]; omega
    · obtain rfl : j = n := by omega
      go_wp2
      go_ret
      exact ⟨rfl, hbel⟩

theorem OwnI.cap_le {w : World} {base : Nat} {A : Option Addr} {cap : Nat} {l : List Int} (h : OwnI w base A cap l) : l.length ≤ cap := by
  rcases h.2 with ⟨h1, h2⟩ | ⟨g, cap', cur, h1, _, _, h4, _⟩
  · omega
  · simp only [Value.slice.injEq] at h1
    omega
/-- Steps joined. -/
theorem below_up {B : Nat} {a b c : World} (h : Below B a b) (k : Below b.heap.size b c) (hB : B ≤ b.heap.size) : Below B a c := h.trans (k.mono hB)
/-- Marking one's own row leaves what lies before the row. -/
theorem OwnI.marked {w w' : World} {base : Nat} {A : Option Addr} {cap : Nat} {l : List Int} (h : OwnI w base A cap l) (hg : w.grownBy w' (Value.slice A l.length cap).ownBlock) {B : Nat} (hB : B ≤ base) (hw : B ≤ w.heap.size) : Below B w w' := by
  have hl := World.ownsRow.lt h
  exact (Below.refl B w).grown hg hw fun k hk => by have := hl k hk; omega

/-- A slice of integers that came in, as a view. -/
theorem ints_of {w : World} {a : Option Addr} {len cap : Nat} {zs : List Int} (h : IsRow .i64 w a len cap zs) (hb : len ≤ 1048576) : ∃ ys : List Int, ys.length = len ∧ Ints w w.heap.size a ys ∧ (∀ y ∈ ys, (Lit.int .i64 y).wf = true) ∧ len ≤ cap := by
  rcases h with ⟨rfl, rfl, rfl, rfl⟩ | ⟨x, rfl, hl, hm, hz, hcell, hwf⟩
  · exact ⟨[], rfl, ⟨by simp, .inl rfl⟩, by simp, Nat.le_refl _⟩
  · have hlen : (zs.take len).length = len := by rw [List.length_take]; omega
    have hg : ∀ j, j < len → (zs.take len).getD j 0 = zs.getD j 0 := fun j hj => by
      rw [List.getD_eq_getElem?_getD, List.getElem?_take, if_pos hj, ← List.getD_eq_getElem?_getD]
    refine ⟨zs.take len, hlen, ⟨by omega, ?_⟩, fun y hy => hwf y (List.mem_of_mem_take hy), hl⟩
    by_cases h0 : len = 0
    · exact .inl (List.eq_nil_of_length_eq_zero (by omega))
    · right
      obtain ⟨b, off, spot⟩ := x
      have hc := hcell 0 (by omega)
      have hspot : spot = none := by simpa [Addr.add] using World.cell?_spot hc
      subst hspot
      refine ⟨b, off, rfl, World.block_lt_of_cell? w _ hc, fun j hj => ?_⟩
      rw [hlen] at hj
      rw [hg j hj]
      have := hcell j (by omega)
      by_cases hj0 : j = 0
      · subst hj0; simpa [Addr.add] using this
      · simpa [Addr.add, hj0] using this
end Go.Proofs.Ythgddekklpojmaa
