/-
  Contracts of the draws of neighbourhoods and what is drawn for chapter 17. Condition: the input is no longer than 1048576 bytes.
  Contracts of the draws of chapters 14, 15 and 17, over the draw of a neighbourhood. Condition: the input is no longer than 1048576 bytes.
  Contracts of the draws of chapter 17's laws: DrawSoftened, DrawSlopeRow, DrawPred. Condition: the input is no longer than 1048576 bytes.
-/
import Derived.Test.YtjgbenhjafgimaaDw
import Derived.Test.YtjgbenhjafgimaaOwn
import Derived.Test.YtjgbenhjafgimaaNbB
import Derived.Test.YtjgbenhjafgimaaApp
import Derived.Test.YtjgbenhjafgimaaPut
import Derived.Deep.RegionHeld3
namespace Go.Proofs.Ytjgbenhjafgimaa
open Go.RowKit
set_option linter.unusedVariables false

theorem own_formP {w : World} {base : Nat} {e : TypeId} {size : Nat} {v : Value} {n : Nat} {xs : List Value} (h : w.ownsRow base e size v n xs) : ∃ A c, v = .slice A n c := by
  rcases h.2 with ⟨h1, h2⟩ | ⟨g, cap, cur, h1, _⟩
  · exact ⟨none, 0, by rw [h1, h2]⟩
  · exact ⟨_, _, h1⟩
theorem min_facts (v : Int) (hv : 0 ≤ v ∧ v ≤ 255) : ∃ m : Int, (if v + 1 < 255 then v + 1 else (255 : Int)) = m ∧ min 255 (v + 1) = m ∧ 0 ≤ m ∧ m ≤ 255 := by
  by_cases h : v + 1 < 255
  · exact ⟨v + 1, if_pos h, by omega, by omega, by omega⟩
  · exact ⟨255, if_neg h, by omega, by omega, by omega⟩

set_option maxRecDepth 100000 in
set_option maxHeartbeats 4000000 in
theorem l14line_ex (n : Nat) (hn : n ≤ 100) (A : Option Addr) (cap : Nat) (zs : List Int) (w0 w : World) (g : Nat) (h : Dw g A cap zs w0 w) :
    Calls Try.prog 58 #[.pointer (some ⟨g, 0, none⟩), .int .i64 n] w fun e w' => ∃ (l : List Int) (A' : Option Addr) (c : Nat), e = .returned (.slice A' n c) ∧ l.length = n ∧ OwnI w' w.heap.size A' c l ∧ Dw g A cap zs w0 w' ∧ w.grownBy w' (some g) := by
  obtain ⟨i0, hii, hz0, hz1, hz2⟩ := info_parts Try.iinfo
  have hgw : g < w.heap.size := h.lt
  have BC := Lib.hid below_ex; have OC := Lib.hid once_ex; have PC := Lib.hid pick_ex
  have HG := Lib.hid h
  have O0 := Lib.hid (own_ints w w.heap.size [] (Nat.le_refl _) (by simp))
  have D0 := Lib.hid (h.again.alloc (.cells (ivs []).toArray 3))
  clear h
  go_enter Try.func58, Try.ntmps58
  go_wp2_with fail
  refine (BC.out 256 _ _ _ _ _ _ D0.out).mono ?_
  rintro e w1 ⟨v, rfl, hv, -, hD1, hg1⟩
  have hv1 : 0 ≤ (v : Int) ∧ (v : Int) ≤ 255 := by have := hv (by decide); omega
  have D1 := Lib.hid hD1; have O1 := Lib.hid (own_dw O0.out hg1 hgw); have S1 : Hid (w.heap.size ≤ w1.heap.size) := Lib.hid (Nat.le_trans (by simp) hg1.size)
  clear hv hD1 hg1 O0 D0
  go_wp2
  go_loopw [5, 6] (fun x5 x6 wr => ∃ (j : Nat) (p : List Int) (v : Int), j ≤ n ∧ p.length = j ∧ (0 ≤ v ∧ v ≤ 255) ∧ x6 = .int .i64 v ∧ wr.ownsRow w.heap.size 3 1 x5 j (ivs p) ∧ w.heap.size ≤ wr.heap.size ∧ Dw g A cap zs w wr)
    (fun v _ _ => n - lenV v)
  case atStart => exact ⟨0, [], _, Nat.zero_le _, rfl, hv1, rfl, O1.out, S1.out, D1.out⟩
  case round =>
    obtain ⟨j, p, v, hj, hpl, hvr, rfl, hown, hsz, hD⟩ := hrel
    obtain ⟨Av, cv, rfl⟩ := own_formP hown
    have HPL := Lib.hid hpl; have HD := Lib.hid hD; have HO := Lib.hid hown; have HS := Lib.hid hsz
    clear hpl hown hsz hD
    by_cases hlt : j < n
    · have d1 : decide ((j : Int) < (n : Int)) = true := by simp; omega
      go_wp2_with fail
      refine (OC.out 2 _ _ _ _ _ _ HD.out).mono ?_
      rintro e w2 ⟨x, rfl, hD2, hg2⟩
      have D2 := Lib.hid hD2; have O2 := Lib.hid (own_dw HO.out hg2 hgw); have S2 := Lib.hid (Nat.le_trans HS.out hg2.size)
      clear hD2 hg2
      cases x with
      | true =>
        go_wp2_with fail
        refine (BC.out 256 _ _ _ _ _ _ D2.out).mono ?_
        rintro e w3 ⟨y, rfl, hy, -, hD3, hg3⟩
        have hy1 := hy (by decide)
        have D3 := Lib.hid hD3; have O3 := Lib.hid (own_dw O2.out hg3 hgw); have S3 := Lib.hid (Nat.le_trans S2.out hg3.size)
        clear hy hD3 hg3
        have hw1 : IntKind.i64.wrap (v + 1) = v + 1 := IntWalk.i64_in _ (by omega)
        obtain ⟨m, hm1, hm2, hm3, hm4⟩ := min_facts v hvr
        have D3a := Lib.hid (D3.out.alloc (.cells #[.int .i64 0, .int .i64 255, .int .i64 (y : Int), .int .i64 m] 3))
        have O3a := Lib.hid (O3.out.alloc (.cells #[.int .i64 0, .int .i64 255, .int .i64 (y : Int), .int .i64 m] 3))
        have hne : w3.heap.size ≠ g := by have := D3.out.lt; omega
        have PX := Lib.hid (PC.out [0, 255, (y : Int), m] (by simp) (by simp) g A cap zs)
        go_wp2_with fail
        refine (PX.out _ _ w3.heap.size D3a.out (heap_alloc_new w3 _) hne).mono ?_
        rintro e w4 ⟨z, rfl, hz, hD4, hg4⟩
        have hzr : 0 ≤ z ∧ z ≤ 255 := by
          simp only [List.mem_cons, List.mem_nil_iff, or_false] at hz
          omega
        have O4 := own_dw O3a.out hg4 hgw
        have D4 := Lib.hid hD4; have S4 : w.heap.size ≤ w4.heap.size := Nat.le_trans S3.out (Nat.le_trans (by simp) hg4.size)
        clear hD4 hg4 hz
        go_wp2_with (at_builtin; refine append_int w4 rfl (.tmp 24) (.tmp 26) 24 rfl w.heap.size 3 i0 Try.underlying24 hii hz0 hz1 hz2 _ _ _ rfl O4 _ rfl rfl (by omega) S4 ?_; intro v' w' hown' hgr hvb)
        have hgr : World.grownBy w4 w' (Value.slice Av j cv).ownBlock := hgr
        have D5 := Lib.hid (D4.out.grown hgr fun k hk => by have := (O4.lt k hk).1; omega)
        have O5 := Lib.hid hown'
        have S5 := Lib.hid (Nat.le_trans S4 hgr.size)
        obtain ⟨Av2, cv2, hv2⟩ := own_formP hown'
        clear hvb hown' hgr O4 S4
        subst hv2
        go_wp2
        go_roundw
        case rel => exact ⟨j + 1, p ++ [z], z, by omega, by rw [List.length_append, HPL.out]; rfl, hzr, rfl, O5.out, S5.out, D5.out⟩
        case measure => simp [lenV]; omega
      | false =>
        have O4 := O2.out; have S4 := S2.out
        go_wp2_with (at_builtin; refine append_int w2 rfl (.tmp 24) (.tmp 26) 24 rfl w.heap.size 3 i0 Try.underlying24 hii hz0 hz1 hz2 _ _ _ rfl O4 _ rfl rfl (by omega) S4 ?_; intro v' w' hown' hgr hvb)
        have hgr : World.grownBy w2 w' (Value.slice Av j cv).ownBlock := hgr
        have D5 := Lib.hid (D2.out.grown hgr fun k hk => by have := (O4.lt k hk).1; omega)
        have O5 := Lib.hid hown'
        have S5 := Lib.hid (Nat.le_trans S4 hgr.size)
        obtain ⟨Av2, cv2, hv2⟩ := own_formP hown'
        clear hvb hown' hgr O4 S4
        subst hv2
        go_wp2
        go_roundw
        case rel => exact ⟨j + 1, p ++ [v], v, by omega, by rw [List.length_append, HPL.out]; rfl, hvr, rfl, O5.out, S5.out, D5.out⟩
        case measure => simp [lenV]; omega
    · have hjn : j = n := by omega
      subst hjn
      have d1 : decide ((j : Int) < (j : Int)) = false := by simp
      have O3 : Hid (OwnI wr w.heap.size Av cv p) := Lib.hid (own_backO HO.out HPL.out)
      have D3 := Lib.hid (HG.out.trans HD.out); have G3 := Lib.hid HD.out.grown0
      go_wp2
      go_ret
      exact ⟨p, _, _, rfl, HPL.out, O3.out, D3.out, G3.out⟩

/-- A row of one's own, behind what writes to a block in which it does not lie. -/
theorem own_ne {w w' : World} {base r : Nat} {A : Option Addr} {c : Nat} {l : List Int} (h : OwnI w base A c l) (hg : w.grownBy w' (some r)) (hne : ∀ k, (Value.slice A l.length c).ownBlock = some k → k ≠ r) : OwnI w' base A c l := by
  unfold OwnI at h ⊢
  refine World.ownsRow.kept h hg ?_
  cases hv : (Value.slice A l.length c).ownBlock with
  | none => exact .inl rfl
  | some k => exact .inr (fun e => hne k hv (Option.some.inj e))
theorem OwnI.far {w : World} {base : Nat} {A : Option Addr} {c : Nat} {l : List Int} (h : OwnI w base A c l) : ∀ k, (Value.slice A l.length c).ownBlock = some k → base ≤ k ∧ k < w.heap.size := h.block
/-- A neighbourhood's row that lies past a place. -/
def RowOff (B : Nat) (w : World) (X : Option Addr) (x : List Int) : Prop := Ints w w.heap.size X x ∧ ∀ b off, X = some ⟨b, off, none⟩ → B ≤ b
theorem RowOff.grown {B r : Nat} {w w' : World} {X : Option Addr} {x : List Int} (h : RowOff B w X x) (hg : w.grownBy w' (some r)) (hr : r < B) : RowOff B w' X x := by
  obtain ⟨⟨h1, h2⟩, h3⟩ := h
  refine ⟨⟨h1, ?_⟩, h3⟩
  rcases h2 with h2 | ⟨b, off, hX, hb, hc⟩
  · exact .inl h2
  · have hB := h3 b off hX
    refine .inr ⟨b, off, hX, Nat.lt_of_lt_of_le hb hg.size, fun j hj => ?_⟩
    rw [World.cell?_of_block (a := ⟨b, off + j, none⟩) (hg.block b hb (by simp; omega))]
    exact hc j hj
theorem RowOff.alloc {B : Nat} {w : World} {X : Option Addr} {x : List Int} (h : RowOff B w X x) (o : Obj) : RowOff B (w.alloc o) X x := by
  obtain ⟨h1, h3⟩ := h
  exact ⟨(h1.below (below_new w o) (Nat.le_refl _)).mono (below_new w o).size, h3⟩
theorem RowOff.low {B B' : Nat} {w : World} {X : Option Addr} {x : List Int} (h : RowOff B w X x) (hb : B' ≤ B) : RowOff B' w X x := ⟨h.1, fun b off e => Nat.le_trans hb (h.2 b off e)⟩
theorem RowOff.below {B : Nat} {w w' : World} {X : Option Addr} {x : List Int} (h : RowOff B w X x) (hb : Below w.heap.size w w') : RowOff B w' X x := ⟨(h.1.below hb (Nat.le_refl _)).mono hb.size, h.2⟩
theorem RowOff.nil (B : Nat) (w : World) : RowOff B w none [] := ⟨⟨by simp, .inl rfl⟩, fun b off e => by cases e⟩
theorem RowOff.own {B : Nat} {w : World} {X : Option Addr} {c : Nat} {x : List Int} (h : OwnI w B X c x) (hm : x.length ≤ 1000) (hp : 0 < x.length) : RowOff B w X x := by
  refine ⟨h.ints (by omega), fun b off e => ?_⟩
  subst e
  rcases h.2 with ⟨h1, h2⟩ | ⟨g, cap, cur, h1, hb, _⟩
  · cases h1
  · simp only [Value.slice.injEq, Option.some.injEq, Addr.mk.injEq] at h1
    obtain ⟨⟨rfl, _⟩, _⟩ := h1
    exact hb
theorem RowOff.drop {B : Nat} {w : World} {b off : Nat} {x : List Int} (h : RowOff B w (some ⟨b, off, none⟩) x) (k : Nat) : RowOff B w (some ⟨b, off + k, none⟩) (x.drop k) := by
  obtain ⟨⟨h1, h2⟩, h3⟩ := h
  refine ⟨⟨by rw [List.length_drop]; omega, ?_⟩, fun b' off' e => by simp only [Option.some.injEq, Addr.mk.injEq] at e; exact e.1 ▸ h3 b off rfl⟩
  rcases h2 with h2 | ⟨b', off', hX, hb, hc⟩
  · left; rw [h2]; simp
  · simp only [Option.some.injEq, Addr.mk.injEq] at hX
    obtain ⟨rfl, rfl, _⟩ := hX
    refine .inr ⟨b, off + k, rfl, hb, fun j hj => ?_⟩
    rw [List.length_drop] at hj
    rw [Nat.add_assoc, hc (k + j) (by omega)]
    simp only [List.getD_eq_getElem?_getD, List.getElem?_drop]
theorem own_back6 {w : World} {base : Nat} {A : Option Addr} {c n : Nat} {l : List Int} (h : w.ownsRow base 3 1 (.slice A n c) n (ivs l)) (hl : l.length = n) : OwnI w base A c l := own_backO h hl
theorem RowOff.lift {B b off bb : Nat} {w w' : World} {x : List Int} (h : RowOff B w (some ⟨b, off, none⟩) x) (hb : Below bb w w') (hbb : b < bb) : RowOff B w' (some ⟨b, off, none⟩) x := by
  obtain ⟨⟨h1, h2⟩, h3⟩ := h
  refine ⟨⟨h1, ?_⟩, h3⟩
  rcases h2 with h2 | ⟨b', off', hX, hb', hc⟩
  · exact .inl h2
  · simp only [Option.some.injEq, Addr.mk.injEq] at hX
    obtain ⟨rfl, rfl, _⟩ := hX
    refine .inr ⟨b, off, rfl, Nat.lt_of_lt_of_le hb' hb.size, fun j hj => ?_⟩
    rw [hb.cell (p := ⟨b, off + j, none⟩) hbb]
    exact hc j hj
theorem dw_put5 {g : Nat} {A : Option Addr} {cap : Nat} {zs : List Int} {w0 w : World} (h : Dw g A cap zs w0 w) {R : Nat} (hR : w0.heap.size ≤ R) (hg : g < R) (a b c d e : Value) : Dw g A cap zs w0 (((((w.setCell ⟨R, 0, none⟩ a).setCell ⟨R, 1, none⟩ b).setCell ⟨R, 2, none⟩ c).setCell ⟨R, 3, none⟩ d).setCell ⟨R, 4, none⟩ e) :=
  ((((h.set hR hg 0 a).set hR hg 1 b).set hR hg 2 c).set hR hg 3 d).set hR hg 4 e

/-- What stands while a sample of the top is drawn anew. -/
def NbH (g : Nat) (A : Option Addr) (cap : Nat) (zs : List Int) (w0 : World) (bb R n2 tb cA baseT baseL : Nat) (u1 u2 u3 u4 : Value) (T : TypeId) (z : Obj) (lb cB : Nat) (l : List Int) (w : World) : Prop :=
  w.heap[bb]? = some (.cells #[.slice (some ⟨tb, 0, none⟩) n2 cA, u1, u2, u3, u4] T (0, 0)) ∧ w.heap[R]? = some z ∧ (∃ t : List Int, t.length = n2 ∧ OwnI w baseT (some ⟨tb, 0, none⟩) cA t) ∧ OwnI w baseL (some ⟨lb, 0, none⟩) cB l ∧ Dw g A cap zs w0 w
section
variable {g : Nat} {A : Option Addr} {cap : Nat} {zs : List Int} {w0 : World} {bb R n2 tb cA baseT baseL : Nat} {u1 u2 u3 u4 : Value} {T : TypeId} {z : Obj} {lb cB : Nat} {l : List Int} {w w' : World}
theorem nbs_of (h : NbH g A cap zs w0 bb R n2 tb cA baseT baseL u1 u2 u3 u4 T z lb cB l w) : w.cell? ⟨bb, 0, none⟩ = some (.slice (some ⟨tb, 0, none⟩) n2 cA) ∧ NbH g A cap zs w0 bb R n2 tb cA baseT baseL u1 u2 u3 u4 T z lb cB l w := ⟨(cells5 h.1).1, h⟩
theorem nbs_drew (h : w.cell? ⟨bb, 0, none⟩ = some (.slice (some ⟨tb, 0, none⟩) n2 cA) ∧ NbH g A cap zs w0 bb R n2 tb cA baseT baseL u1 u2 u3 u4 T z lb cB l w) : w.drew.cell? ⟨bb, 0, none⟩ = some (.slice (some ⟨tb, 0, none⟩) n2 cA) ∧ NbH g A cap zs w0 bb R n2 tb cA baseT baseL u1 u2 u3 u4 T z lb cB l w.drew := by
  obtain ⟨h0, h1, h2, ⟨t, ht, h3⟩, h4, h5⟩ := h
  exact ⟨h0, h1, h2, ⟨t, ht, World.ownsRow.drew h3⟩, World.ownsRow.drew h4, h5.drew⟩
theorem nbs_alloc (h : w.cell? ⟨bb, 0, none⟩ = some (.slice (some ⟨tb, 0, none⟩) n2 cA) ∧ NbH g A cap zs w0 bb R n2 tb cA baseT baseL u1 u2 u3 u4 T z lb cB l w) (o : Obj) : (w.alloc o).cell? ⟨bb, 0, none⟩ = some (.slice (some ⟨tb, 0, none⟩) n2 cA) ∧ NbH g A cap zs w0 bb R n2 tb cA baseT baseL u1 u2 u3 u4 T z lb cB l (w.alloc o) := by
  obtain ⟨h0, h1, h2, ⟨t, ht, h3⟩, h4, h5⟩ := h
  exact nbs_of ⟨(Below.heap_alloc _ _ _ (heap_lt h1)).trans h1, (Below.heap_alloc _ _ _ (heap_lt h2)).trans h2, ⟨t, ht, World.ownsRow.alloc h3 o⟩, World.ownsRow.alloc h4 o, h5.alloc o⟩
theorem nbs_dw (h : w.cell? ⟨bb, 0, none⟩ = some (.slice (some ⟨tb, 0, none⟩) n2 cA) ∧ NbH g A cap zs w0 bb R n2 tb cA baseT baseL u1 u2 u3 u4 T z lb cB l w) : Dw g A cap zs w0 w := h.2.2.2.2.2
theorem nbs_call (h : w.cell? ⟨bb, 0, none⟩ = some (.slice (some ⟨tb, 0, none⟩) n2 cA) ∧ NbH g A cap zs w0 bb R n2 tb cA baseT baseL u1 u2 u3 u4 T z lb cB l w) (hg : w.grownBy w' (some g)) (hD : Dw g A cap zs w0 w') (h1 : g ≠ bb) (h2 : g ≠ R) (h3 : g < baseT) (h4 : g < baseL) : w'.cell? ⟨bb, 0, none⟩ = some (.slice (some ⟨tb, 0, none⟩) n2 cA) ∧ NbH g A cap zs w0 bb R n2 tb cA baseT baseL u1 u2 u3 u4 T z lb cB l w' := by
  obtain ⟨g0, g1, g2, ⟨t, ht, g3⟩, g4, g5⟩ := h
  exact nbs_of ⟨(hg.block bb (heap_lt g1) (by simp; omega)).trans g1, (hg.block R (heap_lt g2) (by simp; omega)).trans g2, ⟨t, ht, own_dw g3 hg h3⟩, own_dw g4 hg h4, hD⟩
theorem nbs_set (h : w.cell? ⟨bb, 0, none⟩ = some (.slice (some ⟨tb, 0, none⟩) n2 cA) ∧ NbH g A cap zs w0 bb R n2 tb cA baseT baseL u1 u2 u3 u4 T z lb cB l w) (j : Nat) (v : Int) (h1 : bb ≠ tb) (h2 : R ≠ tb) (h3 : lb ≠ tb) (h4 : w0.heap.size ≤ tb) (h5 : g < tb) : (w.setCell ⟨tb, j, none⟩ (.int .i64 v)).cell? ⟨bb, 0, none⟩ = some (.slice (some ⟨tb, 0, none⟩) n2 cA) ∧ NbH g A cap zs w0 bb R n2 tb cA baseT baseL u1 u2 u3 u4 T z lb cB l (w.setCell ⟨tb, j, none⟩ (.int .i64 v)) := by
  obtain ⟨g0, g1, g2, ⟨t, ht, g3⟩, g4, g5⟩ := h
  have s := (World.ownsRow.stored g3 j (.int .i64 v)).1
  rw [ivs_set] at s
  refine nbs_of ⟨(heap_setCell_other _ _ _ _ h1).trans g1, (heap_setCell_other _ _ _ _ h2).trans g2, ⟨t.set j v, by rw [List.length_set]; exact ht, ?_⟩, own_ne g4 (grown_cell _ _ _ _) (fun k hk => by simp only [Value.ownBlock, Option.some.injEq] at hk; omega), g5.set h4 h5 j _⟩
  unfold OwnI
  rw [List.length_set]
  exact s
theorem nbs_cell (h : w.cell? ⟨bb, 0, none⟩ = some (.slice (some ⟨tb, 0, none⟩) n2 cA) ∧ NbH g A cap zs w0 bb R n2 tb cA baseT baseL u1 u2 u3 u4 T z lb cB l w) {j : Nat} (hj : j < n2) : w.frozen? ⟨tb, j, none⟩ = false ∧ ∃ u, w.cell? ⟨tb, j, none⟩ = some u := by
  obtain ⟨g0, g1, g2, ⟨t, ht, g3⟩, g4, g5⟩ := h
  exact ⟨World.ownsRow.frozenAt g3 j, _, (World.ownsRow.cellAt g3 j (by omega)).trans (ivs_at t j (by omega))⟩
end

set_option maxRecDepth 100000 in
set_option maxHeartbeats 8000000 in
theorem l14nb_ex_4 (A : Option Addr) (cap : Nat) (zs : List Int) (w0 w : World) (g : Nat) (h : Dw g A cap zs w0 w) :
    Calls Try.prog 69 #[.pointer (some ⟨g, 0, none⟩), .int .i64 4] w fun e w' => ∃ (t l : List Int) (k : Int) (b1 b2 : Bool) (TA LB : Option Addr) (cA cB : Nat), e = .returned (.agg #[.slice TA t.length cA, .slice LB l.length cB, .int .i64 k, .bool b1, .bool b2]) ∧ RowOff w.heap.size w' TA t ∧ RowOff w.heap.size w' LB l ∧ t.length ≤ cA ∧ l.length ≤ cB ∧ Dw g A cap zs w0 w' := by
  have hgw : g < w.heap.size := h.lt
  have hs0 : w0.heap.size ≤ w.heap.size := h.size
  have BC := Lib.hid below_ex; have OC := Lib.hid once_ex; have PC := Lib.hid pick_ex
  have LT := Lib.hid fun w0 w g h => l14line_ex 8 (by decide) A cap zs w0 w g h
  have LL := Lib.hid fun w0 w g h => l14line_ex 4 (by decide) A cap zs w0 w g h
  have D0 := Lib.hid (h.alloc (.cells #[.slice none 0 0, .slice none 0 0, .int .i64 0, .bool false, .bool false] 26))
  have R0 := Lib.hid (heap_alloc_new w (.cells #[.slice none 0 0, .slice none 0 0, .int .i64 0, .bool false, .bool false] 26))
  have HGW := Lib.hid hgw; have HS0 := Lib.hid hs0
  clear h
  go_enter Try.func69, Try.ntmps69
  go_wp2_with fail
  refine (LT.out _ _ _ D0.out).mono ?_
  rintro e w1 ⟨t, TA, cA, rfl, htl, hoT, hD1, hg1⟩
  have hz : (w.alloc (.cells #[.slice none 0 0, .slice none 0 0, .int .i64 0, .bool false, .bool false] 26)).heap.size = w.heap.size + 1 := by simp
  rw [hz] at hoT
  have TL := Lib.hid htl
  have D1 := Lib.hid hD1; have T1 := Lib.hid hoT; have S1 : Hid (w.heap.size + 1 ≤ w1.heap.size) := Lib.hid (by rw [← hz]; exact hg1.size)
  have R1 := Lib.hid ((hg1.block w.heap.size (by rw [hz]; omega) (by simp; omega)).trans R0.out)
  clear htl hoT hD1 hg1 D0 R0
  go_wp2_with fail
  refine (LL.out _ _ _ D1.out).mono ?_
  rintro e w2 ⟨l, LB, cB, rfl, hll, hoL, hD2, hg2⟩
  have LLH := Lib.hid hll
  have D2 := Lib.hid hD2; have L2 := Lib.hid hoL; have T2 := Lib.hid (own_dw T1.out hg2 (Nat.lt_succ_of_lt hgw)); have S2 := Lib.hid hg2.size
  have TF := Lib.hid T1.out.far
  have R2 := Lib.hid ((hg2.block w.heap.size (by have := S1.out; omega) (by simp; omega)).trans R1.out)
  clear hll hoL hD2 hg2 D1
  go_wp2_with fail
  refine (BC.out 256 _ _ _ _ _ _ D2.out).mono ?_
  rintro e w3 ⟨k, rfl, -, -, hD3, hg3⟩
  have D3 := Lib.hid hD3; have L3 := Lib.hid (own_dw L2.out hg3 (by have := S1.out; omega)); have T3 := Lib.hid (own_dw T2.out hg3 (Nat.lt_succ_of_lt hgw)); have S3 := Lib.hid (Nat.le_trans S2.out hg3.size)
  have R3 := Lib.hid ((hg3.block w.heap.size (by have := S1.out; have := S2.out; omega) (by simp; omega)).trans R2.out)
  clear hD3 hg3 D2 L2 T2
  go_wp2_with fail
  refine (OC.out 4 _ _ _ _ _ _ D3.out).mono ?_
  rintro e w4 ⟨x1, rfl, hD4, hg4⟩
  have D4 := Lib.hid hD4; have L4 := Lib.hid (own_dw L3.out hg4 (by have := S1.out; omega)); have T4 := Lib.hid (own_dw T3.out hg4 (Nat.lt_succ_of_lt hgw)); have S4 := Lib.hid (Nat.le_trans S3.out hg4.size)
  have R4 := Lib.hid ((hg4.block w.heap.size (by have := S1.out; have := S3.out; omega) (by simp; omega)).trans R3.out)
  clear hD4 hg4 D3 L3 T3
  go_wp2_with fail
  refine (OC.out 4 _ _ _ _ _ _ D4.out).mono ?_
  rintro e w5 ⟨x2, rfl, hD5, hg5⟩
  have S5 := Lib.hid (Nat.le_trans S4.out hg5.size)
  have hzw : w.heap.size + 1 ≤ w5.heap.size := by have := S1.out; have := S5.out; omega
  have BB := Lib.hid hzw
  -- the block of the neighbourhood
  have hb5 := below_new w5 (.cells #[.slice TA 8 cA, .slice LB 4 cB, .int .i64 (k : Int), .bool (!x1), .bool (!x2)] 26)
  have hk5 := heap_alloc_new w5 (.cells #[.slice TA 8 cA, .slice LB 4 cB, .int .i64 (k : Int), .bool (!x1), .bool (!x2)] 26)
  have hd5 := hD5.alloc (.cells #[.slice TA 8 cA, .slice LB 4 cB, .int .i64 (k : Int), .bool (!x1), .bool (!x2)] 26)
  have hl5 := (own_dw L4.out hg5 (by have := S1.out; omega)); have ht5 := (own_dw T4.out hg5 (Nat.lt_succ_of_lt hgw))
  have hr5 := (hg5.block w.heap.size (by have := S1.out; have := S4.out; omega) (by simp; omega)).trans R4.out
  have hl6 : OwnI _ w1.heap.size LB cB l := own_back6 (own_keep hl5 hb5) rfl
  have ht6 : OwnI _ (w.heap.size + 1) TA cA t := own_back6 (own_keep ht5 hb5) rfl
  have hr6 := (hb5.block w.heap.size (by omega)).trans hr5
  have lf5 := OwnI.far (own_back6 hl5 rfl); have tf5 := OwnI.far (own_back6 ht5 rfl)
  obtain ⟨w6, hw6⟩ : ∃ w6, w6 = w5.alloc (.cells #[.slice TA 8 cA, .slice LB 4 cB, .int .i64 (k : Int), .bool (!x1), .bool (!x2)] 26) := ⟨_, rfl⟩
  obtain ⟨bb, hbb⟩ : ∃ bb, bb = w5.heap.size := ⟨_, rfl⟩
  have hsz6 : bb < w6.heap.size := by rw [hw6, hbb]; simp
  rw [← hw6] at hk5 hd5 hl6 ht6 hr6
  rw [← hbb] at hk5 lf5 tf5
  have hRb : w.heap.size < bb := by omega
  have hg7 : g < bb := by omega
  have hs7 : w0.heap.size ≤ bb := by omega
  have K6 := Lib.hid hk5; have D6 := Lib.hid hd5; have L6 := Lib.hid hl6; have T6 := Lib.hid ht6; have R6 := Lib.hid hr6; have LF := Lib.hid lf5; have TF5 := Lib.hid tf5
  clear hD5 hg5 D4 L4 T4 hb5 hk5 hd5 hl5 ht5 hr5 hl6 ht6 hr6 hzw hz lf5 tf5
  go_wp2_with fail
  rw [← hw6, ← hbb]
  refine (BC.out 18 _ _ _ _ _ _ D6.out).mono ?_
  rintro e w7 ⟨x, rfl, -, -, hD7, hg7'⟩
  obtain ⟨tb, rfl, htb, -⟩ := own_whereO T6.out rfl (by rw [TL.out]; decide)
  obtain ⟨lb, rfl, hlb, -⟩ := own_whereO L6.out rfl (by rw [LLH.out]; decide)
  have D7 := Lib.hid hD7
  have L7 : Hid (OwnI w7 w1.heap.size (some ⟨lb, 0, none⟩) cB l) := Lib.hid (own_back6 (own_dw L6.out hg7' (by have := S1.out; omega)) rfl)
  have T7 : Hid (OwnI w7 (w.heap.size + 1) (some ⟨tb, 0, none⟩) cA t) := Lib.hid (own_back6 (own_dw T6.out hg7' (Nat.lt_succ_of_lt hgw)) rfl)
  have K7 := Lib.hid ((hg7'.block bb hsz6 (by simp; omega)).trans K6.out)
  have R7 := Lib.hid ((hg7'.block w.heap.size (by omega) (by simp; omega)).trans R6.out)
  have hbt : tb < bb := (TF5.out tb rfl).2
  have hbl : lb < bb := (LF.out lb rfl).2
  have htl : tb < lb := by have := (TF.out tb rfl).2; omega
  have h7 : bb < w7.heap.size := Nat.lt_of_lt_of_le hsz6 hg7'.size
  have hCA := T7.out.cap_le; have hCB := L7.out.cap_le
  rw [TL.out] at hCA
  rw [LLH.out] at hCB
  have CA := Lib.hid hCA; have CB := Lib.hid hCB
  clear hD7 hg7' K6 D6 L6 T6 R6 LF TF5 TF hw6 hbb hsz6 R1 R2 R3 R4 hCA hCB T1
  obtain ⟨c0, c1, c2, c3, c4⟩ := cells5 K7.out
  obtain ⟨f0, f1, f2, f3, f4⟩ := frozen5 K7.out
  by_cases hx0 : x = 0
  · subst hx0
    have hS0 : w7.cell? ⟨bb, 0, none⟩ = some (.slice (some ⟨tb, 0, none⟩) 8 cA) ∧ NbH g A cap zs w0 bb w.heap.size 8 tb cA (w.heap.size + 1) w1.heap.size (.slice (some ⟨lb, 0, none⟩) 4 cB) (.int .i64 (k : Int)) (.bool (!x1)) (.bool (!x2)) 26 (.cells #[.slice none 0 0, .slice none 0 0, .int .i64 0, .bool false, .bool false] 26 (0, 0)) lb cB l w7 := ⟨c0, K7.out, R7.out, ⟨t, TL.out, T7.out⟩, L7.out, D7.out⟩
    have hS := nbs_drew hS0
    have PX : Hid (∀ (w0 w : World) (gl : Nat), Dw g A cap zs w0 w → w.heap[gl]? = some (.cells #[.int .i64 (-1), .int .i64 256] 3 (0, 0)) → gl ≠ g → Calls Try.prog 61 #[.pointer (some ⟨g, 0, none⟩), .slice (some ⟨gl, 0, none⟩) 2 2] w fun e w' => ∃ x : Int, e = .returned (.int .i64 x) ∧ x ∈ [-1, 256] ∧ Dw g A cap zs w0 w' ∧ w.grownBy w' (some g)) := Lib.hid (PC.out [-1, 256] (by simp) (by simp) g A cap zs)
    have n1 : g ≠ bb := by omega
    have n2' : g ≠ w.heap.size := by omega
    have n3 : g < w.heap.size + 1 := by omega
    have n4 : g < w1.heap.size := by have := S1.out; omega
    have n5 : bb ≠ tb := by omega
    have n6 : w.heap.size ≠ tb := by omega
    have n7 : lb ≠ tb := by omega
    have n8 : w0.heap.size ≤ tb := by omega
    have n9 : g < tb := by omega
    clear c1 c2 c3 c4 f0 f1 f2 f3 f4 D7 L7 T7 K7 R7
    go_wp2_with fail
    go_region_held3 (fun w' => w'.cell? ⟨bb, 0, none⟩ = some (.slice (some ⟨tb, 0, none⟩) 8 cA) ∧ NbH g A cap zs w0 bb w.heap.size 8 tb cA (w.heap.size + 1) w1.heap.size (.slice (some ⟨lb, 0, none⟩) 4 cB) (.int .i64 (k : Int)) (.bool (!x1)) (.bool (!x2)) 26 (.cells #[.slice none 0 0, .slice none 0 0, .int .i64 0, .bool false, .bool false] 26 (0, 0)) lb cB l w')
      (first | with_reducible assumption | (with_reducible refine nbs_drew ?_; with_reducible assumption) | (with_reducible refine nbs_alloc ?_ _; with_reducible assumption) | (with_reducible refine nbs_drew (nbs_alloc ?_ _); with_reducible assumption) | (exact nbs_set (by with_reducible assumption) _ _ n5 n6 n7 n8 n9) | fail)
      (first
        | (go_at_call 59; (with_reducible refine (BC.out 4 _ _ _ _ _ _ (nbs_dw (by with_reducible assumption))).mono ?_); rintro e w8 ⟨j, rfl, hj, -, hD8, hg8⟩; have hj1 : (j : Int) < 4 := hj (by decide); have hj2 : (j : Int) < 8 := (by omega); have hl8 := hD8.lt; (first | (have GL := Lib.hid ((hg8.block w7.heap.size (by simp) (by first | (simp; omega) | simp)).trans (heap_alloc_new _ _))) | skip); have S8 := nbs_call (by with_reducible assumption) hg8 hD8 n1 n2' n3 n4; clear hj hD8 hg8)
        | (go_at_call 61; (first | (with_reducible refine (PX.out _ _ _ (nbs_dw (by with_reducible assumption)) (heap_alloc_new _ _) (by first | omega | (simp; omega) | simp)).mono ?_) | (with_reducible refine (PX.out _ _ _ (nbs_dw (by with_reducible assumption)) GL.out (by omega)).mono ?_)); rintro e w9 ⟨z, rfl, -, hD9, hg9⟩; have S9 := nbs_call (by with_reducible assumption) hg9 hD9 n1 n2' n3 n4; obtain ⟨fz, u0, cj⟩ := nbs_cell S9 (show j < 8 by omega); have S9H := Lib.hid S9; clear hD9 hg9)
        | fail)
    all_goals
      have SF := Lib.hid (nbs_set S9H.out j z n5 n6 n7 n8 n9)
      obtain ⟨wF, hwF⟩ : ∃ wF, wF = w9.setCell ⟨tb, j, none⟩ (.int .i64 z) := ⟨_, rfl⟩
      rw [← hwF] at SF ⊢
      obtain ⟨-, kF, rF, ⟨tF, htF, oF⟩, lF, dF⟩ := SF.out
      have KF := Lib.hid kF; have RF := Lib.hid rF; have TF := Lib.hid oF; have LF := Lib.hid lF; have DF := Lib.hid dF; have TLF := Lib.hid htF
      clear fz cj S9 hwF kF rF oF lF dF htF hS0 hS c0
      obtain ⟨c0, c1, c2, c3, c4⟩ := cells5 KF.out
      have RT := Lib.hid (RowOff.own TF.out (by rw [TLF.out]; decide) (by rw [TLF.out]; decide))
      have RL := Lib.hid ((RowOff.own LF.out (by rw [LLH.out]; decide) (by rw [LLH.out]; decide)).low S1.out)
      obtain ⟨r0, r1, r2, r3, r4⟩ := cells5 RF.out
      obtain ⟨z0, z1, z2, z3, z4⟩ := frozen5 RF.out
      have gb := grown_five wF w.heap.size (.slice (some ⟨tb, 0, none⟩) 8 cA) (.slice (some ⟨lb, 0, none⟩) 4 cB) (.int .i64 (k : Int)) (.bool (!x1)) (.bool (!x2))
      obtain ⟨e0, e1, e2, e3, e4⟩ := cells5 (put_five RF.out (.slice (some ⟨tb, 0, none⟩) 8 cA) (.slice (some ⟨lb, 0, none⟩) 4 cB) (.int .i64 (k : Int)) (.bool (!x1)) (.bool (!x2)))
      have ot := Lib.hid (RT.out.grown gb (Nat.lt_succ_self _))
      have ol := Lib.hid (RL.out.grown gb (Nat.lt_succ_self _))
      have dz := Lib.hid (dw_put5 DF.out HS0.out HGW.out (.slice (some ⟨tb, 0, none⟩) 8 cA) (.slice (some ⟨lb, 0, none⟩) 4 cB) (.int .i64 (k : Int)) (.bool (!x1)) (.bool (!x2)))
      clear gb
      go_wp2
      exact bodyPost_ret (v := .agg #[.slice (some ⟨tb, 0, none⟩) 8 cA, .slice (some ⟨lb, 0, none⟩) 4 cB, .int .i64 (k : Int), .bool (!x1), .bool (!x2)]) (by simp [results, Try.results69, go_sem, e0, e1, e2, e3, e4]) rfl ⟨tF, l, (k : Int), _, _, _, _, _, _, by rw [TLF.out, LLH.out], ot.out.low (Nat.le_succ _), ol.out.low (Nat.le_succ _), by rw [TLF.out]; exact CA.out, by rw [LLH.out]; exact CB.out, dz.out⟩
  · have q0 : ((x : Int) == 0) = false := by rw [beq_eq_false_iff_ne]; omega
    by_cases hx1 : x = 1
    · subst hx1
      have RT := Lib.hid (RowOff.own T7.out (by rw [TL.out]; decide) (by rw [TL.out]; decide))
      have RL := Lib.hid ((RowOff.own L7.out (by rw [LLH.out]; decide) (by rw [LLH.out]; decide)).low S1.out)
      have g8 := grown_cell w7 bb 1 (.slice (some ⟨lb, 1, none⟩) 3 (cB - 1))
      have hb8 : Below bb w7 (w7.setCell ⟨bb, 1, none⟩ (.slice (some ⟨lb, 1, none⟩) 3 (cB - 1))) := (Below.refl bb w7).setCell (p := ⟨bb, 1, none⟩) (Nat.le_refl _) _
      have K8 := Lib.hid (heap_setCell_same w7 bb 1 _ _ (.slice (some ⟨lb, 1, none⟩) 3 (cB - 1)) K7.out)
      have R8 := Lib.hid ((hb8.block w.heap.size hRb).trans R7.out)
      have D8 := Lib.hid (D7.out.set hs7 hg7 1 (.slice (some ⟨lb, 1, none⟩) 3 (cB - 1)))
      have RT8 := Lib.hid (RowOff.lift RT.out hb8 hbt)
      have RL8 := Lib.hid (RowOff.lift (RL.out.drop 1) hb8 hbl)
      have hcB := CB.out
      have HDL : Hid ((l.drop 1).length = 3) := Lib.hid (by rw [List.length_drop, LLH.out])
      skip
      obtain ⟨r0, r1, r2, r3, r4⟩ := cells5 R8.out
      obtain ⟨z0, z1, z2, z3, z4⟩ := frozen5 R8.out
      have gb := grown_five (w7.setCell ⟨bb, 1, none⟩ (.slice (some ⟨lb, 1, none⟩) 3 (cB - 1))) w.heap.size (.slice (some ⟨tb, 0, none⟩) 8 cA) (.slice (some ⟨lb, 1, none⟩) 3 (cB - 1)) (.int .i64 (k : Int)) (.bool (!x1)) (.bool (!x2))
      obtain ⟨e0, e1, e2, e3, e4⟩ := cells5 (put_five R8.out (.slice (some ⟨tb, 0, none⟩) 8 cA) (.slice (some ⟨lb, 1, none⟩) 3 (cB - 1)) (.int .i64 (k : Int)) (.bool (!x1)) (.bool (!x2)))
      have ot := Lib.hid (RT8.out.grown gb (Nat.lt_succ_self _))
      have ol := Lib.hid (RL8.out.grown gb (Nat.lt_succ_self _))
      have dz := Lib.hid (dw_put5 D8.out HS0.out HGW.out (.slice (some ⟨tb, 0, none⟩) 8 cA) (.slice (some ⟨lb, 1, none⟩) 3 (cB - 1)) (.int .i64 (k : Int)) (.bool (!x1)) (.bool (!x2)))
      clear gb
      go_wp2
      exact bodyPost_ret (v := .agg #[.slice (some ⟨tb, 0, none⟩) 8 cA, .slice (some ⟨lb, 1, none⟩) 3 (cB - 1), .int .i64 (k : Int), .bool (!x1), .bool (!x2)]) (by simp [results, Try.results69, go_sem, e0, e1, e2, e3, e4]) rfl ⟨t, l.drop 1, (k : Int), _, _, _, _, _, _, by rw [TL.out, HDL.out], ot.out.low (Nat.le_succ _), ol.out.low (Nat.le_succ _), by rw [TL.out]; exact CA.out, by rw [HDL.out]; exact (by have := CB.out; omega), dz.out⟩
    · have q1 : ((x : Int) == 1) = false := by rw [beq_eq_false_iff_ne]; omega
      by_cases hx2 : x = 2
      · subst hx2
        have D7a := Lib.hid (D7.out.alloc (.cells #[.int .i64 (-1), .int .i64 256] 3))
        have T7a := Lib.hid (T7.out.alloc (.cells #[.int .i64 (-1), .int .i64 256] 3)); have L7a := Lib.hid (L7.out.alloc (.cells #[.int .i64 (-1), .int .i64 256] 3))
        have hne : w7.heap.size ≠ g := by omega
        have PX := Lib.hid (PC.out [-1, 256] (by simp) (by simp) g A cap zs)
        have K7a := Lib.hid ((Below.heap_alloc w7 (.cells #[.int .i64 (-1), .int .i64 256] 3) bb h7).trans K7.out)
        have R7a := Lib.hid ((Below.heap_alloc w7 (.cells #[.int .i64 (-1), .int .i64 256] 3) w.heap.size (by omega)).trans R7.out)
        go_wp2_with fail
        refine (PX.out _ _ w7.heap.size D7a.out (heap_alloc_new w7 _) hne).mono ?_
        rintro e w8 ⟨z, rfl, -, hD8, hg8⟩
        have hz8 : w7.heap.size + 1 ≤ w8.heap.size := by have := hg8.size; simpa using this
        have K8 := Lib.hid ((hg8.block bb (by simp; omega) (by simp; omega)).trans K7a.out)
        have R8 := Lib.hid ((hg8.block w.heap.size (by simp; omega) (by simp; omega)).trans R7a.out)
        have T8 : Hid (OwnI w8 (w.heap.size + 1) (some ⟨tb, 0, none⟩) cA t) := Lib.hid (own_back6 (own_dw T7a.out hg8 (Nat.lt_succ_of_lt hgw)) rfl)
        have L8 : Hid (OwnI w8 w1.heap.size (some ⟨lb, 0, none⟩) cB l) := Lib.hid (own_back6 (own_dw L7a.out hg8 (by have := S1.out; omega)) rfl)
        have RT := Lib.hid (RowOff.own T8.out (by rw [TL.out]; decide) (by rw [TL.out]; decide))
        have RL := Lib.hid ((RowOff.own L8.out (by rw [LLH.out]; decide) (by rw [LLH.out]; decide)).low S1.out)
        have hb9 : Below bb w8 (w8.setCell ⟨bb, 2, none⟩ (.int .i64 z)) := (Below.refl bb w8).setCell (p := ⟨bb, 2, none⟩) (Nat.le_refl _) _
        have K9 := Lib.hid (heap_setCell_same w8 bb 2 _ _ (.int .i64 z) K8.out)
        have R9 := Lib.hid ((hb9.block w.heap.size hRb).trans R8.out)
        have D9 := Lib.hid (hD8.set hs7 hg7 2 (.int .i64 z))
        have RT9 := Lib.hid (RowOff.lift RT.out hb9 hbt)
        have RL9 := Lib.hid (RowOff.lift RL.out hb9 hbl)
        clear c0 c1 c2 c3 c4 f0 f1 f2 f3 f4 hD8 hg8
        obtain ⟨c0, c1, c2, c3, c4⟩ := cells5 K8.out
        obtain ⟨f0, f1, f2, f3, f4⟩ := frozen5 K8.out
        obtain ⟨r0, r1, r2, r3, r4⟩ := cells5 R9.out
        obtain ⟨z0, z1, z2, z3, z4⟩ := frozen5 R9.out
        have gb := grown_five (w8.setCell ⟨bb, 2, none⟩ (.int .i64 z)) w.heap.size (.slice (some ⟨tb, 0, none⟩) 8 cA) (.slice (some ⟨lb, 0, none⟩) 4 cB) (.int .i64 z) (.bool (!x1)) (.bool (!x2))
        obtain ⟨e0, e1, e2, e3, e4⟩ := cells5 (put_five R9.out (.slice (some ⟨tb, 0, none⟩) 8 cA) (.slice (some ⟨lb, 0, none⟩) 4 cB) (.int .i64 z) (.bool (!x1)) (.bool (!x2)))
        have ot := Lib.hid (RT9.out.grown gb (Nat.lt_succ_self _))
        have ol := Lib.hid (RL9.out.grown gb (Nat.lt_succ_self _))
        have dz := Lib.hid (dw_put5 D9.out HS0.out HGW.out (.slice (some ⟨tb, 0, none⟩) 8 cA) (.slice (some ⟨lb, 0, none⟩) 4 cB) (.int .i64 z) (.bool (!x1)) (.bool (!x2)))
        clear gb
        go_wp2
        exact bodyPost_ret (v := .agg #[.slice (some ⟨tb, 0, none⟩) 8 cA, .slice (some ⟨lb, 0, none⟩) 4 cB, .int .i64 z, .bool (!x1), .bool (!x2)]) (by simp [results, Try.results69, go_sem, e0, e1, e2, e3, e4]) rfl ⟨t, l, z, _, _, _, _, _, _, by rw [TL.out, LLH.out], ot.out.low (Nat.le_succ _), ol.out.low (Nat.le_succ _), by rw [TL.out]; exact CA.out, by rw [LLH.out]; exact CB.out, dz.out⟩
      · have q2 : ((x : Int) == 2) = false := by rw [beq_eq_false_iff_ne]; omega
        have RT := Lib.hid (RowOff.own T7.out (by rw [TL.out]; decide) (by rw [TL.out]; decide))
        have RL := Lib.hid ((RowOff.own L7.out (by rw [LLH.out]; decide) (by rw [LLH.out]; decide)).low S1.out)
        obtain ⟨r0, r1, r2, r3, r4⟩ := cells5 R7.out
        obtain ⟨z0, z1, z2, z3, z4⟩ := frozen5 R7.out
        have gb := grown_five w7 w.heap.size (.slice (some ⟨tb, 0, none⟩) 8 cA) (.slice (some ⟨lb, 0, none⟩) 4 cB) (.int .i64 (k : Int)) (.bool (!x1)) (.bool (!x2))
        obtain ⟨e0, e1, e2, e3, e4⟩ := cells5 (put_five R7.out (.slice (some ⟨tb, 0, none⟩) 8 cA) (.slice (some ⟨lb, 0, none⟩) 4 cB) (.int .i64 (k : Int)) (.bool (!x1)) (.bool (!x2)))
        have ot := Lib.hid (RT.out.grown gb (Nat.lt_succ_self _))
        have ol := Lib.hid (RL.out.grown gb (Nat.lt_succ_self _))
        have dz := Lib.hid (dw_put5 D7.out HS0.out HGW.out (.slice (some ⟨tb, 0, none⟩) 8 cA) (.slice (some ⟨lb, 0, none⟩) 4 cB) (.int .i64 (k : Int)) (.bool (!x1)) (.bool (!x2)))
        clear gb
        go_wp2
        exact bodyPost_ret (v := .agg #[.slice (some ⟨tb, 0, none⟩) 8 cA, .slice (some ⟨lb, 0, none⟩) 4 cB, .int .i64 (k : Int), .bool (!x1), .bool (!x2)]) (by simp [results, Try.results69, go_sem, e0, e1, e2, e3, e4]) rfl ⟨t, l, (k : Int), _, _, _, _, _, _, by rw [TL.out, LLH.out], ot.out.low (Nat.le_succ _), ol.out.low (Nat.le_succ _), by rw [TL.out]; exact CA.out, by rw [LLH.out]; exact CB.out, dz.out⟩
set_option maxRecDepth 100000 in
set_option maxHeartbeats 8000000 in
theorem l14nb_ex_8 (A : Option Addr) (cap : Nat) (zs : List Int) (w0 w : World) (g : Nat) (h : Dw g A cap zs w0 w) :
    Calls Try.prog 69 #[.pointer (some ⟨g, 0, none⟩), .int .i64 8] w fun e w' => ∃ (t l : List Int) (k : Int) (b1 b2 : Bool) (TA LB : Option Addr) (cA cB : Nat), e = .returned (.agg #[.slice TA t.length cA, .slice LB l.length cB, .int .i64 k, .bool b1, .bool b2]) ∧ RowOff w.heap.size w' TA t ∧ RowOff w.heap.size w' LB l ∧ t.length ≤ cA ∧ l.length ≤ cB ∧ Dw g A cap zs w0 w' := by
  have hgw : g < w.heap.size := h.lt
  have hs0 : w0.heap.size ≤ w.heap.size := h.size
  have BC := Lib.hid below_ex; have OC := Lib.hid once_ex; have PC := Lib.hid pick_ex
  have LT := Lib.hid fun w0 w g h => l14line_ex 16 (by decide) A cap zs w0 w g h
  have LL := Lib.hid fun w0 w g h => l14line_ex 8 (by decide) A cap zs w0 w g h
  have D0 := Lib.hid (h.alloc (.cells #[.slice none 0 0, .slice none 0 0, .int .i64 0, .bool false, .bool false] 26))
  have R0 := Lib.hid (heap_alloc_new w (.cells #[.slice none 0 0, .slice none 0 0, .int .i64 0, .bool false, .bool false] 26))
  have HGW := Lib.hid hgw; have HS0 := Lib.hid hs0
  clear h
  go_enter Try.func69, Try.ntmps69
  go_wp2_with fail
  refine (LT.out _ _ _ D0.out).mono ?_
  rintro e w1 ⟨t, TA, cA, rfl, htl, hoT, hD1, hg1⟩
  have hz : (w.alloc (.cells #[.slice none 0 0, .slice none 0 0, .int .i64 0, .bool false, .bool false] 26)).heap.size = w.heap.size + 1 := by simp
  rw [hz] at hoT
  have TL := Lib.hid htl
  have D1 := Lib.hid hD1; have T1 := Lib.hid hoT; have S1 : Hid (w.heap.size + 1 ≤ w1.heap.size) := Lib.hid (by rw [← hz]; exact hg1.size)
  have R1 := Lib.hid ((hg1.block w.heap.size (by rw [hz]; omega) (by simp; omega)).trans R0.out)
  clear htl hoT hD1 hg1 D0 R0
  go_wp2_with fail
  refine (LL.out _ _ _ D1.out).mono ?_
  rintro e w2 ⟨l, LB, cB, rfl, hll, hoL, hD2, hg2⟩
  have LLH := Lib.hid hll
  have D2 := Lib.hid hD2; have L2 := Lib.hid hoL; have T2 := Lib.hid (own_dw T1.out hg2 (Nat.lt_succ_of_lt hgw)); have S2 := Lib.hid hg2.size
  have TF := Lib.hid T1.out.far
  have R2 := Lib.hid ((hg2.block w.heap.size (by have := S1.out; omega) (by simp; omega)).trans R1.out)
  clear hll hoL hD2 hg2 D1
  go_wp2_with fail
  refine (BC.out 256 _ _ _ _ _ _ D2.out).mono ?_
  rintro e w3 ⟨k, rfl, -, -, hD3, hg3⟩
  have D3 := Lib.hid hD3; have L3 := Lib.hid (own_dw L2.out hg3 (by have := S1.out; omega)); have T3 := Lib.hid (own_dw T2.out hg3 (Nat.lt_succ_of_lt hgw)); have S3 := Lib.hid (Nat.le_trans S2.out hg3.size)
  have R3 := Lib.hid ((hg3.block w.heap.size (by have := S1.out; have := S2.out; omega) (by simp; omega)).trans R2.out)
  clear hD3 hg3 D2 L2 T2
  go_wp2_with fail
  refine (OC.out 4 _ _ _ _ _ _ D3.out).mono ?_
  rintro e w4 ⟨x1, rfl, hD4, hg4⟩
  have D4 := Lib.hid hD4; have L4 := Lib.hid (own_dw L3.out hg4 (by have := S1.out; omega)); have T4 := Lib.hid (own_dw T3.out hg4 (Nat.lt_succ_of_lt hgw)); have S4 := Lib.hid (Nat.le_trans S3.out hg4.size)
  have R4 := Lib.hid ((hg4.block w.heap.size (by have := S1.out; have := S3.out; omega) (by simp; omega)).trans R3.out)
  clear hD4 hg4 D3 L3 T3
  go_wp2_with fail
  refine (OC.out 4 _ _ _ _ _ _ D4.out).mono ?_
  rintro e w5 ⟨x2, rfl, hD5, hg5⟩
  have S5 := Lib.hid (Nat.le_trans S4.out hg5.size)
  have hzw : w.heap.size + 1 ≤ w5.heap.size := by have := S1.out; have := S5.out; omega
  have BB := Lib.hid hzw
  -- the block of the neighbourhood
  have hb5 := below_new w5 (.cells #[.slice TA 16 cA, .slice LB 8 cB, .int .i64 (k : Int), .bool (!x1), .bool (!x2)] 26)
  have hk5 := heap_alloc_new w5 (.cells #[.slice TA 16 cA, .slice LB 8 cB, .int .i64 (k : Int), .bool (!x1), .bool (!x2)] 26)
  have hd5 := hD5.alloc (.cells #[.slice TA 16 cA, .slice LB 8 cB, .int .i64 (k : Int), .bool (!x1), .bool (!x2)] 26)
  have hl5 := (own_dw L4.out hg5 (by have := S1.out; omega)); have ht5 := (own_dw T4.out hg5 (Nat.lt_succ_of_lt hgw))
  have hr5 := (hg5.block w.heap.size (by have := S1.out; have := S4.out; omega) (by simp; omega)).trans R4.out
  have hl6 : OwnI _ w1.heap.size LB cB l := own_back6 (own_keep hl5 hb5) rfl
  have ht6 : OwnI _ (w.heap.size + 1) TA cA t := own_back6 (own_keep ht5 hb5) rfl
  have hr6 := (hb5.block w.heap.size (by omega)).trans hr5
  have lf5 := OwnI.far (own_back6 hl5 rfl); have tf5 := OwnI.far (own_back6 ht5 rfl)
  obtain ⟨w6, hw6⟩ : ∃ w6, w6 = w5.alloc (.cells #[.slice TA 16 cA, .slice LB 8 cB, .int .i64 (k : Int), .bool (!x1), .bool (!x2)] 26) := ⟨_, rfl⟩
  obtain ⟨bb, hbb⟩ : ∃ bb, bb = w5.heap.size := ⟨_, rfl⟩
  have hsz6 : bb < w6.heap.size := by rw [hw6, hbb]; simp
  rw [← hw6] at hk5 hd5 hl6 ht6 hr6
  rw [← hbb] at hk5 lf5 tf5
  have hRb : w.heap.size < bb := by omega
  have hg7 : g < bb := by omega
  have hs7 : w0.heap.size ≤ bb := by omega
  have K6 := Lib.hid hk5; have D6 := Lib.hid hd5; have L6 := Lib.hid hl6; have T6 := Lib.hid ht6; have R6 := Lib.hid hr6; have LF := Lib.hid lf5; have TF5 := Lib.hid tf5
  clear hD5 hg5 D4 L4 T4 hb5 hk5 hd5 hl5 ht5 hr5 hl6 ht6 hr6 hzw hz lf5 tf5
  go_wp2_with fail
  rw [← hw6, ← hbb]
  refine (BC.out 18 _ _ _ _ _ _ D6.out).mono ?_
  rintro e w7 ⟨x, rfl, -, -, hD7, hg7'⟩
  obtain ⟨tb, rfl, htb, -⟩ := own_whereO T6.out rfl (by rw [TL.out]; decide)
  obtain ⟨lb, rfl, hlb, -⟩ := own_whereO L6.out rfl (by rw [LLH.out]; decide)
  have D7 := Lib.hid hD7
  have L7 : Hid (OwnI w7 w1.heap.size (some ⟨lb, 0, none⟩) cB l) := Lib.hid (own_back6 (own_dw L6.out hg7' (by have := S1.out; omega)) rfl)
  have T7 : Hid (OwnI w7 (w.heap.size + 1) (some ⟨tb, 0, none⟩) cA t) := Lib.hid (own_back6 (own_dw T6.out hg7' (Nat.lt_succ_of_lt hgw)) rfl)
  have K7 := Lib.hid ((hg7'.block bb hsz6 (by simp; omega)).trans K6.out)
  have R7 := Lib.hid ((hg7'.block w.heap.size (by omega) (by simp; omega)).trans R6.out)
  have hbt : tb < bb := (TF5.out tb rfl).2
  have hbl : lb < bb := (LF.out lb rfl).2
  have htl : tb < lb := by have := (TF.out tb rfl).2; omega
  have h7 : bb < w7.heap.size := Nat.lt_of_lt_of_le hsz6 hg7'.size
  have hCA := T7.out.cap_le; have hCB := L7.out.cap_le
  rw [TL.out] at hCA
  rw [LLH.out] at hCB
  have CA := Lib.hid hCA; have CB := Lib.hid hCB
  clear hD7 hg7' K6 D6 L6 T6 R6 LF TF5 TF hw6 hbb hsz6 R1 R2 R3 R4 hCA hCB T1
  obtain ⟨c0, c1, c2, c3, c4⟩ := cells5 K7.out
  obtain ⟨f0, f1, f2, f3, f4⟩ := frozen5 K7.out
  by_cases hx0 : x = 0
  · subst hx0
    have hS0 : w7.cell? ⟨bb, 0, none⟩ = some (.slice (some ⟨tb, 0, none⟩) 16 cA) ∧ NbH g A cap zs w0 bb w.heap.size 16 tb cA (w.heap.size + 1) w1.heap.size (.slice (some ⟨lb, 0, none⟩) 8 cB) (.int .i64 (k : Int)) (.bool (!x1)) (.bool (!x2)) 26 (.cells #[.slice none 0 0, .slice none 0 0, .int .i64 0, .bool false, .bool false] 26 (0, 0)) lb cB l w7 := ⟨c0, K7.out, R7.out, ⟨t, TL.out, T7.out⟩, L7.out, D7.out⟩
    have hS := nbs_drew hS0
    have PX : Hid (∀ (w0 w : World) (gl : Nat), Dw g A cap zs w0 w → w.heap[gl]? = some (.cells #[.int .i64 (-1), .int .i64 256] 3 (0, 0)) → gl ≠ g → Calls Try.prog 61 #[.pointer (some ⟨g, 0, none⟩), .slice (some ⟨gl, 0, none⟩) 2 2] w fun e w' => ∃ x : Int, e = .returned (.int .i64 x) ∧ x ∈ [-1, 256] ∧ Dw g A cap zs w0 w' ∧ w.grownBy w' (some g)) := Lib.hid (PC.out [-1, 256] (by simp) (by simp) g A cap zs)
    have n1 : g ≠ bb := by omega
    have n2' : g ≠ w.heap.size := by omega
    have n3 : g < w.heap.size + 1 := by omega
    have n4 : g < w1.heap.size := by have := S1.out; omega
    have n5 : bb ≠ tb := by omega
    have n6 : w.heap.size ≠ tb := by omega
    have n7 : lb ≠ tb := by omega
    have n8 : w0.heap.size ≤ tb := by omega
    have n9 : g < tb := by omega
    clear c1 c2 c3 c4 f0 f1 f2 f3 f4 D7 L7 T7 K7 R7
    go_wp2_with fail
    go_region_held3 (fun w' => w'.cell? ⟨bb, 0, none⟩ = some (.slice (some ⟨tb, 0, none⟩) 16 cA) ∧ NbH g A cap zs w0 bb w.heap.size 16 tb cA (w.heap.size + 1) w1.heap.size (.slice (some ⟨lb, 0, none⟩) 8 cB) (.int .i64 (k : Int)) (.bool (!x1)) (.bool (!x2)) 26 (.cells #[.slice none 0 0, .slice none 0 0, .int .i64 0, .bool false, .bool false] 26 (0, 0)) lb cB l w')
      (first | with_reducible assumption | (with_reducible refine nbs_drew ?_; with_reducible assumption) | (with_reducible refine nbs_alloc ?_ _; with_reducible assumption) | (with_reducible refine nbs_drew (nbs_alloc ?_ _); with_reducible assumption) | (exact nbs_set (by with_reducible assumption) _ _ n5 n6 n7 n8 n9) | fail)
      (first
        | (go_at_call 59; (with_reducible refine (BC.out 8 _ _ _ _ _ _ (nbs_dw (by with_reducible assumption))).mono ?_); rintro e w8 ⟨j, rfl, hj, -, hD8, hg8⟩; have hj1 : (j : Int) < 8 := hj (by decide); have hj2 : (j : Int) < 16 := (by omega); have hl8 := hD8.lt; (first | (have GL := Lib.hid ((hg8.block w7.heap.size (by simp) (by first | (simp; omega) | simp)).trans (heap_alloc_new _ _))) | skip); have S8 := nbs_call (by with_reducible assumption) hg8 hD8 n1 n2' n3 n4; clear hj hD8 hg8)
        | (go_at_call 61; (first | (with_reducible refine (PX.out _ _ _ (nbs_dw (by with_reducible assumption)) (heap_alloc_new _ _) (by first | omega | (simp; omega) | simp)).mono ?_) | (with_reducible refine (PX.out _ _ _ (nbs_dw (by with_reducible assumption)) GL.out (by omega)).mono ?_)); rintro e w9 ⟨z, rfl, -, hD9, hg9⟩; have S9 := nbs_call (by with_reducible assumption) hg9 hD9 n1 n2' n3 n4; obtain ⟨fz, u0, cj⟩ := nbs_cell S9 (show j < 16 by omega); have S9H := Lib.hid S9; clear hD9 hg9)
        | fail)
    all_goals
      have SF := Lib.hid (nbs_set S9H.out j z n5 n6 n7 n8 n9)
      obtain ⟨wF, hwF⟩ : ∃ wF, wF = w9.setCell ⟨tb, j, none⟩ (.int .i64 z) := ⟨_, rfl⟩
      rw [← hwF] at SF ⊢
      obtain ⟨-, kF, rF, ⟨tF, htF, oF⟩, lF, dF⟩ := SF.out
      have KF := Lib.hid kF; have RF := Lib.hid rF; have TF := Lib.hid oF; have LF := Lib.hid lF; have DF := Lib.hid dF; have TLF := Lib.hid htF
      clear fz cj S9 hwF kF rF oF lF dF htF hS0 hS c0
      obtain ⟨c0, c1, c2, c3, c4⟩ := cells5 KF.out
      have RT := Lib.hid (RowOff.own TF.out (by rw [TLF.out]; decide) (by rw [TLF.out]; decide))
      have RL := Lib.hid ((RowOff.own LF.out (by rw [LLH.out]; decide) (by rw [LLH.out]; decide)).low S1.out)
      obtain ⟨r0, r1, r2, r3, r4⟩ := cells5 RF.out
      obtain ⟨z0, z1, z2, z3, z4⟩ := frozen5 RF.out
      have gb := grown_five wF w.heap.size (.slice (some ⟨tb, 0, none⟩) 16 cA) (.slice (some ⟨lb, 0, none⟩) 8 cB) (.int .i64 (k : Int)) (.bool (!x1)) (.bool (!x2))
      obtain ⟨e0, e1, e2, e3, e4⟩ := cells5 (put_five RF.out (.slice (some ⟨tb, 0, none⟩) 16 cA) (.slice (some ⟨lb, 0, none⟩) 8 cB) (.int .i64 (k : Int)) (.bool (!x1)) (.bool (!x2)))
      have ot := Lib.hid (RT.out.grown gb (Nat.lt_succ_self _))
      have ol := Lib.hid (RL.out.grown gb (Nat.lt_succ_self _))
      have dz := Lib.hid (dw_put5 DF.out HS0.out HGW.out (.slice (some ⟨tb, 0, none⟩) 16 cA) (.slice (some ⟨lb, 0, none⟩) 8 cB) (.int .i64 (k : Int)) (.bool (!x1)) (.bool (!x2)))
      clear gb
      go_wp2
      exact bodyPost_ret (v := .agg #[.slice (some ⟨tb, 0, none⟩) 16 cA, .slice (some ⟨lb, 0, none⟩) 8 cB, .int .i64 (k : Int), .bool (!x1), .bool (!x2)]) (by simp [results, Try.results69, go_sem, e0, e1, e2, e3, e4]) rfl ⟨tF, l, (k : Int), _, _, _, _, _, _, by rw [TLF.out, LLH.out], ot.out.low (Nat.le_succ _), ol.out.low (Nat.le_succ _), by rw [TLF.out]; exact CA.out, by rw [LLH.out]; exact CB.out, dz.out⟩
  · have q0 : ((x : Int) == 0) = false := by rw [beq_eq_false_iff_ne]; omega
    by_cases hx1 : x = 1
    · subst hx1
      have RT := Lib.hid (RowOff.own T7.out (by rw [TL.out]; decide) (by rw [TL.out]; decide))
      have RL := Lib.hid ((RowOff.own L7.out (by rw [LLH.out]; decide) (by rw [LLH.out]; decide)).low S1.out)
      have g8 := grown_cell w7 bb 1 (.slice (some ⟨lb, 1, none⟩) 7 (cB - 1))
      have hb8 : Below bb w7 (w7.setCell ⟨bb, 1, none⟩ (.slice (some ⟨lb, 1, none⟩) 7 (cB - 1))) := (Below.refl bb w7).setCell (p := ⟨bb, 1, none⟩) (Nat.le_refl _) _
      have K8 := Lib.hid (heap_setCell_same w7 bb 1 _ _ (.slice (some ⟨lb, 1, none⟩) 7 (cB - 1)) K7.out)
      have R8 := Lib.hid ((hb8.block w.heap.size hRb).trans R7.out)
      have D8 := Lib.hid (D7.out.set hs7 hg7 1 (.slice (some ⟨lb, 1, none⟩) 7 (cB - 1)))
      have RT8 := Lib.hid (RowOff.lift RT.out hb8 hbt)
      have RL8 := Lib.hid (RowOff.lift (RL.out.drop 1) hb8 hbl)
      have hcB := CB.out
      have HDL : Hid ((l.drop 1).length = 7) := Lib.hid (by rw [List.length_drop, LLH.out])
      skip
      obtain ⟨r0, r1, r2, r3, r4⟩ := cells5 R8.out
      obtain ⟨z0, z1, z2, z3, z4⟩ := frozen5 R8.out
      have gb := grown_five (w7.setCell ⟨bb, 1, none⟩ (.slice (some ⟨lb, 1, none⟩) 7 (cB - 1))) w.heap.size (.slice (some ⟨tb, 0, none⟩) 16 cA) (.slice (some ⟨lb, 1, none⟩) 7 (cB - 1)) (.int .i64 (k : Int)) (.bool (!x1)) (.bool (!x2))
      obtain ⟨e0, e1, e2, e3, e4⟩ := cells5 (put_five R8.out (.slice (some ⟨tb, 0, none⟩) 16 cA) (.slice (some ⟨lb, 1, none⟩) 7 (cB - 1)) (.int .i64 (k : Int)) (.bool (!x1)) (.bool (!x2)))
      have ot := Lib.hid (RT8.out.grown gb (Nat.lt_succ_self _))
      have ol := Lib.hid (RL8.out.grown gb (Nat.lt_succ_self _))
      have dz := Lib.hid (dw_put5 D8.out HS0.out HGW.out (.slice (some ⟨tb, 0, none⟩) 16 cA) (.slice (some ⟨lb, 1, none⟩) 7 (cB - 1)) (.int .i64 (k : Int)) (.bool (!x1)) (.bool (!x2)))
      clear gb
      go_wp2
      exact bodyPost_ret (v := .agg #[.slice (some ⟨tb, 0, none⟩) 16 cA, .slice (some ⟨lb, 1, none⟩) 7 (cB - 1), .int .i64 (k : Int), .bool (!x1), .bool (!x2)]) (by simp [results, Try.results69, go_sem, e0, e1, e2, e3, e4]) rfl ⟨t, l.drop 1, (k : Int), _, _, _, _, _, _, by rw [TL.out, HDL.out], ot.out.low (Nat.le_succ _), ol.out.low (Nat.le_succ _), by rw [TL.out]; exact CA.out, by rw [HDL.out]; exact (by have := CB.out; omega), dz.out⟩
    · have q1 : ((x : Int) == 1) = false := by rw [beq_eq_false_iff_ne]; omega
      by_cases hx2 : x = 2
      · subst hx2
        have D7a := Lib.hid (D7.out.alloc (.cells #[.int .i64 (-1), .int .i64 256] 3))
        have T7a := Lib.hid (T7.out.alloc (.cells #[.int .i64 (-1), .int .i64 256] 3)); have L7a := Lib.hid (L7.out.alloc (.cells #[.int .i64 (-1), .int .i64 256] 3))
        have hne : w7.heap.size ≠ g := by omega
        have PX := Lib.hid (PC.out [-1, 256] (by simp) (by simp) g A cap zs)
        have K7a := Lib.hid ((Below.heap_alloc w7 (.cells #[.int .i64 (-1), .int .i64 256] 3) bb h7).trans K7.out)
        have R7a := Lib.hid ((Below.heap_alloc w7 (.cells #[.int .i64 (-1), .int .i64 256] 3) w.heap.size (by omega)).trans R7.out)
        go_wp2_with fail
        refine (PX.out _ _ w7.heap.size D7a.out (heap_alloc_new w7 _) hne).mono ?_
        rintro e w8 ⟨z, rfl, -, hD8, hg8⟩
        have hz8 : w7.heap.size + 1 ≤ w8.heap.size := by have := hg8.size; simpa using this
        have K8 := Lib.hid ((hg8.block bb (by simp; omega) (by simp; omega)).trans K7a.out)
        have R8 := Lib.hid ((hg8.block w.heap.size (by simp; omega) (by simp; omega)).trans R7a.out)
        have T8 : Hid (OwnI w8 (w.heap.size + 1) (some ⟨tb, 0, none⟩) cA t) := Lib.hid (own_back6 (own_dw T7a.out hg8 (Nat.lt_succ_of_lt hgw)) rfl)
        have L8 : Hid (OwnI w8 w1.heap.size (some ⟨lb, 0, none⟩) cB l) := Lib.hid (own_back6 (own_dw L7a.out hg8 (by have := S1.out; omega)) rfl)
        have RT := Lib.hid (RowOff.own T8.out (by rw [TL.out]; decide) (by rw [TL.out]; decide))
        have RL := Lib.hid ((RowOff.own L8.out (by rw [LLH.out]; decide) (by rw [LLH.out]; decide)).low S1.out)
        have hb9 : Below bb w8 (w8.setCell ⟨bb, 2, none⟩ (.int .i64 z)) := (Below.refl bb w8).setCell (p := ⟨bb, 2, none⟩) (Nat.le_refl _) _
        have K9 := Lib.hid (heap_setCell_same w8 bb 2 _ _ (.int .i64 z) K8.out)
        have R9 := Lib.hid ((hb9.block w.heap.size hRb).trans R8.out)
        have D9 := Lib.hid (hD8.set hs7 hg7 2 (.int .i64 z))
        have RT9 := Lib.hid (RowOff.lift RT.out hb9 hbt)
        have RL9 := Lib.hid (RowOff.lift RL.out hb9 hbl)
        clear c0 c1 c2 c3 c4 f0 f1 f2 f3 f4 hD8 hg8
        obtain ⟨c0, c1, c2, c3, c4⟩ := cells5 K8.out
        obtain ⟨f0, f1, f2, f3, f4⟩ := frozen5 K8.out
        obtain ⟨r0, r1, r2, r3, r4⟩ := cells5 R9.out
        obtain ⟨z0, z1, z2, z3, z4⟩ := frozen5 R9.out
        have gb := grown_five (w8.setCell ⟨bb, 2, none⟩ (.int .i64 z)) w.heap.size (.slice (some ⟨tb, 0, none⟩) 16 cA) (.slice (some ⟨lb, 0, none⟩) 8 cB) (.int .i64 z) (.bool (!x1)) (.bool (!x2))
        obtain ⟨e0, e1, e2, e3, e4⟩ := cells5 (put_five R9.out (.slice (some ⟨tb, 0, none⟩) 16 cA) (.slice (some ⟨lb, 0, none⟩) 8 cB) (.int .i64 z) (.bool (!x1)) (.bool (!x2)))
        have ot := Lib.hid (RT9.out.grown gb (Nat.lt_succ_self _))
        have ol := Lib.hid (RL9.out.grown gb (Nat.lt_succ_self _))
        have dz := Lib.hid (dw_put5 D9.out HS0.out HGW.out (.slice (some ⟨tb, 0, none⟩) 16 cA) (.slice (some ⟨lb, 0, none⟩) 8 cB) (.int .i64 z) (.bool (!x1)) (.bool (!x2)))
        clear gb
        go_wp2
        exact bodyPost_ret (v := .agg #[.slice (some ⟨tb, 0, none⟩) 16 cA, .slice (some ⟨lb, 0, none⟩) 8 cB, .int .i64 z, .bool (!x1), .bool (!x2)]) (by simp [results, Try.results69, go_sem, e0, e1, e2, e3, e4]) rfl ⟨t, l, z, _, _, _, _, _, _, by rw [TL.out, LLH.out], ot.out.low (Nat.le_succ _), ol.out.low (Nat.le_succ _), by rw [TL.out]; exact CA.out, by rw [LLH.out]; exact CB.out, dz.out⟩
      · have q2 : ((x : Int) == 2) = false := by rw [beq_eq_false_iff_ne]; omega
        have RT := Lib.hid (RowOff.own T7.out (by rw [TL.out]; decide) (by rw [TL.out]; decide))
        have RL := Lib.hid ((RowOff.own L7.out (by rw [LLH.out]; decide) (by rw [LLH.out]; decide)).low S1.out)
        obtain ⟨r0, r1, r2, r3, r4⟩ := cells5 R7.out
        obtain ⟨z0, z1, z2, z3, z4⟩ := frozen5 R7.out
        have gb := grown_five w7 w.heap.size (.slice (some ⟨tb, 0, none⟩) 16 cA) (.slice (some ⟨lb, 0, none⟩) 8 cB) (.int .i64 (k : Int)) (.bool (!x1)) (.bool (!x2))
        obtain ⟨e0, e1, e2, e3, e4⟩ := cells5 (put_five R7.out (.slice (some ⟨tb, 0, none⟩) 16 cA) (.slice (some ⟨lb, 0, none⟩) 8 cB) (.int .i64 (k : Int)) (.bool (!x1)) (.bool (!x2)))
        have ot := Lib.hid (RT.out.grown gb (Nat.lt_succ_self _))
        have ol := Lib.hid (RL.out.grown gb (Nat.lt_succ_self _))
        have dz := Lib.hid (dw_put5 D7.out HS0.out HGW.out (.slice (some ⟨tb, 0, none⟩) 16 cA) (.slice (some ⟨lb, 0, none⟩) 8 cB) (.int .i64 (k : Int)) (.bool (!x1)) (.bool (!x2)))
        clear gb
        go_wp2
        exact bodyPost_ret (v := .agg #[.slice (some ⟨tb, 0, none⟩) 16 cA, .slice (some ⟨lb, 0, none⟩) 8 cB, .int .i64 (k : Int), .bool (!x1), .bool (!x2)]) (by simp [results, Try.results69, go_sem, e0, e1, e2, e3, e4]) rfl ⟨t, l, (k : Int), _, _, _, _, _, _, by rw [TL.out, LLH.out], ot.out.low (Nat.le_succ _), ol.out.low (Nat.le_succ _), by rw [TL.out]; exact CA.out, by rw [LLH.out]; exact CB.out, dz.out⟩
end Go.Proofs.Ytjgbenhjafgimaa

namespace Go.Proofs.Ytjgbenhjafgimaa
open Go.RowKit
set_option linter.unusedVariables false

/-- A block holds some neighbourhood, whose rows lie past a place. -/
def NbA (g : Nat) (A : Option Addr) (cap : Nat) (zs : List Int) (w0 : World) (B R : Nat) (w : World) : Prop :=
  (∃ (t l : List Int) (k : Int) (b1 b2 : Bool) (TA LB : Option Addr) (cA cB : Nat), w.heap[R]? = some (.cells #[.slice TA t.length cA, .slice LB l.length cB, .int .i64 k, .bool b1, .bool b2] 26 (0, 0)) ∧ RowOff B w TA t ∧ RowOff B w LB l ∧ t.length ≤ cA ∧ l.length ≤ cB) ∧ Dw g A cap zs w0 w ∧ Lies w R A zs
/-- One block holds a neighbourhood that is known, another one holds some. -/
def NbW (g : Nat) (A : Option Addr) (cap : Nat) (zs : List Int) (w0 : World) (B bb R : Nat) (t l : List Int) (k : Int) (b1 b2 : Bool) (TA LB : Option Addr) (cA cB : Nat) (w : World) : Prop :=
  w.heap[bb]? = some (.cells #[.slice TA t.length cA, .slice LB l.length cB, .int .i64 k, .bool b1, .bool b2] 26 (0, 0)) ∧ RowOff B w TA t ∧ RowOff B w LB l ∧ NbA g A cap zs w0 B R w
theorem heap_alloc_at {w : World} {o : Obj} {k : Nat} (hk : k = w.heap.size) : (w.alloc o).heap[k]? = some o := by subst hk; exact heap_alloc_new w o
section
variable {g : Nat} {A : Option Addr} {cap : Nat} {zs : List Int} {w0 : World} {B bb R : Nat} {t l : List Int} {k : Int} {b1 b2 : Bool} {TA LB : Option Addr} {cA cB : Nat} {w w' : World}
theorem NbA.call (h : NbA g A cap zs w0 B R w) (hg : w.grownBy w' (some g)) (hD : Dw g A cap zs w0 w') (h2 : g ≠ R) (h3 : g < B) : NbA g A cap zs w0 B R w' := by
  obtain ⟨⟨t, l, k, b1, b2, TA, LB, cA, cB, hR, rT, rL, e1, e2⟩, h4, h5⟩ := h
  refine ⟨⟨t, l, k, b1, b2, TA, LB, cA, cB, (hg.block R (heap_lt hR) (by simp; omega)).trans hR, rT.grown hg h3, rL.grown hg h3, e1, e2⟩, hD, ?_⟩
  by_cases hgR : g < R
  · obtain ⟨i, x, hC, _⟩ := hD
    exact hC.lies.mono (Nat.le_of_lt hgR)
  · exact h5.kept fun j hj => hg.block j (by have := heap_lt hR; omega) (by simp; omega)
theorem NbA.alloc (h : NbA g A cap zs w0 B R w) (o : Obj) : NbA g A cap zs w0 B R (w.alloc o) := by
  obtain ⟨⟨t, l, k, b1, b2, TA, LB, cA, cB, hR, rT, rL, e1, e2⟩, h4, h5⟩ := h
  exact ⟨⟨t, l, k, b1, b2, TA, LB, cA, cB, (Below.heap_alloc _ _ _ (heap_lt hR)).trans hR, rT.alloc o, rL.alloc o, e1, e2⟩, h4.alloc o, h5.kept fun j hj => Below.heap_alloc _ _ _ (by have := heap_lt hR; omega)⟩
theorem NbA.drew (h : NbA g A cap zs w0 B R w) : NbA g A cap zs w0 B R w.drew := by
  obtain ⟨⟨t, l, k, b1, b2, TA, LB, cA, cB, hR, rT, rL, e1, e2⟩, h4, h5⟩ := h
  exact ⟨⟨t, l, k, b1, b2, TA, LB, cA, cB, hR, rT, rL, e1, e2⟩, h4.drew, h5⟩
theorem nbw_of (h : NbW g A cap zs w0 B bb R t l k b1 b2 TA LB cA cB w) : w.cell? ⟨bb, 0, none⟩ = some (.slice TA t.length cA) ∧ w.cell? ⟨bb, 1, none⟩ = some (.slice LB l.length cB) ∧ w.cell? ⟨bb, 2, none⟩ = some (.int .i64 k) ∧ w.cell? ⟨bb, 3, none⟩ = some (.bool b1) ∧ w.cell? ⟨bb, 4, none⟩ = some (.bool b2) ∧ NbW g A cap zs w0 B bb R t l k b1 b2 TA LB cA cB w := by
  obtain ⟨c0, c1, c2, c3, c4⟩ := cells5 h.1
  exact ⟨c0, c1, c2, c3, c4, h⟩
theorem nbw_in (h : w.cell? ⟨bb, 0, none⟩ = some (.slice TA t.length cA) ∧ w.cell? ⟨bb, 1, none⟩ = some (.slice LB l.length cB) ∧ w.cell? ⟨bb, 2, none⟩ = some (.int .i64 k) ∧ w.cell? ⟨bb, 3, none⟩ = some (.bool b1) ∧ w.cell? ⟨bb, 4, none⟩ = some (.bool b2) ∧ NbW g A cap zs w0 B bb R t l k b1 b2 TA LB cA cB w) : NbW g A cap zs w0 B bb R t l k b1 b2 TA LB cA cB w := h.2.2.2.2.2
theorem nbw_drew (h : w.cell? ⟨bb, 0, none⟩ = some (.slice TA t.length cA) ∧ w.cell? ⟨bb, 1, none⟩ = some (.slice LB l.length cB) ∧ w.cell? ⟨bb, 2, none⟩ = some (.int .i64 k) ∧ w.cell? ⟨bb, 3, none⟩ = some (.bool b1) ∧ w.cell? ⟨bb, 4, none⟩ = some (.bool b2) ∧ NbW g A cap zs w0 B bb R t l k b1 b2 TA LB cA cB w) : w.drew.cell? ⟨bb, 0, none⟩ = some (.slice TA t.length cA) ∧ w.drew.cell? ⟨bb, 1, none⟩ = some (.slice LB l.length cB) ∧ w.drew.cell? ⟨bb, 2, none⟩ = some (.int .i64 k) ∧ w.drew.cell? ⟨bb, 3, none⟩ = some (.bool b1) ∧ w.drew.cell? ⟨bb, 4, none⟩ = some (.bool b2) ∧ NbW g A cap zs w0 B bb R t l k b1 b2 TA LB cA cB w.drew := by
  obtain ⟨h1, h2, h3, h4⟩ := nbw_in h
  exact nbw_of ⟨h1, h2, h3, h4.drew⟩
theorem nbw_alloc (h : w.cell? ⟨bb, 0, none⟩ = some (.slice TA t.length cA) ∧ w.cell? ⟨bb, 1, none⟩ = some (.slice LB l.length cB) ∧ w.cell? ⟨bb, 2, none⟩ = some (.int .i64 k) ∧ w.cell? ⟨bb, 3, none⟩ = some (.bool b1) ∧ w.cell? ⟨bb, 4, none⟩ = some (.bool b2) ∧ NbW g A cap zs w0 B bb R t l k b1 b2 TA LB cA cB w) (o : Obj) : (w.alloc o).cell? ⟨bb, 0, none⟩ = some (.slice TA t.length cA) ∧ (w.alloc o).cell? ⟨bb, 1, none⟩ = some (.slice LB l.length cB) ∧ (w.alloc o).cell? ⟨bb, 2, none⟩ = some (.int .i64 k) ∧ (w.alloc o).cell? ⟨bb, 3, none⟩ = some (.bool b1) ∧ (w.alloc o).cell? ⟨bb, 4, none⟩ = some (.bool b2) ∧ NbW g A cap zs w0 B bb R t l k b1 b2 TA LB cA cB (w.alloc o) := by
  obtain ⟨h1, h2, h3, h4⟩ := nbw_in h
  exact nbw_of ⟨(Below.heap_alloc _ _ _ (heap_lt h1)).trans h1, h2.alloc o, h3.alloc o, h4.alloc o⟩
theorem nbw_dw (h : w.cell? ⟨bb, 0, none⟩ = some (.slice TA t.length cA) ∧ w.cell? ⟨bb, 1, none⟩ = some (.slice LB l.length cB) ∧ w.cell? ⟨bb, 2, none⟩ = some (.int .i64 k) ∧ w.cell? ⟨bb, 3, none⟩ = some (.bool b1) ∧ w.cell? ⟨bb, 4, none⟩ = some (.bool b2) ∧ NbW g A cap zs w0 B bb R t l k b1 b2 TA LB cA cB w) : Dw g A cap zs w0 w := (nbw_in h).2.2.2.2.1
theorem nbw_call (h : w.cell? ⟨bb, 0, none⟩ = some (.slice TA t.length cA) ∧ w.cell? ⟨bb, 1, none⟩ = some (.slice LB l.length cB) ∧ w.cell? ⟨bb, 2, none⟩ = some (.int .i64 k) ∧ w.cell? ⟨bb, 3, none⟩ = some (.bool b1) ∧ w.cell? ⟨bb, 4, none⟩ = some (.bool b2) ∧ NbW g A cap zs w0 B bb R t l k b1 b2 TA LB cA cB w) (hg : w.grownBy w' (some g)) (hD : Dw g A cap zs w0 w') (n1 : g ≠ bb) (n2 : g ≠ R) (n3 : g < B) : w'.cell? ⟨bb, 0, none⟩ = some (.slice TA t.length cA) ∧ w'.cell? ⟨bb, 1, none⟩ = some (.slice LB l.length cB) ∧ w'.cell? ⟨bb, 2, none⟩ = some (.int .i64 k) ∧ w'.cell? ⟨bb, 3, none⟩ = some (.bool b1) ∧ w'.cell? ⟨bb, 4, none⟩ = some (.bool b2) ∧ NbW g A cap zs w0 B bb R t l k b1 b2 TA LB cA cB w' := by
  obtain ⟨h1, h2, h3, h4⟩ := nbw_in h
  exact nbw_of ⟨(hg.block bb (heap_lt h1) (by simp; omega)).trans h1, h2.grown hg n3, h3.grown hg n3, h4.call hg hD n2 n3⟩
theorem nbw_put (h : w.cell? ⟨bb, 0, none⟩ = some (.slice TA t.length cA) ∧ w.cell? ⟨bb, 1, none⟩ = some (.slice LB l.length cB) ∧ w.cell? ⟨bb, 2, none⟩ = some (.int .i64 k) ∧ w.cell? ⟨bb, 3, none⟩ = some (.bool b1) ∧ w.cell? ⟨bb, 4, none⟩ = some (.bool b2) ∧ NbW g A cap zs w0 B bb R t l k b1 b2 TA LB cA cB w) (hA : t.length ≤ cA) (hB : l.length ≤ cB) (n1 : bb ≠ R) (n2 : R < B) (n3 : w0.heap.size ≤ R) (n4 : R ≠ g) : (((((w.setCell ⟨R, 0, none⟩ (.slice TA t.length cA)).setCell ⟨R, 1, none⟩ (.slice LB l.length cB)).setCell ⟨R, 2, none⟩ (.int .i64 k)).setCell ⟨R, 3, none⟩ (.bool b1)).setCell ⟨R, 4, none⟩ (.bool b2)).cell? ⟨bb, 0, none⟩ = some (.slice TA t.length cA) ∧ (((((w.setCell ⟨R, 0, none⟩ (.slice TA t.length cA)).setCell ⟨R, 1, none⟩ (.slice LB l.length cB)).setCell ⟨R, 2, none⟩ (.int .i64 k)).setCell ⟨R, 3, none⟩ (.bool b1)).setCell ⟨R, 4, none⟩ (.bool b2)).cell? ⟨bb, 1, none⟩ = some (.slice LB l.length cB) ∧ (((((w.setCell ⟨R, 0, none⟩ (.slice TA t.length cA)).setCell ⟨R, 1, none⟩ (.slice LB l.length cB)).setCell ⟨R, 2, none⟩ (.int .i64 k)).setCell ⟨R, 3, none⟩ (.bool b1)).setCell ⟨R, 4, none⟩ (.bool b2)).cell? ⟨bb, 2, none⟩ = some (.int .i64 k) ∧ (((((w.setCell ⟨R, 0, none⟩ (.slice TA t.length cA)).setCell ⟨R, 1, none⟩ (.slice LB l.length cB)).setCell ⟨R, 2, none⟩ (.int .i64 k)).setCell ⟨R, 3, none⟩ (.bool b1)).setCell ⟨R, 4, none⟩ (.bool b2)).cell? ⟨bb, 3, none⟩ = some (.bool b1) ∧ (((((w.setCell ⟨R, 0, none⟩ (.slice TA t.length cA)).setCell ⟨R, 1, none⟩ (.slice LB l.length cB)).setCell ⟨R, 2, none⟩ (.int .i64 k)).setCell ⟨R, 3, none⟩ (.bool b1)).setCell ⟨R, 4, none⟩ (.bool b2)).cell? ⟨bb, 4, none⟩ = some (.bool b2) ∧ NbW g A cap zs w0 B bb R t l k b1 b2 TA LB cA cB (((((w.setCell ⟨R, 0, none⟩ (.slice TA t.length cA)).setCell ⟨R, 1, none⟩ (.slice LB l.length cB)).setCell ⟨R, 2, none⟩ (.int .i64 k)).setCell ⟨R, 3, none⟩ (.bool b1)).setCell ⟨R, 4, none⟩ (.bool b2)) := by
  obtain ⟨h1, h2, h3, ⟨⟨t', l', k', b1', b2', TA', LB', cA', cB', hR, rT, rL, e1, e2⟩, h4, h5⟩⟩ := nbw_in h
  have gf := grown_five w R (.slice TA t.length cA) (.slice LB l.length cB) (.int .i64 k) (.bool b1) (.bool b2)
  have hp := put_five hR (.slice TA t.length cA) (.slice LB l.length cB) (.int .i64 k) (.bool b1) (.bool b2)
  obtain ⟨wp, hwp⟩ : ∃ wp, wp = (((((w.setCell ⟨R, 0, none⟩ (.slice TA t.length cA)).setCell ⟨R, 1, none⟩ (.slice LB l.length cB)).setCell ⟨R, 2, none⟩ (.int .i64 k)).setCell ⟨R, 3, none⟩ (.bool b1)).setCell ⟨R, 4, none⟩ (.bool b2)) := ⟨_, rfl⟩
  rw [← hwp] at gf hp ⊢
  have hk : ∀ j, j ≠ R → j < w.heap.size → wp.heap[j]? = w.heap[j]? := fun j hj hl => gf.block j hl (by simp; omega)
  obtain ⟨i, x, hC, hg0⟩ := h4
  have hgl := hC.lt
  have hRl := heap_lt hR
  have hl2 : Lies wp R A zs := h5.kept fun j hj => hk j (by omega) (by omega)
  have hl3 : Lies wp g A zs := by
    by_cases hgR : g < R
    · exact hC.lies.kept fun j hj => hk j (by omega) (by omega)
    · exact hl2.mono (by omega)
  exact nbw_of ⟨(hk bb n1 (heap_lt h1)).trans h1, h2.grown gf n2, h3.grown gf n2, ⟨t, l, k, b1, b2, TA, LB, cA, cB, hp, h2.grown gf n2, h3.grown gf n2, hA, hB⟩, ⟨i, x, ⟨hC.few, hC.le, (hk g (Ne.symm n4) hgl).trans hC.cur, hl3⟩, grown_own hg0 gf fun j hj => by obtain rfl := Option.some.inj hj; exact n3⟩, hl2⟩
theorem nbw_res (h : w.cell? ⟨bb, 0, none⟩ = some (.slice TA t.length cA) ∧ w.cell? ⟨bb, 1, none⟩ = some (.slice LB l.length cB) ∧ w.cell? ⟨bb, 2, none⟩ = some (.int .i64 k) ∧ w.cell? ⟨bb, 3, none⟩ = some (.bool b1) ∧ w.cell? ⟨bb, 4, none⟩ = some (.bool b2) ∧ NbW g A cap zs w0 B bb R t l k b1 b2 TA LB cA cB w) : NbA g A cap zs w0 B R w := (nbw_in h).2.2.2
theorem nbw_cells (h : w.cell? ⟨bb, 0, none⟩ = some (.slice TA t.length cA) ∧ w.cell? ⟨bb, 1, none⟩ = some (.slice LB l.length cB) ∧ w.cell? ⟨bb, 2, none⟩ = some (.int .i64 k) ∧ w.cell? ⟨bb, 3, none⟩ = some (.bool b1) ∧ w.cell? ⟨bb, 4, none⟩ = some (.bool b2) ∧ NbW g A cap zs w0 B bb R t l k b1 b2 TA LB cA cB w) : ∃ u0 u1 u2 u3 u4 : Value, w.heap[R]? = some (.cells #[u0, u1, u2, u3, u4] 26 (0, 0)) := by
  obtain ⟨⟨t, l, k, b1, b2, TA, LB, cA, cB, hR, _⟩, _⟩ := nbw_res h
  exact ⟨_, _, _, _, _, hR⟩
end

theorem pick_range {y : Int} (h : y ∈ ([4, 8, 5, 0] : List Int)) : 0 ≤ y ∧ y ≤ 8 := by
  simp only [List.mem_cons, List.mem_nil_iff, or_false] at h
  omega
set_option maxRecDepth 100000 in
set_option maxHeartbeats 8000000 in
theorem l14draw_at (A : Option Addr) (cap : Nat) (zs : List Int) (w : World) (g : Nat) (h : Dw g A cap zs w w) :
    Calls Try.prog 38 #[.pointer (some ⟨g, 0, none⟩)] w fun e w' => ∃ (t l : List Int) (k : Int) (b1 b2 : Bool) (TA LB : Option Addr) (cA cB : Nat) (m : Int), e = .returned (.tuple #[.agg #[.slice TA t.length cA, .slice LB l.length cB, .int .i64 k, .bool b1, .bool b2], .int .i64 m]) ∧ (0 ≤ m ∧ m ≤ 8) ∧ RowOff w.heap.size w' TA t ∧ RowOff w.heap.size w' LB l ∧ t.length ≤ cA ∧ l.length ≤ cB ∧ Dw g A cap zs w w' ∧ w.grownBy w' (some g) := by
  have hgw : g < w.heap.size := h.lt
  obtain ⟨w0, hw0⟩ : ∃ w0, w0 = w := ⟨_, rfl⟩
  have hs0 : w0.heap.size ≤ w.heap.size := by rw [hw0]; exact Nat.le_refl _
  have h : Dw g A cap zs w0 w := by rw [hw0]; exact h
  have grown_since : ∀ {w' : World}, g < w.heap.size → Dw g A cap zs w0 w' → w.grownBy w' (some g) := fun _ hd => by rw [← hw0]; exact hd.grown0
  have back : ∀ {w' : World}, Dw g A cap zs w0 w' → Dw g A cap zs w w' := fun hd => by rw [← hw0]; exact hd
  have BC := Lib.hid below_ex; have OC := Lib.hid once_ex; have PC := Lib.hid pick_ex
  have N4 := Lib.hid fun w0 w g h => l14nb_ex_4 A cap zs w0 w g h
  have N8 := Lib.hid fun w0 w g h => l14nb_ex_8 A cap zs w0 w g h
  have D0 := Lib.hid ((h.alloc (.cells #[.slice none 0 0, .slice none 0 0, .int .i64 0, .bool false, .bool false] 26)).alloc (.cells #[.int .i64 4, .int .i64 4, .int .i64 8] 3))
  have R0 := Lib.hid ((Below.heap_alloc (w.alloc (.cells #[.slice none 0 0, .slice none 0 0, .int .i64 0, .bool false, .bool false] 26)) (.cells #[.int .i64 4, .int .i64 4, .int .i64 8] 3) w.heap.size (by simp)).trans (heap_alloc_new w (.cells #[.slice none 0 0, .slice none 0 0, .int .i64 0, .bool false, .bool false] 26)))
  have P3 : Hid (∀ (w0 w : World) (gl : Nat), Dw g A cap zs w0 w → w.heap[gl]? = some (.cells #[.int .i64 4, .int .i64 4, .int .i64 8] 3 (0, 0)) → gl ≠ g → Calls Try.prog 61 #[.pointer (some ⟨g, 0, none⟩), .slice (some ⟨gl, 0, none⟩) 3 3] w fun e w' => ∃ x : Int, e = .returned (.int .i64 x) ∧ x ∈ ([4, 4, 8] : List Int) ∧ Dw g A cap zs w0 w' ∧ w.grownBy w' (some g)) := Lib.hid (PC.out [4, 4, 8] (by simp) (by simp) g A cap zs)
  have hz : ((w.alloc (.cells #[.slice none 0 0, .slice none 0 0, .int .i64 0, .bool false, .bool false] 26)).alloc (.cells #[.int .i64 4, .int .i64 4, .int .i64 8] 3)).heap.size = w.heap.size + 1 + 1 := by simp
  clear h
  go_enter Try.func38, Try.ntmps38
  go_wp2_with fail
  refine (P3.out _ _ (w.heap.size + 1) D0.out (heap_alloc_second w _ _) (by omega)).mono ?_
  rintro e w1 ⟨z, rfl, hzm, hD1, hg1⟩
  have D1 := Lib.hid hD1
  have S1 : Hid (w.heap.size + 1 + 1 ≤ w1.heap.size) := Lib.hid (by rw [← hz]; exact hg1.size)
  have R1 := Lib.hid ((hg1.block w.heap.size (by rw [hz]; omega) (by simp; omega)).trans R0.out)
  have hzc : z = 4 ∨ z = 8 := by
    simp only [List.mem_cons, List.mem_nil_iff, or_false] at hzm
    omega
  clear hw0
  clear hzm hD1 hg1 D0 R0 hz
  rcases hzc with rfl | rfl
  · skip
    go_wp2_with fail
    refine (N4.out _ _ _ D1.out.again).mono ?_
    rintro e w2 ⟨t, l, k, b1, b2, TA, LB, cA, cB, rfl, hT, hL, hcA, hcB, hD2⟩
    have hg2 := hD2.grown0
    have RT2 := Lib.hid hT; have RL2 := Lib.hid hL; have HCA := Lib.hid hcA; have HCB := Lib.hid hcB
    have D2 := Lib.hid (D1.out.trans hD2)
    have R2 := Lib.hid ((hg2.block w.heap.size (by have := S1.out; omega) (by simp; omega)).trans R1.out)
    have S2 := Lib.hid hg2.size
    clear hT hL hcA hcB hD2 hg2
    have D3 := Lib.hid (D2.out.alloc (.cells #[.slice TA t.length cA, .slice LB l.length cB, .int .i64 k, .bool b1, .bool b2] 26))
    have K3 := Lib.hid (heap_alloc_new w2 (.cells #[.slice TA t.length cA, .slice LB l.length cB, .int .i64 k, .bool b1, .bool b2] 26))
    have R3 := Lib.hid ((Below.heap_alloc w2 (.cells #[.slice TA t.length cA, .slice LB l.length cB, .int .i64 k, .bool b1, .bool b2] 26) w.heap.size (by have := S1.out; have := S2.out; omega)).trans R2.out)
    have RT3 := Lib.hid (RT2.out.alloc (.cells #[.slice TA t.length cA, .slice LB l.length cB, .int .i64 k, .bool b1, .bool b2] 26)); have RL3 := Lib.hid (RL2.out.alloc (.cells #[.slice TA t.length cA, .slice LB l.length cB, .int .i64 k, .bool b1, .bool b2] 26))
    go_wp2_with fail
    refine (OC.out 14 _ _ _ _ _ _ D3.out).mono ?_
    rintro e w4 ⟨x, rfl, hD4, hg4⟩
    obtain ⟨bb, hbb⟩ : ∃ bb, bb = w2.heap.size := ⟨_, rfl⟩
    have hs3 : (w2.alloc (.cells #[.slice TA t.length cA, .slice LB l.length cB, .int .i64 k, .bool b1, .bool b2] 26)).heap.size = bb + 1 := by rw [hbb]; simp
    have hgb : g < bb := by rw [hbb]; exact D2.out.lt
    have hK4 : w4.heap[bb]? = some (.cells #[.slice TA t.length cA, .slice LB l.length cB, .int .i64 k, .bool b1, .bool b2] 26 (0, 0)) := (hg4.block bb (by rw [hs3]; exact Nat.lt_succ_self _) (by simp; omega)).trans (by rw [hbb]; exact K3.out)
    have hR4 := (hg4.block w.heap.size (by rw [hs3]; have := S1.out; have := S2.out; omega) (by simp; omega)).trans R3.out
    have gB : g < w1.heap.size := D1.out.lt
    have RT4 := RT3.out.grown hg4 gB; have RL4 := RL3.out.grown hg4 gB
    have hb4 : bb < w4.heap.size := by have := hg4.size; rw [hs3] at this; omega
    have hLies : Lies w4 w.heap.size A zs := by obtain ⟨i, y, hC, _⟩ := hD4; exact hC.lies.mono (Nat.le_of_lt hgw)
    have n1 : g ≠ bb := by have := S2.out; omega
    have n2 : g ≠ w.heap.size := by omega
    have n3 : g < w1.heap.size := gB
    have n4 : bb ≠ w.heap.size := by have := S1.out; have := S2.out; omega
    have n5 : w.heap.size < w1.heap.size := by have := S1.out; omega
    have n6 : w0.heap.size ≤ w.heap.size := hs0
    have n7 : w.heap.size ≠ g := by omega
    have S0 : w4.cell? ⟨bb, 0, none⟩ = some (.slice TA t.length cA) ∧ w4.cell? ⟨bb, 1, none⟩ = some (.slice LB l.length cB) ∧ w4.cell? ⟨bb, 2, none⟩ = some (.int .i64 k) ∧ w4.cell? ⟨bb, 3, none⟩ = some (.bool b1) ∧ w4.cell? ⟨bb, 4, none⟩ = some (.bool b2) ∧ NbW g A cap zs w0 w1.heap.size bb w.heap.size t l k b1 b2 TA LB cA cB w4 := nbw_of ⟨hK4, RT4, RL4, ⟨[], [], 0, false, false, none, none, 0, 0, hR4, RowOff.nil _ _, RowOff.nil _ _, Nat.le_refl _, Nat.le_refl _⟩, hD4, hLies⟩
    have hR4l : w.heap.size < w4.heap.size := heap_lt hR4
    have hg4l : g < w4.heap.size := hD4.lt
    have K4 := Lib.hid hK4; have R4 := Lib.hid hR4
    clear hK4 hR4 RT4 RL4 hLies hD4 hg4 hs3 D1 R1 R2 R3 K3 D2 D3
    rw [← hbb]
    clear hbb
    obtain ⟨r0, r1, r2, r3, r4⟩ := cells5 R4.out
    obtain ⟨q0, q1, q2, q3, q4⟩ := frozen5 R4.out
    cases x with
    | true =>
      have S4 := nbw_drew S0
      have P4 : Hid (∀ (w0 w : World) (gl : Nat), Dw g A cap zs w0 w → w.heap[gl]? = some (.cells #[.int .i64 4, .int .i64 8, .int .i64 5, .int .i64 0] 3 (0, 0)) → gl ≠ g → Calls Try.prog 61 #[.pointer (some ⟨g, 0, none⟩), .slice (some ⟨gl, 0, none⟩) 4 4] w fun e w' => ∃ x : Int, e = .returned (.int .i64 x) ∧ x ∈ ([4, 8, 5, 0] : List Int) ∧ Dw g A cap zs w0 w' ∧ w.grownBy w' (some g)) := Lib.hid (PC.out [4, 8, 5, 0] (by simp) (by simp) g A cap zs)
      go_wp2_with fail
      go_region_held3 (fun w' => w'.cell? ⟨bb, 0, none⟩ = some (.slice TA t.length cA) ∧ w'.cell? ⟨bb, 1, none⟩ = some (.slice LB l.length cB) ∧ w'.cell? ⟨bb, 2, none⟩ = some (.int .i64 k) ∧ w'.cell? ⟨bb, 3, none⟩ = some (.bool b1) ∧ w'.cell? ⟨bb, 4, none⟩ = some (.bool b2) ∧ NbW g A cap zs w0 w1.heap.size bb w.heap.size t l k b1 b2 TA LB cA cB w')
        (first | with_reducible assumption | (with_reducible refine nbw_drew ?_; with_reducible assumption) | (with_reducible refine nbw_alloc ?_ _; with_reducible assumption) | (with_reducible refine nbw_drew (nbw_alloc ?_ _); with_reducible assumption) | (exact nbw_put (by with_reducible assumption) HCA.out HCB.out n4 n5 n6 n7) | (exact nbw_drew (nbw_put (by with_reducible assumption) HCA.out HCB.out n4 n5 n6 n7)) | fail)
        (first
          | (go_at_call 61; (refine (P4.out _ _ _ (nbw_dw (by with_reducible assumption)) (by first | exact heap_alloc_new _ _ | exact heap_alloc_at (by simp) | exact ((grown_five _ _ _ _ _ _ _).block _ (by simp) (by simp; omega)).trans (heap_alloc_new _ _)) (by omega)).mono ?_); rintro e w5 ⟨y, rfl, hy, hD5, hg5⟩; have S5 := nbw_call (by with_reducible assumption) hg5 hD5 n1 n2 n3; have S5H := Lib.hid S5; have hyr := pick_range hy; have HY := Lib.hid hyr; obtain ⟨u0, u1, u2, u3, u4, hu⟩ := nbw_cells S5; obtain ⟨r0', r1', r2', r3', r4'⟩ := cells5 hu; obtain ⟨q0', q1', q2', q3', q4'⟩ := frozen5 hu; clear hy hD5 hg5 hyr hu)
          | fail)
      all_goals
        have S5' := S5H.out
        go_wp2
        first
          | (have SF := S5'
             obtain ⟨⟨t', l', k', x1, x2, TA', LB', cA', cB', hR', rT', rL', hcA', hcB'⟩, hD', -⟩ := nbw_res SF
             obtain ⟨e0, e1, e2, e3, e4⟩ := cells5 hR'
             exact bodyPost_ret (v := .tuple #[.agg #[.slice TA' t'.length cA', .slice LB' l'.length cB', .int .i64 k', .bool x1, .bool x2], .int .i64 y]) (by simp [results, Try.results38, go_sem, e0, e1, e2, e3, e4]) rfl ⟨t', l', k', x1, x2, TA', LB', cA', cB', y, rfl, HY.out, rT'.low (Nat.le_of_lt n5), rL'.low (Nat.le_of_lt n5), hcA', hcB', back hD', grown_since hgw hD'⟩)
          | (have SF := nbw_put S5' HCA.out HCB.out n4 n5 n6 n7
             obtain ⟨⟨t', l', k', x1, x2, TA', LB', cA', cB', hR', rT', rL', hcA', hcB'⟩, hD', -⟩ := nbw_res SF
             obtain ⟨e0, e1, e2, e3, e4⟩ := cells5 hR'
             exact bodyPost_ret (v := .tuple #[.agg #[.slice TA' t'.length cA', .slice LB' l'.length cB', .int .i64 k', .bool x1, .bool x2], .int .i64 y]) (by simp [results, Try.results38, go_sem, e0, e1, e2, e3, e4]) rfl ⟨t', l', k', x1, x2, TA', LB', cA', cB', y, rfl, HY.out, rT'.low (Nat.le_of_lt n5), rL'.low (Nat.le_of_lt n5), hcA', hcB', back hD', grown_since hgw hD'⟩)
    | false =>
      have S0H := Lib.hid S0
      have SF := nbw_put S0H.out HCA.out HCB.out n4 n5 n6 n7
      have SFH := Lib.hid SF
      obtain ⟨c0, c1, c2, c3, c4⟩ := cells5 K4.out
      clear S0 SF
      go_wp2
      have SF := SFH.out
      obtain ⟨⟨t', l', k', x1, x2, TA', LB', cA', cB', hR', rT', rL', hcA', hcB'⟩, hD', -⟩ := nbw_res SF
      obtain ⟨e0, e1, e2, e3, e4⟩ := cells5 hR'
      exact bodyPost_ret (v := .tuple #[.agg #[.slice TA' t'.length cA', .slice LB' l'.length cB', .int .i64 k', .bool x1, .bool x2], .int .i64 4]) (by simp [results, Try.results38, go_sem, e0, e1, e2, e3, e4]) rfl ⟨t', l', k', x1, x2, TA', LB', cA', cB', 4, rfl, (by decide), rT'.low (Nat.le_of_lt n5), rL'.low (Nat.le_of_lt n5), hcA', hcB', back hD', grown_since hgw hD'⟩
  · skip
    go_wp2_with fail
    refine (N8.out _ _ _ D1.out.again).mono ?_
    rintro e w2 ⟨t, l, k, b1, b2, TA, LB, cA, cB, rfl, hT, hL, hcA, hcB, hD2⟩
    have hg2 := hD2.grown0
    have RT2 := Lib.hid hT; have RL2 := Lib.hid hL; have HCA := Lib.hid hcA; have HCB := Lib.hid hcB
    have D2 := Lib.hid (D1.out.trans hD2)
    have R2 := Lib.hid ((hg2.block w.heap.size (by have := S1.out; omega) (by simp; omega)).trans R1.out)
    have S2 := Lib.hid hg2.size
    clear hT hL hcA hcB hD2 hg2
    have D3 := Lib.hid (D2.out.alloc (.cells #[.slice TA t.length cA, .slice LB l.length cB, .int .i64 k, .bool b1, .bool b2] 26))
    have K3 := Lib.hid (heap_alloc_new w2 (.cells #[.slice TA t.length cA, .slice LB l.length cB, .int .i64 k, .bool b1, .bool b2] 26))
    have R3 := Lib.hid ((Below.heap_alloc w2 (.cells #[.slice TA t.length cA, .slice LB l.length cB, .int .i64 k, .bool b1, .bool b2] 26) w.heap.size (by have := S1.out; have := S2.out; omega)).trans R2.out)
    have RT3 := Lib.hid (RT2.out.alloc (.cells #[.slice TA t.length cA, .slice LB l.length cB, .int .i64 k, .bool b1, .bool b2] 26)); have RL3 := Lib.hid (RL2.out.alloc (.cells #[.slice TA t.length cA, .slice LB l.length cB, .int .i64 k, .bool b1, .bool b2] 26))
    go_wp2_with fail
    refine (OC.out 14 _ _ _ _ _ _ D3.out).mono ?_
    rintro e w4 ⟨x, rfl, hD4, hg4⟩
    obtain ⟨bb, hbb⟩ : ∃ bb, bb = w2.heap.size := ⟨_, rfl⟩
    have hs3 : (w2.alloc (.cells #[.slice TA t.length cA, .slice LB l.length cB, .int .i64 k, .bool b1, .bool b2] 26)).heap.size = bb + 1 := by rw [hbb]; simp
    have hgb : g < bb := by rw [hbb]; exact D2.out.lt
    have hK4 : w4.heap[bb]? = some (.cells #[.slice TA t.length cA, .slice LB l.length cB, .int .i64 k, .bool b1, .bool b2] 26 (0, 0)) := (hg4.block bb (by rw [hs3]; exact Nat.lt_succ_self _) (by simp; omega)).trans (by rw [hbb]; exact K3.out)
    have hR4 := (hg4.block w.heap.size (by rw [hs3]; have := S1.out; have := S2.out; omega) (by simp; omega)).trans R3.out
    have gB : g < w1.heap.size := D1.out.lt
    have RT4 := RT3.out.grown hg4 gB; have RL4 := RL3.out.grown hg4 gB
    have hb4 : bb < w4.heap.size := by have := hg4.size; rw [hs3] at this; omega
    have hLies : Lies w4 w.heap.size A zs := by obtain ⟨i, y, hC, _⟩ := hD4; exact hC.lies.mono (Nat.le_of_lt hgw)
    have n1 : g ≠ bb := by have := S2.out; omega
    have n2 : g ≠ w.heap.size := by omega
    have n3 : g < w1.heap.size := gB
    have n4 : bb ≠ w.heap.size := by have := S1.out; have := S2.out; omega
    have n5 : w.heap.size < w1.heap.size := by have := S1.out; omega
    have n6 : w0.heap.size ≤ w.heap.size := hs0
    have n7 : w.heap.size ≠ g := by omega
    have S0 : w4.cell? ⟨bb, 0, none⟩ = some (.slice TA t.length cA) ∧ w4.cell? ⟨bb, 1, none⟩ = some (.slice LB l.length cB) ∧ w4.cell? ⟨bb, 2, none⟩ = some (.int .i64 k) ∧ w4.cell? ⟨bb, 3, none⟩ = some (.bool b1) ∧ w4.cell? ⟨bb, 4, none⟩ = some (.bool b2) ∧ NbW g A cap zs w0 w1.heap.size bb w.heap.size t l k b1 b2 TA LB cA cB w4 := nbw_of ⟨hK4, RT4, RL4, ⟨[], [], 0, false, false, none, none, 0, 0, hR4, RowOff.nil _ _, RowOff.nil _ _, Nat.le_refl _, Nat.le_refl _⟩, hD4, hLies⟩
    have hR4l : w.heap.size < w4.heap.size := heap_lt hR4
    have hg4l : g < w4.heap.size := hD4.lt
    have K4 := Lib.hid hK4; have R4 := Lib.hid hR4
    clear hK4 hR4 RT4 RL4 hLies hD4 hg4 hs3 D1 R1 R2 R3 K3 D2 D3
    rw [← hbb]
    clear hbb
    obtain ⟨r0, r1, r2, r3, r4⟩ := cells5 R4.out
    obtain ⟨q0, q1, q2, q3, q4⟩ := frozen5 R4.out
    cases x with
    | true =>
      have S4 := nbw_drew S0
      have P4 : Hid (∀ (w0 w : World) (gl : Nat), Dw g A cap zs w0 w → w.heap[gl]? = some (.cells #[.int .i64 4, .int .i64 8, .int .i64 5, .int .i64 0] 3 (0, 0)) → gl ≠ g → Calls Try.prog 61 #[.pointer (some ⟨g, 0, none⟩), .slice (some ⟨gl, 0, none⟩) 4 4] w fun e w' => ∃ x : Int, e = .returned (.int .i64 x) ∧ x ∈ ([4, 8, 5, 0] : List Int) ∧ Dw g A cap zs w0 w' ∧ w.grownBy w' (some g)) := Lib.hid (PC.out [4, 8, 5, 0] (by simp) (by simp) g A cap zs)
      go_wp2_with fail
      go_region_held3 (fun w' => w'.cell? ⟨bb, 0, none⟩ = some (.slice TA t.length cA) ∧ w'.cell? ⟨bb, 1, none⟩ = some (.slice LB l.length cB) ∧ w'.cell? ⟨bb, 2, none⟩ = some (.int .i64 k) ∧ w'.cell? ⟨bb, 3, none⟩ = some (.bool b1) ∧ w'.cell? ⟨bb, 4, none⟩ = some (.bool b2) ∧ NbW g A cap zs w0 w1.heap.size bb w.heap.size t l k b1 b2 TA LB cA cB w')
        (first | with_reducible assumption | (with_reducible refine nbw_drew ?_; with_reducible assumption) | (with_reducible refine nbw_alloc ?_ _; with_reducible assumption) | (with_reducible refine nbw_drew (nbw_alloc ?_ _); with_reducible assumption) | (exact nbw_put (by with_reducible assumption) HCA.out HCB.out n4 n5 n6 n7) | (exact nbw_drew (nbw_put (by with_reducible assumption) HCA.out HCB.out n4 n5 n6 n7)) | fail)
        (first
          | (go_at_call 61; (refine (P4.out _ _ _ (nbw_dw (by with_reducible assumption)) (by first | exact heap_alloc_new _ _ | exact heap_alloc_at (by simp) | exact ((grown_five _ _ _ _ _ _ _).block _ (by simp) (by simp; omega)).trans (heap_alloc_new _ _)) (by omega)).mono ?_); rintro e w5 ⟨y, rfl, hy, hD5, hg5⟩; have S5 := nbw_call (by with_reducible assumption) hg5 hD5 n1 n2 n3; have S5H := Lib.hid S5; have hyr := pick_range hy; have HY := Lib.hid hyr; obtain ⟨u0, u1, u2, u3, u4, hu⟩ := nbw_cells S5; obtain ⟨r0', r1', r2', r3', r4'⟩ := cells5 hu; obtain ⟨q0', q1', q2', q3', q4'⟩ := frozen5 hu; clear hy hD5 hg5 hyr hu)
          | fail)
      all_goals
        have S5' := S5H.out
        go_wp2
        first
          | (have SF := S5'
             obtain ⟨⟨t', l', k', x1, x2, TA', LB', cA', cB', hR', rT', rL', hcA', hcB'⟩, hD', -⟩ := nbw_res SF
             obtain ⟨e0, e1, e2, e3, e4⟩ := cells5 hR'
             exact bodyPost_ret (v := .tuple #[.agg #[.slice TA' t'.length cA', .slice LB' l'.length cB', .int .i64 k', .bool x1, .bool x2], .int .i64 y]) (by simp [results, Try.results38, go_sem, e0, e1, e2, e3, e4]) rfl ⟨t', l', k', x1, x2, TA', LB', cA', cB', y, rfl, HY.out, rT'.low (Nat.le_of_lt n5), rL'.low (Nat.le_of_lt n5), hcA', hcB', back hD', grown_since hgw hD'⟩)
          | (have SF := nbw_put S5' HCA.out HCB.out n4 n5 n6 n7
             obtain ⟨⟨t', l', k', x1, x2, TA', LB', cA', cB', hR', rT', rL', hcA', hcB'⟩, hD', -⟩ := nbw_res SF
             obtain ⟨e0, e1, e2, e3, e4⟩ := cells5 hR'
             exact bodyPost_ret (v := .tuple #[.agg #[.slice TA' t'.length cA', .slice LB' l'.length cB', .int .i64 k', .bool x1, .bool x2], .int .i64 y]) (by simp [results, Try.results38, go_sem, e0, e1, e2, e3, e4]) rfl ⟨t', l', k', x1, x2, TA', LB', cA', cB', y, rfl, HY.out, rT'.low (Nat.le_of_lt n5), rL'.low (Nat.le_of_lt n5), hcA', hcB', back hD', grown_since hgw hD'⟩)
    | false =>
      have S0H := Lib.hid S0
      have SF := nbw_put S0H.out HCA.out HCB.out n4 n5 n6 n7
      have SFH := Lib.hid SF
      obtain ⟨c0, c1, c2, c3, c4⟩ := cells5 K4.out
      clear S0 SF
      go_wp2
      have SF := SFH.out
      obtain ⟨⟨t', l', k', x1, x2, TA', LB', cA', cB', hR', rT', rL', hcA', hcB'⟩, hD', -⟩ := nbw_res SF
      obtain ⟨e0, e1, e2, e3, e4⟩ := cells5 hR'
      exact bodyPost_ret (v := .tuple #[.agg #[.slice TA' t'.length cA', .slice LB' l'.length cB', .int .i64 k', .bool x1, .bool x2], .int .i64 8]) (by simp [results, Try.results38, go_sem, e0, e1, e2, e3, e4]) rfl ⟨t', l', k', x1, x2, TA', LB', cA', cB', 8, rfl, (by decide), rT'.low (Nat.le_of_lt n5), rL'.low (Nat.le_of_lt n5), hcA', hcB', back hD', grown_since hgw hD'⟩
end Go.Proofs.Ytjgbenhjafgimaa

namespace Go.Proofs.Ytjgbenhjafgimaa
open Go.RowKit
set_option linter.unusedVariables false

set_option maxRecDepth 100000 in
set_option maxHeartbeats 1000000 in
theorem l15mode_ex (A : Option Addr) (cap : Nat) (zs : List Int) (w0 w : World) (g : Nat) (h : Dw g A cap zs w0 w) :
    Calls Try.prog 39 #[.pointer (some ⟨g, 0, none⟩)] w fun e w' => ∃ y : Int, e = .returned (.int .i64 y) ∧ (-1 ≤ y ∧ y ≤ 6) ∧ Dw g A cap zs w0 w' ∧ w.grownBy w' (some g) := by
  have hgw : g < w.heap.size := h.lt
  have hne : w.heap.size ≠ g := by omega
  have PX := Lib.hid (pick_ex [0, 1, 2, 3, 4, 5, 0, 1, 2, 3, 4, 5, -1, 6] (by simp) (by simp) g A cap zs)
  have HD := Lib.hid (h.alloc (.cells #[.int .i64 0, .int .i64 1, .int .i64 2, .int .i64 3, .int .i64 4, .int .i64 5, .int .i64 0, .int .i64 1, .int .i64 2, .int .i64 3, .int .i64 4, .int .i64 5, .int .i64 (-1), .int .i64 6] 3))
  have GA := Lib.hid (World.grownBy_alloc w (.cells #[.int .i64 0, .int .i64 1, .int .i64 2, .int .i64 3, .int .i64 4, .int .i64 5, .int .i64 0, .int .i64 1, .int .i64 2, .int .i64 3, .int .i64 4, .int .i64 5, .int .i64 (-1), .int .i64 6] 3) (some g))
  clear h
  go_enter Try.func39, Try.ntmps39
  go_wp2_with fail
  refine (PX.out _ _ w.heap.size HD.out (heap_alloc_new w _) hne).mono ?_
  rintro e w1 ⟨y, rfl, hy, hD1, hg1⟩
  have hyr : -1 ≤ y ∧ y ≤ 6 := by
    simp only [List.mem_cons, List.mem_nil_iff, or_false] at hy
    omega
  have D1 := Lib.hid hD1; have G1 := Lib.hid (GA.out.trans hg1)
  clear hy hD1 hg1
  go_wp2
  go_ret
  exact ⟨y, rfl, hyr, D1.out, G1.out⟩

set_option maxRecDepth 100000 in
set_option maxHeartbeats 4000000 in
theorem drawsoftened_ex (A : Option Addr) (cap : Nat) (zs : List Int) (w : World) (hW : Code w A zs) :
    Calls Try.prog 22 #[.slice A zs.length cap] w fun e w' => ∃ (l : List Int) (A' : Option Addr) (c : Nat), e = .returned (.slice A' l.length c) ∧ l.length ≤ 11 ∧ Ints w' w'.heap.size A' l ∧ Below w.heap.size w w' := by
  have HN := Lib.hid (new_ex A cap zs w hW)
  have BC := Lib.hid below_ex; have OC := Lib.hid once_ex; have PC := Lib.hid pick_ex; have LC := Lib.hid l14line_ex
  clear hW
  go_enter Try.func22, Try.ntmps22
  go_wp2_with fail
  refine HN.out.mono ?_
  rintro e w1 ⟨rfl, hD1, hb1⟩
  have B1 := Lib.hid hb1; have D1 := Lib.hid hD1
  obtain ⟨g, hg⟩ : ∃ g, g = w.heap.size := ⟨_, rfl⟩
  have HG := Lib.hid hg
  rw [← hg] at D1
  clear hb1 hD1
  rw [← hg]
  clear hg
  go_wp2_with fail
  refine (BC.out 12 _ _ _ _ _ _ D1.out).mono ?_
  rintro e w2 ⟨n, rfl, hn, -, hD2, hg2⟩
  have hn1 : (n : Int) < 12 := hn (by decide)
  have D2 := Lib.hid hD2
  clear hn hD2 hg2
  go_wp2_with fail
  refine (LC.out n (by omega) _ _ _ _ _ _ D2.out).mono ?_
  rintro e w3 ⟨l, A3, c3, rfl, hll, hoL, hD3, hg3⟩
  have D3 := Lib.hid hD3; have O3 := Lib.hid hoL; have LL := Lib.hid hll
  have hgl2 : g < w2.heap.size := D2.out.lt
  clear hll hoL hD3 hg3
  by_cases h0 : n = 0
  · subst h0
    have I3 := Lib.hid (O3.out.ints (by rw [LL.out]; decide))
    have B3 := Lib.hid (B1.out.trans (D3.out.belowOf (by rw [HG.out]; exact Nat.le_refl _) B1.out.size))
    go_wp2
    go_ret
    exact ⟨l, A3, c3, by rw [LL.out]; rfl, by rw [LL.out]; decide, I3.out, B3.out⟩
  · have d1 : decide ((0 : Int) < (n : Int)) = true := by simp; omega
    go_wp2_with fail
    refine (OC.out 6 _ _ _ _ _ _ D3.out).mono ?_
    rintro e w4 ⟨x, rfl, hD4, hg4⟩
    have D4 := Lib.hid hD4; have O4 := Lib.hid (own_back6 (own_dw O3.out hg4 hgl2) rfl)
    clear hD4 hg4
    cases x with
    | false =>
      have I4 := Lib.hid (O4.out.ints (by rw [LL.out]; omega))
      have B4 := Lib.hid (B1.out.trans (D4.out.belowOf (by rw [HG.out]; exact Nat.le_refl _) B1.out.size))
      go_wp2
      go_ret
      exact ⟨l, A3, c3, by rw [LL.out]; rfl, by rw [LL.out]; omega, I4.out, B4.out⟩
    | true =>
      go_wp2_with fail
      refine (BC.out (n : Int) _ _ _ _ _ _ D4.out).mono ?_
      rintro e w5 ⟨j, rfl, hj, -, hD5, hg5⟩
      have hj1 : (j : Int) < (n : Int) := hj (by omega)
      have D5 := Lib.hid hD5; have O5 := Lib.hid (own_back6 (own_dw O4.out hg5 hgl2) rfl)
      clear hj hD5 hg5
      have D5a := Lib.hid (D5.out.alloc (.cells #[.int .i64 (-5), .int .i64 300] 3))
      have O5a := Lib.hid (O5.out.alloc (.cells #[.int .i64 (-5), .int .i64 300] 3))
      have hne : w5.heap.size ≠ g := by have := D5.out.lt; omega
      have PX := Lib.hid (PC.out [-5, 300] (by simp) (by simp) g A cap zs)
      go_wp2_with fail
      refine (PX.out _ _ w5.heap.size D5a.out (heap_alloc_new w5 _) hne).mono ?_
      rintro e w6 ⟨z, rfl, -, hD6, hg6⟩
      have o6 := own_back6 (own_dw O5a.out hg6 hgl2) rfl
      obtain ⟨b, rfl, hbb, -⟩ := own_whereO o6 rfl (by rw [LL.out]; omega)
      obtain ⟨v0, hcell⟩ : ∃ b0 : Int, w6.cell? ⟨b, j, none⟩ = some (.int .i64 b0) := ⟨_, (World.ownsRow.cellAt o6 j (by rw [LL.out]; omega)).trans (ivs_at l j (by rw [LL.out]; omega))⟩
      have hz := World.ownsRow.frozenAt o6 j
      have s1 := (World.ownsRow.stored o6 j (.int .i64 z)).1
      rw [ivs_set] at s1
      have hl2 : (l.set j z).length = l.length := List.length_set
      have O7 := own_back6 s1 hl2
      have I7 := Lib.hid (O7.ints (by rw [hl2, LL.out]; omega))
      have hgb : g < b := by omega
      have D7 := hD6.set (w0 := w1) (by have := D2.out.size; omega) hgb j (.int .i64 z)
      have B7 := Lib.hid (B1.out.trans (D7.belowOf (by rw [HG.out]; exact Nat.le_refl _) B1.out.size))
      have HL2 := Lib.hid hl2
      clear o6 s1 O7 D7 hD6 hg6 hl2
      go_wp2
      go_ret
      exact ⟨l.set j z, some ⟨b, 0, none⟩, c3, by rw [HL2.out, LL.out]; rfl, by rw [HL2.out, LL.out]; omega, I7.out, B7.out⟩

end Go.Proofs.Ytjgbenhjafgimaa
