/-
  Contracts of the draws of neighbourhoods and what is drawn for chapter 17. Condition: the input is no longer than 1048576 bytes.
  Contracts of the draws of chapters 14, 15 and 17, over the draw of a neighbourhood. Condition: the input is no longer than 1048576 bytes.
  Contracts of the draws of chapter 17's laws: DrawSoftened, DrawSlopeRow, DrawPred. Condition: the input is no longer than 1048576 bytes.
-/
import Derived.Test.YtemfiglflbfocaaDrawC
import Derived.Test.YtemfiglflbfocaaOwn
import Derived.Test.YtemfiglflbfocaaNbB
import Derived.Test.YtemfiglflbfocaaApp
import Derived.Test.YtemfiglflbfocaaPut
import Derived.Deep.RegionHeld3
namespace Go.Proofs.Ytemfiglflbfocaa
open Go.RowKit
set_option linter.unusedVariables false

theorem own_formP {w : World} {base : Nat} {e : TypeId} {size : Nat} {v : Value} {n : Nat} {xs : List Value} (h : w.ownsRow base e size v n xs) : ∃ A c, v = .slice A n c := by
  rcases h.2 with ⟨h1, h2⟩ | ⟨g, cap, cur, h1, _⟩
  · exact ⟨none, 0, by rw [h1, h2]⟩
  · exact ⟨_, _, h1⟩
theorem min_facts (v : Int) (hv : 0 ≤ v ∧ v ≤ 255) : ∃ m : Int, (if v + 1 < 255 then v + 1 else (255 : Int)) = m ∧ min 255 (v + 1) = m ∧ 0 ≤ m ∧ m ≤ 255 := by
  by_cases h : v + 1 < 255
  · exact ⟨v + 1, if_pos h, by omega, by omega, by omega⟩
  · exact ⟨255, if_neg h, by omega, by omega, by omega⟩

set_option maxRecDepth 100000 in
set_option maxHeartbeats 4000000 in
theorem l14line_ex (n : Nat) (hn : n ≤ 1000) (A : Option Addr) (cap : Nat) (zs : List Int) (w0 w : World) (g : Nat) (h : Dw g A cap zs w0 w) :
    Calls Try.prog 46 #[.pointer (some ⟨g, 0, none⟩), .int .i64 n] w fun e w' => ∃ (l : List Int) (A' : Option Addr) (c : Nat), e = .returned (.slice A' n c) ∧ l.length = n ∧ OwnI w' w.heap.size A' c l ∧ Dw g A cap zs w0 w' ∧ w.grownBy w' (some g) := by
  obtain ⟨i0, hii, hz0, hz1, hz2⟩ := info_parts Try.iinfo
  have hgw : g < w.heap.size := h.lt
  have BC := Lib.hid below_ex; have OC := Lib.hid once_ex; have PC := Lib.hid pick_ex
  have HG := Lib.hid h
  have O0 := Lib.hid (own_ints w w.heap.size [] (Nat.le_refl _) (by simp))
  have D0 := Lib.hid (h.again.alloc (.cells (ivs []).toArray 3))
  clear h
  go_enter Try.func46, Try.ntmps46
  go_wp2_with fail
  refine (BC.out 256 _ _ _ _ _ _ D0.out).mono ?_
  rintro e w1 ⟨v, rfl, hv, -, hD1, hg1⟩
  have hv1 : 0 ≤ (v : Int) ∧ (v : Int) ≤ 255 := by have := hv (by decide); omega
  have D1 := Lib.hid hD1; have O1 := Lib.hid (own_dw O0.out hg1 hgw); have S1 : Hid (w.heap.size ≤ w1.heap.size) := Lib.hid (Nat.le_trans (by simp) hg1.size)
  clear hv hD1 hg1 O0 D0
  go_wp2
  go_loopw [5, 6] (fun x5 x6 wr => ∃ (j : Nat) (p : List Int) (v : Int), j ≤ n ∧ p.length = j ∧ (0 ≤ v ∧ v ≤ 255) ∧ x6 = .int .i64 v ∧ wr.ownsRow w.heap.size 3 1 x5 j (ivs p) ∧ w.heap.size ≤ wr.heap.size ∧ Dw g A cap zs w wr)
    (fun v _ _ => n - lenV v)
  case atStart => exact ⟨0, [], _, Nat.zero_le _, rfl, hv1, rfl, O1.out, S1.out, D1.out⟩
  case round =>
    obtain ⟨j, p, v, hj, hpl, hvr, rfl, hown, hsz, hD⟩ := hrel
    obtain ⟨Av, cv, rfl⟩ := own_formP hown
    have HPL := Lib.hid hpl; have HD := Lib.hid hD; have HO := Lib.hid hown; have HS := Lib.hid hsz
    clear hpl hown hsz hD
    by_cases hlt : j < n
    · have d1 : decide ((j : Int) < (n : Int)) = true := by simp; omega
      go_wp2_with fail
      refine (OC.out 2 _ _ _ _ _ _ HD.out).mono ?_
      rintro e w2 ⟨x, rfl, hD2, hg2⟩
      have D2 := Lib.hid hD2; have O2 := Lib.hid (own_dw HO.out hg2 hgw); have S2 := Lib.hid (Nat.le_trans HS.out hg2.size)
      clear hD2 hg2
      cases x with
      | true =>
        go_wp2_with fail
        refine (BC.out 256 _ _ _ _ _ _ D2.out).mono ?_
        rintro e w3 ⟨y, rfl, hy, -, hD3, hg3⟩
        have hy1 := hy (by decide)
        have D3 := Lib.hid hD3; have O3 := Lib.hid (own_dw O2.out hg3 hgw); have S3 := Lib.hid (Nat.le_trans S2.out hg3.size)
        clear hy hD3 hg3
        have hw1 : IntKind.i64.wrap (v + 1) = v + 1 := IntWalk.i64_in _ (by omega)
        obtain ⟨m, hm1, hm2, hm3, hm4⟩ := min_facts v hvr
        have D3a := Lib.hid (D3.out.alloc (.cells #[.int .i64 0, .int .i64 255, .int .i64 (y : Int), .int .i64 m] 3))
        have O3a := Lib.hid (O3.out.alloc (.cells #[.int .i64 0, .int .i64 255, .int .i64 (y : Int), .int .i64 m] 3))
        have hne : w3.heap.size ≠ g := by have := D3.out.lt; omega
        have PX := Lib.hid (PC.out [0, 255, (y : Int), m] (by simp) (by simp) g A cap zs)
        go_wp2_with fail
        refine (PX.out _ _ w3.heap.size D3a.out (heap_alloc_new w3 _) hne).mono ?_
        rintro e w4 ⟨z, rfl, hz, hD4, hg4⟩
        have hzr : 0 ≤ z ∧ z ≤ 255 := by
          simp only [List.mem_cons, List.mem_nil_iff, or_false] at hz
          omega
        have O4 := own_dw O3a.out hg4 hgw
        have D4 := Lib.hid hD4; have S4 : w.heap.size ≤ w4.heap.size := Nat.le_trans S3.out (Nat.le_trans (by simp) hg4.size)
        clear hD4 hg4 hz
        go_wp2_with (at_builtin; refine append_int w4 rfl (.tmp 24) (.tmp 26) 24 rfl w.heap.size 3 i0 Try.underlying24 hii hz0 hz1 hz2 _ _ _ rfl O4 _ rfl rfl (by omega) S4 ?_; intro v' w' hown' hgr hvb)
        have hgr : World.grownBy w4 w' (Value.slice Av j cv).ownBlock := hgr
        have D5 := Lib.hid (D4.out.grown hgr fun k hk => by have := (O4.lt k hk).1; omega)
        have O5 := Lib.hid hown'
        have S5 := Lib.hid (Nat.le_trans S4 hgr.size)
        obtain ⟨Av2, cv2, hv2⟩ := own_formP hown'
        clear hvb hown' hgr O4 S4
        subst hv2
        go_wp2
        go_roundw
        case rel => exact ⟨j + 1, p ++ [z], z, by omega, by rw [List.length_append, HPL.out]; rfl, hzr, rfl, O5.out, S5.out, D5.out⟩
        case measure => simp [lenV]; omega
      | false =>
        have O4 := O2.out; have S4 := S2.out
        go_wp2_with (at_builtin; refine append_int w2 rfl (.tmp 24) (.tmp 26) 24 rfl w.heap.size 3 i0 Try.underlying24 hii hz0 hz1 hz2 _ _ _ rfl O4 _ rfl rfl (by omega) S4 ?_; intro v' w' hown' hgr hvb)
        have hgr : World.grownBy w2 w' (Value.slice Av j cv).ownBlock := hgr
        have D5 := Lib.hid (D2.out.grown hgr fun k hk => by have := (O4.lt k hk).1; omega)
        have O5 := Lib.hid hown'
        have S5 := Lib.hid (Nat.le_trans S4 hgr.size)
        obtain ⟨Av2, cv2, hv2⟩ := own_formP hown'
        clear hvb hown' hgr O4 S4
        subst hv2
        go_wp2
        go_roundw
        case rel => exact ⟨j + 1, p ++ [v], v, by omega, by rw [List.length_append, HPL.out]; rfl, hvr, rfl, O5.out, S5.out, D5.out⟩
        case measure => simp [lenV]; omega
    · have hjn : j = n := by omega
      subst hjn
      have d1 : decide ((j : Int) < (j : Int)) = false := by simp
      have O3 : Hid (OwnI wr w.heap.size Av cv p) := Lib.hid (own_backO HO.out HPL.out)
      have D3 := Lib.hid (HG.out.trans HD.out); have G3 := Lib.hid HD.out.grown0
      go_wp2
      go_ret
      exact ⟨p, _, _, rfl, HPL.out, O3.out, D3.out, G3.out⟩

/-- A row of one's own, behind what writes to a block in which it does not lie. -/
theorem own_ne {w w' : World} {base r : Nat} {A : Option Addr} {c : Nat} {l : List Int} (h : OwnI w base A c l) (hg : w.grownBy w' (some r)) (hne : ∀ k, (Value.slice A l.length c).ownBlock = some k → k ≠ r) : OwnI w' base A c l := by
  unfold OwnI at h ⊢
  refine World.ownsRow.kept h hg ?_
  cases hv : (Value.slice A l.length c).ownBlock with
  | none => exact .inl rfl
  | some k => exact .inr (fun e => hne k hv (Option.some.inj e))
theorem OwnI.far {w : World} {base : Nat} {A : Option Addr} {c : Nat} {l : List Int} (h : OwnI w base A c l) : ∀ k, (Value.slice A l.length c).ownBlock = some k → base ≤ k ∧ k < w.heap.size := h.block
/-- A neighbourhood's row that lies past a place. -/
def RowOff (B : Nat) (w : World) (X : Option Addr) (x : List Int) : Prop := Ints w w.heap.size X x ∧ ∀ b off, X = some ⟨b, off, none⟩ → B ≤ b
theorem RowOff.grown {B r : Nat} {w w' : World} {X : Option Addr} {x : List Int} (h : RowOff B w X x) (hg : w.grownBy w' (some r)) (hr : r < B) : RowOff B w' X x := by
  obtain ⟨⟨h1, h2⟩, h3⟩ := h
  refine ⟨⟨h1, ?_⟩, h3⟩
  rcases h2 with h2 | ⟨b, off, hX, hb, hc⟩
  · exact .inl h2
  · have hB := h3 b off hX
    refine .inr ⟨b, off, hX, Nat.lt_of_lt_of_le hb hg.size, fun j hj => ?_⟩
    rw [World.cell?_of_block (a := ⟨b, off + j, none⟩) (hg.block b hb (by simp; omega))]
    exact hc j hj
theorem RowOff.alloc {B : Nat} {w : World} {X : Option Addr} {x : List Int} (h : RowOff B w X x) (o : Obj) : RowOff B (w.alloc o) X x := by
  obtain ⟨h1, h3⟩ := h
  exact ⟨(h1.below (below_new w o) (Nat.le_refl _)).mono (below_new w o).size, h3⟩
theorem RowOff.low {B B' : Nat} {w : World} {X : Option Addr} {x : List Int} (h : RowOff B w X x) (hb : B' ≤ B) : RowOff B' w X x := ⟨h.1, fun b off e => Nat.le_trans hb (h.2 b off e)⟩
theorem RowOff.below {B : Nat} {w w' : World} {X : Option Addr} {x : List Int} (h : RowOff B w X x) (hb : Below w.heap.size w w') : RowOff B w' X x := ⟨(h.1.below hb (Nat.le_refl _)).mono hb.size, h.2⟩
theorem RowOff.nil (B : Nat) (w : World) : RowOff B w none [] := ⟨⟨by simp, .inl rfl⟩, fun b off e => by cases e⟩
theorem RowOff.own {B : Nat} {w : World} {X : Option Addr} {c : Nat} {x : List Int} (h : OwnI w B X c x) (hm : x.length ≤ 1000) (hp : 0 < x.length) : RowOff B w X x := by
  refine ⟨h.ints (by omega), fun b off e => ?_⟩
  subst e
  rcases h.2 with ⟨h1, h2⟩ | ⟨g, cap, cur, h1, hb, _⟩
  · cases h1
  · simp only [Value.slice.injEq, Option.some.injEq, Addr.mk.injEq] at h1
    obtain ⟨⟨rfl, _⟩, _⟩ := h1
    exact hb
theorem RowOff.drop {B : Nat} {w : World} {b off : Nat} {x : List Int} (h : RowOff B w (some ⟨b, off, none⟩) x) (k : Nat) : RowOff B w (some ⟨b, off + k, none⟩) (x.drop k) := by
  obtain ⟨⟨h1, h2⟩, h3⟩ := h
  refine ⟨⟨by rw [List.length_drop]; omega, ?_⟩, fun b' off' e => by simp only [Option.some.injEq, Addr.mk.injEq] at e; exact e.1 ▸ h3 b off rfl⟩
  rcases h2 with h2 | ⟨b', off', hX, hb, hc⟩
  · left; rw [h2]; simp
  · simp only [Option.some.injEq, Addr.mk.injEq] at hX
    obtain ⟨rfl, rfl, _⟩ := hX
    refine .inr ⟨b, off + k, rfl, hb, fun j hj => ?_⟩
    rw [List.length_drop] at hj
    rw [Nat.add_assoc, hc (k + j) (by omega)]
    simp only [List.getD_eq_getElem?_getD, List.getElem?_drop]
theorem own_back6 {w : World} {base : Nat} {A : Option Addr} {c n : Nat} {l : List Int} (h : w.ownsRow base 3 1 (.slice A n c) n (ivs l)) (hl : l.length = n) : OwnI w base A c l := own_backO h hl
theorem RowOff.lift {B b off bb : Nat} {w w' : World} {x : List Int} (h : RowOff B w (some ⟨b, off, none⟩) x) (hb : Below bb w w') (hbb : b < bb) : RowOff B w' (some ⟨b, off, none⟩) x := by
  obtain ⟨⟨h1, h2⟩, h3⟩ := h
  refine ⟨⟨h1, ?_⟩, h3⟩
  rcases h2 with h2 | ⟨b', off', hX, hb', hc⟩
  · exact .inl h2
  · simp only [Option.some.injEq, Addr.mk.injEq] at hX
    obtain ⟨rfl, rfl, _⟩ := hX
    refine .inr ⟨b, off, rfl, Nat.lt_of_lt_of_le hb' hb.size, fun j hj => ?_⟩
    rw [hb.cell (p := ⟨b, off + j, none⟩) hbb]
    exact hc j hj
theorem dw_put5 {g : Nat} {A : Option Addr} {cap : Nat} {zs : List Int} {w0 w : World} (h : Dw g A cap zs w0 w) {R : Nat} (hR : w0.heap.size ≤ R) (hg : g < R) (a b c d e : Value) : Dw g A cap zs w0 (((((w.setCell ⟨R, 0, none⟩ a).setCell ⟨R, 1, none⟩ b).setCell ⟨R, 2, none⟩ c).setCell ⟨R, 3, none⟩ d).setCell ⟨R, 4, none⟩ e) :=
  ((((h.set hR hg 0 a).set hR hg 1 b).set hR hg 2 c).set hR hg 3 d).set hR hg 4 e

/-- What stands while a sample of the top is drawn anew. -/
def NbH (g : Nat) (A : Option Addr) (cap : Nat) (zs : List Int) (w0 : World) (bb R n2 tb cA baseT baseL : Nat) (u1 u2 u3 u4 : Value) (T : TypeId) (z : Obj) (lb cB : Nat) (l : List Int) (w : World) : Prop :=
  w.heap[bb]? = some (.cells #[.slice (some ⟨tb, 0, none⟩) n2 cA, u1, u2, u3, u4] T (0, 0)) ∧ w.heap[R]? = some z ∧ (∃ t : List Int, t.length = n2 ∧ OwnI w baseT (some ⟨tb, 0, none⟩) cA t) ∧ OwnI w baseL (some ⟨lb, 0, none⟩) cB l ∧ Dw g A cap zs w0 w
section
variable {g : Nat} {A : Option Addr} {cap : Nat} {zs : List Int} {w0 : World} {bb R n2 tb cA baseT baseL : Nat} {u1 u2 u3 u4 : Value} {T : TypeId} {z : Obj} {lb cB : Nat} {l : List Int} {w w' : World}
theorem nbs_of (h : NbH g A cap zs w0 bb R n2 tb cA baseT baseL u1 u2 u3 u4 T z lb cB l w) : w.cell? ⟨bb, 0, none⟩ = some (.slice (some ⟨tb, 0, none⟩) n2 cA) ∧ NbH g A cap zs w0 bb R n2 tb cA baseT baseL u1 u2 u3 u4 T z lb cB l w := ⟨(cells5 h.1).1, h⟩
theorem nbs_drew (h : w.cell? ⟨bb, 0, none⟩ = some (.slice (some ⟨tb, 0, none⟩) n2 cA) ∧ NbH g A cap zs w0 bb R n2 tb cA baseT baseL u1 u2 u3 u4 T z lb cB l w) : w.drew.cell? ⟨bb, 0, none⟩ = some (.slice (some ⟨tb, 0, none⟩) n2 cA) ∧ NbH g A cap zs w0 bb R n2 tb cA baseT baseL u1 u2 u3 u4 T z lb cB l w.drew := by
  obtain ⟨h0, h1, h2, ⟨t, ht, h3⟩, h4, h5⟩ := h
  exact ⟨h0, h1, h2, ⟨t, ht, World.ownsRow.drew h3⟩, World.ownsRow.drew h4, h5.drew⟩
theorem nbs_alloc (h : w.cell? ⟨bb, 0, none⟩ = some (.slice (some ⟨tb, 0, none⟩) n2 cA) ∧ NbH g A cap zs w0 bb R n2 tb cA baseT baseL u1 u2 u3 u4 T z lb cB l w) (o : Obj) : (w.alloc o).cell? ⟨bb, 0, none⟩ = some (.slice (some ⟨tb, 0, none⟩) n2 cA) ∧ NbH g A cap zs w0 bb R n2 tb cA baseT baseL u1 u2 u3 u4 T z lb cB l (w.alloc o) := by
  obtain ⟨h0, h1, h2, ⟨t, ht, h3⟩, h4, h5⟩ := h
  exact nbs_of ⟨(Below.heap_alloc _ _ _ (heap_lt h1)).trans h1, (Below.heap_alloc _ _ _ (heap_lt h2)).trans h2, ⟨t, ht, World.ownsRow.alloc h3 o⟩, World.ownsRow.alloc h4 o, h5.alloc o⟩
theorem nbs_dw (h : w.cell? ⟨bb, 0, none⟩ = some (.slice (some ⟨tb, 0, none⟩) n2 cA) ∧ NbH g A cap zs w0 bb R n2 tb cA baseT baseL u1 u2 u3 u4 T z lb cB l w) : Dw g A cap zs w0 w := h.2.2.2.2.2
theorem nbs_call (h : w.cell? ⟨bb, 0, none⟩ = some (.slice (some ⟨tb, 0, none⟩) n2 cA) ∧ NbH g A cap zs w0 bb R n2 tb cA baseT baseL u1 u2 u3 u4 T z lb cB l w) (hg : w.grownBy w' (some g)) (hD : Dw g A cap zs w0 w') (h1 : g ≠ bb) (h2 : g ≠ R) (h3 : g < baseT) (h4 : g < baseL) : w'.cell? ⟨bb, 0, none⟩ = some (.slice (some ⟨tb, 0, none⟩) n2 cA) ∧ NbH g A cap zs w0 bb R n2 tb cA baseT baseL u1 u2 u3 u4 T z lb cB l w' := by
  obtain ⟨g0, g1, g2, ⟨t, ht, g3⟩, g4, g5⟩ := h
  exact nbs_of ⟨(hg.block bb (heap_lt g1) (by simp; omega)).trans g1, (hg.block R (heap_lt g2) (by simp; omega)).trans g2, ⟨t, ht, own_dw g3 hg h3⟩, own_dw g4 hg h4, hD⟩
theorem nbs_set (h : w.cell? ⟨bb, 0, none⟩ = some (.slice (some ⟨tb, 0, none⟩) n2 cA) ∧ NbH g A cap zs w0 bb R n2 tb cA baseT baseL u1 u2 u3 u4 T z lb cB l w) (j : Nat) (v : Int) (h1 : bb ≠ tb) (h2 : R ≠ tb) (h3 : lb ≠ tb) (h4 : w0.heap.size ≤ tb) (h5 : g < tb) : (w.setCell ⟨tb, j, none⟩ (.int .i64 v)).cell? ⟨bb, 0, none⟩ = some (.slice (some ⟨tb, 0, none⟩) n2 cA) ∧ NbH g A cap zs w0 bb R n2 tb cA baseT baseL u1 u2 u3 u4 T z lb cB l (w.setCell ⟨tb, j, none⟩ (.int .i64 v)) := by
  obtain ⟨g0, g1, g2, ⟨t, ht, g3⟩, g4, g5⟩ := h
  have s := (World.ownsRow.stored g3 j (.int .i64 v)).1
  rw [ivs_set] at s
  refine nbs_of ⟨(heap_setCell_other _ _ _ _ h1).trans g1, (heap_setCell_other _ _ _ _ h2).trans g2, ⟨t.set j v, by rw [List.length_set]; exact ht, ?_⟩, own_ne g4 (grown_cell _ _ _ _) (fun k hk => by simp only [Value.ownBlock, Option.some.injEq] at hk; omega), g5.set h4 h5 j _⟩
  unfold OwnI
  rw [List.length_set]
  exact s
theorem nbs_cell (h : w.cell? ⟨bb, 0, none⟩ = some (.slice (some ⟨tb, 0, none⟩) n2 cA) ∧ NbH g A cap zs w0 bb R n2 tb cA baseT baseL u1 u2 u3 u4 T z lb cB l w) {j : Nat} (hj : j < n2) : w.frozen? ⟨tb, j, none⟩ = false ∧ ∃ u, w.cell? ⟨tb, j, none⟩ = some u := by
  obtain ⟨g0, g1, g2, ⟨t, ht, g3⟩, g4, g5⟩ := h
  exact ⟨World.ownsRow.frozenAt g3 j, _, (World.ownsRow.cellAt g3 j (by omega)).trans (ivs_at t j (by omega))⟩
end

end Go.Proofs.Ytemfiglflbfocaa

namespace Go.Proofs.Ytemfiglflbfocaa
open Go.RowKit
set_option linter.unusedVariables false

/-- A block holds some neighbourhood, whose rows lie past a place. -/
def NbA (g : Nat) (A : Option Addr) (cap : Nat) (zs : List Int) (w0 : World) (B R : Nat) (w : World) : Prop :=
  (∃ (t l : List Int) (k : Int) (b1 b2 : Bool) (TA LB : Option Addr) (cA cB : Nat), w.heap[R]? = some (.cells #[.slice TA t.length cA, .slice LB l.length cB, .int .i64 k, .bool b1, .bool b2] 38 (0, 0)) ∧ RowOff B w TA t ∧ RowOff B w LB l ∧ t.length ≤ cA ∧ l.length ≤ cB) ∧ Dw g A cap zs w0 w ∧ Lies w R A zs
/-- One block holds a neighbourhood that is known, another one holds some. -/
def NbW (g : Nat) (A : Option Addr) (cap : Nat) (zs : List Int) (w0 : World) (B bb R : Nat) (t l : List Int) (k : Int) (b1 b2 : Bool) (TA LB : Option Addr) (cA cB : Nat) (w : World) : Prop :=
  w.heap[bb]? = some (.cells #[.slice TA t.length cA, .slice LB l.length cB, .int .i64 k, .bool b1, .bool b2] 38 (0, 0)) ∧ RowOff B w TA t ∧ RowOff B w LB l ∧ NbA g A cap zs w0 B R w
theorem heap_alloc_at {w : World} {o : Obj} {k : Nat} (hk : k = w.heap.size) : (w.alloc o).heap[k]? = some o := by subst hk; exact heap_alloc_new w o
section
variable {g : Nat} {A : Option Addr} {cap : Nat} {zs : List Int} {w0 : World} {B bb R : Nat} {t l : List Int} {k : Int} {b1 b2 : Bool} {TA LB : Option Addr} {cA cB : Nat} {w w' : World}
theorem NbA.call (h : NbA g A cap zs w0 B R w) (hg : w.grownBy w' (some g)) (hD : Dw g A cap zs w0 w') (h2 : g ≠ R) (h3 : g < B) : NbA g A cap zs w0 B R w' := by
  obtain ⟨⟨t, l, k, b1, b2, TA, LB, cA, cB, hR, rT, rL, e1, e2⟩, h4, h5⟩ := h
  refine ⟨⟨t, l, k, b1, b2, TA, LB, cA, cB, (hg.block R (heap_lt hR) (by simp; omega)).trans hR, rT.grown hg h3, rL.grown hg h3, e1, e2⟩, hD, ?_⟩
  by_cases hgR : g < R
  · obtain ⟨i, x, hC, _⟩ := hD
    exact hC.lies.mono (Nat.le_of_lt hgR)
  · exact h5.kept fun j hj => hg.block j (by have := heap_lt hR; omega) (by simp; omega)
theorem NbA.alloc (h : NbA g A cap zs w0 B R w) (o : Obj) : NbA g A cap zs w0 B R (w.alloc o) := by
  obtain ⟨⟨t, l, k, b1, b2, TA, LB, cA, cB, hR, rT, rL, e1, e2⟩, h4, h5⟩ := h
  exact ⟨⟨t, l, k, b1, b2, TA, LB, cA, cB, (Below.heap_alloc _ _ _ (heap_lt hR)).trans hR, rT.alloc o, rL.alloc o, e1, e2⟩, h4.alloc o, h5.kept fun j hj => Below.heap_alloc _ _ _ (by have := heap_lt hR; omega)⟩
theorem NbA.drew (h : NbA g A cap zs w0 B R w) : NbA g A cap zs w0 B R w.drew := by
  obtain ⟨⟨t, l, k, b1, b2, TA, LB, cA, cB, hR, rT, rL, e1, e2⟩, h4, h5⟩ := h
  exact ⟨⟨t, l, k, b1, b2, TA, LB, cA, cB, hR, rT, rL, e1, e2⟩, h4.drew, h5⟩
theorem nbw_of (h : NbW g A cap zs w0 B bb R t l k b1 b2 TA LB cA cB w) : w.cell? ⟨bb, 0, none⟩ = some (.slice TA t.length cA) ∧ w.cell? ⟨bb, 1, none⟩ = some (.slice LB l.length cB) ∧ w.cell? ⟨bb, 2, none⟩ = some (.int .i64 k) ∧ w.cell? ⟨bb, 3, none⟩ = some (.bool b1) ∧ w.cell? ⟨bb, 4, none⟩ = some (.bool b2) ∧ NbW g A cap zs w0 B bb R t l k b1 b2 TA LB cA cB w := by
  obtain ⟨c0, c1, c2, c3, c4⟩ := cells5 h.1
  exact ⟨c0, c1, c2, c3, c4, h⟩
theorem nbw_in (h : w.cell? ⟨bb, 0, none⟩ = some (.slice TA t.length cA) ∧ w.cell? ⟨bb, 1, none⟩ = some (.slice LB l.length cB) ∧ w.cell? ⟨bb, 2, none⟩ = some (.int .i64 k) ∧ w.cell? ⟨bb, 3, none⟩ = some (.bool b1) ∧ w.cell? ⟨bb, 4, none⟩ = some (.bool b2) ∧ NbW g A cap zs w0 B bb R t l k b1 b2 TA LB cA cB w) : NbW g A cap zs w0 B bb R t l k b1 b2 TA LB cA cB w := h.2.2.2.2.2
theorem nbw_drew (h : w.cell? ⟨bb, 0, none⟩ = some (.slice TA t.length cA) ∧ w.cell? ⟨bb, 1, none⟩ = some (.slice LB l.length cB) ∧ w.cell? ⟨bb, 2, none⟩ = some (.int .i64 k) ∧ w.cell? ⟨bb, 3, none⟩ = some (.bool b1) ∧ w.cell? ⟨bb, 4, none⟩ = some (.bool b2) ∧ NbW g A cap zs w0 B bb R t l k b1 b2 TA LB cA cB w) : w.drew.cell? ⟨bb, 0, none⟩ = some (.slice TA t.length cA) ∧ w.drew.cell? ⟨bb, 1, none⟩ = some (.slice LB l.length cB) ∧ w.drew.cell? ⟨bb, 2, none⟩ = some (.int .i64 k) ∧ w.drew.cell? ⟨bb, 3, none⟩ = some (.bool b1) ∧ w.drew.cell? ⟨bb, 4, none⟩ = some (.bool b2) ∧ NbW g A cap zs w0 B bb R t l k b1 b2 TA LB cA cB w.drew := by
  obtain ⟨h1, h2, h3, h4⟩ := nbw_in h
  exact nbw_of ⟨h1, h2, h3, h4.drew⟩
theorem nbw_alloc (h : w.cell? ⟨bb, 0, none⟩ = some (.slice TA t.length cA) ∧ w.cell? ⟨bb, 1, none⟩ = some (.slice LB l.length cB) ∧ w.cell? ⟨bb, 2, none⟩ = some (.int .i64 k) ∧ w.cell? ⟨bb, 3, none⟩ = some (.bool b1) ∧ w.cell? ⟨bb, 4, none⟩ = some (.bool b2) ∧ NbW g A cap zs w0 B bb R t l k b1 b2 TA LB cA cB w) (o : Obj) : (w.alloc o).cell? ⟨bb, 0, none⟩ = some (.slice TA t.length cA) ∧ (w.alloc o).cell? ⟨bb, 1, none⟩ = some (.slice LB l.length cB) ∧ (w.alloc o).cell? ⟨bb, 2, none⟩ = some (.int .i64 k) ∧ (w.alloc o).cell? ⟨bb, 3, none⟩ = some (.bool b1) ∧ (w.alloc o).cell? ⟨bb, 4, none⟩ = some (.bool b2) ∧ NbW g A cap zs w0 B bb R t l k b1 b2 TA LB cA cB (w.alloc o) := by
  obtain ⟨h1, h2, h3, h4⟩ := nbw_in h
  exact nbw_of ⟨(Below.heap_alloc _ _ _ (heap_lt h1)).trans h1, h2.alloc o, h3.alloc o, h4.alloc o⟩
theorem nbw_dw (h : w.cell? ⟨bb, 0, none⟩ = some (.slice TA t.length cA) ∧ w.cell? ⟨bb, 1, none⟩ = some (.slice LB l.length cB) ∧ w.cell? ⟨bb, 2, none⟩ = some (.int .i64 k) ∧ w.cell? ⟨bb, 3, none⟩ = some (.bool b1) ∧ w.cell? ⟨bb, 4, none⟩ = some (.bool b2) ∧ NbW g A cap zs w0 B bb R t l k b1 b2 TA LB cA cB w) : Dw g A cap zs w0 w := (nbw_in h).2.2.2.2.1
theorem nbw_call (h : w.cell? ⟨bb, 0, none⟩ = some (.slice TA t.length cA) ∧ w.cell? ⟨bb, 1, none⟩ = some (.slice LB l.length cB) ∧ w.cell? ⟨bb, 2, none⟩ = some (.int .i64 k) ∧ w.cell? ⟨bb, 3, none⟩ = some (.bool b1) ∧ w.cell? ⟨bb, 4, none⟩ = some (.bool b2) ∧ NbW g A cap zs w0 B bb R t l k b1 b2 TA LB cA cB w) (hg : w.grownBy w' (some g)) (hD : Dw g A cap zs w0 w') (n1 : g ≠ bb) (n2 : g ≠ R) (n3 : g < B) : w'.cell? ⟨bb, 0, none⟩ = some (.slice TA t.length cA) ∧ w'.cell? ⟨bb, 1, none⟩ = some (.slice LB l.length cB) ∧ w'.cell? ⟨bb, 2, none⟩ = some (.int .i64 k) ∧ w'.cell? ⟨bb, 3, none⟩ = some (.bool b1) ∧ w'.cell? ⟨bb, 4, none⟩ = some (.bool b2) ∧ NbW g A cap zs w0 B bb R t l k b1 b2 TA LB cA cB w' := by
  obtain ⟨h1, h2, h3, h4⟩ := nbw_in h
  exact nbw_of ⟨(hg.block bb (heap_lt h1) (by simp; omega)).trans h1, h2.grown hg n3, h3.grown hg n3, h4.call hg hD n2 n3⟩
theorem nbw_put (h : w.cell? ⟨bb, 0, none⟩ = some (.slice TA t.length cA) ∧ w.cell? ⟨bb, 1, none⟩ = some (.slice LB l.length cB) ∧ w.cell? ⟨bb, 2, none⟩ = some (.int .i64 k) ∧ w.cell? ⟨bb, 3, none⟩ = some (.bool b1) ∧ w.cell? ⟨bb, 4, none⟩ = some (.bool b2) ∧ NbW g A cap zs w0 B bb R t l k b1 b2 TA LB cA cB w) (hA : t.length ≤ cA) (hB : l.length ≤ cB) (n1 : bb ≠ R) (n2 : R < B) (n3 : w0.heap.size ≤ R) (n4 : R ≠ g) : (((((w.setCell ⟨R, 0, none⟩ (.slice TA t.length cA)).setCell ⟨R, 1, none⟩ (.slice LB l.length cB)).setCell ⟨R, 2, none⟩ (.int .i64 k)).setCell ⟨R, 3, none⟩ (.bool b1)).setCell ⟨R, 4, none⟩ (.bool b2)).cell? ⟨bb, 0, none⟩ = some (.slice TA t.length cA) ∧ (((((w.setCell ⟨R, 0, none⟩ (.slice TA t.length cA)).setCell ⟨R, 1, none⟩ (.slice LB l.length cB)).setCell ⟨R, 2, none⟩ (.int .i64 k)).setCell ⟨R, 3, none⟩ (.bool b1)).setCell ⟨R, 4, none⟩ (.bool b2)).cell? ⟨bb, 1, none⟩ = some (.slice LB l.length cB) ∧ (((((w.setCell ⟨R, 0, none⟩ (.slice TA t.length cA)).setCell ⟨R, 1, none⟩ (.slice LB l.length cB)).setCell ⟨R, 2, none⟩ (.int .i64 k)).setCell ⟨R, 3, none⟩ (.bool b1)).setCell ⟨R, 4, none⟩ (.bool b2)).cell? ⟨bb, 2, none⟩ = some (.int .i64 k) ∧ (((((w.setCell ⟨R, 0, none⟩ (.slice TA t.length cA)).setCell ⟨R, 1, none⟩ (.slice LB l.length cB)).setCell ⟨R, 2, none⟩ (.int .i64 k)).setCell ⟨R, 3, none⟩ (.bool b1)).setCell ⟨R, 4, none⟩ (.bool b2)).cell? ⟨bb, 3, none⟩ = some (.bool b1) ∧ (((((w.setCell ⟨R, 0, none⟩ (.slice TA t.length cA)).setCell ⟨R, 1, none⟩ (.slice LB l.length cB)).setCell ⟨R, 2, none⟩ (.int .i64 k)).setCell ⟨R, 3, none⟩ (.bool b1)).setCell ⟨R, 4, none⟩ (.bool b2)).cell? ⟨bb, 4, none⟩ = some (.bool b2) ∧ NbW g A cap zs w0 B bb R t l k b1 b2 TA LB cA cB (((((w.setCell ⟨R, 0, none⟩ (.slice TA t.length cA)).setCell ⟨R, 1, none⟩ (.slice LB l.length cB)).setCell ⟨R, 2, none⟩ (.int .i64 k)).setCell ⟨R, 3, none⟩ (.bool b1)).setCell ⟨R, 4, none⟩ (.bool b2)) := by
  obtain ⟨h1, h2, h3, ⟨⟨t', l', k', b1', b2', TA', LB', cA', cB', hR, rT, rL, e1, e2⟩, h4, h5⟩⟩ := nbw_in h
  have gf := grown_five w R (.slice TA t.length cA) (.slice LB l.length cB) (.int .i64 k) (.bool b1) (.bool b2)
  have hp := put_five hR (.slice TA t.length cA) (.slice LB l.length cB) (.int .i64 k) (.bool b1) (.bool b2)
  obtain ⟨wp, hwp⟩ : ∃ wp, wp = (((((w.setCell ⟨R, 0, none⟩ (.slice TA t.length cA)).setCell ⟨R, 1, none⟩ (.slice LB l.length cB)).setCell ⟨R, 2, none⟩ (.int .i64 k)).setCell ⟨R, 3, none⟩ (.bool b1)).setCell ⟨R, 4, none⟩ (.bool b2)) := ⟨_, rfl⟩
  rw [← hwp] at gf hp ⊢
  have hk : ∀ j, j ≠ R → j < w.heap.size → wp.heap[j]? = w.heap[j]? := fun j hj hl => gf.block j hl (by simp; omega)
  obtain ⟨i, x, hC, hg0⟩ := h4
  have hgl := hC.lt
  have hRl := heap_lt hR
  have hl2 : Lies wp R A zs := h5.kept fun j hj => hk j (by omega) (by omega)
  have hl3 : Lies wp g A zs := by
    by_cases hgR : g < R
    · exact hC.lies.kept fun j hj => hk j (by omega) (by omega)
    · exact hl2.mono (by omega)
  exact nbw_of ⟨(hk bb n1 (heap_lt h1)).trans h1, h2.grown gf n2, h3.grown gf n2, ⟨t, l, k, b1, b2, TA, LB, cA, cB, hp, h2.grown gf n2, h3.grown gf n2, hA, hB⟩, ⟨i, x, ⟨hC.few, hC.le, (hk g (Ne.symm n4) hgl).trans hC.cur, hl3⟩, grown_own hg0 gf fun j hj => by obtain rfl := Option.some.inj hj; exact n3⟩, hl2⟩
theorem nbw_res (h : w.cell? ⟨bb, 0, none⟩ = some (.slice TA t.length cA) ∧ w.cell? ⟨bb, 1, none⟩ = some (.slice LB l.length cB) ∧ w.cell? ⟨bb, 2, none⟩ = some (.int .i64 k) ∧ w.cell? ⟨bb, 3, none⟩ = some (.bool b1) ∧ w.cell? ⟨bb, 4, none⟩ = some (.bool b2) ∧ NbW g A cap zs w0 B bb R t l k b1 b2 TA LB cA cB w) : NbA g A cap zs w0 B R w := (nbw_in h).2.2.2
theorem nbw_cells (h : w.cell? ⟨bb, 0, none⟩ = some (.slice TA t.length cA) ∧ w.cell? ⟨bb, 1, none⟩ = some (.slice LB l.length cB) ∧ w.cell? ⟨bb, 2, none⟩ = some (.int .i64 k) ∧ w.cell? ⟨bb, 3, none⟩ = some (.bool b1) ∧ w.cell? ⟨bb, 4, none⟩ = some (.bool b2) ∧ NbW g A cap zs w0 B bb R t l k b1 b2 TA LB cA cB w) : ∃ u0 u1 u2 u3 u4 : Value, w.heap[R]? = some (.cells #[u0, u1, u2, u3, u4] 38 (0, 0)) := by
  obtain ⟨⟨t, l, k, b1, b2, TA, LB, cA, cB, hR, _⟩, _⟩ := nbw_res h
  exact ⟨_, _, _, _, _, hR⟩
end

theorem pick_range {y : Int} (h : y ∈ ([4, 8, 5, 0] : List Int)) : 0 ≤ y ∧ y ≤ 8 := by
  simp only [List.mem_cons, List.mem_nil_iff, or_false] at h
  omega
end Go.Proofs.Ytemfiglflbfocaa

namespace Go.Proofs.Ytemfiglflbfocaa
open Go.RowKit
set_option linter.unusedVariables false

end Go.Proofs.Ytemfiglflbfocaa
