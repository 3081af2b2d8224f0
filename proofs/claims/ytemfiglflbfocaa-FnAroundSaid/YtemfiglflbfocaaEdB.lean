/-
  Chapters 18 and 20: the model's copy of a frame. Condition: a row that lies nowhere holds nothing.
-/
import Derived.Test.YtemfiglflbfocaaRsM
import Derived.Test.YtemfiglflbfocaaEnt
import Derived.Deep.RegionHeld3
namespace Go.Proofs.Ytemfiglflbfocaa
open Go.RowKit
set_option linter.unusedVariables false

theorem box_two (w : World) (u v : Obj) : ((w.alloc u).alloc v).heap[w.heap.size]? = some u ∧ ((w.alloc u).alloc v).heap[w.heap.size + 1]? = some v ∧ ((w.alloc u).alloc v).heap.size = w.heap.size + 2 := by
  have h1 := heap_two w u v
  exact ⟨h1.1, h1.2, by simp⟩
theorem own_form7 {w : World} {base : Nat} {e : TypeId} {size : Nat} {v : Value} {n : Nat} {xs : List Value} (h : w.ownsRow base e size v n xs) : ∃ A c, v = .slice A n c := by
  rcases h.2 with ⟨h1, h2⟩ | ⟨g, cap, cur, h1, _⟩
  · exact ⟨none, 0, by rw [h1, h2]⟩
  · exact ⟨_, _, h1⟩
set_option maxRecDepth 100000 in
set_option maxHeartbeats 2000000 in
/-- A frame copied: the same sides, pixels of one's own. -/
theorem l18copy_any (A : Option Addr) (cA : Nat) (l : List Int) (p0 p1 : Int) (hl : l.length ≤ 1048576) (hP : Placed A cA) (w : World) (hA : Ints w w.heap.size A l) :
    Calls Try.prog 54 #[.agg #[.int .i64 p0, .int .i64 p1, .slice A l.length cA]] w fun e w' => ∃ A' c', e = .returned (.agg #[.int .i64 p0, .int .i64 p1, .slice A' l.length c']) ∧ OwnI w' w.heap.size A' c' l ∧ Below w.heap.size w w' := by
  obtain ⟨i0, hi, hz0, hz1, hz2⟩ := info_parts Try.iinfo
  obtain ⟨n, hn⟩ : ∃ n, n = l.length := ⟨_, rfl⟩
  obtain ⟨h0, h1, hsz⟩ := box_two w (.cells #[.int .i64 p0, .int .i64 p1, .slice A l.length cA] 26) (.cells #[.int .i64 0, .int .i64 0, .slice none 0 0] 26)
  have hbl := below_two w (.cells #[.int .i64 p0, .int .i64 p1, .slice A l.length cA] 26) (.cells #[.int .i64 0, .int .i64 0, .slice none 0 0] 26)
  have hIB := (hA.below hbl (Nat.le_refl _)).mono hbl.size
  rw [← hn] at h0 h1 hsz hbl hl hIB ⊢
  have HN := Lib.hid hn; have HI := Lib.hid hIB; clear hn hIB
  go_enter Try.func54, Try.ntmps54
  go_wp2_with fail
  obtain ⟨wB, hwB⟩ : ∃ x, x = (w.alloc (.cells #[.int .i64 p0, .int .i64 p1, .slice A n cA] 26)).alloc (.cells #[.int .i64 0, .int .i64 0, .slice none 0 0] 26) := ⟨_, rfl⟩
  rw [← hwB] at h0 h1 hsz hbl HI ⊢
  clear hwB hA
  obtain ⟨c0, c1, c2⟩ := rs3_cells h0
  have hS : wB.cell? ⟨w.heap.size, 0, none⟩ = some (.int .i64 p0) ∧ wB.cell? ⟨w.heap.size, 1, none⟩ = some (.int .i64 p1) ∧ wB.cell? ⟨w.heap.size, 2, none⟩ = some (.slice A n cA) := ⟨c0, c1, c2⟩
  have H0 := Lib.hid h0; have H1 := Lib.hid h1; have HSZ := Lib.hid hsz; have HBL := Lib.hid hbl
  have OE : Hid (World.ownsRow (wB.alloc (.cells #[] 3)).drew wB.heap.size 3 1 (.slice (some ⟨wB.heap.size, 0, none⟩) 0 0) 0 (ivs [])) := Lib.hid (own_ints wB wB.heap.size [] (Nat.le_refl _) (by simp)).drew
  have BE := below_new wB (.cells #[] 3)
  have hS1 : (wB.alloc (.cells #[] 3)).drew.cell? ⟨w.heap.size, 0, none⟩ = some (.int .i64 p0) ∧ (wB.alloc (.cells #[] 3)).drew.cell? ⟨w.heap.size, 1, none⟩ = some (.int .i64 p1) ∧ (wB.alloc (.cells #[] 3)).drew.cell? ⟨w.heap.size, 2, none⟩ = some (.slice A n cA) := ⟨(BE.cell (heap_lt h0)).trans c0, (BE.cell (heap_lt h0)).trans c1, (BE.cell (heap_lt h0)).trans c2⟩
  have IE : Hid (Ints (wB.alloc (.cells #[] 3)).drew (wB.alloc (.cells #[] 3)).drew.heap.size A l) := Lib.hid ((HI.out.below BE (Nat.le_refl _)).mono BE.size)
  have BF := Lib.hid BE.drew
  clear BE
  have HS3 : Hid (∀ w3, Below wB.heap.size wB w3 → w3.cell? ⟨w.heap.size, 0, none⟩ = some (.int .i64 p0) ∧ w3.cell? ⟨w.heap.size, 1, none⟩ = some (.int .i64 p1) ∧ w3.cell? ⟨w.heap.size, 2, none⟩ = some (.slice A n cA)) := Lib.hid fun w3 hb => ⟨(hb.cell (heap_lt H0.out)).trans c0, (hb.cell (heap_lt H0.out)).trans c1, (hb.cell (heap_lt H0.out)).trans c2⟩
  have HS4 : Hid (∀ w3 v, Below wB.heap.size wB w3 → (((w3.setCell ⟨w.heap.size + 1, 0, none⟩ (.int .i64 p0)).setCell ⟨w.heap.size + 1, 1, none⟩ (.int .i64 p1)).setCell ⟨w.heap.size + 1, 2, none⟩ v).cell? ⟨w.heap.size, 0, none⟩ = some (.int .i64 p0) ∧ (((w3.setCell ⟨w.heap.size + 1, 0, none⟩ (.int .i64 p0)).setCell ⟨w.heap.size + 1, 1, none⟩ (.int .i64 p1)).setCell ⟨w.heap.size + 1, 2, none⟩ v).cell? ⟨w.heap.size, 1, none⟩ = some (.int .i64 p1) ∧ (((w3.setCell ⟨w.heap.size + 1, 0, none⟩ (.int .i64 p0)).setCell ⟨w.heap.size + 1, 1, none⟩ (.int .i64 p1)).setCell ⟨w.heap.size + 1, 2, none⟩ v).cell? ⟨w.heap.size, 2, none⟩ = some (.slice A n cA)) := Lib.hid fun w3 v hb => by
    have gb := rs3_grown w3 (w.heap.size + 1) (.int .i64 p0) (.int .i64 p1) v
    have hz := hb.size
    have k := gb.block w.heap.size (by have := HSZ.out; omega) (by simp)
    have h3 := HS3.out w3 hb
    exact ⟨(World.cell?_of_block k).trans h3.1, (World.cell?_of_block k).trans h3.2.1, (World.cell?_of_block k).trans h3.2.2⟩
  clear c0 c1 c2 h0 h1 hsz hbl
  go_region_held3 (fun w' => w'.cell? ⟨w.heap.size, 0, none⟩ = some (.int .i64 p0) ∧ w'.cell? ⟨w.heap.size, 1, none⟩ = some (.int .i64 p1) ∧ w'.cell? ⟨w.heap.size, 2, none⟩ = some (.slice A n cA))
    (first | with_reducible assumption | exact hS | exact hS1 | exact hS4)
    (first | (refine step_append_ints rfl (.tmp 7) (.tmp 9) 24 rfl wB i0 Try.underlying24 hi hz0 hz1 hz2 _ _ _ rfl OE.out A n cA l HN.out rfl _ IE.out hP (by simp; omega) BF.out ?_; intro v3 w3 hown3 hb3; obtain ⟨A3, c3, rfl⟩ := own_form7 hown3; have hr3 := hb3.block (w.heap.size + 1) (by rw [HSZ.out]; omega); rw [H1.out] at hr3; have hS3 := HS3.out w3 hb3; obtain ⟨d0, d1, d2⟩ := rs3_cells hr3; obtain ⟨e0, e1, e2⟩ := rs3_frozen hr3; have hS4 := HS4.out w3 (.slice A3 n c3) hb3))
  all_goals
    go_wp2
    have gb := rs3_grown w3 (w.heap.size + 1) (.int .i64 p0) (.int .i64 p1) (.slice A3 n c3)
    obtain ⟨r0, r1, r2⟩ := rs3_cells (rs3_put hr3 (.int .i64 p0) (.int .i64 p1) (.slice A3 n c3))
    have o2 : OwnI w3 wB.heap.size A3 c3 l := by unfold OwnI; rw [← HN.out]; rw [List.nil_append, Nat.zero_add] at hown3; exact hown3
    have o3 := o2.other gb (fun j hj => by obtain rfl := Option.some.inj hj; rw [HSZ.out]; omega)
    have b3 := HBL.out.trans (hb3.mono HBL.out.size)
    refine bodyPost_ret (v := .agg #[.int .i64 p0, .int .i64 p1, .slice A3 n c3]) (by simp [results, Try.results54, go_sem, r0, r1, r2]) rfl ⟨A3, c3, rfl, o3.low HBL.out.size, b3.grown gb b3.size (fun j hj => by obtain rfl := Option.some.inj hj; omega)⟩
end Go.Proofs.Ytemfiglflbfocaa
