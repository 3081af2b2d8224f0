/-
  Chapter 16: the contract of the program's Pack4. Condition: the row is any that a slice can hold.
-/
import Derived.Test.YtbiffijjmhpkpaaLaH
import Derived.Test.YtbiffijjmhpkpaaLaB
namespace Go.Proofs.Ytbiffijjmhpkpaa
open Go.RowKit
attribute [local go_sem] Oper.semAt_some
set_option linter.unusedVariables false

theorem new_cellB (w : World) (v : Value) (t : TypeId) : (w.alloc (.cells #[v] t)).cell? ⟨w.heap.size, 0, none⟩ = some v := (Boxed.new w t v).cell
theorem new_frozenB (w : World) (v : Value) (t : TypeId) : (w.alloc (.cells #[v] t)).frozen? ⟨w.heap.size, 0, none⟩ = false := (Boxed.new w t v).frozen
theorem alloc_cellB {w : World} {a : Addr} {v : Value} (o : Obj) (h : w.cell? a = some v) : (w.alloc o).cell? a = some v := Go.cell_kept h (World.grownBy_alloc w o none) (fun r e => by cases e)
theorem alloc_frozenB {w : World} {a : Addr} {v : Value} (o : Obj) (h : w.cell? a = some v) (f : w.frozen? a = false) : (w.alloc o).frozen? a = false := (Go.frozen_kept h (World.grownBy_alloc w o none) (fun r e => by cases e)).trans f
/-- A cell that may be written. -/
def Cw (w : World) (b : Nat) (v : Value) : Prop := w.cell? ⟨b, 0, none⟩ = some v ∧ w.frozen? ⟨b, 0, none⟩ = false
theorem Cw.new (w : World) (v : Value) (t : TypeId) {b : Nat} (hb : w.heap.size = b) : Cw (w.alloc (.cells #[v] t)) b v := by subst hb; exact ⟨new_cellB w v t, new_frozenB w v t⟩
theorem Cw.alloc {w : World} {b : Nat} {v : Value} (h : Cw w b v) (o : Obj) : Cw (w.alloc o) b v := ⟨alloc_cellB o h.1, alloc_frozenB o h.1 h.2⟩
theorem Cw.set {w : World} {b : Nat} {v : Value} (h : Cw w b v) (u : Value) : Cw (w.setCell ⟨b, 0, none⟩ u) b u := ⟨World.cell?_setCell_same' _ _ _ (by rw [h.1]; rfl), by rw [World.frozen?_setCell]; exact h.2⟩
theorem Cw.other {w : World} {b c : Nat} {v : Value} (h : Cw w b v) (hne : c ≠ b) (u : Value) : Cw (w.setCell ⟨c, 0, none⟩ u) b v := ⟨(World.cell?_setCell_other w _ _ u (show (⟨c, 0, none⟩ : Addr) ≠ ⟨b, 0, none⟩ from fun e => hne (by injection e))).trans h.1, by rw [World.frozen?_setCell]; exact h.2⟩
theorem Cw.kept {w w' : World} {b : Nat} {v : Value} {row : Option Nat} (h : Cw w b v) (hg : w.grownBy w' row) (hr : ∀ r, row = some r → ∃ o : Obj, w.heap[r]? = some o ∧ o.isCells = false) : Cw w' b v := ⟨Go.cell_kept h.1 hg hr, (Go.frozen_kept h.1 hg hr).trans h.2⟩

/-- The number behind some rounds. -/
def accP (l : List Int) (pre : List (Fin 4)) : Int := pre.foldl (fun n x => n * 65536 + atB l x) 0
theorem accP_snoc (l : List Int) (pre : List (Fin 4)) (x : Fin 4) : accP l (pre ++ [x]) = accP l pre * 65536 + atB l x := by simp [accP]
def gooP (l : List Int) (pre : List (Fin 4)) : Prop := ∀ x, x ∈ pre → laE (atB l x) = true
theorem accP_range (l : List Int) : ∀ (pre : List (Fin 4)), gooP l pre → ∀ n : Int, 0 ≤ n → ∀ k : Nat, 2 * n < 65536 ^ k → 0 ≤ pre.foldl (fun n x => n * 65536 + atB l x) n ∧ 2 * pre.foldl (fun n x => n * 65536 + atB l x) n < 65536 ^ (k + pre.length)
  | [], _, n, h0, k, hk => ⟨h0, hk⟩
  | x :: pre, hg, n, h0, k, hk => by
    have hx := laE_true.1 (hg x (by simp))
    have e : (65536 : Int) ^ (k + 1) = 65536 ^ k * 65536 := Int.pow_succ ..
    have := accP_range l pre (fun y hy => hg y (by simp [hy])) (n * 65536 + atB l x) (by omega) (k + 1) (by rw [e]; omega)
    rw [show k + (x :: pre).length = k + 1 + pre.length by simp; omega]
    exact this
theorem accP_small {l : List Int} {pre : List (Fin 4)} (hg : gooP l pre) (hl : pre.length < 4) : 0 ≤ accP l pre ∧ accP l pre < 140737488355328 := by
  obtain ⟨h1, h2⟩ := accP_range l pre hg 0 (by decide) 0 (by decide)
  have h1 : 0 ≤ accP l pre := h1
  have h2 : 2 * accP l pre < 65536 ^ (0 + pre.length) := h2
  have : (65536 : Int) ^ (0 + pre.length) ≤ 281474976710656 := by
    rcases (show pre.length = 0 ∨ pre.length = 1 ∨ pre.length = 2 ∨ pre.length = 3 by omega) with e | e | e | e
    all_goals rw [e]; decide
  omega
theorem accP_all {l : List Int} (hl : l.length = 4) : accP l (List.finRange 4) = paqN (l.getD 0 0) (l.getD 1 0) (l.getD 2 0) (l.getD 3 0) := by
  have e : List.finRange 4 = [0, 1, 2, 3] := rfl
  rw [e]
  simp only [accP, List.foldl_cons, List.foldl_nil, atB]
  unfold paqN
  show (((0 * 65536 + l.getD 3 0) * 65536 + l.getD 2 0) * 65536 + l.getD 1 0) * 65536 + l.getD 0 0 = _
  omega
theorem gooP_all {l : List Int} (hl : l.length = 4) (hg : gooP l (List.finRange 4)) : paqE l = true := by
  have e : List.finRange 4 = [0, 1, 2, 3] := rfl
  rw [e] at hg
  rw [list_four hl, paqE_four]
  have h0 : laE (l.getD 3 0) = true := hg 0 (by simp)
  have h1 : laE (l.getD 2 0) = true := hg 1 (by simp)
  have h2 : laE (l.getD 1 0) = true := hg 2 (by simp)
  have h3 : laE (l.getD 0 0) = true := hg 3 (by simp)
  rw [h0, h1, h2, h3]
  rfl
theorem paqE_bad {l : List Int} (hl : l.length = 4) {x : Fin 4} (h : laE (atB l x) = false) : paqE l = false := by
  unfold paqE
  rw [Bool.and_eq_false_iff]
  right
  rw [List.all_eq_false]
  refine ⟨atB l x, ?_, by rw [h]; decide⟩
  unfold atB
  have hx := x.2
  rw [List.getD_eq_getElem?_getD, List.getElem?_eq_getElem (by omega)]
  exact List.getElem_mem _
theorem back_any (A : Option Addr) (ca : Nat) (w : World) :
    Calls Try.prog 30 #[.slice A 4 ca] w fun e w' => e = .returned (.func (.func 41) #[] #[.pointer (some ⟨w.heap.size, 0, none⟩)]) ∧ w' = w.alloc (.cells #[.slice A 4 ca] 24) := by
  have hmf : ∀ (fn : Fn) (first cap : Array Value) (w : World), (Instr.makeFunc fn first cap).run Try.prog w = .ok (.func fn first cap) w := fun _ _ _ _ => rfl
  go_enter Try.func30, Try.ntmps30
  go_wp2
  go_ret
  exact ⟨by simp, rfl⟩
set_option maxRecDepth 100000 in
set_option maxHeartbeats 4000000 in
theorem impl_pack_four (p off ca : Nat) (l : List Int) (hl : l.length = 4) (w : World) (hp : p < w.heap.size) (hc : ∀ j, j < 4 → w.cell? ⟨p, off + j, none⟩ = some (.int .i64 (l.getD j 0))) :
    Calls Try.prog 11 #[.slice (some ⟨p, off, none⟩) 4 ca] w fun e w' => e = .returned (.tuple #[.int .i64 (paqV l), .bool (paqE l)]) ∧ Below w.heap.size w w' := by
  have CH := Lib.hid (back_any (some ⟨p, off, none⟩) ca)
  have HL := Lib.hid hl
  obtain ⟨u1, hu1⟩ : ∃ u, u = ((w.alloc (.cells #[.int .i64 0] 3)).alloc (.cells #[.bool false] 4)).alloc (.cells #[.int .i64 0] 3) := ⟨_, rfl⟩
  have z1 : u1.heap.size = w.heap.size + 3 := by rw [hu1]; simp
  have k0 : Cw u1 w.heap.size (.int .i64 0) := by rw [hu1]; exact ((Cw.new w _ _ rfl).alloc _).alloc _
  have k1 : Cw u1 (w.heap.size + 1) (.bool false) := by rw [hu1]; exact (Cw.new (w.alloc (.cells #[.int .i64 0] 3)) _ _ (by simp)).alloc _
  have k2 : Cw u1 (w.heap.size + 2) (.int .i64 0) := by rw [hu1]; exact Cw.new _ _ _ (by simp)
  have k3 : Below w.heap.size w u1 := by rw [hu1]; exact (((Below.refl w.heap.size w).alloc (Nat.le_refl _) _).alloc (by simp) _).alloc (by simp; omega) _
  obtain ⟨v1, hv1⟩ : ∃ v, v = u1.alloc (.cells #[.slice (some ⟨p, off, none⟩) 4 ca] 24) := ⟨_, rfl⟩
  have z2 : v1.heap.size = w.heap.size + 4 := by rw [hv1]; simp; omega
  have m0 : Cw v1 w.heap.size (.int .i64 0) := by rw [hv1]; exact k0.alloc _
  have m1 : Cw v1 (w.heap.size + 1) (.bool false) := by rw [hv1]; exact k1.alloc _
  have m2 : Cw v1 (w.heap.size + 2) (.int .i64 0) := by rw [hv1]; exact k2.alloc _
  have m4 : v1.cell? ⟨u1.heap.size, 0, none⟩ = some (.slice (some ⟨p, off, none⟩) 4 ca) := by rw [hv1]; exact (Cw.new u1 _ _ rfl).1
  have m3 : Below w.heap.size w v1 := by rw [hv1]; exact k3.alloc (by omega) _
  have mc : ∀ j, j < 4 → v1.cell? ⟨p, off + j, none⟩ = some (.int .i64 (l.getD j 0)) := fun j hj => (m3.cell (p := ⟨p, off + j, none⟩) hp).trans (hc j hj)
  have Z1 := Lib.hid z1; have Z2 := Lib.hid z2; have M0 := Lib.hid m0; have M1 := Lib.hid m1; have M2 := Lib.hid m2; have M3 := Lib.hid m3; have M4 := Lib.hid m4; have MC := Lib.hid mc; have HP := Lib.hid hp
  clear k0 k1 k2 k3 m0 m1 m2 m3 m4 mc hc z1 z2 hp hl
  refine (callsIn_wide (n := 6)).1 ?_
  refine callsIn_of_wp_marks Try.func11 rfl trivial ?_ rfl
  simp only [Try.ntmps11, List.size_toArray, List.length_cons, List.length_nil, Nat.reduceAdd, Nat.reduceSub, Array.replicate_succ, Array.replicate_zero, List.push_toArray, List.append_toArray, List.nil_append, List.cons_append]
  gi_wp2_with fail
  refine ⟨trivial, (callsIn_wide.2 (CH.out _)).mono ?_⟩
  rintro e v9 ⟨rfl, hv9⟩
  rw [← hu1] at hv9 ⊢
  rw [← hv1] at hv9
  subst hv9
  clear hu1 hv1
  gi_wp2
  have y1 := Z1.out; have y2 := Z2.out; have y3 := HP.out
  refine wpIn_rangeFunc_ownG rfl (by omega) (gf := 41) (lb := #[.pointer (some ⟨u1.heap.size, 0, none⟩)]) rfl trivial (enters_of Try.func41 (by kernel_rfl) rfl)
    (back_stops _ (by omega) u1.heap.size p off ca l v9 (by omega) (by omega) M4.out MC.out) kpc_t (fun W l o o' hl _ _ _ => kpc_b (n := v9.heap.size) (by omega) (by omega) W l o' hl) (Below.refl _ _) (fun _ => rfl)
    (fun pre W => (Cw W w.heap.size (.int .i64 0) ∧ Cw W (w.heap.size + 1) (.bool false) ∧ Cw W (w.heap.size + 2) (.int .i64 (accP l pre)) ∧ gooP l pre) ∧ Below w.heap.size w W)
    (fun c _ W => (c = .ret ∧ Cw W w.heap.size (.int .i64 0) ∧ Cw W (w.heap.size + 1) (.bool false) ∧ paqE l = false) ∧ Below w.heap.size w W)
    (OwnFrom.and (fun s A' B' row hs hg hr => ⟨hs.1.kept hg fun r e => (hr r e).2, hs.2.1.kept hg fun r e => (hr r e).2, hs.2.2.1.kept hg fun r e => (hr r e).2, hs.2.2.2⟩) (ownFrom_below (Nat.le_refl _) (by omega)))
    (fun c => OwnFrom.and (fun s A' B' row hs hg hr => ⟨hs.1, hs.2.1.kept hg fun r e => (hr r e).2, hs.2.2.1.kept hg fun r e => (hr r e).2, hs.2.2.2⟩) (ownFrom_below (Nat.le_refl _) (by omega)))
    ⟨⟨M0.out, M1.out, M2.out, fun x hx => by cases hx⟩, M3.out⟩
    ?a1 ?assign ?body ?done ?stop
  case assign =>
    intro l x W K hK
    gi_wp2
    exact hK
  case body =>
    rintro ln pre x W ⟨⟨h0, h1, h2, hg⟩, hB⟩ hlen
    have hsn := accP_snoc l pre x
    obtain ⟨r1, r2⟩ := accP_small hg hlen
    have HG := Lib.hid hg
    have HH0 := Lib.hid h0; have HH1 := Lib.hid h1; have HH2 := Lib.hid h2
    have HBW := Lib.hid hB
    obtain ⟨n0, hn0⟩ : ∃ n0, n0 = accP l pre := ⟨_, rfl⟩
    rw [← hn0] at hsn r1 r2 h2
    have hg2 : ∀ y, y ∈ pre ++ [x] → laE (atB l x) = true → laE (atB l y) = true := fun y hy hx => by
      rw [List.mem_append] at hy
      rcases hy with hy | hy
      · exact hg y hy
      · rw [List.mem_singleton] at hy
        rw [hy]; exact hx
    have HG2 := Lib.hid hg2
    have hbad := fun h => paqE_bad HL.out (x := x) h
    have HBAD := Lib.hid hbad
    obtain ⟨v, hv⟩ : ∃ v, v = atB l x := ⟨_, rfl⟩
    rw [← hv] at hsn HG2 HBAD ⊢
    obtain ⟨c0, f0⟩ := h0
    obtain ⟨c1, f1⟩ := h1
    obtain ⟨c2, f2⟩ := h2
    have HSN := Lib.hid hsn
    have HV := Lib.hid hv
    have HN := Lib.hid hn0
    clear hg hg2 hbad hv hn0 hsn hB
    cases hla : laE v with
    | true =>
      have hb := laE_true.1 hla
      have d1 : decide (v < 0) = false := by simp; omega
      have d2 : decide (32767 < v) = false := by simp; omega
      have HLA := Lib.hid hla
      clear hla
      gi_wp2
      refine ⟨(KeepsOthers.setCell W _ _).from _, kpc_set (by omega) (by omega) W _, ⟨HH0.out.other (by omega) _, HH1.out.other (by omega) _, ?_, fun y hy => HG2.out y hy HLA.out⟩, HBW.out.setCell (p := ⟨w.heap.size + 1 + 1, 0, none⟩) (by show w.heap.size ≤ w.heap.size + 1 + 1; omega) _⟩
      rw [HSN.out]
      exact HH2.out.set _
    | false =>
      have hb := laE_false.1 hla
      have HP2 := Lib.hid (HBAD.out hla)
      have s1 := HH0.out.set (.int .i64 0)
      have s2 := (HH1.out.other (c := w.heap.size) (by omega) (.int .i64 0)).set (.bool false)
      have s3 := s1.other (c := w.heap.size + 1) (by omega) (.bool false)
      have S2 := Lib.hid s2; have S3 := Lib.hid s3
      have k1 : W.cell? ⟨w.heap.size + 1, 0, none⟩ = some (.bool false) := c1
      have B9 := Lib.hid ((HBW.out.setCell (p := ⟨w.heap.size, 0, none⟩) (Nat.le_refl _) (.int .i64 0)).setCell (p := ⟨w.heap.size + 1, 0, none⟩) (by show w.heap.size ≤ w.heap.size + 1; omega) (.bool false))
      have K9 := Lib.hid ((KeepsOthers.setCell W ⟨w.heap.size, 0, none⟩ (.int .i64 0)).trans (KeepsOthers.setCell _ ⟨w.heap.size + 1, 0, none⟩ (.bool false)))
      clear hla s1 s2 s3 k1 HBAD
      by_cases hv0 : v < 0
      · have d1 : decide (v < 0) = true := by simp; omega
        gi_wp2
        exact ⟨K9.out.from _, ⟨rfl, S3.out, S2.out, HP2.out⟩, B9.out⟩
      · have d1 : decide (v < 0) = false := by simp; omega
        have d2 : decide (32767 < v) = true := by simp; omega
        gi_wp2
        exact ⟨K9.out.from _, ⟨rfl, S3.out, S2.out, HP2.out⟩, B9.out⟩
  case stop =>
    rintro D c pre W hD _ ⟨⟨rfl, h0, h1, hE⟩, hB⟩ hK
    have hV : paqV l = 0 := by unfold paqV; rw [hE]; rfl
    have HE := Lib.hid hE; have HV := Lib.hid hV
    have e0 := (h0.kept (grownBy_putObj' W D (.deferred none)) (fun r e => by cases e; exact ⟨_, hK, rfl⟩)).1
    have e1 := (h1.kept (grownBy_putObj' W D (.deferred none)) (fun r e => by cases e; exact ⟨_, hK, rfl⟩)).1
    have B9 := Lib.hid (hB.trans (belowK_b (w := w) (Nat.le_refl _) W D (.deferred (some [])) (.deferred none) (by omega) hK rfl rfl))
    have K9 := Lib.hid hK
    clear h0 h1 hE hV hB hK
    gi_wp2
    refine ⟨by simp, .inl ⟨_, _, rfl, run_takeDeferred K9.out, ?_⟩⟩
    exact ⟨.tuple #[.int .i64 0, .bool false], by simp [results, Try.results11, go_sem, e0, e1], by rw [HE.out, HV.out], B9.out⟩
  case done =>
    rintro D xs x1 hD rfl ⟨⟨h0, h1, h2, hg⟩, hB⟩ hK
    have hE := gooP_all HL.out hg
    have hV : paqV l = accP l (List.finRange 4) := by rw [accP_all HL.out]; unfold paqV; rw [if_pos hE]
    have HE := Lib.hid hE
    obtain ⟨V, hV2⟩ : ∃ V, V = accP l (List.finRange 4) := ⟨_, rfl⟩
    rw [← hV2] at hV h2
    have HV := Lib.hid hV
    have s1 := h0.set (.int .i64 V)
    have s2 := (h1.other (c := w.heap.size) (by omega) (.int .i64 V)).set (.bool true)
    have s3 := s1.other (c := w.heap.size + 1) (by omega) (.bool true)
    have KO := (KeepsOthers.setCell x1 ⟨w.heap.size, 0, none⟩ (.int .i64 V)).trans (KeepsOthers.setCell _ ⟨w.heap.size + 1, 0, none⟩ (.bool true))
    have hK9 := KO.same D _ hK rfl
    have hB9 := (hB.setCell (p := ⟨w.heap.size, 0, none⟩) (Nat.le_refl _) (.int .i64 V)).setCell (p := ⟨w.heap.size + 1, 0, none⟩) (by show w.heap.size ≤ w.heap.size + 1; omega) (.bool true)
    have e0 := (s3.kept (grownBy_putObj' _ D (.deferred none)) (fun r e => by cases e; exact ⟨_, hK9, rfl⟩)).1
    have e1 := (s2.kept (grownBy_putObj' _ D (.deferred none)) (fun r e => by cases e; exact ⟨_, hK9, rfl⟩)).1
    have B9 := Lib.hid (hB9.trans (belowK_b (w := w) (Nat.le_refl _) _ D (.deferred (some [])) (.deferred none) (by omega) hK9 rfl rfl))
    have K9 := Lib.hid hK9
    have E0 := Lib.hid e0; have E1 := Lib.hid e1
    obtain ⟨c0, f0⟩ := h0
    obtain ⟨c1, f1⟩ := h1
    obtain ⟨c2, f2⟩ := h2
    clear s1 s2 s3 KO hK9 hB9 e0 e1 hE hV hV2 hg hB hK
    gi_wp2
    refine ⟨by simp, .inl ⟨_, _, rfl, run_takeDeferred K9.out, ?_⟩⟩
    have e0 := E0.out; have e1 := E1.out
    exact ⟨.tuple #[.int .i64 V, .bool true], by simp [results, Try.results11, go_sem, e0, e1], by rw [HE.out, HV.out], B9.out⟩
set_option maxRecDepth 100000 in
set_option maxHeartbeats 1000000 in
theorem impl_pack_off (A : Option Addr) (n ca : Nat) (hn : n ≠ 4) (hm : n ≤ 281474976710656) (w : World) :
    Calls Try.prog 11 #[.slice A n ca] w fun e w' => e = .returned (.tuple #[.int .i64 0, .bool false]) ∧ Below w.heap.size w w' := by
  have q : ((n : Int) != 4) = true := by rw [bne_iff_ne]; omega
  have hb : Below w.heap.size w (((w.alloc (.cells #[.int .i64 0] 3)).alloc (.cells #[.bool false] 4))) := ((Below.refl w.heap.size w).alloc (Nat.le_refl _) _).alloc (by simp) _
  have k0 : Cw ((w.alloc (.cells #[.int .i64 0] 3)).alloc (.cells #[.bool false] 4)) w.heap.size (.int .i64 0) := (Cw.new w _ _ rfl).alloc _
  have k1 : Cw ((w.alloc (.cells #[.int .i64 0] 3)).alloc (.cells #[.bool false] 4)) (w.heap.size + 1) (.bool false) := Cw.new (w.alloc (.cells #[.int .i64 0] 3)) _ _ (by simp)
  have B := Lib.hid hb
  have e0 := k0.1; have e1 := k1.1
  clear hb k0 k1
  go_enter Try.func11, Try.ntmps11
  go_wp2
  refine bodyPost_ret (v := .tuple #[.int .i64 0, .bool false]) (by simp [results, Try.results11, go_sem, e0, e1]) rfl ⟨rfl, B.out⟩
theorem impl_pack_any (A : Option Addr) (ca : Nat) (l : List Int) (w : World) (hA : Ints w w.heap.size A l) :
    Calls Try.prog 11 #[.slice A l.length ca] w fun e w' => e = .returned (.tuple #[.int .i64 (paqV l), .bool (paqE l)]) ∧ Below w.heap.size w w' := by
  by_cases hl : l.length = 4
  · obtain ⟨p, off, rfl, hp, hc⟩ := hA.at 0 (by omega)
    rw [hl]
    exact impl_pack_four p off ca l hl w hp (fun j hj => hc j (by omega))
  · have e1 : paqE l = false := by unfold paqE; rw [decide_eq_false hl]; rfl
    have e2 : paqV l = 0 := by unfold paqV; rw [e1]; rfl
    rw [e1, e2]
    exact impl_pack_off A l.length ca hl hA.1 w
end Go.Proofs.Ytbiffijjmhpkpaa
