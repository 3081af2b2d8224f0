/-
  The walk of the law FnLinear. No condition.
-/
import Derived.Test.YtcmijednpnabmaaLiftB
import Derived.Test.YtcmijednpnabmaaLiftE
import Derived.Test.YtcmijednpnabmaaLiftG
import Derived.Test.YtcmijednpnabmaaFormB
import Derived.Test.YtcmijednpnabmaaFormF
import Derived.Test.YtcmijednpnabmaaFormG
import Derived.Test.YtcmijednpnabmaaMatS
import Derived.Deep.RegionHeld3
import Derived.Test.YtcmijednpnabmaaLiftK
import Derived.BigQuiet
namespace Go.Proofs.Ytcmijednpnabmaa
open Go.RowKit
set_option linter.unusedVariables false

/-- Two values that lie in no block together. -/
def Ap (v u : Value) : Prop := ∀ k, v.ownBlock = some k → u.ownBlock = some k → False
theorem Ap.turn {v u : Value} (h : Ap v u) : Ap u v := fun k h1 h2 => h k h2 h1
theorem Ap.ne {v u : Value} (h : Ap v u) : v.ownBlock = none ∨ v.ownBlock ≠ u.ownBlock := by
  cases hv : v.ownBlock with
  | none => exact .inl rfl
  | some k => exact .inr fun e => h k hv e.symm
theorem Ap.grew {v v' u : Value} {N : Nat} (h : Ap v u) (hv : v'.ownBlock = v.ownBlock ∨ v'.ownBlock = some N) (hu : ∀ k, u.ownBlock = some k → k < N) : Ap v' u := by
  intro k h1 h2
  rcases hv with e | e
  · exact h k (e ▸ h1) h2
  · rw [e] at h1
    have := hu k h2
    injection h1 with h1
    omega
/-- append of one integer in a region that draws its order: where the row lies afterwards, too. -/
theorem step_append_int {P : Program} {w : World} (w0 : World) {ops : Array Oper} {o : Oper} {a : Act} {K : Act → World → Prop} {Q : Exit → Act → World → Prop} {E : Prop} (hgd : o.guard = none) (s x : Operand) (t : TypeId)
    (ho : o.op = .call { callee := .builtin .append, args := #[s, x], argTypes := #[t, t] })
    (base : Nat) (e : TypeId) (i : TypeInfo) (ht : P.underlying t = some (.slice e)) (hi : P.info? e = some i) (hz : i.zero = some (.int .i64 0))
    (hsize : i.size = 1) (hby : i.bytes = 8)
    (v : Value) (n : Nat) (l : List Int) (hs : a.eval s = v) (hown : w0.ownsRow base e 1 v n (ivs l))
    (y : Int) (hw : w = w0.alloc (.cells #[.int .i64 y] e)) (hx : a.eval x = .slice (some ⟨w0.heap.size, 0, none⟩) 1 1) (hn : n ≤ 4000000) (hb : base ≤ w0.heap.size)
    (h : ∀ v' w', w'.ownsRow base e 1 v' (n + 1) (ivs (l ++ [y])) → w0.grownBy w' v.ownBlock → (v'.ownBlock = v.ownBlock ∨ v'.ownBlock = some (w0.heap.size + 1)) → K (a.put o.dst v') w') :
    if Region.wanted o (yielded ops a.tmps) = true then Oper.wp P o a w K Q else E := by
  have hw' : Region.wanted o (yielded ops a.tmps) = true := by simp [Region.wanted, hgd]
  rw [if_pos hw']
  subst hw
  obtain ⟨v', w', hr, h2, h3, h4, h5⟩ := run_append_own_at (P := P) (w := w0.alloc (.cells #[.int .i64 y] e)) base t o.type e i (.int .i64 0) 1 8 ht hi hz hsize hby rfl (by decide) v n (ivs l) (hown.alloc _) ⟨w0.heap.size, 0, none⟩ 1 1 [.int .i64 y] rfl (cell_one_new _ _ _) (fun u hu => by simp at hu; subst hu; rfl) (by unfold maxLen; omega) (by omega) (by simp; omega)
  unfold Oper.wp execOp
  simp only [ho, resolve, invoke, builtin, Sem.run_bind, Sem.run_pure, Result.andThen_ok, List.map_toArray, List.map_cons, List.map_nil, hs, hx, hr]
  refine h v' w' ?_ ?_ (by simpa using h5)
  · rw [ivs_append]
    exact h2
  · refine ⟨h3.os, h3.tape, h3.output, by have := h3.size; simp at this; omega, fun k hk hne => ?_⟩
    rw [h3.block k (by simp; omega) hne]
    exact Below.heap_alloc _ _ _ hk
theorem two_alloc {w : World} {a b : Addr} {u v : Value} (h : w.cell? a = some u ∧ w.cell? b = some v) (o : Obj) : (w.alloc o).cell? a = some u ∧ (w.alloc o).cell? b = some v := ⟨alloc_cell o h.1, alloc_cell o h.2⟩
theorem two_drew {w : World} {a b : Addr} {u v : Value} (h : w.cell? a = some u ∧ w.cell? b = some v) : w.drew.cell? a = some u ∧ w.drew.cell? b = some v := h
theorem below_drews {B : Nat} {w w' : World} (h : Below B w w') : ∀ n, Below B w (w'.drewN n) := fun n => ⟨h.os, h.tape, h.output, h.size, h.block⟩
theorem cells_past {w0 w' : World} {v : Value} {g j : Nat} {u : Value} (hg : w0.grownBy w' v.ownBlock) (hne : v.ownBlock ≠ some g) (hlt : g < w0.heap.size) (h : w0.cell? ⟨g, j, none⟩ = some u) : w'.cell? ⟨g, j, none⟩ = some u := (World.cell?_of_block (hg.block g hlt (fun e => hne e.symm))).trans h
theorem snoc_last {p : List Int} {j : Nat} (hp : p.length = j) (x : Int) : (p ++ [x]).getD j 0 = x := by
  rw [List.getD_eq_getElem?_getD, List.getElem?_append_right (by omega), hp, Nat.sub_self]
  rfl
theorem snoc_old {p : List Int} {j k : Nat} (hp : p.length = j) (x : Int) (hk : k < j) : (p ++ [x]).getD k 0 = p.getD k 0 := by
  rw [List.getD_eq_getElem?_getD, List.getElem?_append_left (by omega), ← List.getD_eq_getElem?_getD]
theorem snoc_sums {p q r : List Int} {j : Nat} (hp : p.length = j) (hq : q.length = j) (hr : r.length = j) (h : ∀ t, t < j → r.getD t 0 = p.getD t 0 + q.getD t 0) (x y : Int) : ∀ t, t < j + 1 → (r ++ [x + y]).getD t 0 = (p ++ [x]).getD t 0 + (q ++ [y]).getD t 0 := by
  intro t ht
  by_cases e : t = j
  · subst e
    rw [snoc_last hp, snoc_last hq, snoc_last hr]
  · rw [snoc_old hp x (by omega), snoc_old hq y (by omega), snoc_old hr _ (by omega)]
    exact h t (by omega)
def suS (l : List Int) (j : Nat) : Int := sumTo (fun i => l.getD i 0) j
theorem suS_snoc {p : List Int} {j : Nat} (hp : p.length = j) (x : Int) : suS (p ++ [x]) (j + 1) = suS p j + x := by
  have e3 : suS (p ++ [x]) (j + 1) = suS (p ++ [x]) j + (p ++ [x]).getD j 0 := rfl
  rw [e3, snoc_last hp]
  exact congrArg (· + x) (sumTo_congr j fun k hk => snoc_old hp x hk)
/-- What the law's rows hold. -/
theorem lin_first (p q r : List Int) (hp : p.length = 64) (hq : q.length = 64) (hr : r.length = 64) (hpr : ∀ u, u < 64 → -300 ≤ p.getD u 0 ∧ p.getD u 0 ≤ 500) (hqr : ∀ u, u < 64 → -300 ≤ q.getD u 0 ∧ q.getD u 0 ≤ 500) (hrs : ∀ u, u < 64 → r.getD u 0 = p.getD u 0 + q.getD u 0) :
    (xfR 8 true p).length = 64 ∧ (xfR 8 true q).length = 64 ∧ (xfR 8 false r).length = 64 ∧ (xfR 4 true (p.take 16)).length = 16 ∧ (xfR 4 true (q.take 16)).length = 16 ∧ (xfR 4 true (r.take 16)).length = 16 ∧ (xfR 8 true p).getD 0 0 = suS p 64 ∧
    (∀ k, k < 64 → (xfR 8 false r).getD k 0 = (xfR 8 true p).getD k 0 + (xfR 8 true q).getD k 0 ∧ -100000 ≤ (xfR 8 true p).getD k 0 ∧ (xfR 8 true p).getD k 0 ≤ 100000 ∧ -100000 ≤ (xfR 8 true q).getD k 0 ∧ (xfR 8 true q).getD k 0 ≤ 100000) ∧
    (∀ k, k < 16 → (xfR 4 true (r.take 16)).getD k 0 = (xfR 4 true (p.take 16)).getD k 0 + (xfR 4 true (q.take 16)).getD k 0 ∧ -100000 ≤ (xfR 4 true (p.take 16)).getD k 0 ∧ (xfR 4 true (p.take 16)).getD k 0 ≤ 100000 ∧ -100000 ≤ (xfR 4 true (q.take 16)).getD k 0 ∧ (xfR 4 true (q.take 16)).getD k 0 ≤ 100000) := by
  have tk : ∀ (l : List Int) (k : Nat), k < 16 → (l.take 16).getD k 0 = l.getD k 0 := fun l k hk => by
    rw [List.getD_eq_getElem?_getD, List.getD_eq_getElem?_getD, List.getElem?_take, if_pos hk]
  have rr : ∀ u, u < 64 → -600 ≤ r.getD u 0 ∧ r.getD u 0 ≤ 1000 := fun u hu => by have := hpr u hu; have := hqr u hu; have := hrs u hu; omega
  have f1 : fitL 8 p = true := fitL_of hp fun i hi => by have := hpr i hi; omega
  have f2 : fitL 8 q = true := fitL_of hq fun i hi => by have := hqr i hi; omega
  have f3 : fitL 8 r = true := fitL_of hr fun i hi => by have := rr i hi; omega
  have f4 : fitL 4 (p.take 16) = true := fitL_of (by rw [List.length_take]; omega) fun i hi => by rw [tk p i (by omega)]; have := hpr i (by omega); omega
  have f5 : fitL 4 (q.take 16) = true := fitL_of (by rw [List.length_take]; omega) fun i hi => by rw [tk q i (by omega)]; have := hqr i (by omega); omega
  have f6 : fitL 4 (r.take 16) = true := fitL_of (by rw [List.length_take]; omega) fun i hi => by rw [tk r i (by omega)]; have := rr i (by omega); omega
  rw [xfR_fit true f1, xfR_fit true f2, xfR_fit false f3, xfR_fit true f4, xfR_fit true f5, xfR_fit true f6, ← mul_sym r]
  refine ⟨mulF_len _ _ _, mulF_len _ _ _, mulF_len _ _ _, mulF_len _ _ _, mulF_len _ _ _, mulF_len _ _ _, mul_first p, fun k hk => ?_, fun k hk => ?_⟩
  · have b1 := mul_bound_eight true (l := p) (B := 500) (by decide) (fun i hi => by have := hpr i hi; omega) k hk
    have b2 := mul_bound_eight true (l := q) (B := 500) (by decide) (fun i hi => by have := hqr i hi; omega) k hk
    have e := mul_add_list (n := 8) (matE 8 true) (a := p) (b := q) (c := r) hrs (y := k / 8) (x := k % 8) (by omega) (by omega)
    rw [show k / 8 * 8 + k % 8 = k by omega] at e
    exact ⟨e.symm, by omega, by omega, by omega, by omega⟩
  · have b1 := mul_bound_four true (l := p.take 16) (B := 500) (by decide) (fun i hi => by rw [tk p i hi]; have := hpr i (by omega); omega) k hk
    have b2 := mul_bound_four true (l := q.take 16) (B := 500) (by decide) (fun i hi => by rw [tk q i hi]; have := hqr i (by omega); omega) k hk
    have e := mul_add_list (n := 4) (matE 4 true) (a := p.take 16) (b := q.take 16) (c := r.take 16) (fun i hi => by rw [tk p i hi, tk q i hi, tk r i hi]; exact hrs i (by omega)) (y := k / 4) (x := k % 4) (by omega) (by omega)
    rw [show k / 4 * 4 + k % 4 = k by omega] at e
    exact ⟨e.symm, by omega, by omega, by omega, by omega⟩
theorem own_len {w : World} {base : Nat} {v : Value} {n : Nat} {l : List Int} (h : w.ownsRow base 3 1 v n (ivs l)) : l.length = n := by
  have := h.1
  rw [ivs_len] at this
  omega
/-- The first sixteen of a row. -/
theorem ints_first {w : World} {g : Nat} {A : Option Addr} {l : List Int} (h : Ints w g A l) (hl : l.length = 64) : Ints w g A (l.take 16) := by
  obtain ⟨b, off, rfl, hb, hc⟩ := h.at 0 (by omega)
  refine ⟨by rw [List.length_take]; omega, .inr ⟨b, off, rfl, hb, fun j hj => ?_⟩⟩
  rw [List.length_take] at hj
  rw [hc j (by omega), List.getD_eq_getElem?_getD, List.getD_eq_getElem?_getD, List.getElem?_take, if_pos (by omega)]

set_option maxRecDepth 100000 in
set_option maxHeartbeats 8000000 in
/-- The law's own walk. -/
theorem fnLinear_walk (a : Option Addr) (len cap : Nat) (zs : List Int) (w : World) (hr : IsRow .u8 w a len cap zs) :
    Calls Try.prog 10 #[.slice a len cap] w fun e w' => e = .returned (.bool true) ∧ Below w.heap.size w w' := by
  have hlm := hr.len_le
  unfold maxLen at hlm
  by_cases hbig : 1048576 < len
  · have BG := Lib.hid (big_any a len cap hlm)
    have hb : decide (1048576 < (len : Int)) = true := decide_eq_true (by omega)
    rw [hb] at BG
    clear hr hlm hbig hb
    go_enter Try.func10, Try.ntmps10
    go_wp2_with fail
    refine (BG.out _).mono ?_
    rintro e w1 ⟨rfl, hw⟩
    subst hw
    go_wp2
    go_ret
    exact ⟨rfl, Below.refl _ _⟩
  · have hbigF : decide (1048576 < (len : Int)) = false := decide_eq_false (by omega)
    obtain ⟨ys, rfl, hW⟩ := code_of hr (by omega)
    have BG := Lib.hid (big_any a ys.length cap hlm)
    rw [hbigF] at BG
    have AT := Lib.hid fun i hi => at_det a cap ys (by omega) i hi
    have HW := Lib.hid hW
    have F8 := Lib.hid @impl_fast8_any; have G8 := Lib.hid @impl_inverse8_any; have H8 := Lib.hid @impl_forward8_any
    have F4 := Lib.hid @impl_fast4_any; have G4 := Lib.hid @impl_inverse4_any
    obtain ⟨i0, hii, hz0, hz1, hz2⟩ := info_parts Try.iinfo
    have hb1 := below_new w (.cells (ivs []).toArray 3)
    have hb2 := hb1.alloc hb1.size (.cells (ivs []).toArray 3)
    have B0 := Lib.hid (hb2.alloc hb2.size (.cells (ivs []).toArray 3))
    have OA := Lib.hid (((own_ints w w.heap.size [] (Nat.le_refl _) (by simp)).alloc (.cells (ivs []).toArray 3)).alloc (.cells (ivs []).toArray 3))
    have OB := Lib.hid ((own_ints (w.alloc (.cells (ivs []).toArray 3)) w.heap.size [] hb1.size (by simp)).alloc (.cells (ivs []).toArray 3))
    have OC := Lib.hid (own_ints ((w.alloc (.cells (ivs []).toArray 3)).alloc (.cells (ivs []).toArray 3)) w.heap.size [] hb2.size (by simp))
    have ob := OB.out; have oc := OC.out
    rw [World.size_alloc] at ob
    rw [World.size_alloc, World.size_alloc] at oc
    have OB := Lib.hid ob; have OC := Lib.hid oc
    clear hb1 hb2 ob oc
    clear hr hbig hbigF hlm hW
    go_enter Try.func10, Try.ntmps10
    go_wp2_with fail
    refine (BG.out _).mono ?_
    rintro e w1 ⟨rfl, hw⟩
    subst hw
    go_wp2
    go_loopw [3, 4, 5, 6, 7] (fun va vb vc s i wr => ∃ (j : Nat) (p q r : List Int) (t : Int), j ≤ 64 ∧ i = .int .i64 j ∧ s = .int .i64 t ∧ (∀ u, u < j → -300 ≤ p.getD u 0 ∧ p.getD u 0 ≤ 500) ∧ (∀ u, u < j → -300 ≤ q.getD u 0 ∧ q.getD u 0 ≤ 500) ∧ (∀ u, u < j → r.getD u 0 = p.getD u 0 + q.getD u 0) ∧ (t = suS p j ∧ -(1000 * (j : Int)) ≤ t ∧ t ≤ 1000 * (j : Int)) ∧ (wr.ownsRow w.heap.size 3 1 va j (ivs p) ∧ wr.ownsRow w.heap.size 3 1 vb j (ivs q) ∧ wr.ownsRow w.heap.size 3 1 vc j (ivs r)) ∧ (Ap va vb ∧ Ap va vc ∧ Ap vb vc) ∧ Below w.heap.size w wr)
      (fun _ _ _ _ i _ => 64 - (intOf i).toNat)
    case atStart =>
      refine ⟨0, [], [], [], 0, Nat.zero_le _, rfl, rfl, fun u hu => absurd hu (by omega), fun u hu => absurd hu (by omega), fun u hu => absurd hu (by omega), ⟨rfl, by decide, by decide⟩, ⟨OA.out, OB.out, OC.out⟩, ⟨?_, ?_, ?_⟩, B0.out⟩
      all_goals
        intro k h1 h2
        simp [Value.ownBlock] at h1 h2
        omega
    case round =>
      obtain ⟨j, p, q, r, t, hj, rfl, rfl, hpr, hqr, hrs, hts, ⟨hoa, hob, hoc⟩, ⟨hab, hac, hbc⟩, hbel⟩ := hrel
      have HPR := Lib.hid hpr; have HQR := Lib.hid hqr; have HRS := Lib.hid hrs; have HTS := Lib.hid hts; have HB := Lib.hid hbel
      have LP := Lib.hid (own_len hoa); have LQ := Lib.hid (own_len hob); have LR := Lib.hid (own_len hoc)
      have HAB := Lib.hid hab; have HAC := Lib.hid hac; have HBC := Lib.hid hbc
      clear hpr hqr hrs hts hbel hab hac hbc
      by_cases hlt : j < 64
      · have d1 : decide ((j : Int) < 64) = true := by simp; omega
        obtain ⟨x, hx0, hx9, hat⟩ := AT.out j (by omega)
        obtain ⟨y, hy0, hy9, hbt⟩ := AT.out (j + 64) (by omega)
        have S0 : w.heap.size ≤ wr.heap.size := HB.out.size
        have AX := Lib.hid (hat wr (HW.out.below HB.out)); have AY := Lib.hid hbt
        obtain ⟨x2, hx2⟩ : ∃ z, z = x - 128 := ⟨_, rfl⟩
        obtain ⟨y2, hy2⟩ : ∃ z, z = 3 * y - 300 := ⟨_, rfl⟩
        have x2r : -300 ≤ x2 ∧ x2 ≤ 500 := by omega
        have y2r : -300 ≤ y2 ∧ y2 ≤ 500 := by omega
        have hw1 : wrap64 (x - 128) = x2 := by rw [hx2]; exact wr_id (by omega)
        have hw2 : wrap64 (wrap64 (3 * y) - 300) = y2 := by rw [wr_id (x := 3 * y) (by omega), hy2]; exact wr_id (by omega)
        rw [show ((j + 64 : Nat) : Int) = (j : Int) + 64 by omega] at hbt
        have hts := HTS.out.2
        have X2R := Lib.hid x2r; have Y2R := Lib.hid y2r; have HT := Lib.hid hts
        have W1 := Lib.hid hw1; have W2 := Lib.hid hw2
        clear hx2 hy2 hx0 hx9 hy0 hy9 hw1 hw2
        have b1 : -9223372036854775808 ≤ t + x2 ∧ t + x2 ≤ 9223372036854775807 := by omega
        have b2 : -9223372036854775808 ≤ x2 + y2 ∧ x2 + y2 ≤ 9223372036854775807 := by omega
        have b3 : -9223372036854775808 ≤ (j : Int) + 64 ∧ (j : Int) + 64 ≤ 9223372036854775807 := by omega
        have hw3 : IntKind.i64.wrap (x2 + y2) = x2 + y2 := IntWalk.i64_in _ b2
        have hw6 : wrap64 ((j : Int) + 64) = (j : Int) + 64 := wr_id b3
        have hw5 : wrap64 (t + x2) = t + x2 := wr_id b1
        have hw7 : IntKind.i64.wrap (t + x2) = t + x2 := IntWalk.i64_in _ b1
        clear hat hbt hts x2r y2r b1 b2 b3
        go_wp2_with fail
        refine AX.out.mono ?_
        rintro e w1 ⟨rfl, hw⟩
        subst hw
        go_wp2_with (at_builtin; refine append_int wr rfl (.tmp 24) (.tmp 29) 22 rfl w.heap.size 3 i0 Try.underlying22 hii hz0 hz1 hz2 _ _ _ rfl hoa x2 (by rw [W1.out]) rfl (by omega) S0 ?_; intro va' w1 hoa' hga hva)
        have hga : World.grownBy wr w1 _ := hga
        have HB1 := Lib.hid (HB.out.trans (below_row hga hoa S0))
        have hob1 := hob.kept hga HAB.out.turn.ne; have hoc1 := hoc.kept hga HAC.out.turn.ne
        have HAB1 := Lib.hid (HAB.out.grew hva fun k hk => by have := (hob.lt k hk).2; omega); have HAC1 := Lib.hid (HAC.out.grew hva fun k hk => by have := (hoc.lt k hk).2; omega)
        have S1 : w.heap.size ≤ w1.heap.size := HB1.out.size
        have AY1 := Lib.hid (AY.out w1 (HW.out.below HB1.out))
        clear hga hva hoa hob hoc S0 AX AY
        refine AY1.out.mono ?_
        rintro e w2 ⟨rfl, hw⟩
        subst hw
        go_wp2_with (at_builtin; refine append_int w1 rfl (.tmp 31) (.tmp 38) 22 rfl w.heap.size 3 i0 Try.underlying22 hii hz0 hz1 hz2 _ _ _ rfl hob1 y2 (by rw [W2.out]) rfl (by omega) S1 ?_; intro vb' w2 hob' hgb hvb)
        have hgb : World.grownBy w1 w2 _ := hgb
        have HB2 := Lib.hid (HB1.out.trans (below_row hgb hob1 S1))
        have hoa2 := hoa'.kept hgb HAB1.out.ne; have hoc2 := hoc1.kept hgb HBC.out.turn.ne
        have HAB2 := Lib.hid ((HAB1.out.turn.grew hvb fun k hk => by have := (hoa'.lt k hk).2; omega).turn); have HBC2 := Lib.hid (HBC.out.grew hvb fun k hk => by have := (hoc1.lt k hk).2; omega)
        have S2 : w.heap.size ≤ w2.heap.size := HB2.out.size
        clear hgb hvb hoa' hob1 hoc1 AY1
        obtain ⟨Aa, ca, rfl⟩ := own_form2 hoa2
        obtain ⟨Ab, cb, rfl⟩ := own_form2 hob'
        have la := own_len hoa2; have lb := own_len hob'
        obtain ⟨ga, rfl, -, hga2, hnca, hcma⟩ := own_where' hoa2 la (by omega)
        obtain ⟨gb, rfl, -, hgb2, hncb, hcmb⟩ := own_where' hob' lb (by omega)
        unfold maxLen at hcma hcmb
        have cla := own_cells' hoa2 la j (by omega); have clb := own_cells' hob' lb j (by omega)
        rw [snoc_last LP.out] at cla
        rw [snoc_last LQ.out] at clb
        have hS0 : w2.cell? ⟨ga, j, none⟩ = some (.int .i64 x2) ∧ w2.cell? ⟨gb, j, none⟩ = some (.int .i64 y2) := ⟨cla, clb⟩
        have hS := two_drew hS0
        have OC2 := Lib.hid hoc2.drew; have OA2 := Lib.hid hoa2; have OB2 := Lib.hid hob'; have LA := Lib.hid la; have LB := Lib.hid lb
        have S3 : w.heap.size ≤ w2.drew.heap.size := S2
        have NA : Hid (u5.ownBlock ≠ some ga) := Lib.hid (fun e => HAC1.out ga rfl e); have NB : Hid (u5.ownBlock ≠ some gb) := Lib.hid (fun e => HBC2.out gb rfl e)
        have GA : Hid (ga < w2.drew.heap.size) := Lib.hid hga2; have GB : Hid (gb < w2.drew.heap.size) := Lib.hid hgb2
        have hj0 : (0 : Int) ≤ (j : Int) := by omega
        have hj1 : (j : Int) < (j : Int) + 1 := by omega
        clear hoa2 hob' hoc2 la lb hga2 hgb2
        go_wp2_with fail
        go_region_held3 (fun w' => w'.cell? ⟨ga, j, none⟩ = some (.int .i64 x2) ∧ w'.cell? ⟨gb, j, none⟩ = some (.int .i64 y2))
          (first | with_reducible assumption | (with_reducible refine two_alloc ?_ _; with_reducible assumption) | (with_reducible refine two_drew (two_alloc ?_ _); with_reducible assumption) | (with_reducible refine two_drew ?_; with_reducible assumption))
          (first | (refine step_append_int w2.drew rfl (.tmp 40) (.tmp 50) 22 rfl w.heap.size 3 i0 Try.underlying22 hii hz0 hz1 hz2 _ _ _ rfl OC2.out (x2 + y2) rfl rfl (by omega) S3 ?_; intro vc' w3 hoc' hgc hvc; have hgc : World.grownBy _ w3 u5.ownBlock := hgc; have hS3 := And.intro (cells_past hgc NA.out GA.out hS.1) (cells_past hgc NB.out GB.out hS.2)))
        all_goals
          have cz := hS3.1
          have HB3 := Lib.hid (HB2.out.drew.trans (below_row hgc OC2.out S3))
          have OA3 := Lib.hid (OA2.out.drew.kept hgc HAC1.out.ne); have OB3 := Lib.hid (OB2.out.drew.kept hgc HBC2.out.ne)
          have HAC3 := Lib.hid ((HAC1.out.turn.grew hvc fun k hk => by have := (OA2.out.drew.lt k hk).2; omega).turn); have HBC3 := Lib.hid ((HBC2.out.turn.grew hvc fun k hk => by have := (OB2.out.drew.lt k hk).2; omega).turn)
          have OC3 := Lib.hid hoc'
          have PN := Lib.hid (snoc_bound LP.out HPR.out X2R.out.1 X2R.out.2); have QN := Lib.hid (snoc_bound LQ.out HQR.out Y2R.out.1 Y2R.out.2); have RN := Lib.hid (snoc_sums LP.out LQ.out LR.out HRS.out x2 y2)
          have TN := Lib.hid (suS_snoc LP.out x2)
          clear hS3 hgc hvc hoc' hS hS0
          go_wp2
          go_roundw
          case rel => exact ⟨j + 1, p ++ [x2], q ++ [y2], r ++ [x2 + y2], t + x2, by omega, by go_num, rfl, PN.out, QN.out, RN.out, ⟨by rw [TN.out, ← HTS.out.1], by have := X2R.out; have := HT.out; omega, by have := X2R.out; have := HT.out; omega⟩, ⟨OA3.out, OB3.out, OC3.out⟩, ⟨HAB2.out, HAC3.out, HBC3.out⟩, HB3.out⟩
          case measure => simp [intOf]; omega
      · obtain rfl : j = 64 := by omega
        obtain ⟨Aa, ca, rfl⟩ := own_form2 hoa
        obtain ⟨Ab, cb, rfl⟩ := own_form2 hob
        obtain ⟨Ac, cc, rfl⟩ := own_form2 hoc
        obtain ⟨ga, rfl, -, -, hnca, hcma⟩ := own_where' hoa LP.out (by decide)
        obtain ⟨gb, rfl, -, -, hncb, hcmb⟩ := own_where' hob LQ.out (by decide)
        obtain ⟨gc, rfl, -, -, hncc, hcmc⟩ := own_where' hoc LR.out (by decide)
        unfold maxLen at hcma hcmb hcmc
        have IA := Lib.hid ((own_back hoa LP.out).ints (by rw [LP.out]; decide)); have IB := Lib.hid ((own_back hob LQ.out).ints (by rw [LQ.out]; decide)); have IC := Lib.hid ((own_back hoc LR.out).ints (by rw [LR.out]; decide))
        have JA := Lib.hid (ints_first IA.out LP.out); have JB := Lib.hid (ints_first IB.out LQ.out); have JC := Lib.hid (ints_first IC.out LR.out)
        have VA := Lib.hid (lin_first p q r LP.out LQ.out LR.out HPR.out HQR.out HRS.out)
        obtain ⟨X, hX⟩ : ∃ X, X = xfR 8 true p := ⟨_, rfl⟩
        obtain ⟨Y, hY⟩ : ∃ X, X = xfR 8 true q := ⟨_, rfl⟩
        obtain ⟨Z, hZ⟩ : ∃ X, X = xfR 8 false r := ⟨_, rfl⟩
        obtain ⟨P, hP⟩ : ∃ X, X = xfR 4 true (p.take 16) := ⟨_, rfl⟩
        obtain ⟨Q, hQ⟩ : ∃ X, X = xfR 4 true (q.take 16) := ⟨_, rfl⟩
        obtain ⟨R, hR⟩ : ∃ X, X = xfR 4 true (r.take 16) := ⟨_, rfl⟩
        have CX := Lib.hid fun A c w h => G8.out A c p w h; have CY := Lib.hid fun A c w h => F8.out A c q w h; have CZ := Lib.hid fun A c w h => H8.out A c r w h
        have CP := Lib.hid fun A c w h => F4.out A c (p.take 16) w h; have CQ := Lib.hid fun A c w h => G4.out A c (q.take 16) w h; have CR := Lib.hid fun A c w h => F4.out A c (r.take 16) w h
        rw [← hX, ← hY, ← hZ, ← hP, ← hQ, ← hR, ← HTS.out.1] at VA
        rw [← hX, LP.out] at CX
        rw [← hY, LQ.out] at CY
        rw [← hZ, LR.out] at CZ
        rw [← hP, List.length_take, LP.out] at CP
        rw [← hQ, List.length_take, LQ.out] at CQ
        rw [← hR, List.length_take, LR.out] at CR
        rw [VA.out.1] at CX
        rw [VA.out.2.1] at CY
        rw [VA.out.2.2.1] at CZ
        rw [VA.out.2.2.2.1] at CP
        rw [VA.out.2.2.2.2.1] at CQ
        rw [VA.out.2.2.2.2.2.1] at CR
        have V1 := Lib.hid VA.out.2.2.2.2.2.2.1; have V2 := Lib.hid VA.out.2.2.2.2.2.2.2.1; have V3 := Lib.hid VA.out.2.2.2.2.2.2.2.2
        have LX := Lib.hid VA.out.1; have LY := Lib.hid VA.out.2.1; have LZ := Lib.hid VA.out.2.2.1; have MP := Lib.hid VA.out.2.2.2.1; have MQ := Lib.hid VA.out.2.2.2.2.1; have MR := Lib.hid VA.out.2.2.2.2.2.1
        have BB := Lib.hid HB.out
        clear hX hY hZ hP hQ hR hoa hob hoc VA HAB HAC HBC
        go_wp2_with fail
        refine (CX.out _ _ _ IA.out).mono ?_
        rintro e w_1 ⟨A_VX, c_VX, rfl, ho, hb⟩
        have IA := Lib.hid ((IA.out.below hb (Nat.le_refl _)).mono hb.size)
        have IB := Lib.hid ((IB.out.below hb (Nat.le_refl _)).mono hb.size)
        have IC := Lib.hid ((IC.out.below hb (Nat.le_refl _)).mono hb.size)
        have JA := Lib.hid ((JA.out.below hb (Nat.le_refl _)).mono hb.size)
        have JB := Lib.hid ((JB.out.below hb (Nat.le_refl _)).mono hb.size)
        have JC := Lib.hid ((JC.out.below hb (Nat.le_refl _)).mono hb.size)
        have BB := Lib.hid (below_up BB.out hb BB.out.size)
        have VX := Lib.hid (ho.ints (by rw [LX.out]; decide))
        clear ho hb
        go_wp2_with fail
        refine (CY.out _ _ _ IB.out).mono ?_
        rintro e w_2 ⟨A_VY, c_VY, rfl, ho, hb⟩
        have IA := Lib.hid ((IA.out.below hb (Nat.le_refl _)).mono hb.size)
        have IB := Lib.hid ((IB.out.below hb (Nat.le_refl _)).mono hb.size)
        have IC := Lib.hid ((IC.out.below hb (Nat.le_refl _)).mono hb.size)
        have JA := Lib.hid ((JA.out.below hb (Nat.le_refl _)).mono hb.size)
        have JB := Lib.hid ((JB.out.below hb (Nat.le_refl _)).mono hb.size)
        have JC := Lib.hid ((JC.out.below hb (Nat.le_refl _)).mono hb.size)
        have VX := Lib.hid ((VX.out.below hb (Nat.le_refl _)).mono hb.size)
        have BB := Lib.hid (below_up BB.out hb BB.out.size)
        have VY := Lib.hid (ho.ints (by rw [LY.out]; decide))
        clear ho hb
        go_wp2_with fail
        refine (CZ.out _ _ _ IC.out).mono ?_
        rintro e w_3 ⟨A_VZ, c_VZ, rfl, ho, hb⟩
        have IA := Lib.hid ((IA.out.below hb (Nat.le_refl _)).mono hb.size)
        have IB := Lib.hid ((IB.out.below hb (Nat.le_refl _)).mono hb.size)
        have IC := Lib.hid ((IC.out.below hb (Nat.le_refl _)).mono hb.size)
        have JA := Lib.hid ((JA.out.below hb (Nat.le_refl _)).mono hb.size)
        have JB := Lib.hid ((JB.out.below hb (Nat.le_refl _)).mono hb.size)
        have JC := Lib.hid ((JC.out.below hb (Nat.le_refl _)).mono hb.size)
        have VX := Lib.hid ((VX.out.below hb (Nat.le_refl _)).mono hb.size)
        have VY := Lib.hid ((VY.out.below hb (Nat.le_refl _)).mono hb.size)
        have BB := Lib.hid (below_up BB.out hb BB.out.size)
        have VZ := Lib.hid (ho.ints (by rw [LZ.out]; decide))
        clear ho hb
        go_wp2_with fail
        refine (CP.out _ _ _ JA.out).mono ?_
        rintro e w_4 ⟨A_VP, c_VP, rfl, ho, hb⟩
        have IA := Lib.hid ((IA.out.below hb (Nat.le_refl _)).mono hb.size)
        have IB := Lib.hid ((IB.out.below hb (Nat.le_refl _)).mono hb.size)
        have IC := Lib.hid ((IC.out.below hb (Nat.le_refl _)).mono hb.size)
        have JA := Lib.hid ((JA.out.below hb (Nat.le_refl _)).mono hb.size)
        have JB := Lib.hid ((JB.out.below hb (Nat.le_refl _)).mono hb.size)
        have JC := Lib.hid ((JC.out.below hb (Nat.le_refl _)).mono hb.size)
        have VX := Lib.hid ((VX.out.below hb (Nat.le_refl _)).mono hb.size)
        have VY := Lib.hid ((VY.out.below hb (Nat.le_refl _)).mono hb.size)
        have VZ := Lib.hid ((VZ.out.below hb (Nat.le_refl _)).mono hb.size)
        have BB := Lib.hid (below_up BB.out hb BB.out.size)
        have VP := Lib.hid (ho.ints (by rw [MP.out]; decide))
        clear ho hb
        go_wp2_with fail
        refine (CQ.out _ _ _ JB.out).mono ?_
        rintro e w_5 ⟨A_VQ, c_VQ, rfl, ho, hb⟩
        have IA := Lib.hid ((IA.out.below hb (Nat.le_refl _)).mono hb.size)
        have IB := Lib.hid ((IB.out.below hb (Nat.le_refl _)).mono hb.size)
        have IC := Lib.hid ((IC.out.below hb (Nat.le_refl _)).mono hb.size)
        have JA := Lib.hid ((JA.out.below hb (Nat.le_refl _)).mono hb.size)
        have JB := Lib.hid ((JB.out.below hb (Nat.le_refl _)).mono hb.size)
        have JC := Lib.hid ((JC.out.below hb (Nat.le_refl _)).mono hb.size)
        have VX := Lib.hid ((VX.out.below hb (Nat.le_refl _)).mono hb.size)
        have VY := Lib.hid ((VY.out.below hb (Nat.le_refl _)).mono hb.size)
        have VZ := Lib.hid ((VZ.out.below hb (Nat.le_refl _)).mono hb.size)
        have VP := Lib.hid ((VP.out.below hb (Nat.le_refl _)).mono hb.size)
        have BB := Lib.hid (below_up BB.out hb BB.out.size)
        have VQ := Lib.hid (ho.ints (by rw [MQ.out]; decide))
        clear ho hb
        go_wp2_with fail
        refine (CR.out _ _ _ JC.out).mono ?_
        rintro e w_6 ⟨A_VR, c_VR, rfl, ho, hb⟩
        have IA := Lib.hid ((IA.out.below hb (Nat.le_refl _)).mono hb.size)
        have IB := Lib.hid ((IB.out.below hb (Nat.le_refl _)).mono hb.size)
        have IC := Lib.hid ((IC.out.below hb (Nat.le_refl _)).mono hb.size)
        have JA := Lib.hid ((JA.out.below hb (Nat.le_refl _)).mono hb.size)
        have JB := Lib.hid ((JB.out.below hb (Nat.le_refl _)).mono hb.size)
        have JC := Lib.hid ((JC.out.below hb (Nat.le_refl _)).mono hb.size)
        have VX := Lib.hid ((VX.out.below hb (Nat.le_refl _)).mono hb.size)
        have VY := Lib.hid ((VY.out.below hb (Nat.le_refl _)).mono hb.size)
        have VZ := Lib.hid ((VZ.out.below hb (Nat.le_refl _)).mono hb.size)
        have VP := Lib.hid ((VP.out.below hb (Nat.le_refl _)).mono hb.size)
        have VQ := Lib.hid ((VQ.out.below hb (Nat.le_refl _)).mono hb.size)
        have BB := Lib.hid (below_up BB.out hb BB.out.size)
        have VR := Lib.hid (ho.ints (by rw [MR.out]; decide))
        clear ho hb
        clear IA IB IC JA JB JC
        obtain ⟨bx, ox, rfl, hbx, hcx⟩ := VX.out.at 0 (by rw [LX.out]; decide)
        have c0 := hcx 0 (by rw [LX.out]; decide)
        rw [V1.out, Nat.add_zero] at c0
        clear hbx hcx
        go_wp2
        clear c0
        go_loopw [14] (fun i wr => ∃ k : Nat, k ≤ 64 ∧ i = .int .i64 k ∧ Below w_6.heap.size w_6 wr) (fun i _ => 64 - (intOf i).toNat)
        case atStart => exact ⟨0, Nat.zero_le _, rfl, Below.refl _ _⟩
        case round =>
          obtain ⟨k, hk, rfl, hbel⟩ := hrel
          have B2 := Lib.hid hbel; have B3 := Lib.hid (below_up BB.out hbel BB.out.size)
          clear hbel
          by_cases hlk : k < 64
          · have d2 : decide ((k : Int) < 64) = true := by simp; omega
            have k0 : (0 : Int) ≤ (k : Int) := by omega
            have k1 : (k : Int) < 64 := by omega
            have k2 : ((k : Int)).toNat = k := by omega
            obtain ⟨b1, o1, h1e, hb1, hc1⟩ := VX.out.at k (by rw [LX.out]; exact hlk)
            have c1 := hc1 k (by rw [LX.out]; exact hlk)
            rw [← B2.out.cell (p := ⟨b1, o1 + k, none⟩) hb1] at c1
            obtain ⟨b2, o2, h2e, hb2, hc2⟩ := VY.out.at k (by rw [LY.out]; exact hlk)
            have c2 := hc2 k (by rw [LY.out]; exact hlk)
            rw [← B2.out.cell (p := ⟨b2, o2 + k, none⟩) hb2] at c2
            obtain ⟨b3, o3, h3e, hb3, hc3⟩ := VZ.out.at k (by rw [LZ.out]; exact hlk)
            have c3 := hc3 k (by rw [LZ.out]; exact hlk)
            rw [← B2.out.cell (p := ⟨b3, o3 + k, none⟩) hb3] at c3
            have hv := V2.out k hlk
            obtain ⟨x, hx⟩ : ∃ x, x = X.getD k 0 := ⟨_, rfl⟩
            obtain ⟨y, hy⟩ : ∃ x, x = Y.getD k 0 := ⟨_, rfl⟩
            rw [hv.1] at c3
            rw [← hx, ← hy] at hv c3
            rw [← hx] at c1
            rw [← hy] at c2
            have hvr := hv.2
            have hw1 : IntKind.i64.wrap (x + y) = x + y := IntWalk.i64_in _ (by omega)
            have hn1 : ((x + y) != (x + y)) = false := by simp
            by_cases hl : k < 16
            · have d3 : decide ((k : Int) < 16) = true := by simp; omega
              have k3 : (k : Int) < 16 := by omega
              obtain ⟨b4, o4, h4e, hb4, hc4⟩ := VP.out.at k (by rw [MP.out]; exact hl)
              have c4 := hc4 k (by rw [MP.out]; exact hl)
              rw [← B2.out.cell (p := ⟨b4, o4 + k, none⟩) hb4] at c4
              obtain ⟨b5, o5, h5e, hb5, hc5⟩ := VQ.out.at k (by rw [MQ.out]; exact hl)
              have c5 := hc5 k (by rw [MQ.out]; exact hl)
              rw [← B2.out.cell (p := ⟨b5, o5 + k, none⟩) hb5] at c5
              obtain ⟨b6, o6, h6e, hb6, hc6⟩ := VR.out.at k (by rw [MR.out]; exact hl)
              have c6 := hc6 k (by rw [MR.out]; exact hl)
              rw [← B2.out.cell (p := ⟨b6, o6 + k, none⟩) hb6] at c6
              have hu := V3.out k hl
              obtain ⟨x', hx'⟩ : ∃ x, x = P.getD k 0 := ⟨_, rfl⟩
              obtain ⟨y', hy'⟩ : ∃ x, x = Q.getD k 0 := ⟨_, rfl⟩
              rw [hu.1] at c6
              rw [← hx', ← hy'] at hu c6
              rw [← hx'] at c4
              rw [← hy'] at c5
              have hur := hu.2
              have hw2 : IntKind.i64.wrap (x' + y') = x' + y' := IntWalk.i64_in _ (by omega)
              have hn2 : ((x' + y') != (x' + y')) = false := by simp
              clear hc1 hc2 hc3 hc4 hc5 hc6 hv hu hx hy hx' hy' hvr hur
              go_wp2
              go_quiet (fail)
              go_wp2
              go_roundw
              case rel => exact ⟨k + 1, by omega, by go_num, below_drews B2.out _⟩
              case measure => simp [intOf]; omega
            · have d3 : decide ((k : Int) < 16) = false := by simp; omega
              clear hc1 hc2 hc3 hv hx hy hvr
              go_wp2
              go_quiet (fail)
              go_wp2
              go_roundw
              case rel => exact ⟨k + 1, by omega, by go_num, below_drews B2.out _⟩
              case measure => simp [intOf]; omega
          · obtain rfl : k = 64 := by omega
            go_wp2
            go_ret
            exact ⟨rfl, B3.out⟩
end Go.Proofs.Ytcmijednpnabmaa
