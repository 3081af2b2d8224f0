/-
  Contracts of chapter 7's draws: a reader over codes of numbers, a table, a cache with a table: each returns something of the kind. Condition: the input is no longer than 1048576 bytes.
  Contract of the draw of a cache with a table. Condition: the input is no longer than 1048576 bytes.
-/
import Derived.Test.YtgacldhpohnpaaaPutDraw
import Derived.Test.YtgacldhpohnpaaaDrawB
import Derived.Test.YtgacldhpohnpaaaUeBits
import Derived.Test.YtgacldhpohnpaaaCacheDrw
import Derived.Test.YtgacldhpohnpaaaTab
import Derived.Deep.Cut
namespace Go.Proofs.Ytgacldhpohnpaaa
open Go.RowKit
set_option linter.unusedVariables false

/-- `append(v, A...)`, the row `v` the call's own, with what it writes to. -/
theorem append_row {P : Program} {w : World} {ops : Array Oper} {rest : List Oper} {o : Oper} {a : Act} {Q : Exit → Act → World → Prop} (hgd : o.guard = none) (s x : Operand) (t : TypeId)
    (ho : o.op = .call { callee := .builtin .append, args := #[s, x], argTypes := #[t, t] })
    (base : Nat) (i : TypeInfo) (ht : P.underlying t = some (.slice 3)) (hi : P.info? 3 = some i) (hz : i.zero = some (.int .i64 0))
    (hsize : i.size = 1) (hby : i.bytes = 8)
    (v : Value) (n : Nat) (l : List Int) (hs : a.eval s = v) (hown : w.ownsRow base 3 1 v n (ivs l))
    (A : Option Addr) (m c : Nat) (la : List Int) (hm : m = la.length) (hx : a.eval x = .slice A m c) (g : Nat) (hA : Ints w g A la) (hP : Placed A c)
    (hlen : n + m ≤ 4000000) (hb : base ≤ w.heap.size)
    (h : ∀ v' w', w'.ownsRow base 3 1 v' (n + m) (ivs (l ++ la)) → w.grownBy w' v.ownBlock → wpList P ops Q rest (a.put o.dst v') w') :
    wpList P ops Q (o :: rest) a w := by
  refine wpList_plain hgd fun _ hK => ?_
  subst hm
  cases A with
  | none =>
    obtain rfl : c = 0 := hP rfl
    have hl : la = [] := by
      rcases hA.2 with h | ⟨b, off, h, _⟩
      · exact h
      · exact absurd h (by simp)
    subst hl
    have hrun := run_append_owned_none (P := P) w base t o.type 3 i 1 ht hi v n (ivs l) hown
    unfold Oper.wp
    simp [execOp, ho, resolve, invoke, builtin, hs, hx, hrun, Result.andThen]
    exact hK _ _ (h v w (by simpa using hown) (grown_refl w _))
  | some ad =>
    have hcells : ∀ j u, (ivs la)[j]? = some u → w.cell? (ad.add j) = some u := by
      intro j u hj
      have hj2 : j < la.length := by
        have := (List.getElem?_eq_some_iff.1 hj).1
        rwa [ivs_len] at this
      obtain ⟨b, off, hb1, hb2, hb3⟩ := hA.at j hj2
      simp only [Option.some.injEq] at hb1
      subst hb1
      rw [Addr.add_lit, hb3 j hj2, ← hj, ivs_at la j hj2]
    refine wp_append_own w s x t ho base 3 i (.int .i64 0) 1 8 ht hi hz hsize hby rfl (by decide) v n (ivs l) hs hown ad la.length c (ivs la) hx (by rw [ivs_len, Nat.mul_one]) hcells ?_ (by unfold maxLen; omega) (by omega) hb ?_
    · intro u hu
      simp only [ivs, List.mem_map] at hu
      obtain ⟨y, _, rfl⟩ := hu
      rfl
    · intro v' w' hown' hg _
      exact hK _ _ (h v' w' (by rw [ivs_append]; exact hown') hg)

theorem own_form {w : World} {base : Nat} {e : TypeId} {size : Nat} {v : Value} {n : Nat} {xs : List Value} (h : w.ownsRow base e size v n xs) : ∃ A c, v = .slice A n c := by
  rcases h.2 with ⟨rfl, rfl⟩ | ⟨g, cap, cur, rfl, _⟩
  · exact ⟨none, 0, rfl⟩
  · exact ⟨_, _, rfl⟩

/-- What a reader's draw leaves. -/
def RdOut (w : World) (g : Nat) (A : Option Addr) (cap : Nat) (zs : List Int) (e : Ending) (w' : World) : Prop :=
  ∃ (s : ByteArray) (a : Int) (i' : Nat) (h' : Int), e = .returned (.agg #[.string s, .int .i64 a]) ∧ s.size ≤ 1000 ∧ -1 ≤ a ∧ a ≤ 1000 ∧ i' ≤ zs.length ∧ Cursor w' g A cap zs i' h' ∧ w.grownBy w' (some g)

set_option maxRecDepth 100000 in
set_option maxHeartbeats 1000000 in
theorem l6reader_ex (A : Option Addr) (cap : Nat) (zs : List Int) (i : Nat) (h : Int) (hi : i ≤ zs.length) (w : World) (g : Nat) (hC : Cursor w g A cap zs i h) :
    Calls Try.prog 59 #[.pointer (some ⟨g, 0, none⟩)] w (RdOut w g A cap zs) := by
  obtain ⟨l0, i1, h1, ll, l1, C1⟩ := l2bits_det A cap zs i h hi 5 (by decide)
  have hgw := hC.lt
  have HC := Lib.hid hC
  have HC1 := Lib.hid C1
  clear hC C1
  obtain ⟨i0, hii, hz0, hz1, hz2⟩ := info_parts Try.iinfo
  go_enter Try.func59, Try.ntmps59
  go_wp2_with fail
  refine (HC1.out _ _ (HC.out.alloc _)).mono ?_
  rintro e w1 ⟨A1, c1, rfl, ho1, hC1, hg1⟩
  have R1 := Lib.hid (grown_at (heap_alloc_new w _) hg1 (by omega))
  have Q1 := Lib.hid ((World.grownBy_alloc w _ (some g)).trans hg1)
  have G1 := Lib.hid hC1
  have O1 : Hid (w1.ownsRow (w.heap.size + 1) 3 1 (.slice A1 l0.length c1) l0.length (ivs l0)) := Lib.hid (by have := ho1; unfold OwnI at this; simpa using this)
  clear ho1 hC1 hg1
  obtain ⟨n, hn⟩ : ∃ n, n = l0.length := ⟨_, rfl⟩
  rw [← hn] at O1 ll ⊢
  have HN := Lib.hid hn; clear hn
  go_wp2
  go_loopw [4] (fun x wr => ∃ (j : Nat) (p : List Int), j ≤ n ∧ p.length = n ∧ x = .int .i64 j ∧ wr.ownsRow (w.heap.size + 1) 3 1 (.slice A1 n c1) n (ivs p) ∧ Cursor wr g A cap zs i1 h1 ∧ wr.heap[w.heap.size]? = some (.cells #[.string ⟨#[]⟩, .int .i64 0] 35 (0, 0)) ∧ w.grownBy wr (some g))
    (fun x _ => n - (intOf x).toNat)
  case atStart => exact ⟨0, l0, Nat.zero_le _, HN.out.symm, rfl, O1.out, G1.out, R1.out, Q1.out⟩
  case round =>
    obtain ⟨j, p, hj, hp, rfl, hown, hCr, hRr, hgr⟩ := hrel
    have HP := Lib.hid hp; clear hp
    have HC2 := Lib.hid hCr; have HR2 := Lib.hid hRr; have HG2 := Lib.hid hgr
    clear hCr hRr hgr
    by_cases hlt : j < n
    · rcases id hown.2 with ⟨h1, h2⟩ | ⟨g1, cap1, cur1, h1, hbg, _⟩
      · omega
      · simp only [Value.slice.injEq] at h1
        obtain ⟨rfl, _, rfl⟩ := h1
        obtain ⟨b0, hc⟩ : ∃ b0 : Int, wr.cell? ⟨g1, j, none⟩ = some (.int .i64 b0) := ⟨_, (hown.cellAt j (by omega)).trans (ivs_at p j (by rw [HP.out]; omega))⟩
        have hz := hown.frozenAt j
        have HO := Lib.hid hown; clear hown
        go_wp2
        go_roundw
        case rel =>
          have s1 := HO.out.stored j (.int .i64 (bits .and .i64 b0 1))
          rw [ivs_set] at s1
          refine ⟨j + 1, p.set j (bits .and .i64 b0 1), by omega, by simpa using HP.out, by go_num, s1.1, cursor_new HC2.out (by omega) j _, ?_, grown_new HG2.out (by omega) j _⟩
          show (wr.setCell ⟨g1, j, none⟩ _).heap[w.heap.size]? = _
          rw [heap_setCell_other _ _ _ _ (by simp; omega)]
          exact HR2.out
        case measure => simp [intOf]; omega
    · obtain rfl : j = n := by omega
      have HO := Lib.hid hown; clear hown
      obtain ⟨N, i2, h2, a2, b2, _, l2, C2⟩ := below_det A cap zs i1 h1 l1 4
      have b2 := b2 (by decide)
      obtain ⟨N, rfl⟩ := Int.eq_ofNat_of_zero_le a2
      have CN := Lib.hid C2; clear C2
      clear HN
      go_wp2_with fail
      refine (CN.out _ _ HC2.out).mono ?_
      rintro e w2 ⟨rfl, hC3, hg3⟩
      have R3 := Lib.hid (grown_at HR2.out hg3 (by omega))
      have Q3 := Lib.hid (HG2.out.trans hg3)
      have G3 := Lib.hid hC3
      have O3 := Lib.hid (World.ownsRow.kept HO.out hg3 (own_far HO.out (by omega)))
      clear hC3 hg3
      go_wp2
      go_loopw [3, 6] (fun v x wr => ∃ (k : Nat) (i2 : Nat) (h2 : Int) (l : List Int), k ≤ 3 ∧ x = .int .i64 k ∧ wr.ownsRow (w.heap.size + 1) 3 1 v l.length (ivs l) ∧ l.length ≤ 200 - 40 * k ∧ i2 ≤ zs.length ∧ Cursor wr g A cap zs i2 h2 ∧ wr.heap[w.heap.size]? = some (.cells #[.string ⟨#[]⟩, .int .i64 0] 35 (0, 0)) ∧ w.grownBy wr (some g))
        (fun _ x _ => (intOf x).toNat)
      case atStart => exact ⟨N, i2, h2, p, by omega, rfl, by rw [HP.out]; exact O3.out, by rw [HP.out]; omega, l2, G3.out, R3.out, Q3.out⟩
      case round =>
        obtain ⟨k, i4, h4, l, hk3, rfl, hown, hl, li4, hCr, hRr, hgr⟩ := hrel
        have HO4 := Lib.hid hown; have HC4 := Lib.hid hCr; have HR4 := Lib.hid hRr; have HG4 := Lib.hid hgr
        clear hown hCr hRr hgr
        obtain ⟨m, hm⟩ : ∃ m, m = l.length := ⟨_, rfl⟩
        rw [← hm] at HO4 hl
        have HM := Lib.hid hm; clear hm
        by_cases hk : 0 < k
        · have hq : decide (0 < (k : Int)) = true := by simp; omega
          obtain ⟨x, i5, h5, x0, x1, l5, C5⟩ := l6num_det A cap zs i4 h4 li4
          have HC5 := Lib.hid C5; clear C5
          have HU := Lib.hid (spec_uebits_any x)
          have hul := ueR_len x
          obtain ⟨r, hr⟩ : ∃ r, r = ueR x := ⟨_, rfl⟩
          rw [← hr] at HU hul
          clear hr
          go_wp2_with fail
          refine (HC5.out _ _ HC4.out).mono ?_
          rintro e w5 ⟨rfl, hC5, hg5⟩
          have R5 := Lib.hid (grown_at HR4.out hg5 (by omega))
          have Q5 := Lib.hid (HG4.out.trans hg5)
          have G5 := Lib.hid hC5
          have O5 := Lib.hid (World.ownsRow.kept HO4.out hg5 (own_far HO4.out (by omega)))
          clear hC5 hg5
          go_wp2_with fail
          refine (HU.out _).mono ?_
          rintro e w6 ⟨A6, c6, rfl, ho6, hb6⟩
          have R6 := Lib.hid (cell_kept R5.out hb6)
          have Q6 := Lib.hid (Q5.out.trans (below_grows hb6 _))
          have G6 := Lib.hid (cursor_below G5.out hb6)
          have O6 := Lib.hid (World.ownsRow.kept (row := none) O5.out ⟨hb6.os, hb6.tape, hb6.output, hb6.size, fun k hk _ => hb6.block k hk⟩ (by cases hv : Value.ownBlock _ <;> simp))
          have P6 := Lib.hid ho6.placed
          have I6 := Lib.hid (ho6.ints (by omega))
          have hsz6 := Q6.out.size
          have hsz7 : w.heap.size + 1 ≤ w6.heap.size := by have := heap_lt R6.out; omega
          clear ho6 hb6
          go_wp2_with (at_builtin; refine append_row rfl (.tmp 32) (.tmp 35) 39 rfl (w.heap.size + 1) i0 Try.underlying39 hii hz0 hz1 hz2 _ _ _ rfl O6.out _ _ _ _ rfl rfl _ I6.out P6.out (by omega) hsz7 ?_; intro v' w7 hown7 hg7)
          go_roundw
          case rel =>
            refine ⟨k - 1, i5, h5, l ++ r, by omega, by congr 1; omega, by rw [List.length_append, ← HM.out]; exact hown7, by rw [List.length_append, ← HM.out]; omega, l5, G6.out.grown hg7 (fun j hj => by have := (O6.out.lt j hj).1; omega), ?_, grown_own Q6.out hg7 fun j hj => by have := (O6.out.lt j hj).1; omega⟩
            rw [hg7.block _ (heap_lt R6.out) (fun e => by have := (O6.out.lt _ e.symm).1; omega)]
            exact R6.out
          case measure => simp [intOf]; omega
        · obtain rfl : k = 0 := by omega
          have hq : decide (0 < ((0 : Nat) : Int)) = false := by simp
          obtain ⟨A8, c8, rfl⟩ := own_form HO4.out
          have hO8 : OwnI wr (w.heap.size + 1) A8 c8 l := by unfold OwnI; rw [← HM.out]; exact HO4.out
          have ST := Lib.hid (spec_stopped_any A8 c8 l (by rw [← HM.out]; omega) wr (hO8.ints (by rw [← HM.out]; omega)) hO8.placed)
          have hss := stopS_size l
          rw [← HM.out] at hss ST
          obtain ⟨S, hS⟩ : ∃ S, S = stopS l := ⟨_, rfl⟩
          rw [← hS] at hss ST
          clear hS hO8
          obtain ⟨b, i9, h9, l9, C9⟩ := once_det A cap zs i4 h4 li4 4
          have HC9 := Lib.hid C9; clear C9
          go_wp2_with fail
          refine ST.out.mono ?_
          rintro e w8 ⟨rfl, hb8⟩
          have R8 := Lib.hid (cell_kept HR4.out hb8)
          have Q8 := Lib.hid (HG4.out.trans (below_grows hb8 _))
          have G8 := Lib.hid (cursor_below HC4.out hb8)
          clear hb8 ST
          have RA := Lib.hid (heap_keep R8.out (.cells #[.string S, .int .i64 j] 35))
          have QA := Lib.hid (grown_alloc Q8.out (.cells #[.string S, .int .i64 j] 35))
          have GA := Lib.hid (G8.out.alloc (.cells #[.string S, .int .i64 j] 35))
          have NA := Lib.hid (heap_alloc_new w8 (.cells #[.string S, .int .i64 j] 35))
          have hne : w8.heap.size ≠ g := by have := G8.out.lt; omega
          go_wp2_with fail
          refine (HC9.out _ _ GA.out).mono ?_
          rintro e w9 ⟨rfl, hC9, hg9⟩
          have R9 := Lib.hid (grown_at RA.out hg9 (by omega))
          have N9 := Lib.hid (grown_at NA.out hg9 hne)
          have Q9 := Lib.hid (QA.out.trans hg9)
          have G9 := Lib.hid hC9
          clear hC9 hg9
          cases b with
          | false =>
            obtain ⟨c0, c1⟩ := cells2 N9.out
            obtain ⟨d0, d1⟩ := cells2 R9.out
            have f0 := frozen_of_row _ _ 0 _ _ R9.out
            have f1 := frozen_of_row _ _ 1 _ _ R9.out
            have hE := cells2 (block_set2 R9.out (.string S) (.int .i64 j))
            have hCE := cursor_new (cursor_new G9.out hgw 0 (.string S)) hgw 1 (.int .i64 j)
            have hQE := grown_new (grown_new Q9.out (Nat.le_refl _) 0 (.string S)) (Nat.le_refl _) 1 (.int .i64 j)
            have HE := Lib.hid hE; have HCE := Lib.hid hCE; have HQE := Lib.hid hQE
            clear hE hCE hQE
            go_wp2
            obtain ⟨e0, e1⟩ := HE.out
            exact bodyPost_ret (v := .agg #[.string S, .int .i64 j]) (by simp [results, Try.results59, go_sem, e0, e1]) rfl ⟨S, j, i9, h9, rfl, by omega, by omega, by omega, l9, HCE.out, HQE.out⟩
          | true =>
            obtain ⟨s3, a3, i10, h10, s8, a0, a1, l10, C10⟩ := l3reader_det A cap zs i9 h9 l9
            have HC10 := Lib.hid C10; clear C10
            go_wp2_with fail
            refine (HC10.out _ _ G9.out).mono ?_
            rintro e w10 ⟨rfl, hC10, hg10⟩
            have R10 := Lib.hid (grown_at R9.out hg10 (by omega))
            have Q10 := Lib.hid (Q9.out.trans hg10)
            have G10 := Lib.hid hC10
            clear hC10 hg10
            obtain ⟨d0, d1⟩ := cells2 R10.out
            have f0 := frozen_of_row _ _ 0 _ _ R10.out
            have f1 := frozen_of_row _ _ 1 _ _ R10.out
            have hE := cells2 (block_set2 R10.out (.string s3) (.int .i64 a3))
            have hCE := cursor_new (cursor_new G10.out hgw 0 (.string s3)) hgw 1 (.int .i64 a3)
            have hQE := grown_new (grown_new Q10.out (Nat.le_refl _) 0 (.string s3)) (Nat.le_refl _) 1 (.int .i64 a3)
            have HE := Lib.hid hE; have HCE := Lib.hid hCE; have HQE := Lib.hid hQE
            clear hE hCE hQE
            go_wp2
            obtain ⟨e0, e1⟩ := HE.out
            exact bodyPost_ret (v := .agg #[.string s3, .int .i64 a3]) (by simp [results, Try.results59, go_sem, e0, e1]) rfl ⟨s3, a3, i10, h10, rfl, by omega, a0, by omega, l10, HCE.out, HQE.out⟩

theorem OwnE.far {w : World} {base : Nat} {A : Option Addr} {cap : Nat} {l : EntL} (h : OwnE w base A cap l) : ∀ b off, A = some ⟨b, off, none⟩ → base ≤ b := by
  intro b off hA
  subst hA
  exact (World.ownsRow.lt h b rfl).1
/-- A view behind a write to a block that it does not lie in. -/
theorem Ents.other {w w' : World} {g x : Nat} {A : Option Addr} {l : EntL} (h : Ents w g A l) (hf : ∀ b off, A = some ⟨b, off, none⟩ → x ≠ b) (hk : ∀ k, k ≠ x → w'.heap[k]? = w.heap[k]?) : Ents w' g A l := by
  obtain ⟨hm, h0 | ⟨b, off, hA, hbg, hc⟩⟩ := h
  · exact ⟨hm, .inl h0⟩
  · have hbx := hf b off hA
    have hb := hk b (fun e => hbx e.symm)
    refine ⟨hm, .inr ⟨b, off, hA, hbg, fun i hi => ?_⟩⟩
    rw [World.cell?_of_block (w := w) (w' := w') (a := ⟨b, off + i * 2, none⟩) hb, World.cell?_of_block (w := w) (w' := w') (a := ⟨b, off + i * 2 + 1, none⟩) hb]
    exact hc i hi

/-- What a table's draw leaves. -/
def TbOut (w : World) (g : Nat) (A : Option Addr) (cap : Nat) (zs : List Int) (e : Ending) (w' : World) : Prop :=
  ∃ (A' : Option Addr) (c' : Nat) (l : EntL) (i' : Nat) (h' : Int), e = .returned (.slice A' l.length c') ∧ l.length ≤ 512 ∧ Ents w' w'.heap.size A' l ∧ (∀ b off, A' = some ⟨b, off, none⟩ → w.heap.size ≤ b) ∧ i' ≤ zs.length ∧ Cursor w' g A cap zs i' h' ∧ w.grownBy w' (some g)

set_option maxRecDepth 100000 in
set_option maxHeartbeats 1000000 in
theorem l7table_ex (A : Option Addr) (cap : Nat) (zs : List Int) (i : Nat) (h : Int) (hi : i ≤ zs.length) (w : World) (g : Nat) (hC : Cursor w g A cap zs i h) :
    Calls Try.prog 64 #[.pointer (some ⟨g, 0, none⟩)] w (TbOut w g A cap zs) := by
  obtain ⟨X, i1, h1, x0, x9, _, l1, C1⟩ := below_det A cap zs i h hi 8
  have x9 := x9 (by decide)
  have hgw := hC.lt
  have HC := Lib.hid hC
  have HC1 := Lib.hid C1
  clear hC C1
  have HU := Lib.hid spec_uetable_any
  obtain ⟨u, hu⟩ : ∃ u, u = ueT := ⟨_, rfl⟩
  have hul : u.length = 512 := by rw [hu, ueT_len]
  rw [← hu] at HU
  clear hu
  have HUL := Lib.hid hul; clear hul
  by_cases hX0 : X = 0
  · subst hX0
    obtain ⟨k, i2, h2, k0, k9, _, l2, C2⟩ := below_det A cap zs i1 h1 l1 512
    have k9 := k9 (by decide)
    obtain ⟨k, rfl⟩ := Int.eq_ofNat_of_zero_le k0
    obtain ⟨z, i3, h3, z0, z9, _, l3, C3⟩ := below_det A cap zs i2 h2 l2 11
    have HC2 := Lib.hid C2; have HC3 := Lib.hid C3
    clear C2 C3
    go_enter Try.func64, Try.ntmps64
    go_wp2_with fail
    refine (HU.out _).mono ?_
    rintro e w1 ⟨A1, c1, rfl, ho1, hb1⟩
    rw [HUL.out]
    have Q1 := Lib.hid (below_grows hb1 (some g))
    have G1 := Lib.hid (cursor_below HC.out hb1)
    have O1 : Hid (w1.ownsRow w.heap.size 45 2 (.slice A1 512 c1) 512 (ivs (els u))) := Lib.hid (by have := ho1; unfold OwnE at this; rw [HUL.out] at this; exact this)
    clear ho1 hb1
    go_wp2_with fail
    refine (HC1.out _ _ G1.out).mono ?_
    rintro e w2 ⟨rfl, hC2, hg2⟩
    have G2 := Lib.hid hC2
    have Q2 := Lib.hid (Q1.out.trans hg2)
    have O2 := Lib.hid (World.ownsRow.kept O1.out hg2 (own_far O1.out hgw))
    clear hC2 hg2
    go_wp2_with fail
    refine (HC2.out _ _ G2.out).mono ?_
    rintro e w3 ⟨rfl, hC3, hg3⟩
    have G3 := Lib.hid hC3
    have Q3 := Lib.hid (Q2.out.trans hg3)
    have O3 := Lib.hid (World.ownsRow.kept O2.out hg3 (own_far O2.out hgw))
    clear hC3 hg3
    go_wp2_with fail
    refine (HC3.out _ _ G3.out).mono ?_
    rintro e w4 ⟨rfl, hC4, hg4⟩
    have G4 := Lib.hid hC4
    have Q4 := Lib.hid (Q3.out.trans hg4)
    have O4 := Lib.hid (World.ownsRow.kept O3.out hg4 (own_far O3.out hgw))
    clear hC4 hg4
    rcases id O4.out.2 with ⟨h1, h2⟩ | ⟨g1, cap1, cur1, h1, hbg, _⟩
    · omega
    · simp only [Value.slice.injEq] at h1
      obtain ⟨rfl, _, rfl⟩ := h1
      have hel := els_len u
      have hpl := HUL.out
      have hown := O4.out
      obtain ⟨b0, hc⟩ : ∃ b0 : Int, w4.cell? ⟨g1, k * 2, none⟩ = some (.int .i64 b0) := ⟨_, (hown.cellAt (k * 2) (by omega)).trans (ivs_at (els u) (k * 2) (by omega))⟩
      obtain ⟨b1, hc1⟩ : ∃ b0 : Int, w4.cell? ⟨g1, k * 2 + 1, none⟩ = some (.int .i64 b0) := ⟨_, (hown.cellAt (k * 2 + 1) (by omega)).trans (ivs_at (els u) (k * 2 + 1) (by omega))⟩
      have hz := hown.frozenAt (k * 2)
      have hz1 := hown.frozenAt (k * 2 + 1)
      clear hel hpl hown
      go_wp2
      go_ret
      have s1 := O4.out.stored (k * 2) (.int .i64 z)
      have s2 := s1.1.stored (k * 2 + 1) (.int .i64 5)
      have s21 := s2.1
      rw [ivs_set, ivs_set, els_set] at s21
      have hll : (u.set k (z, 5)).length = 512 := by rw [List.length_set, HUL.out]
      have hO : OwnE ((w4.setCell ⟨g1, k * 2, none⟩ (.int .i64 z)).setCell ⟨g1, k * 2 + 1, none⟩ (.int .i64 5)) w.heap.size (some ⟨g1, 0, none⟩) c1 (u.set k (z, 5)) := by
        unfold OwnE
        rw [hll]
        exact s21
      exact ⟨some ⟨g1, 0, none⟩, c1, u.set k (z, 5), i3, h3, by rw [hll]; rfl, by omega, hO.ents (by omega), hO.far, l3, cursor_new (cursor_new G4.out (by omega) _ _) (by omega) _ _, grown_new (grown_new Q4.out hbg _ _) hbg _ _⟩
  · have hq0 : (X == 0) = false := by rw [beq_eq_false_iff_ne]; exact hX0
    by_cases hX1 : X = 1
    · subst hX1
      go_enter Try.func64, Try.ntmps64
      go_wp2_with fail
      refine (HU.out _).mono ?_
      rintro e w1 ⟨A1, c1, rfl, ho1, hb1⟩
      have hcap := ho1.cap_le
      rw [HUL.out] at hcap ⊢
      have Q1 := Lib.hid (below_grows hb1 (some g))
      have G1 := Lib.hid (cursor_below HC.out hb1)
      have O1 := Lib.hid ho1
      clear ho1 hb1
      go_wp2_with fail
      refine (HC1.out _ _ G1.out).mono ?_
      rintro e w2 ⟨rfl, hC2, hg2⟩
      have G2 := Lib.hid hC2
      have Q2 := Lib.hid (Q1.out.trans hg2)
      have O2 : Hid (OwnE w2 w.heap.size A1 c1 u) := Lib.hid (World.ownsRow.kept O1.out hg2 (own_far O1.out hgw))
      clear hC2 hg2
      rcases id O2.out.2 with ⟨h1, h2⟩ | ⟨g1, cap1, cur1, h1, hbg, _⟩
      · rw [HUL.out] at h2; omega
      · simp only [Value.slice.injEq] at h1
        obtain ⟨rfl, _, rfl⟩ := h1
        go_wp2
        go_ret
        have hE := O2.out.ents (by rw [HUL.out]; decide)
        have hll : (u.take 100).length = 100 := by rw [List.length_take, HUL.out]; rfl
        refine ⟨some ⟨g1, 0, none⟩, c1, u.take 100, i1, h1, by rw [hll]; rfl, by omega, ⟨by omega, .inr ?_⟩, O2.out.far, l1, G2.out, Q2.out⟩
        obtain ⟨b, off, hA, hbb, hcc⟩ := hE.at 0 (by rw [HUL.out]; decide)
        refine ⟨b, off, hA, hbb, fun j hj => ?_⟩
        rw [hll] at hj
        have e : entAt (u.take 100) j = entAt u j := by
          unfold entAt
          rw [List.getD_eq_getElem?_getD, List.getElem?_take, if_pos hj, ← List.getD_eq_getElem?_getD]
        rw [e]
        exact hcc j (by rw [HUL.out]; omega)
    · have hq1 : (X == 1) = false := by rw [beq_eq_false_iff_ne]; exact hX1
      clear hX0 hX1
      go_enter Try.func64, Try.ntmps64
      go_wp2_with fail
      refine (HU.out _).mono ?_
      rintro e w1 ⟨A1, c1, rfl, ho1, hb1⟩
      rw [HUL.out]
      have Q1 := Lib.hid (below_grows hb1 (some g))
      have G1 := Lib.hid (cursor_below HC.out hb1)
      have O1 := Lib.hid ho1
      clear ho1 hb1
      go_wp2_with fail
      refine (HC1.out _ _ G1.out).mono ?_
      rintro e w2 ⟨rfl, hC2, hg2⟩
      have G2 := Lib.hid hC2
      have Q2 := Lib.hid (Q1.out.trans hg2)
      have O2 : Hid (OwnE w2 w.heap.size A1 c1 u) := Lib.hid (World.ownsRow.kept O1.out hg2 (own_far O1.out hgw))
      clear hC2 hg2
      go_wp2
      go_ret
      exact ⟨A1, c1, u, i1, h1, by rw [HUL.out]; rfl, by rw [HUL.out]; exact Nat.le_refl _, O2.out.ents (by rw [HUL.out]; decide), O2.out.far, l1, G2.out, Q2.out⟩
end Go.Proofs.Ytgacldhpohnpaaa

namespace Go.Proofs.Ytgacldhpohnpaaa
open Go.RowKit
set_option linter.unusedVariables false

/-- What the draw leaves. -/
def FuOut (w : World) (e : Ending) (w' : World) : Prop :=
  ∃ (s : ByteArray) (p wd h : Int) (A' : Option Addr) (c' : Nat) (l : EntL), e = .returned (.tuple #[.agg #[.string s, .int .i64 p, .int .i64 wd, .int .i64 h], .slice A' l.length c']) ∧ s.size ≤ 1000 ∧ l.length ≤ 512 ∧ Ents w' w'.heap.size A' l ∧ Below w.heap.size w w'

set_option maxRecDepth 100000 in
set_option maxHeartbeats 1000000 in
theorem drawfast_ex (A : Option Addr) (cap : Nat) (zs : List Int) (w : World) (hW : Code w A zs) :
    Calls Try.prog 14 #[.slice A zs.length cap] w (FuOut w) := by
  have HN := Lib.hid (fun w hb => new_any A cap zs hW.few hW.bytes w hb)
  have HW := Lib.hid hW
  clear hW
  go_enter Try.func14, Try.ntmps14
  go_wp2_with fail
  refine (HN.out _ ((HW.out.below (below_new w _)).lies)).mono ?_
  obtain ⟨g, hg⟩ : ∃ g, g = (w.alloc (.cells #[.string ⟨#[]⟩, .int .i64 0, .int .i64 0, .int .i64 0] 25)).heap.size := ⟨_, rfl⟩
  have hgw : w.heap.size < g := by rw [hg]; simp
  rw [← hg]
  rintro e w1 ⟨rfl, hC, hb⟩
  rw [hg] at hb
  have G1 := Lib.hid hC; clear hC
  have R1 := Lib.hid (cell_kept (heap_alloc_new w _) hb)
  have B1 := Lib.hid (below_step (below_new w _) hb); clear hb hg
  go_wp2_with fail
  refine (l6reader_ex A cap zs 0 _ (Nat.zero_le _) _ g G1.out).mono ?_
  rintro e w2 hout
  obtain ⟨s0, a0, i2, h2, rfl, hs0, ha0, ha1, l2, hC2, hg2⟩ := hout
  have G2 := Lib.hid hC2
  have R2 := Lib.hid (grown_at R1.out hg2 (by omega))
  have B2 := Lib.hid (B1.out.trans (grown_below hg2 (Nat.le_of_lt hgw) B1.out.size)); clear hC2 hg2
  obtain ⟨s1, p1, y1, x1, i3, h3, hs1, l3, C3⟩ := l4cache_det A cap zs i2 h2 l2
  have HC3 := Lib.hid C3; clear C3
  have GA := Lib.hid (G2.out.alloc (.cells #[.string s0, .int .i64 a0] 35))
  have RA := Lib.hid (heap_keep R2.out (.cells #[.string s0, .int .i64 a0] 35))
  have BA := Lib.hid (B2.out.alloc B2.out.size (.cells #[.string s0, .int .i64 a0] 35))
  have NA := Lib.hid (heap_alloc_new w2 (.cells #[.string s0, .int .i64 a0] 35))
  have hne2 : w2.heap.size ≠ g := by have := G2.out.lt; omega
  go_wp2_with fail
  refine (HC3.out _ _ GA.out).mono ?_
  rintro e w3 ⟨rfl, hC3, hg3⟩
  have G3 := Lib.hid hC3
  have R3 := Lib.hid (grown_at RA.out hg3 (by omega))
  have N3 := Lib.hid (grown_at NA.out hg3 hne2)
  have B3 := Lib.hid (BA.out.trans (grown_below hg3 (Nat.le_of_lt hgw) BA.out.size)); clear hC3 hg3
  have GB := Lib.hid (G3.out.alloc (.cells #[.string s1, .int .i64 p1, .int .i64 y1, .int .i64 x1] 25))
  have RB := Lib.hid (heap_keep R3.out (.cells #[.string s1, .int .i64 p1, .int .i64 y1, .int .i64 x1] 25))
  have NB := Lib.hid (heap_keep N3.out (.cells #[.string s1, .int .i64 p1, .int .i64 y1, .int .i64 x1] 25))
  have XB := Lib.hid (heap_alloc_new w3 (.cells #[.string s1, .int .i64 p1, .int .i64 y1, .int .i64 x1] 25))
  have BB := Lib.hid (B3.out.alloc B3.out.size (.cells #[.string s1, .int .i64 p1, .int .i64 y1, .int .i64 x1] 25))
  have hxg : w3.heap.size ≠ g := by have := G3.out.lt; omega
  obtain ⟨n0, n1⟩ := cells2 N3.out
  have hn3 := heap_lt N3.out
  have RO := Lib.hid (spec_readerok_any s0 a0 (by omega))
  cases hro : rdOk s0 a0 with
  | false =>
    rw [hro] at RO
    go_wp2_with fail
    refine (RO.out _).mono ?_
    rintro e wz ⟨rfl, hb⟩
    have GX := Lib.hid (cell_kept XB.out hb)
    have RZ := Lib.hid (cell_kept RB.out hb)
    have GZ := Lib.hid (cursor_below GB.out hb)
    have BZ := Lib.hid (below_up BB.out hb BB.out.size)
    clear hb n0 n1
    obtain ⟨s, hs⟩ : ∃ s, s = s1 := ⟨_, rfl⟩
    obtain ⟨p, hp⟩ : ∃ p, p = p1 := ⟨_, rfl⟩
    obtain ⟨wd, hwd⟩ : ∃ y, y = y1 := ⟨_, rfl⟩
    obtain ⟨h, hh⟩ : ∃ x, x = x1 := ⟨_, rfl⟩
    obtain ⟨iz, hiz⟩ : ∃ i, i = i3 := ⟨_, rfl⟩
    obtain ⟨hz, hhz⟩ : ∃ i, i = h3 := ⟨_, rfl⟩
    subst hs hp hwd hh hiz hhz
    have lz := l3
    obtain ⟨c0, c1, c2, c3⟩ := cells4 GX.out
    have hlx := heap_lt GX.out
    go_wp2_with fail
    go_region_with (go_at_call 64; refine (l7table_ex A cap zs iz hz lz _ g GZ.out.drew).mono ?_; rintro e wt hout; obtain ⟨A', cp', l, i', h', rfl, hl, hE, hF, li, hCt, hgt⟩ := hout; have GT := Lib.hid hE; have FT := Lib.hid hF; have XT := Lib.hid (grown_at (w := wz.drew) GX.out hgt hxg); have RT := Lib.hid (grown_at (w := wz.drew) RZ.out hgt (by omega)); have BT := Lib.hid (BZ.out.drew.trans (grown_below hgt (Nat.le_of_lt hgw) BZ.out.drew.size)); have xc := cells4 XT.out; obtain ⟨j0, j1, j2, j3⟩ := xc; have rc := cells4 RT.out; obtain ⟨d0, d1, d2, d3⟩ := rc; have rf := frozen4 RT.out; obtain ⟨f0, f1, f2, f3⟩ := rf; clear hE hF hCt hgt)
    all_goals
      obtain ⟨w4, hw4, e0, e1, e2, e3, hb4⟩ := out4 s p wd h RT.out (Nat.le_refl _) BT.out
      have hEn : Ents w4 w4.heap.size A' l := by
        rw [hw4]
        have h1 := GT.out.other (w' := put4 wt w.heap.size s p wd h) (x := w.heap.size) (fun b off hb e => by have h2 := FT.out b off hb; have h3 := heap_lt RZ.out; have h4 : wz.drew.heap.size = wz.heap.size := rfl; omega) (fun k hk => put4_other hk s p wd h)
        have h5 : (put4 wt w.heap.size s p wd h).heap.size = wt.heap.size := by simp [put4]
        have h6 : Ents (put4 wt w.heap.size s p wd h) (put4 wt w.heap.size s p wd h).heap.size A' l := by rw [h5]; exact h1
        exact h6
      have HW4 := Lib.hid hw4; have HE4 := Lib.hid (And.intro e0 (And.intro e1 (And.intro e2 (And.intro e3 hb4)))); have HEn := Lib.hid hEn
      clear hw4 e0 e1 e2 e3 hb4 hEn
      go_wp2
      rw [← HW4.out]
      obtain ⟨e0, e1, e2, e3, hb4⟩ := HE4.out
      exact bodyPost_ret (v := .tuple #[.agg #[.string s, .int .i64 p, .int .i64 wd, .int .i64 h], .slice A' l.length cp']) (by simp [results, Try.results14, go_sem, e0, e1, e2, e3]) rfl ⟨s, p, wd, h, A', cp', l, rfl, by omega, hl, HEn.out, hb4⟩
  | true =>
    rw [hro] at RO
    simp only [rdOk, Bool.and_eq_true, decide_eq_true_eq] at hro
    obtain ⟨r0, r1⟩ := hro
    obtain ⟨an, rfl⟩ := Int.eq_ofNat_of_zero_le r0
    obtain ⟨b5, i4, h4, l4, C4⟩ := once_det A cap zs i3 h3 l3 5
    have HC4 := Lib.hid C4; clear C4
    go_wp2_with fail
    refine (RO.out _).mono ?_
    rintro e wa ⟨rfl, hb⟩
    have Xa := Lib.hid (cell_kept XB.out hb)
    have Na := Lib.hid (cell_kept NB.out hb)
    have Ra := Lib.hid (cell_kept RB.out hb)
    have Ga := Lib.hid (cursor_below GB.out hb)
    have Ba := Lib.hid (below_up BB.out hb BB.out.size)
    clear hb n0 n1
    go_wp2_with fail
    refine (HC4.out _ _ Ga.out).mono ?_
    rintro e wb ⟨rfl, hCb, hgb⟩
    have Xb := Lib.hid (grown_at Xa.out hgb hxg)
    have Nb := Lib.hid (grown_at Na.out hgb hne2)
    have Rb := Lib.hid (grown_at Ra.out hgb (by omega))
    have Gb := Lib.hid hCb
    have Bb := Lib.hid (Ba.out.trans (grown_below hgb (Nat.le_of_lt hgw) Ba.out.size))
    clear hCb hgb
    cases b5 with
    | true =>
      obtain ⟨wz, hwz⟩ : ∃ wz, wz = wb := ⟨_, rfl⟩
      subst hwz
      have GX := Xb
      have RZ := Rb
      have GZ := Gb
      have BZ := Bb
      clear Xb Rb Gb Bb
      obtain ⟨s, hs⟩ : ∃ s, s = s1 := ⟨_, rfl⟩
      obtain ⟨p, hp⟩ : ∃ p, p = p1 := ⟨_, rfl⟩
      obtain ⟨wd, hwd⟩ : ∃ y, y = y1 := ⟨_, rfl⟩
      obtain ⟨h, hh⟩ : ∃ x, x = x1 := ⟨_, rfl⟩
      obtain ⟨iz, hiz⟩ : ∃ i, i = i4 := ⟨_, rfl⟩
      obtain ⟨hz, hhz⟩ : ∃ i, i = h4 := ⟨_, rfl⟩
      subst hs hp hwd hh hiz hhz
      have lz := l4
      obtain ⟨c0, c1, c2, c3⟩ := cells4 GX.out
      have hlx := heap_lt GX.out
      go_wp2_with fail
      go_region_with (go_at_call 64; refine (l7table_ex A cap zs iz hz lz _ g GZ.out.drew).mono ?_; rintro e wt hout; obtain ⟨A', cp', l, i', h', rfl, hl, hE, hF, li, hCt, hgt⟩ := hout; have GT := Lib.hid hE; have FT := Lib.hid hF; have XT := Lib.hid (grown_at (w := wz.drew) GX.out hgt hxg); have RT := Lib.hid (grown_at (w := wz.drew) RZ.out hgt (by omega)); have BT := Lib.hid (BZ.out.drew.trans (grown_below hgt (Nat.le_of_lt hgw) BZ.out.drew.size)); have xc := cells4 XT.out; obtain ⟨j0, j1, j2, j3⟩ := xc; have rc := cells4 RT.out; obtain ⟨d0, d1, d2, d3⟩ := rc; have rf := frozen4 RT.out; obtain ⟨f0, f1, f2, f3⟩ := rf; clear hE hF hCt hgt)
      all_goals
        obtain ⟨w4, hw4, e0, e1, e2, e3, hb4⟩ := out4 s p wd h RT.out (Nat.le_refl _) BT.out
        have hEn : Ents w4 w4.heap.size A' l := by
          rw [hw4]
          have h1 := GT.out.other (w' := put4 wt w.heap.size s p wd h) (x := w.heap.size) (fun b off hb e => by have h2 := FT.out b off hb; have h3 := heap_lt RZ.out; have h4 : wz.drew.heap.size = wz.heap.size := rfl; omega) (fun k hk => put4_other hk s p wd h)
          have h5 : (put4 wt w.heap.size s p wd h).heap.size = wt.heap.size := by simp [put4]
          have h6 : Ents (put4 wt w.heap.size s p wd h) (put4 wt w.heap.size s p wd h).heap.size A' l := by rw [h5]; exact h1
          exact h6
        have HW4 := Lib.hid hw4; have HE4 := Lib.hid (And.intro e0 (And.intro e1 (And.intro e2 (And.intro e3 hb4)))); have HEn := Lib.hid hEn
        clear hw4 e0 e1 e2 e3 hb4 hEn
        go_wp2
        rw [← HW4.out]
        obtain ⟨e0, e1, e2, e3, hb4⟩ := HE4.out
        exact bodyPost_ret (v := .tuple #[.agg #[.string s, .int .i64 p, .int .i64 wd, .int .i64 h], .slice A' l.length cp']) (by simp [results, Try.results14, go_sem, e0, e1, e2, e3]) rfl ⟨s, p, wd, h, A', cp', l, rfl, by omega, hl, HEn.out, hb4⟩
    | false =>
      have HL := Lib.hid (l7at_any s0 an (by omega) (by omega))
      have HR := Lib.hid (spec_refill_in s0 an ((an + 7) / 8) (by omega) ⟨by omega, by omega, by omega⟩)
      unfold cw cv at HL HR
      obtain ⟨p2, hp2⟩ : ∃ p2 : Int, p2 = (((an + 7) / 8 : Nat) : Int) := ⟨_, rfl⟩
      obtain ⟨y2, hy2⟩ : ∃ y2 : Int, y2 = (rdN s0 an (8 * ((an + 7) / 8) - an) : Int) := ⟨_, rfl⟩
      obtain ⟨x2, hx2⟩ : ∃ x2 : Int, x2 = ((8 * ((an + 7) / 8) - an : Nat) : Int) := ⟨_, rfl⟩
      obtain ⟨p3, hp3⟩ : ∃ p2 : Int, p2 = (rfP s0 an ((an + 7) / 8) : Int) := ⟨_, rfl⟩
      obtain ⟨y3, hy3⟩ : ∃ y2 : Int, y2 = (rdN s0 an (8 * rfP s0 an ((an + 7) / 8) - an) : Int) := ⟨_, rfl⟩
      obtain ⟨x3, hx3⟩ : ∃ x2 : Int, x2 = ((8 * rfP s0 an ((an + 7) / 8) - an : Nat) : Int) := ⟨_, rfl⟩
      rw [← hp2, ← hy2, ← hx2] at HL HR
      rw [← hp3, ← hy3, ← hx3] at HR
      clear hp2 hy2 hx2 hp3 hy3 hx3
      obtain ⟨m0, m1⟩ := cells2 Nb.out
      have hnb := heap_lt Nb.out
      go_wp2_with fail
      refine (HL.out _).mono ?_
      rintro e wc ⟨rfl, hb⟩
      have Xc := Lib.hid (cell_kept Xb.out hb)
      have Rc := Lib.hid (cell_kept Rb.out hb)
      have Gc := Lib.hid (cursor_below Gb.out hb)
      have Bc := Lib.hid (below_up Bb.out hb Bb.out.size)
      clear hb m0 m1
      obtain ⟨j0, j1, j2, j3⟩ := cells4 Xc.out
      obtain ⟨f0, f1, f2, f3⟩ := frozen4 Xc.out
      have hg3 : g < w3.heap.size := G3.out.lt
      have Xd := Lib.hid (put4_block Xc.out s0 p2 y2 x2)
      have Rd : Hid ((put4 wc w3.heap.size s0 p2 y2 x2).heap[w.heap.size]? = some (.cells #[.string ⟨#[]⟩, .int .i64 0, .int .i64 0, .int .i64 0] 25 (0, 0))) := Lib.hid ((put4_other (w := wc) (g := w3.heap.size) (k := w.heap.size) (by omega) s0 p2 y2 x2).trans Rc.out)
      have Gd : Hid (Cursor (put4 wc w3.heap.size s0 p2 y2 x2) g A cap zs i4 h4) := Lib.hid (Gc.out.kept fun k hk => put4_other (by omega) s0 p2 y2 x2)
      have Bd := Lib.hid (put4_below Bc.out w3.heap.size (by omega) s0 p2 y2 x2)
      obtain ⟨b6, i5, h5, l5, C5⟩ := once_det A cap zs i4 h4 l4 2
      have HC5 := Lib.hid C5; clear C5
      go_wp2_with fail
      refine (HC5.out _ _ Gd.out).mono ?_
      rintro e we ⟨rfl, hCe, hge⟩
      have Xe := Lib.hid (grown_at (w := put4 wc w3.heap.size s0 p2 y2 x2) Xd.out hge hxg)
      have Re := Lib.hid (grown_at (w := put4 wc w3.heap.size s0 p2 y2 x2) Rd.out hge (by omega))
      have Ge := Lib.hid hCe
      have Be := Lib.hid (Bd.out.trans (grown_below (w := put4 wc w3.heap.size s0 p2 y2 x2) hge (Nat.le_of_lt hgw) Bd.out.size))
      clear hCe hge f0 f1 f2 f3 j0 j1 j2 j3
      cases b6 with
      | false =>
        obtain ⟨wz, hwz⟩ : ∃ wz, wz = we := ⟨_, rfl⟩
        subst hwz
        have GX := Xe
        have RZ := Re
        have GZ := Ge
        have BZ := Be
        clear Xe Re Ge Be
        obtain ⟨s, hs⟩ : ∃ s, s = s0 := ⟨_, rfl⟩
        obtain ⟨p, hp⟩ : ∃ p, p = p2 := ⟨_, rfl⟩
        obtain ⟨wd, hwd⟩ : ∃ y, y = y2 := ⟨_, rfl⟩
        obtain ⟨h, hh⟩ : ∃ x, x = x2 := ⟨_, rfl⟩
        obtain ⟨iz, hiz⟩ : ∃ i, i = i5 := ⟨_, rfl⟩
        obtain ⟨hz, hhz⟩ : ∃ i, i = h5 := ⟨_, rfl⟩
        subst hs hp hwd hh hiz hhz
        have lz := l5
        obtain ⟨c0, c1, c2, c3⟩ := cells4 GX.out
        have hlx := heap_lt GX.out
        go_wp2_with fail
        go_region_with (go_at_call 64; refine (l7table_ex A cap zs iz hz lz _ g GZ.out.drew).mono ?_; rintro e wt hout; obtain ⟨A', cp', l, i', h', rfl, hl, hE, hF, li, hCt, hgt⟩ := hout; have GT := Lib.hid hE; have FT := Lib.hid hF; have XT := Lib.hid (grown_at (w := wz.drew) GX.out hgt hxg); have RT := Lib.hid (grown_at (w := wz.drew) RZ.out hgt (by omega)); have BT := Lib.hid (BZ.out.drew.trans (grown_below hgt (Nat.le_of_lt hgw) BZ.out.drew.size)); have xc := cells4 XT.out; obtain ⟨j0, j1, j2, j3⟩ := xc; have rc := cells4 RT.out; obtain ⟨d0, d1, d2, d3⟩ := rc; have rf := frozen4 RT.out; obtain ⟨f0, f1, f2, f3⟩ := rf; clear hE hF hCt hgt)
        all_goals
          obtain ⟨w4, hw4, e0, e1, e2, e3, hb4⟩ := out4 s p wd h RT.out (Nat.le_refl _) BT.out
          have hEn : Ents w4 w4.heap.size A' l := by
            rw [hw4]
            have h1 := GT.out.other (w' := put4 wt w.heap.size s p wd h) (x := w.heap.size) (fun b off hb e => by have h2 := FT.out b off hb; have h3 := heap_lt RZ.out; have h4 : wz.drew.heap.size = wz.heap.size := rfl; omega) (fun k hk => put4_other hk s p wd h)
            have h5 : (put4 wt w.heap.size s p wd h).heap.size = wt.heap.size := by simp [put4]
            have h6 : Ents (put4 wt w.heap.size s p wd h) (put4 wt w.heap.size s p wd h).heap.size A' l := by rw [h5]; exact h1
            exact h6
          have HW4 := Lib.hid hw4; have HE4 := Lib.hid (And.intro e0 (And.intro e1 (And.intro e2 (And.intro e3 hb4)))); have HEn := Lib.hid hEn
          clear hw4 e0 e1 e2 e3 hb4 hEn
          go_wp2
          rw [← HW4.out]
          obtain ⟨e0, e1, e2, e3, hb4⟩ := HE4.out
          exact bodyPost_ret (v := .tuple #[.agg #[.string s, .int .i64 p, .int .i64 wd, .int .i64 h], .slice A' l.length cp']) (by simp [results, Try.results14, go_sem, e0, e1, e2, e3]) rfl ⟨s, p, wd, h, A', cp', l, rfl, by omega, hl, HEn.out, hb4⟩
      | true =>
        obtain ⟨j0, j1, j2, j3⟩ := cells4 Xe.out
        have hxe := heap_lt Xe.out
        go_wp2_with fail
        refine (HR.out _).mono ?_
        rintro e wf ⟨rfl, hb⟩
        have Xf := Lib.hid (cell_kept Xe.out hb)
        have Rf := Lib.hid (cell_kept Re.out hb)
        have Gf := Lib.hid (cursor_below Ge.out hb)
        have Bf := Lib.hid (below_up Be.out hb Be.out.size)
        clear hb j0 j1 j2 j3
        obtain ⟨j0, j1, j2, j3⟩ := cells4 Xf.out
        obtain ⟨f0, f1, f2, f3⟩ := frozen4 Xf.out
        obtain ⟨wz, hwz⟩ : ∃ wz, wz = put4 wf w3.heap.size s0 p3 y3 x3 := ⟨_, rfl⟩
        have GX : Hid (wz.heap[w3.heap.size]? = some (.cells #[.string s0, .int .i64 p3, .int .i64 y3, .int .i64 x3] 25 (0, 0))) := Lib.hid (by rw [hwz]; exact put4_block Xf.out s0 p3 y3 x3)
        have RZ : Hid (wz.heap[w.heap.size]? = some (.cells #[.string ⟨#[]⟩, .int .i64 0, .int .i64 0, .int .i64 0] 25 (0, 0))) := Lib.hid (by rw [hwz]; exact (put4_other (w := wf) (g := w3.heap.size) (k := w.heap.size) (by omega) s0 p3 y3 x3).trans Rf.out)
        have GZ : Hid (Cursor wz g A cap zs i5 h5) := Lib.hid (by rw [hwz]; exact Gf.out.kept fun k hk => put4_other (by omega) s0 p3 y3 x3)
        have BZ : Hid (Below w.heap.size w wz) := Lib.hid (by rw [hwz]; exact put4_below Bf.out w3.heap.size (by omega) s0 p3 y3 x3)
        have HWZ := Lib.hid hwz; clear hwz
        go_upto_region 8 with fail
        rw [show ((((wf.setCell ⟨w3.heap.size, 0, none⟩ (.string s0)).setCell ⟨w3.heap.size, 1, none⟩ (.int .i64 p3)).setCell ⟨w3.heap.size, 2, none⟩ (.int .i64 y3)).setCell ⟨w3.heap.size, 3, none⟩ (.int .i64 x3)) = wz from HWZ.out.symm]
        clear j0 j1 j2 j3 f0 f1 f2 f3
        obtain ⟨s, hs⟩ : ∃ s, s = s0 := ⟨_, rfl⟩
        obtain ⟨p, hp⟩ : ∃ p, p = p3 := ⟨_, rfl⟩
        obtain ⟨wd, hwd⟩ : ∃ y, y = y3 := ⟨_, rfl⟩
        obtain ⟨h, hh⟩ : ∃ x, x = x3 := ⟨_, rfl⟩
        obtain ⟨iz, hiz⟩ : ∃ i, i = i5 := ⟨_, rfl⟩
        obtain ⟨hz, hhz⟩ : ∃ i, i = h5 := ⟨_, rfl⟩
        subst hs hp hwd hh hiz hhz
        have lz := l5
        obtain ⟨c0, c1, c2, c3⟩ := cells4 GX.out
        have hlx := heap_lt GX.out
        go_region_with (go_at_call 64; refine (l7table_ex A cap zs iz hz lz _ g GZ.out.drew).mono ?_; rintro e wt hout; obtain ⟨A', cp', l, i', h', rfl, hl, hE, hF, li, hCt, hgt⟩ := hout; have GT := Lib.hid hE; have FT := Lib.hid hF; have XT := Lib.hid (grown_at (w := wz.drew) GX.out hgt hxg); have RT := Lib.hid (grown_at (w := wz.drew) RZ.out hgt (by omega)); have BT := Lib.hid (BZ.out.drew.trans (grown_below hgt (Nat.le_of_lt hgw) BZ.out.drew.size)); have xc := cells4 XT.out; obtain ⟨j0, j1, j2, j3⟩ := xc; have rc := cells4 RT.out; obtain ⟨d0, d1, d2, d3⟩ := rc; have rf := frozen4 RT.out; obtain ⟨f0, f1, f2, f3⟩ := rf; clear hE hF hCt hgt)
        all_goals
          obtain ⟨w4, hw4, e0, e1, e2, e3, hb4⟩ := out4 s p wd h RT.out (Nat.le_refl _) BT.out
          have hEn : Ents w4 w4.heap.size A' l := by
            rw [hw4]
            have h1 := GT.out.other (w' := put4 wt w.heap.size s p wd h) (x := w.heap.size) (fun b off hb e => by have h2 := FT.out b off hb; have h3 := heap_lt RZ.out; have h4 : wz.drew.heap.size = wz.heap.size := rfl; omega) (fun k hk => put4_other hk s p wd h)
            have h5 : (put4 wt w.heap.size s p wd h).heap.size = wt.heap.size := by simp [put4]
            have h6 : Ents (put4 wt w.heap.size s p wd h) (put4 wt w.heap.size s p wd h).heap.size A' l := by rw [h5]; exact h1
            exact h6
          have HW4 := Lib.hid hw4; have HE4 := Lib.hid (And.intro e0 (And.intro e1 (And.intro e2 (And.intro e3 hb4)))); have HEn := Lib.hid hEn
          clear hw4 e0 e1 e2 e3 hb4 hEn
          go_wp2
          rw [← HW4.out]
          obtain ⟨e0, e1, e2, e3, hb4⟩ := HE4.out
          exact bodyPost_ret (v := .tuple #[.agg #[.string s, .int .i64 p, .int .i64 wd, .int .i64 h], .slice A' l.length cp']) (by simp [results, Try.results14, go_sem, e0, e1, e2, e3]) rfl ⟨s, p, wd, h, A', cp', l, rfl, by omega, hl, HEn.out, hb4⟩
end Go.Proofs.Ytgacldhpohnpaaa
