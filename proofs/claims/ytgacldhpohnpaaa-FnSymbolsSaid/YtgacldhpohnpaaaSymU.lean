/-
  Contracts of SymTable, in both texts. Condition: the list is no longer than 1048576 (the laws ask no more).
-/
import Derived.Test.YtgacldhpohnpaaaSymC
import Derived.Maps.AppendAt
namespace Go.Proofs.Ytgacldhpohnpaaa
open Go.RowKit
set_option linter.unusedVariables false

/-- What SymTable gives. -/
def symTR (l : List Int) : EntL := if okC l then symT l else []
theorem symTR_len (l : List Int) : (symTR l).length ≤ 128 := by
  unfold symTR
  split
  · rename_i h
    rw [symT_len h]
    exact Nat.le_refl _
  · simp
/-- One part of the table, filled. -/
def fillE (t : EntL) (s : Nat) (e : Int × Int) : Nat → EntL
  | 0 => t
  | k + 1 => (fillE t s e k).set (s + k) e
theorem fillE_len (t : EntL) (s : Nat) (e : Int × Int) : ∀ k, (fillE t s e k).length = t.length
  | 0 => rfl
  | k + 1 => by rw [fillE, List.length_set, fillE_len t s e k]
theorem fillE_in (t : EntL) (s : Nat) (e : Int × Int) (i : Nat) (hi : i < t.length) (hs : s ≤ i) : ∀ k, i < s + k → entAt (fillE t s e k) i = e
  | 0, h => by omega
  | k + 1, h => by
    rw [fillE]
    by_cases he : i = s + k
    · subst he
      exact entAt_set_same _ _ _ (by rw [fillE_len]; exact hi)
    · rw [entAt_set_other _ _ _ _ he]
      exact fillE_in t s e i hi hs k (by omega)
theorem fillE_out (t : EntL) (s : Nat) (e : Int × Int) (i : Nat) : ∀ k, i < s ∨ s + k ≤ i → entAt (fillE t s e k) i = entAt t i
  | 0, h => rfl
  | k + 1, h => by
    rw [fillE, entAt_set_other _ _ _ _ (by omega)]
    exact fillE_out t s e i k (by omega)
/-- Where a symbol's part begins. -/
def begC (l : List Int) (m : Nat) : Nat := ((codeL l).getD m 0 * krI (lenC l m)).toNat
/-- The model's table, the parts of the first `m` symbols filled. -/
def spT (l : List Int) : Nat → EntL
  | 0 => List.replicate 128 (0, 0)
  | m + 1 => fillE (spT l m) (begC l m) (lenC l m, (m : Int)) (krI (lenC l m)).toNat
theorem spT_len (l : List Int) : ∀ m, (spT l m).length = 128
  | 0 => List.length_replicate
  | m + 1 => by rw [spT, fillE_len, spT_len l m]
theorem beg_of {l : List Int} (h : okC l = true) (m q : Nat) (hm : m < 6) (hq : lenC l m = (q : Int) + 1) : ∃ k : Nat, (codeL l).getD m 0 = (k : Int) ∧ krI (lenC l m) = ((2 ^ (6 - q) : Nat) : Int) ∧ begC l m = k * 2 ^ (6 - q) ∧ (k + 1) * 2 ^ (6 - q) ≤ 128 := by
  obtain ⟨hq7, k, h1, h2, h3⟩ := valid_one h m q hm hq
  have hk : krI (lenC l m) = ((2 ^ (6 - q) : Nat) : Int) := by rw [hq]; exact krI_len q
  refine ⟨k, h1, hk, ?_, h2⟩
  unfold begC
  rw [h1, hk]
  norm_cast
theorem spT_at {l : List Int} (h : okC l = true) (i p q : Nat) (hi : i < 128) (hp : p < 6) (hq : lenC l p = (q : Int) + 1) (hc : (codeL l).getD p 0 = ((i / 2 ^ (6 - q) : Nat) : Int)) :
    ∀ m, m ≤ 6 → entAt (spT l m) i = if p < m then ((q : Int) + 1, (p : Int)) else (0, 0)
  | 0, _ => by
    rw [if_neg (by omega), spT]
    unfold entAt
    rw [List.getD_eq_getElem?_getD, List.getElem?_replicate, if_pos hi]
    rfl
  | m + 1, hm => by
    have ih := spT_at h i p q hi hp hq hc m (by omega)
    rw [spT]
    by_cases h0 : lenC l m = 0
    · have hk : (krI (lenC l m)).toNat = 0 := by rw [h0]; rfl
      have hpm : p ≠ m := by rintro rfl; omega
      rw [hk, fillE, ih]
      by_cases h1 : p < m
      · rw [if_pos h1, if_pos (by omega)]
      · rw [if_neg h1, if_neg (by omega)]
    · have hr := lenC_range h m
      simp only [inC, Bool.and_eq_true, decide_eq_true_eq] at hr
      obtain ⟨q', hq'⟩ : ∃ q' : Nat, lenC l m = (q' : Int) + 1 := ⟨(lenC l m - 1).toNat, by omega⟩
      obtain ⟨k, h1, h2, h3, h4⟩ := beg_of h m q' (by omega) hq'
      have hK : (krI (lenC l m)).toNat = 2 ^ (6 - q') := by rw [h2, Int.toNat_natCast]
      have hsum : (k + 1) * 2 ^ (6 - q') = k * 2 ^ (6 - q') + 2 ^ (6 - q') := by rw [Nat.add_mul, Nat.one_mul]
      rw [hK, h3]
      by_cases hpm : p = m
      · subst hpm
        obtain rfl : q' = q := by omega
        have hki : i / 2 ^ (6 - q') = k := by
          rw [h1] at hc
          omega
        have hb := (div_in (Nat.two_pow_pos (6 - q'))).1 hki
        rw [fillE_in _ _ _ _ (by rw [spT_len]; exact hi) hb.1 _ (by omega), if_pos (by omega), hq]
      · have hout : i < k * 2 ^ (6 - q') ∨ k * 2 ^ (6 - q') + 2 ^ (6 - q') ≤ i := by
          refine Decidable.byContradiction fun hno => ?_
          have hki : i / 2 ^ (6 - q') = k := (div_in (Nat.two_pow_pos (6 - q'))).2 (by omega)
          obtain ⟨_, k2, c1, c2, c3⟩ := valid_one h m q' (by omega) hq'
          obtain ⟨_, k3, d1, d2, d3⟩ := valid_one h p q hp hq
          have e1 := c3 i (by rw [h1] at c1; omega)
          have e2 := d3 i (by rw [hc] at d1; omega)
          rw [e1] at e2
          have := (Prod.mk.inj e2).2
          omega
        rw [fillE_out _ _ _ _ _ hout, ih]
        by_cases h5 : p < m
        · rw [if_pos h5, if_pos (by omega)]
        · rw [if_neg h5, if_neg (by omega)]
theorem spT_end {l : List Int} (h : okC l = true) : spT l 6 = symT l := by
  refine ents_ext _ _ (by rw [spT_len, symT_len h]) fun i hi => ?_
  rw [spT_len] at hi
  obtain ⟨p, q, hp, hq7, hq, he, hc⟩ := valid_has h i hi
  rw [spT_at h i p q hi hp hq hc 6 (Nat.le_refl _), if_pos hp, he]

theorem els_append (a b : EntL) : els (a ++ b) = els a ++ els b := by simp [els]
/-- One entry more. -/
theorem append_ent {P : Program} {w : World} (w0 : World) {ops : Array Oper} {rest : List Oper} {o : Oper} {a : Act} {Q : Exit → Act → World → Prop} (hgd : o.guard = none) (s x : Operand) (t : TypeId)
    (ho : o.op = .call { callee := .builtin .append, args := #[s, x], argTypes := #[t, t] })
    (base : Nat) (e : TypeId) (i : TypeInfo) (z : Value) (ht : P.underlying t = some (.slice e)) (hi : P.info? e = some i) (hz : i.zero = some z)
    (hsize : i.size = 2) (hby : i.bytes = 16) (hzs : z.cells.size = 2)
    (v : Value) (n : Nat) (l : EntL) (hs : a.eval s = v) (hown : w0.ownsRow base e 2 v n (ivs (els l)))
    (p q : Int) (hw : w = w0.alloc (.cells #[.int .i64 p, .int .i64 q] e)) (hx : a.eval x = .slice (some ⟨w0.heap.size, 0, none⟩) 1 1) (hn : n ≤ 100000) (hb : base ≤ w0.heap.size)
    (h : ∀ v' w', w'.ownsRow base e 2 v' (n + 1) (ivs (els (l ++ [(p, q)]))) → (w0.alloc (.cells #[.int .i64 p, .int .i64 q] e)).grownBy w' v.ownBlock → (v'.ownBlock = v.ownBlock ∨ v'.ownBlock = some (w0.heap.size + 1)) → wpList P ops Q rest (a.put o.dst v') w') :
    wpList P ops Q (o :: rest) a w := by
  subst hw
  refine wpList_append_own_at (w0.alloc (.cells #[.int .i64 p, .int .i64 q] e)) hgd s x t ho base e i z 2 16 ht hi hz hsize hby hzs (by decide) v n (ivs (els l)) hs (hown.alloc _)
    ⟨w0.heap.size, 0, none⟩ 1 1 [.int .i64 p, .int .i64 q] hx rfl ?_ ?_ (by unfold maxLen; omega) (by omega) (by simp; omega) ?_
  · intro j y hj
    have e : (⟨w0.heap.size, 0, none⟩ : Addr).add j = ⟨w0.heap.size, j, none⟩ := by unfold Addr.add; split <;> simp_all
    rw [e, World.cell?_alloc_mark]
    simpa using hj
  · intro y hy
    simp at hy
    rcases hy with rfl | rfl <;> rfl
  · intro v' w' hown' hg _ hb'
    refine h v' w' ?_ hg (by simpa using hb')
    rw [els_append, ivs_append]
    exact hown'

set_option maxRecDepth 100000 in
set_option maxHeartbeats 2000000 in
theorem impl_symtable_any (A : Option Addr) (ca : Nat) (l : List Int) (w : World) (hA : Ints w w.heap.size A l) :
    Calls Try.prog 26 #[.slice A l.length ca] w fun e w' => ∃ A' c, e = .returned (.slice A' (symTR l).length c) ∧ OwnE w' w.heap.size A' c (symTR l) ∧ Below w.heap.size w w' := by
  have CO := Lib.hid (impl_codeok_any A ca l w hA)
  cases hok : okC l with
  | false =>
    rw [hok] at CO
    have hr : symTR l = [] := by unfold symTR; rw [hok]; rfl
    rw [hr]
    have HON : Hid (OwnE w w.heap.size none 0 []) := Lib.hid (World.ownsRow_nil w w.heap.size 45 2)
    clear hr hok
    go_enter Try.func26, Try.ntmps26
    go_wp2_with fail
    refine CO.out.mono ?_
    rintro e w' ⟨rfl, hw⟩
    subst hw
    go_wp2
    go_ret
    exact ⟨none, 0, rfl, HON.out, Below.refl _ _⟩
  | true =>
    obtain ⟨i0, hi, hz0, hz1, hz2⟩ := info_parts Try.einfo
    rw [hok] at CO
    have hl6 := (okC_parts hok).1
    have hr : symTR l = symT l := by unfold symTR; rw [hok]; rfl
    have hsl := symT_len hok
    rw [hr, hsl]
    have HSL := Lib.hid hsl
    have HIN := Lib.hid (lenC_range hok)
    have PK := Lib.hid peeks_any
    have OR := Lib.hid (fun w hA => order_any A ca l hl6 w hA)
    have OA := Lib.hid (ordS_at l)
    have hol := ordS_len l 7 (Nat.le_refl _)
    have hst : symT l = tbI l (ordS l 7) := rfl
    obtain ⟨o, ho⟩ : ∃ o, o = ordS l 7 := ⟨_, rfl⟩
    rw [← ho] at OR OA hol hst
    obtain ⟨n, hn⟩ : ∃ n, n = o.length := ⟨_, rfl⟩
    have hn0 : 0 < n := by
      rw [hn]
      refine Nat.pos_of_ne_zero fun h => ?_
      rw [List.eq_nil_of_length_eq_zero h] at hst
      rw [hst] at hsl
      exact absurd hsl (by simp [tbI])
    rw [← hn] at OR OA hol
    have HA := Lib.hid hA
    have HN := Lib.hid hn
    have HST := Lib.hid hst
    obtain ⟨b, off, rfl, hb, hc⟩ := hA.at 0 (by omega)
    rw [hl6] at hc CO ⊢
    have HC := Lib.hid hc
    clear hc hA hl6 hr hsl hst ho hok hn
    have hmk : ∀ w, (Instr.makeSlice 26 (.int .i64 0) (.int .i64 128)).run Try.prog w = .ok (.slice (some ⟨w.heap.size, 0, none⟩) 0 128) (w.alloc (.cells (ivs (els (List.replicate 128 (0, 0)))).toArray 45)) := fun _ => by kernel_rfl
    obtain ⟨z, hz⟩ : ∃ z : EntL, z = List.replicate 128 (0, 0) := ⟨_, rfl⟩
    simp only [← hz] at hmk
    have hzl : (ivs (els z)).length = 256 := by rw [ivs_len, els_len, hz]; rfl
    have hO : (w.alloc (.cells (ivs (els z)).toArray 45)).ownsRow w.heap.size 45 2 (.slice (some ⟨w.heap.size, 0, none⟩) 0 128) 0 (ivs (els [])) := World.ownsRow_made w _ 128 (Nat.le_refl _) (by simp [maxLen]) (by simpa using hzl)
    have HO := Lib.hid hO
    have B0 := Lib.hid (below_new w (.cells (ivs (els z)).toArray 45))
    clear hO hzl hz
    go_enter Try.func26, Try.ntmps26
    go_wp2_with fail
    refine CO.out.mono ?_
    rintro e w' ⟨rfl, hw⟩
    subst hw
    go_wp2_with fail
    refine (OR.out _ ((HA.out.below B0.out (Nat.le_refl _)).mono B0.out.size)).mono ?_
    rintro e w3 ⟨A3, c3, rfl, ho3, hb3⟩
    have hoi := ho3.ints (by have := HN.out; omega)
    obtain ⟨bo, oo, rfl, hbo, hco⟩ := hoi.at 0 (by rw [← HN.out]; exact hn0)
    rw [← HN.out] at hco
    have hbo1 : w.heap.size < bo := by
      have h1 := (ho3.block bo rfl).1
      simp at h1
      omega
    have HCO := Lib.hid hco
    have O3 := Lib.hid (own_keep HO.out hb3)
    have B3 := Lib.hid (below_up B0.out hb3 B0.out.size)
    clear ho3 hb3 hoi hco HO B0 hmk
    go_wp2
    go_loopw [3, 5, 13] (fun v x i wr => ∃ (j t : Nat) (T : EntL), j ≤ n ∧ T = tbI l (o.take j) ∧ t = T.length ∧ t ≤ 64 * j ∧ i = .int .i64 j ∧ wr.ownsRow w.heap.size 45 2 v t (ivs (els T)) ∧ (v.ownBlock = some w.heap.size ∨ ∃ k, v.ownBlock = some k ∧ w3.heap.size ≤ k) ∧ wr.heap[bo]? = w3.heap[bo]? ∧ w3.heap.size ≤ wr.heap.size ∧ Below w.heap.size w wr)
      (fun _ _ i _ => n - (intOf i).toNat)
    case atStart => exact ⟨0, 0, [], Nat.zero_le _, rfl, rfl, Nat.zero_le _, rfl, O3.out, .inl rfl, rfl, Nat.le_refl _, B3.out⟩
    case round =>
      obtain ⟨j, t, T, hj, hT, ht, ht64, rfl, hown, hob, hbk, hsz, hbel⟩ := hrel
      have HT := Lib.hid hT; have HTL := Lib.hid ht; have HOB := Lib.hid hob; have HBK := Lib.hid hbk
      clear hT ht hob hbk
      by_cases hlt : j < n
      · obtain ⟨p, q, hp, hq, hop, hlp⟩ := OA.out j hlt
        have co := HCO.out j hlt
        rw [hop, ← World.cell?_of_block (w := w3) (w' := wr) (a := ⟨bo, oo + j, none⟩) HBK.out] at co
        have cl := HC.out p hp
        have HCL := Lib.hid cl
        rw [← hbel.cell (p := ⟨b, off + p, none⟩) hb] at cl
        have hin := HIN.out p
        have P0 := PK.out (lenC l p) hin
        have hx : l.getD p 0 = (q : Int) + 1 := hlp
        rw [hx] at cl HCL
        rw [hlp] at P0
        have hkl := krI_len q
        obtain ⟨K, hK⟩ : ∃ K, K = 2 ^ (6 - q) := ⟨_, rfl⟩
        have hK64 : K ≤ 64 := by rw [hK]; exact Nat.pow_le_pow_right (n := 2) (by decide) (show 6 - q ≤ 6 by omega)
        rw [← hK] at hkl
        rw [hkl] at P0
        have key : tbI l (o.take (j + 1)) = T ++ List.replicate K ((q : Int) + 1, (p : Int)) := by
          rw [take_snoc_i o j (by rw [← HN.out]; exact hlt), tbI_snoc, hop, Int.toNat_natCast, hlp, hkl, Int.toNat_natCast, ← HT.out]
        have KEY := Lib.hid key
        have PP := Lib.hid P0
        have O4 := Lib.hid hown; have B4 := Lib.hid hbel
        have htb : t ≤ 2688 := by omega
        obtain ⟨y, hy⟩ : ∃ y : Int, y = (q : Int) + 1 := ⟨_, rfl⟩
        rw [← hy] at cl HCL KEY PP
        clear key P0 hin hop hlp hx hkl hK hown hbel hy
        go_wp2_with fail
        refine (PP.out _).mono ?_
        rintro e w' ⟨rfl, hw⟩
        subst hw
        go_wp2
        go_loopw [3, 22] (fun v i wr => ∃ k : Nat, k ≤ K ∧ i = .int .i64 k ∧ wr.ownsRow w.heap.size 45 2 v (t + k) (ivs (els (T ++ List.replicate k (y, (p : Int))))) ∧ (v.ownBlock = some w.heap.size ∨ ∃ k, v.ownBlock = some k ∧ w3.heap.size ≤ k) ∧ wr.heap[bo]? = w3.heap[bo]? ∧ w3.heap.size ≤ wr.heap.size ∧ Below w.heap.size w wr)
          (fun _ i _ => K - (intOf i).toNat)
        case atStart => exact ⟨0, Nat.zero_le _, rfl, by rw [List.replicate_zero, List.append_nil]; exact O4.out, HOB.out, HBK.out, hsz, B4.out⟩
        case round =>
          obtain ⟨k, hk, rfl, hown, hob, hbk, hsz, hbel⟩ := hrel
          have HOB := Lib.hid hob; have HBK := Lib.hid hbk
          clear hob hbk
          by_cases hlk : k < K
          · have cl := HCL.out
            rw [← hbel.cell (p := ⟨b, off + p, none⟩) hb] at cl
            have HB5 := Lib.hid hbel
            go_wp2_with (at_builtin; refine append_ent wr rfl (.tmp 24) (.tmp 31) 26 rfl w.heap.size 45 i0 _ Try.underlying26 hi hz0 hz1 hz2 rfl _ _ _ rfl hown _ _ rfl rfl (by omega) hbel.size ?_; intro v' w' hown' hgr hvb)
            have hgr : World.grownBy _ w' u3.ownBlock := hgr
            have hvb : v'.ownBlock = u3.ownBlock ∨ v'.ownBlock = some (wr.heap.size + 1) := hvb
            have HGR := Lib.hid hgr; have HVB := Lib.hid hvb; have HOW := Lib.hid hown
            clear hgr hvb hown
            go_roundw
            case rel =>
              have hgr := HGR.out; have hvb := HVB.out; have hown := HOW.out
              have hga := hgr.size
              simp at hga
              refine ⟨k + 1, by omega, by go_num, ?_, ?_, ?_, by omega, ?_⟩
              · rw [List.replicate_succ', ← List.append_assoc, ← Nat.add_assoc]
                exact hown'
              · rcases hvb with h | h
                · rw [h]; exact HOB.out
                · exact .inr ⟨_, h, by omega⟩
              · rw [hgr.block bo (by simp; omega) ?_, ← HBK.out]
                · exact Below.heap_alloc _ _ _ (by omega)
                · rcases HOB.out with h | ⟨kk, h, h2⟩
                  · rw [h]; simp; omega
                  · rw [h]; simp; omega
              · exact (HB5.out.alloc HB5.out.size _).grown hgr (by have := HB5.out.size; simp; omega) fun kk hkk => (hown.lt kk hkk).1
            case measure => simp [intOf]; omega
          · obtain rfl : k = K := by omega
            have O5 := Lib.hid hown; have B5 := Lib.hid hbel
            clear hown hbel
            go_wp2
            go_roundw
            case rel =>
              refine ⟨j + 1, t + k, T ++ List.replicate k (y, (p : Int)), by omega, KEY.out.symm, by rw [List.length_append, List.length_replicate, HTL.out], by omega, by go_num, O5.out, HOB.out, HBK.out, hsz, B5.out⟩
            case measure => simp [intOf]; omega
      · obtain rfl : j = n := by omega
        have O9 := Lib.hid hown; clear hown
        go_wp2
        go_ret
        have e1 : o.take j = o := List.take_of_length_le (by rw [← HN.out]; exact Nat.le_refl _)
        have e2 : T = symT l := by rw [HT.out, HST.out, e1]
        have ht128 : t = 128 := by rw [HTL.out, e2]; exact HSL.out
        have h9 := O9.out
        rw [e2, ht128] at h9
        rcases h9.2 with ⟨rfl, h0⟩ | ⟨g, cap, cur, rfl, _⟩
        · exact absurd h0 (by decide)
        · refine ⟨_, _, rfl, ?_, hbel⟩
          unfold OwnE
          rw [HSL.out]
          exact h9

set_option maxRecDepth 100000 in
set_option maxHeartbeats 4000000 in
theorem spec_symtable_any (A : Option Addr) (ca : Nat) (l : List Int) (hll : l.length ≤ 1048576) (w : World) (hA : Ints w w.heap.size A l) :
    Calls Try.prog 54 #[.slice A l.length ca] w fun e w' => ∃ A' c, e = .returned (.slice A' (symTR l).length c) ∧ OwnE w' w.heap.size A' c (symTR l) ∧ Below w.heap.size w w' := by
  have SC := Lib.hid (spec_codesof_any A ca l hll w hA)
  cases hok : okC l with
  | false =>
    have hr : symTR l = [] := by unfold symTR; rw [hok]; rfl
    have hcr : codesR l = [] := by unfold codesR; rw [hok]; rfl
    rw [hcr] at SC
    rw [hr]
    clear hr hok hcr
    go_enter Try.func54, Try.ntmps54
    go_wp2_with fail
    refine SC.out.mono ?_
    rintro e w1 ⟨A1, c1, rfl, ho1, hb1⟩
    have OE : Hid (OwnE (w1.alloc (.cells (ivs (els [])).toArray 45)) w.heap.size (some ⟨w1.heap.size, 0, none⟩) 0 []) := Lib.hid (own_ents w1 w.heap.size [] hb1.size (by simp))
    have B1 := Lib.hid (hb1.alloc hb1.size (.cells (ivs (els [])).toArray 45))
    clear ho1 hb1
    go_wp2
    go_ret
    exact ⟨_, _, rfl, OE.out, B1.out⟩
  | true =>
    have hl6 := (okC_parts hok).1
    have hr : symTR l = symT l := by unfold symTR; rw [hok]; rfl
    have hcr : codesR l = codeL l := by unfold codesR; rw [hok]; rfl
    have hcl := codeL_len hok
    have hsl := symT_len hok
    rw [hr, hsl]
    rw [hcr, hcl] at SC
    have HSL := Lib.hid hsl
    have HCLL := Lib.hid hcl
    have HIN := Lib.hid (lenC_range hok)
    have HEND := Lib.hid (spT_end hok)
    have HBEG := Lib.hid (fun m q hm hq => beg_of hok m q hm hq)
    obtain ⟨b, off, rfl, hb, hc⟩ := hA.at 0 (by omega)
    rw [hl6] at hc SC ⊢
    have HC := Lib.hid hc
    clear hc hA hl6 hr hcr hcl hsl hok hll
    have hmk := make_ents 128 128 (by decide) (by decide)
    obtain ⟨z, hz⟩ : ∃ z : EntL, z = List.replicate 128 (0, 0) := ⟨_, rfl⟩
    rw [← hz] at hmk
    have hzl : z.length = 128 := by rw [hz]; rfl
    have HZ : Hid (spT l 0 = z) := Lib.hid hz.symm
    have HZL := Lib.hid hzl
    clear hz hzl
    go_enter Try.func54, Try.ntmps54
    go_wp2_with fail
    refine SC.out.mono ?_
    rintro e w1 ⟨A1, c1, rfl, ho1, hb1⟩
    have hR := ho1.ints (by rw [HCLL.out]; omega)
    obtain ⟨b1, o1, rfl, hb1', hc1⟩ := hR.at 0 (by rw [HCLL.out]; omega)
    rw [HCLL.out] at hc1
    have HC1 := Lib.hid hc1
    have OE : Hid (((w1.alloc (.cells #[] 45)).alloc (.cells (ivs (els z)).toArray 45)).ownsRow w.heap.size 45 2 (.slice (some ⟨w1.heap.size + 1, 0, none⟩) 128 128) 128 (ivs (els z))) := Lib.hid (by
      have h := own_ents (w1.alloc (.cells #[] 45)) w.heap.size z (by have := hb1.size; simp; omega) (by rw [HZL.out]; simp [maxLen])
      unfold OwnE at h
      rw [HZL.out] at h
      simpa using h)
    have B1 := Lib.hid hb1
    have hs1 := hb1.size
    have W1 := Lib.hid ((below_new w1 (.cells #[] 45)).alloc (below_new w1 (.cells #[] 45)).size (.cells (ivs (els z)).toArray 45))
    clear hR hc1 ho1 hb1
    go_wp2
    clear hmk
    go_loopw [5, 6] (fun i x wr => ∃ m : Nat, m ≤ 6 ∧ i = .int .i64 m ∧ wr.ownsRow w.heap.size 45 2 (.slice (some ⟨w1.heap.size + 1, 0, none⟩) 128 128) 128 (ivs (els (spT l m))) ∧ Below w1.heap.size w1 wr)
      (fun i _ _ => 6 - (intOf i).toNat)
    case atStart =>
      refine ⟨0, Nat.zero_le _, rfl, ?_, W1.out⟩
      rw [HZ.out]
      exact OE.out
    case round =>
      obtain ⟨m, hm, rfl, hown, hbel⟩ := hrel
      by_cases hlt : m < 6
      · have HCM := Lib.hid (HC.out m hlt)
        have HCC := Lib.hid (HC1.out m hlt)
        have O3 := Lib.hid hown; have B3 := Lib.hid hbel
        clear hown hbel
        have hin := HIN.out m
        by_cases h0 : lenC l m = 0
        · have hx : l.getD m 0 = 0 := h0
          have hcm := HCM.out
          rw [hx] at hcm
          have HCM2 := Lib.hid hcm
          have H0 := Lib.hid h0
          clear hin h0 hx hcm
          go_wp2
          go_loopw [6] (fun i wr => i = .int .i64 0 ∧ wr.ownsRow w.heap.size 45 2 (.slice (some ⟨w1.heap.size + 1, 0, none⟩) 128 128) 128 (ivs (els (spT l m))) ∧ Below w1.heap.size w1 wr)
            (fun i _ => 0)
          case atStart => exact ⟨rfl, O3.out, B3.out⟩
          case round =>
            obtain ⟨rfl, hown, hbel⟩ := hrel
            have O4 := Lib.hid hown
            have hcm := HCM2.out
            rw [← B1.out.cell (p := ⟨b, off + m, none⟩) hb, ← hbel.cell (p := ⟨b, off + m, none⟩) (Nat.lt_of_lt_of_le hb hs1)] at hcm
            clear hown
            go_wp2
            go_roundw
            case rel =>
              refine ⟨m + 1, by omega, by go_num, ?_, hbel⟩
              have : spT l (m + 1) = spT l m := by rw [spT, H0.out]; rfl
              rw [this]
              exact O4.out
            case measure => simp [intOf]; omega
        · obtain ⟨q, hq⟩ : ∃ q : Nat, lenC l m = (q : Int) + 1 := by
            simp only [inC, Bool.and_eq_true, decide_eq_true_eq] at hin
            exact ⟨(lenC l m - 1).toNat, by omega⟩
          have hq7 : q < 7 := by
            simp only [inC, Bool.and_eq_true, decide_eq_true_eq] at hin
            omega
          obtain ⟨k0, g1, g2, g3, g4⟩ := HBEG.out m q hlt hq
          have hcm := HCM.out
          rw [show l.getD m 0 = (q : Int) + 1 from hq] at hcm
          have hcc := HCC.out
          rw [show (codeL l).getD m 0 = (k0 : Int) from g1] at hcc
          have hstep : ∀ k, fillE (spT l m) (begC l m) (lenC l m, (m : Int)) k = fillE (spT l m) (k0 * 2 ^ (6 - q)) ((q : Int) + 1, (m : Int)) k := fun k => by rw [g3, hq]
          have hnext : spT l (m + 1) = fillE (spT l m) (k0 * 2 ^ (6 - q)) ((q : Int) + 1, (m : Int)) (2 ^ (6 - q)) := by
            rw [spT, hstep, g2, Int.toNat_natCast]
          have hsum : (k0 + 1) * 2 ^ (6 - q) = k0 * 2 ^ (6 - q) + 2 ^ (6 - q) := by rw [Nat.add_mul, Nat.one_mul]
          rw [hsum] at g4
          have HCM2 := Lib.hid hcm; have HCC2 := Lib.hid hcc; have HNX := Lib.hid hnext
          have hTL := spT_len l m
          obtain ⟨T, hT⟩ : ∃ T, T = spT l m := ⟨_, rfl⟩
          rw [← hT] at O3 HNX hTL
          have HTL := Lib.hid hTL
          clear hcm hcc hnext hstep g1 g2 g3 hsum HCM HCC hq hin h0 hT hTL
          rcases (show q = 0 ∨ q = 1 ∨ q = 2 ∨ q = 3 ∨ q = 4 ∨ q = 5 ∨ q = 6 by omega) with rfl | rfl | rfl | rfl | rfl | rfl | rfl
          · simp only [show 6 - 0 = 6 from rfl, show (2 : Nat) ^ 6 = 64 from rfl] at g4 HNX
            go_wp2
            go_loopw [6] (fun i wr => ∃ k : Nat, k ≤ 64 ∧ i = .int .i64 k ∧ wr.ownsRow w.heap.size 45 2 (.slice (some ⟨w1.heap.size + 1, 0, none⟩) 128 128) 128 (ivs (els (fillE T (k0 * 64) (((0 : Nat) : Int) + 1, (m : Int)) k))) ∧ Below w1.heap.size w1 wr)
              (fun i _ => 64 - (intOf i).toNat)
            case atStart => exact ⟨0, Nat.zero_le _, rfl, O3.out, B3.out⟩
            case round =>
              obtain ⟨k, hk, rfl, hown, hbel⟩ := hrel
              have hcm := HCM2.out
              rw [← B1.out.cell (p := ⟨b, off + m, none⟩) hb, ← hbel.cell (p := ⟨b, off + m, none⟩) (Nat.lt_of_lt_of_le hb hs1)] at hcm
              have hcc := HCC2.out
              rw [← hbel.cell (p := ⟨b1, o1 + m, none⟩) hb1'] at hcc
              by_cases hlk : k < 64
              · have hel := els_len (fillE T (k0 * 64) (((0 : Nat) : Int) + 1, (m : Int)) k)
                have hfl := fillE_len T (k0 * 64) (((0 : Nat) : Int) + 1, (m : Int)) k
                have htl := HTL.out
                obtain ⟨b0, hcell⟩ : ∃ b0 : Int, wr.cell? ⟨w1.heap.size + 1, (k0 * 64 + k) * 2, none⟩ = some (.int .i64 b0) := ⟨_, (hown.cellAt ((k0 * 64 + k) * 2) (by omega)).trans (ivs_at _ ((k0 * 64 + k) * 2) (by omega))⟩
                obtain ⟨b2, hcell1⟩ : ∃ b0 : Int, wr.cell? ⟨w1.heap.size + 1, (k0 * 64 + k) * 2 + 1, none⟩ = some (.int .i64 b0) := ⟨_, (hown.cellAt ((k0 * 64 + k) * 2 + 1) (by omega)).trans (ivs_at _ ((k0 * 64 + k) * 2 + 1) (by omega))⟩
                have hz := hown.frozenAt ((k0 * 64 + k) * 2)
                have hz1 := hown.frozenAt ((k0 * 64 + k) * 2 + 1)
                have s1 := hown.stored ((k0 * 64 + k) * 2) (.int .i64 (((0 : Nat) : Int) + 1))
                have s2 := s1.1.stored ((k0 * 64 + k) * 2 + 1) (.int .i64 m)
                have s21 := s2.1
                rw [ivs_set, ivs_set, els_set] at s21
                have HO2 := Lib.hid s21; clear s1 s2 s21
                have HBL := Lib.hid hbel
                have hk128 : k0 * 64 + k ≤ 127 := by omega
                clear hel hfl htl hown hbel
                go_wp2
                go_region
                go_wp2
                go_roundw
                case rel => exact ⟨k + 1, by omega, by go_num, HO2.out, (HBL.out.drew.setCell (Nat.le_succ _) _).setCell (Nat.le_succ _) _⟩
                case measure => simp [intOf]; omega
              · obtain rfl : k = 64 := by omega
                have HO2 := Lib.hid hown; clear hown
                have HBL := Lib.hid hbel; clear hbel
                go_wp2
                go_roundw
                case rel => exact ⟨m + 1, by omega, by go_num, by rw [HNX.out]; exact HO2.out, HBL.out⟩
                case measure => simp [intOf]; omega
          · simp only [show 6 - 1 = 5 from rfl, show (2 : Nat) ^ 5 = 32 from rfl] at g4 HNX
            go_wp2
            go_loopw [6] (fun i wr => ∃ k : Nat, k ≤ 32 ∧ i = .int .i64 k ∧ wr.ownsRow w.heap.size 45 2 (.slice (some ⟨w1.heap.size + 1, 0, none⟩) 128 128) 128 (ivs (els (fillE T (k0 * 32) (((1 : Nat) : Int) + 1, (m : Int)) k))) ∧ Below w1.heap.size w1 wr)
              (fun i _ => 32 - (intOf i).toNat)
            case atStart => exact ⟨0, Nat.zero_le _, rfl, O3.out, B3.out⟩
            case round =>
              obtain ⟨k, hk, rfl, hown, hbel⟩ := hrel
              have hcm := HCM2.out
              rw [← B1.out.cell (p := ⟨b, off + m, none⟩) hb, ← hbel.cell (p := ⟨b, off + m, none⟩) (Nat.lt_of_lt_of_le hb hs1)] at hcm
              have hcc := HCC2.out
              rw [← hbel.cell (p := ⟨b1, o1 + m, none⟩) hb1'] at hcc
              by_cases hlk : k < 32
              · have hel := els_len (fillE T (k0 * 32) (((1 : Nat) : Int) + 1, (m : Int)) k)
                have hfl := fillE_len T (k0 * 32) (((1 : Nat) : Int) + 1, (m : Int)) k
                have htl := HTL.out
                obtain ⟨b0, hcell⟩ : ∃ b0 : Int, wr.cell? ⟨w1.heap.size + 1, (k0 * 32 + k) * 2, none⟩ = some (.int .i64 b0) := ⟨_, (hown.cellAt ((k0 * 32 + k) * 2) (by omega)).trans (ivs_at _ ((k0 * 32 + k) * 2) (by omega))⟩
                obtain ⟨b2, hcell1⟩ : ∃ b0 : Int, wr.cell? ⟨w1.heap.size + 1, (k0 * 32 + k) * 2 + 1, none⟩ = some (.int .i64 b0) := ⟨_, (hown.cellAt ((k0 * 32 + k) * 2 + 1) (by omega)).trans (ivs_at _ ((k0 * 32 + k) * 2 + 1) (by omega))⟩
                have hz := hown.frozenAt ((k0 * 32 + k) * 2)
                have hz1 := hown.frozenAt ((k0 * 32 + k) * 2 + 1)
                have s1 := hown.stored ((k0 * 32 + k) * 2) (.int .i64 (((1 : Nat) : Int) + 1))
                have s2 := s1.1.stored ((k0 * 32 + k) * 2 + 1) (.int .i64 m)
                have s21 := s2.1
                rw [ivs_set, ivs_set, els_set] at s21
                have HO2 := Lib.hid s21; clear s1 s2 s21
                have HBL := Lib.hid hbel
                have hk128 : k0 * 32 + k ≤ 127 := by omega
                clear hel hfl htl hown hbel
                go_wp2
                go_region
                go_wp2
                go_roundw
                case rel => exact ⟨k + 1, by omega, by go_num, HO2.out, (HBL.out.drew.setCell (Nat.le_succ _) _).setCell (Nat.le_succ _) _⟩
                case measure => simp [intOf]; omega
              · obtain rfl : k = 32 := by omega
                have HO2 := Lib.hid hown; clear hown
                have HBL := Lib.hid hbel; clear hbel
                go_wp2
                go_roundw
                case rel => exact ⟨m + 1, by omega, by go_num, by rw [HNX.out]; exact HO2.out, HBL.out⟩
                case measure => simp [intOf]; omega
          · simp only [show 6 - 2 = 4 from rfl, show (2 : Nat) ^ 4 = 16 from rfl] at g4 HNX
            go_wp2
            go_loopw [6] (fun i wr => ∃ k : Nat, k ≤ 16 ∧ i = .int .i64 k ∧ wr.ownsRow w.heap.size 45 2 (.slice (some ⟨w1.heap.size + 1, 0, none⟩) 128 128) 128 (ivs (els (fillE T (k0 * 16) (((2 : Nat) : Int) + 1, (m : Int)) k))) ∧ Below w1.heap.size w1 wr)
              (fun i _ => 16 - (intOf i).toNat)
            case atStart => exact ⟨0, Nat.zero_le _, rfl, O3.out, B3.out⟩
            case round =>
              obtain ⟨k, hk, rfl, hown, hbel⟩ := hrel
              have hcm := HCM2.out
              rw [← B1.out.cell (p := ⟨b, off + m, none⟩) hb, ← hbel.cell (p := ⟨b, off + m, none⟩) (Nat.lt_of_lt_of_le hb hs1)] at hcm
              have hcc := HCC2.out
              rw [← hbel.cell (p := ⟨b1, o1 + m, none⟩) hb1'] at hcc
              by_cases hlk : k < 16
              · have hel := els_len (fillE T (k0 * 16) (((2 : Nat) : Int) + 1, (m : Int)) k)
                have hfl := fillE_len T (k0 * 16) (((2 : Nat) : Int) + 1, (m : Int)) k
                have htl := HTL.out
                obtain ⟨b0, hcell⟩ : ∃ b0 : Int, wr.cell? ⟨w1.heap.size + 1, (k0 * 16 + k) * 2, none⟩ = some (.int .i64 b0) := ⟨_, (hown.cellAt ((k0 * 16 + k) * 2) (by omega)).trans (ivs_at _ ((k0 * 16 + k) * 2) (by omega))⟩
                obtain ⟨b2, hcell1⟩ : ∃ b0 : Int, wr.cell? ⟨w1.heap.size + 1, (k0 * 16 + k) * 2 + 1, none⟩ = some (.int .i64 b0) := ⟨_, (hown.cellAt ((k0 * 16 + k) * 2 + 1) (by omega)).trans (ivs_at _ ((k0 * 16 + k) * 2 + 1) (by omega))⟩
                have hz := hown.frozenAt ((k0 * 16 + k) * 2)
                have hz1 := hown.frozenAt ((k0 * 16 + k) * 2 + 1)
                have s1 := hown.stored ((k0 * 16 + k) * 2) (.int .i64 (((2 : Nat) : Int) + 1))
                have s2 := s1.1.stored ((k0 * 16 + k) * 2 + 1) (.int .i64 m)
                have s21 := s2.1
                rw [ivs_set, ivs_set, els_set] at s21
                have HO2 := Lib.hid s21; clear s1 s2 s21
                have HBL := Lib.hid hbel
                have hk128 : k0 * 16 + k ≤ 127 := by omega
                clear hel hfl htl hown hbel
                go_wp2
                go_region
                go_wp2
                go_roundw
                case rel => exact ⟨k + 1, by omega, by go_num, HO2.out, (HBL.out.drew.setCell (Nat.le_succ _) _).setCell (Nat.le_succ _) _⟩
                case measure => simp [intOf]; omega
              · obtain rfl : k = 16 := by omega
                have HO2 := Lib.hid hown; clear hown
                have HBL := Lib.hid hbel; clear hbel
                go_wp2
                go_roundw
                case rel => exact ⟨m + 1, by omega, by go_num, by rw [HNX.out]; exact HO2.out, HBL.out⟩
                case measure => simp [intOf]; omega
          · simp only [show 6 - 3 = 3 from rfl, show (2 : Nat) ^ 3 = 8 from rfl] at g4 HNX
            go_wp2
            go_loopw [6] (fun i wr => ∃ k : Nat, k ≤ 8 ∧ i = .int .i64 k ∧ wr.ownsRow w.heap.size 45 2 (.slice (some ⟨w1.heap.size + 1, 0, none⟩) 128 128) 128 (ivs (els (fillE T (k0 * 8) (((3 : Nat) : Int) + 1, (m : Int)) k))) ∧ Below w1.heap.size w1 wr)
              (fun i _ => 8 - (intOf i).toNat)
            case atStart => exact ⟨0, Nat.zero_le _, rfl, O3.out, B3.out⟩
            case round =>
              obtain ⟨k, hk, rfl, hown, hbel⟩ := hrel
              have hcm := HCM2.out
              rw [← B1.out.cell (p := ⟨b, off + m, none⟩) hb, ← hbel.cell (p := ⟨b, off + m, none⟩) (Nat.lt_of_lt_of_le hb hs1)] at hcm
              have hcc := HCC2.out
              rw [← hbel.cell (p := ⟨b1, o1 + m, none⟩) hb1'] at hcc
              by_cases hlk : k < 8
              · have hel := els_len (fillE T (k0 * 8) (((3 : Nat) : Int) + 1, (m : Int)) k)
                have hfl := fillE_len T (k0 * 8) (((3 : Nat) : Int) + 1, (m : Int)) k
                have htl := HTL.out
                obtain ⟨b0, hcell⟩ : ∃ b0 : Int, wr.cell? ⟨w1.heap.size + 1, (k0 * 8 + k) * 2, none⟩ = some (.int .i64 b0) := ⟨_, (hown.cellAt ((k0 * 8 + k) * 2) (by omega)).trans (ivs_at _ ((k0 * 8 + k) * 2) (by omega))⟩
                obtain ⟨b2, hcell1⟩ : ∃ b0 : Int, wr.cell? ⟨w1.heap.size + 1, (k0 * 8 + k) * 2 + 1, none⟩ = some (.int .i64 b0) := ⟨_, (hown.cellAt ((k0 * 8 + k) * 2 + 1) (by omega)).trans (ivs_at _ ((k0 * 8 + k) * 2 + 1) (by omega))⟩
                have hz := hown.frozenAt ((k0 * 8 + k) * 2)
                have hz1 := hown.frozenAt ((k0 * 8 + k) * 2 + 1)
                have s1 := hown.stored ((k0 * 8 + k) * 2) (.int .i64 (((3 : Nat) : Int) + 1))
                have s2 := s1.1.stored ((k0 * 8 + k) * 2 + 1) (.int .i64 m)
                have s21 := s2.1
                rw [ivs_set, ivs_set, els_set] at s21
                have HO2 := Lib.hid s21; clear s1 s2 s21
                have HBL := Lib.hid hbel
                have hk128 : k0 * 8 + k ≤ 127 := by omega
                clear hel hfl htl hown hbel
                go_wp2
                go_region
                go_wp2
                go_roundw
                case rel => exact ⟨k + 1, by omega, by go_num, HO2.out, (HBL.out.drew.setCell (Nat.le_succ _) _).setCell (Nat.le_succ _) _⟩
                case measure => simp [intOf]; omega
              · obtain rfl : k = 8 := by omega
                have HO2 := Lib.hid hown; clear hown
                have HBL := Lib.hid hbel; clear hbel
                go_wp2
                go_roundw
                case rel => exact ⟨m + 1, by omega, by go_num, by rw [HNX.out]; exact HO2.out, HBL.out⟩
                case measure => simp [intOf]; omega
          · simp only [show 6 - 4 = 2 from rfl, show (2 : Nat) ^ 2 = 4 from rfl] at g4 HNX
            go_wp2
            go_loopw [6] (fun i wr => ∃ k : Nat, k ≤ 4 ∧ i = .int .i64 k ∧ wr.ownsRow w.heap.size 45 2 (.slice (some ⟨w1.heap.size + 1, 0, none⟩) 128 128) 128 (ivs (els (fillE T (k0 * 4) (((4 : Nat) : Int) + 1, (m : Int)) k))) ∧ Below w1.heap.size w1 wr)
              (fun i _ => 4 - (intOf i).toNat)
            case atStart => exact ⟨0, Nat.zero_le _, rfl, O3.out, B3.out⟩
            case round =>
              obtain ⟨k, hk, rfl, hown, hbel⟩ := hrel
              have hcm := HCM2.out
              rw [← B1.out.cell (p := ⟨b, off + m, none⟩) hb, ← hbel.cell (p := ⟨b, off + m, none⟩) (Nat.lt_of_lt_of_le hb hs1)] at hcm
              have hcc := HCC2.out
              rw [← hbel.cell (p := ⟨b1, o1 + m, none⟩) hb1'] at hcc
              by_cases hlk : k < 4
              · have hel := els_len (fillE T (k0 * 4) (((4 : Nat) : Int) + 1, (m : Int)) k)
                have hfl := fillE_len T (k0 * 4) (((4 : Nat) : Int) + 1, (m : Int)) k
                have htl := HTL.out
                obtain ⟨b0, hcell⟩ : ∃ b0 : Int, wr.cell? ⟨w1.heap.size + 1, (k0 * 4 + k) * 2, none⟩ = some (.int .i64 b0) := ⟨_, (hown.cellAt ((k0 * 4 + k) * 2) (by omega)).trans (ivs_at _ ((k0 * 4 + k) * 2) (by omega))⟩
                obtain ⟨b2, hcell1⟩ : ∃ b0 : Int, wr.cell? ⟨w1.heap.size + 1, (k0 * 4 + k) * 2 + 1, none⟩ = some (.int .i64 b0) := ⟨_, (hown.cellAt ((k0 * 4 + k) * 2 + 1) (by omega)).trans (ivs_at _ ((k0 * 4 + k) * 2 + 1) (by omega))⟩
                have hz := hown.frozenAt ((k0 * 4 + k) * 2)
                have hz1 := hown.frozenAt ((k0 * 4 + k) * 2 + 1)
                have s1 := hown.stored ((k0 * 4 + k) * 2) (.int .i64 (((4 : Nat) : Int) + 1))
                have s2 := s1.1.stored ((k0 * 4 + k) * 2 + 1) (.int .i64 m)
                have s21 := s2.1
                rw [ivs_set, ivs_set, els_set] at s21
                have HO2 := Lib.hid s21; clear s1 s2 s21
                have HBL := Lib.hid hbel
                have hk128 : k0 * 4 + k ≤ 127 := by omega
                clear hel hfl htl hown hbel
                go_wp2
                go_region
                go_wp2
                go_roundw
                case rel => exact ⟨k + 1, by omega, by go_num, HO2.out, (HBL.out.drew.setCell (Nat.le_succ _) _).setCell (Nat.le_succ _) _⟩
                case measure => simp [intOf]; omega
              · obtain rfl : k = 4 := by omega
                have HO2 := Lib.hid hown; clear hown
                have HBL := Lib.hid hbel; clear hbel
                go_wp2
                go_roundw
                case rel => exact ⟨m + 1, by omega, by go_num, by rw [HNX.out]; exact HO2.out, HBL.out⟩
                case measure => simp [intOf]; omega
          · simp only [show 6 - 5 = 1 from rfl, show (2 : Nat) ^ 1 = 2 from rfl] at g4 HNX
            go_wp2
            go_loopw [6] (fun i wr => ∃ k : Nat, k ≤ 2 ∧ i = .int .i64 k ∧ wr.ownsRow w.heap.size 45 2 (.slice (some ⟨w1.heap.size + 1, 0, none⟩) 128 128) 128 (ivs (els (fillE T (k0 * 2) (((5 : Nat) : Int) + 1, (m : Int)) k))) ∧ Below w1.heap.size w1 wr)
              (fun i _ => 2 - (intOf i).toNat)
            case atStart => exact ⟨0, Nat.zero_le _, rfl, O3.out, B3.out⟩
            case round =>
              obtain ⟨k, hk, rfl, hown, hbel⟩ := hrel
              have hcm := HCM2.out
              rw [← B1.out.cell (p := ⟨b, off + m, none⟩) hb, ← hbel.cell (p := ⟨b, off + m, none⟩) (Nat.lt_of_lt_of_le hb hs1)] at hcm
              have hcc := HCC2.out
              rw [← hbel.cell (p := ⟨b1, o1 + m, none⟩) hb1'] at hcc
              by_cases hlk : k < 2
              · have hel := els_len (fillE T (k0 * 2) (((5 : Nat) : Int) + 1, (m : Int)) k)
                have hfl := fillE_len T (k0 * 2) (((5 : Nat) : Int) + 1, (m : Int)) k
                have htl := HTL.out
                obtain ⟨b0, hcell⟩ : ∃ b0 : Int, wr.cell? ⟨w1.heap.size + 1, (k0 * 2 + k) * 2, none⟩ = some (.int .i64 b0) := ⟨_, (hown.cellAt ((k0 * 2 + k) * 2) (by omega)).trans (ivs_at _ ((k0 * 2 + k) * 2) (by omega))⟩
                obtain ⟨b2, hcell1⟩ : ∃ b0 : Int, wr.cell? ⟨w1.heap.size + 1, (k0 * 2 + k) * 2 + 1, none⟩ = some (.int .i64 b0) := ⟨_, (hown.cellAt ((k0 * 2 + k) * 2 + 1) (by omega)).trans (ivs_at _ ((k0 * 2 + k) * 2 + 1) (by omega))⟩
                have hz := hown.frozenAt ((k0 * 2 + k) * 2)
                have hz1 := hown.frozenAt ((k0 * 2 + k) * 2 + 1)
                have s1 := hown.stored ((k0 * 2 + k) * 2) (.int .i64 (((5 : Nat) : Int) + 1))
                have s2 := s1.1.stored ((k0 * 2 + k) * 2 + 1) (.int .i64 m)
                have s21 := s2.1
                rw [ivs_set, ivs_set, els_set] at s21
                have HO2 := Lib.hid s21; clear s1 s2 s21
                have HBL := Lib.hid hbel
                have hk128 : k0 * 2 + k ≤ 127 := by omega
                clear hel hfl htl hown hbel
                go_wp2
                go_region
                go_wp2
                go_roundw
                case rel => exact ⟨k + 1, by omega, by go_num, HO2.out, (HBL.out.drew.setCell (Nat.le_succ _) _).setCell (Nat.le_succ _) _⟩
                case measure => simp [intOf]; omega
              · obtain rfl : k = 2 := by omega
                have HO2 := Lib.hid hown; clear hown
                have HBL := Lib.hid hbel; clear hbel
                go_wp2
                go_roundw
                case rel => exact ⟨m + 1, by omega, by go_num, by rw [HNX.out]; exact HO2.out, HBL.out⟩
                case measure => simp [intOf]; omega
          · simp only [show 6 - 6 = 0 from rfl, show (2 : Nat) ^ 0 = 1 from rfl, Nat.mul_one] at g4 HNX
            go_wp2
            go_loopw [6] (fun i wr => ∃ k : Nat, k ≤ 1 ∧ i = .int .i64 k ∧ wr.ownsRow w.heap.size 45 2 (.slice (some ⟨w1.heap.size + 1, 0, none⟩) 128 128) 128 (ivs (els (fillE T k0 (((6 : Nat) : Int) + 1, (m : Int)) k))) ∧ Below w1.heap.size w1 wr)
              (fun i _ => 1 - (intOf i).toNat)
            case atStart => exact ⟨0, Nat.zero_le _, rfl, O3.out, B3.out⟩
            case round =>
              obtain ⟨k, hk, rfl, hown, hbel⟩ := hrel
              have hcm := HCM2.out
              rw [← B1.out.cell (p := ⟨b, off + m, none⟩) hb, ← hbel.cell (p := ⟨b, off + m, none⟩) (Nat.lt_of_lt_of_le hb hs1)] at hcm
              have hcc := HCC2.out
              rw [← hbel.cell (p := ⟨b1, o1 + m, none⟩) hb1'] at hcc
              by_cases hlk : k < 1
              · have hel := els_len (fillE T k0 (((6 : Nat) : Int) + 1, (m : Int)) k)
                have hfl := fillE_len T k0 (((6 : Nat) : Int) + 1, (m : Int)) k
                have htl := HTL.out
                obtain ⟨b0, hcell⟩ : ∃ b0 : Int, wr.cell? ⟨w1.heap.size + 1, (k0 + k) * 2, none⟩ = some (.int .i64 b0) := ⟨_, (hown.cellAt ((k0 + k) * 2) (by omega)).trans (ivs_at _ ((k0 + k) * 2) (by omega))⟩
                obtain ⟨b2, hcell1⟩ : ∃ b0 : Int, wr.cell? ⟨w1.heap.size + 1, (k0 + k) * 2 + 1, none⟩ = some (.int .i64 b0) := ⟨_, (hown.cellAt ((k0 + k) * 2 + 1) (by omega)).trans (ivs_at _ ((k0 + k) * 2 + 1) (by omega))⟩
                have hz := hown.frozenAt ((k0 + k) * 2)
                have hz1 := hown.frozenAt ((k0 + k) * 2 + 1)
                have s1 := hown.stored ((k0 + k) * 2) (.int .i64 (((6 : Nat) : Int) + 1))
                have s2 := s1.1.stored ((k0 + k) * 2 + 1) (.int .i64 m)
                have s21 := s2.1
                rw [ivs_set, ivs_set, els_set] at s21
                have HO2 := Lib.hid s21; clear s1 s2 s21
                have HBL := Lib.hid hbel
                have hk128 : k0 + k ≤ 127 := by omega
                clear hel hfl htl hown hbel
                go_wp2
                go_region
                go_wp2
                go_roundw
                case rel => exact ⟨k + 1, by omega, by go_num, HO2.out, (HBL.out.drew.setCell (Nat.le_succ _) _).setCell (Nat.le_succ _) _⟩
                case measure => simp [intOf]; omega
              · obtain rfl : k = 1 := by omega
                have HO2 := Lib.hid hown; clear hown
                have HBL := Lib.hid hbel; clear hbel
                go_wp2
                go_roundw
                case rel => exact ⟨m + 1, by omega, by go_num, by rw [HNX.out]; exact HO2.out, HBL.out⟩
                case measure => simp [intOf]; omega
      · obtain rfl : m = 6 := by omega
        have O9 := Lib.hid hown; clear hown
        go_wp2
        go_ret
        refine ⟨_, _, rfl, ?_, below_up B1.out hbel hs1⟩
        unfold OwnE
        rw [HSL.out, ← HEND.out]
        exact O9.out
end Go.Proofs.Ytgacldhpohnpaaa
