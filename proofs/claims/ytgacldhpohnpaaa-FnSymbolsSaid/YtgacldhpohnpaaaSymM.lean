/-
  Plain facts: the codes of valid lengths, the table of their symbols, and that each number of seven bits begins with just one code. No condition but those that each lemma states.
-/
import Derived.Test.YtgacldhpohnpaaaSymA
import Derived.Test.YtgacldhpohnpaaaEnt
namespace Go.Proofs.Ytgacldhpohnpaaa
open Go.RowKit
set_option linter.unusedVariables false

/-- The length of a symbol. -/
abbrev lenC (l : List Int) (m : Nat) : Int := l.getD m 0
/-- The symbols of one length, below `m`. -/
def ordI (l : List Int) (s : Int) : Nat → List Int
  | 0 => []
  | m + 1 => if lenC l m = s then ordI l s m ++ [(m : Int)] else ordI l s m
/-- The symbols of the lengths 1 to `s`, in order. -/
def ordS (l : List Int) : Nat → List Int
  | 0 => []
  | s + 1 => ordS l s ++ ordI l ((s : Int) + 1) 6
theorem ordI_len (l : List Int) (s : Int) : ∀ m, (ordI l s m).length ≤ m
  | 0 => Nat.le_refl _
  | m + 1 => by
    have := ordI_len l s m
    rw [ordI]
    split
    · rw [List.length_append]; simpa using this
    · omega
theorem ordS_len (l : List Int) : ∀ s, s ≤ 7 → (ordS l s).length ≤ 6 * s
  | 0, _ => Nat.le_refl _
  | s + 1, h => by
    have h1 := ordS_len l s (by omega)
    have h2 := ordI_len l ((s : Int) + 1) 6
    rw [ordS, List.length_append]
    omega
theorem ordI_mem (l : List Int) (s : Int) : ∀ m, ∀ x ∈ ordI l s m, ∃ p : Nat, p < m ∧ x = (p : Int) ∧ lenC l p = s
  | 0, x, h => by simp [ordI] at h
  | m + 1, x, h => by
    rw [ordI] at h
    split at h
    · rename_i e
      rcases List.mem_append.1 h with h | h
      · obtain ⟨p, h1, h2, h3⟩ := ordI_mem l s m x h
        exact ⟨p, by omega, h2, h3⟩
      · exact ⟨m, by omega, by simpa using h, e⟩
    · obtain ⟨p, h1, h2, h3⟩ := ordI_mem l s m x h
      exact ⟨p, by omega, h2, h3⟩
theorem ordS_mem (l : List Int) : ∀ s, ∀ x ∈ ordS l s, ∃ p q : Nat, p < 6 ∧ q < s ∧ x = (p : Int) ∧ lenC l p = (q : Int) + 1
  | 0, x, h => by simp [ordS] at h
  | s + 1, x, h => by
    rw [ordS] at h
    rcases List.mem_append.1 h with h | h
    · obtain ⟨p, q, h1, h2, h3, h4⟩ := ordS_mem l s x h
      exact ⟨p, q, h1, by omega, h3, h4⟩
    · obtain ⟨p, h1, h2, h3⟩ := ordI_mem l _ 6 x h
      exact ⟨p, s, h1, by omega, h2, h3⟩
theorem ordS_at (l : List Int) (t : Nat) (ht : t < (ordS l 7).length) : ∃ p q : Nat, p < 6 ∧ q < 7 ∧ (ordS l 7).getD t 0 = (p : Int) ∧ lenC l p = (q : Int) + 1 :=
  ordS_mem l 7 _ (by rw [List.getD_eq_getElem?_getD, List.getElem?_eq_getElem ht]; exact List.getElem_mem _)
/-- One code more, and where the next begins. -/
def impC1 (l : List Int) (p : List Int × Int) (m : Int) : List Int × Int := (p.1.set m.toNat (p.2 / 2 ^ (7 - lenC l m.toNat).toNat), p.2 + krI (lenC l m.toNat))
def impC (l : List Int) (o : List Int) : List Int × Int := o.foldl (impC1 l) (List.replicate 6 (-1), 0)
theorem impC_snoc (l o : List Int) (m : Int) : impC l (o ++ [m]) = impC1 l (impC l o) m := by simp [impC]
/-- The model's codes: one length. -/
def spI (l : List Int) (s : Int) (p : List Int × Int) : Nat → List Int × Int
  | 0 => p
  | m + 1 => if lenC l m = s then ((spI l s p m).1.set m (spI l s p m).2, (spI l s p m).2 + 1) else spI l s p m
def spW (l : List Int) : Nat → List Int × Int
  | 0 => (List.replicate 6 (-1), 0)
  | s + 1 => spI l ((s : Int) + 1) ((spW l s).1, 2 * (spW l s).2) 6
theorem spI_len (l : List Int) (s : Int) (p : List Int × Int) : ∀ m, (spI l s p m).1.length = p.1.length
  | 0 => rfl
  | m + 1 => by
    rw [spI]
    split
    · rw [List.length_set]; exact spI_len l s p m
    · exact spI_len l s p m
theorem spW_len (l : List Int) : ∀ s, (spW l s).1.length = 6
  | 0 => rfl
  | s + 1 => by rw [spW, spI_len]; exact spW_len l s
/-- The codes. -/
def codeL (l : List Int) : List Int := (spW l 7).1
/-- The table of the symbols in this order. -/
def tbI (l : List Int) (o : List Int) : EntL := o.flatMap fun m => List.replicate (krI (lenC l m.toNat)).toNat (lenC l m.toNat, m)
theorem tbI_snoc (l o : List Int) (m : Int) : tbI l (o ++ [m]) = tbI l o ++ List.replicate (krI (lenC l m.toNat)).toNat (lenC l m.toNat, m) := by simp [tbI]
def symT (l : List Int) : EntL := tbI l (ordS l 7)

theorem krI_len (s : Nat) : krI ((s : Int) + 1) = ((2 ^ (6 - s) : Nat) : Int) := by
  unfold krI
  rw [if_neg (by omega), show (7 - ((s : Int) + 1)).toNat = 6 - s by omega]
  norm_cast

/-- What is known of the codes and the table once the symbols of the lengths up to `s`, and of those of the length `s + 1` the first `m`, have their codes. -/
def Got (l : List Int) (s m : Nat) (c : List Int) (F : Nat) (T : EntL) : Prop :=
  c.length = 6 ∧ T.length = F ∧
  (∀ i, i < F → ∃ p q : Nat, p < 6 ∧ lenC l p = (q : Int) + 1 ∧ (q < s ∨ q = s ∧ p < m) ∧ entAt T i = (lenC l p, (p : Int)) ∧ c.getD p 0 = ((i / 2 ^ (6 - q) : Nat) : Int)) ∧
  (∀ p q : Nat, p < 6 → lenC l p = (q : Int) + 1 → (q < s ∨ q = s ∧ p < m) → ∃ k : Nat, c.getD p 0 = (k : Int) ∧ (k + 1) * 2 ^ (6 - q) ≤ F ∧ ∀ i, i / 2 ^ (6 - q) = k → entAt T i = (lenC l p, (p : Int))) ∧
  (∀ p, p < 6 → (∀ q : Nat, lenC l p = (q : Int) + 1 → ¬ (q < s ∨ q = s ∧ p < m)) → c.getD p 0 = -1)

theorem getD_set_self_i (c : List Int) (m : Nat) (x : Int) (h : m < c.length) : (c.set m x).getD m 0 = x := by
  rw [List.getD_eq_getElem?_getD, List.getElem?_set_self h]; rfl
theorem getD_set_ne_i (c : List Int) (m p : Nat) (x : Int) (h : p ≠ m) : (c.set m x).getD p 0 = c.getD p 0 := by
  rw [List.getD_eq_getElem?_getD, List.getElem?_set_ne (fun e => h e.symm), ← List.getD_eq_getElem?_getD]
theorem entAt_left (a b : EntL) (i : Nat) (h : i < a.length) : entAt (a ++ b) i = entAt a i := by
  unfold entAt
  rw [List.getD_eq_getElem?_getD, List.getD_eq_getElem?_getD, List.getElem?_append_left h]
theorem entAt_right (a : EntL) (n : Nat) (e : Int × Int) (i : Nat) (h : a.length ≤ i) (h2 : i < a.length + n) : entAt (a ++ List.replicate n e) i = e := by
  unfold entAt
  rw [List.getD_eq_getElem?_getD, List.getElem?_append_right h, List.getElem?_replicate, if_pos (by omega)]
  rfl
theorem div_in {i k K : Nat} (hK : 0 < K) : i / K = k ↔ k * K ≤ i ∧ i < (k + 1) * K := by
  constructor
  · rintro rfl
    exact ⟨Nat.div_mul_le_self _ _, by rw [Nat.mul_comm]; exact Nat.lt_mul_div_succ _ hK⟩
  · rintro ⟨h1, h2⟩
    exact Nat.div_eq_of_lt_le h1 h2

theorem got_no {l : List Int} {s m : Nat} {c : List Int} {F : Nat} {T : EntL} (h : Got l s m c F T) (hn : lenC l m ≠ (s : Int) + 1) : Got l s (m + 1) c F T := by
  obtain ⟨h1, h2, h3, h4, h5⟩ := h
  refine ⟨h1, h2, fun i hi => ?_, fun p q hp hq hpr => ?_, fun p hp hno => h5 p hp fun q hq hpr => hno q hq ?_⟩
  · obtain ⟨p, q, a1, a2, a3, a4, a5⟩ := h3 i hi
    exact ⟨p, q, a1, a2, by omega, a4, a5⟩
  · refine h4 p q hp hq ?_
    by_cases e : p = m
    · subst e
      have : q ≠ s := fun e => hn (by rw [hq, e])
      omega
    · omega
  · omega
theorem got_one {l : List Int} {s m k : Nat} {c : List Int} {T : EntL} (hm : m < 6) (h : Got l s m c (k * 2 ^ (6 - s)) T) (hn : lenC l m = (s : Int) + 1) :
    Got l s (m + 1) (c.set m (k : Int)) ((k + 1) * 2 ^ (6 - s)) (T ++ List.replicate (2 ^ (6 - s)) (lenC l m, (m : Int))) := by
  obtain ⟨h1, h2, h3, h4, h5⟩ := h
  have hK : 0 < 2 ^ (6 - s) := Nat.two_pow_pos _
  have hsum : (k + 1) * 2 ^ (6 - s) = k * 2 ^ (6 - s) + 2 ^ (6 - s) := by rw [Nat.add_mul, Nat.one_mul]
  refine ⟨by rw [List.length_set]; exact h1, by rw [List.length_append, List.length_replicate, h2, hsum], fun i hi => ?_, fun p q hp hq hpr => ?_, fun p hp hno => ?_⟩
  · by_cases hlt : i < k * 2 ^ (6 - s)
    · obtain ⟨p, q, a1, a2, a3, a4, a5⟩ := h3 i hlt
      have hpm : p ≠ m := by
        rintro rfl
        have : q = s := by omega
        omega
      exact ⟨p, q, a1, a2, by omega, by rw [entAt_left _ _ _ (by omega)]; exact a4, by rw [getD_set_ne_i _ _ _ _ hpm]; exact a5⟩
    · refine ⟨m, s, hm, hn, by omega, entAt_right _ _ _ _ (by omega) (by omega), ?_⟩
      rw [getD_set_self_i _ _ _ (by omega), (div_in hK).2 ⟨by omega, hi⟩]
  · by_cases hpm : p = m
    · subst hpm
      obtain rfl : q = s := by omega
      refine ⟨k, getD_set_self_i _ _ _ (by omega), Nat.le_refl _, fun i hi => ?_⟩
      have := (div_in hK).1 hi
      exact entAt_right _ _ _ _ (by omega) (by omega)
    · obtain ⟨k1, b1, b2, b3⟩ := h4 p q hp hq (by omega)
      refine ⟨k1, by rw [getD_set_ne_i _ _ _ _ hpm]; exact b1, by omega, fun i hi => ?_⟩
      have := (div_in (Nat.two_pow_pos (6 - q))).1 hi
      rw [entAt_left _ _ _ (by omega)]
      exact b3 i hi
  · have hpm : p ≠ m := by
      rintro rfl
      exact hno s hn (by omega)
    rw [getD_set_ne_i _ _ _ _ hpm]
    exact h5 p hp fun q hq hpr => hno q hq (by omega)

/-- The two ways to the codes go side by side. -/
theorem both_inner (l : List Int) (s : Nat) (hs : s < 7) (o c : List Int) (k : Nat) (ho : impC l o = (c, ((k * 2 ^ (6 - s) : Nat) : Int))) (hG : Got l s 0 c (k * 2 ^ (6 - s)) (tbI l o)) :
    ∀ m, m ≤ 6 → ∃ k' : Nat, (spI l ((s : Int) + 1) (c, (k : Int)) m).2 = (k' : Int) ∧ k' ≤ k + m ∧ impC l (o ++ ordI l ((s : Int) + 1) m) = ((spI l ((s : Int) + 1) (c, (k : Int)) m).1, ((k' * 2 ^ (6 - s) : Nat) : Int)) ∧
      Got l s m (spI l ((s : Int) + 1) (c, (k : Int)) m).1 (k' * 2 ^ (6 - s)) (tbI l (o ++ ordI l ((s : Int) + 1) m))
  | 0, _ => ⟨k, rfl, Nat.le_refl _, by rw [ordI, List.append_nil]; exact ho, by rw [ordI, List.append_nil]; exact hG⟩
  | m + 1, hm => by
    obtain ⟨k', e1, e2, e3, e4⟩ := both_inner l s hs o c k ho hG m (by omega)
    rw [spI, ordI]
    by_cases h : lenC l m = (s : Int) + 1
    · have hkr : krI (lenC l m) = ((2 ^ (6 - s) : Nat) : Int) := by rw [h]; exact krI_len s
      have hdiv : (7 - lenC l m).toNat = 6 - s := by rw [h]; omega
      rw [if_pos h, if_pos h, ← List.append_assoc, impC_snoc, tbI_snoc, Int.toNat_natCast, hkr, Int.toNat_natCast, e3]
      refine ⟨k' + 1, by rw [e1]; norm_cast, by omega, ?_, ?_⟩
      · unfold impC1
        rw [Int.toNat_natCast, hkr, hdiv, e1]
        refine Prod.ext ?_ ?_
        · show List.set _ _ _ = List.set _ _ _
          congr 1
          have : ((k' * 2 ^ (6 - s) : Nat) : Int) / 2 ^ (6 - s) = ((k' * 2 ^ (6 - s) / 2 ^ (6 - s) : Nat) : Int) := by norm_cast
          rw [this, Nat.mul_div_cancel _ (Nat.two_pow_pos _)]
        · show ((k' * 2 ^ (6 - s) : Nat) : Int) + ((2 ^ (6 - s) : Nat) : Int) = _
          rw [Nat.add_mul, Nat.one_mul]
          omega
      · have g := got_one (by omega) e4 h
        rw [e1]
        exact g
    · rw [if_neg h, if_neg h]
      exact ⟨k', e1, by omega, e3, got_no e4 h⟩
theorem got_up {l : List Int} {s : Nat} {c : List Int} {F : Nat} {T : EntL} (h : Got l s 6 c F T) : Got l (s + 1) 0 c F T := by
  obtain ⟨h1, h2, h3, h4, h5⟩ := h
  refine ⟨h1, h2, fun i hi => ?_, fun p q hp hq hpr => h4 p q hp hq (by omega), fun p hp hno => h5 p hp fun q hq hpr => hno q hq (by omega)⟩
  obtain ⟨p, q, a1, a2, a3, a4, a5⟩ := h3 i hi
  exact ⟨p, q, a1, a2, by omega, a4, a5⟩
theorem both_outer (l : List Int) : ∀ s, s ≤ 7 → ∃ k : Nat, (spW l s).2 = (k : Int) ∧ k ≤ 6 * (2 ^ s - 1) ∧ impC l (ordS l s) = ((spW l s).1, ((k * 2 ^ (7 - s) : Nat) : Int)) ∧ Got l s 0 (spW l s).1 (k * 2 ^ (7 - s)) (tbI l (ordS l s))
  | 0, _ => by
    refine ⟨0, rfl, by decide, rfl, rfl, rfl, fun i hi => by omega, fun p q hp hq hpr => by omega, fun p hp hno => ?_⟩
    show (List.replicate 6 (-1)).getD p 0 = (-1 : Int)
    rw [List.getD_eq_getElem?_getD, List.getElem?_replicate, if_pos hp]
    rfl
  | s + 1, hs => by
    obtain ⟨k, e1, e2, e3, e4⟩ := both_outer l s (by omega)
    have hp : k * 2 ^ (7 - s) = 2 * k * 2 ^ (6 - s) := by rw [show 7 - s = (6 - s) + 1 by omega, Nat.pow_succ, Nat.mul_comm 2 k, Nat.mul_assoc, Nat.mul_comm 2]
    rw [hp] at e3 e4
    obtain ⟨k', f1, f2, f3, f4⟩ := both_inner l s (by omega) (ordS l s) (spW l s).1 (2 * k) e3 e4 6 (Nat.le_refl _)
    have hc : (2 : Int) * (spW l s).2 = ((2 * k : Nat) : Int) := by rw [e1]; norm_cast
    rw [spW, ordS, hc, show 7 - (s + 1) = 6 - s by omega]
    refine ⟨k', f1, ?_, f3, got_up f4⟩
    rw [Nat.pow_succ]
    have := Nat.two_pow_pos s
    omega

/-- The sum of the parts is the whole. -/
def cntI (l : List Int) (s : Int) : Nat → Int
  | 0 => 0
  | m + 1 => cntI l s m + if lenC l m = s then krI s else 0
def totI (l : List Int) (s : Int) : Nat → Int
  | 0 => 0
  | m + 1 => totI l s m + if 1 ≤ lenC l m ∧ lenC l m ≤ s then krI (lenC l m) else 0
theorem tot_step (l : List Int) (s : Int) (hs : 0 ≤ s) : ∀ m, totI l (s + 1) m = totI l s m + cntI l (s + 1) m
  | 0 => rfl
  | m + 1 => by
    rw [totI, totI, cntI, tot_step l s hs m]
    by_cases h1 : lenC l m = s + 1
    · have hk : krI (lenC l m) = krI (s + 1) := by rw [h1]
      rw [if_pos ⟨by omega, by omega⟩, if_neg (by omega), if_pos h1]
      omega
    · by_cases h2 : 1 ≤ lenC l m ∧ lenC l m ≤ s
      · rw [if_pos ⟨by omega, by omega⟩, if_pos h2, if_neg h1]
        omega
      · rw [if_neg (by omega), if_neg h2, if_neg h1]
        omega
theorem impC_cnt (l o : List Int) (s : Nat) : ∀ m, (impC l (o ++ ordI l ((s : Int) + 1) m)).2 = (impC l o).2 + cntI l ((s : Int) + 1) m
  | 0 => by rw [ordI, List.append_nil, cntI]; omega
  | m + 1 => by
    have h := impC_cnt l o s m
    rw [ordI, cntI]
    by_cases e : lenC l m = (s : Int) + 1
    · have hk : krI (lenC l m) = krI ((s : Int) + 1) := by rw [e]
      rw [if_pos e, if_pos e, ← List.append_assoc, impC_snoc]
      show (impC l _).2 + krI (lenC l ((m : Int)).toNat) = _
      rw [Int.toNat_natCast, h]
      omega
    · rw [if_neg e, if_neg e, h]
      omega
theorem impC_tot (l : List Int) : ∀ s : Nat, (impC l (ordS l s)).2 = totI l s 6
  | 0 => by
    show (0 : Int) = _
    have : ∀ m, totI l ((0 : Nat) : Int) m = 0 := by
      intro m
      induction m with
      | zero => rfl
      | succ m ih => rw [totI, ih, if_neg (by omega)]; rfl
    rw [this]
  | s + 1 => by
    rw [ordS, impC_cnt, impC_tot l s, show (((s + 1 : Nat)) : Int) = (s : Int) + 1 by omega, tot_step l s (by omega)]
theorem tot_krS (l : List Int) (h : l.all inC = true) : ∀ m, m ≤ l.length → totI l 7 m = krS (l.take m)
  | 0, _ => by simp [totI, krS]
  | m + 1, hm => by
    rw [totI, tot_krS l h m (by omega), take_snoc_i l m (by omega), krS_snoc]
    have hin : inC (l.getD m 0) = true := by
      rw [List.all_eq_true] at h
      refine h _ ?_
      rw [List.getD_eq_getElem?_getD, List.getElem?_eq_getElem (by omega)]
      exact List.getElem_mem _
    simp only [inC, Bool.and_eq_true, decide_eq_true_eq] at hin
    change 0 ≤ lenC l m ∧ lenC l m ≤ 7 at hin
    by_cases e : 1 ≤ lenC l m ∧ lenC l m ≤ 7
    · rw [if_pos e]
    · have h0 : lenC l m = 0 := by omega
      have hk : krI (lenC l m) = 0 := by rw [h0]; rfl
      rw [if_neg e]
      show _ = krS (l.take m) + krI (lenC l m)
      rw [hk]

theorem okC_parts {l : List Int} (h : okC l = true) : l.length = 6 ∧ l.all inC = true ∧ krS l = 128 := by
  simpa only [okC, Bool.and_eq_true, decide_eq_true_eq] using h
theorem lenC_range {l : List Int} (h : okC l = true) (m : Nat) : inC (lenC l m) = true := by
  obtain ⟨h1, h2, h3⟩ := okC_parts h
  by_cases hm : m < l.length
  · rw [List.all_eq_true] at h2
    refine h2 _ ?_
    rw [lenC, List.getD_eq_getElem?_getD, List.getElem?_eq_getElem hm]
    exact List.getElem_mem _
  · rw [lenC, List.getD_eq_getElem?_getD, List.getElem?_eq_none (by omega)]
    rfl
/-- What is known of valid lengths. -/
theorem valid_got {l : List Int} (h : okC l = true) : (impC l (ordS l 7)).1 = codeL l ∧ Got l 7 0 (codeL l) 128 (symT l) := by
  obtain ⟨h1, h2, h3⟩ := okC_parts h
  obtain ⟨k, e1, e2, e3, e4⟩ := both_outer l 7 (Nat.le_refl _)
  have ht := impC_tot l 7
  have h5 := tot_krS l h2 6 (by omega)
  rw [show l.take 6 = l from List.take_of_length_le (by omega), h3] at h5
  have hk : k * 2 ^ (7 - 7) = 128 := by
    rw [e3] at ht
    have : ((k * 2 ^ (7 - 7) : Nat) : Int) = 128 := ht.trans h5
    omega
  rw [hk] at e4
  exact ⟨by rw [e3]; rfl, e4⟩
theorem codeL_len {l : List Int} (h : okC l = true) : (codeL l).length = 6 := (valid_got h).2.1
theorem symT_len {l : List Int} (h : okC l = true) : (symT l).length = 128 := (valid_got h).2.2.1
/-- Each number of seven bits begins with a code. -/
theorem valid_has {l : List Int} (h : okC l = true) (i : Nat) (hi : i < 128) : ∃ p q : Nat, p < 6 ∧ q < 7 ∧ lenC l p = (q : Int) + 1 ∧ entAt (symT l) i = ((q : Int) + 1, (p : Int)) ∧ (codeL l).getD p 0 = ((i / 2 ^ (6 - q) : Nat) : Int) := by
  obtain ⟨p, q, a1, a2, a3, a4, a5⟩ := (valid_got h).2.2.2.1 i hi
  exact ⟨p, q, a1, by omega, a2, by rw [a4, a2], a5⟩
/-- .. and with no other. -/
theorem valid_one {l : List Int} (h : okC l = true) (p q : Nat) (hp : p < 6) (hq : lenC l p = (q : Int) + 1) : q < 7 ∧ ∃ k : Nat, (codeL l).getD p 0 = (k : Int) ∧ (k + 1) * 2 ^ (6 - q) ≤ 128 ∧ ∀ i, i / 2 ^ (6 - q) = k → entAt (symT l) i = ((q : Int) + 1, (p : Int)) := by
  have hr := lenC_range h p
  simp only [inC, Bool.and_eq_true, decide_eq_true_eq] at hr
  have hq7 : q < 7 := by omega
  obtain ⟨k, b1, b2, b3⟩ := (valid_got h).2.2.2.2.1 p q hp hq (by omega)
  exact ⟨hq7, k, b1, b2, fun i hi => by rw [b3 i hi, hq]⟩
theorem valid_none {l : List Int} (h : okC l = true) (p : Nat) (hp : p < 6) (h0 : lenC l p = 0) : (codeL l).getD p 0 = -1 :=
  (valid_got h).2.2.2.2.2 p hp fun q hq _ => by omega
end Go.Proofs.Ytgacldhpohnpaaa
