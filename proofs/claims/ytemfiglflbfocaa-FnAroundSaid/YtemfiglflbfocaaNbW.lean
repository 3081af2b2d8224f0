/-
  The laws' helpers over Nb in the form that genall.py asks: two rows of one's own that lie in blocks of their own. Condition: rows are no longer than 1048576.
-/
import Derived.Test.YtemfiglflbfocaaGen
namespace Go.Proofs.Ytemfiglflbfocaa
open Go.RowKit
set_option linter.unusedVariables false

def OwnNb (w : World) (base : Nat) (A : Option Addr) (cA : Nat) (B : Option Addr) (cB : Nat) (t l : List Int) : Prop := OwnI w base A cA t ∧ OwnI w base B cB l ∧ ∀ k, k ∈ obk A → k ∉ obk B
def fpNb (A B : Option Addr) : List Nat := obk A ++ obk B
theorem OwnNb.fp {w : World} {base : Nat} {A B : Option Addr} {cA cB : Nat} {t l : List Int} (h : OwnNb w base A cA B cB t l) : ∀ k, k ∈ fpNb A B → base ≤ k ∧ k < w.heap.size := by
  intro k hk
  rcases List.mem_append.1 hk with h1 | h1
  · exact h.1.fp k h1
  · exact h.2.1.fp k h1
theorem OwnNb.same {w w' : World} {base : Nat} {A B : Option Addr} {cA cB : Nat} {t l : List Int} (h : OwnNb w base A cA B cB t l) (hs : ∀ k, k ∈ fpNb A B → w'.heap[k]? = w.heap[k]?) : OwnNb w' base A cA B cB t l :=
  ⟨h.1.same fun k hk => hs k (List.mem_append_left _ hk), h.2.1.same fun k hk => hs k (List.mem_append_right _ hk), h.2.2⟩
theorem OwnNb.drew {w : World} {base : Nat} {A B : Option Addr} {cA cB : Nat} {t l : List Int} (h : OwnNb w base A cA B cB t l) : OwnNb w.drew base A cA B cB t l := h.same fun _ _ => rfl
theorem OwnNb.low {w : World} {base base' : Nat} {A B : Option Addr} {cA cB : Nat} {t l : List Int} (h : OwnNb w base A cA B cB t l) (hb : base' ≤ base) : OwnNb w base' A cA B cB t l := ⟨h.1.low hb, h.2.1.low hb, h.2.2⟩
theorem OwnNb.of {w : World} {base : Nat} {A B : Option Addr} {cA cB : Nat} {t l : List Int} (h : NbOwn w base A cA B cB t l) : OwnNb w base A cA B cB t l := by
  obtain ⟨m, h1, h2, h3, h4⟩ := h
  exact ⟨h2, h4.low h1, fun k hk hm => by have := h3 k (obk_own.2 hk); have := (h4.fp k hm).1; omega⟩

set_option maxRecDepth 100000 in
set_option maxHeartbeats 2000000 in
theorem marknb_at (base : Nat) (A : Option Addr) (cA : Nat) (B : Option Addr) (cB : Nat) (t l : List Int) (p : Int) (b1 b2 : Bool) (k : Nat) (hk : k + t.length ≤ 17592186044416) (hl : l.length ≤ 17592186044416) (w : World) (hO : OwnNb w base A cA B cB t l) :
    Calls Try.prog 42 #[.agg #[.slice A t.length cA, .slice B l.length cB, .int .i64 p, .bool b1, .bool b2], .int .i64 k] w fun e w' => e = .returned (.int .i64 ((k + t.length + l.length : Nat) : Int)) ∧ OwnNb w' base A cA B cB (markL k t.length) (markL ((k + t.length : Nat) : Int) l.length) ∧ Wrote w w' (fpNb A B) := by
  have nb := below_new w (.cells #[.slice A t.length cA, .slice B l.length cB, .int .i64 p, .bool b1, .bool b2] 38)
  have ho := hO.same (w' := w.alloc (.cells #[.slice A t.length cA, .slice B l.length cB, .int .i64 p, .bool b1, .bool b2] 38)) fun k hk => nb.block k (hO.fp k hk).2
  have M1 := Lib.hid (markints_at base A cA t.length t k rfl (by omega) (by omega) _ ho.1)
  have M2 := Lib.hid fun w h => markints_at base B cB l.length l (k + t.length) rfl (by omega) hl w h
  have HK := Lib.hid (heap_alloc_new w (.cells #[.slice A t.length cA, .slice B l.length cB, .int .i64 p, .bool b1, .bool b2] 38))
  have HO := Lib.hid ho
  have HO0 := Lib.hid hO
  have G0 := Lib.hid (Wrote.of_below (fpNb A B) nb)
  obtain ⟨n, hn⟩ : ∃ n, n = t.length := ⟨_, rfl⟩
  obtain ⟨q, hq⟩ : ∃ n, n = l.length := ⟨_, rfl⟩
  rw [← hn] at M1 M2 HK G0 HO ⊢
  rw [← hq] at M1 M2 HK G0 HO ⊢
  obtain ⟨K, hK⟩ : ∃ K, K = k + n := ⟨_, rfl⟩
  obtain ⟨R, hR⟩ : ∃ K, K = k + n + q := ⟨_, rfl⟩
  rw [← hR]
  rw [← hK] at M1 M2 hR ⊢
  rw [← hR] at M2
  clear hO ho nb hn hq hk hl hK hR
  go_enter Try.func42, Try.ntmps42
  go_wp2_with fail
  refine M1.out.mono ?_
  rintro e w1 ⟨rfl, ho1, W1⟩
  have k1 := W1.heap HK.out (fun hm => by have := (HO0.out.1.fp _ hm).2; omega)
  have o2 := HO.out.2.1.same (w' := w1) (fun x hx => W1.block x (HO.out.2.1.fp x hx).2 (fun hm => HO.out.2.2 x hm hx))
  have O1 := Lib.hid ho1; have O2 := Lib.hid o2; have W1 := Lib.hid W1
  obtain ⟨c0, c1, c2, c3, c4⟩ := cells5 k1
  clear ho1 k1 o2
  go_wp2_with fail
  refine (M2.out _ O2.out).mono ?_
  rintro e w2 ⟨rfl, ho2, hw2⟩
  have O3 := Lib.hid ho2; have W2 := Lib.hid hw2
  have O4 := Lib.hid (O1.out.same fun x hx => hw2.block x (O1.out.fp x hx).2 (HO.out.2.2 x hx))
  clear ho2 hw2 c0 c1 c2 c3 c4
  go_wp2
  go_ret
  exact ⟨rfl, ⟨O4.out, O3.out, HO.out.2.2⟩, (G0.out.trans (W1.out.mono fun x hx => List.mem_append_left _ hx)).trans (W2.out.mono fun x hx => List.mem_append_right _ hx)⟩
set_option maxRecDepth 100000 in
set_option maxHeartbeats 2000000 in
theorem heldnb_at (A : Option Addr) (cA n : Nat) (B : Option Addr) (cB m : Nat) (p : Int) (b1 b2 : Bool) (k : Nat) (hk : k + n ≤ 17592186044416) (hm : m ≤ 17592186044416) (w : World) (hA : Ints w w.heap.size A (markL k n)) (hB : Ints w w.heap.size B (markL ((k + n : Nat) : Int) m)) :
    Calls Try.prog 43 #[.agg #[.slice A n cA, .slice B m cB, .int .i64 p, .bool b1, .bool b2], .int .i64 k] w fun e w' => e = .returned (.int .i64 ((k + n + m : Nat) : Int)) ∧ Below w.heap.size w w' := by
  have nb := below_new w (.cells #[.slice A n cA, .slice B m cB, .int .i64 p, .bool b1, .bool b2] 38)
  have M1 := Lib.hid (heldints_at A cA n k (by omega) (by omega) _ ((hA.below nb (Nat.le_refl _)).mono nb.size))
  have M2 := Lib.hid fun wr (h : Below w.heap.size w wr) => heldints_at B cB m (k + n) (by omega) hm wr ((hB.below h (Nat.le_refl _)).mono h.size)
  have HK := Lib.hid (heap_alloc_new w (.cells #[.slice A n cA, .slice B m cB, .int .i64 p, .bool b1, .bool b2] 38))
  have B0 := Lib.hid nb
  obtain ⟨K, hK⟩ : ∃ K, K = k + n := ⟨_, rfl⟩
  obtain ⟨R, hR⟩ : ∃ K, K = k + n + m := ⟨_, rfl⟩
  rw [← hR]
  rw [← hK] at M1 M2 hR
  rw [← hR] at M2
  have hq1 : decide ((K : Int) < 0) = false := by simp
  have hq2 : decide ((R : Int) < 0) = false := by simp
  clear hA hB nb hK hR hk hm
  go_enter Try.func43, Try.ntmps43
  go_wp2_with fail
  refine M1.out.mono ?_
  rintro e w1 ⟨rfl, hb⟩
  have B1 := Lib.hid (below_up B0.out hb B0.out.size)
  have K1 := Lib.hid (cell_kept HK.out hb)
  obtain ⟨c0, c1, c2, c3, c4⟩ := cells5 K1.out
  clear hb
  go_wp2_with fail
  refine (M2.out _ B1.out).mono ?_
  rintro e w2 ⟨rfl, hb⟩
  have B2 := Lib.hid (below_up B1.out hb B1.out.size)
  clear hb
  go_wp2
  go_ret
  exact ⟨rfl, B2.out⟩
end Go.Proofs.Ytemfiglflbfocaa
