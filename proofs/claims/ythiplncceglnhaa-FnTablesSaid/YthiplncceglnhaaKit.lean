/-
  Plain helpers: bytes and strings as lists, rows of bytes that a call owns, and what the conversions between them give. No condition but those that each lemma states.
-/
import Derived.WalkKit
import Derived.WalkSpells
import Derived.WalkLawsBesides
import Derived.Lib.Hide
import Derived.Laws.IdiomStrings
import Derived.Laws.OwnMore
import Derived.Laws.BitsLemmas
import Derived.RegionTactic
import Derived.Deep.RegionHeld3
namespace Go.Proofs.Ythiplncceglnhaa
open Go.RowKit

/-- A string of these bytes. -/
def bs (l : List UInt8) : ByteArray := ⟨l.toArray⟩
theorem bs_size (l : List UInt8) : (bs l).size = l.length := rfl
theorem bs_append (a b : List UInt8) : bs a ++ bs b = bs (a ++ b) := by
  apply ByteArray.ext; simp [bs, ByteArray.data_append]
theorem bs_cons (x : UInt8) (b : List UInt8) : bs [x] ++ bs b = bs (x :: b) := bs_append _ _
theorem bs_nil : bs [] = ⟨#[]⟩ := rfl
theorem bs_inj {a b : List UInt8} (h : bs a = bs b) : a = b := by
  have : (bs a).data.toList = (bs b).data.toList := by rw [h]
  simpa [bs] using this
theorem bs_eta (s : ByteArray) : bs s.data.toList = s := by
  apply ByteArray.ext; simp [bs]

/-- A byte as a cell; a list of bytes as cells. -/
def bv (b : UInt8) : Value := .int .u8 (b.toNat : Int)
def bvs (l : List UInt8) : List Value := l.map bv
theorem bvs_len (l : List UInt8) : (bvs l).length = l.length := by simp [bvs]
theorem bvs_append (a b : List UInt8) : bvs (a ++ b) = bvs a ++ bvs b := by simp [bvs]
theorem bvs_at (l : List UInt8) (j : Nat) (h : j < l.length) : (bvs l)[j]? = some (bv l[j]) := by simp [bvs, h]
theorem bvs_set (l : List UInt8) (j : Nat) (b : UInt8) : (bvs l).set j (bv b) = bvs (l.set j b) := by simp [bvs, List.map_set]
theorem bvs_one (l : List UInt8) : ∀ u ∈ bvs l, u.oneCell' = true := by
  intro u hu
  simp only [bvs, List.mem_map] at hu
  obtain ⟨b, _, rfl⟩ := hu
  rfl

/-- The cell of the byte `x`, a number from 0 to 255. -/
theorem bv_ofNat (x : Int) (h0 : 0 ≤ x) (h1 : x < 256) : bv (UInt8.ofNat x.toNat) = .int .u8 x := by
  unfold bv
  congr 1
  simp
  omega

/-- `string(b)` over a row of bytes that the call owns. -/
theorem conv_own {P : Program} {T E S : TypeId} (hs : P.underlying T = some (.slice E)) (he : P.underlying E = some (.int .u8)) (hd : P.underlying S = some .string)
    {w : World} {base : Nat} {v : Value} {n : Nat} {l : List UInt8} (h : w.ownsRow base E 1 v n (bvs l)) :
    (convert T S v).run P w = .ok (.string (bs l)) w := by
  have hl : l.length = n := by have := h.1; rw [bvs_len] at this; omega
  rcases h.2 with ⟨rfl, rfl⟩ | ⟨g, cap, cur, rfl, _, _, _, _, _, _⟩
  · obtain rfl : l = [] := List.eq_nil_of_length_eq_zero hl
    simp [convert, run_underlying hs, run_underlying hd, run_underlying he, Conv.bytesToString]
    rfl
  · subst hl
    refine run_convert_bytes_back w T S E ⟨g, 0, none⟩ cap l hs he hd fun j hj => ?_
    have hc := h.cellAt j (by omega)
    rw [bvs_at l j hj] at hc
    have e : (⟨g, 0, none⟩ : Addr).add j = ⟨g, j, none⟩ := by unfold Addr.add; split <;> simp_all
    rw [e, hc]
    rfl

/-- `string([]byte{x})`: the literal's block is the last one. -/
theorem conv_byte {P : Program} {T E S : TypeId} (hs : P.underlying T = some (.slice E)) (he : P.underlying E = some (.int .u8)) (hd : P.underlying S = some .string)
    (w : World) (x : Int) (h0 : 0 ≤ x) (h1 : x < 256) :
    (convert T S (.slice (some ⟨w.heap.size, 0, none⟩) 1 1)).run P (w.alloc (.cells #[.int .u8 x] E)) = .ok (.string (bs [UInt8.ofNat x.toNat])) (w.alloc (.cells #[.int .u8 x] E)) := by
  refine run_convert_bytes_back (P := P) (w.alloc (.cells #[.int .u8 x] E)) T S E ⟨w.heap.size, 0, none⟩ 1 [UInt8.ofNat x.toNat] hs he hd (fun j hj => ?_)
  have : j = 0 := by simpa using hj
  subst this
  have hx : ((UInt8.ofNat x.toNat).toNat : Int) = x := by
    simp; omega
  show _ = some (Value.int .u8 ((UInt8.ofNat x.toNat).toNat : Int))
  rw [hx]
  simp [Addr.add, World.cell?_alloc_mark]

/-- `make([]byte, n)`: the row of zeros. -/
theorem make_bytes {P : Program} {T E : TypeId} {i : TypeInfo} (hs : P.underlying T = some (.slice E)) (hi : P.info? E = some i) (hz : i.zero = some (.int .u8 0)) (h1 : i.size = 1) (hb : i.bytes = 1)
    (n : Nat) (hn : n ≤ 281474976710656) (w : World) :
    (Instr.makeSlice T (.int .i64 (n : Int)) (.int .i64 (n : Int))).run P w =
      .ok (.slice (some ⟨w.heap.size, 0, none⟩) n n) (w.alloc (.cells (bvs (List.replicate n 0)).toArray E)) := by
  have h := run_make (P := P) w T E i (.int .u8 0) hs hi hz .i64 .i64 (n : Int) (n : Int) (by omega) (by omega) (by rw [hb]; omega) (by omega)
  rw [h]
  have hc : madeCells (Value.int .u8 0).cells ((n : Int).toNat * i.size) = (bvs (List.replicate n 0)).toArray := by
    rw [h1, Int.toNat_natCast, Nat.mul_one]
    have := toList_madeCells_one (.int .u8 0) n
    show madeCells #[Value.int .u8 0] n = _
    apply Array.ext'
    rw [this]
    simp [bvs, bv]
  rw [hc]
  simp

theorem make_bytes' {P : Program} {T E : TypeId} {i : TypeInfo} (hs : P.underlying T = some (.slice E)) (hi : P.info? E = some i) (hz : i.zero = some (.int .u8 0)) (h1 : i.size = 1) (hb : i.bytes = 1)
    (n : Nat) (x : Int) (hx : x = (n : Int)) (hn : n ≤ 281474976710656) (w : World) :
    (Instr.makeSlice T (.int .i64 x) (.int .i64 x)).run P w =
      .ok (.slice (some ⟨w.heap.size, 0, none⟩) n n) (w.alloc (.cells (bvs (List.replicate n 0)).toArray E)) := by
  subst hx
  exact make_bytes hs hi hz h1 hb n hn w
/-- A slice literal that is the last block is owned. -/
theorem own_lit {E : TypeId} (w : World) (base : Nat) (l : List UInt8) (hb : base ≤ w.heap.size) (hm : l.length ≤ maxLen) :
    (w.alloc (.cells (bvs l).toArray E)).ownsRow base E 1 (.slice (some ⟨w.heap.size, 0, none⟩) l.length l.length) l.length (bvs l) := by
  have h := World.ownsRow_lit (base := base) (e := E) (size := 1) w (bvs l).toArray l.length hb hm (by simp [bvs])
  simpa using h

theorem below_step {w w1 w2 : World} (h : Below w.heap.size w w1) (h2 : Below w1.heap.size w1 w2) : Below w.heap.size w w2 := h.trans (h2.mono h.size)

/-- A row of bytes with one byte more, the byte given as a number. -/
theorem own_snoc {w : World} {base : Nat} {E : TypeId} {v : Value} {n : Nat} {p : List UInt8} {x : Int} (h : w.ownsRow base E 1 v n (bvs p ++ [.int .u8 x])) (y : Nat) (h1 : x = (y : Int)) (h2 : y < 256) :
    w.ownsRow base E 1 v n (bvs (p ++ [UInt8.ofNat y])) := by
  subst h1
  rw [bvs_append]
  have := bv_ofNat (y : Int) (by omega) (by omega)
  rw [Int.toNat_natCast] at this
  rw [← this] at h
  exact h

theorem own_snoc2 {w : World} {base : Nat} {E : TypeId} {v : Value} {n : Nat} {p : List UInt8} {x x' : Int} (h : w.ownsRow base E 1 v n (bvs p ++ [.int .u8 x, .int .u8 x'])) (y y' : Nat) (h1 : x = (y : Int)) (h2 : y < 256) (h1' : x' = (y' : Int)) (h2' : y' < 256) :
    w.ownsRow base E 1 v n (bvs (p ++ [UInt8.ofNat y, UInt8.ofNat y'])) := by
  subst h1 h1'
  have e1 := bv_ofNat (y : Int) (by omega) (by omega)
  have e2 := bv_ofNat (y' : Int) (by omega) (by omega)
  rw [Int.toNat_natCast] at e1 e2
  rw [bvs_append]
  show w.ownsRow base E 1 v n (bvs p ++ [bv (UInt8.ofNat y), bv (UInt8.ofNat y')])
  rw [e1, e2]
  exact h

/-- `out = append(out, x)` of one element of one cell, `out` the call's own; the literal of one element is the last block. -/
theorem append_one {P : Program} {w : World} (w0 : World) {ops : Array Oper} {rest : List Oper} {o : Oper} {a : Act} {Q : Exit → Act → World → Prop} (hgd : o.guard = none) (s x : Operand) (t : TypeId)
    (ho : o.op = .call { callee := .builtin .append, args := #[s, x], argTypes := #[t, t] })
    (wS : World) (e : TypeId) (i : TypeInfo) (z : Value) (bytes : Nat) (ht : P.underlying t = some (.slice e)) (hi : P.info? e = some i) (hz : i.zero = some z)
    (hsize : i.size = 1) (hby : i.bytes = bytes) (hzs : z.cells.size = 1)
    (v : Value) (n : Nat) (xs : List Value) (hs : a.eval s = v) (hown : w0.ownsRow wS.heap.size e 1 v n xs)
    (u : Value) (hw : w = w0.alloc (.cells #[u] e)) (h1 : u.oneCell' = true) (hx : a.eval x = .slice (some ⟨w0.heap.size, 0, none⟩) 1 1)
    (hbytes : (n + 1) * bytes ≤ 140737488355328) (h63 : n + 1 ≤ maxLen) (hb : Below wS.heap.size wS w0)
    (h : ∀ v' w', w'.ownsRow wS.heap.size e 1 v' (n + 1) (xs ++ [u]) → Below wS.heap.size wS w' → wpList P ops Q rest (a.put o.dst v') w') :
    wpList P ops Q (o :: rest) a w := by
  subst hw
  refine wpList_append_own (w0.alloc (.cells #[u] e)) hgd s x t ho wS.heap.size e i z 1 bytes ht hi hz hsize hby hzs (by decide) v n xs hs (hown.alloc _)
    ⟨w0.heap.size, 0, none⟩ 1 1 [u] hx rfl ?_ ?_ h63 hbytes (by have := hb.size; simp; omega) ?_
  · intro j y hj
    match j, hj with
    | 0, hj =>
      simp at hj
      subst hj
      simp [Addr.add, World.cell?_alloc_mark]
  · intro y hy
    simp at hy
    subst hy
    exact h1
  · intro v' w' hown' hg _
    refine h v' w' hown' ((hb.alloc hb.size _).grown hg (by have := hb.size; simp; omega) fun k hk => ?_)
    exact (hown.lt k hk).1

/-- The same for a literal of several elements, as one operation. -/
theorem wp_append_lit {P : Program} {w : World} (w0 : World) {o : Oper} {a : Act} {K : Act → World → Prop} {Q : Exit → Act → World → Prop} (s x : Operand) (t : TypeId)
    (ho : o.op = .call { callee := .builtin .append, args := #[s, x], argTypes := #[t, t] })
    (wS : World) (e : TypeId) (i : TypeInfo) (z : Value) (bytes : Nat) (ht : P.underlying t = some (.slice e)) (hi : P.info? e = some i) (hz : i.zero = some z)
    (hsize : i.size = 1) (hby : i.bytes = bytes) (hzs : z.cells.size = 1)
    (v : Value) (n : Nat) (xs : List Value) (hs : a.eval s = v) (hown : w0.ownsRow wS.heap.size e 1 v n xs)
    (us : List Value) (hw : w = w0.alloc (.cells us.toArray e)) (h1 : ∀ u ∈ us, u.oneCell' = true) (hx : a.eval x = .slice (some ⟨w0.heap.size, 0, none⟩) us.length us.length)
    (hbytes : (n + us.length) * bytes ≤ 140737488355328) (h63 : n + us.length ≤ maxLen) (hb : Below wS.heap.size wS w0)
    (h : ∀ v' w', w'.ownsRow wS.heap.size e 1 v' (n + us.length) (xs ++ us) → Below wS.heap.size wS w' → K (a.put o.dst v') w') :
    o.wp P a w K Q := by
  subst hw
  refine wp_append_own (w0.alloc (.cells us.toArray e)) s x t ho wS.heap.size e i z 1 bytes ht hi hz hsize hby hzs (by decide) v n xs hs (hown.alloc _)
    ⟨w0.heap.size, 0, none⟩ us.length us.length us hx (by simp) ?_ h1 h63 hbytes (by have := hb.size; simp; omega) ?_
  · intro j y hj
    have e : (⟨w0.heap.size, 0, none⟩ : Addr).add j = ⟨w0.heap.size, j, none⟩ := by unfold Addr.add; split <;> simp_all
    rw [e, World.cell?_alloc_mark]
    simpa using hj
  · intro v' w' hown' hg _
    refine h v' w' hown' ((hb.alloc hb.size _).grown hg (by have := hb.size; simp; omega) fun k hk => ?_)
    exact (hown.lt k hk).1
/-- .. in a plain list of operations. -/
theorem append_lit {P : Program} {w : World} (w0 : World) {ops : Array Oper} {rest : List Oper} {o : Oper} {a : Act} {Q : Exit → Act → World → Prop} (hgd : o.guard = none) (s x : Operand) (t : TypeId)
    (ho : o.op = .call { callee := .builtin .append, args := #[s, x], argTypes := #[t, t] })
    (wS : World) (e : TypeId) (i : TypeInfo) (z : Value) (bytes : Nat) (ht : P.underlying t = some (.slice e)) (hi : P.info? e = some i) (hz : i.zero = some z)
    (hsize : i.size = 1) (hby : i.bytes = bytes) (hzs : z.cells.size = 1)
    (v : Value) (n : Nat) (xs : List Value) (hs : a.eval s = v) (hown : w0.ownsRow wS.heap.size e 1 v n xs)
    (us : List Value) (hw : w = w0.alloc (.cells us.toArray e)) (h1 : ∀ u ∈ us, u.oneCell' = true) (hx : a.eval x = .slice (some ⟨w0.heap.size, 0, none⟩) us.length us.length)
    (hbytes : (n + us.length) * bytes ≤ 140737488355328) (h63 : n + us.length ≤ maxLen) (hb : Below wS.heap.size wS w0)
    (h : ∀ v' w', w'.ownsRow wS.heap.size e 1 v' (n + us.length) (xs ++ us) → Below wS.heap.size wS w' → wpList P ops Q rest (a.put o.dst v') w') :
    wpList P ops Q (o :: rest) a w :=
  wpList_plain hgd fun _ hK => wp_append_lit w0 s x t ho wS e i z bytes ht hi hz hsize hby hzs v n xs hs hown us hw h1 hx hbytes h63 hb fun v' w' h2 h3 => hK _ _ (h v' w' h2 h3)
/-- .. in a region that draws its order. -/
theorem step_append_lit {P : Program} {w : World} (w0 : World) {ops : Array Oper} {o : Oper} {a : Act} {K : Act → World → Prop} {Q : Exit → Act → World → Prop} {E : Prop} (hgd : o.guard = none) (s x : Operand) (t : TypeId)
    (ho : o.op = .call { callee := .builtin .append, args := #[s, x], argTypes := #[t, t] })
    (wS : World) (e : TypeId) (i : TypeInfo) (z : Value) (bytes : Nat) (ht : P.underlying t = some (.slice e)) (hi : P.info? e = some i) (hz : i.zero = some z)
    (hsize : i.size = 1) (hby : i.bytes = bytes) (hzs : z.cells.size = 1)
    (v : Value) (n : Nat) (xs : List Value) (hs : a.eval s = v) (hown : w0.ownsRow wS.heap.size e 1 v n xs)
    (us : List Value) (hw : w = w0.alloc (.cells us.toArray e)) (h1 : ∀ u ∈ us, u.oneCell' = true) (hx : a.eval x = .slice (some ⟨w0.heap.size, 0, none⟩) us.length us.length)
    (hbytes : (n + us.length) * bytes ≤ 140737488355328) (h63 : n + us.length ≤ maxLen) (hb : Below wS.heap.size wS w0)
    (h : ∀ v' w', w'.ownsRow wS.heap.size e 1 v' (n + us.length) (xs ++ us) → Below wS.heap.size wS w' → K (a.put o.dst v') w') :
    if Region.wanted o (yielded ops a.tmps) = true then Oper.wp P o a w K Q else E := by
  have hw' : Region.wanted o (yielded ops a.tmps) = true := by simp [Region.wanted, hgd]
  rw [if_pos hw']
  exact wp_append_lit w0 s x t ho wS e i z bytes ht hi hz hsize hby hzs v n xs hs hown us hw h1 hx hbytes h63 hb h

/-- A slice of integers that came in: nil, or a row of `cap` cells that reads as `zs`; the first `len` are its elements. -/
def IsRow (k : IntKind) (w : World) (a : Option Addr) (len cap : Nat) (zs : List Int) : Prop :=
  (a = none ∧ len = 0 ∧ cap = 0 ∧ zs = []) ∨
  ∃ x, a = some x ∧ len ≤ cap ∧ cap ≤ maxLen ∧ zs.length = cap ∧ (∀ i, i < zs.length → w.cell? (x.add i) = some (.int k (zs.getD i 0))) ∧ ∀ n ∈ zs, (Lit.int k n).wf = true
theorem IsRow.len_le {k : IntKind} {w : World} {a : Option Addr} {len cap : Nat} {zs : List Int} (h : IsRow k w a len cap zs) : len ≤ maxLen := by
  rcases h with ⟨_, rfl, _, _⟩ | ⟨x, _, h1, h2, _⟩
  · simp
  · omega

/-! ### Bits of numbers -/
theorem wraps_i64 (n : Int) (h0 : 0 ≤ n) (h1 : n < 2 ^ 63) : IntKind.i64.wrap n = n := by rw [IntKind.wrap_i64]; omega
/-- `x | y` where `x` is a multiple of 2^i and `y` lies below it. -/
theorem or_i64 (i : Nat) (x y : Int) (hx0 : 0 ≤ x) (hx : x % 2 ^ i = 0) (hx1 : x < 2 ^ 63) (hy0 : 0 ≤ y) (hy : y < 2 ^ i) (hi : i ≤ 63) : bits .or .i64 x y = x + y :=
  bits_join .i64 63 (by decide) wraps_i64 i x y hx0 hx hx1 hy0 hy (Int.lt_of_lt_of_le hy (by have := Nat.pow_le_pow_right (n := 2) (by decide) hi; exact_mod_cast this))
theorem or_comm_i64 (x y : Int) (hx0 : 0 ≤ x) (hx1 : x < 2 ^ 63) (hy0 : 0 ≤ y) (hy1 : y < 2 ^ 63) : bits .or .i64 x y = bits .or .i64 y x := by
  obtain ⟨a, rfl⟩ := Int.eq_ofNat_of_zero_le hx0
  obtain ⟨b, rfl⟩ := Int.eq_ofNat_of_zero_le hy0
  rw [(bits_nat .i64 63 (by decide) wraps_i64 a b (by omega) (by omega)).2, (bits_nat .i64 63 (by decide) wraps_i64 b a (by omega) (by omega)).2, Nat.or_comm]
/-- `y | x`, the same the other way round. -/
theorem or_i64_low (i : Nat) (y x : Int) (hx0 : 0 ≤ x) (hx : x % 2 ^ i = 0) (hx1 : x < 2 ^ 63) (hy0 : 0 ≤ y) (hy : y < 2 ^ i) (hi : i ≤ 63) : bits .or .i64 y x = y + x := by
  rw [← or_comm_i64 x y hx0 hx1 hy0 (Int.lt_of_lt_of_le hy (by have := Nat.pow_le_pow_right (n := 2) (by decide) hi; exact_mod_cast this)), or_i64 i x y hx0 hx hx1 hy0 hy hi, Int.add_comm]
/-- `x & (2^i - 1)`. -/
theorem and_i64 (i : Nat) (x m : Int) (hm : m = 2 ^ i - 1) (hi : i ≤ 63) (h0 : 0 ≤ x) (h1 : x < 2 ^ 63) : bits .and .i64 x m = x % 2 ^ i := by
  subst hm
  exact bits_mask .i64 63 (by decide) wraps_i64 i hi x h0 h1
theorem and_u8 (i : Nat) (x m : Int) (hm : m = 2 ^ i - 1) (hi : i ≤ 8) (h0 : 0 ≤ x) (h1 : x < 256) : bits .and .u8 x m = x % 2 ^ i := by
  subst hm
  exact bits_mask .u8 8 (by decide) wraps_u8 i hi x h0 h1
/-! ### Bytes of a string -/
def byteAt (s : ByteArray) (j : Nat) : Nat := (s.data.toList.getD j 0).toNat
theorem byteAt_lt (s : ByteArray) (j : Nat) : (byteAt s j : Int) < 256 := by unfold byteAt; have := (s.data.toList.getD j 0).toNat_lt; omega
theorem byteAt_eq (s : ByteArray) (j : Nat) (h : j < s.size) : byteAt s j = s[j].toNat := by
  unfold byteAt
  rw [List.getD_eq_getElem?_getD, List.getElem?_eq_getElem (by simpa using h)]
  rfl
theorem take_snoc (s : ByteArray) (k : Nat) (h : k < s.size) : s.data.toList.take (k + 1) = s.data.toList.take k ++ [UInt8.ofNat (byteAt s k)] := by
  rw [List.take_succ_eq_append_getElem (by simpa using h), byteAt_eq s k h]
  simp
  rfl
/-- `s[j]` where it is there. -/
theorem index_kind {P : Program} {T : TypeId} (hs : P.underlying T = some .string) (k : IntKind) (s : ByteArray) (x : Int) (j : Nat) (hx : x = (j : Int)) (hj : j < s.size) (w : World) :
    (Instr.index T (.string s) (.int k x)).run P w = .ok (.int .u8 (byteAt s j : Int)) w := by
  subst hx
  rw [run_index_string w T s k j hs, dif_pos ⟨by omega, by omega⟩, byteAt_eq s j hj]
  rfl
theorem index_at {P : Program} {T : TypeId} (hs : P.underlying T = some .string) (s : ByteArray) (j : Nat) (hj : j < s.size) (w : World) :
    (Instr.index T (.string s) (.int .i64 (j : Int))).run P w = .ok (.int .u8 (byteAt s j : Int)) w := index_kind hs .i64 s j j rfl hj w
theorem index_at' {P : Program} {T : TypeId} (hs : P.underlying T = some .string) (s : ByteArray) (x : Int) (j : Nat) (hx : x = (j : Int)) (hj : j < s.size) (w : World) :
    (Instr.index T (.string s) (.int .i64 x)).run P w = .ok (.int .u8 (byteAt s j : Int)) w := index_kind hs .i64 s x j hx hj w
/-- `s[:k]` where it is there. -/
theorem cut_to {P : Program} {T : TypeId} (hs : P.underlying T = some .string) (s : ByteArray) (k : Nat) (x : Int) (hx : x = (k : Int)) (hk : k ≤ s.size) (w : World) :
    (Instr.slice T (.string s) none (some (.int .i64 x)) none).run P w = .ok (.string (bs (s.data.toList.take k))) w := by
  subst hx
  rw [run_slice_string_to_if w T s .i64 (k : Int) hs, if_pos ⟨by omega, by omega⟩]
  congr 3
  apply ByteArray.ext
  apply Array.ext'
  simp [bs, ByteArray.data_extract]
theorem bs_toList (l : List UInt8) : (bs l).toList = l := by
  simp [bs]
theorem u8_lt (b : UInt8) : (b.toNat : Int) < 256 := by have := b.toNat_lt; omega
end Go.Proofs.Ythiplncceglnhaa
