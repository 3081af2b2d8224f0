/-
  Plain helpers: bytes and strings as lists, rows of bytes that a call owns, and what the conversions between them give. No condition but those that each lemma states.
  Plain helpers: rows of integers, those that came in and those that a call owns; contracts of what the laws do with them (compare, mark, look again, copy). No condition but those that each lemma states.
  Contracts of Var, in both texts: both give the same bytes for every number. Condition: the number is an int.
  Contracts of BitAt, in both texts, and the law of BitAt. Condition: the string is no longer than 1048576 bytes (the law asks no more).
-/
import Derived.WalkKit
import Derived.WalkSpells
import Derived.WalkLawsBesides
import Derived.Lib.Hide
import Derived.Laws.IdiomStrings
import Derived.Laws.OwnMore
import Derived.Laws.BitsLemmas
import Derived.RegionTactic
import Derived.Deep.RegionHeld3
import Derived.Test.YtemfiglflbfocaaRows
namespace Go.Proofs.Ytemfiglflbfocaa
open Go.RowKit

/-- A string of these bytes. -/
def bs (l : List UInt8) : ByteArray := ⟨l.toArray⟩
theorem bs_size (l : List UInt8) : (bs l).size = l.length := rfl
theorem bs_append (a b : List UInt8) : bs a ++ bs b = bs (a ++ b) := by
  apply ByteArray.ext; simp [bs, ByteArray.data_append]
theorem bs_cons (x : UInt8) (b : List UInt8) : bs [x] ++ bs b = bs (x :: b) := bs_append _ _
theorem bs_nil : bs [] = ⟨#[]⟩ := rfl
theorem bs_inj {a b : List UInt8} (h : bs a = bs b) : a = b := by
  have : (bs a).data.toList = (bs b).data.toList := by rw [h]
  simpa [bs] using this
theorem bs_eta (s : ByteArray) : bs s.data.toList = s := by
  apply ByteArray.ext; simp [bs]

/-- A byte as a cell; a list of bytes as cells. -/
def bv (b : UInt8) : Value := .int .u8 (b.toNat : Int)
def bvs (l : List UInt8) : List Value := l.map bv
theorem bvs_len (l : List UInt8) : (bvs l).length = l.length := by simp [bvs]
theorem bvs_append (a b : List UInt8) : bvs (a ++ b) = bvs a ++ bvs b := by simp [bvs]
theorem bvs_at (l : List UInt8) (j : Nat) (h : j < l.length) : (bvs l)[j]? = some (bv l[j]) := by simp [bvs, h]
theorem bvs_set (l : List UInt8) (j : Nat) (b : UInt8) : (bvs l).set j (bv b) = bvs (l.set j b) := by simp [bvs, List.map_set]
theorem bvs_one (l : List UInt8) : ∀ u ∈ bvs l, u.oneCell' = true := by
  intro u hu
  simp only [bvs, List.mem_map] at hu
  obtain ⟨b, _, rfl⟩ := hu
  rfl

/-- The cell of the byte `x`, a number from 0 to 255. -/
theorem bv_ofNat (x : Int) (h0 : 0 ≤ x) (h1 : x < 256) : bv (UInt8.ofNat x.toNat) = .int .u8 x := by
  unfold bv
  congr 1
  simp
  omega

/-- `string(b)` over a row of bytes that the call owns. -/
theorem conv_own {P : Program} {T E S : TypeId} (hs : P.underlying T = some (.slice E)) (he : P.underlying E = some (.int .u8)) (hd : P.underlying S = some .string)
    {w : World} {base : Nat} {v : Value} {n : Nat} {l : List UInt8} (h : w.ownsRow base E 1 v n (bvs l)) :
    (convert T S v).run P w = .ok (.string (bs l)) w := by
  have hl : l.length = n := by have := h.1; rw [bvs_len] at this; omega
  rcases h.2 with ⟨rfl, rfl⟩ | ⟨g, cap, cur, rfl, _, _, _, _, _, _⟩
  · obtain rfl : l = [] := List.eq_nil_of_length_eq_zero hl
    simp [convert, run_underlying hs, run_underlying hd, run_underlying he, Conv.bytesToString]
    rfl
  · subst hl
    refine run_convert_bytes_back w T S E ⟨g, 0, none⟩ cap l hs he hd fun j hj => ?_
    have hc := h.cellAt j (by omega)
    rw [bvs_at l j hj] at hc
    have e : (⟨g, 0, none⟩ : Addr).add j = ⟨g, j, none⟩ := by unfold Addr.add; split <;> simp_all
    rw [e, hc]
    rfl

/-- `string([]byte{x})`: the literal's block is the last one. -/
theorem conv_byte {P : Program} {T E S : TypeId} (hs : P.underlying T = some (.slice E)) (he : P.underlying E = some (.int .u8)) (hd : P.underlying S = some .string)
    (w : World) (x : Int) (h0 : 0 ≤ x) (h1 : x < 256) :
    (convert T S (.slice (some ⟨w.heap.size, 0, none⟩) 1 1)).run P (w.alloc (.cells #[.int .u8 x] E)) = .ok (.string (bs [UInt8.ofNat x.toNat])) (w.alloc (.cells #[.int .u8 x] E)) := by
  refine run_convert_bytes_back (P := P) (w.alloc (.cells #[.int .u8 x] E)) T S E ⟨w.heap.size, 0, none⟩ 1 [UInt8.ofNat x.toNat] hs he hd (fun j hj => ?_)
  have : j = 0 := by simpa using hj
  subst this
  have hx : ((UInt8.ofNat x.toNat).toNat : Int) = x := by
    simp; omega
  show _ = some (Value.int .u8 ((UInt8.ofNat x.toNat).toNat : Int))
  rw [hx]
  simp [Addr.add, World.cell?_alloc_mark]

/-- `make([]byte, n)`: the row of zeros. -/
theorem make_bytes {P : Program} {T E : TypeId} {i : TypeInfo} (hs : P.underlying T = some (.slice E)) (hi : P.info? E = some i) (hz : i.zero = some (.int .u8 0)) (h1 : i.size = 1) (hb : i.bytes = 1)
    (n : Nat) (hn : n ≤ 281474976710656) (w : World) :
    (Instr.makeSlice T (.int .i64 (n : Int)) (.int .i64 (n : Int))).run P w =
      .ok (.slice (some ⟨w.heap.size, 0, none⟩) n n) (w.alloc (.cells (bvs (List.replicate n 0)).toArray E)) := by
  have h := run_make (P := P) w T E i (.int .u8 0) hs hi hz .i64 .i64 (n : Int) (n : Int) (by omega) (by omega) (by rw [hb]; omega) (by omega)
  rw [h]
  have hc : madeCells (Value.int .u8 0).cells ((n : Int).toNat * i.size) = (bvs (List.replicate n 0)).toArray := by
    rw [h1, Int.toNat_natCast, Nat.mul_one]
    have := toList_madeCells_one (.int .u8 0) n
    show madeCells #[Value.int .u8 0] n = _
    apply Array.ext'
    rw [this]
    simp [bvs, bv]
  rw [hc]
  simp

theorem make_bytes' {P : Program} {T E : TypeId} {i : TypeInfo} (hs : P.underlying T = some (.slice E)) (hi : P.info? E = some i) (hz : i.zero = some (.int .u8 0)) (h1 : i.size = 1) (hb : i.bytes = 1)
    (n : Nat) (x : Int) (hx : x = (n : Int)) (hn : n ≤ 281474976710656) (w : World) :
    (Instr.makeSlice T (.int .i64 x) (.int .i64 x)).run P w =
      .ok (.slice (some ⟨w.heap.size, 0, none⟩) n n) (w.alloc (.cells (bvs (List.replicate n 0)).toArray E)) := by
  subst hx
  exact make_bytes hs hi hz h1 hb n hn w
/-- A slice literal that is the last block is owned. -/
theorem own_lit {E : TypeId} (w : World) (base : Nat) (l : List UInt8) (hb : base ≤ w.heap.size) (hm : l.length ≤ maxLen) :
    (w.alloc (.cells (bvs l).toArray E)).ownsRow base E 1 (.slice (some ⟨w.heap.size, 0, none⟩) l.length l.length) l.length (bvs l) := by
  have h := World.ownsRow_lit (base := base) (e := E) (size := 1) w (bvs l).toArray l.length hb hm (by simp [bvs])
  simpa using h

theorem below_step {w w1 w2 : World} (h : Below w.heap.size w w1) (h2 : Below w1.heap.size w1 w2) : Below w.heap.size w w2 := h.trans (h2.mono h.size)

/-- A row of bytes with one byte more, the byte given as a number. -/
theorem own_snoc {w : World} {base : Nat} {E : TypeId} {v : Value} {n : Nat} {p : List UInt8} {x : Int} (h : w.ownsRow base E 1 v n (bvs p ++ [.int .u8 x])) (y : Nat) (h1 : x = (y : Int)) (h2 : y < 256) :
    w.ownsRow base E 1 v n (bvs (p ++ [UInt8.ofNat y])) := by
  subst h1
  rw [bvs_append]
  have := bv_ofNat (y : Int) (by omega) (by omega)
  rw [Int.toNat_natCast] at this
  rw [← this] at h
  exact h

theorem own_snoc2 {w : World} {base : Nat} {E : TypeId} {v : Value} {n : Nat} {p : List UInt8} {x x' : Int} (h : w.ownsRow base E 1 v n (bvs p ++ [.int .u8 x, .int .u8 x'])) (y y' : Nat) (h1 : x = (y : Int)) (h2 : y < 256) (h1' : x' = (y' : Int)) (h2' : y' < 256) :
    w.ownsRow base E 1 v n (bvs (p ++ [UInt8.ofNat y, UInt8.ofNat y'])) := by
  subst h1 h1'
  have e1 := bv_ofNat (y : Int) (by omega) (by omega)
  have e2 := bv_ofNat (y' : Int) (by omega) (by omega)
  rw [Int.toNat_natCast] at e1 e2
  rw [bvs_append]
  show w.ownsRow base E 1 v n (bvs p ++ [bv (UInt8.ofNat y), bv (UInt8.ofNat y')])
  rw [e1, e2]
  exact h

/-- `out = append(out, x)` of one element of one cell, `out` the call's own; the literal of one element is the last block. -/
theorem append_one {P : Program} {w : World} (w0 : World) {ops : Array Oper} {rest : List Oper} {o : Oper} {a : Act} {Q : Exit → Act → World → Prop} (hgd : o.guard = none) (s x : Operand) (t : TypeId)
    (ho : o.op = .call { callee := .builtin .append, args := #[s, x], argTypes := #[t, t] })
    (wS : World) (e : TypeId) (i : TypeInfo) (z : Value) (bytes : Nat) (ht : P.underlying t = some (.slice e)) (hi : P.info? e = some i) (hz : i.zero = some z)
    (hsize : i.size = 1) (hby : i.bytes = bytes) (hzs : z.cells.size = 1)
    (v : Value) (n : Nat) (xs : List Value) (hs : a.eval s = v) (hown : w0.ownsRow wS.heap.size e 1 v n xs)
    (u : Value) (hw : w = w0.alloc (.cells #[u] e)) (h1 : u.oneCell' = true) (hx : a.eval x = .slice (some ⟨w0.heap.size, 0, none⟩) 1 1)
    (hbytes : (n + 1) * bytes ≤ 140737488355328) (h63 : n + 1 ≤ maxLen) (hb : Below wS.heap.size wS w0)
    (h : ∀ v' w', w'.ownsRow wS.heap.size e 1 v' (n + 1) (xs ++ [u]) → Below wS.heap.size wS w' → wpList P ops Q rest (a.put o.dst v') w') :
    wpList P ops Q (o :: rest) a w := by
  subst hw
  refine wpList_append_own (w0.alloc (.cells #[u] e)) hgd s x t ho wS.heap.size e i z 1 bytes ht hi hz hsize hby hzs (by decide) v n xs hs (hown.alloc _)
    ⟨w0.heap.size, 0, none⟩ 1 1 [u] hx rfl ?_ ?_ h63 hbytes (by have := hb.size; simp; omega) ?_
  · intro j y hj
    match j, hj with
    | 0, hj =>
      simp at hj
      subst hj
      simp [Addr.add, World.cell?_alloc_mark]
  · intro y hy
    simp at hy
    subst hy
    exact h1
  · intro v' w' hown' hg _
    refine h v' w' hown' ((hb.alloc hb.size _).grown hg (by have := hb.size; simp; omega) fun k hk => ?_)
    exact (hown.lt k hk).1

/-- The same for a literal of several elements, as one operation. -/
theorem wp_append_lit {P : Program} {w : World} (w0 : World) {o : Oper} {a : Act} {K : Act → World → Prop} {Q : Exit → Act → World → Prop} (s x : Operand) (t : TypeId)
    (ho : o.op = .call { callee := .builtin .append, args := #[s, x], argTypes := #[t, t] })
    (wS : World) (e : TypeId) (i : TypeInfo) (z : Value) (bytes : Nat) (ht : P.underlying t = some (.slice e)) (hi : P.info? e = some i) (hz : i.zero = some z)
    (hsize : i.size = 1) (hby : i.bytes = bytes) (hzs : z.cells.size = 1)
    (v : Value) (n : Nat) (xs : List Value) (hs : a.eval s = v) (hown : w0.ownsRow wS.heap.size e 1 v n xs)
    (us : List Value) (hw : w = w0.alloc (.cells us.toArray e)) (h1 : ∀ u ∈ us, u.oneCell' = true) (hx : a.eval x = .slice (some ⟨w0.heap.size, 0, none⟩) us.length us.length)
    (hbytes : (n + us.length) * bytes ≤ 140737488355328) (h63 : n + us.length ≤ maxLen) (hb : Below wS.heap.size wS w0)
    (h : ∀ v' w', w'.ownsRow wS.heap.size e 1 v' (n + us.length) (xs ++ us) → Below wS.heap.size wS w' → K (a.put o.dst v') w') :
    o.wp P a w K Q := by
  subst hw
  refine wp_append_own (w0.alloc (.cells us.toArray e)) s x t ho wS.heap.size e i z 1 bytes ht hi hz hsize hby hzs (by decide) v n xs hs (hown.alloc _)
    ⟨w0.heap.size, 0, none⟩ us.length us.length us hx (by simp) ?_ h1 h63 hbytes (by have := hb.size; simp; omega) ?_
  · intro j y hj
    have e : (⟨w0.heap.size, 0, none⟩ : Addr).add j = ⟨w0.heap.size, j, none⟩ := by unfold Addr.add; split <;> simp_all
    rw [e, World.cell?_alloc_mark]
    simpa using hj
  · intro v' w' hown' hg _
    refine h v' w' hown' ((hb.alloc hb.size _).grown hg (by have := hb.size; simp; omega) fun k hk => ?_)
    exact (hown.lt k hk).1
/-- .. in a plain list of operations. -/
theorem append_lit {P : Program} {w : World} (w0 : World) {ops : Array Oper} {rest : List Oper} {o : Oper} {a : Act} {Q : Exit → Act → World → Prop} (hgd : o.guard = none) (s x : Operand) (t : TypeId)
    (ho : o.op = .call { callee := .builtin .append, args := #[s, x], argTypes := #[t, t] })
    (wS : World) (e : TypeId) (i : TypeInfo) (z : Value) (bytes : Nat) (ht : P.underlying t = some (.slice e)) (hi : P.info? e = some i) (hz : i.zero = some z)
    (hsize : i.size = 1) (hby : i.bytes = bytes) (hzs : z.cells.size = 1)
    (v : Value) (n : Nat) (xs : List Value) (hs : a.eval s = v) (hown : w0.ownsRow wS.heap.size e 1 v n xs)
    (us : List Value) (hw : w = w0.alloc (.cells us.toArray e)) (h1 : ∀ u ∈ us, u.oneCell' = true) (hx : a.eval x = .slice (some ⟨w0.heap.size, 0, none⟩) us.length us.length)
    (hbytes : (n + us.length) * bytes ≤ 140737488355328) (h63 : n + us.length ≤ maxLen) (hb : Below wS.heap.size wS w0)
    (h : ∀ v' w', w'.ownsRow wS.heap.size e 1 v' (n + us.length) (xs ++ us) → Below wS.heap.size wS w' → wpList P ops Q rest (a.put o.dst v') w') :
    wpList P ops Q (o :: rest) a w :=
  wpList_plain hgd fun _ hK => wp_append_lit w0 s x t ho wS e i z bytes ht hi hz hsize hby hzs v n xs hs hown us hw h1 hx hbytes h63 hb fun v' w' h2 h3 => hK _ _ (h v' w' h2 h3)
/-- .. in a region that draws its order. -/
theorem step_append_lit {P : Program} {w : World} (w0 : World) {ops : Array Oper} {o : Oper} {a : Act} {K : Act → World → Prop} {Q : Exit → Act → World → Prop} {E : Prop} (hgd : o.guard = none) (s x : Operand) (t : TypeId)
    (ho : o.op = .call { callee := .builtin .append, args := #[s, x], argTypes := #[t, t] })
    (wS : World) (e : TypeId) (i : TypeInfo) (z : Value) (bytes : Nat) (ht : P.underlying t = some (.slice e)) (hi : P.info? e = some i) (hz : i.zero = some z)
    (hsize : i.size = 1) (hby : i.bytes = bytes) (hzs : z.cells.size = 1)
    (v : Value) (n : Nat) (xs : List Value) (hs : a.eval s = v) (hown : w0.ownsRow wS.heap.size e 1 v n xs)
    (us : List Value) (hw : w = w0.alloc (.cells us.toArray e)) (h1 : ∀ u ∈ us, u.oneCell' = true) (hx : a.eval x = .slice (some ⟨w0.heap.size, 0, none⟩) us.length us.length)
    (hbytes : (n + us.length) * bytes ≤ 140737488355328) (h63 : n + us.length ≤ maxLen) (hb : Below wS.heap.size wS w0)
    (h : ∀ v' w', w'.ownsRow wS.heap.size e 1 v' (n + us.length) (xs ++ us) → Below wS.heap.size wS w' → K (a.put o.dst v') w') :
    if Region.wanted o (yielded ops a.tmps) = true then Oper.wp P o a w K Q else E := by
  have hw' : Region.wanted o (yielded ops a.tmps) = true := by simp [Region.wanted, hgd]
  rw [if_pos hw']
  exact wp_append_lit w0 s x t ho wS e i z bytes ht hi hz hsize hby hzs v n xs hs hown us hw h1 hx hbytes h63 hb h

/-- A slice of integers that came in: nil, or a row of `cap` cells that reads as `zs`; the first `len` are its elements. -/
def IsRow (k : IntKind) (w : World) (a : Option Addr) (len cap : Nat) (zs : List Int) : Prop :=
  (a = none ∧ len = 0 ∧ cap = 0 ∧ zs = []) ∨
  ∃ x, a = some x ∧ len ≤ cap ∧ cap ≤ maxLen ∧ zs.length = cap ∧ (∀ i, i < zs.length → w.cell? (x.add i) = some (.int k (zs.getD i 0))) ∧ ∀ n ∈ zs, (Lit.int k n).wf = true
theorem IsRow.len_le {k : IntKind} {w : World} {a : Option Addr} {len cap : Nat} {zs : List Int} (h : IsRow k w a len cap zs) : len ≤ maxLen := by
  rcases h with ⟨_, rfl, _, _⟩ | ⟨x, _, h1, h2, _⟩
  · simp
  · omega

/-! ### Bits of numbers -/
theorem wraps_i64 (n : Int) (h0 : 0 ≤ n) (h1 : n < 2 ^ 63) : IntKind.i64.wrap n = n := by rw [IntKind.wrap_i64]; omega
/-- `x | y` where `x` is a multiple of 2^i and `y` lies below it. -/
theorem or_i64 (i : Nat) (x y : Int) (hx0 : 0 ≤ x) (hx : x % 2 ^ i = 0) (hx1 : x < 2 ^ 63) (hy0 : 0 ≤ y) (hy : y < 2 ^ i) (hi : i ≤ 63) : bits .or .i64 x y = x + y :=
  bits_join .i64 63 (by decide) wraps_i64 i x y hx0 hx hx1 hy0 hy (Int.lt_of_lt_of_le hy (by have := Nat.pow_le_pow_right (n := 2) (by decide) hi; exact_mod_cast this))
theorem or_comm_i64 (x y : Int) (hx0 : 0 ≤ x) (hx1 : x < 2 ^ 63) (hy0 : 0 ≤ y) (hy1 : y < 2 ^ 63) : bits .or .i64 x y = bits .or .i64 y x := by
  obtain ⟨a, rfl⟩ := Int.eq_ofNat_of_zero_le hx0
  obtain ⟨b, rfl⟩ := Int.eq_ofNat_of_zero_le hy0
  rw [(bits_nat .i64 63 (by decide) wraps_i64 a b (by omega) (by omega)).2, (bits_nat .i64 63 (by decide) wraps_i64 b a (by omega) (by omega)).2, Nat.or_comm]
/-- `y | x`, the same the other way round. -/
theorem or_i64_low (i : Nat) (y x : Int) (hx0 : 0 ≤ x) (hx : x % 2 ^ i = 0) (hx1 : x < 2 ^ 63) (hy0 : 0 ≤ y) (hy : y < 2 ^ i) (hi : i ≤ 63) : bits .or .i64 y x = y + x := by
  rw [← or_comm_i64 x y hx0 hx1 hy0 (Int.lt_of_lt_of_le hy (by have := Nat.pow_le_pow_right (n := 2) (by decide) hi; exact_mod_cast this)), or_i64 i x y hx0 hx hx1 hy0 hy hi, Int.add_comm]
/-- `x & (2^i - 1)`. -/
theorem and_i64 (i : Nat) (x m : Int) (hm : m = 2 ^ i - 1) (hi : i ≤ 63) (h0 : 0 ≤ x) (h1 : x < 2 ^ 63) : bits .and .i64 x m = x % 2 ^ i := by
  subst hm
  exact bits_mask .i64 63 (by decide) wraps_i64 i hi x h0 h1
theorem and_u8 (i : Nat) (x m : Int) (hm : m = 2 ^ i - 1) (hi : i ≤ 8) (h0 : 0 ≤ x) (h1 : x < 256) : bits .and .u8 x m = x % 2 ^ i := by
  subst hm
  exact bits_mask .u8 8 (by decide) wraps_u8 i hi x h0 h1
/-! ### Bytes of a string -/
def byteAt (s : ByteArray) (j : Nat) : Nat := (s.data.toList.getD j 0).toNat
theorem byteAt_lt (s : ByteArray) (j : Nat) : (byteAt s j : Int) < 256 := by unfold byteAt; have := (s.data.toList.getD j 0).toNat_lt; omega
theorem byteAt_eq (s : ByteArray) (j : Nat) (h : j < s.size) : byteAt s j = s[j].toNat := by
  unfold byteAt
  rw [List.getD_eq_getElem?_getD, List.getElem?_eq_getElem (by simpa using h)]
  rfl
theorem take_snoc (s : ByteArray) (k : Nat) (h : k < s.size) : s.data.toList.take (k + 1) = s.data.toList.take k ++ [UInt8.ofNat (byteAt s k)] := by
  rw [List.take_succ_eq_append_getElem (by simpa using h), byteAt_eq s k h]
  simp
  rfl
/-- `s[j]` where it is there. -/
theorem index_kind {P : Program} {T : TypeId} (hs : P.underlying T = some .string) (k : IntKind) (s : ByteArray) (x : Int) (j : Nat) (hx : x = (j : Int)) (hj : j < s.size) (w : World) :
    (Instr.index T (.string s) (.int k x)).run P w = .ok (.int .u8 (byteAt s j : Int)) w := by
  subst hx
  rw [run_index_string w T s k j hs, dif_pos ⟨by omega, by omega⟩, byteAt_eq s j hj]
  rfl
theorem index_at {P : Program} {T : TypeId} (hs : P.underlying T = some .string) (s : ByteArray) (j : Nat) (hj : j < s.size) (w : World) :
    (Instr.index T (.string s) (.int .i64 (j : Int))).run P w = .ok (.int .u8 (byteAt s j : Int)) w := index_kind hs .i64 s j j rfl hj w
theorem index_at' {P : Program} {T : TypeId} (hs : P.underlying T = some .string) (s : ByteArray) (x : Int) (j : Nat) (hx : x = (j : Int)) (hj : j < s.size) (w : World) :
    (Instr.index T (.string s) (.int .i64 x)).run P w = .ok (.int .u8 (byteAt s j : Int)) w := index_kind hs .i64 s x j hx hj w
/-- `s[:k]` where it is there. -/
theorem cut_to {P : Program} {T : TypeId} (hs : P.underlying T = some .string) (s : ByteArray) (k : Nat) (x : Int) (hx : x = (k : Int)) (hk : k ≤ s.size) (w : World) :
    (Instr.slice T (.string s) none (some (.int .i64 x)) none).run P w = .ok (.string (bs (s.data.toList.take k))) w := by
  subst hx
  rw [run_slice_string_to_if w T s .i64 (k : Int) hs, if_pos ⟨by omega, by omega⟩]
  congr 3
  apply ByteArray.ext
  apply Array.ext'
  simp [bs, ByteArray.data_extract]
theorem bs_toList (l : List UInt8) : (bs l).toList = l := by
  simp [bs]
theorem u8_lt (b : UInt8) : (b.toNat : Int) < 256 := by have := b.toNat_lt; omega
end Go.Proofs.Ytemfiglflbfocaa

namespace Go.Proofs.Ytemfiglflbfocaa
open Go.RowKit
set_option linter.unusedVariables false

/-- An integer as a cell; a list of integers as cells. -/
def iv (x : Int) : Value := .int .i64 x
def ivs (l : List Int) : List Value := l.map iv
theorem ivs_len (l : List Int) : (ivs l).length = l.length := by simp [ivs]
theorem ivs_append (a b : List Int) : ivs (a ++ b) = ivs a ++ ivs b := by simp [ivs]
theorem ivs_at (l : List Int) (j : Nat) (h : j < l.length) : (ivs l)[j]? = some (.int .i64 (l.getD j 0)) := by
  rw [List.getD_eq_getElem?_getD]
  simp [ivs, h, iv]
theorem ivs_set (l : List Int) (j : Nat) (x : Int) : (ivs l).set j (.int .i64 x) = ivs (l.set j x) := by
  show (ivs l).set j (iv x) = _
  simp [ivs, List.map_set]

/-- `A`'s elements read as `l`, and lie in blocks below `g`. -/
def Ints (w : World) (g : Nat) (A : Option Addr) (l : List Int) : Prop :=
  l.length ≤ 281474976710656 ∧ (l = [] ∨ ∃ b off, A = some ⟨b, off, none⟩ ∧ b < g ∧ ∀ j, j < l.length → w.cell? ⟨b, off + j, none⟩ = some (.int .i64 (l.getD j 0)))
theorem Ints.kept {w w' : World} {g : Nat} {A : Option Addr} {l : List Int} (h : Ints w g A l) (hb : ∀ k, k < g → w'.heap[k]? = w.heap[k]?) : Ints w' g A l := by
  obtain ⟨hm, h0 | ⟨b, off, hA, hbg, hc⟩⟩ := h
  · exact ⟨hm, .inl h0⟩
  · refine ⟨hm, .inr ⟨b, off, hA, hbg, fun i hi => ?_⟩⟩
    rw [World.cell?_of_block (w := w) (w' := w') (a := ⟨b, off + i, none⟩) (hb b hbg)]
    exact hc i hi
theorem Ints.below {w w' : World} {g B : Nat} {A : Option Addr} {l : List Int} (h : Ints w g A l) (hb : Below B w w') (hg : g ≤ B) : Ints w' g A l := h.kept fun k hk => hb.block k (Nat.lt_of_lt_of_le hk hg)
theorem Ints.mono {w : World} {g g' : Nat} {A : Option Addr} {l : List Int} (h : Ints w g A l) (hg : g ≤ g') : Ints w g' A l := by
  obtain ⟨hm, h0 | ⟨b, off, hA, hbg, hc⟩⟩ := h
  · exact ⟨hm, .inl h0⟩
  · exact ⟨hm, .inr ⟨b, off, hA, Nat.lt_of_lt_of_le hbg hg, hc⟩⟩
theorem Ints.grown {w w' : World} {g : Nat} {A : Option Addr} {l : List Int} {row : Option Nat} (h : Ints w g A l) (hg : w.grownBy w' row) (hl : g ≤ w.heap.size) (hr : ∀ k, row = some k → g ≤ k) : Ints w' g A l :=
  h.kept fun k hk => hg.block k (Nat.lt_of_lt_of_le hk hl) fun e => by have := hr k e.symm; omega
theorem Ints.at {w : World} {g : Nat} {A : Option Addr} {l : List Int} (h : Ints w g A l) (j : Nat) (hj : j < l.length) : ∃ b off, A = some ⟨b, off, none⟩ ∧ b < g ∧ ∀ j, j < l.length → w.cell? ⟨b, off + j, none⟩ = some (.int .i64 (l.getD j 0)) := by
  obtain ⟨_, rfl | h⟩ := h
  · exact absurd hj (by simp)
  · exact h

/-- A row of integers that the call owns. -/
def OwnI (w : World) (base : Nat) (A : Option Addr) (cap : Nat) (l : List Int) : Prop := w.ownsRow base 3 1 (.slice A l.length cap) l.length (ivs l)
theorem OwnI.ints {w : World} {base : Nat} {A : Option Addr} {cap : Nat} {l : List Int} (h : OwnI w base A cap l) (hm : l.length ≤ 281474976710656) : Ints w w.heap.size A l := by
  refine ⟨hm, ?_⟩
  have h0 := h
  rcases h.2 with ⟨h1, h2⟩ | ⟨g, cap, cur, h1, h2, h3, _⟩
  · exact .inl (List.eq_nil_of_length_eq_zero h2)
  · simp only [Value.slice.injEq] at h1
    obtain ⟨rfl, _, rfl⟩ := h1
    refine .inr ⟨g, 0, rfl, (Array.getElem?_eq_some_iff.1 h3).1, fun j hj => ?_⟩
    rw [Nat.zero_add, World.ownsRow.cellAt h0 j (by omega)]
    exact ivs_at l j hj
/-- A view of a row that the call owns at another state: the row is where it was. -/
theorem OwnI.kept {w w' : World} {base B : Nat} {A : Option Addr} {cap : Nat} {l : List Int} (h : OwnI w base A cap l) (hb : Below B w w') (hB : w.heap.size ≤ B) : OwnI w' base A cap l := by
  unfold OwnI at h ⊢
  have hl := World.ownsRow.lt h
  refine World.ownsRow.kept (row := none) h ⟨hb.os, hb.tape, hb.output, hb.size, fun k hk _ => hb.block k (by omega)⟩ ?_
  cases hv : (Value.slice A l.length cap).ownBlock <;> simp

theorem Try.iinfo : (Try.prog.info? 3).map (fun i => (i.zero, i.size, i.bytes)) = some (some (.int .i64 0), 1, 8) := by kernel_rfl

/-- `make([]int, n)`: the row of zeros. -/
theorem make_ints (n : Nat) (x : Int) (hx : x = (n : Int)) (hn : n ≤ 1000000000000) (w : World) :
    (Instr.makeSlice 24 (.int .i64 x) (.int .i64 x)).run Try.prog w =
      .ok (.slice (some ⟨w.heap.size, 0, none⟩) n n) (w.alloc (.cells (ivs (List.replicate n 0)).toArray 3)) := by
  subst hx
  obtain ⟨i, hi, hz, h1, hb⟩ := info_parts Try.iinfo
  have h := run_make (P := Try.prog) w 24 3 i (.int .i64 0) Try.underlying24 hi hz .i64 .i64 (n : Int) (n : Int) (by omega) (by omega) (by rw [hb]; omega) (by omega)
  rw [h]
  have hc : madeCells (Value.int .i64 0).cells ((n : Int).toNat * i.size) = (ivs (List.replicate n 0)).toArray := by
    rw [h1, Int.toNat_natCast, Nat.mul_one]
    have := toList_madeCells_one (.int .i64 0) n
    show madeCells #[Value.int .i64 0] n = _
    apply Array.ext'
    rw [this]
    simp [ivs, iv]
  rw [hc]
  simp
/-- A row that is the last block is owned. -/
theorem own_ints (w : World) (base : Nat) (l : List Int) (hb : base ≤ w.heap.size) (hm : l.length ≤ maxLen) : OwnI (w.alloc (.cells (ivs l).toArray 3)) base (some ⟨w.heap.size, 0, none⟩) l.length l := by
  have h := World.ownsRow_lit (base := base) (e := 3) (size := 1) w (ivs l).toArray l.length hb hm (by simp [ivs])
  unfold OwnI
  simpa using h

set_option maxRecDepth 100000 in
set_option maxHeartbeats 1000000 in
/-- Two rows of one length. -/
theorem eqints_any (A B : Option Addr) (ca cb : Nat) (la lb : List Int) (w : World) (hA : Ints w w.heap.size A la) (hB : Ints w w.heap.size B lb) :
    Calls Try.prog 37 #[.slice A la.length ca, .slice B lb.length cb] w fun e w' => e = .returned (.bool (decide (la = lb))) ∧ Below w.heap.size w w' := by
  by_cases hne : la.length = lb.length
  · obtain ⟨n, hn⟩ : ∃ n, n = la.length := ⟨_, rfl⟩
    have hn2 : lb.length = n := by omega
    have hnm := hA.1
    rw [← hn] at hnm
    rw [hn2, ← hn]
    have HN := Lib.hid hn; clear hn hne
    have HN2 := Lib.hid hn2; clear hn2
    have HA := Lib.hid hA; clear hA
    have HB := Lib.hid hB; clear hB
    go_enter Try.func37, Try.ntmps37
    go_wp2
    go_loopw [5] (fun i wr => ∃ j : Nat, j ≤ n ∧ (∀ t, t < j → la.getD t 0 = lb.getD t 0) ∧ i = .int .i64 j ∧ Below w.heap.size w wr)
      (fun i _ => n - (intOf i).toNat)
    case atStart => exact ⟨0, Nat.zero_le _, fun t ht => absurd ht (by omega), rfl, Below.refl _ _⟩
    case round =>
      obtain ⟨j, hj, hpre, rfl, hbel⟩ := hrel
      have HE := Lib.hid hpre; clear hpre
      by_cases hlt : j < n
      · obtain ⟨ba, oa, rfl, ha1, ha2⟩ := HA.out.at j (by rw [← HN.out]; exact hlt)
        obtain ⟨bb, ob, rfl, hb1, hb2⟩ := HB.out.at j (by rw [HN2.out]; exact hlt)
        have c1 := ha2 j (by rw [← HN.out]; exact hlt)
        have c2 := hb2 j (by rw [HN2.out]; exact hlt)
        rw [← hbel.cell (p := ⟨ba, oa + j, none⟩) ha1] at c1
        rw [← hbel.cell (p := ⟨bb, ob + j, none⟩) hb1] at c2
        clear ha2 hb2
        obtain ⟨x, hx⟩ : ∃ x, x = la.getD j 0 := ⟨_, rfl⟩
        obtain ⟨y, hy⟩ : ∃ y, y = lb.getD j 0 := ⟨_, rfl⟩
        rw [← hx] at c1
        rw [← hy] at c2
        have HX := Lib.hid hx; clear hx
        have HY := Lib.hid hy; clear hy
        by_cases hxy : x = y
        · subst hxy
          have hq : (x != x) = false := by simp
          go_wp2
          go_region
          go_wp2
          go_roundw
          case rel =>
            refine ⟨j + 1, by omega, fun t ht => ?_, by go_num, hbel.drew⟩
            by_cases htj : t = j
            · subst htj; rw [← HX.out, ← HY.out]
            · exact HE.out t (by omega)
          case measure => simp [intOf]; omega
        · have hq : (x != y) = true := by rw [bne_iff_ne]; exact hxy
          have HNE := Lib.hid hxy; clear hxy
          go_wp2
          go_region
          go_wp2
          go_ret
          refine ⟨?_, hbel.drew⟩
          rw [decide_eq_false (fun e => HNE.out (by rw [HX.out, HY.out, e]))]
          rfl
      · obtain rfl : j = n := by omega
        go_wp2
        go_ret
        refine ⟨?_, hbel⟩
        have e : la = lb := List.ext_getElem (by rw [HN2.out, ← HN.out]) fun t h1 h2 => by
          have := HE.out t (by have := HN.out; omega)
          rw [List.getD_eq_getElem?_getD, List.getD_eq_getElem?_getD, List.getElem?_eq_getElem h1, List.getElem?_eq_getElem h2] at this
          exact this
        rw [decide_eq_true e]
        rfl
  · have hq : ((la.length : Int) != (lb.length : Int)) = true := by rw [bne_iff_ne]; omega
    have HNE := Lib.hid hne; clear hne
    go_enter Try.func37, Try.ntmps37
    go_wp2
    go_ret
    refine ⟨?_, Below.refl _ _⟩
    rw [decide_eq_false (fun e => HNE.out (by rw [e]))]
    rfl
set_option maxRecDepth 100000 in
set_option maxHeartbeats 1000000 in
/-- The same, the other law's helper. -/
theorem sameints_any (A B : Option Addr) (ca cb : Nat) (la lb : List Int) (w : World) (hA : Ints w w.heap.size A la) (hB : Ints w w.heap.size B lb) :
    Calls Try.prog 17 #[.slice A la.length ca, .slice B lb.length cb] w fun e w' => e = .returned (.bool (decide (la = lb))) ∧ Below w.heap.size w w' := by
  by_cases hne : la.length = lb.length
  · obtain ⟨n, hn⟩ : ∃ n, n = la.length := ⟨_, rfl⟩
    have hn2 : lb.length = n := by omega
    have hnm := hA.1
    rw [← hn] at hnm
    rw [hn2, ← hn]
    have HN := Lib.hid hn; clear hn hne
    have HN2 := Lib.hid hn2; clear hn2
    have HA := Lib.hid hA; clear hA
    have HB := Lib.hid hB; clear hB
    go_enter Try.func17, Try.ntmps17
    go_wp2
    go_loopw [5] (fun i wr => ∃ j : Nat, j ≤ n ∧ (∀ t, t < j → la.getD t 0 = lb.getD t 0) ∧ i = .int .i64 j ∧ Below w.heap.size w wr)
      (fun i _ => n - (intOf i).toNat)
    case atStart => exact ⟨0, Nat.zero_le _, fun t ht => absurd ht (by omega), rfl, Below.refl _ _⟩
    case round =>
      obtain ⟨j, hj, hpre, rfl, hbel⟩ := hrel
      have HE := Lib.hid hpre; clear hpre
      by_cases hlt : j < n
      · obtain ⟨ba, oa, rfl, ha1, ha2⟩ := HA.out.at j (by rw [← HN.out]; exact hlt)
        obtain ⟨bb, ob, rfl, hb1, hb2⟩ := HB.out.at j (by rw [HN2.out]; exact hlt)
        have c1 := ha2 j (by rw [← HN.out]; exact hlt)
        have c2 := hb2 j (by rw [HN2.out]; exact hlt)
        rw [← hbel.cell (p := ⟨ba, oa + j, none⟩) ha1] at c1
        rw [← hbel.cell (p := ⟨bb, ob + j, none⟩) hb1] at c2
        clear ha2 hb2
        obtain ⟨x, hx⟩ : ∃ x, x = la.getD j 0 := ⟨_, rfl⟩
        obtain ⟨y, hy⟩ : ∃ y, y = lb.getD j 0 := ⟨_, rfl⟩
        rw [← hx] at c1
        rw [← hy] at c2
        have HX := Lib.hid hx; clear hx
        have HY := Lib.hid hy; clear hy
        by_cases hxy : x = y
        · subst hxy
          have hq : (x != x) = false := by simp
          go_wp2
          go_region
          go_wp2
          go_roundw
          case rel =>
            refine ⟨j + 1, by omega, fun t ht => ?_, by go_num, hbel.drew⟩
            by_cases htj : t = j
            · subst htj; rw [← HX.out, ← HY.out]
            · exact HE.out t (by omega)
          case measure => simp [intOf]; omega
        · have hq : (x != y) = true := by rw [bne_iff_ne]; exact hxy
          have HNE := Lib.hid hxy; clear hxy
          go_wp2
          go_region
          go_wp2
          go_ret
          refine ⟨?_, hbel.drew⟩
          rw [decide_eq_false (fun e => HNE.out (by rw [HX.out, HY.out, e]))]
          rfl
      · obtain rfl : j = n := by omega
        go_wp2
        go_ret
        refine ⟨?_, hbel⟩
        have e : la = lb := List.ext_getElem (by rw [HN2.out, ← HN.out]) fun t h1 h2 => by
          have := HE.out t (by have := HN.out; omega)
          rw [List.getD_eq_getElem?_getD, List.getD_eq_getElem?_getD, List.getElem?_eq_getElem h1, List.getElem?_eq_getElem h2] at this
          exact this
        rw [decide_eq_true e]
        rfl
  · have hq : ((la.length : Int) != (lb.length : Int)) = true := by rw [bne_iff_ne]; omega
    have HNE := Lib.hid hne; clear hne
    go_enter Try.func17, Try.ntmps17
    go_wp2
    go_ret
    refine ⟨?_, Below.refl _ _⟩
    rw [decide_eq_false (fun e => HNE.out (by rw [e]))]
    rfl

/-- What a row reads after it was marked. -/
def markL (k : Int) (n : Nat) : List Int := (List.range n).map fun (i : Nat) => k + (i : Int)
theorem markL_len (k : Int) (n : Nat) : (markL k n).length = n := by simp [markL]
theorem markL_at (k : Int) (n j : Nat) (h : j < n) : (markL k n).getD j 0 = k + (j : Int) := by
  rw [List.getD_eq_getElem?_getD]
  simp [markL, h]

set_option maxRecDepth 100000 in
set_option maxHeartbeats 1000000 in
/-- Marking: over a row that the caller owns. -/
theorem markints_any (base : Nat) (A : Option Addr) (cap : Nat) (l : List Int) (k : Int) (hk : 0 ≤ k) (hk2 : k ≤ 281474976710656) (hl : l.length ≤ 281474976710656) (w : World) (hO : OwnI w base A cap l) :
    Calls Try.prog 38 #[.slice A l.length cap, .int .i64 k] w fun e w' => e = .returned (.int .i64 (k + (l.length : Int))) ∧ OwnI w' base A cap (markL k l.length) ∧ w.grownBy w' (Value.slice A l.length cap).ownBlock := by
  obtain ⟨n, hn⟩ : ∃ n, n = l.length := ⟨_, rfl⟩
  have hO2 : w.ownsRow base 3 1 (.slice A n cap) n (ivs l) := by rw [hn]; exact hO
  have hform := hO2.2
  have hOI : ∀ w', OwnI w' base A cap (markL k n) ↔ w'.ownsRow base 3 1 (.slice A n cap) n (ivs (markL k n)) := fun w' => by unfold OwnI; rw [markL_len]
  rw [← hn]
  simp only [hOI]
  rw [← hn] at hl
  clear hO hOI
  rcases hform with ⟨h1, h2⟩ | ⟨g, cap', cur, h1, h2, h3, _⟩
  · subst h2
    simp only [Value.slice.injEq] at h1
    obtain ⟨rfl, _, rfl⟩ := h1
    have hl0 : l = [] := List.eq_nil_of_length_eq_zero hn.symm
    subst hl0
    have HO := Lib.hid hO2; clear hO2 hn
    go_enter Try.func38, Try.ntmps38
    go_wp2
    go_loop [1, 5] (fun v i => v = .int .i64 k ∧ i = .int .i64 0) (fun _ _ => 0)
    case atStart => exact ⟨rfl, rfl⟩
    case round =>
      obtain ⟨rfl, rfl⟩ := hrel
      go_wp2
      go_ret
      exact ⟨rfl, HO.out, ⟨rfl, rfl, rfl, Nat.le_refl _, fun _ _ _ => rfl⟩⟩
  · simp only [Value.slice.injEq] at h1
    obtain ⟨rfl, _, rfl⟩ := h1
    have HN := Lib.hid hn; clear hn h3
    go_enter Try.func38, Try.ntmps38
    go_wp2
    go_loopw [1, 5] (fun v i wr => ∃ (j : Nat) (p : List Int), j ≤ n ∧ p.length = n ∧ (∀ t, t < j → p.getD t 0 = k + (t : Int)) ∧ v = .int .i64 (k + (j : Int)) ∧ i = .int .i64 j ∧ wr.ownsRow base 3 1 (.slice (some ⟨g, 0, none⟩) n cap) n (ivs p) ∧ w.grownBy wr (some g))
      (fun _ i _ => n - (intOf i).toNat)
    case atStart => exact ⟨0, l, Nat.zero_le _, HN.out.symm, fun t ht => absurd ht (by omega), by rw [Int.natCast_zero, Int.add_zero], rfl, hO2, ⟨rfl, rfl, rfl, Nat.le_refl _, fun _ _ _ => rfl⟩⟩
    case round =>
      obtain ⟨j, p, hj, hp, hpre, rfl, rfl, hown, hgr⟩ := hrel
      have HE := Lib.hid hpre; clear hpre
      have HP := Lib.hid hp; clear hp
      clear hO2
      by_cases hlt : j < n
      · obtain ⟨b0, hc⟩ : ∃ b0 : Int, wr.cell? ⟨g, j, none⟩ = some (.int .i64 b0) := ⟨_, (hown.cellAt j (by omega)).trans (ivs_at p j (by rw [HP.out]; omega))⟩
        have hz := hown.frozenAt j
        go_wp2
        go_roundw
        case rel =>
          have s1 := hown.stored j (.int .i64 (k + (j : Int)))
          rw [ivs_set] at s1
          refine ⟨j + 1, p.set j (k + (j : Int)), by omega, by simpa using HP.out, ?_, ?_, by go_num, s1.1, ⟨hgr.os, hgr.tape, hgr.output, by have := hgr.size; have := s1.2.size; omega, fun i hi hne => ?_⟩⟩
          · intro t ht
            by_cases htj : t = j
            · subst htj
              rw [List.getD_eq_getElem?_getD, List.getElem?_set_self (by rw [HP.out]; omega)]
              rfl
            · rw [List.getD_eq_getElem?_getD, List.getElem?_set_ne (fun e => htj e.symm), ← List.getD_eq_getElem?_getD]
              exact HE.out t (by omega)
          · congr 1
            omega
          · rw [s1.2.block i (by have := hgr.size; omega) hne, hgr.block i hi hne]
        case measure => simp [intOf]; omega
      · obtain rfl : j = n := by omega
        go_wp2
        go_ret
        refine ⟨rfl, ?_, hgr⟩
        have e : p = markL k j := List.ext_getElem (by rw [HP.out, markL_len]) fun t h1 h2 => by
          have := HE.out t (by have := HP.out; omega)
          rw [List.getD_eq_getElem?_getD, List.getElem?_eq_getElem h1] at this
          have h3 := markL_at k j t (by rw [markL_len] at h2; exact h2)
          rw [List.getD_eq_getElem?_getD, List.getElem?_eq_getElem h2] at h3
          exact this.trans h3.symm
        rw [← e]
        exact hown

set_option maxRecDepth 100000 in
set_option maxHeartbeats 1000000 in
/-- Looking again: the marks stand. -/
theorem heldints_any (A : Option Addr) (cap : Nat) (n : Nat) (k : Int) (hk : 0 ≤ k) (hk2 : k ≤ 281474976710656) (w : World) (hA : Ints w w.heap.size A (markL k n)) :
    Calls Try.prog 39 #[.slice A n cap, .int .i64 k] w fun e w' => e = .returned (.int .i64 (k + (n : Int))) ∧ Below w.heap.size w w' := by
  have hn := hA.1
  rw [markL_len] at hn
  have HA := Lib.hid hA; clear hA
  go_enter Try.func39, Try.ntmps39
  go_wp2
  go_loopw [1, 5] (fun v i wr => ∃ (j : Nat), j ≤ n ∧ v = .int .i64 (k + (j : Int)) ∧ i = .int .i64 j ∧ Below w.heap.size w wr)
    (fun _ i _ => n - (intOf i).toNat)
  case atStart => exact ⟨0, Nat.zero_le _, by rw [Int.natCast_zero, Int.add_zero], rfl, Below.refl _ _⟩
  case round =>
    obtain ⟨j, hj, rfl, rfl, hbel⟩ := hrel
    by_cases hlt : j < n
    · obtain ⟨ba, oa, rfl, ha1, ha2⟩ := HA.out.at j (by rw [markL_len]; exact hlt)
      have c1 := ha2 j (by rw [markL_len]; exact hlt)
      rw [markL_at k n j hlt, ← hbel.cell (p := ⟨ba, oa + j, none⟩) ha1] at c1
      clear ha2
      have hq : (k + (j : Int) != k + (j : Int)) = false := by simp
      go_wp2
      go_roundw
      case rel =>
        refine ⟨j + 1, by omega, ?_, by go_num, hbel⟩
        congr 1
        omega
      case measure => simp [intOf]; omega
    · obtain rfl : j = n := by omega
      go_wp2
      go_ret
      exact ⟨rfl, hbel⟩

set_option maxRecDepth 100000 in
set_option maxHeartbeats 1000000 in
/-- A copy. -/
theorem toints_any (A : Option Addr) (ca : Nat) (l : List Int) (hl : l.length ≤ 1048576) (w : World) (hA : Ints w w.heap.size A l) :
    Calls Try.prog 40 #[.slice A l.length ca] w fun e w' => ∃ A' cap', e = .returned (.slice A' l.length cap') ∧ OwnI w' w.heap.size A' cap' l ∧ Below w.heap.size w w' := by
  obtain ⟨n, hn⟩ : ∃ n, n = l.length := ⟨_, rfl⟩
  have hOI : ∀ w' A' cap', OwnI w' w.heap.size A' cap' l ↔ w'.ownsRow w.heap.size 3 1 (.slice A' n cap') n (ivs l) := fun w' A' cap' => by unfold OwnI; rw [hn]
  simp only [hOI]
  clear hOI
  rw [← hn] at hl ⊢
  have HN := Lib.hid hn; clear hn
  have HA := Lib.hid hA; clear hA
  have hmk := make_ints n (n : Int) rfl (by omega)
  go_enter Try.func40, Try.ntmps40
  go_wp2
  clear hmk
  go_loopw [4] (fun i wr => ∃ (j : Nat) (p : List Int), j ≤ n ∧ p.length = n ∧ (∀ t, t < j → p.getD t 0 = l.getD t 0) ∧ i = .int .i64 j ∧ wr.ownsRow w.heap.size 3 1 (.slice (some ⟨w.heap.size, 0, none⟩) n n) n (ivs p) ∧ Below w.heap.size w wr)
    (fun i _ => n - (intOf i).toNat)
  case atStart =>
    refine ⟨0, List.replicate n 0, Nat.zero_le _, by simp, fun t ht => absurd ht (by omega), rfl, ?_, (Below.refl _ _).alloc (Nat.le_refl _) _⟩
    have := own_ints w w.heap.size (List.replicate n 0) (Nat.le_refl _) (by simp [maxLen]; omega)
    unfold OwnI at this
    simpa using this
  case round =>
    obtain ⟨j, p, hj, hp, hpre, rfl, hown, hbel⟩ := hrel
    have HE := Lib.hid hpre; clear hpre
    have HP := Lib.hid hp; clear hp
    by_cases hlt : j < n
    · obtain ⟨ba, oa, rfl, ha1, ha2⟩ := HA.out.at j (by rw [← HN.out]; exact hlt)
      have c1 := ha2 j (by rw [← HN.out]; exact hlt)
      rw [← hbel.cell (p := ⟨ba, oa + j, none⟩) ha1] at c1
      clear ha2
      obtain ⟨b0, hc⟩ : ∃ b0 : Int, wr.cell? ⟨w.heap.size, j, none⟩ = some (.int .i64 b0) := ⟨_, (hown.cellAt j (by omega)).trans (ivs_at p j (by rw [HP.out]; omega))⟩
      have hz := hown.frozenAt j
      obtain ⟨x, hx⟩ : ∃ x, x = l.getD j 0 := ⟨_, rfl⟩
      rw [← hx] at c1
      have HX := Lib.hid hx; clear hx
      go_wp2
      go_roundw
      case rel =>
        have s1 := hown.stored j (.int .i64 x)
        rw [ivs_set] at s1
        refine ⟨j + 1, p.set j x, by omega, by simpa using HP.out, ?_, by go_num, s1.1, hbel.setCell (Nat.le_refl _) _⟩
        intro t ht
        by_cases htj : t = j
        · subst htj
          rw [List.getD_eq_getElem?_getD, List.getElem?_set_self (by rw [HP.out]; omega)]
          exact HX.out
        · rw [List.getD_eq_getElem?_getD, List.getElem?_set_ne (fun e => htj e.symm), ← List.getD_eq_getElem?_getD]
          exact HE.out t (by omega)
      case measure => simp [intOf]; omega
    · obtain rfl : j = n := by omega
      go_wp2
      go_ret
      have e : p = l := List.ext_getElem (by rw [HP.out, HN.out]) fun t h1 h2 => by
        have := HE.out t (by have := HP.out; omega)
        rw [List.getD_eq_getElem?_getD, List.getD_eq_getElem?_getD, List.getElem?_eq_getElem h1, List.getElem?_eq_getElem h2] at this
        exact this
      rw [e] at hown
      exact ⟨_, _, rfl, hown, hbel⟩

theorem OwnI.cap_le {w : World} {base : Nat} {A : Option Addr} {cap : Nat} {l : List Int} (h : OwnI w base A cap l) : l.length ≤ cap := by
  rcases h.2 with ⟨h1, h2⟩ | ⟨g, cap', cur, h1, _, _, h4, _⟩
  · omega
  · simp only [Value.slice.injEq] at h1
    omega
/-- Steps joined. -/
theorem below_up {B : Nat} {a b c : World} (h : Below B a b) (k : Below b.heap.size b c) (hB : B ≤ b.heap.size) : Below B a c := h.trans (k.mono hB)
/-- Marking one's own row leaves what lies before the row. -/
theorem OwnI.marked {w w' : World} {base : Nat} {A : Option Addr} {cap : Nat} {l : List Int} (h : OwnI w base A cap l) (hg : w.grownBy w' (Value.slice A l.length cap).ownBlock) {B : Nat} (hB : B ≤ base) (hw : B ≤ w.heap.size) : Below B w w' := by
  have hl := World.ownsRow.lt h
  exact (Below.refl B w).grown hg hw fun k hk => by have := hl k hk; omega

/-- A slice of integers that came in, as a view. -/
theorem ints_of {w : World} {a : Option Addr} {len cap : Nat} {zs : List Int} (h : IsRow .i64 w a len cap zs) (hb : len ≤ 1048576) : ∃ ys : List Int, ys.length = len ∧ Ints w w.heap.size a ys ∧ (∀ y ∈ ys, (Lit.int .i64 y).wf = true) ∧ len ≤ cap := by
  rcases h with ⟨rfl, rfl, rfl, rfl⟩ | ⟨x, rfl, hl, hm, hz, hcell, hwf⟩
  · exact ⟨[], rfl, ⟨by simp, .inl rfl⟩, by simp, Nat.le_refl _⟩
  · have hlen : (zs.take len).length = len := by rw [List.length_take]; omega
    have hg : ∀ j, j < len → (zs.take len).getD j 0 = zs.getD j 0 := fun j hj => by
      rw [List.getD_eq_getElem?_getD, List.getElem?_take, if_pos hj, ← List.getD_eq_getElem?_getD]
    refine ⟨zs.take len, hlen, ⟨by omega, ?_⟩, fun y hy => hwf y (List.mem_of_mem_take hy), hl⟩
    by_cases h0 : len = 0
    · exact .inl (List.eq_nil_of_length_eq_zero (by omega))
    · right
      obtain ⟨b, off, spot⟩ := x
      have hc := hcell 0 (by omega)
      have hspot : spot = none := by simpa [Addr.add] using World.cell?_spot hc
      subst hspot
      refine ⟨b, off, rfl, World.block_lt_of_cell? w _ hc, fun j hj => ?_⟩
      rw [hlen] at hj
      rw [hg j hj]
      have := hcell j (by omega)
      by_cases hj0 : j = 0
      · subst hj0; simpa [Addr.add] using this
      · simpa [Addr.add, hj0] using this
end Go.Proofs.Ytemfiglflbfocaa

namespace Go.Proofs.Ytemfiglflbfocaa
open Go.RowKit
set_option linter.unusedVariables false

/-- The varint of `n`, with at most `f + 1` bytes. -/
def lebL : Nat → Nat → List UInt8
  | 0, n => [UInt8.ofNat n]
  | f + 1, n => if n < 128 then [UInt8.ofNat n] else UInt8.ofNat (128 + n % 128) :: lebL f (n / 128)
/-- What Var gives for a number in range. -/
def varL (n : Nat) : List UInt8 := lebL 6 n
def varS (n : Int) : ByteArray := if 0 ≤ n ∧ n ≤ 562949953421311 then bs (varL n.toNat) else bs []

theorem lebL_small (f n : Nat) (h : n < 128) : lebL f n = [UInt8.ofNat n] := by
  cases f with
  | zero => rfl
  | succ f => rw [lebL, if_pos h]

set_option maxHeartbeats 400000 in
theorem l1in_t (a b c : Int) (h1 : b ≤ a) (h2 : a ≤ c) (w : World) :
    Calls Try.prog 63 #[.int .i64 a, .int .i64 b, .int .i64 c] w fun e w' => e = .returned (.bool true) ∧ w = w' := by
  have h3 : decide (a ≤ c) = true := by simpa using h2
  go_enter Try.func63, Try.ntmps63
  go_wp2
  go_ret
  exact ⟨rfl, rfl⟩
set_option maxHeartbeats 400000 in
theorem l1in_f (a b c : Int) (h : a < b ∨ c < a) (w : World) :
    Calls Try.prog 63 #[.int .i64 a, .int .i64 b, .int .i64 c] w fun e w' => e = .returned (.bool false) ∧ w = w' := by
  by_cases h1 : a < b
  · go_enter Try.func63, Try.ntmps63
    go_wp2
    go_ret
    exact ⟨rfl, rfl⟩
  · have h2 : decide (a ≤ c) = false := by simp; omega
    go_enter Try.func63, Try.ntmps63
    go_wp2
    go_ret
    exact ⟨rfl, rfl⟩

theorem Try.vinfoU8 : (Try.prog.info? 5).map (fun i => (i.zero, i.size, i.bytes)) = some (some (.int .u8 0), 1, 1) := by kernel_rfl

end Go.Proofs.Ytemfiglflbfocaa

namespace Go.Proofs.Ytemfiglflbfocaa
open Go.RowKit
set_option linter.unusedVariables false

/-- Bit `i`, the highest of each byte first. -/
def bitN (s : ByteArray) (i : Nat) : Nat := byteAt s (i / 8) / 2 ^ (7 - i % 8) % 2
theorem bitN_lt (s : ByteArray) (i : Nat) : bitN s i < 2 := Nat.mod_lt _ (by decide)
/-- What BitAt gives. -/
def bitV (s : ByteArray) (i : Int) : Int := if 0 ≤ i ∧ i < 8 * (s.size : Int) then (bitN s i.toNat : Int) else -1

theorem div_cast (b k : Nat) (hb : b < 256) : ∃ d : Nat, (b : Int) / 2 ^ k = (d : Int) ∧ d = b / 2 ^ k ∧ d < 256 :=
  ⟨b / 2 ^ k, by norm_cast, rfl, Nat.lt_of_le_of_lt (Nat.div_le_self _ _) hb⟩
theorem bit_and (b k : Nat) (hb : b < 256) : bits .and .i64 ((b : Int) / 2 ^ k) 1 = ((b / 2 ^ k % 2 : Nat) : Int) := by
  obtain ⟨d, h1, h2, h3⟩ := div_cast b k hb
  rw [h1, ← h2, and_i64 1 _ 1 (by decide) (by decide) (by omega) (by omega)]
  omega
theorem bit_wrap (b k : Nat) (hb : b < 256) : wrap64 ((b : Int) / 2 ^ k) = (b : Int) / 2 ^ k := by
  obtain ⟨d, h1, h2, h3⟩ := div_cast b k hb
  rw [h1]
  unfold wrap64
  omega

end Go.Proofs.Ytemfiglflbfocaa
