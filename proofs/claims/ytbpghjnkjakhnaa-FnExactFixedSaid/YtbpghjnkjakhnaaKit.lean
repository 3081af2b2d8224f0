/-
  Plain helpers: bytes and strings as lists, rows of bytes that a call owns, and what the conversions between them give. No condition but those that each lemma states.
-/
import Derived.WalkKit
import Derived.WalkSpells
import Derived.WalkLawsBesides
import Derived.Lib.Hide
import Derived.Laws.IdiomStrings
import Derived.Laws.OwnMore
namespace Go.Proofs.Ytbpghjnkjakhnaa
open Go.RowKit

/-- A string of these bytes. -/
def bs (l : List UInt8) : ByteArray := ⟨l.toArray⟩
theorem bs_size (l : List UInt8) : (bs l).size = l.length := rfl
theorem bs_append (a b : List UInt8) : bs a ++ bs b = bs (a ++ b) := by
  apply ByteArray.ext; simp [bs, ByteArray.data_append]
theorem bs_cons (x : UInt8) (b : List UInt8) : bs [x] ++ bs b = bs (x :: b) := bs_append _ _
theorem bs_nil : bs [] = ⟨#[]⟩ := rfl
theorem bs_inj {a b : List UInt8} (h : bs a = bs b) : a = b := by
  have : (bs a).data.toList = (bs b).data.toList := by rw [h]
  simpa [bs] using this
theorem bs_eta (s : ByteArray) : bs s.data.toList = s := by
  apply ByteArray.ext; simp [bs]

/-- A byte as a cell; a list of bytes as cells. -/
def bv (b : UInt8) : Value := .int .u8 (b.toNat : Int)
def bvs (l : List UInt8) : List Value := l.map bv
theorem bvs_len (l : List UInt8) : (bvs l).length = l.length := by simp [bvs]
theorem bvs_append (a b : List UInt8) : bvs (a ++ b) = bvs a ++ bvs b := by simp [bvs]
theorem bvs_at (l : List UInt8) (j : Nat) (h : j < l.length) : (bvs l)[j]? = some (bv l[j]) := by simp [bvs, h]
theorem bvs_set (l : List UInt8) (j : Nat) (b : UInt8) : (bvs l).set j (bv b) = bvs (l.set j b) := by simp [bvs, List.map_set]
theorem bvs_one (l : List UInt8) : ∀ u ∈ bvs l, u.oneCell' = true := by
  intro u hu
  simp only [bvs, List.mem_map] at hu
  obtain ⟨b, _, rfl⟩ := hu
  rfl

/-- The cell of the byte `x`, a number from 0 to 255. -/
theorem bv_ofNat (x : Int) (h0 : 0 ≤ x) (h1 : x < 256) : bv (UInt8.ofNat x.toNat) = .int .u8 x := by
  unfold bv
  congr 1
  simp
  omega

/-- `string(b)` over a row of bytes that the call owns. -/
theorem conv_own {P : Program} {T E S : TypeId} (hs : P.underlying T = some (.slice E)) (he : P.underlying E = some (.int .u8)) (hd : P.underlying S = some .string)
    {w : World} {base : Nat} {v : Value} {n : Nat} {l : List UInt8} (h : w.ownsRow base E 1 v n (bvs l)) :
    (convert T S v).run P w = .ok (.string (bs l)) w := by
  have hl : l.length = n := by have := h.1; rw [bvs_len] at this; omega
  rcases h.2 with ⟨rfl, rfl⟩ | ⟨g, cap, cur, rfl, _, _, _, _, _, _⟩
  · obtain rfl : l = [] := List.eq_nil_of_length_eq_zero hl
    simp [convert, run_underlying hs, run_underlying hd, run_underlying he, Conv.bytesToString]
    rfl
  · subst hl
    refine run_convert_bytes_back w T S E ⟨g, 0, none⟩ cap l hs he hd fun j hj => ?_
    have hc := h.cellAt j (by omega)
    rw [bvs_at l j hj] at hc
    have e : (⟨g, 0, none⟩ : Addr).add j = ⟨g, j, none⟩ := by unfold Addr.add; split <;> simp_all
    rw [e, hc]
    rfl

/-- `string([]byte{x})`: the literal's block is the last one. -/
theorem conv_byte {P : Program} {T E S : TypeId} (hs : P.underlying T = some (.slice E)) (he : P.underlying E = some (.int .u8)) (hd : P.underlying S = some .string)
    (w : World) (x : Int) (h0 : 0 ≤ x) (h1 : x < 256) :
    (convert T S (.slice (some ⟨w.heap.size, 0, none⟩) 1 1)).run P (w.alloc (.cells #[.int .u8 x] E)) = .ok (.string (bs [UInt8.ofNat x.toNat])) (w.alloc (.cells #[.int .u8 x] E)) := by
  refine run_convert_bytes_back (P := P) (w.alloc (.cells #[.int .u8 x] E)) T S E ⟨w.heap.size, 0, none⟩ 1 [UInt8.ofNat x.toNat] hs he hd (fun j hj => ?_)
  have : j = 0 := by simpa using hj
  subst this
  have hx : ((UInt8.ofNat x.toNat).toNat : Int) = x := by
    simp; omega
  show _ = some (Value.int .u8 ((UInt8.ofNat x.toNat).toNat : Int))
  rw [hx]
  simp [Addr.add, World.cell?_alloc_mark]

/-- `make([]byte, n)`: the row of zeros. -/
theorem make_bytes {P : Program} {T E : TypeId} {i : TypeInfo} (hs : P.underlying T = some (.slice E)) (hi : P.info? E = some i) (hz : i.zero = some (.int .u8 0)) (h1 : i.size = 1) (hb : i.bytes = 1)
    (n : Nat) (hn : n ≤ 281474976710656) (w : World) :
    (Instr.makeSlice T (.int .i64 (n : Int)) (.int .i64 (n : Int))).run P w =
      .ok (.slice (some ⟨w.heap.size, 0, none⟩) n n) (w.alloc (.cells (bvs (List.replicate n 0)).toArray E)) := by
  have h := run_make (P := P) w T E i (.int .u8 0) hs hi hz .i64 .i64 (n : Int) (n : Int) (by omega) (by omega) (by rw [hb]; omega) (by omega)
  rw [h]
  have hc : madeCells (Value.int .u8 0).cells ((n : Int).toNat * i.size) = (bvs (List.replicate n 0)).toArray := by
    rw [h1, Int.toNat_natCast, Nat.mul_one]
    have := toList_madeCells_one (.int .u8 0) n
    show madeCells #[Value.int .u8 0] n = _
    apply Array.ext'
    rw [this]
    simp [bvs, bv]
  rw [hc]
  simp

/-- A slice literal that is the last block is owned. -/
theorem own_lit {E : TypeId} (w : World) (base : Nat) (l : List UInt8) (hb : base ≤ w.heap.size) (hm : l.length ≤ maxLen) :
    (w.alloc (.cells (bvs l).toArray E)).ownsRow base E 1 (.slice (some ⟨w.heap.size, 0, none⟩) l.length l.length) l.length (bvs l) := by
  have h := World.ownsRow_lit (base := base) (e := E) (size := 1) w (bvs l).toArray l.length hb hm (by simp [bvs])
  simpa using h
end Go.Proofs.Ytbpghjnkjakhnaa
