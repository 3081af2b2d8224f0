/-
  The walk of the law on numbers, the number out of the varint's range. Condition: the library's table and its two errors read as Go lays them (the card ties them).
-/
import Derived.Test.YtbpghjnkjakhnaaDoorDraw5
import Derived.Test.YtbpghjnkjakhnaaDoorRdVar
import Derived.Test.YtbpghjnkjakhnaaDoorRdDecI
import Derived.Test.YtbpghjnkjakhnaaDoorNumbersA
namespace Go.Proofs.YtbpghjnkjakhnaaDoor
open Go.RowKit
set_option linter.unusedVariables false

set_option maxRecDepth 100000 in
set_option maxHeartbeats 800000 in
theorem numbers_Cgzero (a : Option Addr) (cap : Nat) (ys : List Int) (w : World) (hw : Code w a ys) (hl : LibVars w) (N : Nat) (hN : N = ys.length) (n : Int) (S B T D HX R : ByteArray) (z : Int) (j : Nat) (x k y : Int) (yes : Bool) (d : Int)
    (hbig : decide (1048576 < (N : Int)) = false)
    (BIG : Hid (∀ w, Calls Tryd.prog 6 #[.slice a N cap] w fun e w' => e = .returned (.bool (decide (1048576 < (N : Int)))) ∧ w = w'))
    (CV : Hid (∀ w, Code w a ys → Calls Tryd.prog 7 #[.slice a N cap] w fun e w' => e = .returned (.int .i64 n) ∧ Below w.heap.size w w'))
    (CH : Hid (∀ w, Code w a ys → Calls Tryd.prog 8 #[.slice a N cap] w fun e w' => e = .returned (.string B) ∧ Below w.heap.size w w'))
    (CR : Hid (∀ w, Code w a ys → Calls Tryd.prog 17 #[.slice a N cap] w fun e w' => e = .returned (.string R) ∧ Below w.heap.size w w'))
    (V : Hid (∀ w, Calls Tryd.prog 9 #[.int .i64 n] w fun e w' => e = .returned (.string S) ∧ Below w.heap.size w w'))
    (RV : Hid (∀ w, Calls Tryd.prog 10 #[.string (S ++ B)] w fun e w' => e = .returned (.tuple #[.int .i64 x, .int .i64 k]) ∧ Below w.heap.size w w'))
    (F : Hid (∀ w, Calls Tryd.prog 11 #[.int .i64 n, .int .i64 7] w fun e w' => e = .returned (.string T) ∧ Below w.heap.size w w'))
    (RF : Hid (∀ w, Calls Tryd.prog 12 #[.string (T ++ B), .int .i64 7] w fun e w' => e = .returned (.tuple #[.int .i64 y, .bool yes]) ∧ w = w'))
    (DC : Hid (∀ w, LibVars w → Calls Tryd.prog 14 #[.int .i64 n] w fun e w' => e = .returned (.string D) ∧ Below w.heap.size w w'))
    (RD : Hid (∀ w, LibVars w → Calls Tryd.prog 13 #[.string D] w fun e w' => e = .returned (.tuple #[.int .i64 d, .bool false]) ∧ Below w.heap.size w w'))
    (HE : Hid (∀ w, Calls Tryd.prog 16 #[.string B] w fun e w' => e = .returned (.string HX) ∧ Below w.heap.size w w'))
    (UH : Hid (∀ w, Calls Tryd.prog 15 #[.string HX] w fun e w' => e = .returned (.tuple #[.string B, .bool true]) ∧ Below w.heap.size w w'))
    (RZ : Hid (∀ w, Calls Tryd.prog 10 #[.string R] w fun e w' => e = .returned (.tuple #[.int .i64 z, .int .i64 (j : Int)]) ∧ Below w.heap.size w w'))
    (hsS : S.size ≤ 7) (hsB : B.size ≤ 40) (hsT : T.size ≤ 7) (hsR : R.size ≤ 14)
    (hn0 : 72057594037927936 ≤ n) (s1 : S.toList.isEmpty = true) (s2 : (S.toList == ({ data := #[] } : ByteArray).toList) = true) (s3 : (S.toList == []) = true) (s4 : S.toList = []) (t1 : T.toList.isEmpty = true) (t2 : (T.toList == ({ data := #[] } : ByteArray).toList) = true) (t3 : (T.toList == []) = true) (t4 : T.toList = [])
    (hr : 1000000000 ≤ n) (hj : j = 0) :
    Calls Tryd.prog 3 #[.slice a N cap] w fun e w' => e = .returned (.bool true) ∧ Below w.heap.size w w' := by

    have HW := Lib.hid hw; clear hw
    have HL := Lib.hid hl; clear hl
    clear hN
    go_enter Tryd.func3, Tryd.ntmps3
    go_wp2_with fail
    refine (BIG.out _).mono ?_
    rintro e w1 ⟨rfl, rfl⟩
    go_wp2_with fail
    refine (CV.out _ HW.out).mono ?_
    rintro e w1 ⟨rfl, b1⟩
    go_wp2_with fail
    refine (CH.out _ (HW.out.below b1)).mono ?_
    rintro e w2 ⟨rfl, hb2⟩
    have b2 := below_step b1 hb2
    clear b1 hb2
    go_wp2_with fail
    refine (V.out _).mono ?_
    rintro e w3 ⟨rfl, hb3⟩
    have b3 := below_step b2 hb3
    clear b2 hb3
    go_wp2_with fail
    refine (RV.out _).mono ?_
    rintro e w4 ⟨rfl, hb4⟩
    have b4 := below_step b3 hb4
    clear b3 hb4
    go_wp2_with fail
    refine (F.out _).mono ?_
    rintro e w5 ⟨rfl, hb5⟩
    have b5 := below_step b4 hb5
    clear b4 hb5
    go_wp2_with fail
    refine (RF.out _).mono ?_
    rintro e v1 ⟨rfl, rfl⟩
    go_wp2_with fail
    refine (DC.out _ (HL.out.below b5)).mono ?_
    rintro e w6 ⟨rfl, hb6⟩
    have b6 := below_step b5 hb6
    clear b5 hb6
    go_wp2_with fail
    refine (RD.out _ (HL.out.below b6)).mono ?_
    rintro e w7 ⟨rfl, hb7⟩
    have b7 := below_step b6 hb7
    clear b6 hb7
    go_wp2_with fail
    refine (HE.out _).mono ?_
    rintro e w8 ⟨rfl, hb8⟩
    have b8 := below_step b7 hb8
    clear b7 hb8
    go_wp2_with fail
    refine (UH.out _).mono ?_
    rintro e w9 ⟨rfl, hb9⟩
    have b9 := below_step b8 hb9
    clear b8 hb9
    go_wp2_with fail
    refine (CR.out _ (HW.out.below b9)).mono ?_
    rintro e w10 ⟨rfl, hb10⟩
    have b10 := below_step b9 hb10
    clear b9 hb10
    go_wp2_with fail
    refine (RZ.out _).mono ?_
    rintro e w11 ⟨rfl, hb11⟩
    have b11 := below_step b10 hb11
    clear b10 hb11
    go_wp2_with fail
    go_ret
    exact ⟨rfl, b11⟩

set_option maxRecDepth 100000 in
set_option maxHeartbeats 800000 in
theorem numbers_Cghit (a : Option Addr) (cap : Nat) (ys : List Int) (w : World) (hw : Code w a ys) (hl : LibVars w) (N : Nat) (hN : N = ys.length) (n : Int) (S B T D HX R : ByteArray) (z : Int) (j : Nat) (x k y : Int) (yes : Bool) (d : Int)
    (hbig : decide (1048576 < (N : Int)) = false)
    (BIG : Hid (∀ w, Calls Tryd.prog 6 #[.slice a N cap] w fun e w' => e = .returned (.bool (decide (1048576 < (N : Int)))) ∧ w = w'))
    (CV : Hid (∀ w, Code w a ys → Calls Tryd.prog 7 #[.slice a N cap] w fun e w' => e = .returned (.int .i64 n) ∧ Below w.heap.size w w'))
    (CH : Hid (∀ w, Code w a ys → Calls Tryd.prog 8 #[.slice a N cap] w fun e w' => e = .returned (.string B) ∧ Below w.heap.size w w'))
    (CR : Hid (∀ w, Code w a ys → Calls Tryd.prog 17 #[.slice a N cap] w fun e w' => e = .returned (.string R) ∧ Below w.heap.size w w'))
    (V : Hid (∀ w, Calls Tryd.prog 9 #[.int .i64 n] w fun e w' => e = .returned (.string S) ∧ Below w.heap.size w w'))
    (RV : Hid (∀ w, Calls Tryd.prog 10 #[.string (S ++ B)] w fun e w' => e = .returned (.tuple #[.int .i64 x, .int .i64 k]) ∧ Below w.heap.size w w'))
    (F : Hid (∀ w, Calls Tryd.prog 11 #[.int .i64 n, .int .i64 7] w fun e w' => e = .returned (.string T) ∧ Below w.heap.size w w'))
    (RF : Hid (∀ w, Calls Tryd.prog 12 #[.string (T ++ B), .int .i64 7] w fun e w' => e = .returned (.tuple #[.int .i64 y, .bool yes]) ∧ w = w'))
    (DC : Hid (∀ w, LibVars w → Calls Tryd.prog 14 #[.int .i64 n] w fun e w' => e = .returned (.string D) ∧ Below w.heap.size w w'))
    (RD : Hid (∀ w, LibVars w → Calls Tryd.prog 13 #[.string D] w fun e w' => e = .returned (.tuple #[.int .i64 d, .bool false]) ∧ Below w.heap.size w w'))
    (HE : Hid (∀ w, Calls Tryd.prog 16 #[.string B] w fun e w' => e = .returned (.string HX) ∧ Below w.heap.size w w'))
    (UH : Hid (∀ w, Calls Tryd.prog 15 #[.string HX] w fun e w' => e = .returned (.tuple #[.string B, .bool true]) ∧ Below w.heap.size w w'))
    (RZ : Hid (∀ w, Calls Tryd.prog 10 #[.string R] w fun e w' => e = .returned (.tuple #[.int .i64 z, .int .i64 (j : Int)]) ∧ Below w.heap.size w w'))
    (VZ : Hid (∀ w, Calls Tryd.prog 9 #[.int .i64 z] w fun e w' => e = .returned (.string (bs (R.data.toList.take j))) ∧ Below w.heap.size w w'))
    (hsS : S.size ≤ 7) (hsB : B.size ≤ 40) (hsT : T.size ≤ 7) (hsR : R.size ≤ 14)
    (hn0 : 72057594037927936 ≤ n) (s1 : S.toList.isEmpty = true) (s2 : (S.toList == ({ data := #[] } : ByteArray).toList) = true) (s3 : (S.toList == []) = true) (s4 : S.toList = []) (t1 : T.toList.isEmpty = true) (t2 : (T.toList == ({ data := #[] } : ByteArray).toList) = true) (t3 : (T.toList == []) = true) (t4 : T.toList = [])
    (hr : 1000000000 ≤ n) (hj : 0 < j) (hjs : j ≤ R.size) :
    Calls Tryd.prog 3 #[.slice a N cap] w fun e w' => e = .returned (.bool true) ∧ Below w.heap.size w w' := by

    have HW := Lib.hid hw; clear hw
    have HL := Lib.hid hl; clear hl
    clear hN
    go_enter Tryd.func3, Tryd.ntmps3
    go_wp2_with fail
    refine (BIG.out _).mono ?_
    rintro e w1 ⟨rfl, rfl⟩
    go_wp2_with fail
    refine (CV.out _ HW.out).mono ?_
    rintro e w1 ⟨rfl, b1⟩
    go_wp2_with fail
    refine (CH.out _ (HW.out.below b1)).mono ?_
    rintro e w2 ⟨rfl, hb2⟩
    have b2 := below_step b1 hb2
    clear b1 hb2
    go_wp2_with fail
    refine (V.out _).mono ?_
    rintro e w3 ⟨rfl, hb3⟩
    have b3 := below_step b2 hb3
    clear b2 hb3
    go_wp2_with fail
    refine (RV.out _).mono ?_
    rintro e w4 ⟨rfl, hb4⟩
    have b4 := below_step b3 hb4
    clear b3 hb4
    go_wp2_with fail
    refine (F.out _).mono ?_
    rintro e w5 ⟨rfl, hb5⟩
    have b5 := below_step b4 hb5
    clear b4 hb5
    go_wp2_with fail
    refine (RF.out _).mono ?_
    rintro e v1 ⟨rfl, rfl⟩
    go_wp2_with fail
    refine (DC.out _ (HL.out.below b5)).mono ?_
    rintro e w6 ⟨rfl, hb6⟩
    have b6 := below_step b5 hb6
    clear b5 hb6
    go_wp2_with fail
    refine (RD.out _ (HL.out.below b6)).mono ?_
    rintro e w7 ⟨rfl, hb7⟩
    have b7 := below_step b6 hb7
    clear b6 hb7
    go_wp2_with fail
    refine (HE.out _).mono ?_
    rintro e w8 ⟨rfl, hb8⟩
    have b8 := below_step b7 hb8
    clear b7 hb8
    go_wp2_with fail
    refine (UH.out _).mono ?_
    rintro e w9 ⟨rfl, hb9⟩
    have b9 := below_step b8 hb9
    clear b8 hb9
    go_wp2_with fail
    refine (CR.out _ (HW.out.below b9)).mono ?_
    rintro e w10 ⟨rfl, hb10⟩
    have b10 := below_step b9 hb10
    clear b9 hb10
    go_wp2_with fail
    refine (RZ.out _).mono ?_
    rintro e w11 ⟨rfl, hb11⟩
    have b11 := below_step b10 hb11
    clear b10 hb11
    go_wp2_with fail
    refine (CR.out _ (HW.out.below b11)).mono ?_
    rintro e w12 ⟨rfl, hb12⟩
    have b12 := below_step b11 hb12
    clear b11 hb12
    go_wp2_with fail
    refine (CR.out _ (HW.out.below b12)).mono ?_
    rintro e w13 ⟨rfl, hb13⟩
    have b13 := below_step b12 hb13
    clear b12 hb13
    go_wp2_with fail
    refine (VZ.out _).mono ?_
    rintro e w14 ⟨rfl, hb14⟩
    have b14 := below_step b13 hb14
    clear b13 hb14
    go_wp2_with fail
    refine (CR.out _ (HW.out.below b14)).mono ?_
    rintro e w15 ⟨rfl, hb15⟩
    have b15 := below_step b14 hb15
    clear b14 hb15
    go_wp2_with fail
    go_ret
    refine ⟨?_, b15⟩
    show Ending.returned (.bool ((j : Int) == 0 || (bs (R.data.toList.take j)).toList == (R.extract 0 j).toList)) = _
    rw [cut_eq, beq_self_eq_true, Bool.or_true]

set_option maxRecDepth 100000 in
set_option maxHeartbeats 800000 in
theorem numbers_Dtzero (a : Option Addr) (cap : Nat) (ys : List Int) (w : World) (hw : Code w a ys) (hl : LibVars w) (N : Nat) (hN : N = ys.length) (n : Int) (S B T D HX R : ByteArray) (z : Int) (j : Nat) (x k y : Int) (yes : Bool)
    (hbig : decide (1048576 < (N : Int)) = false)
    (BIG : Hid (∀ w, Calls Tryd.prog 6 #[.slice a N cap] w fun e w' => e = .returned (.bool (decide (1048576 < (N : Int)))) ∧ w = w'))
    (CV : Hid (∀ w, Code w a ys → Calls Tryd.prog 7 #[.slice a N cap] w fun e w' => e = .returned (.int .i64 n) ∧ Below w.heap.size w w'))
    (CH : Hid (∀ w, Code w a ys → Calls Tryd.prog 8 #[.slice a N cap] w fun e w' => e = .returned (.string B) ∧ Below w.heap.size w w'))
    (CR : Hid (∀ w, Code w a ys → Calls Tryd.prog 17 #[.slice a N cap] w fun e w' => e = .returned (.string R) ∧ Below w.heap.size w w'))
    (V : Hid (∀ w, Calls Tryd.prog 9 #[.int .i64 n] w fun e w' => e = .returned (.string S) ∧ Below w.heap.size w w'))
    (RV : Hid (∀ w, Calls Tryd.prog 10 #[.string (S ++ B)] w fun e w' => e = .returned (.tuple #[.int .i64 x, .int .i64 k]) ∧ Below w.heap.size w w'))
    (F : Hid (∀ w, Calls Tryd.prog 11 #[.int .i64 n, .int .i64 7] w fun e w' => e = .returned (.string T) ∧ Below w.heap.size w w'))
    (RF : Hid (∀ w, Calls Tryd.prog 12 #[.string (T ++ B), .int .i64 7] w fun e w' => e = .returned (.tuple #[.int .i64 y, .bool yes]) ∧ w = w'))
    (DC : Hid (∀ w, LibVars w → Calls Tryd.prog 14 #[.int .i64 n] w fun e w' => e = .returned (.string D) ∧ Below w.heap.size w w'))
    (RD : Hid (∀ w, LibVars w → Calls Tryd.prog 13 #[.string D] w fun e w' => e = .returned (.tuple #[.int .i64 n, .bool true]) ∧ Below w.heap.size w w'))
    (HE : Hid (∀ w, Calls Tryd.prog 16 #[.string B] w fun e w' => e = .returned (.string HX) ∧ Below w.heap.size w w'))
    (UH : Hid (∀ w, Calls Tryd.prog 15 #[.string HX] w fun e w' => e = .returned (.tuple #[.string B, .bool true]) ∧ Below w.heap.size w w'))
    (RZ : Hid (∀ w, Calls Tryd.prog 10 #[.string R] w fun e w' => e = .returned (.tuple #[.int .i64 z, .int .i64 (j : Int)]) ∧ Below w.heap.size w w'))
    (hsS : S.size ≤ 7) (hsB : B.size ≤ 40) (hsT : T.size ≤ 7) (hsR : R.size ≤ 14)
    (hn0 : n < 0) (s1 : S.toList.isEmpty = true) (s2 : (S.toList == ({ data := #[] } : ByteArray).toList) = true) (s3 : (S.toList == []) = true) (s4 : S.toList = []) (t1 : T.toList.isEmpty = true) (t2 : (T.toList == ({ data := #[] } : ByteArray).toList) = true) (t3 : (T.toList == []) = true) (t4 : T.toList = [])
    (hr0 : -1000000000 < n) (hr1 : n < 1000000000) (hj : j = 0) :
    Calls Tryd.prog 3 #[.slice a N cap] w fun e w' => e = .returned (.bool true) ∧ Below w.heap.size w w' := by

    have HW := Lib.hid hw; clear hw
    have HL := Lib.hid hl; clear hl
    clear hN
    go_enter Tryd.func3, Tryd.ntmps3
    go_wp2_with fail
    refine (BIG.out _).mono ?_
    rintro e w1 ⟨rfl, rfl⟩
    go_wp2_with fail
    refine (CV.out _ HW.out).mono ?_
    rintro e w1 ⟨rfl, b1⟩
    go_wp2_with fail
    refine (CH.out _ (HW.out.below b1)).mono ?_
    rintro e w2 ⟨rfl, hb2⟩
    have b2 := below_step b1 hb2
    clear b1 hb2
    go_wp2_with fail
    refine (V.out _).mono ?_
    rintro e w3 ⟨rfl, hb3⟩
    have b3 := below_step b2 hb3
    clear b2 hb3
    go_wp2_with fail
    refine (RV.out _).mono ?_
    rintro e w4 ⟨rfl, hb4⟩
    have b4 := below_step b3 hb4
    clear b3 hb4
    go_wp2_with fail
    refine (F.out _).mono ?_
    rintro e w5 ⟨rfl, hb5⟩
    have b5 := below_step b4 hb5
    clear b4 hb5
    go_wp2_with fail
    refine (RF.out _).mono ?_
    rintro e v1 ⟨rfl, rfl⟩
    go_wp2_with fail
    refine (DC.out _ (HL.out.below b5)).mono ?_
    rintro e w6 ⟨rfl, hb6⟩
    have b6 := below_step b5 hb6
    clear b5 hb6
    go_wp2_with fail
    refine (RD.out _ (HL.out.below b6)).mono ?_
    rintro e w7 ⟨rfl, hb7⟩
    have b7 := below_step b6 hb7
    clear b6 hb7
    go_wp2_with fail
    refine (HE.out _).mono ?_
    rintro e w8 ⟨rfl, hb8⟩
    have b8 := below_step b7 hb8
    clear b7 hb8
    go_wp2_with fail
    refine (UH.out _).mono ?_
    rintro e w9 ⟨rfl, hb9⟩
    have b9 := below_step b8 hb9
    clear b8 hb9
    go_wp2_with fail
    refine (CR.out _ (HW.out.below b9)).mono ?_
    rintro e w10 ⟨rfl, hb10⟩
    have b10 := below_step b9 hb10
    clear b9 hb10
    go_wp2_with fail
    refine (RZ.out _).mono ?_
    rintro e w11 ⟨rfl, hb11⟩
    have b11 := below_step b10 hb11
    clear b10 hb11
    go_wp2_with fail
    go_ret
    exact ⟨rfl, b11⟩

set_option maxRecDepth 100000 in
set_option maxHeartbeats 800000 in
theorem numbers_Dthit (a : Option Addr) (cap : Nat) (ys : List Int) (w : World) (hw : Code w a ys) (hl : LibVars w) (N : Nat) (hN : N = ys.length) (n : Int) (S B T D HX R : ByteArray) (z : Int) (j : Nat) (x k y : Int) (yes : Bool)
    (hbig : decide (1048576 < (N : Int)) = false)
    (BIG : Hid (∀ w, Calls Tryd.prog 6 #[.slice a N cap] w fun e w' => e = .returned (.bool (decide (1048576 < (N : Int)))) ∧ w = w'))
    (CV : Hid (∀ w, Code w a ys → Calls Tryd.prog 7 #[.slice a N cap] w fun e w' => e = .returned (.int .i64 n) ∧ Below w.heap.size w w'))
    (CH : Hid (∀ w, Code w a ys → Calls Tryd.prog 8 #[.slice a N cap] w fun e w' => e = .returned (.string B) ∧ Below w.heap.size w w'))
    (CR : Hid (∀ w, Code w a ys → Calls Tryd.prog 17 #[.slice a N cap] w fun e w' => e = .returned (.string R) ∧ Below w.heap.size w w'))
    (V : Hid (∀ w, Calls Tryd.prog 9 #[.int .i64 n] w fun e w' => e = .returned (.string S) ∧ Below w.heap.size w w'))
    (RV : Hid (∀ w, Calls Tryd.prog 10 #[.string (S ++ B)] w fun e w' => e = .returned (.tuple #[.int .i64 x, .int .i64 k]) ∧ Below w.heap.size w w'))
    (F : Hid (∀ w, Calls Tryd.prog 11 #[.int .i64 n, .int .i64 7] w fun e w' => e = .returned (.string T) ∧ Below w.heap.size w w'))
    (RF : Hid (∀ w, Calls Tryd.prog 12 #[.string (T ++ B), .int .i64 7] w fun e w' => e = .returned (.tuple #[.int .i64 y, .bool yes]) ∧ w = w'))
    (DC : Hid (∀ w, LibVars w → Calls Tryd.prog 14 #[.int .i64 n] w fun e w' => e = .returned (.string D) ∧ Below w.heap.size w w'))
    (RD : Hid (∀ w, LibVars w → Calls Tryd.prog 13 #[.string D] w fun e w' => e = .returned (.tuple #[.int .i64 n, .bool true]) ∧ Below w.heap.size w w'))
    (HE : Hid (∀ w, Calls Tryd.prog 16 #[.string B] w fun e w' => e = .returned (.string HX) ∧ Below w.heap.size w w'))
    (UH : Hid (∀ w, Calls Tryd.prog 15 #[.string HX] w fun e w' => e = .returned (.tuple #[.string B, .bool true]) ∧ Below w.heap.size w w'))
    (RZ : Hid (∀ w, Calls Tryd.prog 10 #[.string R] w fun e w' => e = .returned (.tuple #[.int .i64 z, .int .i64 (j : Int)]) ∧ Below w.heap.size w w'))
    (VZ : Hid (∀ w, Calls Tryd.prog 9 #[.int .i64 z] w fun e w' => e = .returned (.string (bs (R.data.toList.take j))) ∧ Below w.heap.size w w'))
    (hsS : S.size ≤ 7) (hsB : B.size ≤ 40) (hsT : T.size ≤ 7) (hsR : R.size ≤ 14)
    (hn0 : n < 0) (s1 : S.toList.isEmpty = true) (s2 : (S.toList == ({ data := #[] } : ByteArray).toList) = true) (s3 : (S.toList == []) = true) (s4 : S.toList = []) (t1 : T.toList.isEmpty = true) (t2 : (T.toList == ({ data := #[] } : ByteArray).toList) = true) (t3 : (T.toList == []) = true) (t4 : T.toList = [])
    (hr0 : -1000000000 < n) (hr1 : n < 1000000000) (hj : 0 < j) (hjs : j ≤ R.size) :
    Calls Tryd.prog 3 #[.slice a N cap] w fun e w' => e = .returned (.bool true) ∧ Below w.heap.size w w' := by

    have HW := Lib.hid hw; clear hw
    have HL := Lib.hid hl; clear hl
    clear hN
    go_enter Tryd.func3, Tryd.ntmps3
    go_wp2_with fail
    refine (BIG.out _).mono ?_
    rintro e w1 ⟨rfl, rfl⟩
    go_wp2_with fail
    refine (CV.out _ HW.out).mono ?_
    rintro e w1 ⟨rfl, b1⟩
    go_wp2_with fail
    refine (CH.out _ (HW.out.below b1)).mono ?_
    rintro e w2 ⟨rfl, hb2⟩
    have b2 := below_step b1 hb2
    clear b1 hb2
    go_wp2_with fail
    refine (V.out _).mono ?_
    rintro e w3 ⟨rfl, hb3⟩
    have b3 := below_step b2 hb3
    clear b2 hb3
    go_wp2_with fail
    refine (RV.out _).mono ?_
    rintro e w4 ⟨rfl, hb4⟩
    have b4 := below_step b3 hb4
    clear b3 hb4
    go_wp2_with fail
    refine (F.out _).mono ?_
    rintro e w5 ⟨rfl, hb5⟩
    have b5 := below_step b4 hb5
    clear b4 hb5
    go_wp2_with fail
    refine (RF.out _).mono ?_
    rintro e v1 ⟨rfl, rfl⟩
    go_wp2_with fail
    refine (DC.out _ (HL.out.below b5)).mono ?_
    rintro e w6 ⟨rfl, hb6⟩
    have b6 := below_step b5 hb6
    clear b5 hb6
    go_wp2_with fail
    refine (RD.out _ (HL.out.below b6)).mono ?_
    rintro e w7 ⟨rfl, hb7⟩
    have b7 := below_step b6 hb7
    clear b6 hb7
    go_wp2_with fail
    refine (HE.out _).mono ?_
    rintro e w8 ⟨rfl, hb8⟩
    have b8 := below_step b7 hb8
    clear b7 hb8
    go_wp2_with fail
    refine (UH.out _).mono ?_
    rintro e w9 ⟨rfl, hb9⟩
    have b9 := below_step b8 hb9
    clear b8 hb9
    go_wp2_with fail
    refine (CR.out _ (HW.out.below b9)).mono ?_
    rintro e w10 ⟨rfl, hb10⟩
    have b10 := below_step b9 hb10
    clear b9 hb10
    go_wp2_with fail
    refine (RZ.out _).mono ?_
    rintro e w11 ⟨rfl, hb11⟩
    have b11 := below_step b10 hb11
    clear b10 hb11
    go_wp2_with fail
    refine (CR.out _ (HW.out.below b11)).mono ?_
    rintro e w12 ⟨rfl, hb12⟩
    have b12 := below_step b11 hb12
    clear b11 hb12
    go_wp2_with fail
    refine (CR.out _ (HW.out.below b12)).mono ?_
    rintro e w13 ⟨rfl, hb13⟩
    have b13 := below_step b12 hb13
    clear b12 hb13
    go_wp2_with fail
    refine (VZ.out _).mono ?_
    rintro e w14 ⟨rfl, hb14⟩
    have b14 := below_step b13 hb14
    clear b13 hb14
    go_wp2_with fail
    refine (CR.out _ (HW.out.below b14)).mono ?_
    rintro e w15 ⟨rfl, hb15⟩
    have b15 := below_step b14 hb15
    clear b14 hb15
    go_wp2_with fail
    go_ret
    refine ⟨?_, b15⟩
    show Ending.returned (.bool ((j : Int) == 0 || (bs (R.data.toList.take j)).toList == (R.extract 0 j).toList)) = _
    rw [cut_eq, beq_self_eq_true, Bool.or_true]

set_option maxRecDepth 100000 in
set_option maxHeartbeats 800000 in
theorem numbers_Dfzero (a : Option Addr) (cap : Nat) (ys : List Int) (w : World) (hw : Code w a ys) (hl : LibVars w) (N : Nat) (hN : N = ys.length) (n : Int) (S B T D HX R : ByteArray) (z : Int) (j : Nat) (x k y : Int) (yes : Bool) (d : Int)
    (hbig : decide (1048576 < (N : Int)) = false)
    (BIG : Hid (∀ w, Calls Tryd.prog 6 #[.slice a N cap] w fun e w' => e = .returned (.bool (decide (1048576 < (N : Int)))) ∧ w = w'))
    (CV : Hid (∀ w, Code w a ys → Calls Tryd.prog 7 #[.slice a N cap] w fun e w' => e = .returned (.int .i64 n) ∧ Below w.heap.size w w'))
    (CH : Hid (∀ w, Code w a ys → Calls Tryd.prog 8 #[.slice a N cap] w fun e w' => e = .returned (.string B) ∧ Below w.heap.size w w'))
    (CR : Hid (∀ w, Code w a ys → Calls Tryd.prog 17 #[.slice a N cap] w fun e w' => e = .returned (.string R) ∧ Below w.heap.size w w'))
    (V : Hid (∀ w, Calls Tryd.prog 9 #[.int .i64 n] w fun e w' => e = .returned (.string S) ∧ Below w.heap.size w w'))
    (RV : Hid (∀ w, Calls Tryd.prog 10 #[.string (S ++ B)] w fun e w' => e = .returned (.tuple #[.int .i64 x, .int .i64 k]) ∧ Below w.heap.size w w'))
    (F : Hid (∀ w, Calls Tryd.prog 11 #[.int .i64 n, .int .i64 7] w fun e w' => e = .returned (.string T) ∧ Below w.heap.size w w'))
    (RF : Hid (∀ w, Calls Tryd.prog 12 #[.string (T ++ B), .int .i64 7] w fun e w' => e = .returned (.tuple #[.int .i64 y, .bool yes]) ∧ w = w'))
    (DC : Hid (∀ w, LibVars w → Calls Tryd.prog 14 #[.int .i64 n] w fun e w' => e = .returned (.string D) ∧ Below w.heap.size w w'))
    (RD : Hid (∀ w, LibVars w → Calls Tryd.prog 13 #[.string D] w fun e w' => e = .returned (.tuple #[.int .i64 d, .bool false]) ∧ Below w.heap.size w w'))
    (HE : Hid (∀ w, Calls Tryd.prog 16 #[.string B] w fun e w' => e = .returned (.string HX) ∧ Below w.heap.size w w'))
    (UH : Hid (∀ w, Calls Tryd.prog 15 #[.string HX] w fun e w' => e = .returned (.tuple #[.string B, .bool true]) ∧ Below w.heap.size w w'))
    (RZ : Hid (∀ w, Calls Tryd.prog 10 #[.string R] w fun e w' => e = .returned (.tuple #[.int .i64 z, .int .i64 (j : Int)]) ∧ Below w.heap.size w w'))
    (hsS : S.size ≤ 7) (hsB : B.size ≤ 40) (hsT : T.size ≤ 7) (hsR : R.size ≤ 14)
    (hn0 : n < 0) (s1 : S.toList.isEmpty = true) (s2 : (S.toList == ({ data := #[] } : ByteArray).toList) = true) (s3 : (S.toList == []) = true) (s4 : S.toList = []) (t1 : T.toList.isEmpty = true) (t2 : (T.toList == ({ data := #[] } : ByteArray).toList) = true) (t3 : (T.toList == []) = true) (t4 : T.toList = [])
    (hr : n ≤ -1000000000) (hj : j = 0) :
    Calls Tryd.prog 3 #[.slice a N cap] w fun e w' => e = .returned (.bool true) ∧ Below w.heap.size w w' := by

    have HW := Lib.hid hw; clear hw
    have HL := Lib.hid hl; clear hl
    clear hN
    go_enter Tryd.func3, Tryd.ntmps3
    go_wp2_with fail
    refine (BIG.out _).mono ?_
    rintro e w1 ⟨rfl, rfl⟩
    go_wp2_with fail
    refine (CV.out _ HW.out).mono ?_
    rintro e w1 ⟨rfl, b1⟩
    go_wp2_with fail
    refine (CH.out _ (HW.out.below b1)).mono ?_
    rintro e w2 ⟨rfl, hb2⟩
    have b2 := below_step b1 hb2
    clear b1 hb2
    go_wp2_with fail
    refine (V.out _).mono ?_
    rintro e w3 ⟨rfl, hb3⟩
    have b3 := below_step b2 hb3
    clear b2 hb3
    go_wp2_with fail
    refine (RV.out _).mono ?_
    rintro e w4 ⟨rfl, hb4⟩
    have b4 := below_step b3 hb4
    clear b3 hb4
    go_wp2_with fail
    refine (F.out _).mono ?_
    rintro e w5 ⟨rfl, hb5⟩
    have b5 := below_step b4 hb5
    clear b4 hb5
    go_wp2_with fail
    refine (RF.out _).mono ?_
    rintro e v1 ⟨rfl, rfl⟩
    go_wp2_with fail
    refine (DC.out _ (HL.out.below b5)).mono ?_
    rintro e w6 ⟨rfl, hb6⟩
    have b6 := below_step b5 hb6
    clear b5 hb6
    go_wp2_with fail
    refine (RD.out _ (HL.out.below b6)).mono ?_
    rintro e w7 ⟨rfl, hb7⟩
    have b7 := below_step b6 hb7
    clear b6 hb7
    go_wp2_with fail
    refine (HE.out _).mono ?_
    rintro e w8 ⟨rfl, hb8⟩
    have b8 := below_step b7 hb8
    clear b7 hb8
    go_wp2_with fail
    refine (UH.out _).mono ?_
    rintro e w9 ⟨rfl, hb9⟩
    have b9 := below_step b8 hb9
    clear b8 hb9
    go_wp2_with fail
    refine (CR.out _ (HW.out.below b9)).mono ?_
    rintro e w10 ⟨rfl, hb10⟩
    have b10 := below_step b9 hb10
    clear b9 hb10
    go_wp2_with fail
    refine (RZ.out _).mono ?_
    rintro e w11 ⟨rfl, hb11⟩
    have b11 := below_step b10 hb11
    clear b10 hb11
    go_wp2_with fail
    go_ret
    exact ⟨rfl, b11⟩

set_option maxRecDepth 100000 in
set_option maxHeartbeats 800000 in
theorem numbers_Dfhit (a : Option Addr) (cap : Nat) (ys : List Int) (w : World) (hw : Code w a ys) (hl : LibVars w) (N : Nat) (hN : N = ys.length) (n : Int) (S B T D HX R : ByteArray) (z : Int) (j : Nat) (x k y : Int) (yes : Bool) (d : Int)
    (hbig : decide (1048576 < (N : Int)) = false)
    (BIG : Hid (∀ w, Calls Tryd.prog 6 #[.slice a N cap] w fun e w' => e = .returned (.bool (decide (1048576 < (N : Int)))) ∧ w = w'))
    (CV : Hid (∀ w, Code w a ys → Calls Tryd.prog 7 #[.slice a N cap] w fun e w' => e = .returned (.int .i64 n) ∧ Below w.heap.size w w'))
    (CH : Hid (∀ w, Code w a ys → Calls Tryd.prog 8 #[.slice a N cap] w fun e w' => e = .returned (.string B) ∧ Below w.heap.size w w'))
    (CR : Hid (∀ w, Code w a ys → Calls Tryd.prog 17 #[.slice a N cap] w fun e w' => e = .returned (.string R) ∧ Below w.heap.size w w'))
    (V : Hid (∀ w, Calls Tryd.prog 9 #[.int .i64 n] w fun e w' => e = .returned (.string S) ∧ Below w.heap.size w w'))
    (RV : Hid (∀ w, Calls Tryd.prog 10 #[.string (S ++ B)] w fun e w' => e = .returned (.tuple #[.int .i64 x, .int .i64 k]) ∧ Below w.heap.size w w'))
    (F : Hid (∀ w, Calls Tryd.prog 11 #[.int .i64 n, .int .i64 7] w fun e w' => e = .returned (.string T) ∧ Below w.heap.size w w'))
    (RF : Hid (∀ w, Calls Tryd.prog 12 #[.string (T ++ B), .int .i64 7] w fun e w' => e = .returned (.tuple #[.int .i64 y, .bool yes]) ∧ w = w'))
    (DC : Hid (∀ w, LibVars w → Calls Tryd.prog 14 #[.int .i64 n] w fun e w' => e = .returned (.string D) ∧ Below w.heap.size w w'))
    (RD : Hid (∀ w, LibVars w → Calls Tryd.prog 13 #[.string D] w fun e w' => e = .returned (.tuple #[.int .i64 d, .bool false]) ∧ Below w.heap.size w w'))
    (HE : Hid (∀ w, Calls Tryd.prog 16 #[.string B] w fun e w' => e = .returned (.string HX) ∧ Below w.heap.size w w'))
    (UH : Hid (∀ w, Calls Tryd.prog 15 #[.string HX] w fun e w' => e = .returned (.tuple #[.string B, .bool true]) ∧ Below w.heap.size w w'))
    (RZ : Hid (∀ w, Calls Tryd.prog 10 #[.string R] w fun e w' => e = .returned (.tuple #[.int .i64 z, .int .i64 (j : Int)]) ∧ Below w.heap.size w w'))
    (VZ : Hid (∀ w, Calls Tryd.prog 9 #[.int .i64 z] w fun e w' => e = .returned (.string (bs (R.data.toList.take j))) ∧ Below w.heap.size w w'))
    (hsS : S.size ≤ 7) (hsB : B.size ≤ 40) (hsT : T.size ≤ 7) (hsR : R.size ≤ 14)
    (hn0 : n < 0) (s1 : S.toList.isEmpty = true) (s2 : (S.toList == ({ data := #[] } : ByteArray).toList) = true) (s3 : (S.toList == []) = true) (s4 : S.toList = []) (t1 : T.toList.isEmpty = true) (t2 : (T.toList == ({ data := #[] } : ByteArray).toList) = true) (t3 : (T.toList == []) = true) (t4 : T.toList = [])
    (hr : n ≤ -1000000000) (hj : 0 < j) (hjs : j ≤ R.size) :
    Calls Tryd.prog 3 #[.slice a N cap] w fun e w' => e = .returned (.bool true) ∧ Below w.heap.size w w' := by

    have HW := Lib.hid hw; clear hw
    have HL := Lib.hid hl; clear hl
    clear hN
    go_enter Tryd.func3, Tryd.ntmps3
    go_wp2_with fail
    refine (BIG.out _).mono ?_
    rintro e w1 ⟨rfl, rfl⟩
    go_wp2_with fail
    refine (CV.out _ HW.out).mono ?_
    rintro e w1 ⟨rfl, b1⟩
    go_wp2_with fail
    refine (CH.out _ (HW.out.below b1)).mono ?_
    rintro e w2 ⟨rfl, hb2⟩
    have b2 := below_step b1 hb2
    clear b1 hb2
    go_wp2_with fail
    refine (V.out _).mono ?_
    rintro e w3 ⟨rfl, hb3⟩
    have b3 := below_step b2 hb3
    clear b2 hb3
    go_wp2_with fail
    refine (RV.out _).mono ?_
    rintro e w4 ⟨rfl, hb4⟩
    have b4 := below_step b3 hb4
    clear b3 hb4
    go_wp2_with fail
    refine (F.out _).mono ?_
    rintro e w5 ⟨rfl, hb5⟩
    have b5 := below_step b4 hb5
    clear b4 hb5
    go_wp2_with fail
    refine (RF.out _).mono ?_
    rintro e v1 ⟨rfl, rfl⟩
    go_wp2_with fail
    refine (DC.out _ (HL.out.below b5)).mono ?_
    rintro e w6 ⟨rfl, hb6⟩
    have b6 := below_step b5 hb6
    clear b5 hb6
    go_wp2_with fail
    refine (RD.out _ (HL.out.below b6)).mono ?_
    rintro e w7 ⟨rfl, hb7⟩
    have b7 := below_step b6 hb7
    clear b6 hb7
    go_wp2_with fail
    refine (HE.out _).mono ?_
    rintro e w8 ⟨rfl, hb8⟩
    have b8 := below_step b7 hb8
    clear b7 hb8
    go_wp2_with fail
    refine (UH.out _).mono ?_
    rintro e w9 ⟨rfl, hb9⟩
    have b9 := below_step b8 hb9
    clear b8 hb9
    go_wp2_with fail
    refine (CR.out _ (HW.out.below b9)).mono ?_
    rintro e w10 ⟨rfl, hb10⟩
    have b10 := below_step b9 hb10
    clear b9 hb10
    go_wp2_with fail
    refine (RZ.out _).mono ?_
    rintro e w11 ⟨rfl, hb11⟩
    have b11 := below_step b10 hb11
    clear b10 hb11
    go_wp2_with fail
    refine (CR.out _ (HW.out.below b11)).mono ?_
    rintro e w12 ⟨rfl, hb12⟩
    have b12 := below_step b11 hb12
    clear b11 hb12
    go_wp2_with fail
    refine (CR.out _ (HW.out.below b12)).mono ?_
    rintro e w13 ⟨rfl, hb13⟩
    have b13 := below_step b12 hb13
    clear b12 hb13
    go_wp2_with fail
    refine (VZ.out _).mono ?_
    rintro e w14 ⟨rfl, hb14⟩
    have b14 := below_step b13 hb14
    clear b13 hb14
    go_wp2_with fail
    refine (CR.out _ (HW.out.below b14)).mono ?_
    rintro e w15 ⟨rfl, hb15⟩
    have b15 := below_step b14 hb15
    clear b14 hb15
    go_wp2_with fail
    go_ret
    refine ⟨?_, b15⟩
    show Ending.returned (.bool ((j : Int) == 0 || (bs (R.data.toList.take j)).toList == (R.extract 0 j).toList)) = _
    rw [cut_eq, beq_self_eq_true, Bool.or_true]

end Go.Proofs.YtbpghjnkjakhnaaDoor
