/- Contracts of Wrap, the program's and the model's. -/
import Derived.Test.YtkomnnijnggbpaaZ4
import Derived.Test.YtkomnnijnggbpaaUnpack
import Derived.Test.YtkomnnijnggbpaaZ0
import Derived.BigQuiet
namespace Go.Proofs.Ytkomnnijnggbpaa
open Go.RowKit
set_option linter.unusedVariables false

theorem implSealed_as (s A : ByteArray) (hs : s.size ≤ 1000000000) (hA : A.data.toList = sealedB s.data.toList) (w : World) : Calls Try.prog 56 #[.string s] w (Same w A) :=
 (implSealed s w hs).mono fun e w' ⟨h1, h2⟩ => ⟨by rw [h1, as_text hA], h2⟩
theorem specSealed_as (s A : ByteArray) (hs : s.size ≤ 1000000000) (hA : A.data.toList = sealedB s.data.toList) (w : World) : Calls Try.prog 62 #[.string s] w (Same w A) :=
 (specSealed s w hs).mono fun e w' ⟨h1, h2⟩ => ⟨by rw [h1, as_text hA], h2⟩
theorem implCompress_as (s A : ByteArray) (hA : A.data.toList = compress s.data.toList) (w : World) : Calls Try.prog 55 #[.string s] w (Same w A) :=
 (implCompress s w).mono fun e w' ⟨h1, h2⟩ => ⟨by rw [h1, as_text hA], h2⟩
theorem specCompress_as (s A : ByteArray) (hA : A.data.toList = compress s.data.toList) (w : World) : Calls Try.prog 61 #[.string s] w (Same w A) :=
 (specCompress s w).mono fun e w' ⟨h1, h2⟩ => ⟨by rw [h1, as_text hA], h2⟩
def PairIs (w : World) (A : ByteArray) (b : Bool) (e : Ending) (w' : World) : Prop := e = .returned (.tuple #[.string A, .bool b]) ∧ Below w.heap.size w w'
theorem implExpand_as (s A : ByteArray) (b : Bool) (hs : s.size ≤ 100000000) (hA : A.data.toList = expand1 s.data.toList) (hb : b = expand2 s.data.toList) (w : World) : Calls Try.prog 40 #[.string s] w (PairIs w A b) :=
 (implExpand s w hs).mono fun e w' ⟨h1, h2⟩ => ⟨by rw [h1, as_text hA, hb], h2⟩
theorem implOpened_as (s A : ByteArray) (b : Bool) (hs : s.size ≤ 1000000000) (hA : A.data.toList = opened1 s.data.toList) (hb : b = opened2 s.data.toList) (w : World) : Calls Try.prog 39 #[.string s] w (PairIs w A b) :=
 (implOpened s w hs).mono fun e w' ⟨h1, h2⟩ => ⟨by rw [h1, as_text hA, hb], h2⟩
theorem behind1 (A : ByteArray) (c : UInt8) : (A ++ ⟨#[c]⟩).data.toList = A.data.toList ++ [c] ∧ (A ++ ⟨#[c]⟩).size = A.size + 1 := by
 constructor
 · rw [ByteArray.data_append, Array.toList_append]
 · rw [ByteArray.size_append]; rfl
theorem no_text {A : ByteArray} (h : A.data.toList = []) : A = ⟨#[]⟩ := bytes_ext (by rw [h])

set_option maxHeartbeats 1000000 in
set_option maxRecDepth 100000 in
theorem implWrap (s A : ByteArray) (p : Bool) (hA : A.data.toList = wrapB s.data.toList p) (w : World) : Calls Try.prog 26 #[.string s, .bool p] w (Same w A) := by
 have hl : s.data.toList.length = s.size := by simp
 by_cases hs : s.size ≤ 2000
 · have HB := Lib.hid (behind1 s 0)
   cases p
   · have HA := Lib.hid (hA.trans (wrap_plain (by rw [hl]; exact hs) (fun h => by cases h)))
     clear hA hl
     go_enter Try.func26, Try.ntmps26
     go_wp2_with fail
     refine (implSealed_as _ A (by rw [HB.out.2]; omega) (by rw [HB.out.1]; exact HA.out) _).mono ?_
     rintro e w1 ⟨rfl, b1⟩
     have B1 := Lib.hid b1
     clear b1
     go_wp2
     go_ret
     exact ⟨rfl, B1.out⟩
   · obtain ⟨C, hC, hCs⟩ := text_of (compress s.data.toList)
     have hC9 : C.size ≤ 4001 := by rw [hCs]; exact compress_len _
     have HC := Lib.hid hC
     have HBC := Lib.hid (behind1 C 1)
     by_cases hlt : C.size < s.size
     · have HA := Lib.hid (hA.trans (wrap_packed (by rw [hl]; exact hs) (by rw [← hCs, hl]; exact hlt)))
       have hlt' : (C.size : Int) < (s.size : Int) := by omega
       clear hA hl hC hCs
       go_enter Try.func26, Try.ntmps26
       go_wp2_with fail
       refine (implCompress_as s C HC.out _).mono ?_
       rintro e w1 ⟨rfl, b1⟩
       have B1 := Lib.hid b1
       clear b1
       go_wp2_with fail
       refine (implSealed_as _ A (by rw [HBC.out.2]; omega) (by rw [HBC.out.1, HC.out]; exact HA.out) _).mono ?_
       rintro e w2 ⟨rfl, b2⟩
       have B2 := Lib.hid (B1.out.trans (b2.mono B1.out.size))
       clear b2
       go_wp2
       go_ret
       exact ⟨rfl, B2.out⟩
     · have HA := Lib.hid (hA.trans (wrap_plain (by rw [hl]; exact hs) (fun _ => by rw [← hCs, hl]; omega)))
       have hlt' : ¬ (C.size : Int) < (s.size : Int) := by omega
       clear hA hl hC hCs
       go_enter Try.func26, Try.ntmps26
       go_wp2_with fail
       refine (implCompress_as s C HC.out _).mono ?_
       rintro e w1 ⟨rfl, b1⟩
       have B1 := Lib.hid b1
       clear b1
       go_wp2_with fail
       refine (implSealed_as _ A (by rw [HB.out.2]; omega) (by rw [HB.out.1]; exact HA.out) _).mono ?_
       rintro e w2 ⟨rfl, b2⟩
       have B2 := Lib.hid (B1.out.trans (b2.mono B1.out.size))
       clear b2
       go_wp2
       go_ret
       exact ⟨rfl, B2.out⟩
 · rw [wrap_long p (by rw [hl]; omega)] at hA
   rw [no_text hA]
   clear hA hl
   go_enter Try.func26, Try.ntmps26
   go_wp2
   go_ret
   exact ⟨rfl, Below.refl _ _⟩

set_option maxHeartbeats 1000000 in
set_option maxRecDepth 100000 in
theorem specWrap (s A : ByteArray) (p : Bool) (hA : A.data.toList = wrapB s.data.toList p) (w : World) : Calls Try.prog 30 #[.string s, .bool p] w (Same w A) := by
 have hl : s.data.toList.length = s.size := by simp
 by_cases hs : s.size ≤ 2000
 · have HB := Lib.hid (behind1 s 0)
   obtain ⟨C, hC, hCs⟩ := text_of (compress s.data.toList)
   have hC9 : C.size ≤ 4001 := by rw [hCs]; exact compress_len _
   have HC := Lib.hid hC
   have HBC := Lib.hid (behind1 C 1)
   cases p
   · have HA := Lib.hid (hA.trans (wrap_plain (by rw [hl]; exact hs) (fun h => by cases h)))
     clear hA hl hC hCs
     go_enter Try.func30, Try.ntmps30
     go_wp2_with fail
     refine (specCompress_as s C HC.out _).mono ?_
     rintro e w1 ⟨rfl, b1⟩
     have B1 := Lib.hid b1
     clear b1
     go_wp2_with fail
     refine (specSealed_as _ A (by rw [HB.out.2]; omega) (by rw [HB.out.1]; exact HA.out) _).mono ?_
     rintro e w2 ⟨rfl, b2⟩
     have B2 := Lib.hid (B1.out.trans (b2.mono B1.out.size))
     clear b2
     go_wp2
     go_ret
     exact ⟨rfl, B2.out⟩
   · by_cases hlt : C.size < s.size
     · have HA := Lib.hid (hA.trans (wrap_packed (by rw [hl]; exact hs) (by rw [← hCs, hl]; exact hlt)))
       have hlt' : (C.size : Int) < (s.size : Int) := by omega
       clear hA hl hC hCs
       go_enter Try.func30, Try.ntmps30
       go_wp2_with fail
       refine (specCompress_as s C HC.out _).mono ?_
       rintro e w1 ⟨rfl, b1⟩
       have B1 := Lib.hid b1
       clear b1
       go_wp2_with fail
       refine (specSealed_as _ A (by rw [HBC.out.2]; omega) (by rw [HBC.out.1, HC.out]; exact HA.out) _).mono ?_
       rintro e w2 ⟨rfl, b2⟩
       have B2 := Lib.hid (B1.out.trans (b2.mono B1.out.size))
       clear b2
       go_wp2
       go_ret
       exact ⟨rfl, B2.out⟩
     · have HA := Lib.hid (hA.trans (wrap_plain (by rw [hl]; exact hs) (fun _ => by rw [← hCs, hl]; omega)))
       have hlt' : ¬ (C.size : Int) < (s.size : Int) := by omega
       clear hA hl hC hCs
       go_enter Try.func30, Try.ntmps30
       go_wp2_with fail
       refine (specCompress_as s C HC.out _).mono ?_
       rintro e w1 ⟨rfl, b1⟩
       have B1 := Lib.hid b1
       clear b1
       go_wp2_with fail
       refine (specSealed_as _ A (by rw [HB.out.2]; omega) (by rw [HB.out.1]; exact HA.out) _).mono ?_
       rintro e w2 ⟨rfl, b2⟩
       have B2 := Lib.hid (B1.out.trans (b2.mono B1.out.size))
       clear b2
       go_wp2
       go_ret
       exact ⟨rfl, B2.out⟩
 · rw [wrap_long p (by rw [hl]; omega)] at hA
   rw [no_text hA]
   clear hA hl
   go_enter Try.func30, Try.ntmps30
   go_wp2
   go_ret
   exact ⟨rfl, Below.refl _ _⟩
end Go.Proofs.Ytkomnnijnggbpaa
