/- The walks of the laws FnCompress and FnExpand. -/
import Derived.Test.YtjgdjpjafhllhaaBig
import Derived.Test.YtjgdjpjafhllhaaDrawPack
import Derived.Test.YtjgdjpjafhllhaaUnpack
namespace Go.Proofs.Ytjgdjpjafhllhaa
open Go.RowKit
set_option linter.unusedVariables false

/-- One text, in new memory. -/
def TextIs (w : World) (A : ByteArray) (e : Ending) (w' : World) : Prop := e = .returned (.string A) ∧ Below w.heap.size w w'
/-- A text and whether it is one. -/
def PairIs (w : World) (A : ByteArray) (b : Bool) (e : Ending) (w' : World) : Prop := e = .returned (.tuple #[.string A, .bool b]) ∧ Below w.heap.size w w'
theorem of_list {A : ByteArray} {l : List UInt8} (h : A.data.toList = l) : (⟨l.toArray⟩ : ByteArray) = A := bytes_ext (by rw [h])
theorem implCompress_as (s A : ByteArray) (hA : A.data.toList = compress s.data.toList) (w : World) : Calls Try.prog 19 #[.string s] w (TextIs w A) :=
  (implCompress s w).mono fun e w' ⟨h1, h2⟩ => ⟨by rw [h1, of_list hA], h2⟩
theorem specCompress_as (s A : ByteArray) (hA : A.data.toList = compress s.data.toList) (w : World) : Calls Try.prog 20 #[.string s] w (TextIs w A) :=
  (specCompress s w).mono fun e w' ⟨h1, h2⟩ => ⟨by rw [h1, of_list hA], h2⟩
theorem implExpand_as (s A : ByteArray) (b : Bool) (hs : s.size ≤ 100000000) (hA : A.data.toList = expand1 s.data.toList) (hb : b = expand2 s.data.toList) (w : World) : Calls Try.prog 21 #[.string s] w (PairIs w A b) :=
  (implExpand s w hs).mono fun e w' ⟨h1, h2⟩ => ⟨by rw [h1, of_list hA, hb], h2⟩
theorem specExpand_as (s A : ByteArray) (b : Bool) (hs : s.size ≤ 100000000) (hA : A.data.toList = expand1 s.data.toList) (hb : b = expand2 s.data.toList) (w : World) : Calls Try.prog 23 #[.string s] w (PairIs w A b) :=
  (specExpand s w hs).mono fun e w' ⟨h1, h2⟩ => ⟨by rw [h1, of_list hA, hb], h2⟩
theorem a_text (l : List UInt8) : ∃ A : ByteArray, A.data.toList = l ∧ A.size = l.length := ⟨⟨l.toArray⟩, rfl, by simp [ByteArray.size]⟩

set_option maxHeartbeats 1000000 in
set_option maxRecDepth 100000 in
theorem fnCompress_walk (a0 : Option Addr) (len0 cap0 : Nat) (z0 : List Int) (w : World) (w0 : IsRow .u8 w a0 len0 cap0 z0) :
    Calls Try.prog 4 #[.slice a0 len0 cap0] w fun e w' => e = .returned (.bool true) ∧ Below w.heap.size w w' := by
  have HR := Lib.hid (bytes_of_row w0 w.heap.size (Nat.le_refl _))
  clear w0
  by_cases hbig : len0 ≤ 1048576
  · go_enter Try.func4, Try.ntmps4
    go_wp2_with fail
    refine (big_no a0 len0 cap0 _ hbig).mono ?_
    rintro e w1 ⟨rfl, rfl⟩
    go_wp2_with fail
    refine (drawCompress_at a0 len0 cap0 z0 _ HR.out).mono ?_
    rintro e w1 ⟨s, hs, rfl, b1⟩
    have B1 := Lib.hid b1
    clear b1 HR
    obtain ⟨A, hA, hAs⟩ := a_text (compress s.data.toList)
    have hl : s.data.toList.length = s.size := by simp
    have HA := Lib.hid hA
    have hlen := compress_hardly s.data.toList
    rw [← hAs, hl] at hlen
    have HE := Lib.hid (expand_compress s.data.toList (by rw [hl]; omega))
    have ha9 : A.size ≤ 4001 := by rw [hAs]; exact compress_len _
    clear hA hAs hl
    go_wp2_with fail
    refine (implCompress_as s A HA.out _).mono ?_
    rintro e w2 ⟨rfl, b2⟩
    have B2 := Lib.hid (B1.out.trans (b2.mono B1.out.size))
    clear b2
    go_wp2_with fail
    refine (specCompress_as s A HA.out _).mono ?_
    rintro e w3 ⟨rfl, b3⟩
    have B3 := Lib.hid (B2.out.trans (b3.mono B2.out.size))
    clear b3
    go_wp2_with fail
    refine (implExpand_as A s true (by omega) (by rw [HA.out]; exact HE.out.1.symm) (by rw [HA.out]; exact HE.out.2.symm) _).mono ?_
    rintro e w4 ⟨rfl, b4⟩
    have B4 := Lib.hid (B3.out.trans (b4.mono B3.out.size))
    clear b4
    go_wp2
    go_ret
    exact ⟨ret_bool (by simp; omega), B4.out⟩
  · go_enter Try.func4, Try.ntmps4
    go_wp2_with fail
    refine (big_yes a0 len0 cap0 _ hbig).mono ?_
    rintro e w1 ⟨rfl, rfl⟩
    go_wp2
    go_ret
    exact ⟨rfl, Below.refl _ _⟩

set_option maxHeartbeats 1000000 in
set_option maxRecDepth 100000 in
theorem fnExpand_walk (a0 : Option Addr) (len0 cap0 : Nat) (z0 : List Int) (w : World) (w0 : IsRow .u8 w a0 len0 cap0 z0) :
    Calls Try.prog 5 #[.slice a0 len0 cap0] w fun e w' => e = .returned (.bool true) ∧ Below w.heap.size w w' := by
  have HR := Lib.hid (bytes_of_row w0 w.heap.size (Nat.le_refl _))
  clear w0
  by_cases hbig : len0 ≤ 1048576
  · go_enter Try.func5, Try.ntmps5
    go_wp2_with fail
    refine (big_no a0 len0 cap0 _ hbig).mono ?_
    rintro e w1 ⟨rfl, rfl⟩
    go_wp2_with fail
    refine (drawExpand_at a0 len0 cap0 z0 _ HR.out).mono ?_
    rintro e w1 ⟨s, hs, rfl, b1⟩
    have B1 := Lib.hid b1
    clear b1 HR
    obtain ⟨A, hA, hAs⟩ := a_text (expand1 s.data.toList)
    have HA := Lib.hid hA
    clear hA
    cases hx : expand2 s.data.toList with
    | false =>
      have HX := Lib.hid hx
      have hA0 : A = ⟨#[]⟩ := bytes_ext (by rw [HA.out, expand_no _ hx])
      subst hA0
      clear hx hAs
      go_wp2_with fail
      refine (implExpand_as s ⟨#[]⟩ false (by omega) HA.out HX.out.symm _).mono ?_
      rintro e w2 ⟨rfl, b2⟩
      have B2 := Lib.hid (B1.out.trans (b2.mono B1.out.size))
      clear b2
      go_wp2_with fail
      refine (specExpand_as s ⟨#[]⟩ false (by omega) HA.out HX.out.symm _).mono ?_
      rintro e w3 ⟨rfl, b3⟩
      have B3 := Lib.hid (B2.out.trans (b3.mono B2.out.size))
      clear b3
      go_wp2
      go_ret
      exact ⟨rfl, B3.out⟩
    | true =>
      have HX := Lib.hid hx
      have HOK := Lib.hid (expand_ok _ hx)
      have hA9 : A.size ≤ 2000 := by rw [hAs]; exact HOK.out.2
      clear hx hAs
      have hn := ne_false A
      go_wp2_with fail
      refine (implExpand_as s A true (by omega) HA.out HX.out.symm _).mono ?_
      rintro e w2 ⟨rfl, b2⟩
      have B2 := Lib.hid (B1.out.trans (b2.mono B1.out.size))
      clear b2
      go_wp2_with fail
      refine (specExpand_as s A true (by omega) HA.out HX.out.symm _).mono ?_
      rintro e w3 ⟨rfl, b3⟩
      have B3 := Lib.hid (B2.out.trans (b3.mono B2.out.size))
      clear b3
      go_wp2_with fail
      refine (implCompress_as A s (by rw [HA.out]; exact HOK.out.1.symm) _).mono ?_
      rintro e w4 ⟨rfl, b4⟩
      have B4 := Lib.hid (B3.out.trans (b4.mono B3.out.size))
      clear b4
      go_wp2
      go_ret
      exact ⟨ret_bool (by simp; omega), B4.out⟩
  · go_enter Try.func5, Try.ntmps5
    go_wp2_with fail
    refine (big_yes a0 len0 cap0 _ hbig).mono ?_
    rintro e w1 ⟨rfl, rfl⟩
    go_wp2
    go_ret
    exact ⟨rfl, Below.refl _ _⟩
end Go.Proofs.Ytjgdjpjafhllhaa
