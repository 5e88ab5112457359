/- The model's draw of two texts. -/
import Derived.Test.YtibimjbnhgehoaaDrawText
import Derived.Test.YtibimjbnhgehoaaOnce
namespace Go.Proofs.Ytibimjbnhgehoaa
open Go.RowKit
set_option linter.unusedVariables false

/-- Two short texts, and the cursor somewhere behind. -/
def SomeTwo (T p : Nat) (a : Option Addr) (len cap : Nat) (zs : List Int) (w : World) (e : Ending) (w' : World) : Prop :=
  ∃ (s t : ByteArray) (i : Nat) (h : Int), s.size ≤ 10 ∧ t.size ≤ 10 ∧ e = .returned (.tuple #[.string s, .string t]) ∧ CurAt w' T p a len cap zs i h ∧ w.grownBy w' (some p)

set_option maxHeartbeats 1000000 in
theorem l01Two_at (T p : Nat) (a : Option Addr) (len cap : Nat) (zs : List Int) (i : Nat) (h : Int) (w : World) (c : CurAt w T p a len cap zs i h) :
    Calls Try.prog 33 #[.pointer (some ⟨p, 0, none⟩)] w (SomeTwo T p a len cap zs w) := by
  have HC := Lib.hid c
  clear c
  go_enter Try.func33, Try.ntmps33
  go_wp2_with fail
  refine (l01Below_any _ _ _ _ _ _ _ _ 5 _ HC.out (by omega) (by omega)).mono ?_
  rintro e w1 ⟨x, i1, h1, hx0, hx1, rfl, c1, g1⟩
  obtain ⟨x, rfl⟩ := Int.eq_ofNat_of_zero_le hx0
  have C1 := Lib.hid c1
  clear c1
  go_wp2_with fail
  refine (l01Text_at _ _ _ _ _ _ _ _ x _ C1.out (by omega)).mono ?_
  rintro e w2 ⟨s, i2, h2, hs, rfl, c2, g2⟩
  have hs4 : s.size ≤ 4 := by omega
  have C2 := Lib.hid c2
  clear c2 hs
  go_wp2_with fail
  refine (l01Once_at _ _ _ _ _ _ _ _ 2 _ C2.out (by omega) (by omega)).mono ?_
  rintro e w3 ⟨b, i3, h3, rfl, c3, g3⟩
  have C3 := Lib.hid c3
  clear c3
  cases b
  · go_wp2_with fail
    refine (l01Below_any _ _ _ _ _ _ _ _ 5 _ C3.out (by omega) (by omega)).mono ?_
    rintro e w4 ⟨y, i4, h4, hy0, hy1, rfl, c4, g4⟩
    obtain ⟨y, rfl⟩ := Int.eq_ofNat_of_zero_le hy0
    have C4 := Lib.hid c4
    clear c4
    go_wp2_with fail
    refine (l01Text_at _ _ _ _ _ _ _ _ y _ C4.out (by omega)).mono ?_
    rintro e w5 ⟨t, i5, h5, ht, rfl, c5, g5⟩
    have ht4 : t.size ≤ 4 := by omega
    have C5 := Lib.hid c5
    clear c5 ht
    go_wp2_with fail
    go_ret2
    exact ⟨s, t, i5, h5, by omega, by omega, rfl, C5.out, (((g1.trans g2).trans g3).trans g4).trans g5⟩
  · go_wp2_with fail
    refine (l01Below_any _ _ _ _ _ _ _ _ 3 _ C3.out (by omega) (by omega)).mono ?_
    rintro e w4 ⟨y, i4, h4, hy0, hy1, rfl, c4, g4⟩
    obtain ⟨y, rfl⟩ := Int.eq_ofNat_of_zero_le hy0
    have C4 := Lib.hid c4
    clear c4
    go_wp2_with fail
    refine (l01Text_at _ _ _ _ _ _ _ _ y _ C4.out (by omega)).mono ?_
    rintro e w5 ⟨t, i5, h5, ht, rfl, c5, g5⟩
    have ht4 : t.size ≤ 2 := by omega
    have C5 := Lib.hid c5
    clear c5 ht
    go_wp2_with fail
    go_ret2
    exact ⟨s, s ++ t, i5, h5, by omega, by rw [ByteArray.size_append]; omega, rfl, C5.out, (((g1.trans g2).trans g3).trans g4).trans g5⟩

/-- Two short texts that are drawn by a code. -/
def TwoOf (w : World) (e : Ending) (w' : World) : Prop := ∃ s t : ByteArray, s.size ≤ 10 ∧ t.size ≤ 10 ∧ e = .returned (.tuple #[.string s, .string t]) ∧ Below w.heap.size w w'

set_option maxHeartbeats 400000 in
theorem drawBefore_at (a : Option Addr) (len cap : Nat) (zs : List Int) (w : World) (hr : Bytes w w.heap.size a len zs) :
    Calls Try.prog 18 #[.slice a len cap] w (TwoOf w) := by
  have HR := Lib.hid hr
  clear hr
  go_enter Try.func18, Try.ntmps18
  go_wp2_with fail
  refine (l01New_at a len cap zs _ HR.out).mono ?_
  rintro e w1 ⟨rfl, ⟨h, c1⟩, g0⟩
  have C1 := Lib.hid c1
  clear c1
  go_wp2_with fail
  refine (l01Two_at _ _ _ _ _ _ _ _ _ C1.out).mono ?_
  rintro e w2 ⟨s, t, i2, h2, hs, ht, rfl, c2, g1⟩
  clear c2
  go_wp2_with fail
  go_ret2
  exact ⟨s, t, hs, ht, rfl, below_new g0 g1⟩

set_option maxHeartbeats 400000 in
theorem drawShared_at (a : Option Addr) (len cap : Nat) (zs : List Int) (w : World) (hr : Bytes w w.heap.size a len zs) :
    Calls Try.prog 21 #[.slice a len cap] w (TwoOf w) := by
  have HR := Lib.hid hr
  clear hr
  go_enter Try.func21, Try.ntmps21
  go_wp2_with fail
  refine (l01New_at a len cap zs _ HR.out).mono ?_
  rintro e w1 ⟨rfl, ⟨h, c1⟩, g0⟩
  have C1 := Lib.hid c1
  clear c1
  go_wp2_with fail
  refine (l01Two_at _ _ _ _ _ _ _ _ _ C1.out).mono ?_
  rintro e w2 ⟨s, t, i2, h2, hs, ht, rfl, c2, g1⟩
  clear c2
  go_wp2_with fail
  go_ret2
  exact ⟨s, t, hs, ht, rfl, below_new g0 g1⟩
end Go.Proofs.Ytibimjbnhgehoaa
