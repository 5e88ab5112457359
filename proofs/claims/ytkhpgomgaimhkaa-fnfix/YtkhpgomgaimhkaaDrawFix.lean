/- The model's draws for PutFix and GetFix. -/
import Derived.Test.YtkhpgomgaimhkaaDrawInt
import Derived.Test.YtkhpgomgaimhkaaDrawText
namespace Go.Proofs.Ytkhpgomgaimhkaa
open Go.RowKit
set_option linter.unusedVariables false

/-- A number and how many bytes, drawn by a code. -/
def FixOf (w : World) (e : Ending) (w' : World) : Prop := ∃ x b : Int, I64 x ∧ -1 ≤ b ∧ b ≤ 5 ∧ e = .returned (.tuple #[.int .i64 x, .int .i64 b]) ∧ Below w.heap.size w w'
/-- A text, a place and how many bytes, drawn by a code. -/
def FixAt (w : World) (e : Ending) (w' : World) : Prop := ∃ (s : ByteArray) (x b : Int), s.size ≤ 7 ∧ I64 x ∧ -1 ≤ b ∧ b ≤ 5 ∧ e = .returned (.tuple #[.string s, .int .i64 x, .int .i64 b]) ∧ Below w.heap.size w w'

set_option maxHeartbeats 400000 in
theorem drawPutFix_at (a : Option Addr) (len cap : Nat) (zs : List Int) (w : World) (hr : Bytes w w.heap.size a len zs) :
    Calls Try.prog 29 #[.slice a len cap] w (FixOf w) := by
  have HR := Lib.hid hr
  clear hr
  go_enter Try.func29, Try.ntmps29
  go_wp2_with fail
  refine (l01New_at a len cap zs _ HR.out).mono ?_
  rintro e w1 ⟨rfl, ⟨h, c1⟩, g0⟩
  have C1 := Lib.hid c1
  clear c1
  go_wp2_with fail
  refine (l01Int_at _ _ _ _ _ _ _ _ _ C1.out).mono ?_
  rintro e w2 ⟨x, i2, h2, hx, rfl, c2, g2⟩
  have C2 := Lib.hid c2
  have HX := Lib.hid hx
  clear c2 hx
  go_wp2_with fail
  refine (l01Below_any _ _ _ _ _ _ _ _ 7 _ C2.out (by omega) (by omega)).mono ?_
  rintro e w3 ⟨y, i3, h3, hy0, hy1, rfl, c3, g3⟩
  clear c3
  go_wp2_with fail
  go_ret2
  exact ⟨x, y - 1, HX.out, by omega, by omega, rfl, below_new g0 (g2.trans g3)⟩

set_option maxHeartbeats 400000 in
theorem drawGetFix_at (a : Option Addr) (len cap : Nat) (zs : List Int) (w : World) (hr : Bytes w w.heap.size a len zs) :
    Calls Try.prog 31 #[.slice a len cap] w (FixAt w) := by
  have HR := Lib.hid hr
  clear hr
  go_enter Try.func31, Try.ntmps31
  go_wp2_with fail
  refine (l01New_at a len cap zs _ HR.out).mono ?_
  rintro e w1 ⟨rfl, ⟨h, c1⟩, g0⟩
  have C1 := Lib.hid c1
  clear c1
  go_wp2_with fail
  refine (l01Below_any _ _ _ _ _ _ _ _ 8 _ C1.out (by omega) (by omega)).mono ?_
  rintro e w2 ⟨x, i2, h2, hx0, hx1, rfl, c2, g2⟩
  obtain ⟨x, rfl⟩ := Int.eq_ofNat_of_zero_le hx0
  have C2 := Lib.hid c2
  clear c2
  go_wp2_with fail
  refine (l01Text_at _ _ _ _ _ _ _ _ x _ C2.out (by omega)).mono ?_
  rintro e w3 ⟨s, i3, h3, hs, rfl, c3, g3⟩
  have hs7 : s.size ≤ 7 := by omega
  have C3 := Lib.hid c3
  clear c3 hs
  go_wp2_with fail
  refine (l01PickInt_at I64 _ _ a len cap zs i3 h3 w3.heap.size 7 7 _ (C3.out.kept (World.grownBy_alloc w3 _ none) (by simp) (fun _ _ => Or.inl (by simp))) (by omega) (by omega) (by simp) (by have := C3.out.lt; omega) ?_).mono ?_
  · exact new_ints w3 [0, 0, 1, 2, -1, s.size, 9223372036854775807] 3 (by
      intro u hu
      simp only [List.mem_cons, List.not_mem_nil, or_false] at hu
      unfold I64
      omega)
  · rintro e w4 ⟨z, i4, h4, hz, rfl, c4, g4⟩
    have HZ := Lib.hid hz
    have C4 := Lib.hid c4
    clear c4 hz
    go_wp2_with fail
    refine (l01Below_any _ _ _ _ _ _ _ _ 7 _ C4.out (by omega) (by omega)).mono ?_
    rintro e w5 ⟨y, i5, h5, hy0, hy1, rfl, c5, g5⟩
    clear c5
    go_wp2_with fail
    go_ret3
    exact ⟨s, z, y - 1, hs7, HZ.out, by omega, by omega, rfl, below_new g0 ((((g2.trans g3).trans ((World.grownBy_alloc w3 _ none).but _)).trans g4).trans g5)⟩
end Go.Proofs.Ytkhpgomgaimhkaa
