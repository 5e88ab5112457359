/- The model's draws of numbers, and of texts of numbers. -/
import Derived.Test.YtibimjbnhgehoaaDoorOnce
import Derived.Test.YtibimjbnhgehoaaDoorPickInt
import Derived.Test.YtibimjbnhgehoaaDoorPickStr
import Derived.Test.YtibimjbnhgehoaaDoorDec
namespace Go.Proofs.YtibimjbnhgehoaaDoor
open Go.RowKit
set_option linter.unusedVariables false

/-- A number of 64 bits. -/
def I64 (x : Int) : Prop := -9223372036854775808 ≤ x ∧ x ≤ 9223372036854775807

set_option maxHeartbeats 400000 in
theorem l01Int_at (T p : Nat) (a : Option Addr) (len cap : Nat) (zs : List Int) (i : Nat) (h : Int) (w : World) (cu : CurAt w T p a len cap zs i h) :
    Calls Tryd.prog 14 #[.pointer (some ⟨p, 0, none⟩)] w (SomeInt I64 T p a len cap zs w) := by
  have HC := Lib.hid cu
  clear cu
  go_enter Tryd.func14, Tryd.ntmps14
  go_wp2_with fail
  refine (l01Below_any _ _ _ _ _ _ _ _ _ _ HC.out (by omega) (by omega)).mono ?_
  rintro e w1 ⟨y, i1, h1, hy0, hy1, rfl, c1, g1⟩
  have C1 := Lib.hid c1
  clear c1
  go_wp2_with fail
  refine (l01PickInt_at I64 T p a len cap zs i1 h1 w1.heap.size 14 14 _ (C1.out.kept (World.grownBy_alloc w1 _ none) (by simp) (fun _ _ => Or.inl (by simp))) (by omega) (by omega) (by simp) (by have := C1.out.lt; omega) ?_).mono ?_
  · exact new_ints w1 [0, 1, -1, 127, 128, 16383, 16384, 65536, 999999999, 1000000000, 4611686018427387903, 9223372036854775807, -9223372036854775808, y] 3 (by
      intro x hx
      simp only [List.mem_cons, List.not_mem_nil, or_false] at hx
      unfold I64
      omega)
  · rintro e w2 ⟨x, i2, h2, hx, rfl, c2, g2⟩
    have C2 := Lib.hid c2
    clear c2
    go_wp2
    go_ret
    exact ⟨x, i2, h2, hx, rfl, C2.out, (g1.trans ((World.grownBy_alloc w1 _ none).but _)).trans g2⟩

/-- A number of 64 bits that is drawn by a code. -/
def IntOf (w : World) (e : Ending) (w' : World) : Prop := ∃ x : Int, I64 x ∧ e = .returned (.int .i64 x) ∧ Below w.heap.size w w'
/-- A short text that is drawn by a code. -/
def TextOf (w : World) (e : Ending) (w' : World) : Prop := ∃ s : ByteArray, s.size ≤ 1000 ∧ e = .returned (.string s) ∧ Below w.heap.size w w'

set_option maxHeartbeats 400000 in
theorem drawDecText_at (a : Option Addr) (len cap : Nat) (zs : List Int) (w : World) (hr : Bytes w w.heap.size a len zs) :
    Calls Tryd.prog 7 #[.slice a len cap] w (IntOf w) := by
  have HR := Lib.hid hr
  clear hr
  go_enter Tryd.func7, Tryd.ntmps7
  go_wp2_with fail
  refine (l01New_at a len cap zs _ HR.out).mono ?_
  rintro e w1 ⟨rfl, ⟨h, c1⟩, g0⟩
  have C1 := Lib.hid c1
  clear c1
  go_wp2_with fail
  refine (l01Int_at _ _ _ _ _ _ _ _ _ C1.out).mono ?_
  rintro e w2 ⟨x, i2, h2, hx, rfl, c2, g1⟩
  have HX := Lib.hid hx
  clear c2 hx
  go_wp2_with fail
  go_ret
  exact ⟨x, HX.out, rfl, below_new g0 g1⟩

theorem itoa_len (n : Int) (h : I64 n) : (Lib.itoa n).length ≤ 21 := by
  unfold I64 at h
  unfold Lib.itoa
  split
  · have := nDigits_le n.natAbs (by omega)
    rw [List.length_cons, Lib.decDigits_length]; omega
  · have := nDigits_le n.toNat (by omega)
    rw [Lib.decDigits_length]; omega

set_option maxHeartbeats 400000 in
theorem drawReadDec_at (a : Option Addr) (len cap : Nat) (zs : List Int) (w : World) (hr : Bytes w w.heap.size a len zs) :
    Calls Tryd.prog 9 #[.slice a len cap] w (TextOf w) := by
  have HR := Lib.hid hr
  clear hr
  go_enter Tryd.func9, Tryd.ntmps9
  go_wp2_with fail
  refine (l01New_at a len cap zs _ HR.out).mono ?_
  rintro e w1 ⟨rfl, ⟨h, c1⟩, g0⟩
  have C1 := Lib.hid c1
  clear c1
  go_wp2_with fail
  refine (l01Once_at _ _ _ _ _ _ _ _ _ _ C1.out (by omega) (by omega)).mono ?_
  rintro e w2 ⟨b, i2, h2, rfl, c2, g2⟩
  have C2 := Lib.hid c2
  clear c2
  cases b
  · go_wp2_with fail
    refine (l01Below_any _ _ _ _ _ _ _ _ _ _ C2.out (by omega) (by omega)).mono ?_
    rintro e w3 ⟨y, i3, h3, hy0, hy1, rfl, c3, g3⟩
    clear c3
    go_wp2_with fail
    refine (specDecText y _ (by omega) (by omega)).mono ?_
    rintro e w4 ⟨rfl, rfl⟩
    have hl := itoa_len y ⟨by omega, by omega⟩
    go_wp2_with fail
    go_ret
    exact ⟨_, by simp [ByteArray.size]; omega, rfl, below_new g0 (g2.trans g3)⟩
  · go_wp2_with fail
    refine (l01Pick_at (fun s => s.size ≤ 1000) _ _ _ _ _ _ _ _ w2.heap.size 8 8 _ (C2.out.kept (World.grownBy_alloc w2 _ none) (by simp) (fun _ _ => Or.inl (by simp))) (by omega) (by omega) (by simp) (by have := C2.out.lt; omega) ?_).mono ?_
    · exact new_strs w2 [⟨#[]⟩, ⟨#[45, 49]⟩, ⟨#[48, 48]⟩, ⟨#[48, 49]⟩, ⟨#[49, 120]⟩, ⟨#[57, 57, 57, 57, 57, 57, 57, 57, 57]⟩, ⟨#[49, 48, 48, 48, 48, 48, 48, 48, 48, 48]⟩, ⟨#[49, 56, 52, 52, 54, 55, 52, 52, 48, 55, 51, 55, 48, 57, 53, 53, 49, 54, 49, 55]⟩] 9 (by
        intro x hx
        simp only [List.mem_cons, List.not_mem_nil, or_false] at hx
        rcases hx with rfl | rfl | rfl | rfl | rfl | rfl | rfl | rfl <;> decide)
    · rintro e w3 ⟨x, i3, h3, hx, rfl, c3, g3⟩
      clear c3
      go_wp2_with fail
      go_ret
      exact ⟨x, hx, rfl, below_new g0 ((g2.trans ((World.grownBy_alloc w2 _ none).but _)).trans g3)⟩
end Go.Proofs.YtibimjbnhgehoaaDoor
