/- The model's draws for Zig and Zag. -/
import Derived.Test.YtkhpgomgaimhkaaDrawInt
namespace Go.Proofs.Ytkhpgomgaimhkaa
open Go.RowKit
set_option linter.unusedVariables false

set_option maxHeartbeats 400000 in
theorem drawZig_at (a : Option Addr) (len cap : Nat) (zs : List Int) (w : World) (hr : Bytes w w.heap.size a len zs) :
    Calls Try.prog 23 #[.slice a len cap] w (IntOf w) := by
  have HR := Lib.hid hr
  clear hr
  go_enter Try.func23, Try.ntmps23
  go_wp2_with fail
  refine (l01New_at a len cap zs _ HR.out).mono ?_
  rintro e w1 ⟨rfl, ⟨h, c1⟩, g0⟩
  have C1 := Lib.hid c1
  clear c1
  go_wp2_with fail
  refine (l01Int_at _ _ _ _ _ _ _ _ _ C1.out).mono ?_
  rintro e w2 ⟨x, i2, h2, hx, rfl, c2, g2⟩
  have C2 := Lib.hid c2
  have HX := Lib.hid hx
  clear c2 hx
  go_wp2_with fail
  refine (l01Below_any _ _ _ _ _ _ _ _ 1000 _ C2.out (by omega) (by omega)).mono ?_
  rintro e w3 ⟨y, i3, h3, hy0, hy1, rfl, c3, g3⟩
  have C3 := Lib.hid c3
  clear c3
  go_wp2_with fail
  refine (l01PickInt_at I64 _ _ a len cap zs i3 h3 w3.heap.size 5 5 _ (C3.out.kept (World.grownBy_alloc w3 _ none) (by simp) (fun _ _ => Or.inl (by simp))) (by omega) (by omega) (by simp) (by have := C3.out.lt; omega) ?_).mono ?_
  · exact new_ints w3 [x, -1000000000, -1000000001, -5, y - 500] 3 (by
      intro u hu
      have hx := HX.out
      simp only [List.mem_cons, List.not_mem_nil, or_false] at hu
      unfold I64 at hx ⊢
      omega)
  · rintro e w4 ⟨z, i4, h4, hz, rfl, c4, g4⟩
    have HZ := Lib.hid hz
    clear c4 hz
    go_wp2_with fail
    go_ret
    exact ⟨z, HZ.out, rfl, below_new g0 (((g2.trans g3).trans ((World.grownBy_alloc w3 _ none).but _)).trans g4)⟩

set_option maxHeartbeats 400000 in
theorem drawZag_at (a : Option Addr) (len cap : Nat) (zs : List Int) (w : World) (hr : Bytes w w.heap.size a len zs) :
    Calls Try.prog 24 #[.slice a len cap] w (IntOf w) := by
  have HR := Lib.hid hr
  clear hr
  go_enter Try.func24, Try.ntmps24
  go_wp2_with fail
  refine (l01New_at a len cap zs _ HR.out).mono ?_
  rintro e w1 ⟨rfl, ⟨h, c1⟩, g0⟩
  have C1 := Lib.hid c1
  clear c1
  go_wp2_with fail
  refine (l01Int_at _ _ _ _ _ _ _ _ _ C1.out).mono ?_
  rintro e w2 ⟨x, i2, h2, hx, rfl, c2, g2⟩
  have C2 := Lib.hid c2
  have HX := Lib.hid hx
  clear c2 hx
  go_wp2_with fail
  refine (l01Below_any _ _ _ _ _ _ _ _ 1000 _ C2.out (by omega) (by omega)).mono ?_
  rintro e w3 ⟨y, i3, h3, hy0, hy1, rfl, c3, g3⟩
  have C3 := Lib.hid c3
  clear c3
  go_wp2_with fail
  refine (l01PickInt_at I64 _ _ a len cap zs i3 h3 w3.heap.size 5 5 _ (C3.out.kept (World.grownBy_alloc w3 _ none) (by simp) (fun _ _ => Or.inl (by simp))) (by omega) (by omega) (by simp) (by have := C3.out.lt; omega) ?_).mono ?_
  · exact new_ints w3 [x, 2000000000, 2000000001, 7, y] 3 (by
      intro u hu
      have hx := HX.out
      simp only [List.mem_cons, List.not_mem_nil, or_false] at hu
      unfold I64 at hx ⊢
      omega)
  · rintro e w4 ⟨z, i4, h4, hz, rfl, c4, g4⟩
    have HZ := Lib.hid hz
    clear c4 hz
    go_wp2_with fail
    go_ret
    exact ⟨z, HZ.out, rfl, below_new g0 (((g2.trans g3).trans ((World.grownBy_alloc w3 _ none).but _)).trans g4)⟩
end Go.Proofs.Ytkhpgomgaimhkaa
