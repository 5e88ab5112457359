/- The model's draws for wrapped texts. -/
import Derived.Test.YtgonnibakkabjabPlainDraw
import Derived.Test.YtgonnibakkabjabBent
import Derived.Test.YtgonnibakkabjabWrap
namespace Go.Proofs.Ytgonnibakkabjab
open Go.RowKit
set_option linter.unusedVariables false

set_option maxHeartbeats 1000000 in
theorem drawWrap_at (a : Option Addr) (len cap : Nat) (zs : List Int) (w : World) (hr : Bytes w w.heap.size a len zs) :
    Calls Try.prog 8 #[.slice a len cap] w fun e w' => ∃ (s : ByteArray) (b : Bool), s.size ≤ 2001 ∧ e = .returned (.tuple #[.string s, .bool b]) ∧ Below w.heap.size w w' := by
  have HR := Lib.hid hr
  clear hr
  go_enter Try.func8, Try.ntmps8
  go_wp2_with fail
  refine (l01New_at a len cap zs _ HR.out).mono ?_
  rintro e w1 ⟨rfl, ⟨h, c1⟩, g0⟩
  have C1 := Lib.hid c1
  clear c1
  go_wp2_with fail
  refine (l03Plain_at _ _ _ _ _ _ _ _ _ C1.out).mono ?_
  rintro e w2 ⟨s, i2, h2, hs, rfl, c2, g2⟩
  have hs : s.size ≤ 668 := hs
  have C2 := Lib.hid c2
  clear c2
  go_wp2_with fail
  refine (l01Once_at _ _ _ _ _ _ _ _ 20 _ C2.out (by omega) (by omega)).mono ?_
  rintro e w3 ⟨b, i3, h3, rfl, c3, g3⟩
  have C3 := Lib.hid c3
  clear c3
  cases b
  · go_wp2_with fail
    refine (l01Once_at _ _ _ _ _ _ _ _ 2 _ C3.out (by omega) (by omega)).mono ?_
    rintro e w4 ⟨b, i4, h4, rfl, c4, g4⟩
    clear c4
    go_wp2
    go_ret2
    exact ⟨s, b, by omega, rfl, below_new g0 ((g2.trans g3).trans g4)⟩
  · go_wp2_with fail
    refine (l01Below_any _ _ _ _ _ _ _ _ 2 _ C3.out (by omega) (by omega)).mono ?_
    rintro e w4 ⟨x, i4, h4, hx0, hx1, rfl, c4, g4⟩
    obtain ⟨x, rfl⟩ := Int.eq_ofNat_of_zero_le hx0
    obtain ⟨y, hy⟩ : ∃ y : Nat, 2000 + x = y := ⟨_, rfl⟩
    have hm := zeros_made y w4 (by omega)
    have hz := zeros_text y w4
    have hyi : (2000 : Int) + (x : Int) = (y : Int) := by omega
    obtain ⟨Z, hZ⟩ : ∃ Z : ByteArray, (⟨(List.replicate y 0).toArray⟩ : ByteArray) = Z := ⟨_, rfl⟩
    have hZs : Z.size ≤ 2001 := by rw [← hZ]; simp [ByteArray.size]; omega
    rw [hZ] at hz
    have C4 := Lib.hid (c4.kept (World.grownBy_alloc w4 (zerosObj y) none) (by simp) (fun _ _ => Or.inl (by simp)))
    have G4 := Lib.hid ((g2.trans g3).trans (g4.trans ((World.grownBy_alloc w4 (zerosObj y) none).but _)))
    clear hZ hy c4
    go_wp2_with fail
    refine (l01Once_at _ _ _ _ _ _ _ _ 2 _ C4.out (by omega) (by omega)).mono ?_
    rintro e w5 ⟨b, i5, h5, rfl, c5, g5⟩
    clear c5
    go_wp2
    go_ret2
    exact ⟨Z, b, by omega, rfl, below_new g0 (G4.out.trans g5)⟩

set_option maxHeartbeats 1000000 in
theorem drawUnwrap_at (a : Option Addr) (len cap : Nat) (zs : List Int) (w : World) (hr : Bytes w w.heap.size a len zs) :
    Calls Try.prog 12 #[.slice a len cap] w fun e w' => ∃ s : ByteArray, s.size ≤ 1000 ∧ e = .returned (.string s) ∧ Below w.heap.size w w' := by
  have HR := Lib.hid hr
  clear hr
  go_enter Try.func12, Try.ntmps12
  go_wp2_with fail
  refine (l01New_at a len cap zs _ HR.out).mono ?_
  rintro e w1 ⟨rfl, ⟨h, c1⟩, g0⟩
  have C1 := Lib.hid c1
  clear c1
  go_wp2_with fail
  refine (l03Plain_at _ _ _ _ _ _ _ _ _ C1.out).mono ?_
  rintro e w2 ⟨s, i2, h2, hs, rfl, c2, g2⟩
  have hs : s.size ≤ 668 := hs
  have C2 := Lib.hid c2
  clear c2
  go_wp2_with fail
  refine (l01Once_at _ _ _ _ _ _ _ _ 5 _ C2.out (by omega) (by omega)).mono ?_
  rintro e w3 ⟨b, i3, h3, rfl, c3, g3⟩
  have C3 := Lib.hid c3
  clear c3
  cases b
  · go_wp2_with fail
    refine (l01Once_at _ _ _ _ _ _ _ _ 2 _ C3.out (by omega) (by omega)).mono ?_
    rintro e w4 ⟨b, i4, h4, rfl, c4, g4⟩
    have C4 := Lib.hid c4
    clear c4
    obtain ⟨X, hX, hXs⟩ := text_of (wrapB s.data.toList b)
    have hsl : s.data.toList.length = s.size := by simp
    have hX9 : X.size ≤ 998 := by
      have := (wrapB_len b (l := s.data.toList) (by rw [hsl]; omega)).1
      rw [hsl] at this
      omega
    have HX := Lib.hid hX
    clear hX hXs hsl
    go_wp2_with fail
    refine (specWrap s X b HX.out _).mono ?_
    rintro e w5 ⟨rfl, hb⟩
    have C5 := Lib.hid (C4.out.below hb)
    have G5 := Lib.hid ((grown_of_below hb).but (some w.heap.size))
    clear hb C4
    go_wp2_with fail
    refine (l01Bent_at _ _ _ _ _ _ _ _ X _ C5.out (by omega)).mono ?_
    rintro e w6 ⟨r, i6, h6, hr, rfl, c6, g6⟩
    have hr : r.size ≤ X.size + 2 := hr
    clear c6
    go_wp2_with fail
    go_ret
    exact ⟨r, by omega, rfl, below_new g0 ((((g2.trans g3).trans g4).trans G5.out).trans g6)⟩
  · go_wp2_with fail
    refine (l01Pick_at (fun s => s.size ≤ 100) _ _ _ _ _ _ _ _ w3.heap.size 8 8 _ (C3.out.kept (World.grownBy_alloc w3 _ none) (by simp) (fun _ _ => Or.inl (by simp))) (by omega) (by omega) (by simp) (by have := C3.out.lt; omega) ?_).mono ?_
    · exact new_strs w3 [⟨#[]⟩, ⟨#[1]⟩, ⟨#[2]⟩, ⟨#[97, 98, 3]⟩, ⟨#[5, 97, 97, 97, 97, 97, 1]⟩, ⟨#[97, 97, 97, 97, 97, 97, 97, 97, 97, 97, 97, 97, 0]⟩, ⟨#[2, 97, 98, 1]⟩, ⟨#[1, 97, 128, 1, 1]⟩] 9 (by
        intro x hx
        simp only [List.mem_cons, List.not_mem_nil, or_false] at hx
        rcases hx with rfl | rfl | rfl | rfl | rfl | rfl | rfl | rfl <;> decide)
    · rintro e w4 ⟨x, i4, h4, hx, rfl, c4, g4⟩
      have hx : x.size ≤ 100 := hx
      clear c4
      have hxl : x.data.toList.length = x.size := by simp
      obtain ⟨X, hX, hXs⟩ := text_of (sealedB x.data.toList)
      rw [sealed_len, hxl] at hXs
      have HX := Lib.hid hX
      clear hX hxl
      go_wp2_with fail
      refine (specSealed_as x X (by omega) HX.out _).mono ?_
      rintro e w5 ⟨rfl, hb⟩
      have G5 := Lib.hid ((grown_of_below hb).but (some w.heap.size))
      clear hb
      go_wp2_with fail
      go_ret
      exact ⟨X, by omega, rfl, below_new g0 ((((g2.trans g3).trans ((World.grownBy_alloc w3 _ none).but _)).trans g4).trans G5.out)⟩
end Go.Proofs.Ytgonnibakkabjab
