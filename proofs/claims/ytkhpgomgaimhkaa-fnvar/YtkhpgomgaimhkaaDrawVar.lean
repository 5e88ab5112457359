/- The model's draws for PutVar and GetVar. -/
import Derived.Test.YtkhpgomgaimhkaaBent
import Derived.Test.YtkhpgomgaimhkaaVarAs
namespace Go.Proofs.Ytkhpgomgaimhkaa
open Go.RowKit
set_option linter.unusedVariables false

/-- A text and a place, drawn by a code. -/
def VarAt (w : World) (e : Ending) (w' : World) : Prop := ∃ (s : ByteArray) (x : Int), s.size ≤ 100 ∧ I64 x ∧ e = .returned (.tuple #[.string s, .int .i64 x]) ∧ Below w.heap.size w w'

set_option maxHeartbeats 400000 in
theorem drawPutVar_at (a : Option Addr) (len cap : Nat) (zs : List Int) (w : World) (hr : Bytes w w.heap.size a len zs) :
    Calls Try.prog 16 #[.slice a len cap] w (IntOf w) := by
  have HR := Lib.hid hr
  clear hr
  go_enter Try.func16, Try.ntmps16
  go_wp2_with fail
  refine (l01New_at a len cap zs _ HR.out).mono ?_
  rintro e w1 ⟨rfl, ⟨h, c1⟩, g0⟩
  have C1 := Lib.hid c1
  clear c1
  go_wp2_with fail
  refine (l01Int_at _ _ _ _ _ _ _ _ _ C1.out).mono ?_
  rintro e w2 ⟨x, i2, h2, hx, rfl, c2, g1⟩
  have HX := Lib.hid hx
  clear c2 hx
  go_wp2_with fail
  go_ret
  exact ⟨x, HX.out, rfl, below_new g0 g1⟩

theorem var_len9 (n : Int) : (putVar n).length ≤ 9 := by
  unfold putVar
  split
  · exact var_len_le 8 _ (by omega)
  · simp

set_option maxHeartbeats 1000000 in
set_option maxRecDepth 100000 in
theorem drawGetVar_at (a : Option Addr) (len cap : Nat) (zs : List Int) (w : World) (hr : Bytes w w.heap.size a len zs) :
    Calls Try.prog 18 #[.slice a len cap] w (VarAt w) := by
  have HR := Lib.hid hr
  clear hr
  go_enter Try.func18, Try.ntmps18
  go_wp2_with fail
  refine (l01New_at a len cap zs _ HR.out).mono ?_
  rintro e w1 ⟨rfl, ⟨h, c1⟩, g0⟩
  have C1 := Lib.hid c1
  clear c1
  go_wp2_with fail
  refine (l01Pick_at (fun t => t.size ≤ 4) _ _ a len cap zs _ _ w1.heap.size 2 2 _ (C1.out.kept (World.grownBy_alloc w1 _ none) (by simp) (fun _ _ => Or.inl (by simp))) (by omega) (by omega) (by simp) (by have := C1.out.lt; omega) (new_strs w1 [(⟨#[]⟩ : ByteArray), ⟨#[120, 120]⟩] 9 (fun x hx => by
    simp only [List.mem_cons, List.not_mem_nil, or_false] at hx
    rcases hx with rfl | rfl <;> decide))).mono ?_
  rintro e w2 ⟨s0, i2, h2, hs0, rfl, c2, g2⟩
  have C2 := Lib.hid c2
  have G2 := Lib.hid (((World.grownBy_alloc w1 _ none).but _).trans g2)
  have hs0 : s0.size ≤ 4 := hs0
  clear c2 g2
  go_wp2_with fail
  refine (l01Below_any _ _ _ _ _ _ _ _ 100000 _ C2.out (by omega) (by omega)).mono ?_
  rintro e w3 ⟨y, i3, h3, hy0, hy1, rfl, c3, g3⟩
  have C3 := Lib.hid c3
  have G3 := Lib.hid (G2.out.trans g3)
  clear c3 g3 G2
  go_wp2_with fail
  refine (l01PickInt_at I64 _ _ a len cap zs i3 h3 w3.heap.size 7 7 _ (C3.out.kept (World.grownBy_alloc w3 _ none) (by simp) (fun _ _ => Or.inl (by simp))) (by omega) (by omega) (by simp) (by have := C3.out.lt; omega) (new_ints w3 [0, 1, 127, 128, 16384, 4611686018427387903, y] 3 (by
      intro u hu
      simp only [List.mem_cons, List.not_mem_nil, or_false] at hu
      unfold I64
      omega))).mono ?_
  rintro e w4 ⟨n, i4, h4, hn, rfl, c4, g4⟩
  have C4 := Lib.hid c4
  have G4 := Lib.hid ((G3.out.trans ((World.grownBy_alloc w3 _ none).but _)).trans g4)
  clear c4 g4 G3 hn
  obtain ⟨A, hA, hAl⟩ := text_of (putVar n)
  have HA := Lib.hid hA
  have ha9 : A.size ≤ 9 := by rw [hAl]; exact var_len9 n
  clear hA hAl
  go_wp2_with fail
  refine (specPutVar_as n A HA.out _).mono ?_
  rintro e w5 ⟨rfl, hb⟩
  have C5 := Lib.hid (C4.out.below hb)
  have G5 := Lib.hid (G4.out.trans ((grown_of_below hb).but _))
  clear hb G4 C4
  go_wp2_with fail
  refine (l01Bent_at _ _ _ _ _ _ _ _ A _ C5.out (by omega)).mono ?_
  rintro e w6 ⟨s1, i6, h6, hs1, rfl, c6, g6⟩
  have C6 := Lib.hid c6
  have G6 := Lib.hid (G5.out.trans g6)
  have hs1 : s1.size ≤ 11 := by have h : s1.size ≤ A.size + 2 := hs1; omega
  clear c6 g6 G5 C5
  obtain ⟨S2, hS2⟩ : ∃ S, s0 ++ s1 = S := ⟨_, rfl⟩
  have hS2s : S2.size ≤ 15 := by rw [← hS2, ByteArray.size_append]; omega
  go_wp2_with fail
  refine (l01Pick_at (fun t => t.size ≤ 4) _ _ a len cap zs _ _ w6.heap.size 2 2 _ (C6.out.kept (World.grownBy_alloc w6 _ none) (by simp) (fun _ _ => Or.inl (by simp))) (by omega) (by omega) (by simp) (by have := C6.out.lt; omega) (new_strs w6 [(⟨#[]⟩ : ByteArray), ⟨#[109, 111, 114, 101]⟩] 9 (fun x hx => by
    simp only [List.mem_cons, List.not_mem_nil, or_false] at hx
    rcases hx with rfl | rfl <;> decide))).mono ?_
  rintro e w7 ⟨s3, i7, h7, hs3, rfl, c7, g7⟩
  have C7 := Lib.hid c7
  have G7 := Lib.hid ((G6.out.trans ((World.grownBy_alloc w6 _ none).but _)).trans g7)
  have hs3 : s3.size ≤ 4 := hs3
  clear c7 g7 G6 C6
  obtain ⟨S4, hS4⟩ : ∃ S, S2 ++ s3 = S := ⟨_, rfl⟩
  have hS4s : S4.size ≤ 19 := by rw [← hS4, ByteArray.size_append]; omega
  go_wp2_with fail
  refine (l01Once_at _ _ _ _ _ _ _ _ 8 _ C7.out (by omega) (by omega)).mono ?_
  rintro e w8 ⟨b, i8, h8, rfl, c8, g8⟩
  have C8 := Lib.hid c8
  have G8 := Lib.hid (G7.out.trans g8)
  clear c8 g8 G7 C7 hS2 hS4
  cases b
  · go_wp2_with fail
    refine (l01PickInt_at I64 _ _ a len cap zs i8 h8 w8.heap.size 6 6 _ (C8.out.kept (World.grownBy_alloc w8 _ none) (by simp) (fun _ _ => Or.inl (by simp))) (by omega) (by omega) (by simp) (by have := C8.out.lt; omega) (new_ints w8 [s0.size, s0.size, 0, -1, S4.size, 9223372036854775807] 3 (by
      intro u hu
      simp only [List.mem_cons, List.not_mem_nil, or_false] at hu
      unfold I64
      omega))).mono ?_
    rintro e w9 ⟨z, i9, h9, hz, rfl, c9, g9⟩
    have HZ := Lib.hid hz
    have G9 := Lib.hid ((G8.out.trans ((World.grownBy_alloc w8 _ none).but _)).trans g9)
    clear c9 g9 G8 hz
    go_wp2_with fail
    go_ret2
    exact ⟨S4, z, by omega, HZ.out, rfl, below_new g0 G9.out⟩
  · go_wp2_with fail
    refine (l01Pick_at (fun t => t.size ≤ 12) _ _ a len cap zs _ _ w8.heap.size 6 6 _ (C8.out.kept (World.grownBy_alloc w8 _ none) (by simp) (fun _ _ => Or.inl (by simp))) (by omega) (by omega) (by simp) (by have := C8.out.lt; omega) (new_strs w8 [(⟨#[128, 0]⟩ : ByteArray), ⟨#[128]⟩, ⟨#[255, 255, 255, 255, 255, 255, 255, 255, 127]⟩, ⟨#[255, 255, 255, 255, 255, 255, 255, 255, 63]⟩, ⟨#[255, 255, 255, 255, 255, 255, 255, 255, 255, 1]⟩, ⟨#[]⟩] 9 (fun x hx => by
      simp only [List.mem_cons, List.not_mem_nil, or_false] at hx
      rcases hx with rfl | rfl | rfl | rfl | rfl | rfl <;> decide))).mono ?_
    rintro e w9 ⟨s5, i9, h9, hs5, rfl, c9, g9⟩
    have hs5 : s5.size ≤ 12 := hs5
    have C9 := Lib.hid c9
    have G9 := Lib.hid ((G8.out.trans ((World.grownBy_alloc w8 _ none).but _)).trans g9)
    clear c9 g9 G8 C8
    go_wp2_with fail
    refine (l01PickInt_at I64 _ _ a len cap zs i9 h9 w9.heap.size 6 6 _ (C9.out.kept (World.grownBy_alloc w9 _ none) (by simp) (fun _ _ => Or.inl (by simp))) (by omega) (by omega) (by simp) (by have := C9.out.lt; omega) (new_ints w9 [s0.size, s0.size, 0, -1, s5.size, 9223372036854775807] 3 (by
      intro u hu
      simp only [List.mem_cons, List.not_mem_nil, or_false] at hu
      unfold I64
      omega))).mono ?_
    rintro e w10 ⟨z, i10, h10, hz, rfl, c10, g10⟩
    have HZ := Lib.hid hz
    have G10 := Lib.hid ((G9.out.trans ((World.grownBy_alloc w9 _ none).but _)).trans g10)
    clear c10 g10 G9 hz
    go_wp2_with fail
    go_ret2
    exact ⟨s5, z, by omega, HZ.out, rfl, below_new g0 G10.out⟩
end Go.Proofs.Ytkhpgomgaimhkaa
