/- The model's draws for packed texts. -/
import Derived.Test.YtjgdjpjafhllhaaPlainDraw
import Derived.Test.YtjgdjpjafhllhaaBent
import Derived.Test.YtjgdjpjafhllhaaSpecCompress
import Derived.Test.YtjgdjpjafhllhaaTripPure
namespace Go.Proofs.Ytjgdjpjafhllhaa
open Go.RowKit
set_option linter.unusedVariables false

/-- A text of so many bytes at most that is drawn by a code. -/
def LongOf (n : Nat) (w : World) (e : Ending) (w' : World) : Prop := ∃ s : ByteArray, s.size ≤ n ∧ e = .returned (.string s) ∧ Below w.heap.size w w'

set_option maxHeartbeats 1000000 in
theorem drawTokens_at (a : Option Addr) (len cap : Nat) (zs : List Int) (w : World) (hr : Bytes w w.heap.size a len zs) :
    Calls Try.prog 14 #[.slice a len cap] w (LongOf 2001 w) := by
  have HR := Lib.hid hr
  clear hr
  go_enter Try.func14, Try.ntmps14
  go_wp2_with fail
  refine (l01New_at a len cap zs _ HR.out).mono ?_
  rintro e w1 ⟨rfl, ⟨h, c1⟩, g0⟩
  have C1 := Lib.hid c1
  clear c1
  go_wp2_with fail
  refine (l01Once_at _ _ _ _ _ _ _ _ 20 _ C1.out (by omega) (by omega)).mono ?_
  rintro e w2 ⟨b, i2, h2, rfl, c2, g2⟩
  have C2 := Lib.hid c2
  clear c2
  cases b
  · go_wp2_with fail
    refine (l03Plain_at _ _ _ _ _ _ _ _ _ C2.out).mono ?_
    rintro e w3 ⟨s, i3, h3, hs, rfl, c3, g3⟩
    have hs : s.size ≤ 668 := hs
    clear c3
    go_wp2_with fail
    go_ret
    exact ⟨s, by omega, rfl, below_new g0 (g2.trans g3)⟩
  · go_wp2_with fail
    refine (l01Below_any _ _ _ _ _ _ _ _ 3 _ C2.out (by omega) (by omega)).mono ?_
    rintro e w3 ⟨x, i3, h3, hx0, hx1, rfl, c3, g3⟩
    obtain ⟨x, rfl⟩ := Int.eq_ofNat_of_zero_le hx0
    clear c3
    obtain ⟨y, hy⟩ : ∃ y : Nat, 1999 + x = y := ⟨_, rfl⟩
    have hm := zeros_made y w3 (by omega)
    have hz := zeros_text y w3
    have hyi : (1999 : Int) + (x : Int) = (y : Int) := by omega
    obtain ⟨Z, hZ⟩ : ∃ Z : ByteArray, (⟨(List.replicate y 0).toArray⟩ : ByteArray) = Z := ⟨_, rfl⟩
    have hZs : Z.size ≤ 2001 := by rw [← hZ]; simp [ByteArray.size]; omega
    rw [hZ] at hz
    clear hZ hy
    go_wp2_with fail
    go_ret
    exact ⟨Z, hZs, rfl, below_new g0 ((g2.trans g3).trans ((World.grownBy_alloc w3 (zerosObj y) none).but _))⟩

set_option maxHeartbeats 1000000 in
theorem drawCompress_at (a : Option Addr) (len cap : Nat) (zs : List Int) (w : World) (hr : Bytes w w.heap.size a len zs) :
    Calls Try.prog 18 #[.slice a len cap] w (LongOf 668 w) := by
  have HR := Lib.hid hr
  clear hr
  go_enter Try.func18, Try.ntmps18
  go_wp2_with fail
  refine (l01New_at a len cap zs _ HR.out).mono ?_
  rintro e w1 ⟨rfl, ⟨h, c1⟩, g0⟩
  have C1 := Lib.hid c1
  clear c1
  go_wp2_with fail
  refine (l03Plain_at _ _ _ _ _ _ _ _ _ C1.out).mono ?_
  rintro e w3 ⟨s, i3, h3, hs, rfl, c3, g3⟩
  have hs : s.size ≤ 668 := hs
  clear c3
  go_wp2_with fail
  go_ret
  exact ⟨s, by omega, rfl, below_new g0 g3⟩

set_option maxHeartbeats 1000000 in
theorem drawExpand_at (a : Option Addr) (len cap : Nat) (zs : List Int) (w : World) (hr : Bytes w w.heap.size a len zs) :
    Calls Try.prog 22 #[.slice a len cap] w (LongOf 1000 w) := by
  have HR := Lib.hid hr
  clear hr
  go_enter Try.func22, Try.ntmps22
  go_wp2_with fail
  refine (l01New_at a len cap zs _ HR.out).mono ?_
  rintro e w1 ⟨rfl, ⟨h, c1⟩, g0⟩
  have C1 := Lib.hid c1
  clear c1
  go_wp2_with fail
  refine (l01Once_at _ _ _ _ _ _ _ _ 6 _ C1.out (by omega) (by omega)).mono ?_
  rintro e w2 ⟨b, i2, h2, rfl, c2, g2⟩
  have C2 := Lib.hid c2
  clear c2
  cases b
  · go_wp2_with fail
    refine (l03Plain_at _ _ _ _ _ _ _ _ _ C2.out).mono ?_
    rintro e w3 ⟨s, i3, h3, hs, rfl, c3, g3⟩
    have hs : s.size ≤ 668 := hs
    have C3 := Lib.hid c3
    clear c3
    go_wp2_with fail
    refine (specCompress s _).mono ?_
    have hcl := compress_hardly s.data.toList
    have hsl : s.data.toList.length = s.size := by simp
    rw [hsl] at hcl
    obtain ⟨X, hX⟩ : ∃ X : ByteArray, (⟨(compress s.data.toList).toArray⟩ : ByteArray) = X := ⟨_, rfl⟩
    have hXs : X.size ≤ 998 := by rw [← hX]; simp [ByteArray.size]; omega
    unfold PackOut
    rw [hX]
    clear hcl hsl hX
    rintro e w4 ⟨rfl, hb⟩
    have C4 := Lib.hid (C3.out.below hb)
    have G4 := Lib.hid ((grown_of_below hb).but (some w.heap.size))
    clear hb C3
    go_wp2_with fail
    refine (l01Bent_at _ _ _ _ _ _ _ _ X _ C4.out (by omega)).mono ?_
    rintro e w5 ⟨r, i5, h5, hr, rfl, c5, g5⟩
    have hr : r.size ≤ X.size + 2 := hr
    clear c5
    go_wp2_with fail
    go_ret
    exact ⟨r, by omega, rfl, below_new g0 (((g2.trans g3).trans G4.out).trans g5)⟩
  · go_wp2_with fail
    refine (l01Pick_at (fun s => s.size ≤ 1000) _ _ _ _ _ _ _ _ w2.heap.size 11 11 _ (C2.out.kept (World.grownBy_alloc w2 _ none) (by simp) (fun _ _ => Or.inl (by simp))) (by omega) (by omega) (by simp) (by have := C2.out.lt; omega) ?_).mono ?_
    · exact new_strs w2 [⟨#[]⟩, ⟨#[0]⟩, ⟨#[1]⟩, ⟨#[1, 97]⟩, ⟨#[2, 97, 98, 1, 99]⟩, ⟨#[128, 1]⟩, ⟨#[1, 97, 128, 1]⟩, ⟨#[1, 97, 128, 0]⟩, ⟨#[1, 97, 128]⟩, ⟨#[1, 97, 128, 2]⟩, ⟨#[5, 97, 97, 97, 97, 97]⟩] 9 (by
        intro x hx
        simp only [List.mem_cons, List.not_mem_nil, or_false] at hx
        rcases hx with rfl | rfl | rfl | rfl | rfl | rfl | rfl | rfl | rfl | rfl | rfl <;> decide)
    · rintro e w3 ⟨x, i3, h3, hx, rfl, c3, g3⟩
      clear c3
      go_wp2_with fail
      go_ret
      exact ⟨x, hx, rfl, below_new g0 ((g2.trans ((World.grownBy_alloc w2 _ none).but _)).trans g3)⟩
end Go.Proofs.Ytjgdjpjafhllhaa
