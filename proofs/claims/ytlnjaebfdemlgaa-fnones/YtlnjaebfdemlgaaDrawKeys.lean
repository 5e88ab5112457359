/- The model's draws for filters: texts, numbers of bits, keys. -/
import Derived.Test.YtlnjaebfdemlgaaOwnStr
import Derived.Test.YtlnjaebfdemlgaaDrawText
import Derived.Test.YtlnjaebfdemlgaaDraws
namespace Go.Proofs.Ytlnjaebfdemlgaa
open Go.RowKit
set_option linter.unusedVariables false

set_option maxHeartbeats 1000000 in
set_option maxRecDepth 100000 in
theorem drawHash_at (a : Option Addr) (len cap : Nat) (zs : List Int) (w : World) (hr : Bytes w w.heap.size a len zs) :
    Calls Try.prog 21 #[.slice a len cap] w fun e w' => ∃ s : ByteArray, e = .returned (.string s) ∧ s.size ≤ 100 ∧ Below w.heap.size w w' := by
  have HR := Lib.hid hr
  clear hr
  go_enter Try.func21, Try.ntmps21
  go_wp2_with fail
  refine (l01New_at a len cap zs _ HR.out).mono ?_
  rintro e w1 ⟨rfl, ⟨h, c1⟩, g0⟩
  have C1 := Lib.hid c1
  clear c1
  go_wp2_with fail
  refine (l04Row_at _ _ _ _ _ _ _ _ _ C1.out).mono ?_
  rintro e w2 ⟨R, i2, h2, hR, rfl, c2, g2⟩
  have hR : R.size ≤ 40 := hR
  have C2 := Lib.hid c2
  have G2 := Lib.hid g2
  clear c2 g2
  go_wp2_with fail
  refine (l01Below_any _ _ _ _ _ _ _ _ 4 _ C2.out (by omega) (by omega)).mono ?_
  rintro e w3 ⟨x, i3, h3, hx0, hx1, rfl, c3, g3⟩
  obtain ⟨n, rfl⟩ := Int.eq_ofNat_of_zero_le hx0
  have C3 := Lib.hid c3
  have G3 := Lib.hid (G2.out.trans g3)
  clear c3 g3 hx0
  go_wp2_with fail
  refine (l01Text_at _ _ _ _ _ _ _ _ n _ C3.out (by omega)).mono ?_
  rintro e w4 ⟨s, i4, h4, hs, rfl, c4, g4⟩
  have G4 := Lib.hid (G3.out.trans g4)
  have hs4 : s.size ≤ 4 := by omega
  clear c4 g4 hs
  go_wp2
  go_ret
  exact ⟨R ++ s, rfl, by rw [ByteArray.size_append]; omega, below_new g0 G4.out⟩
set_option maxHeartbeats 1000000 in
set_option maxRecDepth 100000 in
theorem drawProbes_at (a : Option Addr) (len cap : Nat) (zs : List Int) (w : World) (hr : Bytes w w.heap.size a len zs) :
    Calls Try.prog 19 #[.slice a len cap] w fun e w' => ∃ (s : ByteArray) (b : Int), e = .returned (.tuple #[.string s, .int .i64 b]) ∧ s.size ≤ 100 ∧ -1 ≤ b ∧ b ≤ 100001 ∧ Below w.heap.size w w' := by
  have HR := Lib.hid hr
  clear hr
  go_enter Try.func19, Try.ntmps19
  go_wp2_with fail
  refine (l01New_at a len cap zs _ HR.out).mono ?_
  rintro e w1 ⟨rfl, ⟨h, c1⟩, g0⟩
  have C1 := Lib.hid c1
  clear c1
  go_wp2_with fail
  refine (l04Row_at _ _ _ _ _ _ _ _ _ C1.out).mono ?_
  rintro e w2 ⟨R, i2, h2, hR, rfl, c2, g2⟩
  have hR : R.size ≤ 40 := hR
  have C2 := Lib.hid c2
  have G2 := Lib.hid g2
  clear c2 g2
  go_wp2_with fail
  refine (l01PickInt_at (fun x => -1 ≤ x ∧ x ≤ 100001) _ _ _ _ _ _ _ _ w2.heap.size 7 7 _ (C2.out.new _) (by omega) (by omega) (by simp) (by have := C2.out.lt; omega) (new_ints w2 [8, 16, 80, 100000, 100001, 0, -1] 3 (by decide))).mono ?_
  rintro e w3 ⟨x, i3, h3, hx, rfl, c3, g3⟩
  have G3 := Lib.hid (G2.out.trans (grown_two (World.grownBy_alloc _ _ _) g3))
  clear c3 g3
  go_wp2
  go_ret2
  exact ⟨R, x, rfl, by omega, hx.1, hx.2, below_new g0 G3.out⟩
/-- Some keys, and the cursor somewhere behind. -/
def SomeKeys (T p : Nat) (a : Option Addr) (len cap : Nat) (zs : List Int) (w : World) (e : Ending) (w' : World) : Prop :=
  ∃ (v : Value) (xs : List ByteArray) (i : Nat) (h : Int), e = .returned v ∧ xs.length ≤ 6 ∧ (∀ x ∈ xs, x.size ≤ 60) ∧ Keyed w w' T p a len cap zs i h v xs

set_option maxHeartbeats 2000000 in
set_option maxRecDepth 100000 in
theorem l06Keys_at (T p : Nat) (a : Option Addr) (len cap : Nat) (zs : List Int) (i : Nat) (h : Int) (w : World) (cu : CurAt w T p a len cap zs i h) :
    Calls Try.prog 35 #[.pointer (some ⟨p, 0, none⟩)] w (SomeKeys T p a len cap zs w) := by
  have hpl := cu.lt
  have HRL := Lib.hid cu.rowlt
  have D0 := Lib.hid (show Keyed w (w.alloc (.cells #[] 9)) T p a len cap zs i h (.slice (some ⟨w.heap.size, 0, none⟩) 0 0) [] from ⟨owns_made w, cu.new _, World.grownBy_alloc _ _ _⟩)
  clear cu
  go_enter Try.func35, Try.ntmps35
  go_wp2_with fail
  refine (l01Below_any _ _ _ _ _ _ _ _ 7 _ D0.out.cur (by omega) (by omega)).mono ?_
  rintro e w1 ⟨N, i1, h1, hN0, hN1, rfl, c1, g1⟩
  obtain ⟨N, rfl⟩ := Int.eq_ofNat_of_zero_le hN0
  have hN : N ≤ 6 := by omega
  have D1 := Lib.hid (D0.out.draw hpl g1 c1)
  clear c1 g1 hN0 hN1
  go_wp2_with fail
  go_loopw [3, 5] (fun vv ii wr => ∃ (j ih : Nat) (hh : Int) (xs : List ByteArray), j ≤ N ∧ ii = .int .i64 j ∧ xs.length = j ∧ Hid (Keyed w wr T p a len cap zs ih hh vv xs ∧ ∀ x ∈ xs, x.size ≤ 60)) (fun _ ii _ => N - (intOf ii).toNat)
  case atStart => exact ⟨0, i1, h1, [], by omega, rfl, rfl, ⟨D1.out, fun x hx => by simp at hx⟩⟩
  case round =>
    obtain ⟨j, ih, hh, xs, hj, rfl, hxl, HX⟩ := hrel
    obtain ⟨ad, cp, hv⟩ := HX.out.1.own.form
    rw [hxl] at hv
    subst hv
    have HL := Lib.hid hxl
    clear hxl
    by_cases hlt : j < N
    · have j1 : (j : Int) < (N : Int) := by omega
      go_wp2_with fail
      refine (l04Row_at _ _ _ _ _ _ _ _ _ HX.out.1.cur).mono ?_
      rintro e w5 ⟨R, i5, h5, hR, rfl, c5, g5⟩
      have hR : R.size ≤ 40 := hR
      have P5 := Lib.hid (HX.out.1.draw hpl g5 c5)
      have HS := Lib.hid HX.out.2
      clear c5 g5 HX
      go_wp2_with fail
      refine (l01Pick_at (fun x => x.size ≤ 2) _ _ _ _ _ _ _ _ w5.heap.size 3 3 _ (P5.out.cur.new _) (by omega) (by omega) (by simp) (by have := P5.out.cur.lt; omega) (new_strs w5 [⟨#[]⟩, ⟨#[120]⟩, ⟨#[0, 121]⟩] 9 (by decide))).mono ?_
      rintro e w6 ⟨y, i6, h6, hy, rfl, c6, g6⟩
      have hy : y.size ≤ 2 := hy
      have P6 := Lib.hid ((P5.out.new (.cells #[.string ⟨#[]⟩, .string ⟨#[120]⟩, .string ⟨#[0, 121]⟩] 9)).draw hpl g6 c6)
      have N7 := Lib.hid (new_text w6 (R ++ y))
      have P7 := Lib.hid (P6.out.new (.cells #[.string (R ++ y)] 9))
      clear c6 g6
      go_wp2_with (at_builtin; refine wpList_plain rfl (fun K hK => ?_); refine op_pushW [R ++ y] _ _ rfl rfl rfl rfl N7.out P7.out.own P7.out.grow.size (by rw [HL.out]; simp; omega) ?_; intro v7 w7 o7 gr7; refine hK _ _ ?_; clear hK K; have P8 := Lib.hid (P7.out.push hpl HRL.out o7 gr7); clear o7 gr7)
      go_roundw
      case rel =>
        refine ⟨j + 1, i6, h6, xs ++ [R ++ y], by omega, by go_num, by rw [List.length_append, HL.out]; rfl, ⟨P8.out, fun x hx => ?_⟩⟩
        rcases List.mem_append.1 hx with hm | hm
        · exact HS.out x hm
        · rw [List.mem_singleton.1 hm, ByteArray.size_append]; omega
      case measure => simp [intOf]; omega
    · go_wp2
      go_ret
      exact ⟨_, xs, ih, hh, rfl, by have := HL.out; omega, HX.out.2, HX.out.1⟩
end Go.Proofs.Ytlnjaebfdemlgaa
