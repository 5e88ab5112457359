/- The model's draw of a text in which much comes again. -/
import Derived.Test.YtgonnibakkabjabDrawText
import Derived.Test.YtgonnibakkabjabDraws
import Derived.Test.YtgonnibakkabjabRowsA
namespace Go.Proofs.Ytgonnibakkabjab
open Go.RowKit
set_option linter.unusedVariables false

theorem size_add (s t : ByteArray) : (s ++ t).size = s.size + t.size := ByteArray.size_append

/-- The text of two bytes that were just built. -/
theorem two_text (w : World) (k : Nat) (hk : k < 130) : ∃ P : ByteArray, P.size = 2 ∧ (convert 22 9 (.slice (some ⟨w.heap.size, 0, none⟩) 2 2)).run Try.prog (w.alloc (.cells #[.int .u8 (k : Int), .int .u8 ((k : Int) * 7 % 256)] 5)) = .ok (.string P) (w.alloc (.cells #[.int .u8 (k : Int), .int .u8 ((k : Int) * 7 % 256)] 5)) := by
  refine ⟨⟨[UInt8.ofNat k, UInt8.ofNat (k * 7 % 256)].toArray⟩, rfl, ?_⟩
  refine str_of_cells [UInt8.ofNat k, UInt8.ofNat (k * 7 % 256)] rfl (two_bytes w _ _ ?_ ?_)
  · simp [UInt8.toNat_ofNat']; omega
  · simp [UInt8.toNat_ofNat']

set_option maxHeartbeats 2000000 in
set_option maxRecDepth 100000 in
theorem l03Plain_at (T p : Nat) (a : Option Addr) (len cap : Nat) (zs : List Int) (i0 : Nat) (h0 : Int) (w : World) (cu : CurAt w T p a len cap zs i0 h0) :
    Calls Try.prog 18 #[.pointer (some ⟨p, 0, none⟩)] w (SomeStr (fun s => s.size ≤ 668) T p a len cap zs w) := by
  have C0 := Lib.hid cu
  clear cu
  go_enter Try.func18, Try.ntmps18
  go_wp2_with fail
  refine (l01Below_any _ _ _ _ _ _ _ _ _ _ C0.out (by omega) (by omega)).mono ?_
  rintro e w1 ⟨n, i1, h1, hn0, hn1, rfl, c1, g1⟩
  obtain ⟨n, rfl⟩ := Int.eq_ofNat_of_zero_le hn0
  have C1 := Lib.hid c1
  have G1 := Lib.hid g1
  clear c1 g1
  go_wp2_with fail
  go_loopw [3, 5] (fun v kk wr => ∃ (s : ByteArray) (k i : Nat) (h : Int), v = .string s ∧ kk = .int .i64 k ∧ k ≤ n ∧ s.size ≤ 12 * k ∧ CurAt wr T p a len cap zs i h ∧ w.grownBy wr (some p)) (fun _ kk _ => n - (intOf kk).toNat)
  case atStart => exact ⟨⟨#[]⟩, 0, i1, h1, rfl, rfl, by omega, by simp [ByteArray.size], C1.out, G1.out⟩
  case round =>
    obtain ⟨s, k, i, h, rfl, rfl, hk, hs, cu, gr⟩ := hrel
    have CU := Lib.hid cu
    have GR := Lib.hid gr
    clear cu gr C1 G1
    by_cases hlt : k < n
    · have hlt' : (k : Int) < (n : Int) := by omega
      go_wp2_with fail
      refine (l01Text_at _ _ _ _ _ _ _ _ 3 _ CU.out (by omega)).mono ?_
      rintro e w2 ⟨t, i2, h2, ht, rfl, c2, g2⟩
      have C2 := Lib.hid c2
      have HT := Lib.hid ht
      have G2 := Lib.hid (GR.out.trans g2)
      clear c2 g2 ht
      go_wp2_with fail
      refine (l01Pick_at (fun s => s.size ≤ 12) _ _ _ _ _ _ _ _ w2.heap.size 8 8 _ (C2.out.kept (World.grownBy_alloc w2 _ none) (by simp) (fun _ _ => Or.inl (by simp))) (by omega) (by omega) (by simp) (by have := C2.out.lt; omega) ?_).mono ?_
      · exact new_strs w2 [⟨#[97, 98, 99, 100]⟩, ⟨#[97, 98, 99, 100, 97, 98, 99, 100]⟩, ⟨#[114, 111, 119, 49]⟩, ⟨#[120]⟩, ⟨#[0, 0, 0, 0, 0]⟩, ⟨#[121, 122]⟩, ⟨#[97, 98, 99, 100, 101, 102, 103, 104, 105, 106, 107, 108]⟩, t] 9 (by
          intro x hx
          simp only [List.mem_cons, List.not_mem_nil, or_false] at hx
          rcases hx with rfl | rfl | rfl | rfl | rfl | rfl | rfl | rfl
          · decide
          · decide
          · decide
          · decide
          · decide
          · decide
          · decide
          · have := HT.out; omega)
      · rintro e w3 ⟨x, i3, h3, hx, rfl, c3, g3⟩
        have C3 := Lib.hid c3
        have G3 := Lib.hid ((G2.out.trans ((World.grownBy_alloc w2 _ none).but _)).trans g3)
        have hx : x.size ≤ 12 := hx
        clear c3 g3
        go_wp2_with fail
        go_roundw
        case rel => exact ⟨s ++ x, k + 1, i3, h3, rfl, by go_num, by omega, by rw [size_add]; omega, C3.out, G3.out⟩
        case measure => simp [intOf]; omega
    · obtain rfl : k = n := by omega
      go_wp2_with fail
      refine (l01Once_at _ _ _ _ _ _ _ _ 12 _ CU.out (by omega) (by omega)).mono ?_
      rintro e w2 ⟨b, i2, h2, rfl, c2, g2⟩
      have C2 := Lib.hid c2
      have G2 := Lib.hid (GR.out.trans g2)
      clear c2 g2
      cases b
      · have HSZ := Lib.hid (show s.size ≤ 408 by omega)
        go_wp2_with fail
        refine (l01Once_at _ _ _ _ _ _ _ _ 20 _ C2.out (by omega) (by omega)).mono ?_
        rintro e w5 ⟨b, i5, h5, rfl, c5, g5⟩
        have C5 := Lib.hid c5
        have G5 := Lib.hid (G2.out.trans g5)
        clear c5 g5
        cases b
        · go_wp2_with fail
          go_ret
          exact ⟨s, i5, h5, by have := HSZ.out; omega, rfl, C5.out, G5.out⟩
        · go_wp2_with fail
          go_loopw [3, 6] (fun v kk wr => ∃ (s : ByteArray) (k i : Nat) (h : Int), v = .string s ∧ kk = .int .i64 k ∧ k ≤ 130 ∧ s.size ≤ 408 + 2 * k ∧ CurAt wr T p a len cap zs i h ∧ w.grownBy wr (some p)) (fun _ kk _ => 130 - (intOf kk).toNat)
          case atStart => exact ⟨s, 0, i5, h5, rfl, rfl, by omega, by have := HSZ.out; omega, C5.out, G5.out⟩
          case round =>
            obtain ⟨s2, k2, i6, h6, rfl, rfl, hk2, hs2, cu2, gr2⟩ := hrel
            have CU2 := Lib.hid cu2
            have GR2 := Lib.hid gr2
            clear cu2 gr2
            by_cases hlt2 : k2 < 130
            · obtain ⟨P, hP, hcv⟩ := two_text wr k2 hlt2
              have hlt3 : (k2 : Int) < 130 := by omega
              have CA := Lib.hid (CU2.out.kept (World.grownBy_alloc wr (.cells #[.int .u8 (k2 : Int), .int .u8 ((k2 : Int) * 7 % 256)] 5) none) (by simp) (fun _ _ => Or.inl (by simp)))
              have GA := Lib.hid (GR2.out.trans ((World.grownBy_alloc wr (.cells #[.int .u8 (k2 : Int), .int .u8 ((k2 : Int) * 7 % 256)] 5) none).but _))
              have hP2 : P.size ≤ 2 := by omega
              clear hP
              go_wp2_with fail
              go_roundw
              case rel => exact ⟨s2 ++ P, k2 + 1, i6, h6, rfl, by go_num, by omega, by rw [size_add]; omega, CA.out, GA.out⟩
              case measure => simp [intOf]; omega
            · obtain rfl : k2 = 130 := by omega
              go_wp2_with fail
              go_ret
              exact ⟨s2, i6, h6, by show s2.size ≤ 668; omega, rfl, CU2.out, GR2.out⟩
      · go_wp2_with fail
        refine (l01PickInt_at (fun x => 0 ≤ x ∧ x ≤ 300) _ _ _ _ _ _ _ _ w2.heap.size 5 5 _ (C2.out.kept (World.grownBy_alloc w2 _ none) (by simp) (fun _ _ => Or.inl (by simp))) (by omega) (by omega) (by simp) (by have := C2.out.lt; omega) ?_).mono ?_
        · exact new_ints w2 [67, 68, 72, 140, 300] 3 (by
            intro x hx
            simp only [List.mem_cons, List.not_mem_nil, or_false] at hx
            rcases hx with rfl | rfl | rfl | rfl | rfl <;> omega)
        · rintro e w3 ⟨x, i3, h3, ⟨hx0, hx1⟩, rfl, c3, g3⟩
          obtain ⟨x, rfl⟩ := Int.eq_ofNat_of_zero_le hx0
          have hm := zeros_made x w3 (by omega)
          have hz := zeros_text x w3
          obtain ⟨Z, hZ⟩ : ∃ Z : ByteArray, (⟨(List.replicate x 0).toArray⟩ : ByteArray) = Z := ⟨_, rfl⟩
          have hZs : Z.size ≤ 300 := by rw [← hZ]; simp [ByteArray.size]; omega
          rw [hZ] at hz
          clear hZ
          have C3 := Lib.hid (c3.kept (World.grownBy_alloc w3 (zerosObj x) none) (by simp) (fun _ _ => Or.inl (by simp)))
          have G3 := Lib.hid (((G2.out.trans ((World.grownBy_alloc w2 _ none).but _)).trans g3).trans ((World.grownBy_alloc w3 (zerosObj x) none).but _))
          have HSZ := Lib.hid (show (s ++ Z).size ≤ 408 by rw [size_add]; omega)
          clear c3 g3
          go_wp2_with fail
          refine (l01Once_at _ _ _ _ _ _ _ _ 20 _ C3.out (by omega) (by omega)).mono ?_
          rintro e w5 ⟨b, i5, h5, rfl, c5, g5⟩
          have C5 := Lib.hid c5
          have G5 := Lib.hid (G3.out.trans g5)
          clear c5 g5
          cases b
          · go_wp2_with fail
            go_ret
            exact ⟨(s ++ Z), i5, h5, by have := HSZ.out; omega, rfl, C5.out, G5.out⟩
          · go_wp2_with fail
            go_loopw [3, 6] (fun v kk wr => ∃ (s : ByteArray) (k i : Nat) (h : Int), v = .string s ∧ kk = .int .i64 k ∧ k ≤ 130 ∧ s.size ≤ 408 + 2 * k ∧ CurAt wr T p a len cap zs i h ∧ w.grownBy wr (some p)) (fun _ kk _ => 130 - (intOf kk).toNat)
            case atStart => exact ⟨(s ++ Z), 0, i5, h5, rfl, rfl, by omega, by have := HSZ.out; omega, C5.out, G5.out⟩
            case round =>
              obtain ⟨s2, k2, i6, h6, rfl, rfl, hk2, hs2, cu2, gr2⟩ := hrel
              have CU2 := Lib.hid cu2
              have GR2 := Lib.hid gr2
              clear cu2 gr2
              by_cases hlt2 : k2 < 130
              · obtain ⟨P, hP, hcv⟩ := two_text wr k2 hlt2
                have hlt3 : (k2 : Int) < 130 := by omega
                have CA := Lib.hid (CU2.out.kept (World.grownBy_alloc wr (.cells #[.int .u8 (k2 : Int), .int .u8 ((k2 : Int) * 7 % 256)] 5) none) (by simp) (fun _ _ => Or.inl (by simp)))
                have GA := Lib.hid (GR2.out.trans ((World.grownBy_alloc wr (.cells #[.int .u8 (k2 : Int), .int .u8 ((k2 : Int) * 7 % 256)] 5) none).but _))
                have hP2 : P.size ≤ 2 := by omega
                clear hP
                go_wp2_with fail
                go_roundw
                case rel => exact ⟨s2 ++ P, k2 + 1, i6, h6, rfl, by go_num, by omega, by rw [size_add]; omega, CA.out, GA.out⟩
                case measure => simp [intOf]; omega
              · obtain rfl : k2 = 130 := by omega
                go_wp2_with fail
                go_ret
                exact ⟨s2, i6, h6, by show s2.size ≤ 668; omega, rfl, CU2.out, GR2.out⟩
end Go.Proofs.Ytgonnibakkabjab
