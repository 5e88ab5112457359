/- The model's draw of a text that is bent a little. -/
import Derived.Test.YtjcgbpjgoacdjaaZ4
import Derived.Deep.RegionHeld3
namespace Go.Proofs.Ytjcgbpjgoacdjaa
open Go.RowKit
set_option linter.unusedVariables false

theorem seven {x : ByteArray} (b0 b1 b2 b3 b4 b5 b6 : UInt8) (h : x ∈ [(⟨#[b0]⟩ : ByteArray), ⟨#[b1]⟩, ⟨#[b2]⟩, ⟨#[b3]⟩, ⟨#[b4]⟩, ⟨#[b5]⟩, ⟨#[b6]⟩]) : x.size ≤ 1 := by
 simp only [List.mem_cons, List.not_mem_nil, or_false] at h
 rcases h with rfl | rfl | rfl | rfl | rfl | rfl | rfl <;> exact Nat.le_refl _
theorem ten (y : Int) (h0 : 0 ≤ y) (h1 : y < 10) : y = 0 ∨ y = 1 ∨ y = 2 ∨ 3 ≤ y := by omega

set_option maxHeartbeats 1000000 in
set_option maxRecDepth 100000 in
theorem l01Bent_at (T p : Nat) (a : Option Addr) (len cap : Nat) (zs : List Int) (i : Nat) (h : Int) (s : ByteArray) (w : World) (cu : CurAt w T p a len cap zs i h) (hs : s.size ≤ 1000000) :
   Calls Try.prog 49 #[.pointer (some ⟨p, 0, none⟩), .string s] w (SomeStr (fun t => t.size ≤ s.size + 2) T p a len cap zs w) := by
 have HC := Lib.hid cu
 clear cu
 go_enter Try.func49, Try.ntmps49
 go_wp2_with fail
 refine (l01Below_any _ _ _ _ _ _ _ _ _ _ HC.out (by omega) (by omega)).mono ?_
 rintro e w1 ⟨k, i1, h1, hk0, hk1, rfl, c1, g1⟩
 obtain ⟨k, rfl⟩ := Int.eq_ofNat_of_zero_le hk0
 have hk : k ≤ s.size := by omega
 have hki : (k : Int) ≤ (s.size : Int) := by omega
 have C1 := Lib.hid c1
 clear c1 hk1
 go_wp2_with fail
 refine (l01Below_any _ _ _ _ _ _ _ _ _ _ C1.out (by omega) (by omega)).mono ?_
 rintro e w2 ⟨y, i2, h2, hy0, hy1, rfl, c2, g2⟩
 have C2 := Lib.hid c2
 clear c2
 have HSZ := Lib.hid (show (s.extract 0 k).size = k ∧ (s.extract k s.size).size = s.size - k by rw [ByteArray.size_extract, ByteArray.size_extract]; omega)
 obtain ⟨L, hL⟩ : ∃ L, s.extract 0 k = L := ⟨_, rfl⟩
 obtain ⟨R, hR⟩ : ∃ R, s.extract k s.size = R := ⟨_, rfl⟩
 have hLs : L.size ≤ 1000000 := by rw [← hL]; have := HSZ.out; omega
 have hRs : R.size ≤ 1000000 := by rw [← hR]; have := HSZ.out; omega
 have HLR := Lib.hid (show L.size + R.size = s.size by rw [← hL, ← hR]; have := HSZ.out; omega)
 rcases ten y hy0 hy1 with rfl | rfl | rfl | hy3
 · go_wp2
   go_ret
   exact ⟨L, i2, h2, by have := HLR.out; omega, rfl, C2.out, g1.trans g2⟩
 · go_wp2_with fail
   go_region_held3 (fun w' => True) (exact trivial) (first | (go_at_call 53; refine (l01Pick_at (fun t => t.size ≤ 1) T p a len cap zs i2 h2 w2.heap.size 7 7 _ ((C2.out.drewN 1).kept (World.grownBy_alloc _ _ none) (by simp) (fun _ _ => Or.inl (by simp))) (by omega) (by omega) (by simp) (by have := C2.out.lt; omega) (new_strs (w2.drewN 1) [(⟨#[48]⟩ : ByteArray), ⟨#[32]⟩, ⟨#[255]⟩, ⟨#[10]⟩, ⟨#[97]⟩, ⟨#[0]⟩, ⟨#[128]⟩] 9 (fun x hx => seven _ _ _ _ _ _ _ hx))).mono ?_; rintro e w3 ⟨x, i3, h3, hx, rfl, c3, g3⟩; have C3 := Lib.hid c3; have q1 : ¬ 9223372036854775807 < L.size + x.size := (by omega); have q2 : ¬ 9223372036854775807 < L.size + x.size + R.size := (by omega); clear c3))
   go_wp2_with fail
   go_ret
   refine ⟨_, i3, h3, ?_, rfl, C3.out, (g1.trans g2).trans (((grown_drewN w2 1 (some p)).trans ((World.grownBy_alloc _ _ none).but _)).trans g3)⟩
   have := HLR.out
   show (L ++ x ++ R).size ≤ s.size + 2
   rw [ByteArray.size_append, ByteArray.size_append]
   omega
 · by_cases hkl : k < s.size
   · have hki1 : (k : Int) < (s.size : Int) := by omega
     obtain ⟨R2, hR2⟩ : ∃ R, s.extract (k + 1) s.size = R := ⟨_, rfl⟩
     have HR2 := Lib.hid (show R2.size + L.size + 1 = s.size by rw [← hR2, ← hL, ByteArray.size_extract]; have := HSZ.out; omega)
     have hR2s : R2.size ≤ 1000000 := by have := HR2.out; omega
     have s1 : IntKind.i64.wrap ((k : Int) + 1) = (k : Int) + 1 := IntWalk.i64_in _ (by omega)
     have s2 : ((k : Int) + 1).toNat = k + 1 := by omega
     have s3 : (k : Int) + 1 ≤ (s.size : Int) := by omega
     have s4 : (0 : Int) ≤ (k : Int) + 1 := by omega
     clear hR hRs R HLR
     go_wp2_with fail
     go_region_held3 (fun w' => True) (exact trivial) (first | (go_at_call 53; refine (l01Pick_at (fun t => t.size ≤ 1) T p a len cap zs i2 h2 w2.heap.size 7 7 _ ((C2.out.drewN 1).kept (World.grownBy_alloc _ _ none) (by simp) (fun _ _ => Or.inl (by simp))) (by omega) (by omega) (by simp) (by have := C2.out.lt; omega) (new_strs (w2.drewN 1) [(⟨#[48]⟩ : ByteArray), ⟨#[65]⟩, ⟨#[0]⟩, ⟨#[57]⟩, ⟨#[122]⟩, ⟨#[1]⟩, ⟨#[129]⟩] 9 (fun x hx => seven _ _ _ _ _ _ _ hx))).mono ?_; rintro e w3 ⟨x, i3, h3, hx, rfl, c3, g3⟩; have C3 := Lib.hid c3; have q1 : ¬ 9223372036854775807 < L.size + x.size := (by omega); have q2 : ¬ 9223372036854775807 < L.size + x.size + R2.size := (by omega); clear c3))
     go_wp2_with fail
     go_ret
     refine ⟨_, i3, h3, ?_, rfl, C3.out, (g1.trans g2).trans (((grown_drewN w2 1 (some p)).trans ((World.grownBy_alloc _ _ none).but _)).trans g3)⟩
     have := HR2.out
     show (L ++ x ++ R2).size ≤ s.size + 2
     rw [ByteArray.size_append, ByteArray.size_append]
     omega
   · go_wp2
     go_ret
     exact ⟨s, i2, h2, by omega, rfl, C2.out, g1.trans g2⟩
 · go_wp2
   go_ret
   exact ⟨s, i2, h2, by omega, rfl, C2.out, g1.trans g2⟩
end Go.Proofs.Ytjcgbpjgoacdjaa
