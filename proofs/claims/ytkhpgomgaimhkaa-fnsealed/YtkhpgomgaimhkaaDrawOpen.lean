/- The model's draw of a text that may be sealed. -/
import Derived.Test.YtkhpgomgaimhkaaDrawSeal
import Derived.Test.YtkhpgomgaimhkaaBent
import Derived.Test.YtkhpgomgaimhkaaSealed
namespace Go.Proofs.Ytkhpgomgaimhkaa
open Go.RowKit
set_option linter.unusedVariables false

set_option maxHeartbeats 400000 in
theorem drawOpened_at (a : Option Addr) (len cap : Nat) (zs : List Int) (w : World) (hr : Bytes w w.heap.size a len zs) :
    Calls Try.prog 40 #[.slice a len cap] w (ShortOf w) := by
  have HR := Lib.hid hr
  clear hr
  go_enter Try.func40, Try.ntmps40
  go_wp2_with fail
  refine (l01New_at a len cap zs _ HR.out).mono ?_
  rintro e w1 ⟨rfl, ⟨h, c1⟩, g0⟩
  have C1 := Lib.hid c1
  clear c1
  go_wp2_with fail
  refine (l01Once_at _ _ _ _ _ _ _ _ 4 _ C1.out (by omega) (by omega)).mono ?_
  rintro e w2 ⟨b, i2, h2, rfl, c2, g2⟩
  have C2 := Lib.hid c2
  clear c2
  cases b
  · go_wp2_with fail
    refine (l01Below_any _ _ _ _ _ _ _ _ 7 _ C2.out (by omega) (by omega)).mono ?_
    rintro e w3 ⟨x, i3, h3, hx0, hx1, rfl, c3, g3⟩
    obtain ⟨x, rfl⟩ := Int.eq_ofNat_of_zero_le hx0
    have C3 := Lib.hid c3
    clear c3
    go_wp2_with fail
    refine (l01Text_at _ _ _ _ _ _ _ _ x _ C3.out (by omega)).mono ?_
    rintro e w4 ⟨s, i4, h4, hs, rfl, c4, g4⟩
    have hs7 : s.size ≤ 6 := by omega
    have C4 := Lib.hid c4
    have HSL := Lib.hid (sealed_len s.data.toList)
    have hsl : s.data.toList.length = s.size := by simp
    have HL2 := Lib.hid hsl
    clear c4 hs hsl
    go_wp2_with fail
    refine (specSealed s _ (by omega)).mono ?_
    intro e w5 hT
    obtain ⟨S, hS, hSl, rfl, hb⟩ := hT.text
    have hS10 : S.size ≤ 10 := by rw [hSl, HSL.out, HL2.out]; omega
    have C5 := Lib.hid (C4.out.below hb)
    have G5 := Lib.hid ((grown_of_below hb).but (some w.heap.size))
    clear hb hT hS hSl C4
    go_wp2_with fail
    refine (l01Bent_at _ _ _ _ _ _ _ _ S _ C5.out (by omega)).mono ?_
    rintro e w6 ⟨r, i6, h6, hr, rfl, c6, g6⟩
    have hr : r.size ≤ S.size + 2 := hr
    clear c6
    go_wp2_with fail
    go_ret
    exact ⟨r, by omega, rfl, below_new g0 ((((g2.trans g3).trans g4).trans G5.out).trans g6)⟩
  · go_wp2_with fail
    refine (l01Below_any _ _ _ _ _ _ _ _ 6 _ C2.out (by omega) (by omega)).mono ?_
    rintro e w3 ⟨x, i3, h3, hx0, hx1, rfl, c3, g3⟩
    obtain ⟨x, rfl⟩ := Int.eq_ofNat_of_zero_le hx0
    have C3 := Lib.hid c3
    clear c3
    go_wp2_with fail
    refine (l01Text_at _ _ _ _ _ _ _ _ x _ C3.out (by omega)).mono ?_
    rintro e w4 ⟨s, i4, h4, hs, rfl, c4, g4⟩
    have hs7 : s.size ≤ 100 := by omega
    clear c4 hs
    go_wp2_with fail
    go_ret
    exact ⟨s, hs7, rfl, below_new g0 ((g2.trans g3).trans g4)⟩
end Go.Proofs.Ytkhpgomgaimhkaa
