/- The model's draws of texts for sums and seals. -/
import Derived.Test.YtkhpgomgaimhkaaDrawInt
import Derived.Test.YtkhpgomgaimhkaaDrawText
namespace Go.Proofs.Ytkhpgomgaimhkaa
open Go.RowKit
set_option linter.unusedVariables false

/-- A short text that is drawn by a code. -/
def ShortOf (w : World) (e : Ending) (w' : World) : Prop := ∃ s : ByteArray, s.size ≤ 100 ∧ e = .returned (.string s) ∧ Below w.heap.size w w'

set_option maxHeartbeats 400000 in
theorem drawCrc_at (a : Option Addr) (len cap : Nat) (zs : List Int) (w : World) (hr : Bytes w w.heap.size a len zs) :
    Calls Try.prog 35 #[.slice a len cap] w (ShortOf w) := by
  have HR := Lib.hid hr
  clear hr
  go_enter Try.func35, Try.ntmps35
  go_wp2_with fail
  refine (l01New_at a len cap zs _ HR.out).mono ?_
  rintro e w1 ⟨rfl, ⟨h, c1⟩, g0⟩
  have C1 := Lib.hid c1
  clear c1
  go_wp2_with fail
  refine (l01Below_any _ _ _ _ _ _ _ _ _ _ C1.out (by omega) (by omega)).mono ?_
  rintro e w2 ⟨x, i2, h2, hx0, hx1, rfl, c2, g2⟩
  obtain ⟨x, rfl⟩ := Int.eq_ofNat_of_zero_le hx0
  have C2 := Lib.hid c2
  clear c2
  go_wp2_with fail
  refine (l01Text_at _ _ _ _ _ _ _ _ x _ C2.out (by omega)).mono ?_
  rintro e w3 ⟨s, i3, h3, hs, rfl, c3, g3⟩
  have hs7 : s.size ≤ 100 := by omega
  clear c3 hs
  go_wp2_with fail
  go_ret
  exact ⟨s, hs7, rfl, below_new g0 (g2.trans g3)⟩

set_option maxHeartbeats 400000 in
theorem drawSealed_at (a : Option Addr) (len cap : Nat) (zs : List Int) (w : World) (hr : Bytes w w.heap.size a len zs) :
    Calls Try.prog 38 #[.slice a len cap] w (ShortOf w) := by
  have HR := Lib.hid hr
  clear hr
  go_enter Try.func38, Try.ntmps38
  go_wp2_with fail
  refine (l01New_at a len cap zs _ HR.out).mono ?_
  rintro e w1 ⟨rfl, ⟨h, c1⟩, g0⟩
  have C1 := Lib.hid c1
  clear c1
  go_wp2_with fail
  refine (l01Below_any _ _ _ _ _ _ _ _ _ _ C1.out (by omega) (by omega)).mono ?_
  rintro e w2 ⟨x, i2, h2, hx0, hx1, rfl, c2, g2⟩
  obtain ⟨x, rfl⟩ := Int.eq_ofNat_of_zero_le hx0
  have C2 := Lib.hid c2
  clear c2
  go_wp2_with fail
  refine (l01Text_at _ _ _ _ _ _ _ _ x _ C2.out (by omega)).mono ?_
  rintro e w3 ⟨s, i3, h3, hs, rfl, c3, g3⟩
  have hs7 : s.size ≤ 100 := by omega
  clear c3 hs
  go_wp2_with fail
  go_ret
  exact ⟨s, hs7, rfl, below_new g0 (g2.trans g3)⟩
end Go.Proofs.Ytkhpgomgaimhkaa
