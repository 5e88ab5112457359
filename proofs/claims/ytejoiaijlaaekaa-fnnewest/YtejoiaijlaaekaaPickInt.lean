/- The model's pick of a number. -/
import Derived.Test.YtejoiaijlaaekaaPick
namespace Go.Proofs.Ytejoiaijlaaekaa
open Go.RowKit
set_option linter.unusedVariables false

set_option maxHeartbeats 400000 in
theorem l01PickInt_at (P : Int → Prop) (T p : Nat) (a : Option Addr) (len cap : Nat) (zs : List Int) (i : Nat) (h : Int) (g m c : Nat) (w : World) (cu : CurAt w T p a len cap zs i h)
    (h1 : 1 ≤ m) (h2 : m ≤ 256) (hg : g < w.heap.size) (hp : g ≠ p) (hc : ∀ j, j < m → ∃ x, w.cell? ⟨g, j, none⟩ = some (.int .i64 x) ∧ P x) :
    Calls Try.prog 57 #[.pointer (some ⟨p, 0, none⟩), .slice (some ⟨g, 0, none⟩) m c] w (SomeInt P T p a len cap zs w) := by
  have HC := Lib.hid cu
  have HH := Lib.hid hc
  clear cu hc
  go_enter Try.func57, Try.ntmps57
  go_wp2_with fail
  refine (l01Below_any _ _ _ _ _ _ _ _ _ _ HC.out (by omega) (by omega)).mono ?_
  rintro e w1 ⟨y, i1, hh1, hy0, hy1, rfl, c1, g1⟩
  obtain ⟨y, rfl⟩ := Int.eq_ofNat_of_zero_le hy0
  have C1 := Lib.hid c1
  clear c1
  obtain ⟨x, hx, hP⟩ := HH.out y (by omega)
  have hx1 : w1.cell? ⟨g, y, none⟩ = some (.int .i64 x) := (World.cell?_of_block (w := w) (g1.block g hg (by simpa using hp))).trans hx
  clear hx HH
  have HPX := Lib.hid hP
  clear hP
  go_wp2
  go_ret
  exact ⟨x, i1, hh1, HPX.out, rfl, C1.out, g1⟩
end Go.Proofs.Ytejoiaijlaaekaa
