/- Contract of the program's GetFix. -/
import Derived.Test.YtejoiaijlaaekaaTakeFix
namespace Go.Proofs.Ytejoiaijlaaekaa
open Go.RowKit
set_option linter.unusedVariables false

theorem getFix_no {l : List UInt8} {a b : Int} (h : b < 1 ∨ 4 < b ∨ a < 0 ∨ l.length < a ∨ l.length - a < b) : getFix l a b = -1 := by unfold getFix; rw [if_neg (by omega)]
theorem getFix_yes {l : List UInt8} {a b : Nat} (h1 : 1 ≤ b) (h4 : b ≤ 4) (h : a + b ≤ l.length) : getFix l a b = fixVal ((l.drop a).take b) := by
  unfold getFix; rw [if_pos (by omega)]; simp

/-- A number; nothing that lay there has turned. -/
def IntIs (w : World) (n : Int) (e : Ending) (w' : World) : Prop := e = .returned (.int .i64 n) ∧ Below w.heap.size w w'

theorem below_rd {w w1 : World} {o : Obj} (g : (w.alloc o).grownBy w1 (some w.heap.size)) : Below w.heap.size w w1 := below_new (World.grownBy_alloc w o none) g

set_option maxHeartbeats 400000 in
theorem implGetFix (s : ByteArray) (a b : Int) (w : World) (hs : s.size ≤ maxLen) :
    Calls Try.prog 49 #[.string s, .int .i64 a, .int .i64 b] w (IntIs w (getFix s.data.toList a b)) := by
  have hl : s.data.toList.length = s.size := by simp
  by_cases hn : b < 1 ∨ 4 < b ∨ a < 0 ∨ s.size < a ∨ s.size - a < b
  · have HR := Lib.hid (getFix_no (l := s.data.toList) (by rw [hl]; exact hn))
    have HN := Lib.hid hn
    clear hn hl
    go_enter Try.func49, Try.ntmps49
    go_wp2_with fail
    refine (takeFix_no _ s a b _ (rd_new w s a) hs HN.out).mono ?_
    rintro e w1 ⟨rfl, m, rfl⟩
    go_wp2
    go_ret
    exact ⟨ret_int HR.out.symm, ((Below.refl _ _).alloc (Nat.le_refl _) _).trans (below_draws _)⟩
  · obtain ⟨a, rfl⟩ := Int.eq_ofNat_of_zero_le (by omega : 0 ≤ a)
    obtain ⟨b, rfl⟩ := Int.eq_ofNat_of_zero_le (by omega : 0 ≤ b)
    have h1 : 1 ≤ b := by omega
    have h4 : b ≤ 4 := by omega
    have h5 : a + b ≤ s.size := by omega
    have HR := Lib.hid (getFix_yes (l := s.data.toList) h1 h4 (by rw [hl]; exact h5))
    clear hn hl
    go_enter Try.func49, Try.ntmps49
    go_wp2_with fail
    refine (takeFix_yes _ s a b _ (rd_new w s a) hs h1 h4 h5).mono ?_
    rintro e w1 ⟨rfl, hr, hg⟩
    have HG := Lib.hid hg
    clear hr hg
    go_wp2
    go_ret
    exact ⟨ret_int HR.out.symm, below_rd HG.out⟩
end Go.Proofs.Ytejoiaijlaaekaa
