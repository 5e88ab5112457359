/- The laws' sameCells over one list in two rows. -/
import Derived.Test.YtkomnnijnggbpaaGreatDoorZ0
import Derived.Test.YtkomnnijnggbpaaGreatDoorZ1
namespace Go.Proofs.YtkomnnijnggbpaaGreatDoor
open Go.RowKit
set_option linter.unusedVariables false

set_option maxHeartbeats 1000000 in
theorem sameCells_same (a a' : Option Addr) (n c c' : Nat) (xs : List Cel) (hn : n ≤ 1048576) (w : World) (h : CelRow w a n c xs) (h' : CelRow w a' n c' xs) :
   Calls Tryz.prog 20 #[.slice a n c, .slice a' n c'] w fun e w' => e = .returned (.bool true) ∧ Below w.heap.size w w' := by
 have H1 := Lib.hid h
 have H2 := Lib.hid h'
 have hc := h.2.1
 have hc' := h'.2.1
 clear h h'
 go_enter Tryz.func20, Tryz.ntmps20
 go_wp2_with fail
 go_loopw [5] (fun ii wr => ∃ i : Nat, i ≤ n ∧ ii = .int .i64 i ∧ ∃ m, wr = w.drewN m) (fun ii _ => n - (intOf ii).toNat)
 case atStart => exact ⟨0, Nat.zero_le _, rfl, 0, rfl⟩
 case round =>
   obtain ⟨i, hi, rfl, m, rfl⟩ := hrel
   by_cases hlt : i < n
   · obtain ⟨⟨R, C, T, G, V⟩, hy⟩ : ∃ y, xs[i]? = some y := ⟨_, List.getElem?_eq_getElem (by rw [H1.out.1]; exact hlt)⟩
     obtain ⟨g, rfl, k5⟩ := H1.out.2.2 i _ hy
     obtain ⟨g', rfl, k5'⟩ := H2.out.2.2 i _ hy
     unfold Cel5 at k5 k5'
     obtain ⟨c0, c1, c2, c3, c4⟩ := k5
     obtain ⟨e0, e1, e2, e3, e4⟩ := k5'
     have i1 : (i : Int) < (n : Int) := by omega
     have i0 : (0 : Int) ≤ (i : Int) := by omega
     clear hy
     go_wp2_with fail
     go_quiet (fail)
     go_wp2
     go_roundw
     case rel => exact ⟨i + 1, by omega, by go_num, _, rfl⟩
     case measure => simp [intOf]; omega
   · go_wp2
     go_ret
     exact ⟨rfl, below_draws _⟩
end Go.Proofs.YtkomnnijnggbpaaGreatDoor
