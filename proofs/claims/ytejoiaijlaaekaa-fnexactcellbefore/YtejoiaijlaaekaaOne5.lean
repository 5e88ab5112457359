/- One block of five values. -/
import Derived.Test.YtejoiaijlaaekaaCellCells
namespace Go.Proofs.Ytejoiaijlaaekaa
open Go.RowKit
set_option linter.unusedVariables false

/-- A block of five values. -/
def One5 (A : Nat) (a0 a1 a2 a3 a4 : Value) (w : World) : Prop :=
  w.cell? ⟨A, 0, none⟩ = some a0 ∧ w.cell? ⟨A, 1, none⟩ = some a1 ∧ w.cell? ⟨A, 2, none⟩ = some a2 ∧ w.cell? ⟨A, 3, none⟩ = some a3 ∧ w.cell? ⟨A, 4, none⟩ = some a4
theorem One5.below {A : Nat} {a0 a1 a2 a3 a4 : Value} {w w' : World} (h : One5 A a0 a1 a2 a3 a4 w) (hb : Below w.heap.size w w') : One5 A a0 a1 a2 a3 a4 w' := by
  have hA := cell_lt h.1
  obtain ⟨h0, h1, h2, h3, h4⟩ := h
  exact ⟨(hb.cell (p := ⟨A, 0, none⟩) hA).trans h0, (hb.cell (p := ⟨A, 1, none⟩) hA).trans h1, (hb.cell (p := ⟨A, 2, none⟩) hA).trans h2, (hb.cell (p := ⟨A, 3, none⟩) hA).trans h3, (hb.cell (p := ⟨A, 4, none⟩) hA).trans h4⟩
theorem one5_new (w : World) (a0 a1 a2 a3 a4 : Value) (T : Nat) : One5 w.heap.size a0 a1 a2 a3 a4 (w.alloc (.cells #[a0, a1, a2, a3, a4] T)) := by
  have hA := alloc_at w (.cells #[a0, a1, a2, a3, a4] T)
  refine ⟨?_, ?_, ?_, ?_, ?_⟩
  all_goals (simp only [World.cell?, hA]; rfl)
end Go.Proofs.Ytejoiaijlaaekaa
