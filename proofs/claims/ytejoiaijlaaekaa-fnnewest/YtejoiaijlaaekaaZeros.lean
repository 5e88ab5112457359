/- A text of zeros, made. -/
import Derived.Test.YtejoiaijlaaekaaAppB
import Derived.Laws.MakeOwn
namespace Go.Proofs.Ytejoiaijlaaekaa
open Go.RowKit
set_option linter.unusedVariables false

/-- The block of so many zeros. -/
def zerosObj (n : Nat) : Obj := .cells (Array.replicate n (.int .u8 0)) 5
theorem zeros_cell (n : Nat) (w : World) (j : Nat) (hj : j < n) : (w.alloc (zerosObj n)).cell? ⟨w.heap.size, j, none⟩ = some (.int .u8 0) := by
  unfold zerosObj
  rw [fresh_cell]
  simp [hj]
theorem madeCells_zero (n : Nat) : madeCells #[Value.int .u8 0] n = Array.replicate n (.int .u8 0) := by
  apply Array.ext
  · simp [madeCells]
  · intro j h1 h2
    simp [madeCells, Nat.mod_one]
theorem zeros_made (n : Nat) (w : World) (hn : n ≤ 10000) : (Instr.makeSlice 22 (.int .i64 n) (.int .i64 n)).run Try.prog w = .ok (.slice (some ⟨w.heap.size, 0, none⟩) n n) (w.alloc (zerosObj n)) := by
  obtain ⟨ti, hti, hz0, hz1, hz2⟩ := info_parts infoB
  have h := run_makeSlice (P := Try.prog) w 22 5 ti (.int .u8 0) Try.underlying22 hti hz0 .i64 .i64 n n (by omega) (by omega) (by rw [hz1]; simp; omega) (by rw [hz2]; omega) (by omega)
  rw [hz1, Int.toNat_natCast, Nat.mul_one] at h
  have e : (Value.int IntKind.u8 0).cells = #[Value.int .u8 0] := rfl
  rw [e, madeCells_zero] at h
  exact h
theorem zeros_text (n : Nat) (w : World) : (convert 22 9 (.slice (some ⟨w.heap.size, 0, none⟩) n n)).run Try.prog (w.alloc (zerosObj n)) = .ok (.string ⟨(List.replicate n 0).toArray⟩) (w.alloc (zerosObj n)) :=
  str_of_cells (List.replicate n 0) (by simp) (fun j hj => by
    rw [List.length_replicate] at hj
    rw [zeros_cell n w j hj]
    unfold u8v
    simp [List.getD_eq_getElem?_getD, hj])
end Go.Proofs.Ytejoiaijlaaekaa
