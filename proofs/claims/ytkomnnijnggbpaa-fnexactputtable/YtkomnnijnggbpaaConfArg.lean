/- A way that comes in by value. -/
import Derived.Test.YtkomnnijnggbpaaProg
import Derived.Test.YtkomnnijnggbpaaCellA
import Derived.Deep.Slices
import Derived.Deep.Fields
import Derived.ChangeSame
import Derived.WideShapes
namespace Go.Proofs.Ytkomnnijnggbpaa
open Go.ChangeShapes Go.WideShapes Go.Deep Go.RowKit
set_option linter.unusedVariables false

section
variable {H : Type} {enc : TypeId × Value → H} {w : World} {base : Nat} {spare : Nat → Bool} {held : Bool}
set_option maxRecDepth 100000 in
/-- The three values that a way's reading takes. -/
theorem read_conf {fuel : Nat} {cs : List Value} {x : DataW H × List MemPlace} (h : DataW.trod enc Try.prog w base spare held fuel 37 cs = some x) :
    ∃ (E Z : Int) (G : Bool), cs = [.int .i64 E, .int .i64 Z, .bool G] ∧ (Lit.int .i64 E).wf = true ∧ (Lit.int .i64 Z).wf = true := by
  obtain ⟨xs, n, _, _, hl, hlen, hf⟩ := DataW.trod_struct Try.underlying37 h
  have h5 : Try.prog.cellsOf 37 = 3 := by kernel_rfl
  have c3 : Try.prog.cellsOf 3 = 1 := by kernel_rfl
  have c4 : Try.prog.cellsOf 4 = 1 := by kernel_rfl
  rw [h5] at hl
  match cs, hl with
  | [v0, v1, v2], _ =>
    match xs, hlen with
    | [y0, y1, y2], _ =>
      have r0 : DataW.trod enc Try.prog w base spare held n 3 (([v0, v1, v2].drop 0).take (Try.prog.cellsOf 3)) = some y0 := hf 0 _ rfl
      rw [c3] at r0
      have r1 : DataW.trod enc Try.prog w base spare held n 3 (([v0, v1, v2].drop 1).take (Try.prog.cellsOf 3)) = some y1 := hf 1 _ rfl
      rw [c3] at r1
      have r2 : DataW.trod enc Try.prog w base spare held n 4 (([v0, v1, v2].drop 2).take (Try.prog.cellsOf 4)) = some y2 := hf 2 _ rfl
      rw [c4] at r2
      obtain ⟨E, e0, _, z0⟩ := DataW.trod_int (cs := [v0]) Try.underlying3 r0
      obtain ⟨Z, e1, _, z1⟩ := DataW.trod_int (cs := [v1]) Try.underlying3 r1
      obtain ⟨G, e2, _⟩ := DataW.trod_bool (cs := [v2]) Try.underlying4 r2
      cases e0; cases e1; cases e2
      exact ⟨E, Z, G, rfl, z0, z1⟩
-- A way by value.
set_option maxRecDepth 100000 in
theorem open_conf {r : Reach} {b0 : Nat} {v : Value} {d : DataW H} {p : List MemPlace} (hv : Value.okWide Try.prog w r b0 37 v) (h : DataW.Trod enc Try.prog w base spare held 37 v d p) :
    ∃ (E Z : Int) (G : Bool), v = .agg #[.int .i64 E, .int .i64 Z, .bool G] ∧ (Lit.int .i64 E).wf = true ∧ (Lit.int .i64 Z).wf = true := by
  obtain ⟨cs, rfl, _⟩ := okWide_struct Try.underlying37 hv
  obtain ⟨fuel, hf⟩ := h
  obtain ⟨E, Z, G, e, z⟩ := read_conf hf
  refine ⟨E, Z, G, ?_, z⟩
  obtain ⟨l⟩ := cs
  have e' : l = [.int .i64 E, .int .i64 Z, .bool G] := by simpa [Value.cells] using e
  rw [e']
end

theorem sizeConfA : (Try.prog.info? 28).map (·.size) = some 3 := by kernel_rfl
set_option maxHeartbeats 1000000 in
theorem toConfig_at (E Z : Int) (G : Bool) (w : World) :
    Calls Try.prog 17 #[.agg #[.int .i64 E, .int .i64 Z, .bool G]] w fun e w' => e = .returned (.agg #[.int .i64 E, .int .i64 Z, .bool G]) ∧ Below w.heap.size w w' := by
  go_enter Try.func17, Try.ntmps17
  go_wp2_with fail
  exact bodyPost_ret (v := .agg #[.int .i64 E, .int .i64 Z, .bool G]) (results_cell_row Try.results17 _ _ (w.heap.size + 1) _ #[.int .i64 E, .int .i64 Z, .bool G] _ _ rfl (alloc_at3 _ _ _ _) Try.underlying28 rfl (by rw [sizeConfA]; rfl)) rfl ⟨rfl, (two_below0 _ _ _).alloc (by simp; omega) _⟩
end Go.Proofs.Ytkomnnijnggbpaa
