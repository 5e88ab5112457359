/- Cells that come in as arguments: one by value, and a slice of them. -/
import Derived.Test.YtkomnnijnggbpaaCellA
import Derived.Deep.Slices
import Derived.Deep.Fields
import Derived.ChangeSame
import Derived.WideShapes
namespace Go.Proofs.Ytkomnnijnggbpaa
open Go.ChangeShapes Go.WideShapes Go.Deep Go.RowKit
set_option linter.unusedVariables false

section
variable {H : Type} {enc : TypeId × Value → H} {w : World} {base : Nat} {spare : Nat → Bool} {held : Bool}
set_option maxRecDepth 100000 in
/-- The five values that a cell's reading takes. -/
theorem read_cel {fuel : Nat} {cs : List Value} {x : DataW H × List MemPlace} (h : DataW.trod enc Try.prog w base spare held fuel 76 cs = some x) :
    ∃ (R C : ByteArray) (T : Int) (G : Bool) (V : ByteArray), cs = [.string R, .string C, .int .i64 T, .bool G, .string V] ∧ R.size ≤ maxLen ∧ C.size ≤ maxLen ∧ V.size ≤ maxLen ∧ (Lit.int .i64 T).wf = true := by
  obtain ⟨xs, n, _, _, hl, hlen, hf⟩ := DataW.trod_struct Try.underlying76 h
  have h5 : Try.prog.cellsOf 76 = 5 := by kernel_rfl
  have c9 : Try.prog.cellsOf 9 = 1 := by kernel_rfl
  have c3 : Try.prog.cellsOf 3 = 1 := by kernel_rfl
  have c4 : Try.prog.cellsOf 4 = 1 := by kernel_rfl
  rw [h5] at hl
  match cs, hl with
  | [v0, v1, v2, v3, v4], _ =>
    match xs, hlen with
    | [y0, y1, y2, y3, y4], _ =>
      have r0 : DataW.trod enc Try.prog w base spare held n 9 (([v0, v1, v2, v3, v4].drop 0).take (Try.prog.cellsOf 9)) = some y0 := hf 0 _ rfl
      rw [c9] at r0
      have r1 : DataW.trod enc Try.prog w base spare held n 9 (([v0, v1, v2, v3, v4].drop 1).take (Try.prog.cellsOf 9)) = some y1 := hf 1 _ rfl
      rw [c9] at r1
      have r2 : DataW.trod enc Try.prog w base spare held n 3 (([v0, v1, v2, v3, v4].drop 2).take (Try.prog.cellsOf 3)) = some y2 := hf 2 _ rfl
      rw [c3] at r2
      have r3 : DataW.trod enc Try.prog w base spare held n 4 (([v0, v1, v2, v3, v4].drop 3).take (Try.prog.cellsOf 4)) = some y3 := hf 3 _ rfl
      rw [c4] at r3
      have r4 : DataW.trod enc Try.prog w base spare held n 9 (([v0, v1, v2, v3, v4].drop 4).take (Try.prog.cellsOf 9)) = some y4 := hf 4 _ rfl
      rw [c9] at r4
      obtain ⟨R, e0, _, z0⟩ := DataW.trod_string (cs := [v0]) Try.underlying9 r0
      obtain ⟨C, e1, _, z1⟩ := DataW.trod_string (cs := [v1]) Try.underlying9 r1
      obtain ⟨T, e2, _, z2⟩ := DataW.trod_int (cs := [v2]) Try.underlying3 r2
      obtain ⟨G, e3, _⟩ := DataW.trod_bool (cs := [v3]) Try.underlying4 r3
      obtain ⟨V, e4, _, z4⟩ := DataW.trod_string (cs := [v4]) Try.underlying9 r4
      cases e0; cases e1; cases e2; cases e3; cases e4
      exact ⟨R, C, T, G, V, rfl, z0, z1, z4, z2⟩
-- A cell by value.
set_option maxRecDepth 100000 in
theorem open_cel {r : Reach} {b0 : Nat} {v : Value} {d : DataW H} {p : List MemPlace} (hv : Value.okWide Try.prog w r b0 76 v) (h : DataW.Trod enc Try.prog w base spare held 76 v d p) :
    ∃ (R C : ByteArray) (T : Int) (G : Bool) (V : ByteArray), v = .agg #[.string R, .string C, .int .i64 T, .bool G, .string V] ∧ R.size ≤ maxLen ∧ C.size ≤ maxLen ∧ V.size ≤ maxLen ∧ (Lit.int .i64 T).wf = true := by
  obtain ⟨cs, rfl, _⟩ := okWide_struct Try.underlying76 hv
  obtain ⟨fuel, hf⟩ := h
  obtain ⟨R, C, T, G, V, e, z⟩ := read_cel hf
  refine ⟨R, C, T, G, V, ?_, z⟩
  obtain ⟨l⟩ := cs
  have e' : l = [.string R, .string C, .int .i64 T, .bool G, .string V] := by simpa [Value.cells] using e
  rw [e']
end

/-- A slice of cells that came in: nil; or it leads to a row of cells. -/
def CelsIn (w : World) (a : Option Addr) (len cap : Nat) (xs : List Cel) : Prop :=
  xs.length = len ∧ ((a = none ∧ len = 0 ∧ cap = 0) ∨
  ∃ x, a = some x ∧ len ≤ cap ∧ cap ≤ maxLen ∧ ∀ (i : Nat) (y : Cel), xs[i]? = some y → y.row.size ≤ maxLen ∧ y.col.size ≤ maxLen ∧ y.value.size ≤ maxLen ∧ (Lit.int .i64 y.time).wf = true ∧
    w.cell? (x.add (i * 5)) = some (.string y.row) ∧ w.cell? (x.add (i * 5 + 1)) = some (.string y.col) ∧ w.cell? (x.add (i * 5 + 2)) = some (.int .i64 y.time) ∧ w.cell? (x.add (i * 5 + 3)) = some (.bool y.gone) ∧ w.cell? (x.add (i * 5 + 4)) = some (.string y.value))

/-- Of each place something: a list. -/
theorem listOf {α : Type} (P : Nat → α → Prop) (n : Nat) (h : ∀ i, i < n → ∃ y, P i y) : ∃ xs : List α, xs.length = n ∧ ∀ (i : Nat) (y : α), xs[i]? = some y → P i y := by
  induction n with
  | zero => exact ⟨[], rfl, fun i y hi => by simp at hi⟩
  | succ n ih =>
    obtain ⟨xs, hl, hx⟩ := ih (fun i hi => h i (by omega))
    obtain ⟨y, hy⟩ := h n (by omega)
    refine ⟨xs ++ [y], by simp [hl], fun i z hi => ?_⟩
    by_cases hin : i < n
    · rw [List.getElem?_append_left (by omega)] at hi
      exact hx i z hi
    · rw [List.getElem?_append_right (by omega)] at hi
      have : i = n := by
        have := (List.getElem?_eq_some_iff.1 hi).1
        simp at this
        omega
      subst this
      rw [hl] at hi
      simp at hi
      subst hi
      exact hy

section
variable {H : Type} {enc : TypeId × Value → H} {w : World} {base : Nat} {spare : Nat → Bool} {held : Bool}
set_option maxRecDepth 100000 in
theorem open_cels {a : Option Addr} {len cap : Nat} {d : DataW H} {p : List MemPlace} (h : DataW.Trod enc Try.prog w base spare held 41 (.slice a len cap) d p) : ∃ xs, CelsIn w a len cap xs := by
  obtain ⟨fuel, hf⟩ := h
  have h5 : Try.prog.cellsOf 76 = 5 := by kernel_rfl
  rcases open_slice Try.underlying41 hf with ⟨hcs, _⟩ | ⟨x, l, c, m, n, D, Pl, hcs, _, hl, hm, hmm, _, hi⟩
  · simp [Value.cells] at hcs
    obtain ⟨rfl, rfl, rfl⟩ := hcs
    exact ⟨[], rfl, .inl ⟨rfl, rfl, rfl⟩⟩
  · simp [Value.cells] at hcs
    obtain ⟨rfl, rfl, rfl⟩ := hcs
    have hml : len ≤ m := by rw [hmm]; split <;> omega
    have hel : ∀ i, i < len → ∃ y : Cel, y.row.size ≤ maxLen ∧ y.col.size ≤ maxLen ∧ y.value.size ≤ maxLen ∧ (Lit.int .i64 y.time).wf = true ∧
        w.cell? (x.add (i * 5)) = some (.string y.row) ∧ w.cell? (x.add (i * 5 + 1)) = some (.string y.col) ∧ w.cell? (x.add (i * 5 + 2)) = some (.int .i64 y.time) ∧ w.cell? (x.add (i * 5 + 3)) = some (.bool y.gone) ∧ w.cell? (x.add (i * 5 + 4)) = some (.string y.value) := by
      intro i hil
      obtain ⟨cs', hc, ht⟩ := hi i (by omega)
      obtain ⟨R, C, T, G, V, rfl, z0, z1, z4, z2⟩ := read_cel ht
      rw [h5] at hc
      obtain ⟨_, _, hat⟩ := World.cells?_some hc
      refine ⟨⟨R, C, T, G, V⟩, z0, z1, z4, z2, ?_, ?_, ?_, ?_, ?_⟩
      · have := hat 0 (by omega); rw [Go.Deep.add_add] at this; simpa using this
      · have := hat 1 (by omega); rw [Go.Deep.add_add] at this; simpa using this
      · have := hat 2 (by omega); rw [Go.Deep.add_add] at this; simpa using this
      · have := hat 3 (by omega); rw [Go.Deep.add_add] at this; simpa using this
      · have := hat 4 (by omega); rw [Go.Deep.add_add] at this; simpa using this
    obtain ⟨xs, hxl, hxs⟩ := listOf _ len hel
    exact ⟨xs, hxl, .inr ⟨x, rfl, hl, hm, hxs⟩⟩
end
end Go.Proofs.Ytkomnnijnggbpaa
