/- Lists of cells that begin anywhere in a block: parts of others. -/
import Derived.Test.YtkomnnijnggbpaaCellA
namespace Go.Proofs.Ytkomnnijnggbpaa
open Go.RowKit
set_option linter.unusedVariables false

/-- A cell's five values in a block, from a place on. -/
def Cel5O (w : World) (g m : Nat) (y : Cel) : Prop :=
  w.cell? ⟨g, m, none⟩ = some (.string y.row) ∧ w.cell? ⟨g, m + 1, none⟩ = some (.string y.col) ∧ w.cell? ⟨g, m + 2, none⟩ = some (.int .i64 y.time) ∧ w.cell? ⟨g, m + 3, none⟩ = some (.bool y.gone) ∧ w.cell? ⟨g, m + 4, none⟩ = some (.string y.value)
theorem Cel5O.below {w w' : World} {g m : Nat} {y : Cel} (h : Cel5O w g m y) (hb : Below w.heap.size w w') : Cel5O w' g m y := by
  have hA := cell_lt h.1
  obtain ⟨h0, h1, h2, h3, h4⟩ := h
  exact ⟨(hb.cell (p := ⟨g, m, none⟩) hA).trans h0, (hb.cell (p := ⟨g, m + 1, none⟩) hA).trans h1, (hb.cell (p := ⟨g, m + 2, none⟩) hA).trans h2, (hb.cell (p := ⟨g, m + 3, none⟩) hA).trans h3, (hb.cell (p := ⟨g, m + 4, none⟩) hA).trans h4⟩
theorem Cel5O.lt {w : World} {g m : Nat} {y : Cel} (h : Cel5O w g m y) : g < w.heap.size := cell_lt h.1
/-- A list of cells in a block, from some place on. -/
def CelRowO (w : World) (a : Option Addr) (n c : Nat) (xs : List Cel) : Prop := xs.length = n ∧ n ≤ c ∧ ∀ (k : Nat) (y : Cel), xs[k]? = some y → ∃ g off, a = some ⟨g, off, none⟩ ∧ Cel5O w g (off + k * 5) y
theorem CelRowO.below {w w' : World} {a : Option Addr} {n c : Nat} {xs : List Cel} (h : CelRowO w a n c xs) (hb : Below w.heap.size w w') : CelRowO w' a n c xs :=
  ⟨h.1, h.2.1, fun k y hk => by obtain ⟨g, off, e, hc⟩ := h.2.2 k y hk; exact ⟨g, off, e, hc.below hb⟩⟩
theorem CelRow.o {w : World} {a : Option Addr} {n c : Nat} {xs : List Cel} (h : CelRow w a n c xs) : CelRowO w a n c xs :=
  ⟨h.1, h.2.1, fun k y hk => by
    obtain ⟨g, e, hc⟩ := h.2.2 k y hk
    refine ⟨g, 0, e, ?_⟩
    rw [Nat.zero_add]
    exact hc⟩
end Go.Proofs.Ytkomnnijnggbpaa
