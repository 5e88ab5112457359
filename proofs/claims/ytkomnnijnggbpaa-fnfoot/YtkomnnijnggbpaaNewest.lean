/- The program's Newest: the first cell of a column that is no newer than asked. -/
import Derived.Test.YtkomnnijnggbpaaTimes
import Derived.Test.YtkomnnijnggbpaaCellsOkI
import Derived.Test.YtkomnnijnggbpaaZ0
namespace Go.Proofs.Ytkomnnijnggbpaa
open Go.RowKit Go.Shelf
set_option linter.unusedVariables false
attribute [local go_sem] Oper.semAt_some

structure Three (w : World) (t : Int) (W : World) : Prop where
 below : Below w.heap.size w W
 one : W.heap[w.heap.size]? = some (.cells #[.int .i64 t] 3 (0, 0))
 two : W.heap[w.heap.size + 1]? = some (.cells #[.string ⟨#[]⟩, .string ⟨#[]⟩, .int .i64 0, .bool false, .string ⟨#[]⟩] 36 (0, 0))
 three : W.heap[w.heap.size + 1 + 1]? = some (.cells #[.bool false] 4 (0, 0))
 size : w.heap.size + 3 ≤ W.heap.size
theorem Three.later {w : World} {t : Int} {W W' : World} (h : Three w t W) (hb : Below W.heap.size W W') : Three w t W' :=
 ⟨h.below.trans (hb.mono h.below.size), (hb.block _ (by have := h.size; omega)).trans h.one, (hb.block _ (by have := h.size; omega)).trans h.two, (hb.block _ (by have := h.size; omega)).trans h.three, Nat.le_trans h.size hb.size⟩
theorem blk1 {w : World} {g T : Nat} {v : Value} (h : w.heap[g]? = some (.cells #[v] T (0, 0))) : w.cell? ⟨g, 0, none⟩ = some v ∧ w.frozen? ⟨g, 0, none⟩ = false := by
 constructor
 · simp [World.cell?, h]
 · simp [World.frozen?, h]
end Go.Proofs.Ytkomnnijnggbpaa
