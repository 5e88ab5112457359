/- The form of what Newest answers. -/
import Derived.Test.YtgonnibakkabjaaNewest
namespace Go.Proofs.Ytgonnibakkabjaa
open Go.RowKit
theorem new_form {w w' : World} {r : Option Cel} {R C : ByteArray} {T : Int} {G : Bool} {V : ByteArray} (h : r.getD zeroC = ⟨R, C, T, G, V⟩) (hb : Below w.heap.size w w') : NewOut w r (.returned (.tuple #[.agg #[.string R, .string C, .int .i64 T, .bool G, .string V], .bool r.isSome])) w' := by
  cases r with
  | none =>
    have h' : zeroC = ⟨R, C, T, G, V⟩ := h
    refine ⟨?_, hb⟩
    show _ = Ending.returned (.tuple #[celVal zeroC, .bool false])
    rw [h']
    rfl
  | some x =>
    have h' : x = ⟨R, C, T, G, V⟩ := h
    subst h'
    exact ⟨rfl, hb⟩
theorem NewOut.form {w w' : World} {r : Option Cel} {e : Ending} (h : NewOut w r e w') : ∃ (R C : ByteArray) (T : Int) (G : Bool) (V : ByteArray), r.getD zeroC = ⟨R, C, T, G, V⟩ ∧ e = .returned (.tuple #[.agg #[.string R, .string C, .int .i64 T, .bool G, .string V], .bool r.isSome]) ∧ Below w.heap.size w w' := by
  cases r with
  | none => exact ⟨_, _, _, _, _, rfl, h.1, h.2⟩
  | some x => exact ⟨x.row, x.col, x.time, x.gone, x.value, rfl, h.1, h.2⟩
end Go.Proofs.Ytgonnibakkabjaa
