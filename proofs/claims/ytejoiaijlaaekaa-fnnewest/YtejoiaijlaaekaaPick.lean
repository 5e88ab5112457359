/- The model's picks out of a list. -/
import Derived.Test.YtejoiaijlaaekaaDraw
namespace Go.Proofs.Ytejoiaijlaaekaa
open Go.RowKit
set_option linter.unusedVariables false

/-- The cells of a new block. -/
theorem new_cell (w : World) (cs : Array Value) (T j : Nat) : (w.alloc (.cells cs T)).cell? ⟨w.heap.size, j, none⟩ = cs[j]? := by
  have : (w.alloc (.cells cs T)).heap[w.heap.size]? = some (.cells cs T (0, 0)) := by
    show (w.heap.push _)[w.heap.size]? = _
    rw [Array.getElem?_push, if_pos rfl]
  unfold World.cell?
  rw [this]
  rfl

/-- The cells of a new list of numbers, of texts. -/
theorem new_ints {P : Int → Prop} (w : World) (ns : List Int) (T : Nat) (h : ∀ x ∈ ns, P x) : ∀ j, j < ns.length → ∃ x, (w.alloc (.cells (ns.map (Value.int .i64)).toArray T)).cell? ⟨w.heap.size, j, none⟩ = some (.int .i64 x) ∧ P x := by
  intro j hj
  refine ⟨ns[j], ?_, h _ (List.getElem_mem _)⟩
  rw [new_cell]
  simp [hj]
theorem new_strs {P : ByteArray → Prop} (w : World) (ns : List ByteArray) (T : Nat) (h : ∀ x ∈ ns, P x) : ∀ j, j < ns.length → ∃ x, (w.alloc (.cells (ns.map Value.string).toArray T)).cell? ⟨w.heap.size, j, none⟩ = some (.string x) ∧ P x := by
  intro j hj
  refine ⟨ns[j], ?_, h _ (List.getElem_mem _)⟩
  rw [new_cell]
  simp [hj]

/-- Some number of a list, and the cursor somewhere behind. -/
def SomeInt (P : Int → Prop) (T p : Nat) (a : Option Addr) (len cap : Nat) (zs : List Int) (w : World) (e : Ending) (w' : World) : Prop :=
  ∃ (x : Int) (i : Nat) (h : Int), P x ∧ e = .returned (.int .i64 x) ∧ CurAt w' T p a len cap zs i h ∧ w.grownBy w' (some p)
/-- Some text of a list, and the cursor somewhere behind. -/
def SomeStr (P : ByteArray → Prop) (T p : Nat) (a : Option Addr) (len cap : Nat) (zs : List Int) (w : World) (e : Ending) (w' : World) : Prop :=
  ∃ (x : ByteArray) (i : Nat) (h : Int), P x ∧ e = .returned (.string x) ∧ CurAt w' T p a len cap zs i h ∧ w.grownBy w' (some p)
/-- Yes or no, and the cursor somewhere behind. -/
def SomeBool (T p : Nat) (a : Option Addr) (len cap : Nat) (zs : List Int) (w : World) (e : Ending) (w' : World) : Prop :=
  ∃ (b : Bool) (i : Nat) (h : Int), e = .returned (.bool b) ∧ CurAt w' T p a len cap zs i h ∧ w.grownBy w' (some p)
end Go.Proofs.Ytejoiaijlaaekaa
