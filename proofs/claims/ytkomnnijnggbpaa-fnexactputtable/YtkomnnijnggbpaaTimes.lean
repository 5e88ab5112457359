/- The program's iterator over the cells of a column: it yields them in order, as long as it is let. -/
import Derived.RangeFuncNested
import Derived.RangeFuncBound
import Derived.RangeFuncCalls
import Derived.RangeFuncLeaves
import Derived.Shelf.Abstract
import Derived.Shelf.RegionOpen
import Derived.WalkKit
import Derived.OwnWalkIn
import Derived.TacticsInMore
import Derived.LoopNIn
import Derived.LoopIn
import Derived.Test.YtkomnnijnggbpaaCellA
import Derived.Test.YtkomnnijnggbpaaCellBefore
import Derived.Test.YtkomnnijnggbpaaPureA
import Derived.Test.YtkomnnijnggbpaaScope
namespace Go.Proofs.Ytkomnnijnggbpaa
open Go.RowKit Go.Shelf
set_option linter.unusedVariables false
attribute [local go_sem] Oper.semAt_some

/-- Whether a cell is of a column. -/
def ofCol (R C : ByteArray) (x : Cel) : Bool := decide (x.row.data.toList = R.data.toList) && decide (x.col.data.toList = C.data.toList)
def celVal (x : Cel) : Value := .agg #[.string x.row, .string x.col, .int .i64 x.time, .bool x.gone, .string x.value]
/-- The blocks below a bound are as they were. -/
def KeepTo (B : Nat) (W W' : World) : Prop := ∀ k, k < B → W'.heap[k]? = W.heap[k]?
theorem KeepTo.trans {B : Nat} {X Y Z : World} (h : KeepTo B X Y) (k : KeepTo B Y Z) : KeepTo B X Z := fun j hj => (k j hj).trans (h j hj)
theorem keepTo_put {B : Nat} (W : World) (l : Nat) (o o' : Obj) (hl : B ≤ l) : KeepTo B W (W.putObj l o') := fun k hk => World.putObj_heap_other (by omega)
theorem One5.keep {A B : Nat} {a0 a1 a2 a3 a4 : Value} {w w' : World} (h : One5 A a0 a1 a2 a3 a4 w) (hk : KeepTo B w w') (hA : A < B) : One5 A a0 a1 a2 a3 a4 w' := by
  obtain ⟨h0, h1, h2, h3, h4⟩ := h
  have e := hk A hA
  exact ⟨(World.cell?_of_block (w := w) e).trans h0, (World.cell?_of_block (w := w) e).trans h1, (World.cell?_of_block (w := w) e).trans h2, (World.cell?_of_block (w := w) e).trans h3, (World.cell?_of_block (w := w) e).trans h4⟩
/-- What the iterator reads: the box of the list, that of the column, the list's row; all below a bound. -/
structure TimesAt (W : World) (B Bl Bc : Nat) (a : Option Addr) (m c : Nat) (xs : List Cel) (R C : ByteArray) : Prop where
  list : W.cell? ⟨Bl, 0, none⟩ = some (.slice a m c)
  col : One5 Bc (.string R) (.string C) (.int .i64 0) (.bool false) (.string ⟨#[]⟩) W
  row : CelRow W a m c xs
  ltl : Bl < B
  ltc : Bc < B
  ltr : xs ≠ [] → ∀ x, a = some x → x.block < B
  size : B ≤ W.heap.size
theorem TimesAt.keep {W W' : World} {B Bl Bc : Nat} {a : Option Addr} {m c : Nat} {xs : List Cel} {R C : ByteArray} (h : TimesAt W B Bl Bc a m c xs R C) (hk : KeepTo B W W') (hs : W.heap.size ≤ W'.heap.size) : TimesAt W' B Bl Bc a m c xs R C := by
  refine ⟨(World.cell?_of_block (w := W) (hk Bl h.ltl)).trans h.list, h.col.keep hk h.ltc, ⟨h.row.1, h.row.2.1, fun k y hy => ?_⟩, h.ltl, h.ltc, h.ltr, Nat.le_trans h.size hs⟩
  obtain ⟨g, rfl, h5⟩ := h.row.2.2 k y hy
  have e := hk g (h.ltr (fun he => by rw [he] at hy; simp at hy) _ rfl)
  obtain ⟨h0, h1, h2, h3, h4⟩ := h5
  exact ⟨g, rfl, (World.cell?_of_block (w := W) e).trans h0, (World.cell?_of_block (w := W) e).trans h1, (World.cell?_of_block (w := W) e).trans h2, (World.cell?_of_block (w := W) e).trans h3, (World.cell?_of_block (w := W) e).trans h4⟩
theorem keepTo_below {B : Nat} {W W' : World} (h : Below W.heap.size W W') (hB : B ≤ W.heap.size) : KeepTo B W W' := fun k hk => h.block k (by omega)
theorem TimesAt.below {W W' : World} {B Bl Bc : Nat} {a : Option Addr} {m c : Nat} {xs : List Cel} {R C : ByteArray} (h : TimesAt W B Bl Bc a m c xs R C) (hb : Below W.heap.size W W') : TimesAt W' B Bl Bc a m c xs R C := h.keep (keepTo_below hb h.size) hb.size

theorem no_col {α : Type} {a b : Prop} [Decidable a] [Decidable b] {x y : α} (h : ¬ (a ∧ b)) : (if a then if b then x else y else y) = y := by
  by_cases h1 : a
  · rw [if_pos h1, if_neg (fun h2 => h ⟨h1, h2⟩)]
  · rw [if_neg h1]

end Go.Proofs.Ytkomnnijnggbpaa
