/- The program's iterator over the cells of a column: it yields them in order, as long as it is let. -/
import Derived.RangeFuncNested
import Derived.RangeFuncBound
import Derived.RangeFuncCalls
import Derived.RangeFuncLeaves
import Derived.Shelf.Abstract
import Derived.Shelf.RegionOpen
import Derived.WalkKit
import Derived.OwnWalkIn
import Derived.TacticsInMore
import Derived.LoopNIn
import Derived.LoopIn
import Derived.Test.YtkomnnijnggbpaaZ0
import Derived.Test.YtkomnnijnggbpaaCellBefore
namespace Go.Proofs.Ytkomnnijnggbpaa
open Go.RowKit Go.Shelf
set_option linter.unusedVariables false
attribute [local go_sem] Oper.semAt_some

def KeepTo (B : Nat) (W W' : World) : Prop := ∀ k, k < B → W'.heap[k]? = W.heap[k]?
theorem KeepTo.trans {B : Nat} {X Y Z : World} (h : KeepTo B X Y) (k : KeepTo B Y Z) : KeepTo B X Z := fun j hj => (k j hj).trans (h j hj)
theorem One5.keep {A B : Nat} {a0 a1 a2 a3 a4 : Value} {w w' : World} (h : One5 A a0 a1 a2 a3 a4 w) (hk : KeepTo B w w') (hA : A < B) : One5 A a0 a1 a2 a3 a4 w' := by
 obtain ⟨h0, h1, h2, h3, h4⟩ := h
 have e := hk A hA
 exact ⟨(World.cell?_of_block (w := w) e).trans h0, (World.cell?_of_block (w := w) e).trans h1, (World.cell?_of_block (w := w) e).trans h2, (World.cell?_of_block (w := w) e).trans h3, (World.cell?_of_block (w := w) e).trans h4⟩
structure TimesAt (W : World) (B Bl Bc : Nat) (a : Option Addr) (m c : Nat) (xs : List Cel) (R C : ByteArray) : Prop where
 list : W.cell? ⟨Bl, 0, none⟩ = some (.slice a m c)
 col : One5 Bc (.string R) (.string C) (.int .i64 0) (.bool false) (.string ⟨#[]⟩) W
 row : CelRow W a m c xs
 ltl : Bl < B
 ltc : Bc < B
 ltr : xs ≠ [] → ∀ x, a = some x → x.block < B
 size : B ≤ W.heap.size
theorem TimesAt.keep {W W' : World} {B Bl Bc : Nat} {a : Option Addr} {m c : Nat} {xs : List Cel} {R C : ByteArray} (h : TimesAt W B Bl Bc a m c xs R C) (hk : KeepTo B W W') (hs : W.heap.size ≤ W'.heap.size) : TimesAt W' B Bl Bc a m c xs R C := by
 refine ⟨(World.cell?_of_block (w := W) (hk Bl h.ltl)).trans h.list, h.col.keep hk h.ltc, ⟨h.row.1, h.row.2.1, fun k y hy => ?_⟩, h.ltl, h.ltc, h.ltr, Nat.le_trans h.size hs⟩
 obtain ⟨g, rfl, h5⟩ := h.row.2.2 k y hy
 have e := hk g (h.ltr (fun he => by rw [he] at hy; simp at hy) _ rfl)
 obtain ⟨h0, h1, h2, h3, h4⟩ := h5
 exact ⟨g, rfl, (World.cell?_of_block (w := W) e).trans h0, (World.cell?_of_block (w := W) e).trans h1, (World.cell?_of_block (w := W) e).trans h2, (World.cell?_of_block (w := W) e).trans h3, (World.cell?_of_block (w := W) e).trans h4⟩
theorem keepTo_below {B : Nat} {W W' : World} (h : Below W.heap.size W W') (hB : B ≤ W.heap.size) : KeepTo B W W' := fun k hk => h.block k (by omega)
theorem TimesAt.below {W W' : World} {B Bl Bc : Nat} {a : Option Addr} {m c : Nat} {xs : List Cel} {R C : ByteArray} (h : TimesAt W B Bl Bc a m c xs R C) (hb : Below W.heap.size W W') : TimesAt W' B Bl Bc a m c xs R C := h.keep (keepTo_below hb h.size) hb.size

end Go.Proofs.Ytkomnnijnggbpaa
