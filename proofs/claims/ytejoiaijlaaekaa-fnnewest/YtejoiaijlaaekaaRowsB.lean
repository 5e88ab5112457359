/- Bytes that a call gathers: rows of its own. -/
import Derived.Test.YtejoiaijlaaekaaProg
import Derived.Test.YtejoiaijlaaekaaBase
import Derived.Laws.BytesArg
import Derived.RangeFuncBox
namespace Go.Proofs.Ytejoiaijlaaekaa
open Go.RowKit
set_option linter.unusedVariables false

theorem infoB : (Try.prog.info? 5).map (fun i => (i.zero, i.size, i.bytes)) = some (some (.int .u8 0), 1, 1) := by kernel_rfl

/-- A byte as a value. -/
def u8v (c : UInt8) : Value := .int .u8 c.toNat

/-- Bytes in the making, in a row of the call's own; all that lay ahead of the call as it lay. -/
structure BRow (w0 w : World) (v : Value) (xs : List UInt8) : Prop where
  row : w.ownsRow w0.heap.size 5 1 v xs.length (xs.map u8v)
  below : Below w0.heap.size w0 w

theorem BRow.push {w0 w w' : World} {v v' : Value} {xs : List UInt8} (t : BRow w0 w v xs) (o : Obj) (x : UInt8)
    (hown : w'.ownsRow w0.heap.size 5 1 v' (xs.length + 1) (xs.map u8v ++ [u8v x])) (hg : (w.alloc o).grownBy w' v.ownBlock) :
    ∃ g c, v' = .slice (some ⟨g, 0, none⟩) (xs.length + 1) c ∧ BRow w0 w' v' (xs ++ [x]) := by
  obtain ⟨g, c, rfl⟩ := ownsRow_succ hown
  refine ⟨g, c, rfl, by simpa using hown, ?_⟩
  exact (t.below.alloc t.below.size o).grown hg (by have := t.below.size; simp; omega) (fun k hk => (t.row.lt k hk).1)

theorem wp_pushB {w0 w : World} {v : Value} {xs : List UInt8} (y : UInt8) {Y : Int} (hY : Y = y.toNat) {ops : Array Oper} {rest : List Oper} {o : Oper} {act : Act} {Q : Exit → Act → World → Prop} (hgd : o.guard = none) (s x : Operand)
    (hop : o.op = .call { callee := .builtin .append, args := #[s, x], argTypes := #[22, 22] })
    (hs : act.eval s = v) (hx : act.eval x = .slice (some ⟨w.heap.size, 0, none⟩) 1 1) (t : BRow w0 w v xs) (hl : xs.length < 1000000000)
    (hk : ∀ g c w', BRow w0 w' (.slice (some ⟨g, 0, none⟩) (xs.length + 1) c) (xs ++ [y]) → wpList Try.prog ops Q rest (act.put o.dst (.slice (some ⟨g, 0, none⟩) (xs.length + 1) c)) w') :
    wpList Try.prog ops Q (o :: rest) act (w.alloc (.cells #[.int .u8 Y] 5)) := by
  subst hY
  obtain ⟨ti, hti, hz0, hz1, hz2⟩ := info_parts infoB
  refine wpList_append_own _ hgd s x 22 hop w0.heap.size 5 ti (.int .u8 0) 1 1 Try.underlying22 hti hz0 hz1 hz2 rfl (by decide) _ xs.length (xs.map u8v) hs (t.row.alloc _)
    ⟨w.heap.size, 0, none⟩ 1 1 [u8v y] hx rfl (cell_one_new _ _ _) (fun u hu => by simp at hu; subst hu; rfl) (by unfold maxLen; omega) (by omega) (by have := t.below.size; simp; omega) ?_
  intro v' w' hown hg _
  obtain ⟨g, c, rfl, t'⟩ := t.push _ y hown hg
  exact hk g c w' t'

theorem brow_made (w : World) : BRow w (w.alloc (.cells #[] 5)) (.slice (some ⟨w.heap.size, 0, none⟩) 0 0) [] :=
  ⟨World.ownsRow_made w #[] 0 (Nat.le_refl _) (by unfold maxLen; omega) (by simp), (Below.refl _ w).alloc (Nat.le_refl _) _⟩
theorem brow_nil (w : World) : BRow w w (.slice none 0 0) [] := ⟨World.ownsRow_nil _ _ _ _, Below.refl _ _⟩

theorem BRow.cell {w0 w : World} {g c n : Nat} {xs : List UInt8} (t : BRow w0 w (.slice (some ⟨g, 0, none⟩) n c) xs) (j : Nat) (hj : j < xs.length) : w.cell? ⟨g, j, none⟩ = some (u8v (xs.getD j 0)) := by
  have := t.row.cells (g := g) rfl j (u8v (xs.getD j 0)) (by simp [List.getElem?_eq_getElem hj])
  have e : (⟨g, 0, none⟩ : Addr).add j = ⟨g, j, none⟩ := by
    unfold Addr.add; split
    · subst_vars; rfl
    · simp
  rwa [e] at this

theorem strOf (xs : List UInt8) : strOfNums (xs.map fun c => (c.toNat : Int)) = ⟨xs.toArray⟩ := by
  unfold strOfNums
  rw [List.map_map]
  congr 2
  conv => rhs; rw [← List.map_id xs]
  apply List.map_congr_left
  intro a _
  simp [Function.comp]

/-- The text of bytes that lie in a row. -/
theorem str_of_cells {w : World} {g c n : Nat} (xs : List UInt8) (hn : xs.length = n) (h : ∀ j, j < xs.length → w.cell? ⟨g, j, none⟩ = some (u8v (xs.getD j 0))) :
    (convert 22 9 (.slice (some ⟨g, 0, none⟩) n c)).run Try.prog w = .ok (.string ⟨xs.toArray⟩) w := by
  rw [← strOf]
  refine run_convert_bytes_arg (P := Try.prog) w 22 5 Try.underlying22 Try.underlying5 g 0 n c (xs.map fun c => (c.toNat : Int)) (by simpa using hn) (fun j hj => ?_) 9 Try.underlying9
  rw [Nat.zero_add, h j (by omega)]
  have hj' : j < xs.length := by omega
  simp [u8v, List.getElem?_eq_getElem hj']

theorem BRow.str {w0 w : World} {g c n : Nat} {xs : List UInt8} (t : BRow w0 w (.slice (some ⟨g, 0, none⟩) n c) xs) (hn : xs.length = n) :
    (convert 22 9 (.slice (some ⟨g, 0, none⟩) n c)).run Try.prog w = .ok (.string ⟨xs.toArray⟩) w :=
  str_of_cells xs hn t.cell

/-- Bytes in a block of the call's own, all of it. -/
structure BArr (w0 w : World) (g : Nat) (xs : List UInt8) : Prop where
  block : w.heap[g]? = some (.cells (xs.map u8v).toArray 5 (0, 0))
  own : w0.heap.size ≤ g
  below : Below w0.heap.size w0 w

theorem BArr.cell {w0 w : World} {g : Nat} {xs : List UInt8} (t : BArr w0 w g xs) (j : Nat) (hj : j < xs.length) : w.cell? ⟨g, j, none⟩ = some (u8v (xs.getD j 0)) := by
  simp [World.cell?, t.block, List.getElem?_eq_getElem hj]
theorem BArr.frozen {w0 w : World} {g : Nat} {xs : List UInt8} (t : BArr w0 w g xs) (j : Nat) : w.frozen? ⟨g, j, none⟩ = false := by
  simp [World.frozen?, t.block]
theorem BArr.set {w0 w : World} {g : Nat} {xs : List UInt8} (t : BArr w0 w g xs) (k : Nat) (c : UInt8) {v : Value} (hv : v = u8v c) : BArr w0 (w.setCell ⟨g, k, none⟩ v) g (xs.set k c) := by
  subst hv
  refine ⟨?_, t.own, t.below.trans ?_⟩
  · rw [set_block _ t.block]
    simp [List.map_set]
  · exact (Below.refl _ _).setCell t.own _
theorem BArr.drewN {w0 w : World} {g : Nat} {xs : List UInt8} (t : BArr w0 w g xs) (n : Nat) : BArr w0 (w.drewN n) g xs := ⟨t.block, t.own, t.below.trans (below_draws n)⟩
theorem BArr.str {w0 w : World} {g c n : Nat} {xs : List UInt8} (t : BArr w0 w g xs) (hn : xs.length = n) :
    (convert 22 9 (.slice (some ⟨g, 0, none⟩) n c)).run Try.prog w = .ok (.string ⟨xs.toArray⟩) w := str_of_cells xs hn t.cell

theorem madeB (n : Nat) : (madeCells (Value.int .u8 0).cells (n * 1)).toList = (List.replicate n (0 : UInt8)).map u8v := by
  simp only [madeCells, Value.cells, u8v, List.map_replicate, Nat.mul_one]
  apply List.ext_getElem
  · simp
  · intro i h1 h2
    have : i % 1 = 0 := by omega
    simp [this]

theorem wp_makeB {w : World} {ops : Array Oper} {rest : List Oper} {o : Oper} {act : Act} {Q : Exit → Act → World → Prop} (hgd : o.guard = none) (l c : Operand) (hop : o.op = Op.makeSlice 22 l c)
    (L C : Int) (n : Nat) (hl : act.eval l = .int .i64 L) (hc : act.eval c = .int .i64 C) (hL : L = n) (hC : C = n) (hn : n < 1000000000)
    (hk : ∀ w', BArr w w' w.heap.size (List.replicate n 0) → wpList Try.prog ops Q rest (act.put o.dst (.slice (some ⟨w.heap.size, 0, none⟩) n n)) w') :
    wpList Try.prog ops Q (o :: rest) act w := by
  obtain ⟨ti, hti, hz0, hz1, hz2⟩ := info_parts infoB
  refine wpList_make_full _ hgd l c 22 hop w.heap.size 5 ti (.int .u8 0) 1 Try.underlying22 hti hz0 hz1 .i64 .i64 L C n hl hc hL hC (by rw [hz2]; omega) (by unfold maxLen; omega) (Nat.le_refl _) ?_
  intro w' hown hg
  refine hk w' ⟨?_, Nat.le_refl _, ⟨hg.os, hg.tape, hg.output, hg.size, fun k hk => hg.block k hk (by simp)⟩⟩
  rcases hown.2 with ⟨h0, _⟩ | ⟨g, cap, cur, h1, _, h2, _, _, h3, h4⟩
  · cases h0
  · cases h1
    rw [h2]
    have e : cur = ((List.replicate n (0 : UInt8)).map u8v).toArray := by
      apply Array.toList_inj.1
      rw [← madeB, ← h4, List.take_of_length_le (by simp; omega)]
    rw [e]
end Go.Proofs.Ytejoiaijlaaekaa
