/- Bytes that a call gathers: rows of its own. -/
import Derived.Test.YtkomnnijnggbpaaProg
import Derived.Test.YtkomnnijnggbpaaPureA
import Derived.Laws.BytesArg
import Derived.RangeFuncBox
import Derived.Lib.AppendStr
import Derived.Laws.IdiomStrings
import Derived.Laws.MakeOwn
namespace Go.Proofs.Ytkomnnijnggbpaa
open Go.RowKit
set_option linter.unusedVariables false

theorem infoB : (Try.prog.info? 5).map (fun i => (i.zero, i.size, i.bytes)) = some (some (.int .u8 0), 1, 1) := by kernel_rfl

/-- A byte as a value. -/
def u8v (c : UInt8) : Value := .int .u8 c.toNat

/-- Bytes in the making, in a row of the call's own; all that lay ahead of the call as it lay. -/
structure BRow (w0 w : World) (v : Value) (xs : List UInt8) : Prop where
  row : w.ownsRow w0.heap.size 5 1 v xs.length (xs.map u8v)
  below : Below w0.heap.size w0 w

theorem BRow.push {w0 w w' : World} {v v' : Value} {xs : List UInt8} (t : BRow w0 w v xs) (o : Obj) (x : UInt8)
    (hown : w'.ownsRow w0.heap.size 5 1 v' (xs.length + 1) (xs.map u8v ++ [u8v x])) (hg : (w.alloc o).grownBy w' v.ownBlock) :
    ∃ g c, v' = .slice (some ⟨g, 0, none⟩) (xs.length + 1) c ∧ BRow w0 w' v' (xs ++ [x]) := by
  obtain ⟨g, c, rfl⟩ := ownsRow_succ hown
  refine ⟨g, c, rfl, by simpa using hown, ?_⟩
  exact (t.below.alloc t.below.size o).grown hg (by have := t.below.size; simp; omega) (fun k hk => (t.row.lt k hk).1)

theorem wp_pushB {w0 w : World} {v : Value} {xs : List UInt8} (y : UInt8) {Y : Int} (hY : Y = y.toNat) {ops : Array Oper} {rest : List Oper} {o : Oper} {act : Act} {Q : Exit → Act → World → Prop} (hgd : o.guard = none) (s x : Operand)
    (hop : o.op = .call { callee := .builtin .append, args := #[s, x], argTypes := #[22, 22] })
    (hs : act.eval s = v) (hx : act.eval x = .slice (some ⟨w.heap.size, 0, none⟩) 1 1) (t : BRow w0 w v xs) (hl : xs.length < 1000000000)
    (hk : ∀ g c w', BRow w0 w' (.slice (some ⟨g, 0, none⟩) (xs.length + 1) c) (xs ++ [y]) → wpList Try.prog ops Q rest (act.put o.dst (.slice (some ⟨g, 0, none⟩) (xs.length + 1) c)) w') :
    wpList Try.prog ops Q (o :: rest) act (w.alloc (.cells #[.int .u8 Y] 5)) := by
  subst hY
  obtain ⟨ti, hti, hz0, hz1, hz2⟩ := info_parts infoB
  refine wpList_append_own _ hgd s x 22 hop w0.heap.size 5 ti (.int .u8 0) 1 1 Try.underlying22 hti hz0 hz1 hz2 rfl (by decide) _ xs.length (xs.map u8v) hs (t.row.alloc _)
    ⟨w.heap.size, 0, none⟩ 1 1 [u8v y] hx rfl (cell_one_new _ _ _) (fun u hu => by simp at hu; subst hu; rfl) (by unfold maxLen; omega) (by omega) (by have := t.below.size; simp; omega) ?_
  intro v' w' hown hg _
  obtain ⟨g, c, rfl, t'⟩ := t.push _ y hown hg
  exact hk g c w' t'

theorem brow_made (w : World) : BRow w (w.alloc (.cells #[] 5)) (.slice (some ⟨w.heap.size, 0, none⟩) 0 0) [] :=
  ⟨World.ownsRow_made w #[] 0 (Nat.le_refl _) (by unfold maxLen; omega) (by simp), (Below.refl _ w).alloc (Nat.le_refl _) _⟩
theorem brow_nil (w : World) : BRow w w (.slice none 0 0) [] := ⟨World.ownsRow_nil _ _ _ _, Below.refl _ _⟩

theorem BRow.cell {w0 w : World} {g c n : Nat} {xs : List UInt8} (t : BRow w0 w (.slice (some ⟨g, 0, none⟩) n c) xs) (j : Nat) (hj : j < xs.length) : w.cell? ⟨g, j, none⟩ = some (u8v (xs.getD j 0)) := by
  have := t.row.cells (g := g) rfl j (u8v (xs.getD j 0)) (by simp [List.getElem?_eq_getElem hj])
  have e : (⟨g, 0, none⟩ : Addr).add j = ⟨g, j, none⟩ := by
    unfold Addr.add; split
    · subst_vars; rfl
    · simp
  rwa [e] at this

theorem strOf (xs : List UInt8) : strOfNums (xs.map fun c => (c.toNat : Int)) = ⟨xs.toArray⟩ := by
  unfold strOfNums
  rw [List.map_map]
  congr 2
  conv => rhs; rw [← List.map_id xs]
  apply List.map_congr_left
  intro a _
  simp [Function.comp]

/-- The text of bytes that lie in a row. -/
theorem str_of_cells {w : World} {g c n : Nat} (xs : List UInt8) (hn : xs.length = n) (h : ∀ j, j < xs.length → w.cell? ⟨g, j, none⟩ = some (u8v (xs.getD j 0))) :
    (convert 22 9 (.slice (some ⟨g, 0, none⟩) n c)).run Try.prog w = .ok (.string ⟨xs.toArray⟩) w := by
  rw [← strOf]
  refine run_convert_bytes_arg (P := Try.prog) w 22 5 Try.underlying22 Try.underlying5 g 0 n c (xs.map fun c => (c.toNat : Int)) (by simpa using hn) (fun j hj => ?_) 9 Try.underlying9
  rw [Nat.zero_add, h j (by omega)]
  have hj' : j < xs.length := by omega
  simp [u8v, List.getElem?_eq_getElem hj']

theorem BRow.str {w0 w : World} {g c n : Nat} {xs : List UInt8} (t : BRow w0 w (.slice (some ⟨g, 0, none⟩) n c) xs) (hn : xs.length = n) :
    (convert 22 9 (.slice (some ⟨g, 0, none⟩) n c)).run Try.prog w = .ok (.string ⟨xs.toArray⟩) w :=
  str_of_cells xs hn t.cell

/-- Bytes in a block of the call's own, all of it. -/
structure BArr (w0 w : World) (g : Nat) (xs : List UInt8) : Prop where
  block : w.heap[g]? = some (.cells (xs.map u8v).toArray 5 (0, 0))
  own : w0.heap.size ≤ g
  below : Below w0.heap.size w0 w

theorem BArr.cell {w0 w : World} {g : Nat} {xs : List UInt8} (t : BArr w0 w g xs) (j : Nat) (hj : j < xs.length) : w.cell? ⟨g, j, none⟩ = some (u8v (xs.getD j 0)) := by
  simp [World.cell?, t.block, List.getElem?_eq_getElem hj]
theorem BArr.frozen {w0 w : World} {g : Nat} {xs : List UInt8} (t : BArr w0 w g xs) (j : Nat) : w.frozen? ⟨g, j, none⟩ = false := by
  simp [World.frozen?, t.block]
theorem BArr.set {w0 w : World} {g : Nat} {xs : List UInt8} (t : BArr w0 w g xs) (k : Nat) (c : UInt8) {v : Value} (hv : v = u8v c) : BArr w0 (w.setCell ⟨g, k, none⟩ v) g (xs.set k c) := by
  subst hv
  refine ⟨?_, t.own, t.below.trans ?_⟩
  · rw [set_block _ t.block]
    simp [List.map_set]
  · exact (Below.refl _ _).setCell t.own _
theorem BArr.drewN {w0 w : World} {g : Nat} {xs : List UInt8} (t : BArr w0 w g xs) (n : Nat) : BArr w0 (w.drewN n) g xs := ⟨t.block, t.own, t.below.trans (below_draws n)⟩
theorem BArr.str {w0 w : World} {g c n : Nat} {xs : List UInt8} (t : BArr w0 w g xs) (hn : xs.length = n) :
    (convert 22 9 (.slice (some ⟨g, 0, none⟩) n c)).run Try.prog w = .ok (.string ⟨xs.toArray⟩) w := str_of_cells xs hn t.cell

theorem madeB (n : Nat) : (madeCells (Value.int .u8 0).cells (n * 1)).toList = (List.replicate n (0 : UInt8)).map u8v := by
  simp only [madeCells, Value.cells, u8v, List.map_replicate, Nat.mul_one]
  apply List.ext_getElem
  · simp
  · intro i h1 h2
    have : i % 1 = 0 := by omega
    simp [this]

theorem wp_makeB {w : World} {ops : Array Oper} {rest : List Oper} {o : Oper} {act : Act} {Q : Exit → Act → World → Prop} (hgd : o.guard = none) (l c : Operand) (hop : o.op = Op.makeSlice 22 l c)
    (L C : Int) (n : Nat) (hl : act.eval l = .int .i64 L) (hc : act.eval c = .int .i64 C) (hL : L = n) (hC : C = n) (hn : n < 1000000000)
    (hk : ∀ w', BArr w w' w.heap.size (List.replicate n 0) → wpList Try.prog ops Q rest (act.put o.dst (.slice (some ⟨w.heap.size, 0, none⟩) n n)) w') :
    wpList Try.prog ops Q (o :: rest) act w := by
  obtain ⟨ti, hti, hz0, hz1, hz2⟩ := info_parts infoB
  refine wpList_make_full _ hgd l c 22 hop w.heap.size 5 ti (.int .u8 0) 1 Try.underlying22 hti hz0 hz1 .i64 .i64 L C n hl hc hL hC (by rw [hz2]; omega) (by unfold maxLen; omega) (Nat.le_refl _) ?_
  intro w' hown hg
  refine hk w' ⟨?_, Nat.le_refl _, ⟨hg.os, hg.tape, hg.output, hg.size, fun k hk => hg.block k hk (by simp)⟩⟩
  rcases hown.2 with ⟨h0, _⟩ | ⟨g, cap, cur, h1, _, h2, _, _, h3, h4⟩
  · cases h0
  · cases h1
    rw [h2]
    have e : cur = ((List.replicate n (0 : UInt8)).map u8v).toArray := by
      apply Array.toList_inj.1
      rw [← madeB, ← h4, List.take_of_length_le (by simp; omega)]
    rw [e]
end Go.Proofs.Ytkomnnijnggbpaa
/- Bytes put behind bytes: several at once, and those of a text. -/
namespace Go.Proofs.Ytkomnnijnggbpaa
open Go.RowKit
set_option linter.unusedVariables false

theorem BRow.alloc {w0 w : World} {v : Value} {xs : List UInt8} (t : BRow w0 w v xs) (o : Obj) : BRow w0 (w.alloc o) v xs := ⟨t.row.alloc o, t.below.alloc t.below.size o⟩
theorem BRow.drewN {w0 w : World} {v : Value} {xs : List UInt8} (t : BRow w0 w v xs) (n : Nat) : BRow w0 (w.drewN n) v xs := ⟨t.row, t.below.trans (below_draws n)⟩
theorem BRow.more {w0 W w' : World} {v v' : Value} {xs : List UInt8} (t : BRow w0 W v xs) (ys : List UInt8) (hown : w'.ownsRow w0.heap.size 5 1 v' (xs.length + ys.length) (xs.map u8v ++ ys.map u8v)) (hg : W.grownBy w' v.ownBlock) : BRow w0 w' v' (xs ++ ys) := by
  refine ⟨by simpa using hown, t.below.grown hg t.below.size (fun k hk => (t.row.lt k hk).1)⟩
theorem strCells_u8 (s : ByteArray) : Lib.strCells s = s.data.toList.map u8v := by
  unfold Lib.strCells u8v
  simp
/-- A row of bytes is no row of another kind. -/
theorem BRow.apart {w0 w : World} {v : Value} {xs : List UInt8} (t : BRow w0 w v xs) {g U : Nat} {cur : Array Value} {fz : Nat × Nat} (hg : w.heap[g]? = some (.cells cur U fz)) (hU : U ≠ 5) : some g ≠ v.ownBlock := by
  intro e
  rcases t.row.2 with ⟨h0, _⟩ | ⟨g', cap, cur', h1, _, h3, _⟩
  · rw [h0] at e; cases e
  · rw [h1] at e
    cases e
    rw [hg] at h3
    cases h3
    exact hU rfl

/-- A text's bytes put behind. -/
theorem op_pushS {w0 w : World} {v : Value} {xs : List UInt8} (S : ByteArray) {o : Oper} {act : Act} {K : Act → World → Prop} {Q : Exit → Act → World → Prop} (s x : Operand)
    (hop : o.op = .call { callee := .builtin .append, args := #[s, x], argTypes := #[22, 9] })
    (hs : act.eval s = v) (hx : act.eval x = .string S) (t : BRow w0 w v xs) (hl : xs.length + S.size < 1000000000)
    (hk : ∀ v' w', BRow w0 w' v' (xs ++ S.data.toList) → w.grownBy w' v.ownBlock → K (act.put o.dst v') w') : o.wp Try.prog act w K Q := by
  obtain ⟨ti, hti, hz0, hz1, hz2⟩ := info_parts infoB
  obtain ⟨v', w', hr, h2, h3, h4⟩ := Lib.run_append_own_string (P := Try.prog) w w0.heap.size 22 9 o.type 5 ti Try.underlying22 Try.underlying9 hti hz0 hz1 hz2 v xs.length (xs.map u8v) t.row S (by unfold maxLen; omega) (by omega) t.below.size
  unfold Oper.wp execOp
  simp only [hop, resolve, invoke, builtin, Sem.run_bind, Sem.run_pure, Result.andThen_ok, List.map_toArray, List.map_cons, List.map_nil, hs, hx, hr]
  refine hk _ _ (t.more S.data.toList ?_ h3) h3
  rw [strCells_u8] at h2
  simpa using h2

/-- Bytes of a new row put behind. -/
theorem op_pushL {w0 w : World} {v : Value} {xs : List UInt8} (ys : List UInt8) {ad : Nat} {o : Oper} {act : Act} {K : Act → World → Prop} {Q : Exit → Act → World → Prop} (s x : Operand)
    (hop : o.op = .call { callee := .builtin .append, args := #[s, x], argTypes := #[22, 22] })
    (hs : act.eval s = v) (hx : act.eval x = .slice (some ⟨ad, 0, none⟩) ys.length ys.length) (hb : ∀ j, j < ys.length → w.cell? ⟨ad, j, none⟩ = some (u8v (ys.getD j 0))) (t : BRow w0 w v xs) (hl : xs.length + ys.length < 1000000000)
    (hk : ∀ v' w', BRow w0 w' v' (xs ++ ys) → w.grownBy w' v.ownBlock → K (act.put o.dst v') w') : o.wp Try.prog act w K Q := by
  obtain ⟨ti, hti, hz0, hz1, hz2⟩ := info_parts infoB
  refine wp_append_own _ s x 22 hop w0.heap.size 5 ti (.int .u8 0) 1 1 Try.underlying22 hti hz0 hz1 hz2 rfl (by decide) v xs.length (xs.map u8v) hs t.row
    ⟨ad, 0, none⟩ ys.length ys.length (ys.map u8v) hx (by simp) ?_ (fun u hu => by obtain ⟨c, _, rfl⟩ := List.mem_map.1 hu; rfl) (by unfold maxLen; omega) (by omega) t.below.size ?_
  · intro j u hj
    have hadd : (⟨ad, 0, none⟩ : Addr).add j = ⟨ad, j, none⟩ := by unfold Addr.add; split <;> simp_all
    have hjl : j < ys.length := by
      have := (List.getElem?_eq_some_iff.1 hj).1
      simpa using this
    rw [hadd, hb j hjl]
    rw [List.getElem?_map, List.getElem?_eq_getElem hjl] at hj
    simp at hj
    simp [← hj, hjl]
  · intro v' w' hown hg _
    exact hk v' w' (t.more ys hown hg) hg

theorem fresh_cell (w : World) (cs : Array Value) (U j : Nat) : (w.alloc (.cells cs U)).cell? ⟨w.heap.size, j, none⟩ = cs[j]? := by
  have : (w.alloc (.cells cs U)).heap[w.heap.size]? = some (.cells cs U (0, 0)) := by
    show (w.heap.push _)[w.heap.size]? = _
    rw [Array.getElem?_push, if_pos rfl]
  unfold World.cell?
  rw [this]
  rfl
/-- Two bytes in a new row. -/
theorem two_bytes (w : World) (a b : UInt8) {A B : Int} (hA : A = a.toNat) (hB : B = b.toNat) : ∀ j, j < [a, b].length → (w.alloc (.cells #[.int .u8 A, .int .u8 B] 5)).cell? ⟨w.heap.size, j, none⟩ = some (u8v ([a, b].getD j 0)) := by
  subst hA hB
  intro j hj
  rw [fresh_cell]
  match j, hj with
  | 0, _ => rfl
  | 1, _ => rfl
theorem one_byte (w : World) (a : UInt8) {A : Int} (hA : A = a.toNat) : ∀ j, j < [a].length → (w.alloc (.cells #[.int .u8 A] 5)).cell? ⟨w.heap.size, j, none⟩ = some (u8v ([a].getD j 0)) := by
  subst hA
  intro j hj
  rw [fresh_cell]
  match j, hj with
  | 0, _ => rfl
end Go.Proofs.Ytkomnnijnggbpaa
/- A text's bytes in a block of the call's own: written into, and read again. -/
namespace Go.Proofs.Ytkomnnijnggbpaa
open Go.RowKit
set_option linter.unusedVariables false

/-- Bytes at the head of a block of the call's own. -/
structure Buf (w0 w : World) (g : Nat) (xs : List UInt8) : Prop where
  block : ∃ (cs : Array Value) (n : Nat), w.heap[g]? = some (.cells cs 5 (n, n + 1)) ∧ xs.length ≤ n ∧ xs.length ≤ cs.size ∧ ∀ j, j < xs.length → cs[j]? = some (u8v (xs.getD j 0))
  own : w0.heap.size ≤ g
  below : Below w0.heap.size w0 w

theorem Buf.cell {w0 w : World} {g : Nat} {xs : List UInt8} (t : Buf w0 w g xs) (j : Nat) (hj : j < xs.length) : w.cell? ⟨g, j, none⟩ = some (u8v (xs.getD j 0)) := by
  obtain ⟨cs, n, hb, h1, h2, h3⟩ := t.block
  have := h3 j hj
  simp [World.cell?, hb, this]
theorem Buf.frozen {w0 w : World} {g : Nat} {xs : List UInt8} (t : Buf w0 w g xs) (j : Nat) (hj : j < xs.length) : w.frozen? ⟨g, j, none⟩ = false := by
  obtain ⟨cs, n, hb, h1, h2, h3⟩ := t.block
  simp [World.frozen?, hb]
  omega
theorem Buf.set {w0 w : World} {g : Nat} {xs : List UInt8} (t : Buf w0 w g xs) (k : Nat) (c : UInt8) {v : Value} (hv : v = u8v c) : Buf w0 (w.setCell ⟨g, k, none⟩ v) g (xs.set k c) := by
  subst hv
  obtain ⟨cs, n, hb, h1, h2, h3⟩ := t.block
  refine ⟨⟨cs.setIfInBounds k (u8v c), n, ?_, by simpa using h1, by simpa using h2, ?_⟩, t.own, t.below.trans ((Below.refl _ _).setCell t.own _)⟩
  · rw [set_block _ hb]
  · intro j hj
    rw [List.length_set] at hj
    rw [Array.getElem?_setIfInBounds]
    by_cases e : k = j
    · subst e
      rw [if_pos rfl, if_pos (by omega)]
      simp [hj]
    · rw [if_neg e, h3 j hj]
      simp [e]
theorem Buf.drewN {w0 w : World} {g : Nat} {xs : List UInt8} (t : Buf w0 w g xs) (n : Nat) : Buf w0 (w.drewN n) g xs := ⟨t.block, t.own, t.below.trans (below_draws n)⟩
theorem Buf.str {w0 w : World} {g c n : Nat} {xs : List UInt8} (t : Buf w0 w g xs) (hn : xs.length = n) :
    (convert 22 9 (.slice (some ⟨g, 0, none⟩) n c)).run Try.prog w = .ok (.string ⟨xs.toArray⟩) w := str_of_cells xs hn t.cell

/-- A text's bytes, laid. -/
theorem buf_new (w : World) (s : ByteArray) : ∃ cap W, (convert 9 22 (.string s)).run Try.prog w = .ok (.slice (some ⟨w.heap.size, 0, none⟩) s.size cap) W ∧ Buf w W w.heap.size s.data.toList ∧ s.size ≤ cap := by
  have hrun := run_bytes_of_string (P := Try.prog) w 9 22 5 s Try.underlying9 Try.underlying22 Try.underlying5
  have hcap : s.size ≤ grownCap w s.size 0 5 := grownCap_ge _ _ _ _
  refine ⟨_, _, hrun, ⟨⟨bytesRow s (grownCap w s.size 0 5), (bytesRow s (grownCap w s.size 0 5)).size, ?_, ?_, ?_, ?_⟩, Nat.le_refl _, ?_⟩, hcap⟩
  · show (w.heap.push _)[w.heap.size]? = _
    simp
  · simp [bytesRow]
  · simp [bytesRow]
  · intro j hj
    have hj' : j < s.size := by simpa using hj
    unfold bytesRow
    rw [Array.getElem?_append_left (by simpa using hj')]
    simp [u8v, hj']
  · exact ⟨rfl, rfl, rfl, by simp, fun k hk => by
      show (w.heap.push _)[k]? = _
      rw [Array.getElem?_push, if_neg (by omega)]⟩
end Go.Proofs.Ytkomnnijnggbpaa
/- A text of zeros, made. -/
namespace Go.Proofs.Ytkomnnijnggbpaa
open Go.RowKit
set_option linter.unusedVariables false

/-- The block of so many zeros. -/
def zerosObj (n : Nat) : Obj := .cells (Array.replicate n (.int .u8 0)) 5
theorem zeros_cell (n : Nat) (w : World) (j : Nat) (hj : j < n) : (w.alloc (zerosObj n)).cell? ⟨w.heap.size, j, none⟩ = some (.int .u8 0) := by
  unfold zerosObj
  rw [fresh_cell]
  simp [hj]
theorem madeCells_zero (n : Nat) : madeCells #[Value.int .u8 0] n = Array.replicate n (.int .u8 0) := by
  apply Array.ext
  · simp [madeCells]
  · intro j h1 h2
    simp [madeCells, Nat.mod_one]
theorem zeros_made (n : Nat) (w : World) (hn : n ≤ 10000) : (Instr.makeSlice 22 (.int .i64 n) (.int .i64 n)).run Try.prog w = .ok (.slice (some ⟨w.heap.size, 0, none⟩) n n) (w.alloc (zerosObj n)) := by
  obtain ⟨ti, hti, hz0, hz1, hz2⟩ := info_parts infoB
  have h := run_makeSlice (P := Try.prog) w 22 5 ti (.int .u8 0) Try.underlying22 hti hz0 .i64 .i64 n n (by omega) (by omega) (by rw [hz1]; simp; omega) (by rw [hz2]; omega) (by omega)
  rw [hz1, Int.toNat_natCast, Nat.mul_one] at h
  have e : (Value.int IntKind.u8 0).cells = #[Value.int .u8 0] := rfl
  rw [e, madeCells_zero] at h
  exact h
theorem zeros_text (n : Nat) (w : World) : (convert 22 9 (.slice (some ⟨w.heap.size, 0, none⟩) n n)).run Try.prog (w.alloc (zerosObj n)) = .ok (.string ⟨(List.replicate n 0).toArray⟩) (w.alloc (zerosObj n)) :=
  str_of_cells (List.replicate n 0) (by simp) (fun j hj => by
    rw [List.length_replicate] at hj
    rw [zeros_cell n w j hj]
    unfold u8v
    simp [List.getD_eq_getElem?_getD, hj])
end Go.Proofs.Ytkomnnijnggbpaa
