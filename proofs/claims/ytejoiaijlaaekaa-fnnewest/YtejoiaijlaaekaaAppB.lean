/- Bytes put behind bytes: several at once, and those of a text. -/
import Derived.Test.YtejoiaijlaaekaaRowsB
import Derived.Lib.AppendStr
namespace Go.Proofs.Ytejoiaijlaaekaa
open Go.RowKit
set_option linter.unusedVariables false

theorem BRow.alloc {w0 w : World} {v : Value} {xs : List UInt8} (t : BRow w0 w v xs) (o : Obj) : BRow w0 (w.alloc o) v xs := ⟨t.row.alloc o, t.below.alloc t.below.size o⟩
theorem BRow.drewN {w0 w : World} {v : Value} {xs : List UInt8} (t : BRow w0 w v xs) (n : Nat) : BRow w0 (w.drewN n) v xs := ⟨t.row, t.below.trans (below_draws n)⟩
theorem BRow.more {w0 W w' : World} {v v' : Value} {xs : List UInt8} (t : BRow w0 W v xs) (ys : List UInt8) (hown : w'.ownsRow w0.heap.size 5 1 v' (xs.length + ys.length) (xs.map u8v ++ ys.map u8v)) (hg : W.grownBy w' v.ownBlock) : BRow w0 w' v' (xs ++ ys) := by
  refine ⟨by simpa using hown, t.below.grown hg t.below.size (fun k hk => (t.row.lt k hk).1)⟩
theorem strCells_u8 (s : ByteArray) : Lib.strCells s = s.data.toList.map u8v := by
  unfold Lib.strCells u8v
  simp
/-- A row of bytes is no row of another kind. -/
theorem BRow.apart {w0 w : World} {v : Value} {xs : List UInt8} (t : BRow w0 w v xs) {g U : Nat} {cur : Array Value} {fz : Nat × Nat} (hg : w.heap[g]? = some (.cells cur U fz)) (hU : U ≠ 5) : some g ≠ v.ownBlock := by
  intro e
  rcases t.row.2 with ⟨h0, _⟩ | ⟨g', cap, cur', h1, _, h3, _⟩
  · rw [h0] at e; cases e
  · rw [h1] at e
    cases e
    rw [hg] at h3
    cases h3
    exact hU rfl

/-- A text's bytes put behind. -/
theorem op_pushS {w0 w : World} {v : Value} {xs : List UInt8} (S : ByteArray) {o : Oper} {act : Act} {K : Act → World → Prop} {Q : Exit → Act → World → Prop} (s x : Operand)
    (hop : o.op = .call { callee := .builtin .append, args := #[s, x], argTypes := #[22, 9] })
    (hs : act.eval s = v) (hx : act.eval x = .string S) (t : BRow w0 w v xs) (hl : xs.length + S.size < 1000000000)
    (hk : ∀ v' w', BRow w0 w' v' (xs ++ S.data.toList) → w.grownBy w' v.ownBlock → K (act.put o.dst v') w') : o.wp Try.prog act w K Q := by
  obtain ⟨ti, hti, hz0, hz1, hz2⟩ := info_parts infoB
  obtain ⟨v', w', hr, h2, h3, h4⟩ := Lib.run_append_own_string (P := Try.prog) w w0.heap.size 22 9 o.type 5 ti Try.underlying22 Try.underlying9 hti hz0 hz1 hz2 v xs.length (xs.map u8v) t.row S (by unfold maxLen; omega) (by omega) t.below.size
  unfold Oper.wp execOp
  simp only [hop, resolve, invoke, builtin, Sem.run_bind, Sem.run_pure, Result.andThen_ok, List.map_toArray, List.map_cons, List.map_nil, hs, hx, hr]
  refine hk _ _ (t.more S.data.toList ?_ h3) h3
  rw [strCells_u8] at h2
  simpa using h2

/-- Bytes of a new row put behind. -/
theorem op_pushL {w0 w : World} {v : Value} {xs : List UInt8} (ys : List UInt8) {ad : Nat} {o : Oper} {act : Act} {K : Act → World → Prop} {Q : Exit → Act → World → Prop} (s x : Operand)
    (hop : o.op = .call { callee := .builtin .append, args := #[s, x], argTypes := #[22, 22] })
    (hs : act.eval s = v) (hx : act.eval x = .slice (some ⟨ad, 0, none⟩) ys.length ys.length) (hb : ∀ j, j < ys.length → w.cell? ⟨ad, j, none⟩ = some (u8v (ys.getD j 0))) (t : BRow w0 w v xs) (hl : xs.length + ys.length < 1000000000)
    (hk : ∀ v' w', BRow w0 w' v' (xs ++ ys) → w.grownBy w' v.ownBlock → K (act.put o.dst v') w') : o.wp Try.prog act w K Q := by
  obtain ⟨ti, hti, hz0, hz1, hz2⟩ := info_parts infoB
  refine wp_append_own _ s x 22 hop w0.heap.size 5 ti (.int .u8 0) 1 1 Try.underlying22 hti hz0 hz1 hz2 rfl (by decide) v xs.length (xs.map u8v) hs t.row
    ⟨ad, 0, none⟩ ys.length ys.length (ys.map u8v) hx (by simp) ?_ (fun u hu => by obtain ⟨c, _, rfl⟩ := List.mem_map.1 hu; rfl) (by unfold maxLen; omega) (by omega) t.below.size ?_
  · intro j u hj
    have hadd : (⟨ad, 0, none⟩ : Addr).add j = ⟨ad, j, none⟩ := by unfold Addr.add; split <;> simp_all
    have hjl : j < ys.length := by
      have := (List.getElem?_eq_some_iff.1 hj).1
      simpa using this
    rw [hadd, hb j hjl]
    rw [List.getElem?_map, List.getElem?_eq_getElem hjl] at hj
    simp at hj
    simp [← hj, hjl]
  · intro v' w' hown hg _
    exact hk v' w' (t.more ys hown hg) hg

theorem fresh_cell (w : World) (cs : Array Value) (U j : Nat) : (w.alloc (.cells cs U)).cell? ⟨w.heap.size, j, none⟩ = cs[j]? := by
  have : (w.alloc (.cells cs U)).heap[w.heap.size]? = some (.cells cs U (0, 0)) := by
    show (w.heap.push _)[w.heap.size]? = _
    rw [Array.getElem?_push, if_pos rfl]
  unfold World.cell?
  rw [this]
  rfl
/-- Two bytes in a new row. -/
theorem two_bytes (w : World) (a b : UInt8) {A B : Int} (hA : A = a.toNat) (hB : B = b.toNat) : ∀ j, j < [a, b].length → (w.alloc (.cells #[.int .u8 A, .int .u8 B] 5)).cell? ⟨w.heap.size, j, none⟩ = some (u8v ([a, b].getD j 0)) := by
  subst hA hB
  intro j hj
  rw [fresh_cell]
  match j, hj with
  | 0, _ => rfl
  | 1, _ => rfl
theorem one_byte (w : World) (a : UInt8) {A : Int} (hA : A = a.toNat) : ∀ j, j < [a].length → (w.alloc (.cells #[.int .u8 A] 5)).cell? ⟨w.heap.size, j, none⟩ = some (u8v ([a].getD j 0)) := by
  subst hA
  intro j hj
  rw [fresh_cell]
  match j, hj with
  | 0, _ => rfl
end Go.Proofs.Ytejoiaijlaaekaa
