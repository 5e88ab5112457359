/- A text's bytes put behind bytes, and where these lie then. -/
import Derived.Test.YtkomnnijnggbpaaRowsA
import Derived.Test.YtkomnnijnggbpaaCellA
namespace Go.Proofs.Ytkomnnijnggbpaa
open Go.RowKit
set_option linter.unusedVariables false

/-- The row is where it was, or new. -/
def Where (w : World) (v v' : Value) : Prop := v'.ownBlock = v.ownBlock ∨ ∃ g, v'.ownBlock = some g ∧ w.heap.size ≤ g
theorem Where.refl (w : World) (v : Value) : Where w v v := .inl rfl
theorem Where.trans {w w1 : World} {v v1 v2 : Value} (h : Where w v v1) (hs : w.heap.size ≤ w1.heap.size) (k : Where w1 v1 v2) : Where w v v2 := by
  rcases k with k | ⟨g, k, kg⟩
  · rcases h with h | ⟨g, h, hg⟩
    · exact .inl (k.trans h)
    · exact .inr ⟨g, k.trans h, hg⟩
  · exact .inr ⟨g, k, by omega⟩
theorem Where.grow {w w1 w2 : World} {v v1 : Value} (h : Where w v v1) (g1 : w.grownBy w1 v.ownBlock) (g2 : w1.grownBy w2 v1.ownBlock) : w.grownBy w2 v.ownBlock :=
  ⟨g2.os.trans g1.os, g2.tape.trans g1.tape, g2.output.trans g1.output, Nat.le_trans g1.size g2.size, fun k hk hne => (g2.block k (by have := g1.size; omega) (by
    rcases h with h | ⟨g, h, hg⟩
    · rw [h]; exact hne
    · rw [h]; intro e; cases e; omega)).trans (g1.block k hk hne)⟩
theorem where_str {w w' : World} {v v' : Value} {base n : Nat} {xs : List Value} {ty : TypeId} {S : ByteArray} (hown : w.ownsRow base 5 1 v n xs) (hl : n + S.size < 1000000000)
    (hr : (Builtin.append_ #[22, 9] ty #[v, .string S]).run Try.prog w = .ok v' w') : Where w v v' := by
  obtain ⟨ti, hti, hz0, hz1, hz2⟩ := info_parts infoB
  have hxl : xs.length = n := by simpa using hown.1
  rcases hown.2 with ⟨rfl, rfl⟩ | ⟨g, cap, cur, rfl, hbg, hg, hnc, hcm, hcs, htake⟩
  · obtain ⟨v2, w2, hr2, h2, _, _⟩ := Lib.run_append_own_string (P := Try.prog) w w.heap.size 22 9 ty 5 ti Try.underlying22 Try.underlying9 hti hz0 hz1 hz2 (.slice none 0 0) 0 [] (World.ownsRow_nil _ _ _ _) S (by unfold maxLen; omega) (by omega) (Nat.le_refl _)
    rw [hr] at hr2
    cases hr2
    rcases h2.2 with ⟨rfl, _⟩ | ⟨g, cap, cur, rfl, hbg, _⟩
    · exact .inl rfl
    · exact .inr ⟨g, rfl, hbg⟩
  · by_cases hroom : n + S.size ≤ cap
    · have hcs' : cur.size = cap := by simpa using hcs
      have hr2 := Lib.run_append_room_string (P := Try.prog) w 22 9 ty 5 ti Try.underlying22 Try.underlying9 hti hz1 g n cap cur hg S hroom (by omega)
      rw [hr] at hr2
      cases hr2
      exact .inl rfl
    · have holds : ∀ j u, xs[j]? = some u → w.cell? ((⟨g, 0, none⟩ : Addr).add j) = some u := hown.cells (g := g) rfl
      have hr2 := Lib.run_append_grow_string (P := Try.prog) w 22 9 ty 5 ti (.int .u8 0) Try.underlying22 Try.underlying9 hti hz0 ⟨g, 0, none⟩ n cap xs (by rw [hz1]; simpa using hxl) holds S (by omega) (by omega) (by rw [hz2]; exact growslice_fits (by omega) (by omega))
      rw [hr] at hr2
      cases hr2
      exact .inr ⟨_, rfl, Nat.le_refl _⟩
/-- A text's bytes put behind; where they lie. -/
theorem op_pushA {w0 w : World} {v : Value} {xs : List UInt8} (S : ByteArray) {o : Oper} {act : Act} {K : Act → World → Prop} {Q : Exit → Act → World → Prop} (s x : Operand)
    (hop : o.op = .call { callee := .builtin .append, args := #[s, x], argTypes := #[22, 9] })
    (hs : act.eval s = v) (hx : act.eval x = .string S) (t : BRow w0 w v xs) (hl : xs.length + S.size < 1000000000)
    (hk : ∀ v' w', BRow w0 w' v' (xs ++ S.data.toList) → w.grownBy w' v.ownBlock → Where w v v' → K (act.put o.dst v') w') : o.wp Try.prog act w K Q := by
  obtain ⟨ti, hti, hz0, hz1, hz2⟩ := info_parts infoB
  obtain ⟨v', w', hr, h2, h3, h4⟩ := Lib.run_append_own_string (P := Try.prog) w w0.heap.size 22 9 o.type 5 ti Try.underlying22 Try.underlying9 hti hz0 hz1 hz2 v xs.length (xs.map u8v) t.row S (by unfold maxLen; omega) (by omega) t.below.size
  have hw := where_str t.row hl hr
  unfold Oper.wp execOp
  simp only [hop, resolve, invoke, builtin, Sem.run_bind, Sem.run_pure, Result.andThen_ok, List.map_toArray, List.map_cons, List.map_nil, hs, hx, hr]
  refine hk _ _ (t.more S.data.toList ?_ h3) h3 hw
  rw [strCells_u8] at h2
  simpa using h2
theorem BRow.under {w0 w w' : World} {v : Value} {xs : List UInt8} (t : BRow w0 w v xs) (hb : Below w.heap.size w w') : BRow w0 w' v xs := by
  refine ⟨⟨t.row.1, ?_⟩, t.below.trans (hb.mono t.below.size)⟩
  rcases t.row.2 with h2 | ⟨g, cap, cur, h1, h2, h3, r⟩
  · exact .inl h2
  · exact .inr ⟨g, cap, cur, h1, h2, (hb.block g (Array.getElem?_eq_some_iff.1 h3).1).trans h3, r⟩
theorem grown_under {w w' : World} (h : Below w.heap.size w w') (row : Option Nat) : w.grownBy w' row := ⟨h.os, h.tape, h.output, h.size, fun j hj _ => h.block j hj⟩
theorem grown_then {w w1 w2 : World} {row : Option Nat} (g : w.grownBy w1 row) (h : Below w1.heap.size w1 w2) : w.grownBy w2 row :=
  ⟨h.os.trans g.os, h.tape.trans g.tape, h.output.trans g.output, Nat.le_trans g.size h.size, fun k hk hne => (h.block k (by have := g.size; omega)).trans (g.block k hk hne)⟩
theorem blk4 {w : World} {g T : Nat} {a0 a1 a2 a3 : Value} (h : w.heap[g]? = some (.cells #[a0, a1, a2, a3] T (0, 0))) : w.cell? ⟨g, 0, none⟩ = some a0 ∧ w.cell? ⟨g, 1, none⟩ = some a1 ∧ w.cell? ⟨g, 2, none⟩ = some a2 ∧ w.cell? ⟨g, 3, none⟩ = some a3 := by
  refine ⟨?_, ?_, ?_, ?_⟩ <;> simp [World.cell?, h]
end Go.Proofs.Ytkomnnijnggbpaa
