/- A key in a row of bytes: cut, grown anew, told as a text. -/
import Derived.Test.YtgonnibakkabjaaRowsA
import Derived.Test.YtgonnibakkabjaaAppAt
import Derived.Laws.CopyRow
namespace Go.Proofs.Ytgonnibakkabjaa
open Go.RowKit
set_option linter.unusedVariables false

/-- A key's bytes in a row. -/
def KeyAt (W : World) (v : Value) (k : List UInt8) : Prop :=
  (v = .slice none 0 0 ∧ k = []) ∨ ∃ g cap cur, v = .slice (some ⟨g, 0, none⟩) k.length cap ∧ W.heap[g]? = some (.cells cur 5 (0, 0)) ∧ k.length ≤ cap ∧ cap ≤ cur.size ∧ cur.toList.take k.length = k.map u8v
theorem KeyAt.form {W : World} {v : Value} {k : List UInt8} (h : KeyAt W v k) : ∃ ad cap, v = .slice ad k.length cap ∧ k.length ≤ cap := by
  rcases h with ⟨rfl, rfl⟩ | ⟨g, cap, cur, rfl, _, h, _⟩
  · exact ⟨none, 0, rfl, Nat.le_refl _⟩
  · exact ⟨_, cap, rfl, h⟩
theorem KeyAt.keep {W W' : World} {v : Value} {k : List UInt8} (h : KeyAt W v k) (hk : ∀ (g : Nat) (cur : Array Value), W.heap[g]? = some (Obj.cells cur 5 (0, 0)) → W'.heap[g]? = some (Obj.cells cur 5 (0, 0))) : KeyAt W' v k := by
  rcases h with h | ⟨g, cap, cur, h1, h2, r⟩
  · exact .inl h
  · exact .inr ⟨g, cap, cur, h1, hk g cur h2, r⟩
theorem KeyAt.below {W W' : World} {v : Value} {k : List UInt8} (h : KeyAt W v k) (hb : Below W.heap.size W W') : KeyAt W' v k := h.keep (fun g cur hg => (hb.block g (Array.getElem?_eq_some_iff.1 hg).1).trans hg)
theorem take_u8 {cur : List Value} {k : List UInt8} (h : cur.take k.length = k.map u8v) {s : Nat} (hs : s ≤ k.length) : cur.take s = (k.take s).map u8v := by
  have := congrArg (List.take s) h
  rwa [List.take_take, Nat.min_eq_left hs, ← List.map_take] at this
theorem cur_cell {W : World} {g : Nat} {cur : Array Value} {xs : List Value} {n : Nat} (hg : W.heap[g]? = some (.cells cur 5 (0, 0))) (h : cur.toList.take n = xs) : ∀ j v, xs[j]? = some v → W.cell? ((⟨g, 0, none⟩ : Addr).add j) = some v := by
  intro j v hj
  have e : (⟨g, 0, none⟩ : Addr).add j = ⟨g, j, none⟩ := by
    unfold Addr.add; split
    · subst_vars; rfl
    · simp
  rw [e]
  rw [← h, List.getElem?_take] at hj
  split at hj
  · simp only [World.cell?, hg]
    simpa using hj
  · cases hj
theorem keyAt_text {W : World} {v : Value} {k : List UInt8} (h : KeyAt W v k) : (convert 22 9 v).run Try.prog W = .ok (.string ⟨k.toArray⟩) W := by
  rcases h with ⟨rfl, rfl⟩ | ⟨g, cap, cur, rfl, hg, _, _, ht⟩
  · exact run_convert_bytes_nil (P := Try.prog) W 22 5 Try.underlying22 Try.underlying5 0 0 9 Try.underlying9
  · refine str_of_cells k rfl (fun j hj => ?_)
    have := cur_cell hg ht j (u8v (k.getD j 0)) (by simp [List.getElem?_eq_getElem hj])
    have e : (⟨g, 0, none⟩ : Addr).add j = ⟨g, j, none⟩ := by
      unfold Addr.add; split
      · subst_vars; rfl
      · simp
    rwa [e] at this
theorem cut_run (W : World) (ad : Option Addr) (n cap s : Nat) (h1 : s ≤ n) (h2 : n ≤ cap) : (Instr.sliceAt 22 (.slice ad n cap) none (some (.int .i64 s)) (some (.int .i64 s))).run Try.prog W = .ok (.slice ad s s) W := by
  have q1 : (s : Int) ≤ (cap : Int) := by omega
  have q2 : s ≤ cap := by omega
  have hu := run_underlying (P := Try.prog) (w := W) Try.underlying22
  obtain ⟨ti, hti, hz0, hz1, hz2⟩ := info_parts infoB
  have ha : ∀ x : Addr, x.add 0 = x := fun x => by unfold Addr.add; simp
  cases ad <;> simp [Instr.sliceAt, Instr.slice, Instr.sliceBounds, Instr.sliceBound, hu, asIntOf, sizeOf, typeInfo, hti, q2, ha]
theorem key_push {W : World} {ad : Option Addr} {cap : Nat} {k : List UInt8} (h : KeyAt W (.slice ad k.length cap) k) {s : Nat} (hs : s ≤ k.length) (X : ByteArray) (hl : s + X.size < 1000000000) :
    ∃ v' w', (Builtin.append_ #[22, 9] 22 #[.slice ad s s, .string X]).run Try.prog W = .ok v' w' ∧ KeyAt w' v' (k.take s ++ X.data.toList) ∧ Below W.heap.size W w' := by
  obtain ⟨ti, hti, hz0, hz1, hz2⟩ := info_parts infoB
  have hxl : X.data.toList.length = X.size := by simp
  rcases h with ⟨h0, rfl⟩ | ⟨g, cap', cur, h0, hg, h1, h2, h3⟩
  · cases h0
    obtain rfl : s = 0 := by simpa using hs
    obtain ⟨v', w', hr, h2, h3, _⟩ := Lib.run_append_own_string (P := Try.prog) W W.heap.size 22 9 22 5 ti Try.underlying22 Try.underlying9 hti hz0 hz1 hz2 (.slice none 0 0) 0 [] (World.ownsRow_nil _ _ _ _) X (by unfold maxLen; omega) (by omega) (Nat.le_refl _)
    refine ⟨v', w', hr, ?_, h3.os, h3.tape, h3.output, h3.size, fun j hj => h3.block j hj (fun e => by cases e)⟩
    rw [strCells_u8] at h2
    rcases h2.2 with ⟨e1, e2⟩ | ⟨g, cp, cur, e1, e2, e3, e4, e5, e6, e7⟩
    · refine .inl ⟨e1, ?_⟩
      have : X.data.toList = [] := List.eq_nil_of_length_eq_zero (by omega)
      simp [this]
    · refine .inr ⟨g, cp, cur, ?_, e3, ?_, ?_, ?_⟩
      · rw [e1]; simp [hxl]
      · simpa [hxl] using e4
      · rw [e6]; simp
      · simpa [hxl] using e7
  · cases h0
    have hcs : cur.toList.take s = (k.take s).map u8v := take_u8 h3 hs
    have hkl : (k.take s).length = s := by rw [List.length_take]; omega
    by_cases hX : X.size = 0
    · have hX0 : X.data.toList = [] := List.eq_nil_of_length_eq_zero (by omega)
      have hr := Lib.run_append_room_string (P := Try.prog) W 22 9 22 5 ti Try.underlying22 Try.underlying9 hti hz1 g s s cur hg X (by omega) (by omega)
      have e0 : (cur.toList.take s ++ Lib.strCells X ++ cur.toList.drop (s + X.size)).toArray = cur := by
        have : Lib.strCells X = [] := List.eq_nil_of_length_eq_zero (by rw [Lib.strCells_length, hX])
        rw [this, hX, List.append_nil, Nat.add_zero, List.take_append_drop]
      rw [e0, setRow_self W g cur _ _ hg, hX, Nat.add_zero] at hr
      refine ⟨_, W, hr, .inr ⟨g, s, cur, ?_, hg, ?_, by omega, ?_⟩, Below.refl _ _⟩
      · rw [hX0, List.append_nil, hkl]
      · rw [hX0, List.append_nil, hkl]; exact Nat.le_refl _
      · rw [hX0, List.append_nil, hkl]; exact hcs
    · have hr := Lib.run_append_grow_string (P := Try.prog) W 22 9 22 5 ti (.int .u8 0) Try.underlying22 Try.underlying9 hti hz0 ⟨g, 0, none⟩ s s ((k.take s).map u8v) (by rw [hz1, List.length_map, hkl, Nat.mul_one]) (cur_cell hg hcs) X (by omega) (by omega) (by rw [hz2]; exact growslice_fits (by omega) (by omega))
      refine ⟨_, _, hr, .inr ⟨W.heap.size, grownCap W (s + X.size) s 5, _, ?_, alloc_at W.drew _, ?_, ?_, ?_⟩, ((Below.refl _ W).drew).alloc (Nat.le_refl _) _⟩
      · rw [List.length_append, hkl, hxl]
      · rw [List.length_append, hkl, hxl]
        exact grownCap_ge _ _ _ _
      · simp [Lib.strCells_length, Builtin.zeroCells, Value.cells]
        have := grownCap_ge W (s + X.size) s 5
        omega
      · rw [List.length_append, hkl, hxl, strCells_u8]
        simp only [Array.toList_append, List.append_assoc]
        rw [← List.append_assoc, ← List.map_append, List.take_left' (by rw [List.length_map, List.length_append, hkl, hxl])]
/-- The rest of a key put behind what is kept of the one ahead. -/
theorem op_key {w : World} {ad : Option Addr} {cap sh : Nat} {key : List UInt8} (X : ByteArray) {o : Oper} {act : Act} {K : Act → World → Prop} {Q : Exit → Act → World → Prop} (s x : Operand)
    (hop : o.op = .call { callee := .builtin .append, args := #[s, x], argTypes := #[22, 9] }) (hty : o.type = 22)
    (hs : act.eval s = .slice ad sh sh) (hx : act.eval x = .string X) (t : KeyAt w (.slice ad key.length cap) key) (hsh : sh ≤ key.length) (hl : sh + X.size < 1000000000)
    (hk : ∀ v' w', KeyAt w' v' (key.take sh ++ X.data.toList) → Below w.heap.size w w' → K (act.put o.dst v') w') : o.wp Try.prog act w K Q := by
  obtain ⟨v', w', hr, h2, h3⟩ := key_push t hsh X hl
  unfold Oper.wp execOp
  simp only [hop, hty, resolve, invoke, builtin, Sem.run_bind, Sem.run_pure, Result.andThen_ok, List.map_toArray, List.map_cons, List.map_nil, hs, hx, hr]
  exact hk _ _ h2 h3
end Go.Proofs.Ytgonnibakkabjaa
