/- What PutBlock's loop holds. -/
import Derived.Test.YtkomnnijnggbpaaEntries
import Derived.Test.YtkomnnijnggbpaaAppendTo
import Derived.Test.YtkomnnijnggbpaaCellsOkI
import Derived.Test.YtkomnnijnggbpaaNewest
namespace Go.Proofs.Ytkomnnijnggbpaa
open Go.RowKit Go.Shelf
set_option linter.unusedVariables false
attribute [local go_sem] Oper.semAt_some

theorem calls_round {l n : Nat} {P : Program} {f : FuncId} {args : Array Value} {w : World} {R : Ending → World → Prop} (h : Calls P f args w R) : CallsIn (Fence.wide.inRound l) n P f args w R := (callsIn_wide.2 h : CallsIn Fence.wide n P f args w R)
theorem keeps_grown {B : Nat} {W W' : World} {row : Option Nat} (hg : W.grownBy W' row) (hc : ∀ g, row = some g → ∃ cs T fz, W.heap[g]? = some (.cells cs T fz)) : KeepsFrom B W W' :=
 ⟨hg.size, fun k o _ h0 ho => (hg.block k (Array.getElem?_eq_some_iff.1 h0).1 (fun e => by
   obtain ⟨cs, T, fz, h⟩ := hc k e.symm
   rw [h0] at h
   cases h
   cases ho)).trans h0⟩
theorem brow_cells {w0 W : World} {v : Value} {xs : List UInt8} (t : BRow w0 W v xs) : ∀ g, v.ownBlock = some g → ∃ cs T fz, W.heap[g]? = some (.cells cs T fz) := by
 intro g hg
 rcases t.row.2 with ⟨h0, _⟩ | ⟨g', cap, cur, h1, _, h3, _⟩
 · rw [h0] at hg; cases hg
 · rw [h1] at hg
   cases hg
   exact ⟨_, _, _, h3⟩
theorem BRow.grownNo {w0 W W' : World} {v : Value} {xs : List UInt8} (t : BRow w0 W v xs) {row : Option Nat} (hg : W.grownBy W' row) (hne : ∀ g, v.ownBlock = some g → row ≠ some g) (hb : Below w0.heap.size w0 W') : BRow w0 W' v xs := by
 refine ⟨⟨t.row.1, ?_⟩, hb⟩
 rcases t.row.2 with h2 | ⟨g, cap, cur, h1, h2, h3, r⟩
 · exact .inl h2
 · exact .inr ⟨g, cap, cur, h1, h2, (hg.block g (Array.getElem?_eq_some_iff.1 h3).1 (fun e => hne g (by rw [h1]; rfl) e.symm)).trans h3, r⟩
structure Blk (w : World) (B p q r e : Nat) (b s : List UInt8) (vb vs : Value) (W : World) : Prop where
 boxb : W.heap[p]? = some (.cells #[vb] 22 (0, 0))
 boxs : W.heap[q]? = some (.cells #[vs] 22 (0, 0))
 every : W.heap[r]? = some (.cells #[.int .i64 e] 3 (0, 0))
 rowb : BRow w W vb b
 rows : BRow w W vs s
 newb : ∀ g, vb.ownBlock = some g → B ≤ g
 news : ∀ g, vs.ownBlock = some g → B ≤ g
 two : ∀ g, vb.ownBlock = some g → vs.ownBlock ≠ some g
 size : B ≤ W.heap.size
theorem Blk.grown {w : World} {B p q r e : Nat} {b s : List UInt8} {vb vs : Value} {W W' : World} (h : Blk w B p q r e b s vb vs W) {row : Option Nat} (hg : W.grownBy W' row) (hr : ∀ j, row = some j → B ≤ j ∧ ∃ o : Obj, W.heap[j]? = some o ∧ o.isCells = false) (hw : w.heap.size ≤ B) : Blk w B p q r e b s vb vs W' := by
 have no : ∀ (j : Nat) cs T fz, W.heap[j]? = some (.cells cs T fz) → row ≠ some j := fun j cs T fz hj e' => by
   obtain ⟨_, o, ho, hc⟩ := hr j e'
   rw [hj] at ho
   cases ho
   cases hc
 have keep : ∀ (j : Nat) cs T fz, W.heap[j]? = some (.cells cs T fz) → W'.heap[j]? = some (.cells cs T fz) := fun j cs T fz hj => (hg.block j (Array.getElem?_eq_some_iff.1 hj).1 (fun e' => no j cs T fz hj e'.symm)).trans hj
 have hb : Below w.heap.size w W' := h.rowb.below.grown hg h.rowb.below.size (fun k hk => by have := (hr k hk).1; omega)
 exact ⟨keep _ _ _ _ h.boxb, keep _ _ _ _ h.boxs, keep _ _ _ _ h.every, h.rowb.grownNo hg (fun g hg' => by obtain ⟨cs, T, fz, hc⟩ := brow_cells h.rowb g hg'; exact no g cs T fz hc) hb, h.rows.grownNo hg (fun g hg' => by obtain ⟨cs, T, fz, hc⟩ := brow_cells h.rows g hg'; exact no g cs T fz hc) hb, h.newb, h.news, h.two, Nat.le_trans h.size hg.size⟩
theorem Blk.under {w : World} {B p q r e : Nat} {b s : List UInt8} {vb vs : Value} {W W' : World} (h : Blk w B p q r e b s vb vs W) (hb : Below W.heap.size W W') : Blk w B p q r e b s vb vs W' :=
 ⟨(hb.block _ (lt_of_blk h.boxb)).trans h.boxb, (hb.block _ (lt_of_blk h.boxs)).trans h.boxs, (hb.block _ (lt_of_blk h.every)).trans h.every, h.rowb.under hb, h.rows.under hb, h.newb, h.news, h.two, Nat.le_trans h.size hb.size⟩
theorem Blk.setB {w : World} {B p q r e : Nat} {b b' s : List UInt8} {vb vs v' : Value} {W W' : World} (h : Blk w B p q r e b s vb vs W) (t : BRow w W' v' b') (hg : W.grownBy W' vb.ownBlock) (hw : Where W vb v') (hp : w.heap.size ≤ p) (hpq : p ≠ q) (hpr : p ≠ r) : Blk w B p q r e b' s v' vs (W'.setCell ⟨p, 0, none⟩ v') := by
 have k1 : W'.heap[p]? = some (.cells #[vb] 22 (0, 0)) := (hg.block _ (lt_of_blk h.boxb) (h.rowb.apart h.boxb (by decide))).trans h.boxb
 have k2 : W'.heap[q]? = some (.cells #[vs] 22 (0, 0)) := (hg.block _ (lt_of_blk h.boxs) (h.rowb.apart h.boxs (by decide))).trans h.boxs
 have k3 : W'.heap[r]? = some (.cells #[.int .i64 e] 3 (0, 0)) := (hg.block _ (lt_of_blk h.every) (h.rowb.apart h.every (by decide))).trans h.every
 have hb : Below w.heap.size w (W'.setCell ⟨p, 0, none⟩ v') := t.below.setCell hp v'
 have gset : W'.grownBy (W'.setCell ⟨p, 0, none⟩ v') (some p) := grownBy_setCell' W' p v'
 have r1 : BRow w W' vs s := h.rows.grownNo hg (fun g hg' e' => h.two g e' hg') t.below
 have nb : ∀ g, v'.ownBlock = some g → B ≤ g := fun g hg' => by
   rcases hw with h1 | ⟨g2, h1, h2⟩
   · exact h.newb g (h1 ▸ hg')
   · rw [h1] at hg'; cases hg'; have := h.size; omega
 refine ⟨?_, ?_, ?_, t.grownNo gset (fun g hg' e' => ?_) hb, r1.grownNo gset (fun g hg' e' => ?_) hb, nb, h.news, fun g hg' e' => ?_, by have := h.size; have := hg.size; simp; omega⟩
 · rw [set_block v' k1]; rfl
 · rw [Below.heap_setCell _ _ _ _ (Ne.symm hpq)]; exact k2
 · rw [Below.heap_setCell _ _ _ _ (Ne.symm hpr)]; exact k3
 · cases e'; exact t.apart k1 (by decide) hg'.symm
 · cases e'; exact r1.apart k1 (by decide) hg'.symm
 · rcases hw with h1 | ⟨g2, h1, h2⟩
   · exact h.two g (h1 ▸ hg') e'
   · rw [h1] at hg'
     cases hg'
     obtain ⟨cs, T, fz, hc⟩ := brow_cells h.rows g e'
     have := lt_of_blk hc
     omega
theorem Blk.setS {w : World} {B p q r e : Nat} {b s s' : List UInt8} {vb vs v' : Value} {W W' : World} (h : Blk w B p q r e b s vb vs W) (t : BRow w W' v' s') (hg : W.grownBy W' vs.ownBlock) (hw : Where W vs v') (hq : w.heap.size ≤ q) (hpq : p ≠ q) (hqr : q ≠ r) : Blk w B p q r e b s' vb v' (W'.setCell ⟨q, 0, none⟩ v') := by
 have h' : Blk w B q p r e s b vs vb W := ⟨h.boxs, h.boxb, h.every, h.rows, h.rowb, h.news, h.newb, fun g hg' e' => h.two g e' hg', h.size⟩
 have k := h'.setB t hg hw hq (Ne.symm hpq) hqr
 exact ⟨k.boxs, k.boxb, k.every, k.rows, k.rowb, k.news, k.newb, fun g hg' e' => k.two g e' hg', k.size⟩
theorem Blk.kept {w : World} {B p q r e : Nat} {b s : List UInt8} {vb vs v' : Value} {W W' : World} (h : Blk w B p q r e b s vb vs W) (hg : W.grownBy W' vb.ownBlock) (hpB : B ≤ W.heap.size) : KeepNot B p q W (W'.setCell ⟨p, 0, none⟩ v') := fun k hk h1 h2 => by
 rw [Below.heap_setCell _ _ _ _ h1]
 exact hg.block k (by omega) (fun e' => by have := h.newb k e'.symm; omega)
theorem Blk.kept2 {w : World} {B p q r e : Nat} {b s : List UInt8} {vb vs v' : Value} {W W' : World} (h : Blk w B p q r e b s vb vs W) (hg : W.grownBy W' vs.ownBlock) (hpB : B ≤ W.heap.size) : KeepNot B p q W (W'.setCell ⟨q, 0, none⟩ v') := fun k hk h1 h2 => by
 rw [Below.heap_setCell _ _ _ _ h2]
 exact hg.block k (by omega) (fun e' => by have := h.news k e'.symm; omega)

theorem entriesOf_at (n : Nat) (a : Option Addr) (m c : Nat) (e : Nat) (w : World) :
   CallsIn Fence.wide n Try.prog 76 #[.slice a m c, .int .i64 e] w fun e' w' => e' = .returned (.func (.func 86) #[] #[.pointer (some ⟨w.heap.size, 0, none⟩), .pointer (some ⟨w.heap.size + 1, 0, none⟩)]) ∧
     w' = (w.alloc (.cells #[.slice a m c] 24)).alloc (.cells #[.int .i64 e] 3) := by
 refine callsIn_wide.2 ?_
 go_enter Try.func76, Try.ntmps76
 go_wp2
 go_ret
 exact ⟨rfl, rfl⟩
theorem entries_stops (n B p q Bl Be : Nat) (a : Option Addr) (m c : Nat) (xs : List Cel) (e : Nat) (h1 : 1 ≤ e) (h16 : e ≤ 16) (hm : m ≤ 50) (hf : Fit xs) (hok : cellsOk xs = true) (w : World) (ht : EntAt w B p q Bl Be a m c xs e) :
   SeqStopsK Fence.wide n Try.prog 86 #[.pointer (some ⟨Bl, 0, none⟩), .pointer (some ⟨Be, 0, none⟩)] entVals (fun W W' => KeepNot B p q W W' ∧ W.heap.size ≤ W'.heap.size)
     (fun ys => EntsOf e xs m ys) (fun pre => pre.length ≤ m) m w := fun l J Jx W hW hJ _ hY h0 =>
 entries_in n l B p q Bl Be a m c xs e h1 h16 hm hf hok J Jx hY W.heap.size hJ W (ht.below hW) h0

structure Head (w : World) (a : Option Addr) (m c : Nat) (xs : List Cel) (e p : Nat) (W : World) : Prop where
 every : W.heap[w.heap.size]? = some (.cells #[.int .i64 e] 3 (0, 0))
 boxb : W.heap[p]? = some (.cells #[.slice none 0 0] 22 (0, 0))
 boxs : W.heap[p + 1]? = some (.cells #[.slice none 0 0] 22 (0, 0))
 list : W.heap[p + 2]? = some (.cells #[.slice a m c] 24 (0, 0))
 num : W.heap[p + 3]? = some (.cells #[.int .i64 e] 3 (0, 0))
 row : CelRowO W a m c xs
 old : xs ≠ [] → ∀ x, a = some x → x.block < w.heap.size
 below : Below w.heap.size w W
 size : W.heap.size = p + 4
 lt : w.heap.size < p
theorem row_old {w : World} {a : Option Addr} {m c : Nat} {xs : List Cel} (r : CelRowO w a m c xs) (hne : xs ≠ []) : ∀ x, a = some x → x.block < w.heap.size := by
 intro x hx
 cases xs with
 | nil => exact absurd rfl hne
 | cons y ys =>
   obtain ⟨g, off, e, h5⟩ := r.2.2 0 y rfl
   rw [e] at hx
   cases hx
   exact h5.lt
theorem head_new {w W : World} {a : Option Addr} {m c : Nat} {xs : List Cel} {e : Nat} (r : CelRowO w a m c xs) (hb : Below (w.alloc (.cells #[.int .i64 e] 3)).heap.size (w.alloc (.cells #[.int .i64 e] 3)) W) :
   Head w a m c xs e W.heap.size ((((W.alloc (.cells #[.slice none 0 0] 22)).alloc (.cells #[.slice none 0 0] 22)).alloc (.cells #[.slice a m c] 24)).alloc (.cells #[.int .i64 e] 3)) := by
 have hs := hb.size
 simp only [World.size_alloc] at hs
 have e0 : W.heap[w.heap.size]? = some (.cells #[.int .i64 e] 3 (0, 0)) := (hb.block _ (by simp)).trans (alloc_at w _)
 have bw : Below w.heap.size w W := (one_below w _).trans (hb.mono (by simp))
 refine ⟨?_, ?_, ?_, ?_, ?_, (r.below bw).below ((two_below0 W _ _).trans ((two_below0 _ _ _).mono (by simp; omega))), row_old r, bw.trans (((two_below0 W _ _).trans ((two_below0 _ _ _).mono (by simp; omega))).mono bw.size), by simp, by omega⟩
 · rw [alloc_old _ _ (by simp; omega), alloc_old _ _ (by simp; omega), alloc_old _ _ (by simp; omega), alloc_old _ _ (by omega)]
   exact e0
 · rw [alloc_old _ _ (by simp; omega), alloc_old _ _ (by simp; omega), alloc_old _ _ (by simp)]
   exact alloc_at W _
 · rw [alloc_old _ _ (by simp), alloc_old _ _ (by simp)]
   have := alloc_at (W.alloc (.cells #[.slice none 0 0] 22)) (.cells #[.slice none 0 0] 22)
   simpa using this
 · rw [alloc_old _ _ (by simp)]
   have := alloc_at ((W.alloc (.cells #[.slice none 0 0] 22)).alloc (.cells #[.slice none 0 0] 22)) (.cells #[.slice a m c] 24)
   simpa using this
 · have := alloc_at (((W.alloc (.cells #[.slice none 0 0] 22)).alloc (.cells #[.slice none 0 0] 22)).alloc (.cells #[.slice a m c] 24)) (.cells #[.int .i64 e] 3)
   simpa using this
theorem Head.ent {w W : World} {a : Option Addr} {m c : Nat} {xs : List Cel} {e p : Nat} (h : Head w a m c xs e p W) : EntAt W (p + 4) p (p + 1) (p + 2) (p + 3) a m c xs e :=
 ⟨(blk1 h.list).1, (blk1 h.num).1, h.row, ⟨by omega, by omega, by omega⟩, ⟨by omega, by omega, by omega⟩, fun hne x hx => by have := h.old hne x hx; have := h.lt; exact ⟨by omega, by omega, by omega⟩, by rw [h.size]; exact Nat.le_refl _⟩
theorem Head.blk {w W : World} {a : Option Addr} {m c : Nat} {xs : List Cel} {e p : Nat} (h : Head w a m c xs e p W) : Blk w (p + 4) p (p + 1) w.heap.size e [] [] (.slice none 0 0) (.slice none 0 0) W :=
 ⟨h.boxb, h.boxs, h.every, ⟨World.ownsRow_nil _ _ _ _, h.below⟩, ⟨World.ownsRow_nil _ _ _ _, h.below⟩, (fun g hg => by cases hg), (fun g hg => by cases hg), (fun g hg => by cases hg), by rw [h.size]; exact Nat.le_refl _⟩
theorem conv_row {w0 W : World} {v : Value} {xs : List UInt8} (t : BRow w0 W v xs) : (convert 22 9 v).run Try.prog W = .ok (.string ⟨xs.toArray⟩) W := by
 rcases t.row.2 with ⟨h0, h1⟩ | ⟨g, cap, cur, h1, _⟩
 · subst h0
   have hx : xs = [] := List.eq_nil_of_length_eq_zero h1
   subst hx
   exact run_convert_bytes_nil (P := Try.prog) W 22 5 Try.underlying22 Try.underlying5 0 0 9 Try.underlying9
 · subst h1
   exact BRow.str t rfl
theorem push_run {w0 w : World} {v : Value} {xs : List UInt8} (S : ByteArray) (t : BRow w0 w v xs) (hl : xs.length + S.size < 1000000000) :
   ∃ v' w', (Builtin.append_ #[22, 9] 22 #[v, .string S]).run Try.prog w = .ok v' w' ∧ BRow w0 w' v' (xs ++ S.data.toList) ∧ w.grownBy w' v.ownBlock ∧ Where w v v' := by
 obtain ⟨ti, hti, hz0, hz1, hz2⟩ := info_parts infoB
 obtain ⟨v', w', hr, h2, h3, h4⟩ := Lib.run_append_own_string (P := Try.prog) w w0.heap.size 22 9 22 5 ti Try.underlying22 Try.underlying9 hti hz0 hz1 hz2 v xs.length (xs.map u8v) t.row S (by unfold maxLen; omega) (by omega) t.below.size
 rw [strCells_u8] at h2
 exact ⟨v', w', hr, t.more S.data.toList (by simpa using h2) h3, h3, where_str t.row hl hr⟩
theorem opIn_pushA {F : Fence} {nF : Nat} {w0 w : World} {v : Value} {xs : List UInt8} (S : ByteArray) {o : Oper} {act : Act} {K : Act → World → Prop} {Q : Exit → Act → World → Prop} (s x : Operand)
   (hop : o.op = .call { callee := .builtin .append, args := #[s, x], argTypes := #[22, 9] }) (hty : o.type = 22)
   (hs : act.eval s = v) (hx : act.eval x = .string S) (t : BRow w0 w v xs) (hl : xs.length + S.size < 1000000000)
   (hk : ∀ v' w', BRow w0 w' v' (xs ++ S.data.toList) → w.grownBy w' v.ownBlock → Where w v v' → K (act.put o.dst v') w') : o.wpIn F nF Try.prog act w K Q := by
 obtain ⟨v', w', hr, h2, h3, h4⟩ := push_run S t hl
 unfold Oper.wpIn
 refine ⟨by simp [Oper.about, hop, resolve, Target.leads, Sem.run_pure], ?_⟩
 rw [Oper.semAt_plain F _ _ (by rw [hop]; intro c hc'; cases hc')]
 simp [execOp, hop, hty, resolve, invoke, builtin, hs, hx, hr, Result.andThen]
 exact hk _ _ h2 h3 h4
theorem brow_slice {w0 W : World} {v : Value} {xs : List UInt8} (t : BRow w0 W v xs) : ∃ ad cap, v = .slice ad xs.length cap := by
 rcases t.row.2 with ⟨h0, h1⟩ | ⟨g, cap, cur, h1, _⟩
 · exact ⟨none, 0, by rw [h0, h1]⟩
 · exact ⟨_, _, h1⟩
end Go.Proofs.Ytkomnnijnggbpaa
