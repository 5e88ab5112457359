/- What PutBlock's loop holds. -/
import Derived.Test.YtkomnnijnggbpaaGreatDoorEntries
import Derived.Test.YtkomnnijnggbpaaGreatDoorZ1
import Derived.Test.YtkomnnijnggbpaaGreatDoorCellsOkI
import Derived.Test.YtkomnnijnggbpaaGreatDoorZ4
import Derived.Test.YtkomnnijnggbpaaGreatDoorPutBlockS
import Derived.Test.YtkomnnijnggbpaaGreatDoorPutTabS
import Derived.RangeFuncNested
import Derived.RangeFuncBound
import Derived.RangeFuncCalls
import Derived.RangeFuncLeaves
import Derived.RangeFuncBox
import Derived.Shelf.Abstract
import Derived.Shelf.RegionOpen
import Derived.WalkKit
import Derived.OwnWalkIn
import Derived.TacticsInMore
import Derived.LoopNIn
import Derived.LoopIn
import Derived.BigRegionIn
import Derived.Laws.MakeOwn
import Derived.Test.YtkomnnijnggbpaaGreatDoorZ2
import Derived.Test.YtkomnnijnggbpaaGreatDoorFilI
import Derived.Test.YtkomnnijnggbpaaGreatDoorZ0
namespace Go.Proofs.YtkomnnijnggbpaaGreatDoor
open Go.RowKit Go.Shelf
set_option linter.unusedVariables false
attribute [local go_sem] Oper.semAt_some

theorem calls_round {l n : Nat} {P : Program} {f : FuncId} {args : Array Value} {w : World} {R : Ending → World → Prop} (h : Calls P f args w R) : CallsIn (Fence.wide.inRound l) n P f args w R := (callsIn_wide.2 h : CallsIn Fence.wide n P f args w R)
theorem keeps_grown {B : Nat} {W W' : World} {row : Option Nat} (hg : W.grownBy W' row) (hc : ∀ g, row = some g → ∃ cs T fz, W.heap[g]? = some (.cells cs T fz)) : KeepsFrom B W W' :=
 ⟨hg.size, fun k o _ h0 ho => (hg.block k (Array.getElem?_eq_some_iff.1 h0).1 (fun e => by
   obtain ⟨cs, T, fz, h⟩ := hc k e.symm
   rw [h0] at h
   cases h
   cases ho)).trans h0⟩
theorem brow_cells {w0 W : World} {v : Value} {xs : List UInt8} (t : BRow w0 W v xs) : ∀ g, v.ownBlock = some g → ∃ cs T fz, W.heap[g]? = some (.cells cs T fz) := by
 intro g hg
 rcases t.row.2 with ⟨h0, _⟩ | ⟨g', cap, cur, h1, _, h3, _⟩
 · rw [h0] at hg; cases hg
 · rw [h1] at hg
   cases hg
   exact ⟨_, _, _, h3⟩
theorem BRow.grownNo {w0 W W' : World} {v : Value} {xs : List UInt8} (t : BRow w0 W v xs) {row : Option Nat} (hg : W.grownBy W' row) (hne : ∀ g, v.ownBlock = some g → row ≠ some g) (hb : Below w0.heap.size w0 W') : BRow w0 W' v xs := by
 refine ⟨⟨t.row.1, ?_⟩, hb⟩
 rcases t.row.2 with h2 | ⟨g, cap, cur, h1, h2, h3, r⟩
 · exact .inl h2
 · exact .inr ⟨g, cap, cur, h1, h2, (hg.block g (Array.getElem?_eq_some_iff.1 h3).1 (fun e => hne g (by rw [h1]; rfl) e.symm)).trans h3, r⟩
structure Blk (w : World) (B p q r e : Nat) (b s : List UInt8) (vb vs : Value) (W : World) : Prop where
 boxb : W.heap[p]? = some (.cells #[vb] 22 (0, 0))
 boxs : W.heap[q]? = some (.cells #[vs] 22 (0, 0))
 every : W.heap[r]? = some (.cells #[.int .i64 e] 3 (0, 0))
 rowb : BRow w W vb b
 rows : BRow w W vs s
 newb : ∀ g, vb.ownBlock = some g → B ≤ g
 news : ∀ g, vs.ownBlock = some g → B ≤ g
 two : ∀ g, vb.ownBlock = some g → vs.ownBlock ≠ some g
 size : B ≤ W.heap.size
theorem Blk.grown {w : World} {B p q r e : Nat} {b s : List UInt8} {vb vs : Value} {W W' : World} (h : Blk w B p q r e b s vb vs W) {row : Option Nat} (hg : W.grownBy W' row) (hr : ∀ j, row = some j → B ≤ j ∧ ∃ o : Obj, W.heap[j]? = some o ∧ o.isCells = false) (hw : w.heap.size ≤ B) : Blk w B p q r e b s vb vs W' := by
 have no : ∀ (j : Nat) cs T fz, W.heap[j]? = some (.cells cs T fz) → row ≠ some j := fun j cs T fz hj e' => by
   obtain ⟨_, o, ho, hc⟩ := hr j e'
   rw [hj] at ho
   cases ho
   cases hc
 have keep : ∀ (j : Nat) cs T fz, W.heap[j]? = some (.cells cs T fz) → W'.heap[j]? = some (.cells cs T fz) := fun j cs T fz hj => (hg.block j (Array.getElem?_eq_some_iff.1 hj).1 (fun e' => no j cs T fz hj e'.symm)).trans hj
 have hb : Below w.heap.size w W' := h.rowb.below.grown hg h.rowb.below.size (fun k hk => by have := (hr k hk).1; omega)
 exact ⟨keep _ _ _ _ h.boxb, keep _ _ _ _ h.boxs, keep _ _ _ _ h.every, h.rowb.grownNo hg (fun g hg' => by obtain ⟨cs, T, fz, hc⟩ := brow_cells h.rowb g hg'; exact no g cs T fz hc) hb, h.rows.grownNo hg (fun g hg' => by obtain ⟨cs, T, fz, hc⟩ := brow_cells h.rows g hg'; exact no g cs T fz hc) hb, h.newb, h.news, h.two, Nat.le_trans h.size hg.size⟩
theorem Blk.under {w : World} {B p q r e : Nat} {b s : List UInt8} {vb vs : Value} {W W' : World} (h : Blk w B p q r e b s vb vs W) (hb : Below W.heap.size W W') : Blk w B p q r e b s vb vs W' :=
 ⟨(hb.block _ (lt_of_blk h.boxb)).trans h.boxb, (hb.block _ (lt_of_blk h.boxs)).trans h.boxs, (hb.block _ (lt_of_blk h.every)).trans h.every, h.rowb.under hb, h.rows.under hb, h.newb, h.news, h.two, Nat.le_trans h.size hb.size⟩
theorem Blk.setB {w : World} {B p q r e : Nat} {b b' s : List UInt8} {vb vs v' : Value} {W W' : World} (h : Blk w B p q r e b s vb vs W) (t : BRow w W' v' b') (hg : W.grownBy W' vb.ownBlock) (hw : Where W vb v') (hp : w.heap.size ≤ p) (hpq : p ≠ q) (hpr : p ≠ r) : Blk w B p q r e b' s v' vs (W'.setCell ⟨p, 0, none⟩ v') := by
 have k1 : W'.heap[p]? = some (.cells #[vb] 22 (0, 0)) := (hg.block _ (lt_of_blk h.boxb) (h.rowb.apart h.boxb (by decide))).trans h.boxb
 have k2 : W'.heap[q]? = some (.cells #[vs] 22 (0, 0)) := (hg.block _ (lt_of_blk h.boxs) (h.rowb.apart h.boxs (by decide))).trans h.boxs
 have k3 : W'.heap[r]? = some (.cells #[.int .i64 e] 3 (0, 0)) := (hg.block _ (lt_of_blk h.every) (h.rowb.apart h.every (by decide))).trans h.every
 have hb : Below w.heap.size w (W'.setCell ⟨p, 0, none⟩ v') := t.below.setCell hp v'
 have gset : W'.grownBy (W'.setCell ⟨p, 0, none⟩ v') (some p) := grownBy_setCell' W' p v'
 have r1 : BRow w W' vs s := h.rows.grownNo hg (fun g hg' e' => h.two g e' hg') t.below
 have nb : ∀ g, v'.ownBlock = some g → B ≤ g := fun g hg' => by
   rcases hw with h1 | ⟨g2, h1, h2⟩
   · exact h.newb g (h1 ▸ hg')
   · rw [h1] at hg'; cases hg'; have := h.size; omega
 refine ⟨?_, ?_, ?_, t.grownNo gset (fun g hg' e' => ?_) hb, r1.grownNo gset (fun g hg' e' => ?_) hb, nb, h.news, fun g hg' e' => ?_, by have := h.size; have := hg.size; simp; omega⟩
 · rw [set_block v' k1]; rfl
 · rw [Below.heap_setCell _ _ _ _ (Ne.symm hpq)]; exact k2
 · rw [Below.heap_setCell _ _ _ _ (Ne.symm hpr)]; exact k3
 · cases e'; exact t.apart k1 (by decide) hg'.symm
 · cases e'; exact r1.apart k1 (by decide) hg'.symm
 · rcases hw with h1 | ⟨g2, h1, h2⟩
   · exact h.two g (h1 ▸ hg') e'
   · rw [h1] at hg'
     cases hg'
     obtain ⟨cs, T, fz, hc⟩ := brow_cells h.rows g e'
     have := lt_of_blk hc
     omega
theorem Blk.setS {w : World} {B p q r e : Nat} {b s s' : List UInt8} {vb vs v' : Value} {W W' : World} (h : Blk w B p q r e b s vb vs W) (t : BRow w W' v' s') (hg : W.grownBy W' vs.ownBlock) (hw : Where W vs v') (hq : w.heap.size ≤ q) (hpq : p ≠ q) (hqr : q ≠ r) : Blk w B p q r e b s' vb v' (W'.setCell ⟨q, 0, none⟩ v') := by
 have h' : Blk w B q p r e s b vs vb W := ⟨h.boxs, h.boxb, h.every, h.rows, h.rowb, h.news, h.newb, fun g hg' e' => h.two g e' hg', h.size⟩
 have k := h'.setB t hg hw hq (Ne.symm hpq) hqr
 exact ⟨k.boxs, k.boxb, k.every, k.rows, k.rowb, k.news, k.newb, fun g hg' e' => k.two g e' hg', k.size⟩
theorem Blk.kept {w : World} {B p q r e : Nat} {b s : List UInt8} {vb vs v' : Value} {W W' : World} (h : Blk w B p q r e b s vb vs W) (hg : W.grownBy W' vb.ownBlock) (hpB : B ≤ W.heap.size) : KeepNot B p q W (W'.setCell ⟨p, 0, none⟩ v') := fun k hk h1 h2 => by
 rw [Below.heap_setCell _ _ _ _ h1]
 exact hg.block k (by omega) (fun e' => by have := h.newb k e'.symm; omega)
theorem Blk.kept2 {w : World} {B p q r e : Nat} {b s : List UInt8} {vb vs v' : Value} {W W' : World} (h : Blk w B p q r e b s vb vs W) (hg : W.grownBy W' vs.ownBlock) (hpB : B ≤ W.heap.size) : KeepNot B p q W (W'.setCell ⟨q, 0, none⟩ v') := fun k hk h1 h2 => by
 rw [Below.heap_setCell _ _ _ _ h2]
 exact hg.block k (by omega) (fun e' => by have := h.news k e'.symm; omega)

theorem entriesOf_at (n : Nat) (a : Option Addr) (m c : Nat) (e : Nat) (w : World) :
   CallsIn Fence.wide n Tryz.prog 125 #[.slice a m c, .int .i64 e] w fun e' w' => e' = .returned (.func (.func 145) #[] #[.pointer (some ⟨w.heap.size, 0, none⟩), .pointer (some ⟨w.heap.size + 1, 0, none⟩)]) ∧
     w' = (w.alloc (.cells #[.slice a m c] 24)).alloc (.cells #[.int .i64 e] 3) := by
 refine callsIn_wide.2 ?_
 go_enter Tryz.func125, Tryz.ntmps125
 go_wp2
 go_ret
 exact ⟨rfl, rfl⟩
theorem entries_stops (n B p q Bl Be : Nat) (a : Option Addr) (m c : Nat) (xs : List Cel) (e : Nat) (h1 : 1 ≤ e) (h16 : e ≤ 16) (hm : m ≤ 50) (hf : Fit xs) (hok : cellsOk xs = true) (w : World) (ht : EntAt w B p q Bl Be a m c xs e) :
   SeqStopsK Fence.wide n Tryz.prog 145 #[.pointer (some ⟨Bl, 0, none⟩), .pointer (some ⟨Be, 0, none⟩)] entVals (fun W W' => KeepNot B p q W W' ∧ W.heap.size ≤ W'.heap.size)
     (fun ys => EntsOf e xs m ys) (fun pre => pre.length ≤ m) m w := fun l J Jx W hW hJ _ hY h0 =>
 entries_in n l B p q Bl Be a m c xs e h1 h16 hm hf hok J Jx hY W.heap.size hJ W (ht.below hW) h0

structure Head (w : World) (a : Option Addr) (m c : Nat) (xs : List Cel) (e p : Nat) (W : World) : Prop where
 every : W.heap[w.heap.size]? = some (.cells #[.int .i64 e] 3 (0, 0))
 boxb : W.heap[p]? = some (.cells #[.slice none 0 0] 22 (0, 0))
 boxs : W.heap[p + 1]? = some (.cells #[.slice none 0 0] 22 (0, 0))
 list : W.heap[p + 2]? = some (.cells #[.slice a m c] 24 (0, 0))
 num : W.heap[p + 3]? = some (.cells #[.int .i64 e] 3 (0, 0))
 row : CelRowO W a m c xs
 old : xs ≠ [] → ∀ x, a = some x → x.block < w.heap.size
 below : Below w.heap.size w W
 size : W.heap.size = p + 4
 lt : w.heap.size < p
theorem row_old {w : World} {a : Option Addr} {m c : Nat} {xs : List Cel} (r : CelRowO w a m c xs) (hne : xs ≠ []) : ∀ x, a = some x → x.block < w.heap.size := by
 intro x hx
 cases xs with
 | nil => exact absurd rfl hne
 | cons y ys =>
   obtain ⟨g, off, e, h5⟩ := r.2.2 0 y rfl
   rw [e] at hx
   cases hx
   exact h5.lt
theorem head_new {w W : World} {a : Option Addr} {m c : Nat} {xs : List Cel} {e : Nat} (r : CelRowO w a m c xs) (hb : Below (w.alloc (.cells #[.int .i64 e] 3)).heap.size (w.alloc (.cells #[.int .i64 e] 3)) W) :
   Head w a m c xs e W.heap.size ((((W.alloc (.cells #[.slice none 0 0] 22)).alloc (.cells #[.slice none 0 0] 22)).alloc (.cells #[.slice a m c] 24)).alloc (.cells #[.int .i64 e] 3)) := by
 have hs := hb.size
 simp only [World.size_alloc] at hs
 have e0 : W.heap[w.heap.size]? = some (.cells #[.int .i64 e] 3 (0, 0)) := (hb.block _ (by simp)).trans (alloc_at w _)
 have bw : Below w.heap.size w W := (one_below w _).trans (hb.mono (by simp))
 refine ⟨?_, ?_, ?_, ?_, ?_, (r.below bw).below ((two_below0 W _ _).trans ((two_below0 _ _ _).mono (by simp; omega))), row_old r, bw.trans (((two_below0 W _ _).trans ((two_below0 _ _ _).mono (by simp; omega))).mono bw.size), by simp, by omega⟩
 · rw [alloc_old _ _ (by simp; omega), alloc_old _ _ (by simp; omega), alloc_old _ _ (by simp; omega), alloc_old _ _ (by omega)]
   exact e0
 · rw [alloc_old _ _ (by simp; omega), alloc_old _ _ (by simp; omega), alloc_old _ _ (by simp)]
   exact alloc_at W _
 · rw [alloc_old _ _ (by simp), alloc_old _ _ (by simp)]
   have := alloc_at (W.alloc (.cells #[.slice none 0 0] 22)) (.cells #[.slice none 0 0] 22)
   simpa using this
 · rw [alloc_old _ _ (by simp)]
   have := alloc_at ((W.alloc (.cells #[.slice none 0 0] 22)).alloc (.cells #[.slice none 0 0] 22)) (.cells #[.slice a m c] 24)
   simpa using this
 · have := alloc_at (((W.alloc (.cells #[.slice none 0 0] 22)).alloc (.cells #[.slice none 0 0] 22)).alloc (.cells #[.slice a m c] 24)) (.cells #[.int .i64 e] 3)
   simpa using this
theorem Head.ent {w W : World} {a : Option Addr} {m c : Nat} {xs : List Cel} {e p : Nat} (h : Head w a m c xs e p W) : EntAt W (p + 4) p (p + 1) (p + 2) (p + 3) a m c xs e :=
 ⟨(blk1 h.list).1, (blk1 h.num).1, h.row, ⟨by omega, by omega, by omega⟩, ⟨by omega, by omega, by omega⟩, fun hne x hx => by have := h.old hne x hx; have := h.lt; exact ⟨by omega, by omega, by omega⟩, by rw [h.size]; exact Nat.le_refl _⟩
theorem Head.blk {w W : World} {a : Option Addr} {m c : Nat} {xs : List Cel} {e p : Nat} (h : Head w a m c xs e p W) : Blk w (p + 4) p (p + 1) w.heap.size e [] [] (.slice none 0 0) (.slice none 0 0) W :=
 ⟨h.boxb, h.boxs, h.every, ⟨World.ownsRow_nil _ _ _ _, h.below⟩, ⟨World.ownsRow_nil _ _ _ _, h.below⟩, (fun g hg => by cases hg), (fun g hg => by cases hg), (fun g hg => by cases hg), by rw [h.size]; exact Nat.le_refl _⟩
theorem conv_row {w0 W : World} {v : Value} {xs : List UInt8} (t : BRow w0 W v xs) : (convert 22 9 v).run Tryz.prog W = .ok (.string ⟨xs.toArray⟩) W := by
 rcases t.row.2 with ⟨h0, h1⟩ | ⟨g, cap, cur, h1, _⟩
 · subst h0
   have hx : xs = [] := List.eq_nil_of_length_eq_zero h1
   subst hx
   exact run_convert_bytes_nil (P := Tryz.prog) W 22 5 Tryz.underlying22 Tryz.underlying5 0 0 9 Tryz.underlying9
 · subst h1
   exact BRow.str t rfl
theorem push_run {w0 w : World} {v : Value} {xs : List UInt8} (S : ByteArray) (t : BRow w0 w v xs) (hl : xs.length + S.size < 1000000000) :
   ∃ v' w', (Builtin.append_ #[22, 9] 22 #[v, .string S]).run Tryz.prog w = .ok v' w' ∧ BRow w0 w' v' (xs ++ S.data.toList) ∧ w.grownBy w' v.ownBlock ∧ Where w v v' := by
 obtain ⟨ti, hti, hz0, hz1, hz2⟩ := info_parts infoB
 obtain ⟨v', w', hr, h2, h3, h4⟩ := Lib.run_append_own_string (P := Tryz.prog) w w0.heap.size 22 9 22 5 ti Tryz.underlying22 Tryz.underlying9 hti hz0 hz1 hz2 v xs.length (xs.map u8v) t.row S (by unfold maxLen; omega) (by omega) t.below.size
 rw [strCells_u8] at h2
 exact ⟨v', w', hr, t.more S.data.toList (by simpa using h2) h3, h3, where_str t.row hl hr⟩
theorem opIn_pushA {F : Fence} {nF : Nat} {w0 w : World} {v : Value} {xs : List UInt8} (S : ByteArray) {o : Oper} {act : Act} {K : Act → World → Prop} {Q : Exit → Act → World → Prop} (s x : Operand)
   (hop : o.op = .call { callee := .builtin .append, args := #[s, x], argTypes := #[22, 9] }) (hty : o.type = 22)
   (hs : act.eval s = v) (hx : act.eval x = .string S) (t : BRow w0 w v xs) (hl : xs.length + S.size < 1000000000)
   (hk : ∀ v' w', BRow w0 w' v' (xs ++ S.data.toList) → w.grownBy w' v.ownBlock → Where w v v' → K (act.put o.dst v') w') : o.wpIn F nF Tryz.prog act w K Q := by
 obtain ⟨v', w', hr, h2, h3, h4⟩ := push_run S t hl
 unfold Oper.wpIn
 refine ⟨by simp [Oper.about, hop, resolve, Target.leads, Sem.run_pure], ?_⟩
 rw [Oper.semAt_plain F _ _ (by rw [hop]; intro c hc'; cases hc')]
 simp [execOp, hop, hty, resolve, invoke, builtin, hs, hx, hr, Result.andThen]
 exact hk _ _ h2 h3 h4
theorem brow_slice {w0 W : World} {v : Value} {xs : List UInt8} (t : BRow w0 W v xs) : ∃ ad cap, v = .slice ad xs.length cap := by
 rcases t.row.2 with ⟨h0, h1⟩ | ⟨g, cap, cur, h1, _⟩
 · exact ⟨none, 0, by rw [h0, h1]⟩
 · exact ⟨_, _, h1⟩
attribute [local go_sem] Oper.semAt_some

theorem textIs_of {w w' : World} {A : ByteArray} {l : List UInt8} {e : Ending} (h : A.data.toList = l) (he : e = .returned (.string A)) (hb : Below w.heap.size w w') : TextIs w l e w' := ⟨by rw [he, as_text h], hb⟩
def noPanic (Q : Exit → Act → World → Prop) : Exit → Act → World → Prop
 | .panic _, _, _ => False
 | e, a, w => Q e a w
theorem noPanic_normal {Q : Exit → Act → World → Prop} {a : Act} {w : World} : noPanic Q .normal a w = Q .normal a w := rfl
theorem wp_noPanic {P : Program} {c : Code} {Q : Exit → Act → World → Prop} {a : Act} {w : World} (h : c.wp P (noPanic Q) a w) : c.wp P Q a w :=
 Code.wp_mono (fun e a w h => by cases e <;> first | exact h | exact h.elim) h

set_option maxRecDepth 100000 in
set_option maxHeartbeats 4000000 in
theorem implPutBlock_in (a : Option Addr) (m c : Nat) (xs : List Cel) (e : Nat) (h1 : 1 ≤ e) (h16 : e ≤ 16) (hm : m ≤ 50) (hf : Fit xs) (hok : cellsOk xs = true) (w : World) (h : CelRowO w a m c xs) :
   CallsIn Fence.wide 5 Tryz.prog 91 #[.slice a m c, .int .i64 e] w (TextIs w (block xs e)) := by
 have HR := Lib.hid h
 have HF := Lib.hid hf
 have HB := Lib.hid hok
 have B0 := Lib.hid (one_below w (.cells #[.int .i64 e] 3))
 clear h hf hok
 refine callsIn_of_wp_marks Tryz.func91 rfl trivial ?_ rfl
 simp only [Tryz.ntmps91, List.size_toArray, List.length_cons, List.length_nil, Nat.reduceAdd, Nat.reduceSub, Array.replicate_succ, Array.replicate_zero, List.push_toArray, List.append_toArray, List.nil_append, List.cons_append]
 have g1 : ¬ (e : Int) < 1 := by omega
 have g2 : ¬ (16 : Int) < (e : Int) := by omega
 have g3 : ¬ (50 : Int) < (m : Int) := by omega
 gi_wp2_with fail
 refine wpIn_scope ?_
 gi_wp2_with fail
 refine ⟨trivial, ?_⟩
 refine (callsIn_wide.2 (implCellsOkO a m c xs (by omega) HF.out _ (HR.out.below B0.out))).mono ?_
 rw [HB.out]
 rintro e' w1 ⟨rfl, hb1⟩
 have HD := Lib.hid (head_new HR.out hb1)
 have C1 := Lib.hid ((blk1 (show w1.heap[w.heap.size]? = some (.cells #[.int .i64 e] 3 (0, 0)) from (hb1.block _ (by simp)).trans (alloc_at w _))).1)
 clear hb1 g1 g2 g3
 have c1 := C1.out
 have c2 : ((w1.alloc (.cells #[.slice none 0 0] 22)).alloc (.cells #[.slice none 0 0] 22)).cell? ⟨w.heap.size, 0, none⟩ = some (.int .i64 e) := (two_below0 w1 _ _).cell (p := ⟨w.heap.size, 0, none⟩) (cell_lt c1) |>.trans c1
 gi_wp2_with fail
 refine wpIn_label ?_
 gi_wp2_with fail
 refine ⟨trivial, ?_⟩
 refine (entriesOf_at _ a m c e _).mono ?_
 rintro e' w' ⟨rfl, rfl⟩
 obtain ⟨p, hp⟩ : ∃ p, w1.heap.size = p := ⟨_, rfl⟩
 obtain ⟨w5, hw5⟩ : ∃ W, (((w1.alloc (.cells #[.slice none 0 0] 22)).alloc (.cells #[.slice none 0 0] 22)).alloc (.cells #[.slice a m c] 24)).alloc (.cells #[.int .i64 e] 3) = W := ⟨_, rfl⟩
 simp only [World.size_alloc]
 rw [hw5, hp] at HD
 rw [hw5, hp]
 clear hw5 hp c1 c2 C1
 gi_wp2_with fail
 refine wpIn_rangeFunc_ownH (α := Ent) rfl (by decide) (gf := 145) (lb := #[.pointer (some ⟨p + 1 + 1, 0, none⟩), .pointer (some ⟨p + 1 + 1 + 1, 0, none⟩)]) rfl trivial (enters_of Tryz.func145 (by kernel_rfl) rfl)
   (entries_stops 4 (p + 4) p (p + 1) (p + 2) (p + 3) a m c xs e h1 h16 hm HF.out HB.out w5 HD.out.ent) (fun h k => ⟨h.1.trans k.1, Nat.le_trans h.2 k.2⟩) (fun W l o o' hl _ _ _ => ⟨keepNot_put W l o o' (by rw [HD.out.size] at hl; exact hl), by simp⟩) (Below.refl _ _) (fun _ => rfl)
   (fun pre W => ∃ vb vs, Blk w (p + 4) p (p + 1) w.heap.size e (blkB pre) (stFrom e 0 pre) vb vs W) (fun _ _ _ => False) (fun s X Y row hs hg hr => by
     obtain ⟨vb, vs, hb⟩ := hs
     exact ⟨vb, vs, hb.grown hg (fun j e' => by have := hr j e'; rwa [HD.out.size] at this) (by have := HD.out.lt; omega)⟩) (fun _ _ _ _ _ h => h.elim) ⟨_, _, HD.out.blk⟩
   (fun y a' W => ∃ A, a' = { tmps := #[.slice a m c, .int .i64 e, undef, .pointer (some ⟨w.heap.size, 0, none⟩), .string ⟨#[]⟩, .pointer (some ⟨p, 0, none⟩), .pointer (some ⟨p + 1, 0, none⟩), .int .i64 y.place, .pointer (some ⟨A, 0, none⟩), undef, .int .i64 e,
     .bool (decide ((e : Int) < 1)), .bool (decide ((e : Int) < 1)), .int .i64 e, .bool (decide (16 < (e : Int))), .bool (decide ((e : Int) < 1) || decide (16 < (e : Int))), .bool (decide ((e : Int) < 1) || decide (16 < (e : Int))), .slice a m c, .int .i64 m, .bool (decide (50 < (m : Int))),
     .bool (decide ((e : Int) < 1) || decide (16 < (e : Int)) || decide (50 < (m : Int))), .bool (decide ((e : Int) < 1) || decide (16 < (e : Int)) || decide (50 < (m : Int))), .slice a m c, .bool true, .bool false, .bool (decide ((e : Int) < 1) || decide (16 < (e : Int)) || decide (50 < (m : Int))), .slice a m c, .int .i64 e,
     .func (.func 145) #[] #[.pointer (some ⟨p + 1 + 1, 0, none⟩), .pointer (some ⟨p + 1 + 1 + 1, 0, none⟩)], .int .i64 y.place, .agg #[.int .i64 y.share, .string y.rest, .bool y.gone, .string y.value], undef, undef, undef, undef, undef, undef, undef, undef, undef, undef, undef, undef, undef,
     undef, undef, undef, undef, undef, undef, undef, undef, undef, undef], defers := [] } ∧ W.heap[A]? = some (.cells #[.int .i64 y.share, .string y.rest, .bool y.gone, .string y.value] 153 (0, 0)))
   (fun y a' s W W' row hs hg hr => ?ax) ?assign ?body ?done ?stop
 case ax =>
   obtain ⟨A, h1, h2⟩ := hs
   refine ⟨A, h1, (hg.block A (Array.getElem?_eq_some_iff.1 h2).1 (fun e => ?_)).trans h2⟩
   obtain ⟨_, o, ho, hc⟩ := hr A e.symm
   rw [h2] at ho
   cases ho
   cases hc
 case assign =>
   rintro l pre y W K ⟨vb, vs, bk⟩ hK
   unfold entVals
   gi_wp2
   refine hK _ _ ?_ ?_ ?_ ⟨W.heap.size, rfl, alloc_at W _⟩
   · exact (KeepsOthers.alloc W _).from _
   · exact ⟨fun k hk _ _ => alloc_old _ _ (by have := bk.size; omega), by simp⟩
   · exact ⟨vb, vs, bk.under (one_below W _)⟩
 case stop =>
   rintro D c' pre W hD hp h hK
   exact h.elim
 case body =>
   rintro l pre y a' W hl hr ⟨vb, vs, bk⟩ ⟨A, rfl, hA⟩ hlt
   obtain ⟨ad, cap, rfl⟩ := brow_slice bk.rowb
   have BK := Lib.hid bk
   have HA := Lib.hid hA
   obtain ⟨f0, f1, f2, f3⟩ := blk4 hA
   obtain ⟨b0, b1⟩ := blk1 bk.boxb
   obtain ⟨k1, k2, k3, k4⟩ := y.ok
   have hbl := blkB_len pre
   clear bk hA hr
   gi_wp2_with fail
   refine ⟨trivial, ?_⟩
   refine (calls_round (appendTo_at y.share y.rest y.value y.gone k2 k3 k4 _ (blkB pre) (by omega) w W BK.out.rowb)).mono ?_
   rintro e' w2 ⟨v2, rfl, t2, g2, h2⟩
   obtain ⟨ad2, cap2, hv2⟩ := brow_slice t2
   have he2 : blkB pre ++ entB y.share y.rest.data.toList (zOf y.gone y.value) y.value.data.toList = blkB pre ++ entBytes y := rfl
   rw [he2] at t2 hv2
   obtain ⟨nn, hnn⟩ : ∃ nn, (blkB pre ++ entBytes y).length = nn := ⟨_, rfl⟩
   rw [hnn] at hv2
   clear hnn
   subst hv2
   have kb : w2.heap[p]? = some (.cells #[.slice ad (blkB pre).length cap] 22 (0, 0)) := (g2.block _ (lt_of_blk BK.out.boxb) (BK.out.rowb.apart BK.out.boxb (by decide))).trans BK.out.boxb
   obtain ⟨s0, s1⟩ := blk1 kb
   have BK2 := Lib.hid (BK.out.setB t2 g2 h2 (by have := HD.out.lt; omega) (by omega) (by have := HD.out.lt; omega))
   have KF2 := Lib.hid ((keeps_grown (B := w5.heap.size) g2 (brow_cells BK.out.rowb)).trans ((KeepsOthers.setCell w2 ⟨p, 0, none⟩ (.slice ad2 nn cap2)).from _))
   have KN2 := Lib.hid (And.intro (BK.out.kept (v' := .slice ad2 nn cap2) g2 BK.out.size) (show W.heap.size ≤ (w2.setCell ⟨p, 0, none⟩ (.slice ad2 nn cap2)).heap.size by simpa using g2.size))
   have ce := (blk1 (show w2.heap[w.heap.size]? = some (.cells #[.int .i64 e] 3 (0, 0)) from (g2.block _ (lt_of_blk BK.out.every) (BK.out.rowb.apart BK.out.every (by decide))).trans BK.out.every)).1
   have cq := (blk1 (show w2.heap[p + 1]? = some (.cells #[vs] 22 (0, 0)) from (g2.block _ (lt_of_blk BK.out.boxs) (BK.out.rowb.apart BK.out.boxs (by decide))).trans BK.out.boxs)).1
   have hn1 : w.heap.size ≠ p := by have := HD.out.lt; omega
   have hn2 : p ≠ w.heap.size := Ne.symm hn1
   have hd0 : ((e : Int) == 0) = false := beq_eq_false_iff_ne.2 (by omega)
   have HHB := Lib.hid (show (blkB pre).length ≤ 3550 by omega)
   clear t2 g2 h2 kb b0 b1 f0 f1 f2 f3
   by_cases hmod : y.place % e = 0
   · have hmi : (y.place : Int) % (e : Int) = 0 := by omega
     have BK2d := Lib.hid (BK2.out.under (below_draws 1))
     have HPF := Lib.hid (show putFix ((blkB pre).length : Int) 2 = fixB (blkB pre).length 2 from putFix_in (n := (blkB pre).length) (b := 2) (by omega) (by omega))
     have HSL := Lib.hid (show (stFrom e 0 pre).length ≤ 100 by have := (stFrom_len e pre 0).1; omega)
     gi_wp2_with fail
--%REG10
     refine wpIn_region_any (by kernel_rfl) ?_
     change wpAnyIn _ _ _ _ _ _ _ _ _ (World.drew _)
     refine wpAnyIn_ready (rs := [0, 1]) (by kernel_rfl) (by simp) ?_
     refine (AllReadyIn.cons rfl (fun K hK => ?_) (AllReadyIn.cons rfl (fun K hK => ?_) AllReadyIn.nil))
     · skip
       go_simp
       refine hK _ _ ?_
       clear hK K
       refine wpAnyIn_ready (rs := [1]) (by kernel_rfl) (by simp) ?_
       refine (AllReadyIn.cons rfl (fun K hK => ?_) AllReadyIn.nil)
       go_simp
       refine hK _ _ ?_
       clear hK K
       refine wpAnyIn_ready (rs := [2]) (by kernel_rfl) (by simp) ?_
       refine (AllReadyIn.cons rfl (fun K hK => ?_) AllReadyIn.nil)
       go_simp
       first
         | refine ⟨trivial, (fun h => by cases h), ?_⟩
         | refine ⟨trivial, ?_⟩
       refine (calls_round (implPutFix ((blkB pre).length : Int) 2 _ (by have := HHB.out; omega) (by have := HHB.out; omega))).mono ?_
       intro e' w3 t3
       obtain ⟨F, hF, hFz, rfl, hb3⟩ := t3.text
       rw [HPF.out] at hF hFz
       rw [fix_length] at hFz
       have HFF := Lib.hid hF
       have hF2 : F.size ≤ 2 := by omega
       have BK3 := Lib.hid (Blk.under (W := (w2.setCell ⟨p, 0, none⟩ (.slice ad2 nn cap2)).drew) BK2d.out hb3)
       have DD3 := Lib.hid hb3
       clear hF hFz t3 hb3
       simp only []
       refine hK _ _ ?_
       clear hK K
       have q0 := (blk1 BK3.out.boxs).1
       refine wpAnyIn_ready (rs := [3]) (by kernel_rfl) (by simp) ?_
       refine (AllReadyIn.cons rfl (fun K hK => ?_) AllReadyIn.nil)
       refine opIn_pushA F _ _ rfl rfl rfl rfl BK3.out.rows (by have := HSL.out; omega) ?_
       intro v4 w4 t4 g4 h4
       obtain ⟨ad4, cap4, hv4⟩ := brow_slice t4
       obtain ⟨n4, hn4⟩ : ∃ n4, (stFrom e 0 pre ++ F.data.toList).length = n4 := ⟨_, rfl⟩
       rw [hn4] at hv4
       clear hn4
       subst hv4
       have BK4 := Lib.hid (BK3.out.setS t4 g4 h4 (by have := HD.out.lt; omega) (by omega) (by have := HD.out.lt; omega))
       have kq : w4.heap[p + 1]? = some (.cells #[vs] 22 (0, 0)) := (g4.block _ (lt_of_blk BK3.out.boxs) (BK3.out.rows.apart BK3.out.boxs (by decide))).trans BK3.out.boxs
       have KF4 := Lib.hid ((keeps_grown (B := w5.heap.size) g4 (brow_cells BK3.out.rows)).trans ((KeepsOthers.setCell w4 ⟨p + 1, 0, none⟩ (.slice ad4 n4 cap4)).from _))
       have KN4 := Lib.hid (BK3.out.kept2 (v' := .slice ad4 n4 cap4) g4 BK3.out.size)
       have GS4 := Lib.hid g4.size
       obtain ⟨z0, z1⟩ := blk1 kq
       clear t4 g4 h4 kq
       refine hK _ _ ?_
       clear hK K
       refine wpAnyIn_ready (rs := [4]) (by kernel_rfl) (by simp) ?_
       refine (AllReadyIn.cons rfl (fun K hK => ?_) AllReadyIn.nil)
       go_simp
       refine hK _ _ ?_
       clear hK K
       refine wpAnyIn_done (by kernel_rfl) ?_ _
       gi_wp2
       refine ⟨(KF2.out.trans (keeps_grown (B := w5.heap.size) (row := none) ((grown_drewN _ 1 none).trans (grown_under DD3.out none)) (fun g h => by cases h))).trans KF4.out, ⟨(KN2.out.1.trans (keepNot_below (W' := w3) ((below_draws 1).trans (DD3.out.mono (by simp))) BK2.out.size)).trans KN4.out, ?_⟩, .slice ad2 nn cap2, .slice ad4 n4 cap4, ?_⟩
       · have a1 := KN2.out.2
         have a2 := DD3.out.size
         have a3 := GS4.out
         simp at a1 a2 ⊢
         omega
       · rw [blkB_snoc, stFrom_snoc, if_pos hmod, Nat.zero_add, ← HFF.out]
         exact BK4.out
     · skip
       go_simp
       refine hK _ _ ?_
       clear hK K
       refine wpAnyIn_ready (rs := [0, 2]) (by kernel_rfl) (by simp) ?_
       refine (AllReadyIn.cons rfl (fun K hK => ?_) (AllReadyIn.cons rfl (fun K hK => ?_) AllReadyIn.nil))
       · skip
         go_simp
         refine hK _ _ ?_
         clear hK K
         refine wpAnyIn_ready (rs := [2]) (by kernel_rfl) (by simp) ?_
         refine (AllReadyIn.cons rfl (fun K hK => ?_) AllReadyIn.nil)
         go_simp
         first
           | refine ⟨trivial, (fun h => by cases h), ?_⟩
           | refine ⟨trivial, ?_⟩
         refine (calls_round (implPutFix ((blkB pre).length : Int) 2 _ (by have := HHB.out; omega) (by have := HHB.out; omega))).mono ?_
         intro e' w3 t3
         obtain ⟨F, hF, hFz, rfl, hb3⟩ := t3.text
         rw [HPF.out] at hF hFz
         rw [fix_length] at hFz
         have HFF := Lib.hid hF
         have hF2 : F.size ≤ 2 := by omega
         have BK3 := Lib.hid (Blk.under (W := (w2.setCell ⟨p, 0, none⟩ (.slice ad2 nn cap2)).drew) BK2d.out hb3)
         have DD3 := Lib.hid hb3
         clear hF hFz t3 hb3
         simp only []
         refine hK _ _ ?_
         clear hK K
         have q0 := (blk1 BK3.out.boxs).1
         refine wpAnyIn_ready (rs := [3]) (by kernel_rfl) (by simp) ?_
         refine (AllReadyIn.cons rfl (fun K hK => ?_) AllReadyIn.nil)
         refine opIn_pushA F _ _ rfl rfl rfl rfl BK3.out.rows (by have := HSL.out; omega) ?_
         intro v4 w4 t4 g4 h4
         obtain ⟨ad4, cap4, hv4⟩ := brow_slice t4
         obtain ⟨n4, hn4⟩ : ∃ n4, (stFrom e 0 pre ++ F.data.toList).length = n4 := ⟨_, rfl⟩
         rw [hn4] at hv4
         clear hn4
         subst hv4
         have BK4 := Lib.hid (BK3.out.setS t4 g4 h4 (by have := HD.out.lt; omega) (by omega) (by have := HD.out.lt; omega))
         have kq : w4.heap[p + 1]? = some (.cells #[vs] 22 (0, 0)) := (g4.block _ (lt_of_blk BK3.out.boxs) (BK3.out.rows.apart BK3.out.boxs (by decide))).trans BK3.out.boxs
         have KF4 := Lib.hid ((keeps_grown (B := w5.heap.size) g4 (brow_cells BK3.out.rows)).trans ((KeepsOthers.setCell w4 ⟨p + 1, 0, none⟩ (.slice ad4 n4 cap4)).from _))
         have KN4 := Lib.hid (BK3.out.kept2 (v' := .slice ad4 n4 cap4) g4 BK3.out.size)
         have GS4 := Lib.hid g4.size
         obtain ⟨z0, z1⟩ := blk1 kq
         clear t4 g4 h4 kq
         refine hK _ _ ?_
         clear hK K
         refine wpAnyIn_ready (rs := [4]) (by kernel_rfl) (by simp) ?_
         refine (AllReadyIn.cons rfl (fun K hK => ?_) AllReadyIn.nil)
         go_simp
         refine hK _ _ ?_
         clear hK K
         refine wpAnyIn_done (by kernel_rfl) ?_ _
         gi_wp2
         refine ⟨(KF2.out.trans (keeps_grown (B := w5.heap.size) (row := none) ((grown_drewN _ 1 none).trans (grown_under DD3.out none)) (fun g h => by cases h))).trans KF4.out, ⟨(KN2.out.1.trans (keepNot_below (W' := w3) ((below_draws 1).trans (DD3.out.mono (by simp))) BK2.out.size)).trans KN4.out, ?_⟩, .slice ad2 nn cap2, .slice ad4 n4 cap4, ?_⟩
         · have a1 := KN2.out.2
           have a2 := DD3.out.size
           have a3 := GS4.out
           simp at a1 a2 ⊢
           omega
         · rw [blkB_snoc, stFrom_snoc, if_pos hmod, Nat.zero_add, ← HFF.out]
           exact BK4.out
       · skip
         go_simp
         first
           | refine ⟨trivial, (fun h => by cases h), ?_⟩
           | refine ⟨trivial, ?_⟩
         refine (calls_round (implPutFix ((blkB pre).length : Int) 2 _ (by have := HHB.out; omega) (by have := HHB.out; omega))).mono ?_
         intro e' w3 t3
         obtain ⟨F, hF, hFz, rfl, hb3⟩ := t3.text
         rw [HPF.out] at hF hFz
         rw [fix_length] at hFz
         have HFF := Lib.hid hF
         have hF2 : F.size ≤ 2 := by omega
         have BK3 := Lib.hid (Blk.under (W := (w2.setCell ⟨p, 0, none⟩ (.slice ad2 nn cap2)).drew) BK2d.out hb3)
         have DD3 := Lib.hid hb3
         clear hF hFz t3 hb3
         simp only []
         refine hK _ _ ?_
         clear hK K
         have q0 := (blk1 BK3.out.boxs).1
         refine wpAnyIn_ready (rs := [0]) (by kernel_rfl) (by simp) ?_
         refine (AllReadyIn.cons rfl (fun K hK => ?_) AllReadyIn.nil)
         go_simp
         refine hK _ _ ?_
         clear hK K
         refine wpAnyIn_ready (rs := [3]) (by kernel_rfl) (by simp) ?_
         refine (AllReadyIn.cons rfl (fun K hK => ?_) AllReadyIn.nil)
         refine opIn_pushA F _ _ rfl rfl rfl rfl BK3.out.rows (by have := HSL.out; omega) ?_
         intro v4 w4 t4 g4 h4
         obtain ⟨ad4, cap4, hv4⟩ := brow_slice t4
         obtain ⟨n4, hn4⟩ : ∃ n4, (stFrom e 0 pre ++ F.data.toList).length = n4 := ⟨_, rfl⟩
         rw [hn4] at hv4
         clear hn4
         subst hv4
         have BK4 := Lib.hid (BK3.out.setS t4 g4 h4 (by have := HD.out.lt; omega) (by omega) (by have := HD.out.lt; omega))
         have kq : w4.heap[p + 1]? = some (.cells #[vs] 22 (0, 0)) := (g4.block _ (lt_of_blk BK3.out.boxs) (BK3.out.rows.apart BK3.out.boxs (by decide))).trans BK3.out.boxs
         have KF4 := Lib.hid ((keeps_grown (B := w5.heap.size) g4 (brow_cells BK3.out.rows)).trans ((KeepsOthers.setCell w4 ⟨p + 1, 0, none⟩ (.slice ad4 n4 cap4)).from _))
         have KN4 := Lib.hid (BK3.out.kept2 (v' := .slice ad4 n4 cap4) g4 BK3.out.size)
         have GS4 := Lib.hid g4.size
         obtain ⟨z0, z1⟩ := blk1 kq
         clear t4 g4 h4 kq
         refine hK _ _ ?_
         clear hK K
         refine wpAnyIn_ready (rs := [4]) (by kernel_rfl) (by simp) ?_
         refine (AllReadyIn.cons rfl (fun K hK => ?_) AllReadyIn.nil)
         go_simp
         refine hK _ _ ?_
         clear hK K
         refine wpAnyIn_done (by kernel_rfl) ?_ _
         gi_wp2
         refine ⟨(KF2.out.trans (keeps_grown (B := w5.heap.size) (row := none) ((grown_drewN _ 1 none).trans (grown_under DD3.out none)) (fun g h => by cases h))).trans KF4.out, ⟨(KN2.out.1.trans (keepNot_below (W' := w3) ((below_draws 1).trans (DD3.out.mono (by simp))) BK2.out.size)).trans KN4.out, ?_⟩, .slice ad2 nn cap2, .slice ad4 n4 cap4, ?_⟩
         · have a1 := KN2.out.2
           have a2 := DD3.out.size
           have a3 := GS4.out
           simp at a1 a2 ⊢
           omega
         · rw [blkB_snoc, stFrom_snoc, if_pos hmod, Nat.zero_add, ← HFF.out]
           exact BK4.out
   · have hmi : 0 < (y.place : Int) % (e : Int) := by
       have h0 : (0 : Int) ≤ (y.place : Int) % (e : Int) := Int.emod_nonneg _ (by omega)
       have h1 : (y.place : Int) % (e : Int) ≠ 0 := by omega
       omega
     gi_wp2
     refine ⟨KF2.out, KN2.out, .slice ad2 nn cap2, vs, ?_⟩
     rw [blkB_snoc, stFrom_snoc, if_neg hmod, List.append_nil]
     exact BK2.out
 case done =>
   rintro D ys W hD hys ⟨vb, vs, bk⟩ hK
   obtain ⟨ad, cap, rfl⟩ := brow_slice bk.rowb
   obtain ⟨ad2, cap2, rfl⟩ := brow_slice bk.rows
   have BK := Lib.hid bk
   have HK := Lib.hid hK
   obtain ⟨b0, b1⟩ := blk1 bk.boxb
   obtain ⟨b2, b3⟩ := blk1 bk.boxs
   clear bk hK
   gi_wp2_with fail
--%DONE
   refine wpIn_wide.2 ?_
   obtain ⟨O, hO, hOs⟩ := text_of (blkB ys)
   obtain ⟨S, hS, hSs⟩ := text_of (stFrom e 0 ys)
   have HO := Lib.hid (as_text hO)
   have HS := Lib.hid (as_text hS)
   have l1 := blkB_len ys
   have l2 := (stFrom_len e ys 0).1
   have l3 : ys.length = m := hys.1
   obtain ⟨e1, e2⟩ := ents_block (e := e) (xs := xs) (ys := ys) (by rw [HR.out.1]; exact hys)
   have HOE := Lib.hid (show O.data.toList = entries e 0 [] xs by rw [hO, e1])
   have HSE := Lib.hid (show S.data.toList = startsB e 0 0 [] xs by rw [hS, e2])
   obtain ⟨q, hq⟩ : ∃ q, (stFrom e 0 ys).length / 2 = q := ⟨_, rfl⟩
   have hq1 : ((stFrom e 0 ys).length : Int) / 2 = (q : Int) := by omega
   have hq9 : q ≤ 50 := by omega
   have hwq : IntKind.i64.wrap (q : Int) = (q : Int) := IntWalk.i64_in _ (by omega)
   have HPF := Lib.hid (show putFix (q : Int) 2 = fixB (S.size / 2) 2 by rw [hSs, hq]; exact putFix_in (n := q) (b := 2) (by omega) (by omega))
   have q1 : ¬ 9223372036854775807 < O.size + S.size := by omega
   have hO9 : O.size ≤ 3550 := by omega
   have hS9 : S.size ≤ 100 := by omega
   clear hO hS e1 e2 l1 l2 hOs hSs hq
   refine wp_noPanic ?_
   refine wp_region_held_drew (S := fun w' => w'.heap[D]? = some (.deferred (some [])) ∧ Blk w (p + 4) p (p + 1) w.heap.size e (blkB ys) (stFrom e 0 ys) (.slice ad (blkB ys).length cap) (.slice ad2 (stFrom e 0 ys).length cap2) w') (by kernel_rfl) ⟨HK.out, BK.out.under (below_draws 1)⟩ (fun hHeld => ?_)
   refine tk 0 (some 44) ?_ ?hy hHeld ?_
   case hy => (intro w' hS; have h := (blk1 hS.2.boxb).1; clear hS; go_simp <;> with_reducible rfl)
   simp only [Act.put, sA, sB, sC]
   refine tk 1 (some 45) ?_ ?hy hHeld ?_
   case hy => (intro w' hS; have h := conv_row hS.2.rowb; rw [HO.out] at h; clear hS; go_simp <;> with_reducible rfl)
   simp only [Act.put, sA, sB, sC]
   refine tk 2 (some 46) ?_ ?hy hHeld ?_
   case hy => (intro w' hS; have h := (blk1 hS.2.boxs).1; clear hS; go_simp <;> with_reducible rfl)
   simp only [Act.put, sA, sB, sC]
   refine tk 3 (some 47) ?_ ?hy hHeld ?_
   case hy => (intro w' hS; have h := conv_row hS.2.rows; rw [HS.out] at h; clear hS; go_simp <;> with_reducible rfl)
   simp only [Act.put, sA, sB, sC]
   refine tk 4 (some 48) ?_ ?hy hHeld ?_
   case hy => (intro w' hS; clear hS; go_simp <;> with_reducible rfl)
   simp only [Act.put, sA, sB, sC]
   refine tk 5 (some 49) ?_ ?hy hHeld ?_
   case hy => (intro w' hS; have h := (blk1 hS.2.boxs).1; clear hS; go_simp <;> with_reducible rfl)
   simp only [Act.put, sA, sB, sC]
   refine tk 6 (some 50) ?_ ?hy hHeld ?_
   case hy => (intro w' hS; clear hS; go_simp <;> with_reducible rfl)
   simp only [Act.put, sA, sB, sC]
   refine tk 7 (some 51) ?_ ?hy hHeld ?_
   case hy => (intro w' hS; clear hS; go_simp <;> with_reducible rfl)
   simp only [Act.put, sA, sB, sC]
   refine wpAnyH_ready (rs := [8]) (by kernel_rfl) (by simp) ?_
   refine AllReadyH.cons rfl (fun K hK => ?_) AllReadyH.nil
   go_simp
   refine (implPutFix (q : Int) 2 _ (by omega) (by omega)).mono ?_
   intro e' w3 t3
   obtain ⟨F, hF, hFz, rfl, hb3⟩ := t3.text
   rw [HPF.out] at hF hFz
   rw [fix_length] at hFz
   have HFF := Lib.hid hF
   have q2 : ¬ 9223372036854775807 < O.size + S.size + F.size := by omega
   have BK3 := Lib.hid (And.intro ((hb3.block D (Array.getElem?_eq_some_iff.1 HK.out).1).trans HK.out) (Blk.under (W := W.drewN 1) (BK.out.under (below_draws 1)) hb3))
   clear hF hFz t3 hb3
   go_wp2_with fail
   refine hK.out _ _ BK3.out (fun hHeld => ?_)
   clear hK K
   refine tk 9 (some 53) ?_ ?hy hHeld ?_
   case hy => (intro w' hS; clear hS; go_simp <;> with_reducible rfl)
   simp only [Act.put, sA, sB, sC]
   refine tk 10 (some 4) ?_ ?hy hHeld ?_
   case hy => (intro w' hS; clear hS; go_simp <;> with_reducible rfl)
   simp only [Act.put, sA, sB, sC]
   refine wpAnyH_done (by kernel_rfl) ?_ _
   have HBT := Lib.hid (block_text HOE.out HSE.out HFF.out)
   rw [noPanic_normal]
   gi_wp2
   refine ⟨by simp, .inl ⟨_, _, rfl, run_takeDeferred BK3.out.1, ?_⟩⟩
   refine ⟨_, results_tmp rfl _ _ _, ?_⟩
   refine textIs_of (A := O ++ S ++ F) HBT.out rfl (BK3.out.2.rowb.below.trans (belowK_b (w := w) (Nat.le_refl _) _ D _ _ (by have := HD.out.lt; have := HD.out.size; omega) BK3.out.1 rfl rfl))
set_option maxRecDepth 100000 in
set_option maxHeartbeats 1000000 in
theorem implPutBlockO (a : Option Addr) (m c : Nat) (xs : List Cel) (every : Int) (hm : m ≤ 1048576) (hf : Fit xs) (w : World) (h : CelRowO w a m c xs) :
   Calls Tryz.prog 91 #[.slice a m c, .int .i64 every] w (TextIs w (putBlock xs every)) := by
 have hml := h.1
 have B0 := Lib.hid (one_below w (.cells #[.int .i64 every] 3))
 by_cases hev : every < 1 ∨ 16 < every
 · rw [putBlock_no (block_no3 hev)]
   clear h
   rcases hev with hev | hev
   · have g1 : every < 1 := hev
     go_enter Tryz.func91, Tryz.ntmps91
     go_wp2_with fail
     refine wp_scope_straight ?_
     go_wp2
     try rw [Exit.noGoto_ret]
     go_ret
     exact ⟨rfl, B0.out⟩
   · have g1 : ¬ every < 1 := by omega
     go_enter Tryz.func91, Tryz.ntmps91
     go_wp2_with fail
     refine wp_scope_straight ?_
     go_wp2
     try rw [Exit.noGoto_ret]
     go_ret
     exact ⟨rfl, B0.out⟩
 · by_cases h50 : m ≤ 50
   · cases hok : cellsOk xs
     · rw [putBlock_no (block_no2 hok)]
       have HB := Lib.hid hok
       have HR := Lib.hid h
       clear hok h
       have g1 : ¬ every < 1 := by omega
       have g2 : ¬ (16 : Int) < every := by omega
       have g3 : ¬ (50 : Int) < (m : Int) := by omega
       go_enter Tryz.func91, Tryz.ntmps91
       go_wp2_with fail
       refine wp_scope_straight ?_
       go_wp2_with fail
       refine (implCellsOkO a m c xs hm hf _ (HR.out.below B0.out)).mono ?_
       rw [HB.out]
       rintro e w1 ⟨rfl, hb1⟩
       have B1 := Lib.hid (B0.out.trans (hb1.mono (by simp)))
       clear hb1
       go_wp2
       try rw [Exit.noGoto_ret]
       go_ret
       exact ⟨rfl, B1.out⟩
     · obtain ⟨e, rfl⟩ := Int.eq_ofNat_of_zero_le (by omega : 0 ≤ every)
       rw [putBlock_yes (by omega) hok (by omega) (by omega)]
       exact callsIn_wide.1 (implPutBlock_in a m c xs e (by omega) (by omega) h50 hf hok w h)
   · rw [putBlock_no (block_no1 (by omega))]
     clear h
     have g1 : ¬ every < 1 := by omega
     have g2 : ¬ (16 : Int) < every := by omega
     have g3 : (50 : Int) < (m : Int) := by omega
     go_enter Tryz.func91, Tryz.ntmps91
     go_wp2_with fail
     refine wp_scope_straight ?_
     go_wp2
     try rw [Exit.noGoto_ret]
     go_ret
     exact ⟨rfl, B0.out⟩
theorem implPutBlock (a : Option Addr) (m c : Nat) (xs : List Cel) (every : Int) (hm : m ≤ 1048576) (hf : Fit xs) (w : World) (h : CelRow w a m c xs) :
   Calls Tryz.prog 91 #[.slice a m c, .int .i64 every] w (TextIs w (putBlock xs every)) := implPutBlockO a m c xs every hm hf w h.o
end Go.Proofs.YtkomnnijnggbpaaGreatDoor
/- The model's PutTable, at every argument. -/
namespace Go.Proofs.YtkomnnijnggbpaaGreatDoor
open Go.RowKit
set_option linter.unusedVariables false

theorem put_no {xs : List Cel} {c : Conf} (h : 60 < xs.length ∨ cellsOk xs = false ∨ confOk c = false) : putTable xs c = [] := by
 unfold putTable
 refine if_neg (fun ⟨h1, h2, h3, _⟩ => ?_)
 rcases h with h | h | h
 · omega
 · rw [h] at h2; cases h2
 · rw [h] at h3; cases h3
set_option maxHeartbeats 1000000 in
set_option maxRecDepth 100000 in
theorem specPutTable (a : Option Addr) (n c : Nat) (xs : List Cel) (e z : Int) (p : Bool) (hn : n ≤ 1048576) (hf : Fit xs) (w : World) (h : CelRowO w a n c xs) :
   Calls Tryz.prog 16 #[.slice a n c, .agg #[.int .i64 e, .int .i64 z, .bool p]] w (TextIs w (putTable xs ⟨e, z, p⟩)) := by
 have hxl := h.1
 have B0 := Lib.hid ((Below.refl w.heap.size w).alloc (Nat.le_refl _) (.cells #[.int .i64 e, .int .i64 z, .bool p] 26))
 by_cases h60 : n ≤ 60
 · obtain ⟨b, hb⟩ : ∃ b, cellsOk xs = b := ⟨_, rfl⟩
   cases b
   · have HP := Lib.hid (put_no (c := ⟨e, z, p⟩) (.inr (.inl hb)))
     have HB := Lib.hid hb
     have HR := Lib.hid (h.below B0.out)
     have HF := Lib.hid hf
     clear h hf hb hxl
     go_enter Tryz.func16, Tryz.ntmps16
     go_wp2_with fail
     refine (specCellsOkO a n c xs (by omega) HF.out _ HR.out).mono ?_
     rw [HB.out]
     rintro r w1 ⟨rfl, b1⟩
     have B1 := Lib.hid (B0.out.trans (b1.mono B0.out.size))
     clear b1
     go_wp2
     go_ret
     exact ⟨by rw [HP.out]; rfl, B1.out⟩
   · obtain ⟨b, hc⟩ : ∃ b, confOk ⟨e, z, p⟩ = b := ⟨_, rfl⟩
     cases b
     · have HP := Lib.hid (put_no (xs := xs) (.inr (.inr hc)))
       have HB := Lib.hid hb
       have HC := Lib.hid hc
       have HR := Lib.hid (h.below B0.out)
       have HF := Lib.hid hf
       clear h hf hb hc hxl
       have X0 := Lib.hid (show (w.alloc (.cells #[.int .i64 e, .int .i64 z, .bool p] 26)).cell? ⟨w.heap.size, 0, none⟩ = some (.int .i64 e) ∧ (w.alloc (.cells #[.int .i64 e, .int .i64 z, .bool p] 26)).cell? ⟨w.heap.size, 1, none⟩ = some (.int .i64 z) ∧ (w.alloc (.cells #[.int .i64 e, .int .i64 z, .bool p] 26)).cell? ⟨w.heap.size, 2, none⟩ = some (.bool p) from ⟨cell_made w _ _ 0, cell_made w _ _ 1, cell_made w _ _ 2⟩)
       go_enter Tryz.func16, Tryz.ntmps16
       go_wp2_with fail
       refine (specCellsOkO a n c xs (by omega) HF.out _ HR.out).mono ?_
       rw [HB.out]
       rintro r w1 ⟨rfl, b1⟩
       have B1 := Lib.hid (B0.out.trans (b1.mono B0.out.size))
       have x0 := (b1.cell (p := ⟨w.heap.size, 0, none⟩) (cell_lt X0.out.1)).trans X0.out.1
       have x1 := (b1.cell (p := ⟨w.heap.size, 1, none⟩) (cell_lt X0.out.2.1)).trans X0.out.2.1
       have x2 := (b1.cell (p := ⟨w.heap.size, 2, none⟩) (cell_lt X0.out.2.2)).trans X0.out.2.2
       clear b1
       go_wp2_with fail
       refine (specConfigOk e z p _).mono ?_
       rw [HC.out]
       rintro r w2 ⟨rfl, b2⟩
       have B2 := Lib.hid (B1.out.trans (b2.mono B1.out.size))
       clear b2
       go_wp2
       go_ret
       exact ⟨by rw [HP.out]; rfl, B2.out⟩
     · obtain ⟨h1, h2, h3, h4⟩ := conf_in hc
       obtain ⟨e, rfl⟩ := Int.eq_ofNat_of_zero_le (show 0 ≤ e from by have : 1 ≤ e := h1; omega)
       obtain ⟨z, rfl⟩ := Int.eq_ofNat_of_zero_le (show 0 ≤ z from by have : 1 ≤ z := h3; omega)
       have k1 : (1 : Int) ≤ (e : Int) := h1
       have k2 : (e : Int) ≤ 16 := h2
       have k3 : (1 : Int) ≤ (z : Int) := h3
       have k4 : (z : Int) ≤ 50 := h4
       exact specPutTable_in a n c xs e z p h60 hb (by omega) (by omega) (by omega) (by omega) w h
 · have HP := Lib.hid (put_no (c := ⟨e, z, p⟩) (.inl (show 60 < xs.length by rw [hxl]; omega)))
   have h60i : (60 : Int) < (n : Int) := by omega
   have hnc := h.2.1
   clear h hf hxl
   go_enter Tryz.func16, Tryz.ntmps16
   go_wp2
   go_ret
   exact ⟨by rw [HP.out]; rfl, B0.out⟩
end Go.Proofs.YtkomnnijnggbpaaGreatDoor
/- The library's iterator over the parts of a list of cells: it yields them in order, as long as it is let. -/
namespace Go.Proofs.YtkomnnijnggbpaaGreatDoor
open Go.RowKit Go.Shelf
set_option linter.unusedVariables false
attribute [local go_sem] Oper.semAt_some

def chunkV (g off m z k : Nat) : Value := .slice (some ⟨g, off + k * z * 5, none⟩) (min z (m - k * z)) (min z (m - k * z))
theorem cut_part (W : World) (g off m c q E : Nat) (h : q + E ≤ m) (hE : 1 ≤ E) (hc : m ≤ c) :
   (Instr.sliceAt 24 (.slice (some ⟨g, off, none⟩) m c) (some (.int .i64 q)) (some (.int .i64 ((q : Int) + (E : Int)))) (some (.int .i64 ((q : Int) + (E : Int))))).run Tryz.prog W = .ok (.slice (some ⟨g, off + q * 5, none⟩) E E) W := by
 have hu : Tryz.prog.underlying 24 = some (.slice (Tryz.prog.elem 24)) := by kernel_rfl
 have hsz : (sizeOf (Tryz.prog.elem 24)).run Tryz.prog W = .ok 5 W := by kernel_rfl
 have e1 := run_sliceAt_slice (P := Tryz.prog) (w := W) 24 (.slice (some ⟨g, off, none⟩) m c) (some (.int .i64 q)) (some (.int .i64 ((q : Int) + (E : Int)))) (some (.int .i64 ((q : Int) + (E : Int)))) hu
 have e2 := run_slice_lhm (P := Tryz.prog) (w := W) 24 (some ⟨g, off, none⟩) m c hu .i64 .i64 .i64 q ((q : Int) + (E : Int)) ((q : Int) + (E : Int)) (by omega) (by omega) (Int.le_refl _) (by omega)
 rw [e1, e2, hsz]
 have q4 : ((q : Int) + (E : Int)).toNat = q + E := by omega
 show Result.ok (sliced _ _ _ _ _) W = _
 unfold sliced
 rw [q4, Int.toNat_natCast, if_neg (by omega), Nat.add_sub_cancel_left]
 have e3 : (⟨g, off, none⟩ : Addr).add (q * 5) = ⟨g, off + q * 5, none⟩ := by
   unfold Addr.add; split
   · have : q = 0 := by omega
     subst this; rfl
   · rfl
 simp only [Option.map_some, e3]
theorem cut_rest (W : World) (g off m c q : Nat) (h : q < m) (hc : m ≤ c) :
   (Instr.sliceAt 24 (.slice (some ⟨g, off, none⟩) m c) (some (.int .i64 q)) none none).run Tryz.prog W = .ok (.slice (some ⟨g, off + q * 5, none⟩) (m - q) (c - q)) W := by
 have hu : Tryz.prog.underlying 24 = some (.slice (Tryz.prog.elem 24)) := by kernel_rfl
 have hsz : (sizeOf (Tryz.prog.elem 24)).run Tryz.prog W = .ok 5 W := by kernel_rfl
 have e1 := run_sliceAt_slice (P := Tryz.prog) (w := W) 24 (.slice (some ⟨g, off, none⟩) m c) (some (.int .i64 q)) none none hu
 have e2 := run_slice_l (P := Tryz.prog) (w := W) 24 (some ⟨g, off, none⟩) m c hu .i64 q (by omega) (by omega)
 rw [e1, e2, hsz]
 show Result.ok (sliced _ _ _ _ _) W = _
 unfold sliced
 rw [Int.toNat_natCast, if_neg (by omega)]
 have e3 : (⟨g, off, none⟩ : Addr).add (q * 5) = ⟨g, off + q * 5, none⟩ := by
   unfold Addr.add; split
   · have : q = 0 := by omega
     subst this; rfl
   · rfl
 simp only [Option.map_some, e3]

theorem range_snoc {l : List Nat} {k : Nat} (h : l = List.range k) : l ++ [k] = List.range (k + 1) := by rw [h, List.range_succ]
theorem range_pre {j n : Nat} (h : j ≤ n) : List.range j <+: List.range n := by
 rw [List.prefix_iff_eq_take, List.length_range, List.take_range, Nat.min_eq_left h]

set_option maxRecDepth 100000 in
set_option maxHeartbeats 2000000 in
theorem chunk_in (n l Bl Bn g off : Nat) (a : Option Addr) (m c z nb : Nat) (ha : m ≠ 0 → a = some ⟨g, off, none⟩) (hz : 1 ≤ z) (hz2 : z ≤ 50) (hm : m ≤ 60) (hmc : m ≤ c) (hnb : (m + z - 1) / z = nb) (J Jx : List (Spot nb) → World → Prop)
   (hY : ∀ pre (x : Spot nb) W, J pre W → pre.length < nb → YieldAt Fence.wide (n - 1) Tryz.prog l #[chunkV g off m z x.at_] W fun e W' =>
     (e = .returned (.bool true) ∧ J (pre ++ [x]) W' ∧ KeptTwo Bl Bn W W') ∨ (e = .returned (.bool false) ∧ Jx (pre ++ [x]) W'))
   (B' : Nat) (hJA : AbidesFrom B' J) (W : World) (hk : Boxed W Bl 24 (.slice a m c)) (hb : Boxed W Bn 3 (.int .i64 z)) (h0 : J [] W) :
   CallsIn Fence.wide n Tryz.prog 124 #[.func (.yield l) #[] #[], .pointer (some ⟨Bl, 0, none⟩), .pointer (some ⟨Bn, 0, none⟩)] W fun e W' => (∃ v, e = .returned v) ∧
     ((∃ ys, spots ys = List.range nb ∧ J ys W') ∨ (∃ pre, spots pre <+: List.range nb ∧ Jx pre W')) := by
 have HY := Lib.hid hY
 have H0 := Lib.hid h0
 have BB := Lib.hid (And.intro hk hb)
 have HNB := Lib.hid hnb
 have HAA := Lib.hid ha
 clear hY h0 hk hb ha
 refine callsIn_of_wp Tryz.func124 rfl trivial ?_ rfl
 simp only [Tryz.ntmps124, List.size_toArray, List.length_cons, List.length_nil, Nat.reduceAdd, Nat.reduceSub, Array.replicate_succ, Array.replicate_zero, List.push_toArray, List.append_toArray, List.nil_append, List.cons_append]
 gi_wp2_with fail
 gi_loopw [4, 5] (fun ii ee wr => ∃ (j q : Nat) (pre : List (Spot nb)), j ≤ nb ∧ Hid (j * z = q) ∧ q ≤ 110 ∧ ii = .int .i64 q ∧ Boxed wr Bl 24 (.slice a m c) ∧ Boxed wr Bn 3 (.int .i64 z) ∧ J pre wr ∧ spots pre = List.range j)
   (fun ii _ _ => 200 - (intOf ii).toNat)
 case atStart => exact ⟨0, 0, [], by omega, Nat.zero_mul z, by omega, rfl, BB.out.1, BB.out.2, H0.out, rfl⟩
 case round =>
   obtain ⟨j, q, pre, hj, HQ, hq110, rfl, bk, bb, hJ, hsp⟩ := hrel
   have ck := bk.cell
   have cb := bb.cell
   have BW := Lib.hid (And.intro bk bb)
   have HJ := Lib.hid hJ
   have HSP := Lib.hid hsp
   clear bk bb hJ hsp
   by_cases hlt : q < m
   · have hjn : j < nb := by
       have h1 := blk_lt (n := m) (k := j) hz (by rw [HQ.out]; exact hlt)
       omega
     have haa := HAA.out (by omega)
     subst haa
     obtain ⟨E, hE⟩ : ∃ E, min z (m - q) = E := ⟨_, rfl⟩
     have hE1 : 1 ≤ E := by omega
     have hEm : q + E ≤ m := by omega
     have hEz : E ≤ z := by omega
     have j1 : (q : Int) < (m : Int) := by omega
     have hmin : (if m - q < z then (((m - q : Nat) : Int)) else (z : Int)) = (E : Int) := by split <;> omega
     have hmin2 : min (z : Int) ((m - q : Nat) : Int) = (E : Int) := by omega
     have hcr := fun W => cut_rest W g off m c q hlt hmc
     have hcp := fun W => cut_part W g off m c q E hEm hE1 hmc
     have HS2 := Lib.hid (show spots (pre ++ [(⟨j, hjn⟩ : Spot nb)]) = List.range (j + 1) by rw [spots_snoc, HSP.out, range_snoc rfl])
     have hyy := HY.out pre ⟨j, hjn⟩ wr.drew (hJA _ _ _ none HJ.out (grown_of_below (below_draws 1)) (fun _ h => by cases h)) (by rw [← spots_len, HSP.out, List.length_range]; exact hjn)
     have hcv : chunkV g off m z j = .slice (some ⟨g, off + q * 5, none⟩) E E := by unfold chunkV; rw [HQ.out, hE]
     simp only [hcv] at hyy
     have HYY := Lib.hid hyy
     clear hyy hcv
     gi_wp2_with fail
     obtain ⟨fn, tmps, assign, body, hy, hR⟩ := HYY.out
     gi_region
     have HR := Lib.hid hR
     have HY2 := Lib.hid hy
     clear hR hy hmin hmin2 hcr
     have hw1 : IntKind.i64.wrap ((q : Int) + (E : Int)) = (q : Int) + (E : Int) := IntWalk.i64_in _ (by omega)
     have hy := HY2.out
     have DR := Lib.hid (show KeptTwo Bl Bn wr wr.drew from ⟨rfl, rfl⟩)
     have ckd : wr.drew.cell? ⟨Bl, 0, none⟩ = some (.slice (some ⟨g, off, none⟩) m c) := ck
     have cbd : wr.drew.cell? ⟨Bn, 0, none⟩ = some (.int .i64 z) := cb
     clear ck cb
     generalize wr.drew = wd at *
     gi_wp2_with fail
     refine ⟨(fun h => by cases h), HR.out.mono ?_⟩
     rintro e W3 (⟨rfl, hJ3, hk3⟩ | ⟨rfl, hJx3⟩)
     · have bk3 : Boxed W3 Bl 24 (.slice (some ⟨g, off, none⟩) m c) := hk3.1.trans (DR.out.1.trans BW.out.1)
       have bb3 : Boxed W3 Bn 3 (.int .i64 z) := hk3.2.trans (DR.out.2.trans BW.out.2)
       have BW3 := Lib.hid (And.intro bk3 bb3)
       have cb3 := bb3.cell
       have HJ3 := Lib.hid hJ3
       have hw2 : IntKind.i64.wrap ((q : Int) + (z : Int)) = (q : Int) + (z : Int) := IntWalk.i64_in _ (by omega)
       clear hJ3 hk3 hy HY2 HR bk3 bb3 ckd cbd hcp
       gi_wp2
       go_roundw
       case rel => exact ⟨j + 1, q + z, _, by omega, (show (j + 1) * z = q + z by rw [Nat.succ_mul, HQ.out]), by omega, by go_num, BW3.out.1, BW3.out.2, HJ3.out, HS2.out⟩
       case measure => simp [intOf]; omega
     · have HX := Lib.hid hJx3
       clear hJx3 hy HY2 HR
       gi_wp2
       refine bodyPost_ret (results_none rfl _ _ _) rfl ?_
       exact ⟨⟨_, rfl⟩, .inr ⟨_, by rw [HS2.out]; exact range_pre hjn, HX.out⟩⟩
   · have hjn : j = nb := by
       have h1 : (m + z - 1) / z < j + 1 := by
         rw [Nat.div_lt_iff_lt_mul (by omega), Nat.succ_mul, HQ.out]
         omega
       rw [HNB.out] at h1
       omega
     have j1 : ¬ (q : Int) < (m : Int) := by omega
     gi_wp2
     go_end0
     exact ⟨⟨_, rfl⟩, .inl ⟨pre, by rw [HSP.out, hjn], HJ.out⟩⟩
theorem chunk_stops (n Bl Bn g off : Nat) (a : Option Addr) (m c z nb : Nat) (ha : m ≠ 0 → a = some ⟨g, off, none⟩) (hz : 1 ≤ z) (hz2 : z ≤ 50) (hm : m ≤ 60) (hmc : m ≤ c) (hnb : (m + z - 1) / z = nb) (w : World) (hk : Boxed w Bl 24 (.slice a m c)) (hb : Boxed w Bn 3 (.int .i64 z)) :
   SeqStopsK Fence.wide n Tryz.prog 124 #[.pointer (some ⟨Bl, 0, none⟩), .pointer (some ⟨Bn, 0, none⟩)] (fun x : Spot nb => #[chunkV g off m z x.at_]) (KeptTwo Bl Bn)
     (fun ys => spots ys = List.range nb) (fun pre => spots pre <+: List.range nb) nb w := fun l J Jx W hW hJ _ hY h0 =>
 chunk_in n l Bl Bn g off a m c z nb ha hz hz2 hm hmc hnb J Jx hY _ hJ W ((hW.block Bl hk.lt).trans hk) ((hW.block Bn hb.lt).trans hb) h0
theorem chunk_at (n : Nat) (a : Option Addr) (m c z : Nat) (hz : 1 ≤ z) (w : World) :
   CallsIn Fence.wide n Tryz.prog 90 #[.slice a m c, .int .i64 z] w fun e w' => e = .returned (.func (.func 124) #[] #[.pointer (some ⟨w.heap.size, 0, none⟩), .pointer (some ⟨w.heap.size + 1, 0, none⟩)]) ∧
     w' = (w.alloc (.cells #[.slice a m c] 24)).alloc (.cells #[.int .i64 z] 3) := by
 have h1 : ¬ (z : Int) < 1 := by omega
 refine callsIn_wide.2 ?_
 go_enter Tryz.func90, Tryz.ntmps90
 go_wp2
 go_ret
 exact ⟨by simp, rfl⟩
end Go.Proofs.YtkomnnijnggbpaaGreatDoor
/- The program's filter of rows and columns, and its foot. -/
namespace Go.Proofs.YtkomnnijnggbpaaGreatDoor
open Go.RowKit
set_option linter.unusedVariables false

theorem implColumnKey (R C : ByteArray) (hR : R.size ≤ 1000000) (hC : C.size ≤ 1000000) (w : World) :
   Calls Tryz.prog 75 #[.string R, .string C] w fun e w' => e = .returned (.string ((R ++ ⟨#[0]⟩) ++ C)) ∧ w' = w := by
 have q1 : ¬ 9223372036854775807 < R.size + 1 := by omega
 have q2 : ¬ 9223372036854775807 < R.size + 1 + C.size := by omega
 go_enter Tryz.func75, Tryz.ntmps75
 go_wp2
 go_ret
 exact ⟨rfl, rfl⟩

def StrBlk (w : World) (g : Nat) (ks : List ByteArray) (m : Nat) : Prop := w.heap[g]? = some (.cells (ks.map Value.string ++ List.replicate m (Value.string ⟨#[]⟩)).toArray 9 (0, 0))
theorem strs_made (n : Nat) (w : World) (hn : n ≤ 10000) : (Instr.makeSlice 72 (.int .i64 n) (.int .i64 n)).run Tryz.prog w = .ok (.slice (some ⟨w.heap.size, 0, none⟩) n n) (w.alloc (.cells (Array.replicate n (Value.string ⟨#[]⟩)) 9)) := by
 obtain ⟨ti, hti, hz0, hz1, hz2⟩ := info_parts infoStr
 have h := run_makeSlice (P := Tryz.prog) w 72 9 ti (Value.string ⟨#[]⟩) Tryz.underlying72 hti hz0 .i64 .i64 n n (by omega) (by omega) (by rw [hz1]; simp; omega) (by rw [hz2]; omega) (by omega)
 rw [hz1, Int.toNat_natCast, Nat.mul_one] at h
 have e : (Value.string ⟨#[]⟩).cells = #[Value.string ⟨#[]⟩] := rfl
 have e2 : madeCells #[Value.string ⟨#[]⟩] n = Array.replicate n (Value.string ⟨#[]⟩) := by
   apply Array.ext
   · simp [madeCells]
   · intro j h1 h2
     simp [madeCells, Nat.mod_one]
 rw [e, e2] at h
 exact h
theorem strblk_new (n : Nat) (w : World) : StrBlk (w.alloc (.cells (Array.replicate n (Value.string ⟨#[]⟩)) 9)) w.heap.size [] n := by
 unfold StrBlk
 rw [alloc_at]
 simp
theorem StrBlk.set {w : World} {g m : Nat} {ks : List ByteArray} (h : StrBlk w g ks (m + 1)) (x : ByteArray) : StrBlk (w.setCell ⟨g, ks.length, none⟩ (.string x)) g (ks ++ [x]) m := by
 unfold StrBlk at h ⊢
 rw [set_block _ h]
 congr 2
 apply Array.toList_inj.1
 rw [Array.toList_setIfInBounds]
 rw [List.set_append_right _ _ (by simp), List.length_map, Nat.sub_self, List.replicate_succ, List.set_cons_zero]
 simp
theorem StrBlk.cell {w : World} {g m : Nat} {ks : List ByteArray} (h : StrBlk w g ks (m + 1)) : w.cell? ⟨g, ks.length, none⟩ = some (Value.string ⟨#[]⟩) ∧ w.frozen? ⟨g, ks.length, none⟩ = false := by
 unfold StrBlk at h
 constructor
 · simp [World.cell?, h, List.replicate_succ]
 · simp [World.frozen?, h]
theorem StrBlk.row {w : World} {g n : Nat} {ks : List ByteArray} (h : StrBlk w g ks 0) (hn : ks.length = n) : StrAt w (some ⟨g, 0, none⟩) n n ks := by
 refine ⟨hn, Nat.le_refl _, fun k x hk => ⟨g, rfl, ?_⟩⟩
 unfold StrBlk at h
 simp [World.cell?, h, hk]
theorem StrBlk.keep {w w' : World} {g m : Nat} {ks : List ByteArray} (h : StrBlk w g ks m) (hb : Below w.heap.size w w') : StrBlk w' g ks m := (hb.block _ (Array.getElem?_eq_some_iff.1 h).1).trans h

set_option maxHeartbeats 2000000 in
set_option maxRecDepth 100000 in
theorem implColumnFilter (a : Option Addr) (n c : Nat) (xs : List Cel) (hn : n ≤ 60) (hok : cellsOk xs = true) (w : World) (h : CelRowO w a n c xs) :
   Calls Tryz.prog 51 #[.slice a n c] w (TextIs w (filterB (xs.map nameKey))) := by
 have HR := Lib.hid h
 have HS := Lib.hid (show ∀ x ∈ xs, x.row.size ≤ 1000000 ∧ x.col.size ≤ 1000000 from fun x hx => names_small hok hx)
 have HFT := Lib.hid (names_fit hok)
 have hmk := strs_made n w (by omega)
 have N0 := Lib.hid (strblk_new n w)
 have B0 := Lib.hid (one_below w (.cells (Array.replicate n (Value.string ⟨#[]⟩)) 9))
 clear h hok
 go_enter Tryz.func51, Tryz.ntmps51
 go_wp2_with fail
 obtain ⟨w0, hw0⟩ : ∃ W, w.alloc (.cells (Array.replicate n (Value.string ⟨#[]⟩)) 9) = W := ⟨_, rfl⟩
 rw [hw0] at N0 B0 ⊢
 clear hmk hw0
 go_loopw [4, 5, 11] (fun ii xx kk wr => ∃ i : Nat, i ≤ n ∧ kk = .int .i64 i ∧ Hid (StrBlk wr w.heap.size ((xs.take i).map nameOf) (n - i) ∧ Below w.heap.size w wr)) (fun _ _ kk _ => n - (intOf kk).toNat)
 case atStart => exact ⟨0, Nat.zero_le _, rfl, ⟨by simpa using N0.out, B0.out⟩⟩
 case round =>
   obtain ⟨i, hi, rfl, HX⟩ := hrel
   by_cases hlt : i < n
   · obtain ⟨⟨R, C, t, G, V⟩, hy⟩ : ∃ y, xs[i]? = some y := ⟨_, List.getElem?_eq_getElem (by rw [HR.out.1]; exact hlt)⟩
     obtain ⟨g, off, hag, k5⟩ := HR.out.2.2 i _ hy
     subst hag
     have hsz := HS.out _ (List.mem_of_getElem? hy)
     have hR : R.size ≤ 1000000 := hsz.1
     have hC : C.size ≤ 1000000 := hsz.2
     have hlen : ((xs.take i).map nameOf).length = i := by rw [List.length_map, List.length_take, HR.out.1]; omega
     have HLN := Lib.hid hlen
     have HT := Lib.hid (show (xs.take (i + 1)).map nameOf = (xs.take i).map nameOf ++ [(R ++ ⟨#[0]⟩) ++ C] by rw [take_next hy, List.map_append]; rfl)
     have K5 := k5.below HX.out.2
     unfold Cel5O at K5
     obtain ⟨c0, c1, c2, c3, c4⟩ := K5
     have i1 : (i : Int) < (n : Int) := by omega
     have i0 : (0 : Int) ≤ (i : Int) := by omega
     have NB := Lib.hid (show StrBlk wr w.heap.size ((xs.take i).map nameOf) ((n - (i + 1)) + 1) by have := HX.out.1; rwa [show n - i = n - (i + 1) + 1 by omega] at this)
     have N1 := Lib.hid (NB.out.keep (one_below wr (.cells #[.string R, .string C, .int .i64 t, .bool G, .string V] 41)))
     have B1 := Lib.hid (HX.out.2.alloc (by have := HX.out.2.size; simpa using this) (.cells #[.string R, .string C, .int .i64 t, .bool G, .string V] 41))
     have n1 := N1.out.cell
     rw [hlen] at n1
     obtain ⟨nc, nf⟩ := n1
     clear hy k5 hsz hlen
     go_wp2_with fail
     refine (implColumnKey R C hR hC _).mono ?_
     rintro e w1 ⟨rfl, rfl⟩
     go_wp2
     go_roundw
     case rel =>
       refine ⟨i + 1, by omega, by go_num, ⟨?_, B1.out.setCell (Nat.le_refl _) _⟩⟩
       rw [HT.out]
       have := N1.out.set ((R ++ ⟨#[0]⟩) ++ C)
       rw [HLN.out] at this
       exact this
     case measure => simp [intOf]; omega
   · obtain rfl : i = n := by omega
     have HE := Lib.hid (show xs.take i = xs from List.take_of_length_le (by rw [HR.out.1]; omega))
     have HRW := Lib.hid (show StrAt wr (some ⟨w.heap.size, 0, none⟩) i i (xs.map nameOf) from StrBlk.row (by have := HX.out.1; rw [HE.out, Nat.sub_self] at this; exact this) (by rw [List.length_map]; exact HR.out.1))
     go_wp2_with fail
     refine (implFilter _ i i (xs.map nameOf) (by omega) HFT.out _ HRW.out).mono ?_
     rintro e w1 ⟨rfl, b1⟩
     have B1 := Lib.hid (HX.out.2.trans (b1.mono HX.out.2.size))
     clear b1
     go_wp2
     go_ret
     exact ⟨by rw [names_lists]; rfl, B1.out⟩

theorem foots_next {l : List Nat} {j x : Nat} (hx : l[j]? = some x) : foots (l.take (j + 1)) = foots (l.take j) ++ fixB x 4 := by
 rw [take_next hx]; unfold foots; rw [List.flatMap_append]; simp
set_option maxHeartbeats 2000000 in
set_option maxRecDepth 100000 in
theorem implPutFoot (b i f n e z : Nat) (p : Bool) (hb : b ≤ 1000000) (hi : i ≤ 1000000) (hf : f ≤ 1000000) (hn : n ≤ 1000000) (he : e ≤ 1000000) (hz : z ≤ 1000000) (w : World) :
   Calls Tryz.prog 52 #[.int .i64 b, .int .i64 i, .int .i64 f, .int .i64 n, .agg #[.int .i64 e, .int .i64 z, .bool p]] w (TextIs w (footB b i f n ⟨e, z, p⟩ ++ magicB)) := by
 have B0 := Lib.hid (one_below w (.cells #[.int .i64 e, .int .i64 z, .bool p] 26))
 obtain ⟨u, hu⟩ : ∃ u, flag p = u := ⟨_, rfl⟩
 have hu1 : u ≤ 1 := by rw [← hu]; unfold flag; split <;> omega
 have HU := Lib.hid hu
 obtain ⟨nums, hnums⟩ : ∃ l, [b, i, b + i, f, n, e, z, u] = l := ⟨_, rfl⟩
 have HNM := Lib.hid hnums
 have hx8 : nums.length = 8 := by rw [← hnums]; rfl
 have HX8 := Lib.hid hx8
 have hall : ∀ (j x : Nat), nums[j]? = some x → x ≤ 2000000 := by
   intro j x hj
   have hm := List.mem_of_getElem? hj
   rw [← hnums] at hm
   simp only [List.mem_cons, List.not_mem_nil, or_false] at hm
   omega
 have HAL := Lib.hid hall
 have ix0 : ∀ W : World, (Instr.index 109 (.agg #[.int .i64 b, .int .i64 i, .int .i64 ((b : Int) + (i : Int)), .int .i64 f, .int .i64 n, .int .i64 e, .int .i64 z, .int .i64 u]) (.int .i64 0)).run Tryz.prog W = .ok (.int .i64 b) W := fun _ => by kernel_rfl
 have ix1 : ∀ W : World, (Instr.index 109 (.agg #[.int .i64 b, .int .i64 i, .int .i64 ((b : Int) + (i : Int)), .int .i64 f, .int .i64 n, .int .i64 e, .int .i64 z, .int .i64 u]) (.int .i64 1)).run Tryz.prog W = .ok (.int .i64 i) W := fun _ => by kernel_rfl
 have ix2 : ∀ W : World, (Instr.index 109 (.agg #[.int .i64 b, .int .i64 i, .int .i64 ((b : Int) + (i : Int)), .int .i64 f, .int .i64 n, .int .i64 e, .int .i64 z, .int .i64 u]) (.int .i64 2)).run Tryz.prog W = .ok (.int .i64 ((b : Int) + (i : Int))) W := fun _ => by kernel_rfl
 have ix3 : ∀ W : World, (Instr.index 109 (.agg #[.int .i64 b, .int .i64 i, .int .i64 ((b : Int) + (i : Int)), .int .i64 f, .int .i64 n, .int .i64 e, .int .i64 z, .int .i64 u]) (.int .i64 3)).run Tryz.prog W = .ok (.int .i64 f) W := fun _ => by kernel_rfl
 have ix4 : ∀ W : World, (Instr.index 109 (.agg #[.int .i64 b, .int .i64 i, .int .i64 ((b : Int) + (i : Int)), .int .i64 f, .int .i64 n, .int .i64 e, .int .i64 z, .int .i64 u]) (.int .i64 4)).run Tryz.prog W = .ok (.int .i64 n) W := fun _ => by kernel_rfl
 have ix5 : ∀ W : World, (Instr.index 109 (.agg #[.int .i64 b, .int .i64 i, .int .i64 ((b : Int) + (i : Int)), .int .i64 f, .int .i64 n, .int .i64 e, .int .i64 z, .int .i64 u]) (.int .i64 5)).run Tryz.prog W = .ok (.int .i64 e) W := fun _ => by kernel_rfl
 have ix6 : ∀ W : World, (Instr.index 109 (.agg #[.int .i64 b, .int .i64 i, .int .i64 ((b : Int) + (i : Int)), .int .i64 f, .int .i64 n, .int .i64 e, .int .i64 z, .int .i64 u]) (.int .i64 6)).run Tryz.prog W = .ok (.int .i64 z) W := fun _ => by kernel_rfl
 have ix7 : ∀ W : World, (Instr.index 109 (.agg #[.int .i64 b, .int .i64 i, .int .i64 ((b : Int) + (i : Int)), .int .i64 f, .int .i64 n, .int .i64 e, .int .i64 z, .int .i64 u]) (.int .i64 7)).run Tryz.prog W = .ok (.int .i64 u) W := fun _ => by kernel_rfl
 have HIX := Lib.hid (show ∀ (j x : Nat) (W : World), nums[j]? = some x → (Instr.index 109 (.agg #[.int .i64 b, .int .i64 i, .int .i64 ((b : Int) + (i : Int)), .int .i64 f, .int .i64 n, .int .i64 e, .int .i64 z, .int .i64 u]) (.int .i64 j)).run Tryz.prog W = .ok (.int .i64 x) W by
   intro j x W hj
   have h8 : j < 8 := by rw [← hx8]; exact (List.getElem?_eq_some_iff.1 hj).1
   rw [← hnums] at hj
   have hj8 : j = 0 ∨ j = 1 ∨ j = 2 ∨ j = 3 ∨ j = 4 ∨ j = 5 ∨ j = 6 ∨ j = 7 := by omega
   rcases hj8 with rfl | rfl | rfl | rfl | rfl | rfl | rfl | rfl
   · cases hj; exact ix0 W
   · cases hj; exact ix1 W
   · cases hj; exact ix2 W
   · cases hj; exact ix3 W
   · cases hj; exact ix4 W
   · cases hj; exact ix5 W
   · cases hj; exact ix6 W
   · cases hj; exact ix7 W)
 clear hnums hx8 hall hu ix0 ix1 ix2 ix3 ix4 ix5 ix6 ix7
 go_enter Tryz.func52, Tryz.ntmps52
 go_upto_if 16 with fail
 go_cut [11] from 15 to 39 (fun v11 wx => v11 = .int .i64 u ∧ Below w.heap.size w wx ∧ wx.heap[w.heap.size]? = some (.cells #[.int .i64 e, .int .i64 z, .bool p] 26 (0, 0)))
 case first =>
   cases p
   · have : u = 0 := by rw [← HU.out]; rfl
     subst this
     go_wp2
     go_meet
     case rel => exact ⟨rfl, B0.out, alloc_at w _⟩
   · have : u = 1 := by rw [← HU.out]; rfl
     subst this
     go_wp2
     go_meet
     case rel => exact ⟨rfl, B0.out, alloc_at w _⟩
 case rest =>
   obtain ⟨rfl, hb1, hc1⟩ := hcut
   have B1 := Lib.hid hb1
   obtain ⟨x0, x1, x2⟩ := cfg_three hc1
   clear hb1 hc1
   go_wp2_with fail
   clear x0 x1 x2
   go_loopw [12, 14, 30] (fun tt nn kk wr => ∃ (j : Nat) (O : ByteArray), j ≤ 8 ∧ kk = .int .i64 j ∧ tt = .string O ∧ O.size ≤ 4 * j ∧ Hid (O.data.toList = foots (nums.take j)) ∧ Hid (Below w.heap.size w wr)) (fun _ _ kk _ => 8 - (intOf kk).toNat)
   case atStart => exact ⟨0, ⟨#[]⟩, by omega, rfl, rfl, by decide, rfl, B1.out⟩
   case round =>
     obtain ⟨j, O, hj, rfl, rfl, hO, HO, HB⟩ := hrel
     by_cases hlt : j < 8
     · have i1 : (j : Int) < 8 := by omega
       obtain ⟨x, hx⟩ : ∃ x, nums[j]? = some x := ⟨_, List.getElem?_eq_getElem (by rw [HX8.out]; exact hlt)⟩
       have hx2 := HAL.out j x hx
       have hix := fun W => HIX.out j x W hx
       have HFN := Lib.hid (foots_next hx)
       obtain ⟨P, hP, hPl⟩ := text_of (fixB x 4)
       have hP4 : P.size = 4 := by rw [hPl, fix_length]
       have HPP := Lib.hid (as_text hP)
       have HP := Lib.hid hP
       have HPF := Lib.hid (show putFix (x : Int) 4 = fixB x 4 by unfold putFix; simp)
       clear hx hP hPl
       go_wp2_with fail
       refine (implPutFix (x : Int) 4 _ (by omega) (by omega)).mono ?_
       rintro r w2 ⟨rfl, b2⟩
       rw [HPF.out, HPP.out]
       have B2 := Lib.hid (HB.out.trans (b2.mono HB.out.size))
       clear b2
       go_wp2
       go_roundw
       case rel => exact ⟨j + 1, O ++ P, by omega, by go_num, rfl, by rw [ByteArray.size_append]; omega, (show _ = _ by rw [HFN.out, ByteArray.data_append, Array.toList_append, HO.out, HP.out]), B2.out⟩
       case measure => simp [intOf]; omega
     · obtain rfl : j = 8 := by omega
       have HF := Lib.hid (show foots (nums.take 8) = footB b i f n ⟨e, z, p⟩ by
         rw [List.take_of_length_le (by rw [HX8.out]; omega), ← HNM.out, ← HU.out]
         unfold foots footB
         simp)
       go_wp2
       go_ret
       refine ⟨?_, HB.out⟩
       have : (O ++ ⟨#[83, 72, 69, 76, 70, 49]⟩).data.toList = footB b i f n ⟨e, z, p⟩ ++ magicB := by
         rw [ByteArray.data_append, Array.toList_append, HO.out, HF.out]
         rfl
       rw [← as_text this]
       rfl
end Go.Proofs.YtkomnnijnggbpaaGreatDoor
