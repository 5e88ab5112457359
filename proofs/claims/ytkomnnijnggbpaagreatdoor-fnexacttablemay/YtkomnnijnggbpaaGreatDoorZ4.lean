/- Contract of the program's cursor: a token taken. -/
import Derived.Test.YtkomnnijnggbpaaGreatDoorZ0
import Derived.Test.YtkomnnijnggbpaaGreatDoorLongCopy
import Derived.Test.YtkomnnijnggbpaaGreatDoorTimes
import Derived.Test.YtkomnnijnggbpaaGreatDoorCellsOkI
import Derived.Test.YtkomnnijnggbpaaGreatDoorZ1
namespace Go.Proofs.YtkomnnijnggbpaaGreatDoor
open Go.RowKit
set_option linter.unusedVariables false

theorem fix_one (s : ByteArray) (a : Nat) (h : a < s.size) : fixVal ((s.data.toList.drop a).take 1) = s[a].toNat := by
 rw [List.drop_eq_getElem_cons (by simpa using h), List.take_succ_cons, List.take_zero]
 simp [fixVal]
 rfl
theorem getD_byte (s : ByteArray) (a : Nat) (h : a < s.size) : s.data.toList.getD a 0 = s[a] := by rw [List.getD_eq_getElem?_getD, byte_at s a h]; rfl
theorem grown_new {w w1 w2 : World} {p r : Nat} (h : w.grownBy w1 (some p)) (h2 : w1.grownBy w2 (some r)) (hr : w.heap.size ≤ r) : w.grownBy w2 (some p) :=
 ⟨h2.os.trans h.os, h2.tape.trans h.tape, h2.output.trans h.output, Nat.le_trans h.size h2.size, fun k hk hne => (h2.block k (by have := h.size; omega) (by intro e; cases e; omega)).trans (h.block k hk hne)⟩
theorem grown_more {w w1 w2 : World} {p : Nat} (h : w.grownBy w1 (some p)) (h2 : w1.grownBy w2 (some p)) : w.grownBy w2 (some p) :=
 ⟨h2.os.trans h.os, h2.tape.trans h.tape, h2.output.trans h.output, Nat.le_trans h.size h2.size, fun k hk hne => (h2.block k (by have := h.size; omega) hne).trans (h.block k hk hne)⟩
theorem RdAt.keep {w w' : World} {p : Nat} {s : ByteArray} {a : Int} (h : RdAt w p s a) (hb : w'.heap[p]? = w.heap[p]?) : RdAt w' p s a := by unfold RdAt RdT at *; exact hb.trans h
theorem RdAt.alloc {w : World} {p : Nat} {s : ByteArray} {a : Int} (h : RdAt w p s a) (o : Obj) : RdAt (w.alloc o) p s a := h.keep (heap_alloc_old w o h.lt)
theorem out3 {w : World} {r T : Nat} {fz : Nat × Nat} {a b c : Value} (h : w.heap[r]? = some (.cells #[a, b, c] T fz)) (v0 v1 v2 : Value) : (((w.setCell ⟨r, 0, none⟩ v0).setCell ⟨r, 1, none⟩ v1).setCell ⟨r, 2, none⟩ v2).heap[r]? = some (.cells #[v0, v1, v2] T fz) := by
 rw [set_block _ (set_block _ (set_block (w := w) _ h))]
 rfl
theorem set3_grown (w : World) (r : Nat) (v0 v1 v2 : Value) : w.grownBy (((w.setCell ⟨r, 0, none⟩ v0).setCell ⟨r, 1, none⟩ v1).setCell ⟨r, 2, none⟩ v2) (some r) :=
 grown_more (grown_more (grown_set _ _ _ _) (grown_set _ _ _ _)) (grown_set _ _ _ _)

structure TakeAt (w w1 : World) (p : Nat) (s : ByteArray) (a : Nat) : Prop where
 rd : RdAt w1 p s a
 out : w1.heap[w.heap.size]? = some (.cells #[.string ⟨#[]⟩, .int .i64 0, .int .i64 0] 158 (0, 0))
 grow : w.grownBy w1 (some p)
 lt : p < w.heap.size
theorem take_new (w : World) (p : Nat) (s : ByteArray) (a : Nat) (h : RdAt w p s a) : TakeAt w (w.alloc (.cells #[.string ⟨#[]⟩, .int .i64 0, .int .i64 0] 158)) p s a :=
 ⟨h.alloc _, heap_alloc_new _ _, World.grownBy_alloc _ _ _, h.lt⟩
theorem TakeAt.next {w w1 w2 : World} {p : Nat} {s : ByteArray} {a b : Nat} (t : TakeAt w w1 p s a) (hr : RdAt w2 p s b) (hg : w1.grownBy w2 (some p)) : TakeAt w w2 p s b :=
 ⟨hr, (hg.block _ (Array.getElem?_eq_some_iff.1 t.out).1 (by intro e; have := t.lt; cases e; omega)).trans t.out, grown_more t.grow hg, t.lt⟩
theorem TakeAt.drewN {w w1 : World} {p : Nat} {s : ByteArray} {a : Nat} (t : TakeAt w w1 p s a) (n : Nat) : TakeAt w (w1.drewN n) p s a := t.next t.rd (grown_drewN _ _ _)
theorem TakeAt.cells {w w1 : World} {p : Nat} {s : ByteArray} {a : Nat} (t : TakeAt w w1 p s a) : (∃ v, w1.cell? ⟨w.heap.size, 0, none⟩ = some v) ∧ (∃ v, w1.cell? ⟨w.heap.size, 1, none⟩ = some v) ∧ (∃ v, w1.cell? ⟨w.heap.size, 2, none⟩ = some v) ∧ w1.frozen? ⟨w.heap.size, 0, none⟩ = false ∧ w1.frozen? ⟨w.heap.size, 1, none⟩ = false ∧ w1.frozen? ⟨w.heap.size, 2, none⟩ = false := by
 have hb := t.out
 refine ⟨⟨_, by simp [World.cell?, hb]; rfl⟩, ⟨_, by simp [World.cell?, hb]; rfl⟩, ⟨_, by simp [World.cell?, hb]; rfl⟩, ?_, ?_, ?_⟩ <;> simp [World.frozen?, hb]
theorem TakeAt.cells0 {w w1 : World} {p : Nat} {s : ByteArray} {a : Nat} (t : TakeAt w w1 p s a) : w1.cell? ⟨w.heap.size, 0, none⟩ = some (.string ⟨#[]⟩) ∧ w1.cell? ⟨w.heap.size, 1, none⟩ = some (.int .i64 0) ∧ w1.cell? ⟨w.heap.size, 2, none⟩ = some (.int .i64 0) := by
 have hb := t.out
 refine ⟨?_, ?_, ?_⟩ <;> simp [World.cell?, hb]
theorem TakeAt.done {w w1 : World} {p : Nat} {s : ByteArray} {a : Nat} (t : TakeAt w w1 p s a) (v0 v1 v2 : Value) : RdAt (((w1.setCell ⟨w.heap.size, 0, none⟩ v0).setCell ⟨w.heap.size, 1, none⟩ v1).setCell ⟨w.heap.size, 2, none⟩ v2) p s a ∧ w.grownBy (((w1.setCell ⟨w.heap.size, 0, none⟩ v0).setCell ⟨w.heap.size, 1, none⟩ v1).setCell ⟨w.heap.size, 2, none⟩ v2) (some p) := by
 have hg := set3_grown w1 w.heap.size v0 v1 v2
 exact ⟨t.rd.keep (hg.block p t.rd.lt (by intro e; have := t.lt; cases e; omega)), grown_new t.grow hg (Nat.le_refl _)⟩

def TokTaken (w : World) (p : Nat) (s : ByteArray) (r : Option (Tok × Nat)) (e : Ending) (w' : World) : Prop :=
 match r with
 | some (y, b) => e = .returned (.tuple #[.agg #[.string ⟨y.text.toArray⟩, .int .i64 y.len, .int .i64 y.far], .bool true]) ∧ RdAt w' p s b ∧ w.grownBy w' (some p)
 | none => e = .returned (.tuple #[.agg #[.string ⟨#[]⟩, .int .i64 0, .int .i64 0], .bool false]) ∧ w.grownBy w' (some p)

set_option maxHeartbeats 2000000 in
set_option maxRecDepth 100000 in
theorem takeToken (p : Nat) (s : ByteArray) (a : Nat) (w : World) (h : RdAt w p s a) (hs : s.size ≤ 1000000000) (ha : a < s.size) :
   Calls Tryz.prog 166 #[.pointer (some ⟨p, 0, none⟩)] w (TokTaken w p s (readTok s.data.toList a)) := by
 have hll : s.data.toList.length = s.size := by simp
 have HLL := Lib.hid hll
 have T0 := Lib.hid (take_new w p s a h)
 have HS := Lib.hid (show s.size ≤ maxLen by unfold maxLen; omega)
 clear hll h
 go_enter Tryz.func166, Tryz.ntmps166
 go_wp2_with fail
 refine (takeFix_yes p s a 1 _ T0.out.rd HS.out (by omega) (by omega) (by omega)).mono ?_
 rw [fix_one s a ha]
 rintro e w1 ⟨rfl, hr1, hg1⟩
 have T1 := Lib.hid (T0.out.next hr1 hg1)
 clear hr1 hg1 T0
 obtain ⟨_, _, _, f0, f1, f2⟩ := T1.out.cells
 obtain ⟨c0, c1, c2⟩ := T1.out.cells0
 have HG := Lib.hid (getD_byte s a ha)
 obtain ⟨n, hn⟩ : ∃ n, s[a].toNat = n := ⟨_, rfl⟩
 have hn256 : n < 256 := by rw [← hn]; exact s[a].toNat_lt
 have HN := Lib.hid (show (s.data.toList.getD a 0).toNat = n by rw [HG.out]; exact hn)
 rw [hn]
 clear hn
 by_cases hbad : n = 0 ∨ 191 < n
 · have HR := Lib.hid (show readTok s.data.toList a = none by unfold readTok; rw [HN.out, if_pos hbad])
   by_cases h0 : n = 0
   · subst h0
     go_wp2_with fail
     refine bodyPost_ret (v := .tuple #[.agg #[.string ⟨#[]⟩, .int .i64 0, .int .i64 0], .bool false]) (results_cell_bool Tryz.results166 _ _ w.heap.size _ #[.string ⟨#[]⟩, .int .i64 0, .int .i64 0] _ _ rfl rfl (out3 T1.out.out _ _ _) Tryz.underlying158 rfl (by rw [sizeTok]; rfl)) rfl ?_
     show TokTaken w p s (readTok s.data.toList a) _ _
     rw [HR.out]
     exact ⟨rfl, (T1.out.done _ _ _).2⟩
   · have d0 : ¬ (n : Int) < 1 := by omega
     have d1 : (191 : Int) < (n : Int) := by omega
     clear hbad
     go_wp2_with fail
     refine bodyPost_ret (v := .tuple #[.agg #[.string ⟨#[]⟩, .int .i64 0, .int .i64 0], .bool false]) (results_cell_bool Tryz.results166 _ _ w.heap.size _ #[.string ⟨#[]⟩, .int .i64 0, .int .i64 0] _ _ rfl rfl (out3 T1.out.out _ _ _) Tryz.underlying158 rfl (by rw [sizeTok]; rfl)) rfl ?_
     show TokTaken w p s (readTok s.data.toList a) _ _
     rw [HR.out]
     exact ⟨rfl, (T1.out.done _ _ _).2⟩
 · have d0 : ¬ (n : Int) < 1 := by omega
   have d1 : ¬ (191 : Int) < (n : Int) := by omega
   have d0' : decide ((n : Int) < 1) = false := by simp; omega
   by_cases h127 : n ≤ 127
   · have d2 : (n : Int) ≤ 127 := by omega
     by_cases hfit : a + 1 + n ≤ s.size
     · have HR := Lib.hid (show readTok s.data.toList a = some (⟨(s.data.toList.drop (a + 1)).take n, 0, 0⟩, a + 1 + n) by
         unfold readTok; rw [HN.out, if_neg hbad, if_pos h127, if_pos (by rw [HLL.out]; exact hfit)])
       clear hbad
       go_wp2_with fail
       refine (take_yes p s (a + 1) n _ T1.out.rd HS.out hfit).mono ?_
       rintro e w2 ⟨rfl, hr2, hg2⟩
       have T2 := Lib.hid (T1.out.next hr2 hg2)
       clear hr2 hg2 c0 c1 c2 f0 f1 f2
       obtain ⟨_, _, _, f0, f1, f2⟩ := T2.out.cells
       obtain ⟨c0, c1, c2⟩ := T2.out.cells0
       have HP := Lib.hid (part_list s (a + 1) n)
       generalize s.extract (a + 1) (a + 1 + n) = P at *
       go_wp2_with fail
       refine bodyPost_ret (v := .tuple #[.agg #[.string P, .int .i64 0, .int .i64 0], .bool true]) (results_cell_bool Tryz.results166 _ _ w.heap.size _ #[.string P, .int .i64 0, .int .i64 0] _ _ rfl rfl (out3 T2.out.out _ _ _) Tryz.underlying158 rfl (by rw [sizeTok]; rfl)) rfl ?_
       show TokTaken w p s (readTok s.data.toList a) _ _
       rw [HR.out]
       exact ⟨by rw [← HP.out]; rfl, (T2.out.done _ _ _).1, (T2.out.done _ _ _).2⟩
     · have HR := Lib.hid (show readTok s.data.toList a = none by
         unfold readTok; rw [HN.out, if_neg hbad, if_pos h127, if_neg (by rw [HLL.out]; exact hfit)])
       clear hbad
       go_wp2_with fail
       refine (take_no p s (a + 1 : Nat) n _ T1.out.rd HS.out (by omega)).mono ?_
       rintro e w2 ⟨rfl, m, rfl⟩
       have T2 := Lib.hid (T1.out.drewN m)
       clear c0 c1 c2 f0 f1 f2
       obtain ⟨_, _, _, f0, f1, f2⟩ := T2.out.cells
       obtain ⟨c0, c1, c2⟩ := T2.out.cells0
       generalize w1.drewN m = w2 at *
       go_wp2_with fail
       refine bodyPost_ret (v := .tuple #[.agg #[.string ⟨#[]⟩, .int .i64 0, .int .i64 0], .bool false]) (results_cell_bool Tryz.results166 _ _ w.heap.size _ #[.string ⟨#[]⟩, .int .i64 0, .int .i64 0] _ _ rfl rfl (out3 T2.out.out _ _ _) Tryz.underlying158 rfl (by rw [sizeTok]; rfl)) rfl ?_
       show TokTaken w p s (readTok s.data.toList a) _ _
       rw [HR.out]
       exact ⟨rfl, (T2.out.done _ _ _).2⟩
   · have d2 : ¬ (n : Int) ≤ 127 := by omega
     by_cases h1 : a + 1 < s.size
     · have HG1 := Lib.hid (getD_byte s (a + 1) h1)
       have HF1 := Lib.hid (fix_one s (a + 1) h1)
       obtain ⟨f, hf⟩ : ∃ f, s[a + 1].toNat = f := ⟨_, rfl⟩
       have hf256 : f < 256 := by rw [← hf]; exact s[a + 1].toNat_lt
       have HF := Lib.hid (show (s.data.toList.getD (a + 1) 0).toNat = f by rw [HG1.out]; exact hf)
       have HF2 := Lib.hid (HF1.out.trans hf)
       clear hf HG1 HF1
       go_wp2_with fail
       refine (takeFix_yes p s (a + 1) 1 _ T1.out.rd HS.out (by omega) (by omega) (by omega)).mono ?_
       rw [HF2.out]
       rintro e w2 ⟨rfl, hr2, hg2⟩
       have T2 := Lib.hid (T1.out.next hr2 hg2)
       clear hr2 hg2 c0 c1 c2 f0 f1 f2
       obtain ⟨_, _, _, f0, f1, f2⟩ := T2.out.cells
       obtain ⟨c0, c1, c2⟩ := T2.out.cells0
       by_cases hf0 : f = 0
       · have HR := Lib.hid (show readTok s.data.toList a = none by
           unfold readTok; rw [HN.out, if_neg hbad, if_neg h127, if_neg (by rw [HF.out]; exact fun h => h.2 hf0)])
         subst hf0
         clear hbad
         go_wp2_with fail
         refine bodyPost_ret (v := .tuple #[.agg #[.string ⟨#[]⟩, .int .i64 0, .int .i64 0], .bool false]) (results_cell_bool Tryz.results166 _ _ w.heap.size _ #[.string ⟨#[]⟩, .int .i64 0, .int .i64 0] _ _ rfl rfl (out3 T2.out.out _ _ _) Tryz.underlying158 rfl (by rw [sizeTok]; rfl)) rfl ?_
         show TokTaken w p s (readTok s.data.toList a) _ _
         rw [HR.out]
         exact ⟨rfl, (T2.out.done _ _ _).2⟩
       · have HR := Lib.hid (show readTok s.data.toList a = some (⟨[], n - 124, f⟩, a + 2) by
           unfold readTok; rw [HN.out, if_neg hbad, if_neg h127, if_pos (by rw [HF.out, HLL.out]; exact ⟨h1, hf0⟩), HF.out])
         have d3 : ¬ (f : Int) < 1 := by omega
         have e3 : (n : Int) - 124 = ((n - 124 : Nat) : Int) := by omega
         clear hbad
         go_wp2_with fail
         refine bodyPost_ret (v := .tuple #[.agg #[.string ⟨#[]⟩, .int .i64 (n - 124 : Nat), .int .i64 f], .bool true]) (results_cell_bool Tryz.results166 _ _ w.heap.size _ #[.string ⟨#[]⟩, .int .i64 (n - 124 : Nat), .int .i64 f] _ _ rfl rfl (out3 T2.out.out _ _ _) Tryz.underlying158 rfl (by rw [sizeTok]; rfl)) rfl ?_
         show TokTaken w p s (readTok s.data.toList a) _ _
         rw [HR.out]
         exact ⟨rfl, (T2.out.done _ _ _).1, (T2.out.done _ _ _).2⟩
     · have HR := Lib.hid (show readTok s.data.toList a = none by
         unfold readTok; rw [HN.out, if_neg hbad, if_neg h127, if_neg (by rw [HLL.out]; exact fun h => h1 h.1)])
       clear hbad
       go_wp2_with fail
       refine (takeFix_no p s (a + 1 : Nat) 1 _ T1.out.rd HS.out (by omega)).mono ?_
       rintro e w2 ⟨rfl, m, rfl⟩
       have T2 := Lib.hid (T1.out.drewN m)
       clear c0 c1 c2 f0 f1 f2
       obtain ⟨_, _, _, f0, f1, f2⟩ := T2.out.cells
       obtain ⟨c0, c1, c2⟩ := T2.out.cells0
       generalize w1.drewN m = w2 at *
       go_wp2_with fail
       refine bodyPost_ret (v := .tuple #[.agg #[.string ⟨#[]⟩, .int .i64 0, .int .i64 0], .bool false]) (results_cell_bool Tryz.results166 _ _ w.heap.size _ #[.string ⟨#[]⟩, .int .i64 0, .int .i64 0] _ _ rfl rfl (out3 T2.out.out _ _ _) Tryz.underlying158 rfl (by rw [sizeTok]; rfl)) rfl ?_
       show TokTaken w p s (readTok s.data.toList a) _ _
       rw [HR.out]
       exact ⟨rfl, (T2.out.done _ _ _).2⟩
end Go.Proofs.YtkomnnijnggbpaaGreatDoor
/- The program's Newest: the first cell of a column that is no newer than asked. -/
namespace Go.Proofs.YtkomnnijnggbpaaGreatDoor
open Go.RowKit Go.Shelf
set_option linter.unusedVariables false
attribute [local go_sem] Oper.semAt_some

theorem three_belowN (w : World) (o o' o'' : Obj) : Below w.heap.size w (((w.alloc o).alloc o').alloc o'') := (two_below0 w o o').alloc (by simp; omega) o''
def NewOut (w : World) (r : Option Cel) (e : Ending) (w' : World) : Prop :=
 (match r with
 | some x => e = .returned (.tuple #[celVal x, .bool true])
 | none => e = .returned (.tuple #[celVal zeroC, .bool false])) ∧ Below w.heap.size w w'
theorem res_cells2 {P : Program} {fn : Func} {p q : Tmp} {ty ty2 : TypeId} {v : Value} (h : fn.results = #[.cell p ty, .cell q ty2]) (tmps : Array Value) (w : World) (g g2 : Nat) (t : TypeId) (cs : Array Value) (fr : Nat × Nat) (d : TypeDesc)
   (hp : tmps.getD p undef = .pointer (some ⟨g, 0, none⟩)) (hq : tmps.getD q undef = .pointer (some ⟨g2, 0, none⟩)) (hg : w.heap[g]? = some (.cells cs t fr)) (hv : (loadVar ty2 ⟨g2, 0, none⟩).run P w = .ok v w)
   (hu : P.underlying ty = some d) (hd : (match d with | .struct _ | .array _ _ => true | _ => false) = true) (hi : (P.info? ty).map (·.size) = some cs.size) :
   (results fn tmps).run P w = .ok (.tuple #[.agg cs, v]) w := by
 have hp' : tmps[p]?.getD undef = .pointer (some ⟨g, 0, none⟩) := by simpa using hp
 have hq' : tmps[q]?.getD undef = .pointer (some ⟨g2, 0, none⟩) := by simpa using hq
 simp [results, h, hp', hq', asAddr, run_loadVar_row w g t ty cs fr d hg hu hd hi, hv]
theorem load_bool {w : World} {g : Nat} {b : Bool} {fr : Nat × Nat} (h : w.heap[g]? = some (.cells #[.bool b] 4 fr)) : (loadVar 4 ⟨g, 0, none⟩).run Tryz.prog w = .ok (.bool b) w := by
 have hc : w.cell? ⟨g, 0, none⟩ = some (.bool b) := by simp [World.cell?, h]
 simp [loadVar, go_sem, hc]

theorem timesOf_at (n : Nat) (a : Option Addr) (m c : Nat) (R C : ByteArray) (w : World) :
   CallsIn Fence.wide n Tryz.prog 77 #[.slice a m c, .agg #[.string R, .string C, .int .i64 0, .bool false, .string ⟨#[]⟩]] w fun e w' => e = .returned (.func (.func 118) #[] #[.pointer (some ⟨w.heap.size, 0, none⟩), .pointer (some ⟨w.heap.size + 1, 0, none⟩)]) ∧
     w' = (w.alloc (.cells #[.slice a m c] 24)).alloc (.cells #[.string R, .string C, .int .i64 0, .bool false, .string ⟨#[]⟩] 41) := by
 refine callsIn_wide.2 ?_
 go_enter Tryz.func77, Tryz.ntmps77
 go_wp2
 go_ret
 exact ⟨rfl, rfl⟩
theorem times_stops (n B Bl Bc : Nat) (a : Option Addr) (m c : Nat) (xs : List Cel) (R C : ByteArray) (hm : m ≤ 1048576) (w : World) (ht : TimesAt w B Bl Bc a m c xs R C) :
   SeqStopsK Fence.wide n Tryz.prog 118 #[.pointer (some ⟨Bl, 0, none⟩), .pointer (some ⟨Bc, 0, none⟩)] (fun x : Cel => #[celVal x]) (fun W W' => KeepTo B W W' ∧ W.heap.size ≤ W'.heap.size)
     (fun ys => ys = xs.filter (ofCol R C)) (fun pre => pre <+: xs.filter (ofCol R C)) (xs.filter (ofCol R C)).length w := fun l J Jx W hW hJ _ hY h0 =>
 times_in n l B Bl Bc a m c xs R C hm _ rfl J Jx hY W.heap.size hJ W (ht.below hW) h0

theorem fits_col (R C : ByteArray) (t : Int) (xs : List Cel) : xs.find? (fits R.data.toList C.data.toList t) = (xs.filter (ofCol R C)).find? (fun x => decide (x.time ≤ t)) := by
 rw [List.find?_filter]
 congr 1
 funext x
 unfold fits ofCol
 rw [Bool.eq_iff_iff]
 simp
theorem find_none_all {xs : List Cel} {t : Int} (h : ∀ x ∈ xs, t < x.time) : xs.find? (fun x => decide (x.time ≤ t)) = none := by
 rw [List.find?_eq_none]
 intro x hx
 have := h x hx
 simp
 omega
theorem find_some_pre {pre all : List Cel} {x : Cel} {t : Int} (hp : pre ++ [x] <+: all) (h : ∀ y ∈ pre, t < y.time) (hx : x.time ≤ t) : all.find? (fun x => decide (x.time ≤ t)) = some x := by
 obtain ⟨r, rfl⟩ := hp
 rw [List.find?_append, List.find?_append, find_none_all h]
 simp [hx]

def Seeking (w0 w : World) (t : Int) (pre : List Cel) (W : World) : Prop := (∀ x ∈ pre, t < x.time) ∧ Below w.heap.size w W
def Found (w0 w : World) (t : Int) (c : Code) (pre : List Cel) (W : World) : Prop :=
 ∃ p x, c = .ret ∧ pre = p ++ [x] ∧ (∀ y ∈ p, t < y.time) ∧ x.time ≤ t ∧ Below w0.heap.size w0 W ∧ W.heap[w0.heap.size + 1]? = some (.cells (celCells x).toArray 41 (0, 0)) ∧ W.heap[w0.heap.size + 2]? = some (.cells #[.bool true] 4 (0, 0))
theorem seeking_own (w0 w : World) (t : Int) : OwnFrom w.heap.size (Seeking w0 w t) := fun _ _ _ _ hs hg hr => ⟨hs.1, hs.2.grown hg hs.2.size (fun k e => (hr k e).1)⟩
theorem found_own (w0 w : World) (t : Int) (hw : w0.heap.size + 3 ≤ w.heap.size) (c : Code) : OwnFrom w.heap.size (Found w0 w t c) := by
 rintro _ X Y row ⟨p, x, h1, h2, h3, h4, h5, h6, h7⟩ hg hr
 have far : ∀ k, k < w.heap.size → some k ≠ row := fun k hk e => by have := (hr k e.symm).1; omega
 exact ⟨p, x, h1, h2, h3, h4, h5.grown hg h5.size (fun k e => by have := (hr k e).1; omega), (hg.block _ (Array.getElem?_eq_some_iff.1 h6).1 (far _ (by omega))).trans h6, (hg.block _ (Array.getElem?_eq_some_iff.1 h7).1 (far _ (by omega))).trans h7⟩

structure Three (w : World) (t : Int) (W : World) : Prop where
 below : Below w.heap.size w W
 one : W.heap[w.heap.size]? = some (.cells #[.int .i64 t] 3 (0, 0))
 two : W.heap[w.heap.size + 1]? = some (.cells #[.string ⟨#[]⟩, .string ⟨#[]⟩, .int .i64 0, .bool false, .string ⟨#[]⟩] 41 (0, 0))
 three : W.heap[w.heap.size + 1 + 1]? = some (.cells #[.bool false] 4 (0, 0))
 size : w.heap.size + 3 ≤ W.heap.size
theorem three_facts (w : World) (t : Int) : Three w t (((w.alloc (.cells #[.int .i64 t] 3)).alloc (.cells #[.string ⟨#[]⟩, .string ⟨#[]⟩, .int .i64 0, .bool false, .string ⟨#[]⟩] 41)).alloc (.cells #[.bool false] 4)) := by
 refine ⟨three_belowN w _ _ _, ?_, alloc_at3 w _ _ _, ?_, by simp⟩
 · rw [alloc_old _ _ (by simp; omega), alloc_old _ _ (by simp), alloc_at]
 · have := alloc_at ((w.alloc (.cells #[.int .i64 t] 3)).alloc (.cells #[.string ⟨#[]⟩, .string ⟨#[]⟩, .int .i64 0, .bool false, .string ⟨#[]⟩] 41)) (.cells #[.bool false] 4)
   simpa using this
theorem Three.later {w : World} {t : Int} {W W' : World} (h : Three w t W) (hb : Below W.heap.size W W') : Three w t W' :=
 ⟨h.below.trans (hb.mono h.below.size), (hb.block _ (by have := h.size; omega)).trans h.one, (hb.block _ (by have := h.size; omega)).trans h.two, (hb.block _ (by have := h.size; omega)).trans h.three, Nat.le_trans h.size hb.size⟩
theorem blk1 {w : World} {g T : Nat} {v : Value} (h : w.heap[g]? = some (.cells #[v] T (0, 0))) : w.cell? ⟨g, 0, none⟩ = some v ∧ w.frozen? ⟨g, 0, none⟩ = false := by
 constructor
 · simp [World.cell?, h]
 · simp [World.frozen?, h]
def laid6 (W : World) (g : Nat) (v0 v1 v2 v3 v4 v5 : Value) : World :=
 (((((W.setCell ⟨g + 1, 0, none⟩ v0).setCell ⟨g + 1, 1, none⟩ v1).setCell ⟨g + 1, 2, none⟩ v2).setCell ⟨g + 1, 3, none⟩ v3).setCell ⟨g + 1, 4, none⟩ v4).setCell ⟨g + 1 + 1, 0, none⟩ v5
theorem laid6_block (W : World) (g : Nat) (v0 v1 v2 v3 v4 v5 : Value) (k : Nat) (h1 : k ≠ g + 1) (h2 : k ≠ g + 1 + 1) : (laid6 W g v0 v1 v2 v3 v4 v5).heap[k]? = W.heap[k]? := by
 unfold laid6
 rw [Below.heap_setCell _ _ _ _ h2, Below.heap_setCell _ _ _ _ h1, Below.heap_setCell _ _ _ _ h1, Below.heap_setCell _ _ _ _ h1, Below.heap_setCell _ _ _ _ h1, Below.heap_setCell _ _ _ _ h1]
theorem laid6_keeps (W : World) (g : Nat) (v0 v1 v2 v3 v4 v5 : Value) : KeepsOthers W (laid6 W g v0 v1 v2 v3 v4 v5) :=
 (((((KeepsOthers.setCell _ _ _).trans (KeepsOthers.setCell _ _ _)).trans (KeepsOthers.setCell _ _ _)).trans (KeepsOthers.setCell _ _ _)).trans (KeepsOthers.setCell _ _ _)).trans (KeepsOthers.setCell _ _ _)
theorem laid6_at {w : World} {t : Int} {W : World} (z : Three w t W) (v0 v1 v2 v3 v4 v5 : Value) :
   Below w.heap.size w (laid6 W w.heap.size v0 v1 v2 v3 v4 v5) ∧ (laid6 W w.heap.size v0 v1 v2 v3 v4 v5).heap[w.heap.size + 1]? = some (.cells #[v0, v1, v2, v3, v4] 41 (0, 0)) ∧ (laid6 W w.heap.size v0 v1 v2 v3 v4 v5).heap[w.heap.size + 1 + 1]? = some (.cells #[v5] 4 (0, 0)) := by
 refine ⟨(set5_below z.below (by omega) v0 v1 v2 v3 v4).setCell (show w.heap.size ≤ w.heap.size + 1 + 1 by omega) v5, ?_, ?_⟩
 · unfold laid6
   rw [Below.heap_setCell _ _ _ _ (show w.heap.size + 1 ≠ w.heap.size + 1 + 1 by omega)]
   exact set5 z.two v0 v1 v2 v3 v4
 · have hne : w.heap.size + 1 + 1 ≠ w.heap.size + 1 := by omega
   unfold laid6
   rw [set_block v5 (w := ((((W.setCell ⟨w.heap.size + 1, 0, none⟩ v0).setCell ⟨w.heap.size + 1, 1, none⟩ v1).setCell ⟨w.heap.size + 1, 2, none⟩ v2).setCell ⟨w.heap.size + 1, 3, none⟩ v3).setCell ⟨w.heap.size + 1, 4, none⟩ v4) (cs := #[.bool false]) (T := 4) (fz := (0, 0)) (by
     rw [Below.heap_setCell _ _ _ _ hne, Below.heap_setCell _ _ _ _ hne, Below.heap_setCell _ _ _ _ hne, Below.heap_setCell _ _ _ _ hne, Below.heap_setCell _ _ _ _ hne]
     exact z.three)]
   rfl
theorem times_new {w : World} {t : Int} {W : World} (z : Three w t W) {a : Option Addr} {m c : Nat} {xs : List Cel} (r : CelRow W a m c xs) (R C : ByteArray) :
   TimesAt ((W.alloc (.cells #[.slice a m c] 24)).alloc (.cells #[.string R, .string C, .int .i64 0, .bool false, .string ⟨#[]⟩] 41)) ((W.alloc (.cells #[.slice a m c] 24)).alloc (.cells #[.string R, .string C, .int .i64 0, .bool false, .string ⟨#[]⟩] 41)).heap.size W.heap.size (W.heap.size + 1) a m c xs R C := by
 refine ⟨?_, (blk5 (alloc_at2 W _ _)).1, r.below (two_below0 W _ _), (by simp; omega), (by simp), fun hne x hx => ?_, Nat.le_refl _⟩
 · exact (blk1 ((alloc_old _ _ (by simp)).trans (alloc_at W _))).1
 · cases xs with
   | nil => exact absurd rfl hne
   | cons y ys =>
     obtain ⟨g, e, h5⟩ := r.2.2 0 y rfl
     rw [e] at hx
     cases hx
     have := h5.lt
     simp
     omega

set_option maxRecDepth 100000 in
set_option maxHeartbeats 4000000 in
theorem implNewest_in (a : Option Addr) (m c : Nat) (xs : List Cel) (R C : ByteArray) (t : Int) (hm : m ≤ 1048576) (hf : Fit xs) (hok : cellsOk xs = true) (w : World) (h : CelRow w a m c xs) :
   CallsIn Fence.wide 5 Tryz.prog 32 #[.slice a m c, .string R, .string C, .int .i64 t] w (NewOut w (newest xs R.data.toList C.data.toList t)) := by
 have HR := Lib.hid h
 have HF := Lib.hid hf
 clear h hf
 have HB := Lib.hid hok
 clear hok
 refine callsIn_of_wp_marks Tryz.func32 rfl trivial ?_ rfl
 simp only [Tryz.ntmps32, List.size_toArray, List.length_cons, List.length_nil, Nat.reduceAdd, Nat.reduceSub, Array.replicate_succ, Array.replicate_zero, List.push_toArray, List.append_toArray, List.nil_append, List.cons_append]
 have Z0 := Lib.hid (three_facts w t)
 gi_wp2_with fail
 obtain ⟨w3, hw3⟩ : ∃ W, ((w.alloc (.cells #[.int .i64 t] 3)).alloc (.cells #[.string ⟨#[]⟩, .string ⟨#[]⟩, .int .i64 0, .bool false, .string ⟨#[]⟩] 41)).alloc (.cells #[.bool false] 4) = W := ⟨_, rfl⟩
 rw [hw3] at Z0 ⊢
 clear hw3
 refine ⟨trivial, ?_⟩
 refine (callsIn_wide.2 (implCellsOk a m c xs hm HF.out _ (HR.out.below Z0.out.below))).mono ?_
 rw [HB.out]
 rintro e w4 ⟨rfl, hb4⟩
 have Z4 := Lib.hid (Z0.out.later hb4)
 have R4 := Lib.hid ((HR.out.below Z0.out.below).below hb4)
 clear hb4 Z0
 obtain ⟨o5, z0, z1, z2, z3, z4⟩ := blk5 Z4.out.two
 obtain ⟨y0, y1⟩ := blk1 Z4.out.three
 unfold One5 at o5
 obtain ⟨b0, b1, b2, b3, b4⟩ := o5
 have HN := Lib.hid (show newest xs R.data.toList C.data.toList t = (xs.filter (ofCol R C)).find? (fun x => decide (x.time ≤ t)) by unfold newest; rw [HB.out, ← fits_col]; rfl)
 gi_wp2_with fail
 refine ⟨trivial, ?_⟩
 refine (timesOf_at _ _ _ _ _ _ _).mono ?_
 rintro e w' ⟨rfl, rfl⟩
 have T5 := Lib.hid (times_new Z4.out R4.out R C)
 have Z5 := Lib.hid (Z4.out.later (two_below0 w4 (.cells #[.slice a m c] 24) (.cells #[.string R, .string C, .int .i64 0, .bool false, .string ⟨#[]⟩] 41)))
 obtain ⟨w5, hw5⟩ : ∃ W, (w4.alloc (.cells #[.slice a m c] 24)).alloc (.cells #[.string R, .string C, .int .i64 0, .bool false, .string ⟨#[]⟩] 41) = W := ⟨_, rfl⟩
 rw [hw5] at T5 Z5 ⊢
 clear hw5 b0 b1 b2 b3 b4 z0 z1 z2 z3 z4 y0 y1
 gi_wp2_with fail
 refine wpIn_rangeFunc_ownH (α := Cel) rfl (by decide) (gf := 118) (lb := #[.pointer (some ⟨w4.heap.size, 0, none⟩), .pointer (some ⟨w4.heap.size + 1, 0, none⟩)]) rfl trivial (enters_of Tryz.func118 (by kernel_rfl) rfl)
   (times_stops 4 w5.heap.size w4.heap.size (w4.heap.size + 1) a m c xs R C hm w5 T5.out) (fun h k => ⟨h.1.trans k.1, Nat.le_trans h.2 k.2⟩) (fun W l o o' hl _ _ _ => ⟨keepTo_put W l o o' hl, by simp⟩) (Below.refl _ _) (fun _ => rfl)
   (Seeking w w5 t) (Found w w5 t) (seeking_own w w5 t) (found_own w w5 t Z5.out.size) ⟨(by simp), Below.refl _ _⟩
   (fun x a' W => ∃ A, a' = { tmps := #[.slice a m c, .string R, .string C, .int .i64 t, undef, undef, undef, .pointer (some ⟨w.heap.size, 0, none⟩), .pointer (some ⟨w.heap.size + 1, 0, none⟩), .pointer (some ⟨w.heap.size + 1 + 1, 0, none⟩), .pointer (some ⟨A, 0, none⟩), .slice a m c, .bool true, .bool false, undef, .slice a m c, .string R, .string C, .agg #[.string R, .string C, .int .i64 0, .bool false, .string ⟨#[]⟩], .func (.func 118) #[] #[.pointer (some ⟨w4.heap.size, 0, none⟩), .pointer (some ⟨w4.heap.size + 1, 0, none⟩)], celVal x, undef, undef, undef, undef, undef, undef], defers := [] } ∧ W.heap[A]? = some (.cells (celCells x).toArray 41 (0, 0)))
   (fun x a' s W W' row hs hg hr => ?ax) ?assign ?body ?done ?stop
 case ax =>
   obtain ⟨A, h1, h2⟩ := hs
   refine ⟨A, h1, (hg.block A (Array.getElem?_eq_some_iff.1 h2).1 (fun e => ?_)).trans h2⟩
   obtain ⟨_, o, ho, hc⟩ := hr A e.symm
   rw [h2] at ho
   cases ho
   cases hc
 case assign =>
   rintro l pre ⟨R1, C1, T1, G1, V1⟩ W K hi hK
   unfold celVal
   gi_wp2
   refine hK _ _ ?_ ?_ ?_ ⟨W.heap.size, rfl, alloc_at W _⟩
   · exact (KeepsOthers.alloc W _).from _
   · exact ⟨fun k hk => alloc_old _ _ (by have := hi.2.size; omega), by simp⟩
   · exact ⟨hi.1, hi.2.alloc hi.2.size _⟩
 case body =>
   rintro l pre ⟨R1, C1, T1, G1, V1⟩ a' W hl hr hi ⟨A, rfl, hA⟩ hlt
   have hA' : W.heap[A]? = some (.cells #[.string R1, .string C1, .int .i64 T1, .bool G1, .string V1] 41 (0, 0)) := hA
   obtain ⟨x5, _⟩ := blk5 hA'
   unfold One5 at x5
   obtain ⟨a0, a1, a2, a3, a4⟩ := x5
   have ZW := Lib.hid (Z5.out.later hi.2)
   obtain ⟨t0, _⟩ := blk1 ZW.out.one
   obtain ⟨o5, z0, z1, z2, z3, z4⟩ := blk5 ZW.out.two
   obtain ⟨y0, y1⟩ := blk1 ZW.out.three
   unfold One5 at o5
   obtain ⟨b0, b1, b2, b3, b4⟩ := o5
   have HI := Lib.hid hi
   have HAA := Lib.hid hA'
   have H5 := Lib.hid (show w.heap.size + 3 ≤ w5.heap.size from Z5.out.size)
   clear hi hA hA' hr
   unfold celVal
   by_cases hle : T1 ≤ t
   · gi_wp2
     refine ⟨?_, pre, ⟨R1, C1, T1, G1, V1⟩, rfl, rfl, HI.out.1, hle, ?_, ?_, ?_⟩
     · exact (laid6_keeps W w.heap.size _ _ _ _ _ _).from _
     · exact (laid6_at ZW.out _ _ _ _ _ _).1
     · exact (laid6_at ZW.out _ _ _ _ _ _).2.1
     · exact (laid6_at ZW.out _ _ _ _ _ _).2.2
   · have hle2 : ¬ T1 ≤ t := hle
     gi_wp2
     exact ⟨KeepsFrom.refl _ _, ⟨fun _ _ => rfl, Nat.le_refl _⟩, fun x hx => by
       rcases List.mem_append.1 hx with h | h
       · exact HI.out.1 x h
       · rw [List.mem_singleton.1 h]; show t < T1; omega, HI.out.2⟩
 case done =>
   rintro D ys W hD rfl hi hK
   have ZW := Lib.hid (Z5.out.later hi.2)
   obtain ⟨o5, z0, z1, z2, z3, z4⟩ := blk5 ZW.out.two
   obtain ⟨y0, y1⟩ := blk1 ZW.out.three
   unfold One5 at o5
   obtain ⟨b0, b1, b2, b3, b4⟩ := o5
   have H5 := Lib.hid (show w.heap.size + 3 ≤ w5.heap.size from Z5.out.size)
   have HNN := Lib.hid (show newest xs R.data.toList C.data.toList t = none by rw [HN.out]; exact find_none_all hi.1)
   have HK := Lib.hid hK
   have L6 := Lib.hid (laid6_at ZW.out (.string ⟨#[]⟩) (.string ⟨#[]⟩) (.int .i64 0) (.bool false) (.string ⟨#[]⟩) (.bool false))
   clear hi hK
   gi_wp2
   have hD6 : (laid6 W w.heap.size (.string ⟨#[]⟩) (.string ⟨#[]⟩) (.int .i64 0) (.bool false) (.string ⟨#[]⟩) (.bool false)).heap[D]? = some (.deferred (some [])) := by
     rw [laid6_block _ _ _ _ _ _ _ _ _ (by have := H5.out; omega) (by have := H5.out; omega)]
     exact HK.out
   refine ⟨by simp, .inl ⟨_, _, rfl, run_takeDeferred hD6, ?_⟩⟩
   have q1 : ((laid6 W w.heap.size (.string ⟨#[]⟩) (.string ⟨#[]⟩) (.int .i64 0) (.bool false) (.string ⟨#[]⟩) (.bool false)).putObj D (.deferred none)).heap[w.heap.size + 1]? = some (.cells #[.string ⟨#[]⟩, .string ⟨#[]⟩, .int .i64 0, .bool false, .string ⟨#[]⟩] 41 (0, 0)) := (World.putObj_heap_other (by have := H5.out; omega)).trans L6.out.2.1
   have q2 : ((laid6 W w.heap.size (.string ⟨#[]⟩) (.string ⟨#[]⟩) (.int .i64 0) (.bool false) (.string ⟨#[]⟩) (.bool false)).putObj D (.deferred none)).heap[w.heap.size + 1 + 1]? = some (.cells #[.bool false] 4 (0, 0)) := (World.putObj_heap_other (by have := H5.out; omega)).trans L6.out.2.2
   refine ⟨.tuple #[.agg #[.string ⟨#[]⟩, .string ⟨#[]⟩, .int .i64 0, .bool false, .string ⟨#[]⟩], .bool false], res_cells2 Tryz.results32 _ _ (w.heap.size + 1) (w.heap.size + 1 + 1) _ _ _ _ rfl rfl q1 (load_bool q2) Tryz.underlying41 rfl (by rw [sizeCel]; rfl), ?_⟩
   rw [HNN.out]
   exact ⟨rfl, L6.out.1.trans (belowK_b (w := w) (Nat.le_refl _) _ D _ _ (by have := H5.out; omega) hD6 rfl rfl)⟩
 case stop =>
   rintro D c pre W hD hp ⟨p, x, rfl, rfl, h3, h4, h5, h6, h7⟩ hK
   have H5 := Lib.hid (show w.heap.size + 3 ≤ w5.heap.size from Z5.out.size)
   have HNN := Lib.hid (show newest xs R.data.toList C.data.toList t = some x by rw [HN.out]; exact find_some_pre hp h3 h4)
   gi_wp2
   refine ⟨by simp, .inl ⟨_, _, rfl, run_takeDeferred hK, ?_⟩⟩
   have q1 : (W.putObj D (.deferred none)).heap[w.heap.size + 1]? = some (.cells (celCells x).toArray 41 (0, 0)) := (World.putObj_heap_other (by have := H5.out; omega)).trans h6
   have q2 : (W.putObj D (.deferred none)).heap[w.heap.size + 1 + 1]? = some (.cells #[.bool true] 4 (0, 0)) := (World.putObj_heap_other (by have := H5.out; omega)).trans h7
   refine ⟨.tuple #[.agg (celCells x).toArray, .bool true], res_cells2 Tryz.results32 _ _ (w.heap.size + 1) (w.heap.size + 1 + 1) _ _ _ _ rfl rfl q1 (load_bool q2) Tryz.underlying41 rfl (by rw [sizeCel]; rfl), ?_⟩
   rw [HNN.out]
   exact ⟨rfl, h5.trans (belowK_b (w := w) (Nat.le_refl _) _ D _ _ (by have := H5.out; omega) hK rfl rfl)⟩

set_option maxRecDepth 100000 in
set_option maxHeartbeats 1000000 in
theorem implNewest (a : Option Addr) (m c : Nat) (xs : List Cel) (R C : ByteArray) (t : Int) (hm : m ≤ 1048576) (hf : Fit xs) (w : World) (h : CelRow w a m c xs) :
   Calls Tryz.prog 32 #[.slice a m c, .string R, .string C, .int .i64 t] w (NewOut w (newest xs R.data.toList C.data.toList t)) := by
 cases hok : cellsOk xs
 · have HN := Lib.hid (show newest xs R.data.toList C.data.toList t = none by unfold newest; rw [hok]; rfl)
   have HB := Lib.hid hok
   have HR := Lib.hid h
   clear hok h
   have Z0 := Lib.hid (three_facts w t)
   go_enter Tryz.func32, Tryz.ntmps32
   go_wp2_with fail
   obtain ⟨w3, hw3⟩ : ∃ W, ((w.alloc (.cells #[.int .i64 t] 3)).alloc (.cells #[.string ⟨#[]⟩, .string ⟨#[]⟩, .int .i64 0, .bool false, .string ⟨#[]⟩] 41)).alloc (.cells #[.bool false] 4) = W := ⟨_, rfl⟩
   rw [hw3] at Z0 ⊢
   clear hw3
   refine (implCellsOk a m c xs hm hf _ (HR.out.below Z0.out.below)).mono ?_
   rw [HB.out]
   rintro e w4 ⟨rfl, hb4⟩
   have Z4 := Lib.hid (Z0.out.later hb4)
   clear hb4 Z0
   obtain ⟨o5, z0, z1, z2, z3, z4⟩ := blk5 Z4.out.two
   obtain ⟨y0, y1⟩ := blk1 Z4.out.three
   unfold One5 at o5
   obtain ⟨b0, b1, b2, b3, b4⟩ := o5
   have L6 := Lib.hid (laid6_at Z4.out (.string ⟨#[]⟩) (.string ⟨#[]⟩) (.int .i64 0) (.bool false) (.string ⟨#[]⟩) (.bool false))
   go_wp2_with fail
   refine bodyPost_ret (v := .tuple #[.agg #[.string ⟨#[]⟩, .string ⟨#[]⟩, .int .i64 0, .bool false, .string ⟨#[]⟩], .bool false]) (res_cells2 Tryz.results32 _ _ (w.heap.size + 1) (w.heap.size + 1 + 1) _ _ _ _ rfl rfl L6.out.2.1 (load_bool L6.out.2.2) Tryz.underlying41 rfl (by rw [sizeCel]; rfl)) rfl ?_
   rw [HN.out]
   exact ⟨rfl, L6.out.1⟩
 · exact callsIn_wide.1 (implNewest_in a m c xs R C t hm hf hok w h)
end Go.Proofs.YtkomnnijnggbpaaGreatDoor
