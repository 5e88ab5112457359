/- Contract of the program's cursor: a token taken. -/
import Derived.Test.YtkomnnijnggbpaaZ0
import Derived.Test.YtkomnnijnggbpaaLongCopy
namespace Go.Proofs.Ytkomnnijnggbpaa
open Go.RowKit
set_option linter.unusedVariables false

theorem fix_one (s : ByteArray) (a : Nat) (h : a < s.size) : fixVal ((s.data.toList.drop a).take 1) = s[a].toNat := by
 rw [List.drop_eq_getElem_cons (by simpa using h), List.take_succ_cons, List.take_zero]
 simp [fixVal]
 rfl
theorem getD_byte (s : ByteArray) (a : Nat) (h : a < s.size) : s.data.toList.getD a 0 = s[a] := by rw [List.getD_eq_getElem?_getD, byte_at s a h]; rfl
theorem grown_new {w w1 w2 : World} {p r : Nat} (h : w.grownBy w1 (some p)) (h2 : w1.grownBy w2 (some r)) (hr : w.heap.size ≤ r) : w.grownBy w2 (some p) :=
 ⟨h2.os.trans h.os, h2.tape.trans h.tape, h2.output.trans h.output, Nat.le_trans h.size h2.size, fun k hk hne => (h2.block k (by have := h.size; omega) (by intro e; cases e; omega)).trans (h.block k hk hne)⟩
theorem grown_more {w w1 w2 : World} {p : Nat} (h : w.grownBy w1 (some p)) (h2 : w1.grownBy w2 (some p)) : w.grownBy w2 (some p) :=
 ⟨h2.os.trans h.os, h2.tape.trans h.tape, h2.output.trans h.output, Nat.le_trans h.size h2.size, fun k hk hne => (h2.block k (by have := h.size; omega) hne).trans (h.block k hk hne)⟩
theorem RdAt.keep {w w' : World} {p : Nat} {s : ByteArray} {a : Int} (h : RdAt w p s a) (hb : w'.heap[p]? = w.heap[p]?) : RdAt w' p s a := by unfold RdAt RdT at *; exact hb.trans h
theorem RdAt.alloc {w : World} {p : Nat} {s : ByteArray} {a : Int} (h : RdAt w p s a) (o : Obj) : RdAt (w.alloc o) p s a := h.keep (heap_alloc_old w o h.lt)
theorem out3 {w : World} {r T : Nat} {fz : Nat × Nat} {a b c : Value} (h : w.heap[r]? = some (.cells #[a, b, c] T fz)) (v0 v1 v2 : Value) : (((w.setCell ⟨r, 0, none⟩ v0).setCell ⟨r, 1, none⟩ v1).setCell ⟨r, 2, none⟩ v2).heap[r]? = some (.cells #[v0, v1, v2] T fz) := by
 rw [set_block _ (set_block _ (set_block (w := w) _ h))]
 rfl
theorem set3_grown (w : World) (r : Nat) (v0 v1 v2 : Value) : w.grownBy (((w.setCell ⟨r, 0, none⟩ v0).setCell ⟨r, 1, none⟩ v1).setCell ⟨r, 2, none⟩ v2) (some r) :=
 grown_more (grown_more (grown_set _ _ _ _) (grown_set _ _ _ _)) (grown_set _ _ _ _)

structure TakeAt (w w1 : World) (p : Nat) (s : ByteArray) (a : Nat) : Prop where
 rd : RdAt w1 p s a
 out : w1.heap[w.heap.size]? = some (.cells #[.string ⟨#[]⟩, .int .i64 0, .int .i64 0] 103 (0, 0))
 grow : w.grownBy w1 (some p)
 lt : p < w.heap.size
theorem take_new (w : World) (p : Nat) (s : ByteArray) (a : Nat) (h : RdAt w p s a) : TakeAt w (w.alloc (.cells #[.string ⟨#[]⟩, .int .i64 0, .int .i64 0] 103)) p s a :=
 ⟨h.alloc _, heap_alloc_new _ _, World.grownBy_alloc _ _ _, h.lt⟩
theorem TakeAt.next {w w1 w2 : World} {p : Nat} {s : ByteArray} {a b : Nat} (t : TakeAt w w1 p s a) (hr : RdAt w2 p s b) (hg : w1.grownBy w2 (some p)) : TakeAt w w2 p s b :=
 ⟨hr, (hg.block _ (Array.getElem?_eq_some_iff.1 t.out).1 (by intro e; have := t.lt; cases e; omega)).trans t.out, grown_more t.grow hg, t.lt⟩
theorem TakeAt.drewN {w w1 : World} {p : Nat} {s : ByteArray} {a : Nat} (t : TakeAt w w1 p s a) (n : Nat) : TakeAt w (w1.drewN n) p s a := t.next t.rd (grown_drewN _ _ _)
theorem TakeAt.cells {w w1 : World} {p : Nat} {s : ByteArray} {a : Nat} (t : TakeAt w w1 p s a) : (∃ v, w1.cell? ⟨w.heap.size, 0, none⟩ = some v) ∧ (∃ v, w1.cell? ⟨w.heap.size, 1, none⟩ = some v) ∧ (∃ v, w1.cell? ⟨w.heap.size, 2, none⟩ = some v) ∧ w1.frozen? ⟨w.heap.size, 0, none⟩ = false ∧ w1.frozen? ⟨w.heap.size, 1, none⟩ = false ∧ w1.frozen? ⟨w.heap.size, 2, none⟩ = false := by
 have hb := t.out
 refine ⟨⟨_, by simp [World.cell?, hb]; rfl⟩, ⟨_, by simp [World.cell?, hb]; rfl⟩, ⟨_, by simp [World.cell?, hb]; rfl⟩, ?_, ?_, ?_⟩ <;> simp [World.frozen?, hb]
theorem TakeAt.cells0 {w w1 : World} {p : Nat} {s : ByteArray} {a : Nat} (t : TakeAt w w1 p s a) : w1.cell? ⟨w.heap.size, 0, none⟩ = some (.string ⟨#[]⟩) ∧ w1.cell? ⟨w.heap.size, 1, none⟩ = some (.int .i64 0) ∧ w1.cell? ⟨w.heap.size, 2, none⟩ = some (.int .i64 0) := by
 have hb := t.out
 refine ⟨?_, ?_, ?_⟩ <;> simp [World.cell?, hb]
theorem TakeAt.done {w w1 : World} {p : Nat} {s : ByteArray} {a : Nat} (t : TakeAt w w1 p s a) (v0 v1 v2 : Value) : RdAt (((w1.setCell ⟨w.heap.size, 0, none⟩ v0).setCell ⟨w.heap.size, 1, none⟩ v1).setCell ⟨w.heap.size, 2, none⟩ v2) p s a ∧ w.grownBy (((w1.setCell ⟨w.heap.size, 0, none⟩ v0).setCell ⟨w.heap.size, 1, none⟩ v1).setCell ⟨w.heap.size, 2, none⟩ v2) (some p) := by
 have hg := set3_grown w1 w.heap.size v0 v1 v2
 exact ⟨t.rd.keep (hg.block p t.rd.lt (by intro e; have := t.lt; cases e; omega)), grown_new t.grow hg (Nat.le_refl _)⟩

def TokTaken (w : World) (p : Nat) (s : ByteArray) (r : Option (Tok × Nat)) (e : Ending) (w' : World) : Prop :=
 match r with
 | some (y, b) => e = .returned (.tuple #[.agg #[.string ⟨y.text.toArray⟩, .int .i64 y.len, .int .i64 y.far], .bool true]) ∧ RdAt w' p s b ∧ w.grownBy w' (some p)
 | none => e = .returned (.tuple #[.agg #[.string ⟨#[]⟩, .int .i64 0, .int .i64 0], .bool false]) ∧ w.grownBy w' (some p)

set_option maxHeartbeats 2000000 in
set_option maxRecDepth 100000 in
theorem takeToken (p : Nat) (s : ByteArray) (a : Nat) (w : World) (h : RdAt w p s a) (hs : s.size ≤ 1000000000) (ha : a < s.size) :
   Calls Try.prog 85 #[.pointer (some ⟨p, 0, none⟩)] w (TokTaken w p s (readTok s.data.toList a)) := by
 have hll : s.data.toList.length = s.size := by simp
 have HLL := Lib.hid hll
 have T0 := Lib.hid (take_new w p s a h)
 have HS := Lib.hid (show s.size ≤ maxLen by unfold maxLen; omega)
 clear hll h
 go_enter Try.func85, Try.ntmps85
 go_wp2_with fail
 refine (takeFix_yes p s a 1 _ T0.out.rd HS.out (by omega) (by omega) (by omega)).mono ?_
 rw [fix_one s a ha]
 rintro e w1 ⟨rfl, hr1, hg1⟩
 have T1 := Lib.hid (T0.out.next hr1 hg1)
 clear hr1 hg1 T0
 obtain ⟨_, _, _, f0, f1, f2⟩ := T1.out.cells
 obtain ⟨c0, c1, c2⟩ := T1.out.cells0
 have HG := Lib.hid (getD_byte s a ha)
 obtain ⟨n, hn⟩ : ∃ n, s[a].toNat = n := ⟨_, rfl⟩
 have hn256 : n < 256 := by rw [← hn]; exact s[a].toNat_lt
 have HN := Lib.hid (show (s.data.toList.getD a 0).toNat = n by rw [HG.out]; exact hn)
 rw [hn]
 clear hn
 by_cases hbad : n = 0 ∨ 191 < n
 · have HR := Lib.hid (show readTok s.data.toList a = none by unfold readTok; rw [HN.out, if_pos hbad])
   by_cases h0 : n = 0
   · subst h0
     go_wp2_with fail
     refine bodyPost_ret (v := .tuple #[.agg #[.string ⟨#[]⟩, .int .i64 0, .int .i64 0], .bool false]) (results_cell_bool Try.results85 _ _ w.heap.size _ #[.string ⟨#[]⟩, .int .i64 0, .int .i64 0] _ _ rfl rfl (out3 T1.out.out _ _ _) Try.underlying103 rfl (by rw [sizeTok]; rfl)) rfl ?_
     show TokTaken w p s (readTok s.data.toList a) _ _
     rw [HR.out]
     exact ⟨rfl, (T1.out.done _ _ _).2⟩
   · have d0 : ¬ (n : Int) < 1 := by omega
     have d1 : (191 : Int) < (n : Int) := by omega
     clear hbad
     go_wp2_with fail
     refine bodyPost_ret (v := .tuple #[.agg #[.string ⟨#[]⟩, .int .i64 0, .int .i64 0], .bool false]) (results_cell_bool Try.results85 _ _ w.heap.size _ #[.string ⟨#[]⟩, .int .i64 0, .int .i64 0] _ _ rfl rfl (out3 T1.out.out _ _ _) Try.underlying103 rfl (by rw [sizeTok]; rfl)) rfl ?_
     show TokTaken w p s (readTok s.data.toList a) _ _
     rw [HR.out]
     exact ⟨rfl, (T1.out.done _ _ _).2⟩
 · have d0 : ¬ (n : Int) < 1 := by omega
   have d1 : ¬ (191 : Int) < (n : Int) := by omega
   have d0' : decide ((n : Int) < 1) = false := by simp; omega
   by_cases h127 : n ≤ 127
   · have d2 : (n : Int) ≤ 127 := by omega
     by_cases hfit : a + 1 + n ≤ s.size
     · have HR := Lib.hid (show readTok s.data.toList a = some (⟨(s.data.toList.drop (a + 1)).take n, 0, 0⟩, a + 1 + n) by
         unfold readTok; rw [HN.out, if_neg hbad, if_pos h127, if_pos (by rw [HLL.out]; exact hfit)])
       clear hbad
       go_wp2_with fail
       refine (take_yes p s (a + 1) n _ T1.out.rd HS.out hfit).mono ?_
       rintro e w2 ⟨rfl, hr2, hg2⟩
       have T2 := Lib.hid (T1.out.next hr2 hg2)
       clear hr2 hg2 c0 c1 c2 f0 f1 f2
       obtain ⟨_, _, _, f0, f1, f2⟩ := T2.out.cells
       obtain ⟨c0, c1, c2⟩ := T2.out.cells0
       have HP := Lib.hid (part_list s (a + 1) n)
       generalize s.extract (a + 1) (a + 1 + n) = P at *
       go_wp2_with fail
       refine bodyPost_ret (v := .tuple #[.agg #[.string P, .int .i64 0, .int .i64 0], .bool true]) (results_cell_bool Try.results85 _ _ w.heap.size _ #[.string P, .int .i64 0, .int .i64 0] _ _ rfl rfl (out3 T2.out.out _ _ _) Try.underlying103 rfl (by rw [sizeTok]; rfl)) rfl ?_
       show TokTaken w p s (readTok s.data.toList a) _ _
       rw [HR.out]
       exact ⟨by rw [← HP.out]; rfl, (T2.out.done _ _ _).1, (T2.out.done _ _ _).2⟩
     · have HR := Lib.hid (show readTok s.data.toList a = none by
         unfold readTok; rw [HN.out, if_neg hbad, if_pos h127, if_neg (by rw [HLL.out]; exact hfit)])
       clear hbad
       go_wp2_with fail
       refine (take_no p s (a + 1 : Nat) n _ T1.out.rd HS.out (by omega)).mono ?_
       rintro e w2 ⟨rfl, m, rfl⟩
       have T2 := Lib.hid (T1.out.drewN m)
       clear c0 c1 c2 f0 f1 f2
       obtain ⟨_, _, _, f0, f1, f2⟩ := T2.out.cells
       obtain ⟨c0, c1, c2⟩ := T2.out.cells0
       generalize w1.drewN m = w2 at *
       go_wp2_with fail
       refine bodyPost_ret (v := .tuple #[.agg #[.string ⟨#[]⟩, .int .i64 0, .int .i64 0], .bool false]) (results_cell_bool Try.results85 _ _ w.heap.size _ #[.string ⟨#[]⟩, .int .i64 0, .int .i64 0] _ _ rfl rfl (out3 T2.out.out _ _ _) Try.underlying103 rfl (by rw [sizeTok]; rfl)) rfl ?_
       show TokTaken w p s (readTok s.data.toList a) _ _
       rw [HR.out]
       exact ⟨rfl, (T2.out.done _ _ _).2⟩
   · have d2 : ¬ (n : Int) ≤ 127 := by omega
     by_cases h1 : a + 1 < s.size
     · have HG1 := Lib.hid (getD_byte s (a + 1) h1)
       have HF1 := Lib.hid (fix_one s (a + 1) h1)
       obtain ⟨f, hf⟩ : ∃ f, s[a + 1].toNat = f := ⟨_, rfl⟩
       have hf256 : f < 256 := by rw [← hf]; exact s[a + 1].toNat_lt
       have HF := Lib.hid (show (s.data.toList.getD (a + 1) 0).toNat = f by rw [HG1.out]; exact hf)
       have HF2 := Lib.hid (HF1.out.trans hf)
       clear hf HG1 HF1
       go_wp2_with fail
       refine (takeFix_yes p s (a + 1) 1 _ T1.out.rd HS.out (by omega) (by omega) (by omega)).mono ?_
       rw [HF2.out]
       rintro e w2 ⟨rfl, hr2, hg2⟩
       have T2 := Lib.hid (T1.out.next hr2 hg2)
       clear hr2 hg2 c0 c1 c2 f0 f1 f2
       obtain ⟨_, _, _, f0, f1, f2⟩ := T2.out.cells
       obtain ⟨c0, c1, c2⟩ := T2.out.cells0
       by_cases hf0 : f = 0
       · have HR := Lib.hid (show readTok s.data.toList a = none by
           unfold readTok; rw [HN.out, if_neg hbad, if_neg h127, if_neg (by rw [HF.out]; exact fun h => h.2 hf0)])
         subst hf0
         clear hbad
         go_wp2_with fail
         refine bodyPost_ret (v := .tuple #[.agg #[.string ⟨#[]⟩, .int .i64 0, .int .i64 0], .bool false]) (results_cell_bool Try.results85 _ _ w.heap.size _ #[.string ⟨#[]⟩, .int .i64 0, .int .i64 0] _ _ rfl rfl (out3 T2.out.out _ _ _) Try.underlying103 rfl (by rw [sizeTok]; rfl)) rfl ?_
         show TokTaken w p s (readTok s.data.toList a) _ _
         rw [HR.out]
         exact ⟨rfl, (T2.out.done _ _ _).2⟩
       · have HR := Lib.hid (show readTok s.data.toList a = some (⟨[], n - 124, f⟩, a + 2) by
           unfold readTok; rw [HN.out, if_neg hbad, if_neg h127, if_pos (by rw [HF.out, HLL.out]; exact ⟨h1, hf0⟩), HF.out])
         have d3 : ¬ (f : Int) < 1 := by omega
         have e3 : (n : Int) - 124 = ((n - 124 : Nat) : Int) := by omega
         clear hbad
         go_wp2_with fail
         refine bodyPost_ret (v := .tuple #[.agg #[.string ⟨#[]⟩, .int .i64 (n - 124 : Nat), .int .i64 f], .bool true]) (results_cell_bool Try.results85 _ _ w.heap.size _ #[.string ⟨#[]⟩, .int .i64 (n - 124 : Nat), .int .i64 f] _ _ rfl rfl (out3 T2.out.out _ _ _) Try.underlying103 rfl (by rw [sizeTok]; rfl)) rfl ?_
         show TokTaken w p s (readTok s.data.toList a) _ _
         rw [HR.out]
         exact ⟨rfl, (T2.out.done _ _ _).1, (T2.out.done _ _ _).2⟩
     · have HR := Lib.hid (show readTok s.data.toList a = none by
         unfold readTok; rw [HN.out, if_neg hbad, if_neg h127, if_neg (by rw [HLL.out]; exact fun h => h1 h.1)])
       clear hbad
       go_wp2_with fail
       refine (takeFix_no p s (a + 1 : Nat) 1 _ T1.out.rd HS.out (by omega)).mono ?_
       rintro e w2 ⟨rfl, m, rfl⟩
       have T2 := Lib.hid (T1.out.drewN m)
       clear c0 c1 c2 f0 f1 f2
       obtain ⟨_, _, _, f0, f1, f2⟩ := T2.out.cells
       obtain ⟨c0, c1, c2⟩ := T2.out.cells0
       generalize w1.drewN m = w2 at *
       go_wp2_with fail
       refine bodyPost_ret (v := .tuple #[.agg #[.string ⟨#[]⟩, .int .i64 0, .int .i64 0], .bool false]) (results_cell_bool Try.results85 _ _ w.heap.size _ #[.string ⟨#[]⟩, .int .i64 0, .int .i64 0] _ _ rfl rfl (out3 T2.out.out _ _ _) Try.underlying103 rfl (by rw [sizeTok]; rfl)) rfl ?_
       show TokTaken w p s (readTok s.data.toList a) _ _
       rw [HR.out]
       exact ⟨rfl, (T2.out.done _ _ _).2⟩
end Go.Proofs.Ytkomnnijnggbpaa
