/- The program's GetTable: what is read is put so, and only so; what isn't is told by the first reason. -/
import Derived.Test.YtkomnnijnggbpaaGreatDoorBlocksI
import Derived.Test.YtkomnnijnggbpaaGreatDoorZ9
import Derived.Test.YtkomnnijnggbpaaGreatDoorTabPutI
namespace Go.Proofs.YtkomnnijnggbpaaGreatDoor
open Go.RowKit
set_option linter.unusedVariables false

def TableRead (w : World) (l : List UInt8) (e : Ending) (w' : World) : Prop :=
 Below w.heap.size w w' ∧ ((∃ v xs c, e = .returned (.tuple #[v, confV c, .nilIface]) ∧ Tab l xs c 0 ∧ OwnC w.heap.size w' v xs) ∨
   (∃ name k, e = .returned (.tuple #[.slice none 0 0, confV zeroConf, badV name k]) ∧ Tab l [] zeroConf k))
theorem res_thr2 {P : Program} {fn : Func} {p q r : Tmp} {ty : TypeId} {v1 v3 : Value} (h : fn.results = #[.tmp p, .cell q ty, .tmp r]) (tmps : Array Value) (w : World) (g : Nat) (t : TypeId) (cs : Array Value) (fr : Nat × Nat) (d : TypeDesc)
   (hp : tmps.getD p undef = v1) (hr : tmps.getD r undef = v3) (hq : tmps.getD q undef = .pointer (some ⟨g, 0, none⟩)) (hg : w.heap[g]? = some (.cells cs t fr))
   (hu : P.underlying ty = some d) (hd : (match d with | .struct _ | .array _ _ => true | _ => false) = true) (hi : (P.info? ty).map (·.size) = some cs.size) :
   (results fn tmps).run P w = .ok (.tuple #[v1, .agg cs, v3]) w := res_three h tmps w g t cs fr d hp hr hq hg hu hd hi
theorem foot_get {l : List UInt8} (h : 38 ≤ l.length) (i : Nat) (hi : i < 8) (a : Int) (ha : a = (l.length : Int) - 38 + 4 * i) : getFix l a 4 = ((footNum l i : Nat) : Int) := by
 have h1 := getFix_yes (l := l) (a := l.length - 38 + 4 * i) (b := 4) (by omega) (by omega) (by omega)
 rw [show ((l.length - 38 + 4 * i : Nat) : Int) = a by omega] at h1
 exact h1
theorem footNum_lt (l : List UInt8) (i : Nat) : footNum l i < 4294967296 := by
 have h1 := fixVal_lt ((l.drop (l.length - 38 + 4 * i)).take 4)
 have h2 : ((l.drop (l.length - 38 + 4 * i)).take 4).length ≤ 4 := List.length_take_le _ _
 exact Nat.lt_of_lt_of_le h1 (Nat.pow_le_pow_right (by omega) (by omega : 8 * _ ≤ 32))
set_option maxHeartbeats 4000000 in
set_option maxRecDepth 100000 in
theorem readTable_at (s : ByteArray) (hs : s.size ≤ 1048576) (w : World) : Calls Tryz.prog 62 #[.string s] w (TableRead w s.data.toList) := by
 have HLL := Lib.hid (show s.data.toList.length = s.size by simp)
 have C0 := Lib.hid ((alloc_old (w.alloc (.cells #[.int .i64 0, .int .i64 0, .bool false] 26)) (.cells #[.string s, .int .i64 0] 115) (by simp)).trans (alloc_at w (.cells #[.int .i64 0, .int .i64 0, .bool false] 26)))
 have R0 := Lib.hid (show RdT 115 ((w.alloc (.cells #[.int .i64 0, .int .i64 0, .bool false] 26)).alloc (.cells #[.string s, .int .i64 0] 115)) (w.heap.size + 1) s 0 from alloc_at2 w _ _)
 have B0 := Lib.hid (two_below0 w (.cells #[.int .i64 0, .int .i64 0, .bool false] 26) (.cells #[.string s, .int .i64 0] 115))
 go_enter Tryz.func62, Tryz.ntmps62
 go_wp2_with fail
 obtain ⟨w0, hw0⟩ : ∃ W, (w.alloc (.cells #[.int .i64 0, .int .i64 0, .bool false] 26)).alloc (.cells #[.string s, .int .i64 0] 115) = W := ⟨_, rfl⟩
 rw [hw0] at C0 R0 B0 ⊢
 clear hw0
 refine (readFoot_at (w.heap.size + 1) s 0 _ R0.out hs).mono ?_
 rintro e w1 ⟨g1, (⟨hne, name, rfl⟩ | ⟨hen, rfl, kk, r1⟩)⟩
 · have B1 := Lib.hid (B0.out.grown g1 B0.out.size (fun k e => by cases e; omega))
   have C1 := Lib.hid ((g1.block w.heap.size (Array.getElem?_eq_some_iff.1 C0.out).1 (fun e => by have := Option.some.inj e; omega)).trans C0.out)
   have HT := Lib.hid (tab_foot hne)
   clear g1 hne
   have C2 := Lib.hid ((alloc_old w1 (.cells #[.int .i64 0, .int .i64 0, .int .i64 0, .int .i64 0, .bool false] 117) (Array.getElem?_eq_some_iff.1 C1.out).1).trans C1.out)
   have B2 := Lib.hid (B1.out.alloc B1.out.size (.cells #[.int .i64 0, .int .i64 0, .int .i64 0, .int .i64 0, .bool false] 117))
   obtain ⟨x0, x1, x2, y0, y1, y2⟩ := blk_three C2.out
   unfold badV footV
   go_wp2
   refine bodyPost_ret (res_thr2 Tryz.results62 _ _ w.heap.size _ _ _ _ rfl rfl rfl (set_three C2.out _ _ _) Tryz.underlying26 rfl (by rw [sizeConf]; rfl)) rfl ?_
   exact ⟨((B2.out.setCell (Nat.le_refl _) _).setCell (Nat.le_refl _) _).setCell (Nat.le_refl _) _, .inr ⟨_, _, rfl, HT.out⟩⟩
 · have B1 := Lib.hid (B0.out.grown g1 B0.out.size (fun k e => by cases e; omega))
   have C1 := Lib.hid ((g1.block w.heap.size (Array.getElem?_eq_some_iff.1 C0.out).1 (fun e => by have := Option.some.inj e; omega)).trans C0.out)
   have h38 : 38 ≤ s.data.toList.length := hen.1
   have HEN := Lib.hid hen
   have f0 := foot_get h38 0 (by omega) ((s.data.toList.length : Int) - 38) (by omega)
   have f1 := foot_get h38 1 (by omega) ((s.data.toList.length : Int) - 38 + 4) (by omega)
   have f5 := foot_get h38 5 (by omega) ((s.data.toList.length : Int) - 38 + 20) (by omega)
   have f6 := foot_get h38 6 (by omega) ((s.data.toList.length : Int) - 38 + 24) (by omega)
   have f7 := foot_get h38 7 (by omega) ((s.data.toList.length : Int) - 38 + 28) (by omega)
   have l0 := footNum_lt s.data.toList 0
   have l1 := footNum_lt s.data.toList 1
   have l5 := footNum_lt s.data.toList 5
   have l6 := footNum_lt s.data.toList 6
   generalize footNum s.data.toList 0 = fr at *
   generalize footNum s.data.toList 1 = le at *
   generalize footNum s.data.toList 5 = ev at *
   generalize footNum s.data.toList 6 = sz at *
   generalize footNum s.data.toList 7 = fl at *
   obtain ⟨pk, hpk⟩ : ∃ b, decide (fl = 1) = b := ⟨_, rfl⟩
   rw [hpk]
   have HCR := Lib.hid (show ∀ ys d, tabOk ys d → tableB ys d = s.data.toList → (⟨(ev : Int), (sz : Int), pk⟩ : Conf) = d from fun ys d hT hh => by
     have h1 := conf_reads ys d hT hh
     rw [f5, f6, f7] at h1
     rw [← h1, ← hpk]
     have : decide (fl = 1) = decide ((fl : Int) = 1) := by rw [Bool.eq_iff_iff]; simp; omega
     rw [this])
   have HI := Lib.hid (show ∀ ys d, tabOk ys d → tableB ys d = s.data.toList → fr + le ≤ s.size ∧ unwrapB ((s.data.toList.drop fr).take le) = (idxTo ys d (nBlk ys d), 0) ∧ (ev : Int) = d.every from fun ys d hT hh => by
     have h1 := reads_index (I := []) f0 f1 ys d hT hh
     rw [HLL.out] at h1
     exact ⟨h1.1, h1.2, by rw [← HCR.out ys d hT hh]⟩)
   have R1 := Lib.hid r1
   clear g1 hen r1 f0 f1 f5 f6 f7 hpk h38
   have R2 := Lib.hid (show RdT 115 (w1.alloc (.cells #[.int .i64 fr, .int .i64 le, .int .i64 ev, .int .i64 sz, .bool pk] 117)) (w.heap.size + 1) s kk from (alloc_old w1 _ R1.out.lt).trans R1.out)
   have C2 := Lib.hid ((alloc_old w1 (.cells #[.int .i64 fr, .int .i64 le, .int .i64 ev, .int .i64 sz, .bool pk] 117) (Array.getElem?_eq_some_iff.1 C1.out).1).trans C1.out)
   have B2 := Lib.hid (B1.out.alloc B1.out.size (.cells #[.int .i64 fr, .int .i64 le, .int .i64 ev, .int .i64 sz, .bool pk] 117))
   have F2 := Lib.hid (alloc_at w1 (.cells #[.int .i64 fr, .int .i64 le, .int .i64 ev, .int .i64 sz, .bool pk] 117))
   have hfb : w.heap.size + 1 < w1.heap.size := R1.out.lt
   unfold footV
   go_wp2_with fail
   obtain ⟨fb, hfbe⟩ : ∃ g, w1.heap.size = g := ⟨_, rfl⟩
   obtain ⟨w2, hw2⟩ : ∃ W, w1.alloc (.cells #[.int .i64 fr, .int .i64 le, .int .i64 ev, .int .i64 sz, .bool pk] 117) = W := ⟨_, rfl⟩
   rw [hw2, hfbe] at F2
   rw [hw2] at R2 C2 B2 ⊢
   rw [hfbe] at hfb ⊢
   clear hw2 hfbe
   refine (readBlocks_at (w.heap.size + 1) s kk fr le ev sz pk _ R2.out hs l0 l1 HI.out).mono ?_
   rintro e w3 ⟨g3, (⟨v, xs, rfl, o3, hok3, hl3, hend⟩ | ⟨hno, name, rfl⟩)⟩
   · have B3 := Lib.hid (B2.out.grown g3 B2.out.size (fun k e => by cases e; omega))
     have C3 := Lib.hid ((g3.block w.heap.size (Array.getElem?_eq_some_iff.1 C2.out).1 (fun e => by have := Option.some.inj e; omega)).trans C2.out)
     have F3 := Lib.hid ((g3.block fb (Array.getElem?_eq_some_iff.1 F2.out).1 (fun e => by cases e; omega)).trans F2.out)
     have O3 := Lib.hid (own_base (B' := w.heap.size) o3 (by have := B2.out.size; exact this))
     obtain ⟨ad, cp, hv, _, hlc⟩ := own_parts O3.out
     subst hv
     have HFT := Lib.hid (show Fit xs from fun y hy => by have := ok_small (hok3 y hy); unfold maxLen; omega)
     have HEND := Lib.hid (show ∀ ys d, tabOk ys d → tableB ys d = s.data.toList → xs = ys ∧ (⟨(ev : Int), (sz : Int), pk⟩ : Conf) = d from fun ys d hT hh => ⟨hend ys d hT hh, HCR.out ys d hT hh⟩)
     obtain ⟨o5, _, _, _, _, _⟩ := blk5 F3.out
     unfold One5 at o5
     obtain ⟨b0, b1, b2, b3, b4⟩ := o5
     clear g3 o3 hok3 hend
     go_wp2_with fail
     refine (implPutTable ad xs.length cp xs ev sz pk (by omega) HFT.out _ O3.out.row.o).mono ?_
     intro e w4 h4
     obtain ⟨PT, hP, hPz, rfl, b4'⟩ := h4.text
     have B4 := Lib.hid (B3.out.trans (b4'.mono B3.out.size))
     have C4 := Lib.hid ((b4'.block w.heap.size (Array.getElem?_eq_some_iff.1 C3.out).1).trans C3.out)
     have F4 := Lib.hid ((b4'.block fb (Array.getElem?_eq_some_iff.1 F3.out).1).trans F3.out)
     have O4 := Lib.hid (O3.out.below b4')
     have HP := Lib.hid hP
     clear h4 hPz b4' b0 b1 b2 b3 b4
     by_cases hsame : PT.data.toList = s.data.toList
     · have e3 : (PT.toList == s.toList) = true := by rw [ByteArray.toList_eq, ByteArray.toList_eq, hsame]; simp
       have HT := Lib.hid (show Tab s.data.toList xs ⟨ev, sz, pk⟩ 0 from tab_is (fun h => by have := HEN.out.1; rw [h] at this; simp at this) (by rw [← HP.out, hsame]))
       obtain ⟨x0, x1, x2, y0, y1, y2⟩ := blk_three C4.out
       obtain ⟨o5, _, _, _, _, _⟩ := blk5 F4.out
       unfold One5 at o5
       obtain ⟨b0, b1, b2, b3, b4⟩ := o5
       clear hsame
       go_wp2_with fail
       go_region
       go_wp2
       refine bodyPost_ret (res_thr2 Tryz.results62 _ _ w.heap.size _ _ _ _ rfl rfl rfl (show (World.drew _).heap[w.heap.size]? = _ from set_three C4.out _ _ _) Tryz.underlying26 rfl (by rw [sizeConf]; rfl)) rfl ?_
       refine ⟨(((B4.out.setCell (Nat.le_refl _) _).setCell (Nat.le_refl _) _).setCell (Nat.le_refl _) _).trans (below_draws 1), .inl ⟨_, xs, ⟨ev, sz, pk⟩, rfl, HT.out, ?_⟩⟩
       exact (own_three O4.out C4.out (by decide) _ _ _).below (below_draws 1)
     · have e3 : (PT.toList == s.toList) = false := by rw [ByteArray.toList_eq, ByteArray.toList_eq]; simpa using hsame
       have HT := Lib.hid (show Tab s.data.toList [] zeroConf 2 from tab_isnt HEN.out (by rw [← HP.out]; exact hsame) HEND.out)
       obtain ⟨x0, x1, x2, y0, y1, y2⟩ := blk_three C4.out
       clear hsame
       go_wp2
       refine bodyPost_ret (res_thr2 Tryz.results62 _ _ w.heap.size _ _ _ _ rfl rfl rfl (set_three C4.out _ _ _) Tryz.underlying26 rfl (by rw [sizeConf]; rfl)) rfl ?_
       exact ⟨((B4.out.setCell (Nat.le_refl _) _).setCell (Nat.le_refl _) _).setCell (Nat.le_refl _) _, .inr ⟨_, _, rfl, HT.out⟩⟩
   · have B3 := Lib.hid (B2.out.grown g3 B2.out.size (fun k e => by cases e; omega))
     have C3 := Lib.hid ((g3.block w.heap.size (Array.getElem?_eq_some_iff.1 C2.out).1 (fun e => by have := Option.some.inj e; omega)).trans C2.out)
     have HT := Lib.hid (tab_form HEN.out hno)
     obtain ⟨x0, x1, x2, y0, y1, y2⟩ := blk_three C3.out
     clear g3 hno
     unfold badV
     go_wp2
     refine bodyPost_ret (res_thr2 Tryz.results62 _ _ w.heap.size _ _ _ _ rfl rfl rfl (set_three C3.out _ _ _) Tryz.underlying26 rfl (by rw [sizeConf]; rfl)) rfl ?_
     exact ⟨((B3.out.setCell (Nat.le_refl _) _).setCell (Nat.le_refl _) _).setCell (Nat.le_refl _) _, .inr ⟨_, _, rfl, HT.out⟩⟩
theorem confV_is (c : Conf) : confV c = .agg #[.int .i64 c.every, .int .i64 c.size, .bool c.pack] := rfl
set_option maxHeartbeats 4000000 in
set_option maxRecDepth 100000 in
theorem implGetTable (s : ByteArray) (hs : s.size ≤ 1048576) (w : World) (hL : ErrLaid w) : Calls Tryz.prog 19 #[.string s] w (TabOut w s.data.toList) := by
 have C0 := Lib.hid (alloc_at w (.cells #[.int .i64 0, .int .i64 0, .bool false] 26))
 have B0 := Lib.hid (one_below w (.cells #[.int .i64 0, .int .i64 0, .bool false] 26))
 have HL := Lib.hid hL
 have hl0 := hL.lt
 clear hL
 go_enter Tryz.func19, Tryz.ntmps19
 go_wp2_with fail
 refine (readTable_at s hs _).mono ?_
 rintro e w1 ⟨b1, (⟨v, xs, c, rfl, hT, o1⟩ | ⟨name, k, rfl, hT⟩)⟩
 · obtain ⟨ev, sz, pk⟩ := c
   have B1 := Lib.hid (B0.out.trans (b1.mono B0.out.size))
   have C1 := Lib.hid ((b1.block w.heap.size (by simp)).trans C0.out)
   have O1 := Lib.hid (own_base (B' := w.heap.size) o1 (by simp))
   have HT := Lib.hid hT
   obtain ⟨ad, cp, hv, _, hlc⟩ := own_parts O1.out
   subst hv
   clear b1 o1 hT
   have C2 := Lib.hid ((alloc_old (w1.alloc (.cells #[.int .i64 ev, .int .i64 sz, .bool pk] 26)) (.cells #[.string ⟨#[]⟩, .int .i64 0] 82) (by have := (Array.getElem?_eq_some_iff.1 C1.out).1; simp; omega)).trans ((alloc_old w1 (.cells #[.int .i64 ev, .int .i64 sz, .bool pk] 26) (Array.getElem?_eq_some_iff.1 C1.out).1).trans C1.out))
   have B2 := Lib.hid ((B1.out.alloc B1.out.size (.cells #[.int .i64 ev, .int .i64 sz, .bool pk] 26)).alloc (by have := B1.out.size; simp; omega) (.cells #[.string ⟨#[]⟩, .int .i64 0] 82))
   have O2 := Lib.hid ((O1.out.new (.cells #[.int .i64 ev, .int .i64 sz, .bool pk] 26)).new (.cells #[.string ⟨#[]⟩, .int .i64 0] 82))
   have K2 := Lib.hid (show ((w1.alloc (.cells #[.int .i64 ev, .int .i64 sz, .bool pk] 26)).alloc (.cells #[.string ⟨#[]⟩, .int .i64 0] 82)).heap[w1.heap.size]? = some (.cells #[.int .i64 ev, .int .i64 sz, .bool pk] 26 (0, 0)) from (alloc_old _ _ (by simp)).trans (alloc_at w1 _))
   rw [confV_is]
   go_wp2_with fail
   refine (as_nil _ _).mono ?_
   rintro e w2 ⟨rfl, rfl⟩
   obtain ⟨g, hg⟩ : ∃ g, w1.heap.size = g := ⟨_, rfl⟩
   obtain ⟨w2, hw2⟩ : ∃ W, (w1.alloc (.cells #[.int .i64 ev, .int .i64 sz, .bool pk] 26)).alloc (.cells #[.string ⟨#[]⟩, .int .i64 0] 82) = W := ⟨_, rfl⟩
   rw [hw2, hg] at K2
   rw [hw2] at C2 B2 O2 ⊢
   rw [hg]
   clear hw2 hg
   obtain ⟨x0, x1, x2, y0, y1, y2⟩ := blk_three C2.out
   obtain ⟨z0, z1, z2, _, _, _⟩ := blk_three K2.out
   go_wp2_with fail
   go_region
   go_wp2
   refine bodyPost_ret (res_three rfl _ _ w.heap.size _ _ _ _ rfl rfl rfl (show (World.drew _).heap[w.heap.size]? = _ from set_three C2.out _ _ _) Tryz.underlying26 rfl (by rw [sizeConf]; rfl)) rfl ?_
   exact ⟨_, xs, ⟨ev, sz, pk⟩, 0, rfl, HT.out, (own_three O2.out C2.out (by decide) _ _ _).below (below_draws 1), (((B2.out.setCell (Nat.le_refl _) _).setCell (Nat.le_refl _) _).setCell (Nat.le_refl _) _).trans (below_draws 1)⟩
 · have B1 := Lib.hid (B0.out.trans (b1.mono B0.out.size))
   have C1 := Lib.hid ((b1.block w.heap.size (by simp)).trans C0.out)
   have HT := Lib.hid hT
   have L1 := Lib.hid (HL.out.below B1.out hl0)
   clear b1 hT
   have C2 := Lib.hid ((alloc_old (w1.alloc (.cells #[.int .i64 0, .int .i64 0, .bool false] 26)) (.cells #[.string ⟨#[]⟩, .int .i64 0] 82) (by have := (Array.getElem?_eq_some_iff.1 C1.out).1; simp; omega)).trans ((alloc_old w1 (.cells #[.int .i64 0, .int .i64 0, .bool false] 26) (Array.getElem?_eq_some_iff.1 C1.out).1).trans C1.out))
   have B2 := Lib.hid ((B1.out.alloc B1.out.size (.cells #[.int .i64 0, .int .i64 0, .bool false] 26)).alloc (by have := B1.out.size; simp; omega) (.cells #[.string ⟨#[]⟩, .int .i64 0] 82))
   have A2 := Lib.hid (alloc_at2 w1 (.cells #[.int .i64 0, .int .i64 0, .bool false] 26) (.cells #[.string ⟨#[]⟩, .int .i64 0] 82))
   have L2 := Lib.hid (L1.out.below (two_below0 w1 (.cells #[.int .i64 0, .int .i64 0, .bool false] 26) (.cells #[.string ⟨#[]⟩, .int .i64 0] 82)) L1.out.lt)
   have hcb : w.heap.size < w1.heap.size := (Array.getElem?_eq_some_iff.1 C1.out).1
   rw [confV_is]
   unfold zeroConf badV
   go_wp2_with fail
   obtain ⟨g, hg⟩ : ∃ g, w1.heap.size = g := ⟨_, rfl⟩
   obtain ⟨w2, hw2⟩ : ∃ W, (w1.alloc (.cells #[.int .i64 0, .int .i64 0, .bool false] 26)).alloc (.cells #[.string ⟨#[]⟩, .int .i64 0] 82) = W := ⟨_, rfl⟩
   rw [hw2, hg] at A2
   rw [hw2] at C2 B2 L2 ⊢
   rw [hg] at hcb ⊢
   clear hw2 hg
   refine (as_hit name _ k 0 (g + 1) _ L2.out A2.out).mono ?_
   rintro e w3 ⟨rfl, g3, a3⟩
   have C3 := Lib.hid ((g3.block w.heap.size (Array.getElem?_eq_some_iff.1 C2.out).1 (fun e => by have := Option.some.inj e; omega)).trans C2.out)
   have B3 := Lib.hid (B2.out.grown g3 B2.out.size (fun j e => by have := Option.some.inj e; omega))
   have d0 : w3.cell? ⟨g + 1, 0, none⟩ = some (.string name) := by simp [World.cell?, a3]
   have d1 : w3.cell? ⟨g + 1, 1, none⟩ = some (.int .i64 k) := by simp [World.cell?, a3]
   obtain ⟨x0, x1, x2, y0, y1, y2⟩ := blk_three C3.out
   clear g3 a3
   go_wp2_with fail
   go_region
   go_wp2
   refine bodyPost_ret (res_three rfl _ _ w.heap.size _ _ _ _ rfl rfl rfl (show (World.drew _).heap[w.heap.size]? = _ from set_three C3.out _ _ _) Tryz.underlying26 rfl (by rw [sizeConf]; rfl)) rfl ?_
   exact ⟨_, [], zeroConf, k, rfl, HT.out, own_nil _ _, (((B3.out.setCell (Nat.le_refl _) _).setCell (Nat.le_refl _) _).setCell (Nat.le_refl _) _).trans (below_draws 1)⟩
end Go.Proofs.YtkomnnijnggbpaaGreatDoor
