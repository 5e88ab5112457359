/- Contract of the model's Tokens. -/
import Derived.Test.YtkomnnijnggbpaaCopy
import Derived.Test.YtkomnnijnggbpaaZ0
namespace Go.Proofs.Ytkomnnijnggbpaa
open Go.RowKit
set_option linter.unusedVariables false

def TokOut (w : World) (xs : List Tok) (e : Ending) (w' : World) : Prop := ∃ v, e = .returned v ∧ TRow w w' v xs

theorem toks_copy {l : List UInt8} {i : Nat} {t : List UInt8} (hi : i < l.length) (hc : 0 < (copyAt l i).1) : toksFrom l i t = flush t ++ ⟨[], (copyAt l i).1, (copyAt l i).2⟩ :: toksFrom l (i + (copyAt l i).1) [] := by
 rw [toksFrom, dif_pos hi, dif_pos hc]
theorem toks_full {l : List UInt8} {i : Nat} {t : List UInt8} (hi : i < l.length) (hc : ¬ 0 < (copyAt l i).1) (ht : t.length = 127) : toksFrom l i t = ⟨t, 0, 0⟩ :: toksFrom l (i + 1) [l[i]] := by
 rw [toksFrom, dif_pos hi, dif_neg hc, if_pos ht]
theorem toks_more {l : List UInt8} {i : Nat} {t : List UInt8} (hi : i < l.length) (hc : ¬ 0 < (copyAt l i).1) (ht : ¬ t.length = 127) : toksFrom l i t = toksFrom l (i + 1) (t ++ [l[i]]) := by
 rw [toksFrom, dif_pos hi, dif_neg hc, if_neg ht]
theorem toks_end {l : List UInt8} {i : Nat} {t : List UInt8} (hi : ¬ i < l.length) : toksFrom l i t = flush t := by
 rw [toksFrom, dif_neg hi]

theorem var_cell (w : World) (cs : Array Value) (U j : Nat) (o : Obj) : ((w.alloc (.cells cs U)).alloc o).cell? ⟨w.heap.size, j, none⟩ = cs[j]? := by
 have h1 : ((w.alloc (.cells cs U)).alloc o).heap[w.heap.size]? = some (.cells cs U (0, 0)) := by
   rw [heap_alloc_old (w.alloc (.cells cs U)) o (by simp), heap_alloc_new]
 simp [World.cell?, h1]
theorem lt2 (w : World) (a b : Obj) : w.heap.size < ((w.alloc a).alloc b).heap.size := by simp; omega
theorem lt_later {w : World} {b U : Nat} {cs : Array Value} {fz : Nat × Nat} (h : w.heap[b]? = some (.cells cs U fz)) (o : Obj) : b < (w.alloc o).heap.size := by
 have := (Array.getElem?_eq_some_iff.1 h).1
 simp; omega
theorem old_cell {w : World} {b U : Nat} {cs : Array Value} {fz : Nat × Nat} (h : w.heap[b]? = some (.cells cs U fz)) (o : Obj) (j : Nat) : (w.alloc o).cell? ⟨b, j, none⟩ = cs[j]? := by
 have hb : (w.alloc o).heap[b]? = some (.cells cs U fz) := by rw [heap_alloc_old w o (Array.getElem?_eq_some_iff.1 h).1]; exact h
 simp [World.cell?, hb]
theorem empty_text {T : ByteArray} (h : T.size = 0) : T = ⟨#[]⟩ := by
 apply bytes_ext
 have : T.data.toList.length = 0 := by simpa using h
 exact List.eq_nil_of_length_eq_zero this
theorem text_ne {T : ByteArray} (h : ¬ T.size = 0) : T.data.toList ≠ [] := fun e => h (by have := congrArg List.length e; simpa using this)
theorem flush_some {t : List UInt8} (h : t ≠ []) : flush t = [⟨t, 0, 0⟩] := by unfold flush; rw [if_neg h]
theorem var_block (w : World) (cs : Array Value) (U : Nat) (o : Obj) : ((w.alloc (.cells cs U)).alloc o).heap[w.heap.size]? = some (.cells cs U (0, 0)) := by
 rw [heap_alloc_old (w.alloc (.cells cs U)) o (by simp), heap_alloc_new]
theorem TRow.apart {w0 w : World} {g n c b : Nat} {xs : List Tok} {y : Tok} {v1 v2 : Value} (t : TRow w0 w (.slice (some ⟨g, 0, none⟩) n c) (xs ++ [y])) (hb : w.heap[b]? = some (.cells #[.string ⟨#[]⟩, v1, v2] 103 (0, 0))) (hy : y.text ≠ []) : b ≠ g := by
 rintro rfl
 rcases t.row.2 with ⟨h0, _⟩ | ⟨g', cap, cur, h1, _, h3, h4, _, h6, h7⟩
 · cases h0
 · cases h1
   rw [hb] at h3
   cases h3
   have hx : xs = [] := by
     cases xs with
     | nil => rfl
     | cons a l => simp at h4 h6; omega
   subst hx
   simp [tokCells] at h7
   exact hy h7.1
theorem few_copy {xs : List Tok} {y : Tok} {i c : Nat} (h : xs.length + (⟨#[]⟩ : ByteArray).size ≤ i) (hc : 4 ≤ c) : (xs ++ [y]).length + (⟨#[]⟩ : ByteArray).size ≤ i + c := by
 have e : (⟨#[]⟩ : ByteArray).size = 0 := rfl
 rw [e] at h ⊢
 rw [List.length_append, List.length_singleton]; omega
theorem few_text {xs : List Tok} {y z : Tok} {T : ByteArray} {i c : Nat} (h : xs.length + T.size ≤ i) (hT : ¬ T.size = 0) (hc : 4 ≤ c) : (xs ++ [y] ++ [z]).length + (⟨#[]⟩ : ByteArray).size ≤ i + c := by
 have e : (⟨#[]⟩ : ByteArray).size = 0 := rfl
 rw [e]
 rw [List.length_append, List.length_append, List.length_singleton, List.length_singleton]; omega
theorem one_more (T s : ByteArray) (i : Nat) (h : i < s.size) : (T ++ s.extract i (i + 1)).data.toList = T.data.toList ++ [s.data.toList[i]'(by simpa using h)] ∧ (T ++ s.extract i (i + 1)).size = T.size + 1 := by
 refine ⟨?_, by rw [ByteArray.size_append, ByteArray.size_extract]; omega⟩
 rw [ByteArray.data_append, Array.toList_append]
 congr 1
 simp only [ByteArray.data_extract, Array.toList_extract, List.extract_eq_take_drop]
 have e : i + 1 - i = 1 := by omega
 rw [e, List.drop_eq_getElem_cons (by simpa using h)]
 rfl
structure TokAt (w wr : World) (l : List UInt8) (v : Value) (i : Nat) (T : ByteArray) (xs : List Tok) : Prop where
 row : TRow w wr v xs
 rest : xs ++ toksFrom l i T.data.toList = toksFrom l 0 []
 few : xs.length + T.size ≤ i
 short : T.size ≤ 127

set_option maxHeartbeats 2000000 in
set_option maxRecDepth 100000 in
theorem specTokens_in (s : ByteArray) (w : World) (hs : s.size ≤ 2000) :
   Calls Try.prog 81 #[.string s] w (TokOut w (tokens s.data.toList)) := by
 have hll : s.data.toList.length = s.size := by simp
 have HLL := Lib.hid hll
 have HTK := Lib.hid (show tokens s.data.toList = toksFrom s.data.toList 0 [] by unfold tokens; rw [if_neg (by omega)])
 clear hll
 have hs' : ¬ (2000 : Int) < (s.size : Int) := by omega
 go_enter Try.func81, Try.ntmps81
 go_wp2_with fail
 go_loopw [3, 4, 5] (fun v tt ii wr => ∃ (i : Nat) (T : ByteArray) (xs : List Tok), i ≤ s.size ∧ ii = .int .i64 i ∧ tt = .string T ∧ TokAt w wr s.data.toList v i T xs) (fun _ _ ii _ => s.size - (intOf ii).toNat)
 case atStart => exact ⟨0, ⟨#[]⟩, [], by omega, rfl, rfl, ⟨trow_made w, rfl, Nat.le_refl _, by decide⟩⟩
 case round =>
   obtain ⟨i, T, xs, hi, rfl, rfl, t⟩ := hrel
   have TT := Lib.hid t
   have hfew := t.few
   have hshort := t.short
   clear t
   by_cases hlt : i < s.size
   · go_wp2_with fail
     refine (specCopy s i _ hs hlt).mono ?_
     rintro e w1 ⟨rfl, hb⟩
     have R1 := Lib.hid (TT.out.row.later hb)
     obtain ⟨c, hc⟩ : ∃ c, copyAt s.data.toList i = c := ⟨_, rfl⟩
     rw [hc]
     have HC := Lib.hid hc
     unfold copyV
     clear hb hc
     have R1b := Lib.hid (R1.out.later ((Below.refl _ w1).alloc (Nat.le_refl _) (.cells #[.string ⟨#[]⟩, .int .i64 c.1, .int .i64 c.2] 103)))
     have hvne : ∀ k, u3.ownBlock = some k → k < w1.heap.size := R1.out.old
     have HVN := Lib.hid hvne
     clear hvne
     by_cases hpos : 0 < c.1
     · have hck := copyAt_ok s.data.toList i (by rw [HC.out]; exact hpos)
       rw [HC.out, HLL.out] at hck
       have hstep := toks_copy (t := T.data.toList) (by rw [HLL.out]; exact hlt) (show 0 < (copyAt s.data.toList i).1 by rw [HC.out]; exact hpos)
       rw [HC.out] at hstep
       have HST := Lib.hid hstep
       have hc67 : c.1 ≤ 67 := hck.2.1
       have hc4 : 4 ≤ c.1 := hck.1
       have hcin : i + c.1 ≤ s.size := hck.2.2.2.2.2.1
       have hpos' : (0 : Int) < (c.1 : Int) := by omega
       clear hck hstep
       by_cases hT : T.size = 0
       · obtain rfl := empty_text hT
         have HREL := Lib.hid (show (xs ++ [⟨[], c.1, c.2⟩]) ++ toksFrom s.data.toList (i + c.1) [] = toksFrom s.data.toList 0 [] by
           have := TT.out.rest
           rw [HST.out] at this
           rw [← this]; simp [flush])
         go_wp2_with (at_builtin; refine wp_pushT ⟨[], c.1, c.2⟩ rfl rfl rfl rfl _ _ rfl rfl rfl (by first | rfl | simp) R1b.out (by omega) ?_; intro g2 c2 w2 t2 hg2; have T2 := Lib.hid t2; have hk1 := kept_cell hg2 (b := w1.heap.size) (lt2 _ _ _) (fun e => absurd (HVN.out _ e.symm) (by omega)) 1; rw [var_cell] at hk1; clear t2 hg2)
         go_roundw
         case rel => exact ⟨i + c.1, ⟨#[]⟩, xs ++ [⟨[], c.1, c.2⟩], by omega, by go_num, rfl, ⟨by simpa using T2.out, HREL.out, few_copy hfew hc4, by decide⟩⟩
         case measure => simp [intOf]; omega
       · have hne : T.toList.isEmpty = false := by rw [ByteArray.toList_eq, List.isEmpty_eq_false_iff]; exact text_ne hT
         have hne2 : ¬ T.toList = [] := by rw [ByteArray.toList_eq]; exact text_ne hT
         have HREL := Lib.hid (show (xs ++ [⟨T.data.toList, 0, 0⟩] ++ [⟨[], c.1, c.2⟩]) ++ toksFrom s.data.toList (i + c.1) [] = toksFrom s.data.toList 0 [] by
           have := TT.out.rest
           rw [HST.out, flush_some (text_ne hT)] at this
           rw [← this]; simp)
         go_wp2_with (first
           | (at_builtin; refine wp_pushT ⟨T.data.toList, 0, 0⟩ rfl rfl rfl rfl _ _ rfl rfl rfl (by first | rfl | simp) R1b.out (by omega) ?_; intro g2 c2 w2 t2 hg2; have T2 := Lib.hid t2; have hb2 := (hg2.block w1.heap.size (lt2 _ _ _) (fun e => absurd (HVN.out _ e.symm) (by omega))).trans (var_block _ _ _ _); have HB2 := Lib.hid hb2; have HAP := Lib.hid (t2.apart hb2 (text_ne hT)); have hk0 := kept_cell hg2 (b := w1.heap.size) (lt2 _ _ _) (fun e => absurd (HVN.out _ e.symm) (by omega)) 0; have hk1 := kept_cell hg2 (b := w1.heap.size) (lt2 _ _ _) (fun e => absurd (HVN.out _ e.symm) (by omega)) 1; have hk2 := kept_cell hg2 (b := w1.heap.size) (lt2 _ _ _) (fun e => absurd (HVN.out _ e.symm) (by omega)) 2; rw [var_cell] at hk0 hk1 hk2; clear t2 hb2 hg2)
           | (at_builtin; refine wp_pushT ⟨[], c.1, c.2⟩ rfl rfl rfl rfl _ _ rfl rfl rfl (by first | rfl | simp) T2.out (by simp; omega) ?_; intro g3 c3 w3 t3 hg3; have T3 := Lib.hid t3; have hm1 := (kept_cell hg3 (b := w1.heap.size) (lt_later HB2.out _) (fun e => HAP.out (by cases e; rfl)) 1).trans (old_cell HB2.out _ 1); clear t3 hg3))
         go_roundw
         case rel => exact ⟨i + c.1, ⟨#[]⟩, _, by omega, by go_num, rfl, ⟨by simpa using T3.out, HREL.out, few_text hfew hT hc4, by decide⟩⟩
         case measure => simp [intOf]; omega
     · have hc0 : c = (0, 0) := by rw [← HC.out]; exact copyAt_none _ _ (by rw [HC.out]; exact hpos)
       subst hc0
       have hnc : ¬ 0 < (copyAt s.data.toList i).1 := by rw [HC.out]; exact hpos
       have HNC := Lib.hid hnc
       have hs1 : (i : Int) + 1 ≤ (s.size : Int) := by omega
       clear hnc hpos
       by_cases hT : T.size = 127
       · have hne : T.toList.isEmpty = false := by rw [ByteArray.toList_eq, List.isEmpty_eq_false_iff]; exact text_ne (by omega)
         have hne2 : ¬ T.toList = [] := by rw [ByteArray.toList_eq]; exact text_ne (by omega)
         have h127 : ((T.size : Int) == 127) = true := by simp; omega
         have h1 := one_more ⟨#[]⟩ s i hlt
         have HREL := Lib.hid (show (xs ++ [⟨T.data.toList, 0, 0⟩]) ++ toksFrom s.data.toList (i + 1) ((⟨#[]⟩ : ByteArray) ++ s.extract i (i + 1)).data.toList = toksFrom s.data.toList 0 [] by
           have h0 := TT.out.rest
           rw [toks_full (by rw [HLL.out]; exact hlt) HNC.out (by simpa using hT)] at h0
           rw [h1.1, ← h0]; simp)
         have HS1 := Lib.hid h1.2
         clear h1
         go_wp2_with (at_builtin; refine wp_pushT ⟨T.data.toList, 0, 0⟩ rfl rfl rfl rfl _ _ rfl rfl rfl (by first | rfl | simp) R1b.out (by omega) ?_; intro g2 c2 w2 t2 hg2; have T2 := Lib.hid t2; have hk1 := kept_cell hg2 (b := w1.heap.size) (lt2 _ _ _) (fun e => absurd (HVN.out _ e.symm) (by omega)) 1; rw [var_cell] at hk1; clear t2 hg2)
         have e0 : (⟨#[]⟩ : ByteArray).size = 0 := rfl
         go_roundw
         case rel => exact ⟨i + 1, _, xs ++ [⟨T.data.toList, 0, 0⟩], by omega, by go_num, rfl, ⟨by simpa using T2.out, HREL.out, by rw [HS1.out, List.length_append, List.length_singleton]; omega, by rw [HS1.out]; omega⟩⟩
         case measure => simp [intOf]; omega
       · have h127 : ((T.size : Int) == 127) = false := by simp; omega
         have h1 := one_more T s i hlt
         have HREL := Lib.hid (show xs ++ toksFrom s.data.toList (i + 1) (T ++ s.extract i (i + 1)).data.toList = toksFrom s.data.toList 0 [] by
           have h0 := TT.out.rest
           rw [toks_more (by rw [HLL.out]; exact hlt) HNC.out (by simpa using hT)] at h0
           rw [h1.1, ← h0])
         have HS1 := Lib.hid h1.2
         clear h1
         by_cases hT0 : T.size = 0
         · obtain rfl := empty_text hT0
           have e0 : (⟨#[]⟩ : ByteArray).size = 0 := rfl
           go_wp2_with fail
           go_roundw
           case rel => exact ⟨i + 1, _, xs, by omega, by go_num, rfl, ⟨R1b.out, HREL.out, by rw [HS1.out]; omega, by rw [HS1.out]; omega⟩⟩
           case measure => simp [intOf]; omega
         · have hne : T.toList.isEmpty = false := by rw [ByteArray.toList_eq, List.isEmpty_eq_false_iff]; exact text_ne hT0
           have hne2 : ¬ T.toList = [] := by rw [ByteArray.toList_eq]; exact text_ne hT0
           go_wp2_with fail
           go_roundw
           case rel => exact ⟨i + 1, _, xs, by omega, by go_num, rfl, ⟨R1b.out, HREL.out, by rw [HS1.out]; omega, by rw [HS1.out]; omega⟩⟩
           case measure => simp [intOf]; omega
   · have HEND := Lib.hid (show xs ++ flush T.data.toList = tokens s.data.toList by
       rw [HTK.out, ← TT.out.rest, toks_end (by rw [HLL.out]; exact hlt)])
     by_cases hT : T.size = 0
     · obtain rfl := empty_text hT
       go_wp2
       go_ret
       exact ⟨_, rfl, by rw [← HEND.out, show flush (⟨#[]⟩ : ByteArray).data.toList = [] from rfl, List.append_nil]; exact TT.out.row⟩
     · have hne : T.toList.isEmpty = false := by rw [ByteArray.toList_eq, List.isEmpty_eq_false_iff]; exact text_ne hT
       have hne2 : ¬ T.toList = [] := by rw [ByteArray.toList_eq]; exact text_ne hT
       go_wp2_with (at_builtin; refine wp_pushT ⟨T.data.toList, 0, 0⟩ rfl rfl rfl rfl _ _ rfl rfl rfl (by first | rfl | simp) TT.out.row (by omega) ?_; intro g2 c2 w2 t2 hg2; have T2 := Lib.hid t2; clear t2 hg2)
       go_ret
       exact ⟨_, rfl, by rw [← HEND.out, flush_some (text_ne hT)]; simpa using T2.out⟩

theorem specTokens (s : ByteArray) (w : World) :
   Calls Try.prog 81 #[.string s] w (TokOut w (tokens s.data.toList)) := by
 by_cases hs : s.size ≤ 2000
 · exact specTokens_in s w hs
 · have HTK := Lib.hid (show tokens s.data.toList = [] by unfold tokens; rw [if_pos (by simpa using hs)])
   have hs' : (2000 : Int) < (s.size : Int) := by omega
   clear hs
   go_enter Try.func81, Try.ntmps81
   go_wp2
   go_ret
   exact ⟨_, rfl, by rw [HTK.out]; exact trow_made w⟩
end Go.Proofs.Ytkomnnijnggbpaa
