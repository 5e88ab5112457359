/- Contract of the program's Tokens. -/
import Derived.Test.YtkomnnijnggbpaaSpecTokens
import Derived.Test.YtkomnnijnggbpaaLongCopy
import Derived.Test.YtkomnnijnggbpaaStood
import Derived.Test.YtkomnnijnggbpaaZ0
namespace Go.Proofs.Ytkomnnijnggbpaa
open Go.RowKit
set_option linter.unusedVariables false

structure PlaceAt (w wr : World) (l : List UInt8) (v : Value) (k i : Nat) (xs : List Tok) : Prop where
 row : TRow w wr v xs
 rest : xs ++ toksFrom l i [] = toksFrom l 0 []
 none : ∀ j, i ≤ j → j < k → ¬ 0 < (copyAt l j).1
 few : xs.length ≤ i
 stood : Stood wr w.heap.size l k
theorem place_new (w : World) (l : List UInt8) : PlaceAt w (w.alloc (.map #[] 0)) l (.slice none 0 0) 0 0 [] :=
 ⟨(trow_nil w).alloc _, rfl, fun j h1 h2 => absurd h2 (by omega), Nat.le_refl _, stood_made w l⟩
theorem PlaceAt.ends {w wr : World} {l : List UInt8} {v : Value} {k i : Nat} {xs : List Tok} (t : PlaceAt w wr l v k i xs) (hk : l.length < k + 4) (hi : i ≤ l.length) : xs ++ chunks (l.drop i) = toksFrom l 0 [] := by
 rw [← toks_left l i hi (fun p h1 h2 => ?_)]
 · exact t.rest
 · by_cases h : p < k
   · exact t.none p h1 h
   · exact copy_end l p (by omega) (by omega)
theorem four_list (s : ByteArray) (k : Nat) : (s.extract k (k + 4)).data.toList = four s.data.toList k := by
 simp only [ByteArray.data_extract, Array.toList_extract, List.extract_eq_take_drop]
 unfold four
 congr 1
 omega
theorem none_step {l : List UInt8} {k i : Nat} (h : ∀ j, i ≤ j → j < k → ¬ 0 < (copyAt l j).1) (hk : k < i ∨ ¬ 0 < (copyAt l k).1) : ∀ j, i ≤ j → j < k + 1 → ¬ 0 < (copyAt l j).1 := by
 intro j h1 h2
 by_cases e : j = k
 · subst e
   rcases hk with h3 | h3
   · omega
   · exact h3
 · exact h j h1 (by omega)
theorem none_first {l : List UInt8} {k : Nat} (h : ∀ p, p < k → four l p ≠ four l k) : ¬ 0 < (copyAt l k).1 := by
 unfold copyAt
 rw [best_near l k (min 255 k) (by omega) (fun p _ h2 => h p h2)]
 simp

theorem keepB {w : World} {b : Nat} {cs : Array Value} {T : Nat} {fz : Nat × Nat} (h : w.heap[b]? = some (.cells cs T fz)) (o : Obj) : (w.alloc o).heap[b]? = some (.cells cs T fz) := by
 rw [heap_alloc_old w o (Array.getElem?_eq_some_iff.1 h).1]; exact h
theorem tok_block {w : World} {b : Nat} {v0 v1 v2 : Value} (h : w.heap[b]? = some (.cells #[v0, v1, v2] 103 (0, 0))) : w.cell? ⟨b, 0, none⟩ = some v0 ∧ w.cell? ⟨b, 1, none⟩ = some v1 ∧ w.cell? ⟨b, 2, none⟩ = some v2 := by
 refine ⟨?_, ?_, ?_⟩ <;> simp [World.cell?, h]

set_option maxHeartbeats 2000000 in
set_option maxRecDepth 100000 in
theorem implTokens_in (s : ByteArray) (w : World) (hs : s.size ≤ 2000) :
   Calls Try.prog 79 #[.string s] w (TokOut w (tokens s.data.toList)) := by
 have hll : s.data.toList.length = s.size := by simp
 have HLL := Lib.hid hll
 have HTK := Lib.hid (show tokens s.data.toList = toksFrom s.data.toList 0 [] by unfold tokens; rw [if_neg (by omega)])
 clear hll
 have hs' : ¬ (2000 : Int) < (s.size : Int) := by omega
 have hmm := @run_makeMap Try.prog
 go_enter Try.func79, Try.ntmps79
 go_wp2_with fail
 go_step3
 go_wp2_with fail
 go_step3
 go_wp2_with fail
 go_loopw [3, 5, 18] (fun v fr kk wr => ∃ (k i : Nat) (xs : List Tok), k ≤ s.size ∧ i ≤ s.size ∧ kk = .int .i64 k ∧ fr = .int .i64 i ∧ PlaceAt w wr s.data.toList v k i xs) (fun _ _ kk _ => s.size - (intOf kk).toNat)
 case atStart => exact ⟨0, 0, [], by omega, by omega, rfl, rfl, place_new w _⟩
 case round =>
   obtain ⟨k, i, xs, hk, hi, rfl, rfl, t⟩ := hrel
   have TT := Lib.hid t
   have hfew := t.few
   clear t hmm
   by_cases h4 : k + 4 ≤ s.size
   · have hlt : (k : Int) < (s.size : Int) := by omega
     have h4' : ¬ (s.size : Int) < (k : Int) + 4 := by omega
     obtain ⟨q, hq⟩ : ∃ q, s.extract k (k + 4) = q := ⟨_, rfl⟩
     have HQ := Lib.hid (show q.data.toList = four s.data.toList k by rw [← hq]; exact four_list s k)
     have hqs : q.size = 4 := by rw [← hq, ByteArray.size_extract]; omega
     have e4 : ((k : Int) + 4).toNat = k + 4 := by omega
     obtain ⟨es, clock, hes⟩ := TT.out.stood.block
     have HES := Lib.hid hes
     clear hes
     rcases last_or s.data.toList q.data.toList k with hno | ⟨p, hp, hpq, hlast⟩
     · have HNO := Lib.hid hno
       clear hno
       have HNC := Lib.hid (none_first (by rw [← HQ.out]; exact HNO.out))
       by_cases hik : k < i
       · have dik : decide ((k : Int) < (i : Int)) = true := by simp; omega
         go_wp2_with (first
           | (at_lookup; refine wp_look_no TT.out.stood q HNO.out rfl _ _ rfl rfl (by first | rfl | (rw [← hq])) (by omega) ?_; intro c)
           | (at_mapUpdate; refine wp_stood TT.out.stood rfl _ _ _ rfl rfl q (by first | rfl | (rw [← hq])) HQ.out rfl (by omega) ?_; intro w2 st2 hg2; have ST2 := Lib.hid st2; have R2 := Lib.hid (TT.out.row.mapped HES.out (Nat.le_refl _) hg2); clear st2 hg2))
         go_roundw
         case rel => exact ⟨k + 1, i, xs, by omega, hi, by go_num, rfl, ⟨R2.out, TT.out.rest, none_step TT.out.none (.inl hik), hfew, ST2.out⟩⟩
         case measure => simp [intOf]; omega
       · have dik : decide ((k : Int) < (i : Int)) = false := by simp; omega
         go_wp2_with (first
           | (at_lookup; refine wp_look_no TT.out.stood q HNO.out rfl _ _ rfl rfl (by first | rfl | (rw [← hq])) (by omega) ?_; intro c)
           | (at_mapUpdate; refine wp_stood TT.out.stood rfl _ _ _ rfl rfl q (by first | rfl | (rw [← hq])) HQ.out rfl (by omega) ?_; intro w2 st2 hg2; have ST2 := Lib.hid st2; have R2 := Lib.hid (TT.out.row.mapped HES.out (Nat.le_refl _) hg2); clear st2 hg2))
         go_roundw
         case rel => exact ⟨k + 1, i, xs, by omega, hi, by go_num, rfl, ⟨R2.out, TT.out.rest, none_step TT.out.none (.inr HNC.out), hfew, ST2.out⟩⟩
         case measure => simp [intOf]; omega
     · have HPQ := Lib.hid (And.intro hpq hlast)
       clear hpq hlast
       by_cases hik : k < i
       · have dik : decide ((k : Int) < (i : Int)) = true := by simp; omega
         go_wp2_with (first
           | (at_lookup; refine wp_look_yes TT.out.stood q p hp HPQ.out.1 HPQ.out.2 rfl _ _ rfl rfl (by first | rfl | (rw [← hq])) (by omega) ?_)
           | (at_mapUpdate; refine wp_stood TT.out.stood rfl _ _ _ rfl rfl q (by first | rfl | (rw [← hq])) HQ.out rfl (by omega) ?_; intro w2 st2 hg2; have ST2 := Lib.hid st2; have R2 := Lib.hid (TT.out.row.mapped HES.out (Nat.le_refl _) hg2); clear st2 hg2))
         go_roundw
         case rel => exact ⟨k + 1, i, xs, by omega, hi, by go_num, rfl, ⟨R2.out, TT.out.rest, none_step TT.out.none (.inl hik), hfew, ST2.out⟩⟩
         case measure => simp [intOf]; omega
       · have dik : decide ((k : Int) < (i : Int)) = false := by simp; omega
         have e5 : (k : Int) - (p : Int) = ((k - p : Nat) : Int) := by omega
         go_wp2_with (first
           | (at_lookup; refine wp_look_yes TT.out.stood q p hp HPQ.out.1 HPQ.out.2 rfl _ _ rfl rfl (by first | rfl | (rw [← hq])) (by omega) ?_)
           | (at_mapUpdate; refine wp_stood TT.out.stood rfl _ _ _ rfl rfl q (by first | rfl | (rw [← hq])) HQ.out rfl (by omega) ?_; intro w2 st2 hg2; have ST2 := Lib.hid st2; have R2 := Lib.hid (TT.out.row.mapped HES.out (Nat.le_refl _) hg2); clear st2 hg2))
         refine (longestCopy s k (k - p) _ hs (by omega) (by omega) (by omega) (fun p' h1 h2 => by rw [← HQ.out]; exact HPQ.out.2 p' (by omega) h2)).mono ?_
         rintro e w1 ⟨rfl, hb⟩
         have R3 := Lib.hid (R2.out.later hb)
         have S3 := Lib.hid (ST2.out.keep (hb.block _ ST2.out.lt))
         obtain ⟨c, hc⟩ : ∃ c, copyAt s.data.toList k = c := ⟨_, rfl⟩
         rw [hc]
         have HC := Lib.hid hc
         unfold copyV
         clear hb hc e5
         have R1b := Lib.hid (R3.out.alloc (.cells #[.string ⟨#[]⟩, .int .i64 c.1, .int .i64 c.2] 103))
         have S1b := Lib.hid (S3.out.keep (heap_alloc_old w1 (.cells #[.string ⟨#[]⟩, .int .i64 c.1, .int .i64 c.2] 103) S3.out.lt))
         by_cases hpos : 0 < c.1
         · have dpos : decide (0 < c.1) = true := by simpa using hpos
           have HBK := Lib.hid (heap_alloc_new w1 (.cells #[.string ⟨#[]⟩, .int .i64 c.1, .int .i64 c.2] 103))
           have i1 : (i : Int) ≤ (k : Int) := by omega
           have i2 : (k : Int) ≤ (s.size : Int) := by omega
           go_wp2_with fail
           refine wp_region_held_drew (S := fun w' => w'.heap[w1.heap.size]? = some (.cells #[.string ⟨#[]⟩, .int .i64 c.1, .int .i64 c.2] 103 (0, 0))) (by kernel_rfl) HBK.out (fun hHeld => ?_)
           refine tk 0 (some 58) ?_ ?hy hHeld ?_
           case hy => (intro w' hS; clear hS; go_simp <;> with_reducible rfl)
           simp only [Act.put, sA, sB, sC]
           refine tk 1 (some 59) ?_ ?hy hHeld ?_
           case hy => (intro w' hS; clear hS; go_simp <;> with_reducible rfl)
           simp only [Act.put, sA, sB, sC]
           refine tk 2 (some 60) ?_ ?hy hHeld ?_
           case hy => (intro w' hS; clear hS; go_simp <;> with_reducible rfl)
           simp only [Act.put, sA, sB, sC]
           refine tk 3 (some 61) ?_ ?hy hHeld ?_
           case hy => (intro w' hS; clear hS; go_simp <;> with_reducible rfl)
           simp only [Act.put, sA, sB, sC]
           refine tk 4 (some 62) ?_ ?hy hHeld ?_
           case hy => (intro w' hS; clear hS; go_simp <;> with_reducible rfl)
           simp only [Act.put, sA, sB, sC]
           refine tk 6 (some 64) ?_ ?hy hHeld ?_
           case hy => (intro w' hS; obtain ⟨c0, c1, c2⟩ := tok_block hS; clear hS; go_simp <;> with_reducible rfl)
           simp only [Act.put, sA, sB, sC]
           have hlt1 : ∀ j, u3.ownBlock = some j → j < w1.heap.size := R3.out.old
           have HLT := Lib.hid hlt1
           clear hlt1
           obtain ⟨X, hX⟩ : ∃ X, s.extract i k = X := ⟨_, rfl⟩
           rw [hX]
           have HXL := Lib.hid (show X.data.toList = (s.data.toList.drop i).take (k - i) by rw [← hX]; simp only [ByteArray.data_extract, Array.toList_extract, List.extract_eq_take_drop])
           have hXs : X.size = k - i := by rw [← hX, ByteArray.size_extract]; omega
           have hck := copyAt_ok s.data.toList k (by rw [HC.out]; exact hpos)
           rw [HC.out, HLL.out] at hck
           have hc67 : c.1 ≤ 67 := hck.2.1
           have hc4 : 4 ≤ c.1 := hck.1
           have hcin : k + c.1 ≤ s.size := hck.2.2.2.2.2.1
           clear hck hX
           have HREST := Lib.hid (show (xs ++ chunks X.data.toList ++ [⟨[], c.1, c.2⟩]) ++ toksFrom s.data.toList (k + c.1) [] = toksFrom s.data.toList 0 [] by
             have h1 := toks_copied s.data.toList i k (by omega) (by rw [HLL.out]; omega) TT.out.none (by rw [HC.out]; exact hpos)
             rw [HC.out, ← HXL.out] at h1
             rw [← TT.out.rest, h1]; simp)
           have HNONE := Lib.hid (show ∀ j, k + c.1 ≤ j → j < k + 1 → ¬ 0 < (copyAt s.data.toList j).1 from fun j h1 h2 => by omega)
           have HFEW := Lib.hid (show (xs ++ chunks X.data.toList ++ [(⟨[], c.1, c.2⟩ : Tok)]).length ≤ k + c.1 by
             have h1 := chunks_len X.data.toList.length X.data.toList (Nat.le_refl _)
             have h2 : X.data.toList.length = X.size := by simp
             rw [List.length_append, List.length_append, List.length_singleton]; omega)
           have HFEW2 := Lib.hid (show (xs ++ chunks X.data.toList).length < 1000000 by
             have h1 := HFEW.out
             rw [List.length_append] at h1
             omega)
           clear hpos dpos dik
           refine wpAnyH_ready (rs := [5, 7]) (by kernel_rfl) (by simp) ?_
           refine AllReadyH.cons rfl (fun K hK => ?_) (AllReadyH.cons rfl (fun K hK => ?_) AllReadyH.nil)
           · go_simp
             refine (appendTold w _ u3 xs X (R1b.out.drewN 1) (by omega) (by omega)).mono ?_
             rintro e w3 ⟨v3, rfl, t3, hp3⟩
             have hb3 := hp3.other (b := w1.heap.size) (by simp) (fun e => absurd (HLT.out _ e.symm) (by omega))
             have hs3 := hp3.other (b := w.heap.size) S1b.out.lt (R1b.out.noMap S1b.out.block.choose_spec.choose_spec)
             have HB3 := Lib.hid (hb3.1.trans HBK.out)
             have HN3 := Lib.hid hb3.2
             have S3b := Lib.hid (S1b.out.keep (w' := w3) hs3.1)
             have T3 := Lib.hid t3
             clear hb3 hs3 t3 hp3
             refine hK.out _ _ HB3.out (fun hHeld => ?_)
             clear hK K
             refine wpAnyH_ready (rs := [7]) (by kernel_rfl) (by simp) ?_
             refine AllReadyH.cons rfl (fun K hK => ?_) AllReadyH.nil
             go_simp
             refine hK.out _ _ (keepB HB3.out _) (fun hHeld => ?_)
             clear hK K
             refine wpAnyH_ready (rs := [8]) (by kernel_rfl) (by simp) ?_
             refine AllReadyH.cons rfl (fun K hK => ?_) AllReadyH.nil
             rw [if_pos (by rfl)]
             refine op_pushT ⟨[], c.1, c.2⟩ _ _ rfl rfl rfl (tok_new _ _ rfl rfl rfl) (T3.out.alloc _) HFEW2.out ?_
             intro v4 w4 t4 hp4
             have hb4 := hp4.other (b := w1.heap.size) (lt_later HB3.out _) HN3.out
             have hs4 := hp4.other (b := w.heap.size) (Nat.lt_of_lt_of_le S3b.out.lt (by simp)) (T3.out.noMap S3b.out.block.choose_spec.choose_spec)
             have HB4 := Lib.hid (hb4.1.trans (keepB HB3.out _))
             have S4 := Lib.hid (S3b.out.keep (w' := w4) (hs4.1.trans (heap_alloc_old _ _ S3b.out.lt)))
             have T4 := Lib.hid t4
             clear hb4 hs4 t4 hp4
             refine hK.out _ _ HB4.out (fun hHeld => ?_)
             clear hK K
             refine tk 9 (some 3) ?_ ?hy hHeld ?_
             case hy => (intro w' hS; clear hS; go_simp <;> with_reducible rfl)
             refine wpAnyH_done (by kernel_rfl) ?_ _
             have hc1 := (tok_block HB4.out).2.1
             go_wp2_with fail
             go_roundw
             case rel => exact ⟨k + 1, k + c.1, xs ++ chunks X.data.toList ++ [⟨[], c.1, c.2⟩], by omega, hcin, by go_num, by go_num, ⟨T4.out, HREST.out, HNONE.out, HFEW.out, S4.out⟩⟩
             case measure => simp [intOf]; omega
           · go_simp
             have HBK2 := Lib.hid (keepB HBK.out (.cells #[.string ⟨#[]⟩, .int .i64 c.1, .int .i64 c.2] 103))
             have HBT := Lib.hid (tok_new (w1.alloc (.cells #[.string ⟨#[]⟩, .int .i64 c.1, .int .i64 c.2] 103)) ⟨[], c.1, c.2⟩ (S := ⟨#[]⟩) rfl rfl rfl)
             have HBN := Lib.hid (heap_alloc_new (w1.alloc (.cells #[.string ⟨#[]⟩, .int .i64 c.1, .int .i64 c.2] 103)) (.cells #[.string ⟨#[]⟩, .int .i64 c.1, .int .i64 c.2] 103))
             have R5 := Lib.hid (R1b.out.alloc (.cells #[.string ⟨#[]⟩, .int .i64 c.1, .int .i64 c.2] 103))
             have S5 := Lib.hid (S1b.out.keep (heap_alloc_old (w1.alloc (.cells #[.string ⟨#[]⟩, .int .i64 c.1, .int .i64 c.2] 103)) (.cells #[.string ⟨#[]⟩, .int .i64 c.1, .int .i64 c.2] 103) S1b.out.lt))
             have hz : (w1.alloc (.cells #[.string ⟨#[]⟩, .int .i64 c.1, .int .i64 c.2] 103)).heap.size = w1.heap.size + 1 := by simp
             rw [hz] at HBT HBN
             have HLT2 := Lib.hid (show w1.heap.size + 1 < ((w1.alloc (.cells #[.string ⟨#[]⟩, .int .i64 c.1, .int .i64 c.2] 103)).alloc (.cells #[.string ⟨#[]⟩, .int .i64 c.1, .int .i64 c.2] 103)).heap.size by simp)
             generalize (w1.alloc (.cells #[.string ⟨#[]⟩, .int .i64 c.1, .int .i64 c.2] 103)).alloc (.cells #[.string ⟨#[]⟩, .int .i64 c.1, .int .i64 c.2] 103) = W2 at *
             clear hz
             refine hK.out _ _ HBK2.out (fun hHeld => ?_)
             clear hK K
             refine wpAnyH_ready (rs := [5]) (by kernel_rfl) (by simp) ?_
             refine AllReadyH.cons rfl (fun K hK => ?_) AllReadyH.nil
             go_simp
             refine (appendTold w _ u3 xs X (R5.out.drewN 1) (by omega) (by omega)).mono ?_
             rintro e w3 ⟨v3, rfl, t3, hp3⟩
             have hb3 := hp3.other (b := w1.heap.size) (Nat.lt_of_succ_lt HLT2.out) (fun e => absurd (HLT.out _ e.symm) (by omega))
             have hn3 := hp3.other (b := w1.heap.size + 1) HLT2.out (fun e => absurd (HLT.out _ e.symm) (by omega))
             have hs3 := hp3.other (b := w.heap.size) S5.out.lt (R5.out.noMap S5.out.block.choose_spec.choose_spec)
             have HB3 := Lib.hid (hb3.1.trans HBK2.out)
             have HN3 := Lib.hid hb3.2
             have HC3 := Lib.hid (show ∀ j u, (tokCells ⟨[], c.1, c.2⟩)[j]? = some u → w3.cell? ((⟨w1.heap.size + 1, 0, none⟩ : Addr).add j) = some u from fun j u hj => by
               have h1 := HBT.out j u hj
               have hadd : (⟨w1.heap.size + 1, 0, none⟩ : Addr).add j = ⟨w1.heap.size + 1, j, none⟩ := by unfold Addr.add; split <;> simp_all
               rw [hadd] at h1 ⊢
               rw [World.cell?_of_block (w := W2) (a := ⟨w1.heap.size + 1, j, none⟩) hn3.1]
               exact h1)
             have S3b := Lib.hid (S5.out.keep (w' := w3) hs3.1)
             have T3 := Lib.hid t3
             clear hb3 hs3 t3 hp3 hn3
             refine hK.out _ _ HB3.out (fun hHeld => ?_)
             clear hK K
             refine wpAnyH_ready (rs := [8]) (by kernel_rfl) (by simp) ?_
             refine AllReadyH.cons rfl (fun K hK => ?_) AllReadyH.nil
             rw [if_pos (by rfl)]
             refine op_pushT ⟨[], c.1, c.2⟩ _ _ rfl rfl rfl HC3.out T3.out HFEW2.out ?_
             intro v4 w4 t4 hp4
             have hb4 := hp4.other (b := w1.heap.size) (Array.getElem?_eq_some_iff.1 HB3.out).1 HN3.out
             have hs4 := hp4.other (b := w.heap.size) S3b.out.lt (T3.out.noMap S3b.out.block.choose_spec.choose_spec)
             have HB4 := Lib.hid (hb4.1.trans HB3.out)
             have S4 := Lib.hid (S3b.out.keep (w' := w4) hs4.1)
             have T4 := Lib.hid t4
             clear hb4 hs4 t4 hp4
             refine hK.out _ _ HB4.out (fun hHeld => ?_)
             clear hK K
             refine tk 9 (some 3) ?_ ?hy hHeld ?_
             case hy => (intro w' hS; clear hS; go_simp <;> with_reducible rfl)
             refine wpAnyH_done (by kernel_rfl) ?_ _
             have hc1 := (tok_block HB4.out).2.1
             go_wp2_with fail
             go_roundw
             case rel => exact ⟨k + 1, k + c.1, xs ++ chunks X.data.toList ++ [⟨[], c.1, c.2⟩], by omega, hcin, by go_num, by go_num, ⟨T4.out, HREST.out, HNONE.out, HFEW.out, S4.out⟩⟩
             case measure => simp [intOf]; omega
         · have dpos : decide (0 < c.1) = false := by simpa using hpos
           have HNC := Lib.hid (show ¬ 0 < (copyAt s.data.toList k).1 by rw [HC.out]; exact hpos)
           go_wp2_with fail
           go_roundw
           case rel => exact ⟨k + 1, i, xs, by omega, hi, by go_num, rfl, ⟨R1b.out, TT.out.rest, none_step TT.out.none (.inr HNC.out), hfew, S1b.out⟩⟩
           case measure => simp [intOf]; omega
   · have HEND := Lib.hid (show xs ++ chunks (s.extract i s.size).data.toList = tokens s.data.toList by
       rw [HTK.out, from_list]
       exact TT.out.ends (by rw [HLL.out]; omega) (by rw [HLL.out]; exact hi))
     have hi' : (i : Int) ≤ (s.size : Int) := by omega
     obtain ⟨w2, hcl, hg2⟩ := TT.out.stood.clear
     have R2 := Lib.hid (TT.out.row.mapped TT.out.stood.block.choose_spec.choose_spec (Nat.le_refl _) hg2)
     clear hg2
     by_cases hlt : k < s.size
     · have h1 : (k : Int) < (s.size : Int) := by omega
       have h4' : (s.size : Int) < (k : Int) + 4 := by omega
       go_wp2_with fail
       refine (appendTold w _ _ xs _ R2.out (by rw [ByteArray.size_extract]; omega) (by omega)).mono ?_
       rintro e w3 ⟨v3, rfl, t3, _⟩
       rw [HEND.out] at t3
       have T3 := Lib.hid t3
       clear t3
       go_wp2_with fail
       rw [Exit.noGoto_ret]
       go_ret
       exact ⟨_, rfl, T3.out⟩
     · have h1 : ¬ (k : Int) < (s.size : Int) := by omega
       go_wp2_with fail
       refine (appendTold w _ _ xs _ R2.out (by rw [ByteArray.size_extract]; omega) (by omega)).mono ?_
       rintro e w3 ⟨v3, rfl, t3, _⟩
       rw [HEND.out] at t3
       have T3 := Lib.hid t3
       clear t3
       go_wp2_with fail
       rw [Exit.noGoto_ret]
       go_ret
       exact ⟨_, rfl, T3.out⟩

theorem implTokens (s : ByteArray) (w : World) :
   Calls Try.prog 79 #[.string s] w (TokOut w (tokens s.data.toList)) := by
 by_cases hs : s.size ≤ 2000
 · exact implTokens_in s w hs
 · have HTK := Lib.hid (show tokens s.data.toList = [] by unfold tokens; rw [if_pos (by simpa using hs)])
   have hs' : (2000 : Int) < (s.size : Int) := by omega
   clear hs
   go_enter Try.func79, Try.ntmps79
   go_wp2_with fail
   go_step3
   go_wp2_with fail
   rw [Exit.noGoto_ret]
   go_ret
   exact ⟨_, rfl, by rw [HTK.out]; exact trow_nil w⟩
end Go.Proofs.Ytkomnnijnggbpaa
