/- Contract of the model's Compress. -/
import Derived.Test.YtkomnnijnggbpaaSpecTokens
import Derived.Test.YtkomnnijnggbpaaZ0
import Derived.StillTailTactics
namespace Go.Proofs.Ytkomnnijnggbpaa
open Go.RowKit
set_option linter.unusedVariables false

def PackOut (w : World) (l : List UInt8) (e : Ending) (w' : World) : Prop := e = .returned (.string ⟨l.toArray⟩) ∧ Below w.heap.size w w'

theorem enc_pos (y : Tok) : 1 ≤ (encTok y).length := by unfold encTok; split <;> simp
theorem few_toks (xs : List Tok) : xs.length ≤ (xs.flatMap encTok).length := by
 induction xs with
 | nil => simp
 | cons a l ih => rw [List.flatMap_cons, List.length_append, List.length_cons]; have := enc_pos a; omega
theorem enc_part (xs : List Tok) (k : Nat) (y : Tok) (hk : xs[k]? = some y) : (xs.take (k + 1)).flatMap encTok = (xs.take k).flatMap encTok ++ encTok y ∧ ((xs.take k).flatMap encTok).length + (encTok y).length ≤ (xs.flatMap encTok).length := by
 obtain ⟨hkl, e⟩ := List.getElem?_eq_some_iff.1 hk
 have h1 : (xs.take (k + 1)).flatMap encTok = (xs.take k).flatMap encTok ++ encTok y := by
   rw [List.take_succ_eq_append_getElem hkl, e, List.flatMap_append]; simp
 refine ⟨h1, ?_⟩
 have h2 : xs.flatMap encTok = (xs.take (k + 1)).flatMap encTok ++ (xs.drop (k + 1)).flatMap encTok := by
   rw [← List.flatMap_append, List.take_append_drop]
 rw [h2, h1, List.length_append, List.length_append]
 omega
theorem wrap_len (n : Nat) (h : n ≤ 67) : IntKind.u8.wrap (IntKind.i64.wrap (124 + (n : Int))) = ((UInt8.ofNat (124 + n)).toNat : Int) := by
 rw [IntWalk.i64_in _ (by omega), IntWalk.u8_in _ (by omega), UInt8.toNat_ofNat']; omega
theorem wrap_far (n : Nat) (h : n ≤ 255) : IntKind.u8.wrap (n : Int) = ((UInt8.ofNat n).toNat : Int) := by
 rw [IntWalk.u8_in _ (by omega), UInt8.toNat_ofNat']; omega
theorem wrap_text (n : Nat) (h : n ≤ 127) : IntKind.u8.wrap (n : Int) = ((UInt8.ofNat n).toNat : Int) := wrap_far n (by omega)
theorem lt_of_block {w : World} {b U : Nat} {cs : Array Value} {fz : Nat × Nat} (h : w.heap[b]? = some (.cells cs U fz)) : b < w.heap.size := (Array.getElem?_eq_some_iff.1 h).1
theorem keep_block {w : World} {b U : Nat} {cs : Array Value} {fz : Nat × Nat} (h : w.heap[b]? = some (.cells cs U fz)) (o : Obj) : (w.alloc o).heap[b]? = some (.cells cs U fz) := by
 rw [heap_alloc_old w o (Array.getElem?_eq_some_iff.1 h).1]; exact h

theorem brow_conv {w0 w : World} {v : Value} {xs : List UInt8} (t : BRow w0 w v xs) : ∃ (n c : Nat) (a : Option Addr), v = .slice a n c ∧ (convert 22 9 (.slice a n c)).run Try.prog w = .ok (.string ⟨xs.toArray⟩) w := by
 rcases t.row.2 with ⟨h0, hn⟩ | ⟨g, cap, cur, h1, _⟩
 · have hx : xs = [] := List.eq_nil_of_length_eq_zero hn
   subst hx
   refine ⟨0, 0, none, h0, ?_⟩
   exact run_convert_bytes_nil (P := Try.prog) w 22 5 Try.underlying22 Try.underlying5 0 0 9 Try.underlying9
 · subst h1
   exact ⟨_, _, _, rfl, t.str rfl⟩

set_option maxHeartbeats 2000000 in
set_option maxRecDepth 100000 in
theorem specCompress (s : ByteArray) (w : World) :
   Calls Try.prog 61 #[.string s] w (PackOut w (compress s.data.toList)) := by
 have HCL := Lib.hid (compress_len s.data.toList)
 go_enter Try.func61, Try.ntmps61
 go_wp2_with fail
 refine (specTokens s _).mono ?_
 rintro e w1 ⟨v, rfl, t⟩
 obtain ⟨xs, hxs⟩ : ∃ xs, tokens s.data.toList = xs := ⟨_, rfl⟩
 rw [hxs] at t
 have HXS := Lib.hid hxs
 have HOK := Lib.hid (show ∀ y ∈ xs, TokOk y by rw [← hxs]; exact tokens_ok _)
 clear hxs
 have B1 := Lib.hid (show BRow w w1 (.slice (some ⟨w.heap.size, 0, none⟩) 0 0) [] from by
   have h := brow_made w
   refine ⟨?_, h.below.trans (t.below.mono h.below.size)⟩
   refine ⟨h.row.1, ?_⟩
   rcases h.row.2 with ⟨h0, _⟩ | ⟨g, cap, cur, h1, h2, h3, r⟩
   · cases h0
   · exact .inr ⟨g, cap, cur, h1, h2, (t.below.block g ((Array.getElem?_eq_some_iff.1 h3).1)).trans h3, r⟩)
 rcases t.row.2 with ⟨rfl, h0⟩ | ⟨gl, capl, cur, rfl, hgl, hcur, hn1, hn2, hn3, hn4⟩
 · have hx : xs = [] := List.eq_nil_of_length_eq_zero h0
   subst hx
   have HR := Lib.hid (show compress s.data.toList = [] by unfold compress; rw [HXS.out]; rfl)
   have hcv := B1.out.str (n := 0) (c := 0) rfl
   clear t h0
   go_wp2_with fail
   go_loop [3, 5] (fun v i => v = .slice (some ⟨w.heap.size, 0, none⟩) 0 0 ∧ i = .int .i64 0) (fun _ _ => 0)
   case atStart => exact ⟨rfl, rfl⟩
   case round =>
     obtain ⟨rfl, rfl⟩ := hrel
     go_wp2
     go_ret
     exact ⟨ret_text (a := []) HR.out.symm, B1.out.below⟩
 · have HCUR := Lib.hid (And.intro hcur hn4)
   have HTL := Lib.hid (show (xs.flatMap encTok).length ≤ 4001 by have := HCL.out; unfold compress at this; rw [HXS.out] at this; exact this)
   have hnl : xs.length ≤ 4001 := by have := few_toks xs; have := HTL.out; omega
   clear t hgl hcur hn4 hn3 hn2
   go_wp2_with fail
   go_loopw [3, 5] (fun v i wr => ∃ k : Nat, k ≤ xs.length ∧ i = .int .i64 k ∧ BRow w wr v ((xs.take k).flatMap encTok) ∧ wr.heap[gl]? = some (.cells cur 103 (0, 0))) (fun _ i _ => xs.length - (intOf i).toNat)
   case atStart => exact ⟨0, Nat.zero_le _, rfl, B1.out, HCUR.out.1⟩
   case round =>
     obtain ⟨k, hk, rfl, tb, hcu⟩ := hrel
     have TB := Lib.hid tb
     have HCU := Lib.hid hcu
     by_cases hlt : k < xs.length
     · obtain ⟨y, hy⟩ : ∃ y, xs[k]? = some y := ⟨_, List.getElem?_eq_getElem hlt⟩
       obtain ⟨c0, c1, c2⟩ := list_cells hcu HCUR.out.2 k y hy
       have HY := Lib.hid hy
       have hok := HOK.out y (List.mem_of_getElem? hy)
       have hlen : y.len ≤ 67 := by rcases hok with h | h <;> omega
       have htl : y.text.length ≤ 127 := by
         rcases hok with h | h
         · exact h.2.2.2
         · rw [h.1]; simp
       have hfar : y.far ≤ 255 := by rcases hok with h | h <;> omega
       clear tb hcu hy hok
       have i1 : (k : Int) < (xs.length : Int) := by omega
       by_cases hl : 0 < y.len
       · have hl1 : (0 : Int) < (y.len : Int) := by omega
         have HEN := Lib.hid (enc_part xs k y HY.out)
         have HEY := Lib.hid (show encTok y = [UInt8.ofNat (124 + y.len), UInt8.ofNat y.far] by unfold encTok; rw [if_pos hl])
         go_wp2_with fail
         refine wp_region_held_drew (S := fun w' => w'.heap[gl]? = some (.cells cur 103 (0, 0))) (by kernel_rfl) HCU.out (fun hHeld => ?_)
         refine tk 0 (some 21) ?_ ?hy hHeld ?_
         case hy => (intro w' hS; clear hS; go_simp <;> with_reducible rfl)
         simp only [Act.put, sA, sB, sC]
         refine tk 1 (some 22) ?_ ?hy hHeld ?_
         case hy => (intro w' hS; clear hS; go_simp <;> with_reducible rfl)
         simp only [Act.put, sA, sB, sC]
         refine tk 2 (some 23) ?_ ?hy hHeld ?_
         case hy => (intro w' hS; clear hS; go_simp <;> with_reducible rfl)
         simp only [Act.put, sA, sB, sC]
         refine tk 3 (some 24) ?_ ?hy hHeld ?_
         case hy => (intro w' hS; clear hS; go_simp <;> with_reducible rfl)
         simp only [Act.put, sA, sB, sC]
         refine tk 4 (some 25) ?_ ?hy hHeld ?_
         case hy => (intro w' hS; clear hS; go_simp <;> with_reducible rfl)
         simp only [Act.put, sA, sB, sC]
         refine tk 5 (some 26) ?_ ?hy hHeld ?_
         case hy => (intro w' hS; obtain ⟨c0, c1, c2⟩ := list_cells hS HCUR.out.2 k y HY.out; clear hS; go_simp <;> with_reducible rfl)
         simp only [Act.put, sA, sB, sC]
         refine tk 6 (some 27) ?_ ?hy hHeld ?_
         case hy => (intro w' hS; clear hS; go_simp <;> with_reducible rfl)
         simp only [Act.put, sA, sB, sC]
         refine tk 7 (some 28) ?_ ?hy hHeld ?_
         case hy => (intro w' hS; clear hS; go_simp <;> with_reducible rfl)
         simp only [Act.put, sA, sB, sC]
         refine tk 8 (some 29) ?_ ?hy hHeld ?_
         case hy => (intro w' hS; clear hS; go_simp <;> with_reducible rfl)
         simp only [Act.put, sA, sB, sC]
         refine tk 9 (some 30) ?_ ?hy hHeld ?_
         case hy => (intro w' hS; clear hS; go_simp <;> with_reducible rfl)
         simp only [Act.put, sA, sB, sC]
         refine tk 10 (some 31) ?_ ?hy hHeld ?_
         case hy => (intro w' hS; clear hS; go_simp <;> with_reducible rfl)
         simp only [Act.put, sA, sB, sC]
         refine tk 11 (some 32) ?_ ?hy hHeld ?_
         case hy => (intro w' hS; clear hS; go_simp <;> with_reducible rfl)
         simp only [Act.put, sA, sB, sC]
         refine tk 12 (some 33) ?_ ?hy hHeld ?_
         case hy => (intro w' hS; obtain ⟨c0, c1, c2⟩ := list_cells hS HCUR.out.2 k y HY.out; clear hS; go_simp <;> with_reducible rfl)
         simp only [Act.put, sA, sB, sC]
         refine tk 13 (some 34) ?_ ?hy hHeld ?_
         case hy => (intro w' hS; clear hS; go_simp <;> with_reducible rfl)
         simp only [Act.put, sA, sB, sC]
         refine wpAnyH_ready (rs := [14]) (by kernel_rfl) (by simp) ?_
         refine AllReadyH.cons rfl (fun K hK => ?_) AllReadyH.nil
         go_simp
         refine hK.out _ _ (keep_block HCU.out _) (fun hHeld => ?_)
         clear hK K
         refine wpAnyH_ready (rs := [15]) (by kernel_rfl) (by simp) ?_
         refine AllReadyH.cons rfl (fun K hK => ?_) AllReadyH.nil
         rw [if_pos (by rfl)]
         refine op_pushL [UInt8.ofNat (124 + y.len), UInt8.ofNat y.far] _ _ rfl rfl rfl (two_bytes wr _ _ (wrap_len _ hlen) (wrap_far _ hfar)) ((TB.out.alloc _).drewN 1) (by have := HEN.out.2; have := HTL.out; rw [HEY.out] at *; simp only [List.length_cons, List.length_nil] at *; omega) ?_
         intro v2 w2 t2 hg2
         have HB2 := Lib.hid ((hg2.block gl (lt_later HCU.out _) (TB.out.apart HCU.out (by decide))).trans (keep_block HCU.out _))
         have T2 := Lib.hid t2
         clear t2 hg2
         refine hK.out _ _ HB2.out (fun hHeld => ?_)
         clear hK K
         refine tk 16 (some 3) ?_ ?hy hHeld ?_
         case hy => (intro w' hS; clear hS; go_simp <;> with_reducible rfl)
         refine wpAnyH_done (by kernel_rfl) ?_ _
         go_wp2_with fail
         go_roundw
         case rel => exact ⟨k + 1, by omega, by go_num, by rw [HEN.out.1, HEY.out]; exact T2.out, HB2.out⟩
         case measure => simp [intOf]; omega
       · have hl1 : ¬ (0 : Int) < (y.len : Int) := by omega
         have HEN := Lib.hid (enc_part xs k y HY.out)
         have HEY := Lib.hid (show encTok y = UInt8.ofNat y.text.length :: y.text by unfold encTok; rw [if_neg hl])
         go_wp2_with fail
         refine wp_region_held_drew (S := fun w' => w'.heap[gl]? = some (.cells cur 103 (0, 0))) (by kernel_rfl) HCU.out (fun hHeld => ?_)
         refine tk 0 (some 37) ?_ ?hy hHeld ?_
         case hy => (intro w' hS; clear hS; go_simp <;> with_reducible rfl)
         simp only [Act.put, sA, sB, sC]
         refine tk 1 (some 38) ?_ ?hy hHeld ?_
         case hy => (intro w' hS; clear hS; go_simp <;> with_reducible rfl)
         simp only [Act.put, sA, sB, sC]
         refine tk 2 (some 39) ?_ ?hy hHeld ?_
         case hy => (intro w' hS; clear hS; go_simp <;> with_reducible rfl)
         simp only [Act.put, sA, sB, sC]
         refine tk 3 (some 40) ?_ ?hy hHeld ?_
         case hy => (intro w' hS; clear hS; go_simp <;> with_reducible rfl)
         simp only [Act.put, sA, sB, sC]
         refine tk 4 (some 41) ?_ ?hy hHeld ?_
         case hy => (intro w' hS; clear hS; go_simp <;> with_reducible rfl)
         simp only [Act.put, sA, sB, sC]
         refine tk 5 (some 42) ?_ ?hy hHeld ?_
         case hy => (intro w' hS; obtain ⟨c0, c1, c2⟩ := list_cells hS HCUR.out.2 k y HY.out; clear hS; go_simp <;> with_reducible rfl)
         simp only [Act.put, sA, sB, sC]
         refine tk 6 (some 43) ?_ ?hy hHeld ?_
         case hy => (intro w' hS; clear hS; go_simp <;> with_reducible rfl)
         simp only [Act.put, sA, sB, sC]
         refine tk 7 (some 44) ?_ ?hy hHeld ?_
         case hy => (intro w' hS; clear hS; go_simp <;> with_reducible rfl)
         simp only [Act.put, sA, sB, sC]
         refine tk 10 (some 47) ?_ ?hy hHeld ?_
         case hy => (intro w' hS; clear hS; go_simp <;> with_reducible rfl)
         simp only [Act.put, sA, sB, sC]
         refine tk 11 (some 48) ?_ ?hy hHeld ?_
         case hy => (intro w' hS; clear hS; go_simp <;> with_reducible rfl)
         simp only [Act.put, sA, sB, sC]
         refine tk 12 (some 49) ?_ ?hy hHeld ?_
         case hy => (intro w' hS; clear hS; go_simp <;> with_reducible rfl)
         simp only [Act.put, sA, sB, sC]
         refine tk 13 (some 50) ?_ ?hy hHeld ?_
         case hy => (intro w' hS; clear hS; go_simp <;> with_reducible rfl)
         simp only [Act.put, sA, sB, sC]
         refine tk 14 (some 51) ?_ ?hy hHeld ?_
         case hy => (intro w' hS; obtain ⟨c0, c1, c2⟩ := list_cells hS HCUR.out.2 k y HY.out; clear hS; go_simp <;> with_reducible rfl)
         simp only [Act.put, sA, sB, sC]
         refine wpAnyH_ready (rs := [8]) (by kernel_rfl) (by simp) ?_
         refine AllReadyH.cons rfl (fun K hK => ?_) AllReadyH.nil
         go_simp
         refine hK.out _ _ (keep_block HCU.out _) (fun hHeld => ?_)
         clear hK K
         refine wpAnyH_ready (rs := [9]) (by kernel_rfl) (by simp) ?_
         refine AllReadyH.cons rfl (fun K hK => ?_) AllReadyH.nil
         rw [if_pos (by rfl)]
         refine op_pushL [UInt8.ofNat y.text.length] _ _ rfl rfl rfl (one_byte wr _ (wrap_text _ htl)) ((TB.out.alloc _).drewN 1) (by have := HEN.out.2; have := HTL.out; simp only [List.length_cons, List.length_nil] at *; omega) ?_
         intro v2 w2 t2 hg2
         have HB2 := Lib.hid ((hg2.block gl (lt_later HCU.out _) (TB.out.apart HCU.out (by decide))).trans (keep_block HCU.out _))
         have T2 := Lib.hid t2
         clear t2 hg2
         refine hK.out _ _ HB2.out (fun hHeld => ?_)
         clear hK K
         refine wpAnyH_ready (rs := [15]) (by kernel_rfl) (by simp) ?_
         refine AllReadyH.cons rfl (fun K hK => ?_) AllReadyH.nil
         rw [if_pos (by rfl)]
         refine op_pushS ⟨y.text.toArray⟩ _ _ rfl rfl rfl T2.out (by have := HEN.out.2; have := HTL.out; rw [HEY.out] at *; simp [ByteArray.size] at *; omega) ?_
         intro v3 w3 t3 hg3
         have HB3 := Lib.hid ((hg3.block gl (lt_of_block HB2.out) (T2.out.apart HB2.out (by decide))).trans HB2.out)
         have T3 := Lib.hid t3
         clear t3 hg3
         refine hK.out _ _ HB3.out (fun hHeld => ?_)
         clear hK K
         refine tk 16 (some 3) ?_ ?hy hHeld ?_
         case hy => (intro w' hS; clear hS; go_simp <;> with_reducible rfl)
         refine wpAnyH_done (by kernel_rfl) ?_ _
         go_wp2_with fail
         go_roundw
         case rel => exact ⟨k + 1, by omega, by go_num, by rw [HEN.out.1, HEY.out]; simpa using T3.out, HB3.out⟩
         case measure => simp [intOf]; omega
     · obtain rfl : k = xs.length := by omega
       have e0 : xs.take xs.length = xs := List.take_of_length_le (Nat.le_refl _)
       rw [e0] at tb TB
       have HR := Lib.hid (show compress s.data.toList = xs.flatMap encTok by unfold compress; rw [HXS.out])
       obtain ⟨E, hE⟩ : ∃ E, xs.flatMap encTok = E := ⟨_, rfl⟩
       rw [hE] at tb TB HR
       clear hE e0 hcu
       obtain ⟨n, cc, g, hv, hcv⟩ := brow_conv tb
       subst hv
       clear tb
       go_wp2
       go_ret
       exact ⟨ret_text HR.out.symm, TB.out.below⟩
end Go.Proofs.Ytkomnnijnggbpaa
