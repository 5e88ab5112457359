/- Contract of the program's Compress. -/
import Derived.Test.YtkomnnijnggbpaaSpecCompress
import Derived.Test.YtkomnnijnggbpaaImplTokens
namespace Go.Proofs.Ytkomnnijnggbpaa
open Go.RowKit
set_option linter.unusedVariables false

theorem two_bytes_at (w : World) (a b : UInt8) {A B : Int} {ad : Nat} (had : ad = w.heap.size) (hA : A = a.toNat) (hB : B = b.toNat) : ∀ j, j < [a, b].length → (w.alloc (.cells #[.int .u8 A, .int .u8 B] 5)).cell? ⟨ad, j, none⟩ = some (u8v ([a, b].getD j 0)) := by
 subst had; exact two_bytes w a b hA hB
theorem one_byte_at (w : World) (a : UInt8) {A : Int} {ad : Nat} (had : ad = w.heap.size) (hA : A = a.toNat) : ∀ j, j < [a].length → (w.alloc (.cells #[.int .u8 A] 5)).cell? ⟨ad, j, none⟩ = some (u8v ([a].getD j 0)) := by
 subst had; exact one_byte w a hA

theorem kept_var {w0 wr w2 : World} {v : Value} {xs : List UInt8} (t : BRow w0 wr v xs) {cs : Array Value} {o : Obj} (hg : ((wr.alloc (.cells cs 103)).alloc o).grownBy w2 v.ownBlock) (j : Nat) : w2.cell? ⟨wr.heap.size, j, none⟩ = cs[j]? := by
 have hb := var_block wr cs 103 o
 have h := hg.block wr.heap.size (lt_of_block hb) (((t.alloc _).alloc _).apart hb (by decide))
 rw [World.cell?_of_block (a := ⟨wr.heap.size, j, none⟩) h]
 exact var_cell wr cs _ j o
theorem kept_row {w0 wr w2 : World} {v : Value} {xs : List UInt8} (t : BRow w0 wr v xs) {gl : Nat} {cur cs : Array Value} {o o2 : Obj} (hcu : wr.heap[gl]? = some (.cells cur 103 (0, 0))) (hg : ((wr.alloc o2).alloc o).grownBy w2 v.ownBlock) : w2.heap[gl]? = some (.cells cur 103 (0, 0)) :=
 (hg.block gl (lt_later (keep_block hcu _) _) (t.apart hcu (by decide))).trans (keep_block (keep_block hcu _) _)

set_option maxHeartbeats 2000000 in
set_option maxRecDepth 100000 in
theorem implCompress (s : ByteArray) (w : World) :
   Calls Try.prog 55 #[.string s] w (PackOut w (compress s.data.toList)) := by
 have HCL := Lib.hid (compress_len s.data.toList)
 go_enter Try.func55, Try.ntmps55
 go_wp2_with fail
 refine (implTokens s _).mono ?_
 rintro e w1 ⟨v, rfl, t⟩
 obtain ⟨xs, hxs⟩ : ∃ xs, tokens s.data.toList = xs := ⟨_, rfl⟩
 rw [hxs] at t
 have HXS := Lib.hid hxs
 have HOK := Lib.hid (show ∀ y ∈ xs, TokOk y by rw [← hxs]; exact tokens_ok _)
 clear hxs
 have B1 := Lib.hid (show BRow w w1 (.slice none 0 0) [] from ⟨World.ownsRow_nil _ _ _ _, t.below⟩)
 rcases t.row.2 with ⟨rfl, h0⟩ | ⟨gl, capl, cur, rfl, hgl, hcur, hn1, hn2, hn3, hn4⟩
 · have hx : xs = [] := List.eq_nil_of_length_eq_zero h0
   subst hx
   have HR := Lib.hid (show compress s.data.toList = [] by unfold compress; rw [HXS.out]; rfl)
   have hcv := run_convert_bytes_nil (P := Try.prog) w1 22 5 Try.underlying22 Try.underlying5 0 0 9 Try.underlying9
   clear t h0
   go_wp2_with fail
   go_loop [3, 9] (fun v i => v = .slice none 0 0 ∧ i = .int .i64 0) (fun _ _ => 0)
   case atStart => exact ⟨rfl, rfl⟩
   case round =>
     obtain ⟨rfl, rfl⟩ := hrel
     go_wp2
     go_ret
     exact ⟨ret_text (a := []) HR.out.symm, B1.out.below⟩
 · have HCUR := Lib.hid (And.intro hcur hn4)
   have HTL := Lib.hid (show (xs.flatMap encTok).length ≤ 4001 by have := HCL.out; unfold compress at this; rw [HXS.out] at this; exact this)
   have hnl : xs.length ≤ 4001 := by have := few_toks xs; have := HTL.out; omega
   clear t hgl hcur hn4 hn3 hn2
   go_wp2_with fail
   go_loopw [3, 9] (fun v i wr => ∃ k : Nat, k ≤ xs.length ∧ i = .int .i64 k ∧ BRow w wr v ((xs.take k).flatMap encTok) ∧ wr.heap[gl]? = some (.cells cur 103 (0, 0))) (fun _ i _ => xs.length - (intOf i).toNat)
   case atStart => exact ⟨0, Nat.zero_le _, rfl, B1.out, HCUR.out.1⟩
   case round =>
     obtain ⟨k, hk, rfl, tb, hcu⟩ := hrel
     have TB := Lib.hid tb
     have HCU := Lib.hid hcu
     by_cases hlt : k < xs.length
     · obtain ⟨y, hy⟩ : ∃ y, xs[k]? = some y := ⟨_, List.getElem?_eq_getElem hlt⟩
       obtain ⟨c0, c1, c2⟩ := list_cells hcu HCUR.out.2 k y hy
       have HY := Lib.hid hy
       have hok := HOK.out y (List.mem_of_getElem? hy)
       have hlen : y.len ≤ 67 := by rcases hok with h | h <;> omega
       have htl : y.text.length ≤ 127 := by
         rcases hok with h | h
         · exact h.2.2.2
         · rw [h.1]; simp
       have hfar : y.far ≤ 255 := by rcases hok with h | h <;> omega
       have HOY := Lib.hid hok
       clear tb hcu hy hok
       have i1 : (k : Int) < (xs.length : Int) := by omega
       have HEN := Lib.hid (enc_part xs k y HY.out)
       by_cases hl : y.text = []
       · have HEY := Lib.hid (show encTok y = [UInt8.ofNat (124 + y.len), UInt8.ofNat y.far] by
           unfold encTok; rw [if_pos]; rcases HOY.out with h | h
           · rw [hl] at h; simp at h
           · omega)
         have HW := Lib.hid (show (124 + (y.len : Int)) = ((UInt8.ofNat (124 + y.len)).toNat : Int) ∧ (y.far : Int) = ((UInt8.ofNat y.far).toNat : Int) from ⟨by rw [UInt8.toNat_ofNat']; omega, by rw [UInt8.toNat_ofNat']; omega⟩)
         rw [hl] at c0
         go_wp2_with (at_builtin; refine wpList_plain rfl (fun K hK => ?_); refine op_pushL [UInt8.ofNat (124 + y.len), UInt8.ofNat y.far] _ _ rfl rfl rfl (two_bytes_at _ _ _ (by simp) HW.out.1 HW.out.2) ((TB.out.alloc _).alloc _) (by have := HEN.out.2; have := HTL.out; rw [HEY.out] at *; simp only [List.length_cons, List.length_nil] at *; omega) ?_; intro v2 w2 t2 hg2; refine hK _ _ ?_; clear hK K; have HB2 := Lib.hid ((hg2.block gl (lt_later (keep_block HCU.out _) _) (TB.out.apart HCU.out (by decide))).trans (keep_block (keep_block HCU.out _) _)); have T2 := Lib.hid t2; clear t2 hg2)
         go_roundw
         case rel => exact ⟨k + 1, by omega, by go_num, by rw [HEN.out.1, HEY.out]; exact T2.out, HB2.out⟩
         case measure => simp [intOf]; omega
       · have HEY := Lib.hid (show encTok y = UInt8.ofNat y.text.length :: y.text by
           unfold encTok; rw [if_neg]; rcases HOY.out with h | h
           · omega
           · exact absurd h.1 hl)
         have HW := Lib.hid (show (y.text.length : Int) = ((UInt8.ofNat y.text.length).toNat : Int) by rw [UInt8.toNat_ofNat']; omega)
         obtain ⟨Y, hY⟩ : ∃ Y : ByteArray, (⟨y.text.toArray⟩ : ByteArray) = Y := ⟨_, rfl⟩
         rw [hY] at c0
         have HYL := Lib.hid (show Y.data.toList = y.text by rw [← hY])
         have hYs : Y.size = y.text.length := by rw [← hY]; simp [ByteArray.size]
         have hne : Y.toList.isEmpty = false := by rw [ByteArray.toList_eq, List.isEmpty_eq_false_iff, HYL.out]; exact hl
         have hne2 : ¬ Y.toList = [] := by rw [ByteArray.toList_eq, HYL.out]; exact hl
         clear hY hl
         go_wp2_with (first
           | (at_builtin; refine wpList_plain rfl (fun K hK => ?_); refine op_pushL [UInt8.ofNat y.text.length] _ _ rfl rfl rfl (one_byte_at _ _ (by simp) HW.out) ((TB.out.alloc _).alloc _) (by have := HEN.out.2; have := HTL.out; simp only [List.length_cons, List.length_nil] at *; omega) ?_; intro v2 w2 t2 hg2; refine hK _ _ ?_; clear hK K; have HB2 := Lib.hid (kept_row (cs := #[]) TB.out HCU.out hg2); have hk0 := kept_var TB.out hg2 0; have T2 := Lib.hid t2; clear t2 hg2)
           | (at_builtin; refine wpList_plain rfl (fun K hK => ?_); refine op_pushS Y _ _ rfl rfl rfl T2.out (by have := HEN.out.2; have := HTL.out; rw [HEY.out] at *; simp at *; omega) ?_; intro v3 w3 t3 hg3; refine hK _ _ ?_; clear hK K; have HB3 := Lib.hid ((hg3.block gl (lt_of_block HB2.out) (T2.out.apart HB2.out (by decide))).trans HB2.out); have T3 := Lib.hid t3; clear t3 hg3))
         go_roundw
         case rel => exact ⟨k + 1, by omega, by go_num, by rw [HEN.out.1, HEY.out]; have h := T3.out; rw [HYL.out] at h; simpa using h, HB3.out⟩
         case measure => simp [intOf]; omega
     · obtain rfl : k = xs.length := by omega
       have e0 : xs.take xs.length = xs := List.take_of_length_le (Nat.le_refl _)
       rw [e0] at tb TB
       have HR := Lib.hid (show compress s.data.toList = xs.flatMap encTok by unfold compress; rw [HXS.out])
       obtain ⟨E, hE⟩ : ∃ E, xs.flatMap encTok = E := ⟨_, rfl⟩
       rw [hE] at tb TB HR
       clear hE e0 hcu
       obtain ⟨n, cc, g, hv, hcv⟩ := brow_conv tb
       subst hv
       clear tb
       go_wp2
       go_ret
       exact ⟨ret_text HR.out.symm, TB.out.below⟩
end Go.Proofs.Ytkomnnijnggbpaa
