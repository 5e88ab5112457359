/- The walk of the law FnTwist: of a log of whose first fragment a byte was changed nothing comes back. -/
import Derived.Test.YtjcgbpjgoacdjaaZ10
import Derived.Test.YtjcgbpjgoacdjaaZ6
import Derived.Test.YtjcgbpjgoacdjaaZ3
import Derived.Test.YtjcgbpjgoacdjaaZ7
import Derived.Test.YtjcgbpjgoacdjaaTurned
import Derived.Test.YtjcgbpjgoacdjaaZ0
import Derived.Deep.CutRange
namespace Go.Proofs.Ytjcgbpjgoacdjaa
open Go.RowKit
set_option linter.unusedVariables false

theorem lists_nil {xs : List ByteArray} (h : lists xs = []) : xs = [] := by
 unfold lists at h
 exact List.map_eq_nil_iff.1 h
theorem small_log {rs : List (List UInt8)} (h : recsOk rs) : ∀ n, (logFrom n rs).length ≤ 8200 * rs.length := by
 induction rs with
 | nil => intro n; simp [logFrom]
 | cons r rs ih =>
   intro n
   have h1 := ih (fun t ht => h t (by simp [ht])) (n + (putRec n true r).length)
   have h2 := rec_short (n := n) (first := true) (h r (by simp))
   rw [logFrom, List.length_append, List.length_cons]
   omega
theorem buf_lat {w0 w w' : World} {g : Nat} {xs : List UInt8} (t : Buf w0 w g xs) (hb : Below w.heap.size w w') : Buf w0 w' g xs := by
 obtain ⟨cs, n, h, r⟩ := t.block
 exact ⟨⟨cs, n, (hb.block g (Array.getElem?_eq_some_iff.1 h).1).trans h, r⟩, t.own, t.below.trans (hb.mono t.below.size)⟩
theorem three_row (w : World) (A B C : ByteArray) : StrAt (w.alloc (.cells #[.string A, .string B, .string C] 9)) (some ⟨w.heap.size, 0, none⟩) 3 3 [A, B, C] := by
 have h : StrBlock (w.alloc (.cells #[.string A, .string B, .string C] 9)) w.heap.size [A, B, C] := alloc_at w _
 exact h.row rfl
set_option maxHeartbeats 8000000 in
set_option maxRecDepth 100000 in
theorem fnTwist_walk (a0 : Option Addr) (len0 cap0 : Nat) (z0 : List Int) (w : World) (w0 : IsRow .u8 w a0 len0 cap0 z0) :
   Calls Try.prog 7 #[.slice a0 len0 cap0] w fun e w' => e = .returned (.bool true) ∧ Below w.heap.size w w' := by
 have HR := Lib.hid (bytes_of_row w0 w.heap.size (Nat.le_refl _))
 clear w0
 by_cases hbig : len0 ≤ 1048576
 · go_enter Try.func7, Try.ntmps7
   go_wp2_with fail
   refine (big_no a0 len0 cap0 _ hbig).mono ?_
   rintro e w1 ⟨rfl, rfl⟩
   go_wp2_with fail
   refine (at_some a0 len0 cap0 z0 0 _ _ HR.out hbig (by omega)).mono ?_
   rintro e w2 ⟨x0, hx0, rfl, rfl⟩
   obtain ⟨n1, hn1⟩ : ∃ n : Nat, x0 % 4 = n := ⟨_, rfl⟩
   have hn1b : n1 ≤ 3 := by omega
   have hn1i : (x0 : Int) % 4 = (n1 : Int) := by omega
   clear hn1
   go_wp2_with fail
   try rw [hn1i]
   refine (plain_any a0 len0 cap0 z0 1 n1 (by omega) _ HR.out hbig (by omega)).mono ?_
   rintro e w2 ⟨A, hA, rfl, b2⟩
   have B2 := Lib.hid b2
   have HR2 := Lib.hid (below_bytes HR.out b2)
   clear b2
   go_wp2_with fail
   refine (at_some a0 len0 cap0 z0 1 _ _ HR2.out hbig (by omega)).mono ?_
   rintro e w3 ⟨x1, hx1, rfl, rfl⟩
   obtain ⟨n2, hn2⟩ : ∃ n : Nat, x1 % 9 = n := ⟨_, rfl⟩
   have hn2b : n2 ≤ 8 := by omega
   have hn2i : (x1 : Int) % 9 = (n2 : Int) := by omega
   clear hn2
   go_wp2_with fail
   try rw [hn2i]
   refine (plain_any a0 len0 cap0 z0 5 n2 (by omega) _ HR2.out hbig (by omega)).mono ?_
   rintro e w3 ⟨B, hB, rfl, b3⟩
   obtain ⟨xs, hxs⟩ : ∃ l : List ByteArray, [A, B, (⟨#[101, 110, 100]⟩ : ByteArray)] = l := ⟨_, rfl⟩
   have hrow := three_row w3 A B ⟨#[101, 110, 100]⟩
   rw [hxs] at hrow
   have K3 := Lib.hid (b3.trans ((one_below w3 (.cells #[.string A, .string B, .string ⟨#[101, 110, 100]⟩] 9)).mono b3.size))
   have R3 := Lib.hid hrow
   have B3 := Lib.hid (B2.out.trans (K3.out.mono B2.out.size))
   have HR3 := Lib.hid (below_bytes HR2.out K3.out)
   have HOK := Lib.hid (show recsOk (lists xs) by
     rw [← hxs]
     intro r hr
     simp only [lists, List.map_cons, List.map_nil, List.mem_cons, List.not_mem_nil, or_false] at hr
     have e1 : A.data.toList.length = A.size := by simp
     have e2 : B.data.toList.length = B.size := by simp
     rcases hr with rfl | rfl | rfl
     · omega
     · omega
     · decide)
   have HF := Lib.hid (show FitS xs by
     rw [← hxs]
     intro x hx
     simp only [List.mem_cons, List.not_mem_nil, or_false] at hx
     unfold maxLen
     rcases hx with rfl | rfl | rfl
     · omega
     · omega
     · decide)
   obtain ⟨r1, rr, hr1⟩ : ∃ r rr, lists xs = r :: rr := ⟨A.data.toList, [B.data.toList, (⟨#[101, 110, 100]⟩ : ByteArray).data.toList], by rw [← hxs]; rfl⟩
   obtain ⟨kk, tt, zz, hk1, hk4, htt, hfr⟩ := log_first r1 rr
   obtain ⟨S, hS, hSl⟩ := text_of (logB (lists xs))
   have HPS := Lib.hid (show putLogB (lists xs) = S.data.toList by rw [putLogB, if_pos HOK.out, hS])
   have hSs : S.size ≤ 30000 := by
     rw [hSl]
     have h1 := small_log HOK.out 0
     have h2 : (lists xs).length = 3 := by rw [lists_len, ← hxs]; rfl
     unfold logB
     omega
   rw [hr1] at hS hSl
   obtain ⟨m, hm⟩ : ∃ m, tt.length = m := ⟨_, rfl⟩
   obtain ⟨f1, f2, _⟩ := frag_reads (s := S.data.toList) (q := 0) (k := kk) (t := tt) (z := zz) (by rw [List.drop_zero, hS, hfr]) (by omega) htt
   rw [hm] at f1 f2 htt
   have hSm : S.data.toList.length = S.size := by simp
   rw [hSm] at f1
   have HG := Lib.hid (show getFix S.data.toList 4 2 = (m : Int) from f2)
   have HTW := Lib.hid (show ∀ (i : Nat) (v : UInt8), (i < 4 ∨ (6 ≤ i ∧ i < m + 7)) → S.data.toList.getD i 0 ≠ v → Longest (S.data.toList.set i v) [] from fun i v hi hv => by
     rw [hS] at hv ⊢
     exact longest_twist hk4 (by rw [hm]; exact htt) hfr (by rw [hm]; exact hi) hv)
   have hsm : S.size ≤ maxLen := by unfold maxLen; omega
   clear hxs hrow b3 hr1 hfr hS hSl f2 hm
   obtain ⟨w4, hw4⟩ : ∃ X, w3.alloc (.cells #[.string A, .string B, .string ⟨#[101, 110, 100]⟩] 9) = X := ⟨_, rfl⟩
   obtain ⟨g4, hg4⟩ : ∃ g, w3.heap.size = g := ⟨_, rfl⟩
   rw [hw4, hg4] at R3
   rw [hw4] at B3 HR3
   go_wp2_with fail
   clear hw4 hg4
   refine (implPutLog _ 3 3 xs (by omega) HF.out _ R3.out).mono ?_
   intro e w5 h5
   obtain ⟨Y, hY, hz, rfl, b5⟩ := h5.text
   clear hz
   rw [HPS.out] at hY
   obtain rfl : Y = S := bytes_ext hY
   have R5 := Lib.hid (R3.out.below b5)
   have B5 := Lib.hid (B3.out.trans (b5.mono B3.out.size))
   have HR5 := Lib.hid (below_bytes HR3.out b5)
   clear h5 hY b5
   go_wp2_with fail
   refine (specPutLog _ 3 3 xs (by omega) HF.out _ R5.out).mono ?_
   intro e w6 h6
   obtain ⟨S, hY, hz, rfl, b6⟩ := h6.text
   clear hz
   rw [HPS.out] at hY
   obtain rfl : S = Y := bytes_ext hY
   have B6 := Lib.hid (B5.out.trans (b6.mono B5.out.size))
   have HR6 := Lib.hid (below_bytes HR5.out b6)
   clear h6 hY b6
   obtain ⟨cap, W, hcv, hbuf, hcap⟩ := buf_new w6 S
   have HBF := Lib.hid hbuf
   have RW := Lib.hid (below_bytes HR6.out hbuf.below)
   clear hbuf
   go_wp2_with fail
   clear hcv
   refine (specGetFix S 4 2 _ hsm (by omega)).mono ?_
   rw [HG.out]
   rintro e w7 ⟨rfl, b7⟩
   have HB7 := Lib.hid (buf_lat HBF.out b7)
   have RW7 := Lib.hid (below_bytes RW.out b7)
   clear b7
   go_wp2_with fail
   refine (at_some a0 len0 cap0 z0 20 _ _ RW7.out hbig (by omega)).mono ?_
   rintro e w8 ⟨x4, hx4, rfl, rfl⟩
   obtain ⟨n0, hn0, hn0b⟩ : ∃ n : Nat, ((x4 : Int) % ((m : Int) + 5)) = (n : Int) ∧ n < m + 5 := ⟨x4 % (m + 5), by simp, Nat.mod_lt _ (by omega)⟩
   have hd0 : ((m : Int) + 5 == 0) = false := beq_eq_false_iff_ne.2 (by omega)
   obtain ⟨i, hi, hib, hii⟩ : ∃ i : Nat, (i < 4 ∨ (6 ≤ i ∧ i < m + 7)) ∧ i < S.size ∧ ((¬ (3 : Int) < (n0 : Int) ∧ i = n0) ∨ ((3 : Int) < (n0 : Int) ∧ i = n0 + 2)) := by
     by_cases h3 : 3 < n0
     · exact ⟨n0 + 2, by omega, by omega, .inr ⟨by omega, rfl⟩⟩
     · exact ⟨n0, by omega, by omega, .inl ⟨by omega, rfl⟩⟩
   go_upto_if 41 with fail
   try rw [hn0]
   go_cut [7] from 42 to 43 (fun v7 wx => v7 = .int .i64 i ∧ wx = w7)
   case first =>
     rcases hii with ⟨h3, rfl⟩ | ⟨h3, rfl⟩
     · go_wp2_with fail
       go_meet
       case rel => exact ⟨rfl, rfl⟩
     · go_wp2_with fail
       go_meet
       case rel => exact ⟨by congr 1, rfl⟩
   case rest =>
     obtain ⟨rfl, rfl⟩ := hcut
     clear hii hn0 hd0 hn0b
     obtain ⟨v, hv, hv2, hcall⟩ := at_one a0 len0 cap0 z0 22 _ RW7.out hbig (by omega)
     have hZL : S.data.toList.length = S.size := by simp
     have hcell := HB7.out.cell i (by omega)
     have hfro := HB7.out.frozen i (by omega)
     unfold u8v at hcell
     obtain ⟨c, hc⟩ : ∃ c, S.data.toList.getD i 0 = c := ⟨_, rfl⟩
     rw [hc] at hcell
     have HC := Lib.hid hc
     have HCALL := Lib.hid hcall
     have i1 : (i : Int) < (S.size : Int) := by omega
     have HLT := Lib.hid (HTW.out i (turned c v) hi (by rw [hc]; exact turned_ne c v))
     obtain ⟨W, hW⟩ : ∃ X, wc = X := ⟨_, rfl⟩
     rw [hW] at HB7 RW7 HCALL hcell hfro ⊢
     clear hc hcall hW
     go_wp2_with fail
     refine wp_region_still_tail 13 (by kernel_rfl) (by kernel_rfl) ?_
     simp only [List.take_succ_cons, List.take_zero, List.drop_succ_cons, List.drop_zero]
     iterate 7 still_step
     still_call (HCALL.out _ (fun _ => rfl) rfl)
     iterate 5 still_step
     refine wpStill_nil ?_
     change wpList _ _ _ _ _ W.drew
     have HB2 := Lib.hid (show Buf w6 (W.setCell ⟨w6.heap.size, i, none⟩ (.int .u8 (bits .xor .u8 (c.toNat : Int) (1 + (v : Int) % 255)))).drew w6.heap.size (S.data.toList.set i (turned c v)) from (HB7.out.set i (turned c v) (turned_val c v)).drewN 1)
     have hcv2 : (convert 22 9 (.slice (some ⟨w6.heap.size, 0, none⟩) S.size cap)).run Try.prog (W.setCell ⟨w6.heap.size, i, none⟩ (.int .u8 (bits .xor .u8 (c.toNat : Int) (1 + (v : Int) % 255)))).drew = .ok (.string ⟨(S.data.toList.set i (turned c v)).toArray⟩) (W.setCell ⟨w6.heap.size, i, none⟩ (.int .u8 (bits .xor .u8 (c.toNat : Int) (1 + (v : Int) % 255)))).drew :=
       HB2.out.str (by rw [List.length_set]; exact hZL)
     have HBZ := Lib.hid (B6.out.trans (HB2.out.below.mono B6.out.size))
     obtain ⟨U, hU⟩ : ∃ U : ByteArray, (⟨(S.data.toList.set i (turned c v)).toArray⟩ : ByteArray) = U := ⟨_, rfl⟩
     have hUs : U.size ≤ 1048576 := by rw [← hU, text_size, List.length_set, hZL]; omega
     have hUsz : U.size = S.size := by rw [← hU, text_size, List.length_set, hZL]
     have HUD := Lib.hid (show U.data.toList = S.data.toList.set i (turned c v) by rw [← hU])
     have HUL := Lib.hid (show Longest U.data.toList [] by rw [HUD.out]; exact HLT.out)
     have HLI := Lib.hid (show LogIs U.data.toList [] false by
       have h1 := logIs_of HUL.out
       have h2 : ¬ (logB []).length = U.data.toList.length := by
         have h3 : U.data.toList.length = U.size := by simp
         have h4 : (logB []).length = 0 := rfl
         omega
       rw [if_neg h2, decide_eq_false h2] at h1
       exact h1)
     rw [hU] at hcv2
     clear hU hZL hUsz
     obtain ⟨W9, hW9⟩ : ∃ X, (W.setCell ⟨w6.heap.size, i, none⟩ (.int .u8 (bits .xor .u8 (c.toNat : Int) (1 + (v : Int) % 255)))).drew = X := ⟨_, rfl⟩
     rw [hW9] at hcv2 HBZ HB2
     go_wp2_with fail
     refine (implRecover U hUs _).mono ?_
     rintro e w10 ⟨v1, ys, rfl, hlo, o10, b10⟩
     obtain rfl := lists_nil (longest_one hlo HUL.out)
     obtain ⟨ad1, cap1, rfl⟩ := o10.form
     have HL0 := Lib.hid (show (logB (lists [])).length = 0 from rfl)
     have B10 := Lib.hid (HBZ.out.trans (b10.mono HBZ.out.size))
     have HB10 := Lib.hid (buf_lat HB2.out b10)
     have hcv3 := HB10.out.str (c := cap) (n := S.size) (by rw [List.length_set]; simp)
     rw [← HUD.out, as_text (A := U) rfl] at hcv3
     clear hlo o10 b10 hcv2 hW9
     rw [HL0.out]
     go_wp2_with fail
     refine (implGetLog U hUs _).mono ?_
     rintro e w11 ⟨v2, zs, bb, rfl, hli, o11, b11⟩
     obtain ⟨e1, rfl⟩ := logIs_one hli HLI.out
     have B11 := Lib.hid (B10.out.trans (b11.mono B10.out.size))
     clear hli o11 b11 hcv3
     go_wp2
     go_ret
     exact ⟨rfl, B11.out⟩
 · go_enter Try.func7, Try.ntmps7
   go_wp2_with fail
   refine (big_yes a0 len0 cap0 _ (by omega)).mono ?_
   rintro e w1 ⟨rfl, rfl⟩
   go_wp2
   go_ret
   exact ⟨rfl, Below.refl _ _⟩
end Go.Proofs.Ytjcgbpjgoacdjaa
