/- The program's filter of rows and columns, and its foot. -/
import Derived.Laws.MakeOwn
import Derived.Test.YtkomnnijnggbpaaZ5
import Derived.Test.YtkomnnijnggbpaaZ0
import Derived.Test.YtkomnnijnggbpaaFilI
import Derived.Test.YtkomnnijnggbpaaPutFix
import Derived.Test.YtkomnnijnggbpaaPutTabS
namespace Go.Proofs.Ytkomnnijnggbpaa
open Go.RowKit
set_option linter.unusedVariables false

theorem implColumnKey (R C : ByteArray) (hR : R.size ≤ 1000000) (hC : C.size ≤ 1000000) (w : World) :
   Calls Try.prog 57 #[.string R, .string C] w fun e w' => e = .returned (.string ((R ++ ⟨#[0]⟩) ++ C)) ∧ w' = w := by
 have q1 : ¬ 9223372036854775807 < R.size + 1 := by omega
 have q2 : ¬ 9223372036854775807 < R.size + 1 + C.size := by omega
 go_enter Try.func57, Try.ntmps57
 go_wp2
 go_ret
 exact ⟨rfl, rfl⟩

def StrBlk (w : World) (g : Nat) (ks : List ByteArray) (m : Nat) : Prop := w.heap[g]? = some (.cells (ks.map Value.string ++ List.replicate m (Value.string ⟨#[]⟩)).toArray 9 (0, 0))
theorem strs_made (n : Nat) (w : World) (hn : n ≤ 10000) : (Instr.makeSlice 58 (.int .i64 n) (.int .i64 n)).run Try.prog w = .ok (.slice (some ⟨w.heap.size, 0, none⟩) n n) (w.alloc (.cells (Array.replicate n (Value.string ⟨#[]⟩)) 9)) := by
 obtain ⟨ti, hti, hz0, hz1, hz2⟩ := info_parts infoStr
 have h := run_makeSlice (P := Try.prog) w 58 9 ti (Value.string ⟨#[]⟩) Try.underlying58 hti hz0 .i64 .i64 n n (by omega) (by omega) (by rw [hz1]; simp; omega) (by rw [hz2]; omega) (by omega)
 rw [hz1, Int.toNat_natCast, Nat.mul_one] at h
 have e : (Value.string ⟨#[]⟩).cells = #[Value.string ⟨#[]⟩] := rfl
 have e2 : madeCells #[Value.string ⟨#[]⟩] n = Array.replicate n (Value.string ⟨#[]⟩) := by
   apply Array.ext
   · simp [madeCells]
   · intro j h1 h2
     simp [madeCells, Nat.mod_one]
 rw [e, e2] at h
 exact h
theorem strblk_new (n : Nat) (w : World) : StrBlk (w.alloc (.cells (Array.replicate n (Value.string ⟨#[]⟩)) 9)) w.heap.size [] n := by
 unfold StrBlk
 rw [alloc_at]
 simp
theorem StrBlk.set {w : World} {g m : Nat} {ks : List ByteArray} (h : StrBlk w g ks (m + 1)) (x : ByteArray) : StrBlk (w.setCell ⟨g, ks.length, none⟩ (.string x)) g (ks ++ [x]) m := by
 unfold StrBlk at h ⊢
 rw [set_block _ h]
 congr 2
 apply Array.toList_inj.1
 rw [Array.toList_setIfInBounds]
 rw [List.set_append_right _ _ (by simp), List.length_map, Nat.sub_self, List.replicate_succ, List.set_cons_zero]
 simp
theorem StrBlk.cell {w : World} {g m : Nat} {ks : List ByteArray} (h : StrBlk w g ks (m + 1)) : w.cell? ⟨g, ks.length, none⟩ = some (Value.string ⟨#[]⟩) ∧ w.frozen? ⟨g, ks.length, none⟩ = false := by
 unfold StrBlk at h
 constructor
 · simp [World.cell?, h, List.replicate_succ]
 · simp [World.frozen?, h]
theorem StrBlk.row {w : World} {g n : Nat} {ks : List ByteArray} (h : StrBlk w g ks 0) (hn : ks.length = n) : StrAt w (some ⟨g, 0, none⟩) n n ks := by
 refine ⟨hn, Nat.le_refl _, fun k x hk => ⟨g, rfl, ?_⟩⟩
 unfold StrBlk at h
 simp [World.cell?, h, hk]
theorem StrBlk.keep {w w' : World} {g m : Nat} {ks : List ByteArray} (h : StrBlk w g ks m) (hb : Below w.heap.size w w') : StrBlk w' g ks m := (hb.block _ (Array.getElem?_eq_some_iff.1 h).1).trans h

set_option maxHeartbeats 2000000 in
set_option maxRecDepth 100000 in
theorem implColumnFilter (a : Option Addr) (n c : Nat) (xs : List Cel) (hn : n ≤ 60) (hok : cellsOk xs = true) (w : World) (h : CelRowO w a n c xs) :
   Calls Try.prog 27 #[.slice a n c] w (TextIs w (filterB (xs.map nameKey))) := by
 have HR := Lib.hid h
 have HS := Lib.hid (show ∀ x ∈ xs, x.row.size ≤ 1000000 ∧ x.col.size ≤ 1000000 from fun x hx => names_small hok hx)
 have HFT := Lib.hid (names_fit hok)
 have hmk := strs_made n w (by omega)
 have N0 := Lib.hid (strblk_new n w)
 have B0 := Lib.hid (one_below w (.cells (Array.replicate n (Value.string ⟨#[]⟩)) 9))
 clear h hok
 go_enter Try.func27, Try.ntmps27
 go_wp2_with fail
 obtain ⟨w0, hw0⟩ : ∃ W, w.alloc (.cells (Array.replicate n (Value.string ⟨#[]⟩)) 9) = W := ⟨_, rfl⟩
 rw [hw0] at N0 B0 ⊢
 clear hmk hw0
 go_loopw [4, 5, 11] (fun ii xx kk wr => ∃ i : Nat, i ≤ n ∧ kk = .int .i64 i ∧ Hid (StrBlk wr w.heap.size ((xs.take i).map nameOf) (n - i) ∧ Below w.heap.size w wr)) (fun _ _ kk _ => n - (intOf kk).toNat)
 case atStart => exact ⟨0, Nat.zero_le _, rfl, ⟨by simpa using N0.out, B0.out⟩⟩
 case round =>
   obtain ⟨i, hi, rfl, HX⟩ := hrel
   by_cases hlt : i < n
   · obtain ⟨⟨R, C, t, G, V⟩, hy⟩ : ∃ y, xs[i]? = some y := ⟨_, List.getElem?_eq_getElem (by rw [HR.out.1]; exact hlt)⟩
     obtain ⟨g, off, hag, k5⟩ := HR.out.2.2 i _ hy
     subst hag
     have hsz := HS.out _ (List.mem_of_getElem? hy)
     have hR : R.size ≤ 1000000 := hsz.1
     have hC : C.size ≤ 1000000 := hsz.2
     have hlen : ((xs.take i).map nameOf).length = i := by rw [List.length_map, List.length_take, HR.out.1]; omega
     have HLN := Lib.hid hlen
     have HT := Lib.hid (show (xs.take (i + 1)).map nameOf = (xs.take i).map nameOf ++ [(R ++ ⟨#[0]⟩) ++ C] by rw [take_next hy, List.map_append]; rfl)
     have K5 := k5.below HX.out.2
     unfold Cel5O at K5
     obtain ⟨c0, c1, c2, c3, c4⟩ := K5
     have i1 : (i : Int) < (n : Int) := by omega
     have i0 : (0 : Int) ≤ (i : Int) := by omega
     have NB := Lib.hid (show StrBlk wr w.heap.size ((xs.take i).map nameOf) ((n - (i + 1)) + 1) by have := HX.out.1; rwa [show n - i = n - (i + 1) + 1 by omega] at this)
     have N1 := Lib.hid (NB.out.keep (one_below wr (.cells #[.string R, .string C, .int .i64 t, .bool G, .string V] 36)))
     have B1 := Lib.hid (HX.out.2.alloc (by have := HX.out.2.size; simpa using this) (.cells #[.string R, .string C, .int .i64 t, .bool G, .string V] 36))
     have n1 := N1.out.cell
     rw [hlen] at n1
     obtain ⟨nc, nf⟩ := n1
     clear hy k5 hsz hlen
     go_wp2_with fail
     refine (implColumnKey R C hR hC _).mono ?_
     rintro e w1 ⟨rfl, rfl⟩
     go_wp2
     go_roundw
     case rel =>
       refine ⟨i + 1, by omega, by go_num, ⟨?_, B1.out.setCell (Nat.le_refl _) _⟩⟩
       rw [HT.out]
       have := N1.out.set ((R ++ ⟨#[0]⟩) ++ C)
       rw [HLN.out] at this
       exact this
     case measure => simp [intOf]; omega
   · obtain rfl : i = n := by omega
     have HE := Lib.hid (show xs.take i = xs from List.take_of_length_le (by rw [HR.out.1]; omega))
     have HRW := Lib.hid (show StrAt wr (some ⟨w.heap.size, 0, none⟩) i i (xs.map nameOf) from StrBlk.row (by have := HX.out.1; rw [HE.out, Nat.sub_self] at this; exact this) (by rw [List.length_map]; exact HR.out.1))
     go_wp2_with fail
     refine (implFilter _ i i (xs.map nameOf) (by omega) HFT.out _ HRW.out).mono ?_
     rintro e w1 ⟨rfl, b1⟩
     have B1 := Lib.hid (HX.out.2.trans (b1.mono HX.out.2.size))
     clear b1
     go_wp2
     go_ret
     exact ⟨by rw [names_lists]; rfl, B1.out⟩

theorem foots_next {l : List Nat} {j x : Nat} (hx : l[j]? = some x) : foots (l.take (j + 1)) = foots (l.take j) ++ fixB x 4 := by
 rw [take_next hx]; unfold foots; rw [List.flatMap_append]; simp
set_option maxHeartbeats 2000000 in
set_option maxRecDepth 100000 in
theorem implPutFoot (b i f n e z : Nat) (p : Bool) (hb : b ≤ 1000000) (hi : i ≤ 1000000) (hf : f ≤ 1000000) (hn : n ≤ 1000000) (he : e ≤ 1000000) (hz : z ≤ 1000000) (w : World) :
   Calls Try.prog 28 #[.int .i64 b, .int .i64 i, .int .i64 f, .int .i64 n, .agg #[.int .i64 e, .int .i64 z, .bool p]] w (TextIs w (footB b i f n ⟨e, z, p⟩ ++ magicB)) := by
 have B0 := Lib.hid (one_below w (.cells #[.int .i64 e, .int .i64 z, .bool p] 28))
 obtain ⟨u, hu⟩ : ∃ u, flag p = u := ⟨_, rfl⟩
 have hu1 : u ≤ 1 := by rw [← hu]; unfold flag; split <;> omega
 have HU := Lib.hid hu
 obtain ⟨nums, hnums⟩ : ∃ l, [b, i, b + i, f, n, e, z, u] = l := ⟨_, rfl⟩
 have HNM := Lib.hid hnums
 have hx8 : nums.length = 8 := by rw [← hnums]; rfl
 have HX8 := Lib.hid hx8
 have hall : ∀ (j x : Nat), nums[j]? = some x → x ≤ 2000000 := by
   intro j x hj
   have hm := List.mem_of_getElem? hj
   rw [← hnums] at hm
   simp only [List.mem_cons, List.not_mem_nil, or_false] at hm
   omega
 have HAL := Lib.hid hall
 have ix0 : ∀ W : World, (Instr.index 85 (.agg #[.int .i64 b, .int .i64 i, .int .i64 ((b : Int) + (i : Int)), .int .i64 f, .int .i64 n, .int .i64 e, .int .i64 z, .int .i64 u]) (.int .i64 0)).run Try.prog W = .ok (.int .i64 b) W := fun _ => by kernel_rfl
 have ix1 : ∀ W : World, (Instr.index 85 (.agg #[.int .i64 b, .int .i64 i, .int .i64 ((b : Int) + (i : Int)), .int .i64 f, .int .i64 n, .int .i64 e, .int .i64 z, .int .i64 u]) (.int .i64 1)).run Try.prog W = .ok (.int .i64 i) W := fun _ => by kernel_rfl
 have ix2 : ∀ W : World, (Instr.index 85 (.agg #[.int .i64 b, .int .i64 i, .int .i64 ((b : Int) + (i : Int)), .int .i64 f, .int .i64 n, .int .i64 e, .int .i64 z, .int .i64 u]) (.int .i64 2)).run Try.prog W = .ok (.int .i64 ((b : Int) + (i : Int))) W := fun _ => by kernel_rfl
 have ix3 : ∀ W : World, (Instr.index 85 (.agg #[.int .i64 b, .int .i64 i, .int .i64 ((b : Int) + (i : Int)), .int .i64 f, .int .i64 n, .int .i64 e, .int .i64 z, .int .i64 u]) (.int .i64 3)).run Try.prog W = .ok (.int .i64 f) W := fun _ => by kernel_rfl
 have ix4 : ∀ W : World, (Instr.index 85 (.agg #[.int .i64 b, .int .i64 i, .int .i64 ((b : Int) + (i : Int)), .int .i64 f, .int .i64 n, .int .i64 e, .int .i64 z, .int .i64 u]) (.int .i64 4)).run Try.prog W = .ok (.int .i64 n) W := fun _ => by kernel_rfl
 have ix5 : ∀ W : World, (Instr.index 85 (.agg #[.int .i64 b, .int .i64 i, .int .i64 ((b : Int) + (i : Int)), .int .i64 f, .int .i64 n, .int .i64 e, .int .i64 z, .int .i64 u]) (.int .i64 5)).run Try.prog W = .ok (.int .i64 e) W := fun _ => by kernel_rfl
 have ix6 : ∀ W : World, (Instr.index 85 (.agg #[.int .i64 b, .int .i64 i, .int .i64 ((b : Int) + (i : Int)), .int .i64 f, .int .i64 n, .int .i64 e, .int .i64 z, .int .i64 u]) (.int .i64 6)).run Try.prog W = .ok (.int .i64 z) W := fun _ => by kernel_rfl
 have ix7 : ∀ W : World, (Instr.index 85 (.agg #[.int .i64 b, .int .i64 i, .int .i64 ((b : Int) + (i : Int)), .int .i64 f, .int .i64 n, .int .i64 e, .int .i64 z, .int .i64 u]) (.int .i64 7)).run Try.prog W = .ok (.int .i64 u) W := fun _ => by kernel_rfl
 have HIX := Lib.hid (show ∀ (j x : Nat) (W : World), nums[j]? = some x → (Instr.index 85 (.agg #[.int .i64 b, .int .i64 i, .int .i64 ((b : Int) + (i : Int)), .int .i64 f, .int .i64 n, .int .i64 e, .int .i64 z, .int .i64 u]) (.int .i64 j)).run Try.prog W = .ok (.int .i64 x) W by
   intro j x W hj
   have h8 : j < 8 := by rw [← hx8]; exact (List.getElem?_eq_some_iff.1 hj).1
   rw [← hnums] at hj
   have hj8 : j = 0 ∨ j = 1 ∨ j = 2 ∨ j = 3 ∨ j = 4 ∨ j = 5 ∨ j = 6 ∨ j = 7 := by omega
   rcases hj8 with rfl | rfl | rfl | rfl | rfl | rfl | rfl | rfl
   · cases hj; exact ix0 W
   · cases hj; exact ix1 W
   · cases hj; exact ix2 W
   · cases hj; exact ix3 W
   · cases hj; exact ix4 W
   · cases hj; exact ix5 W
   · cases hj; exact ix6 W
   · cases hj; exact ix7 W)
 clear hnums hx8 hall hu ix0 ix1 ix2 ix3 ix4 ix5 ix6 ix7
 go_enter Try.func28, Try.ntmps28
 go_upto_if 16 with fail
 go_cut [11] from 15 to 39 (fun v11 wx => v11 = .int .i64 u ∧ Below w.heap.size w wx ∧ wx.heap[w.heap.size]? = some (.cells #[.int .i64 e, .int .i64 z, .bool p] 28 (0, 0)))
 case first =>
   cases p
   · have : u = 0 := by rw [← HU.out]; rfl
     subst this
     go_wp2
     go_meet
     case rel => exact ⟨rfl, B0.out, alloc_at w _⟩
   · have : u = 1 := by rw [← HU.out]; rfl
     subst this
     go_wp2
     go_meet
     case rel => exact ⟨rfl, B0.out, alloc_at w _⟩
 case rest =>
   obtain ⟨rfl, hb1, hc1⟩ := hcut
   have B1 := Lib.hid hb1
   obtain ⟨x0, x1, x2⟩ := cfg_three hc1
   clear hb1 hc1
   go_wp2_with fail
   clear x0 x1 x2
   go_loopw [12, 14, 30] (fun tt nn kk wr => ∃ (j : Nat) (O : ByteArray), j ≤ 8 ∧ kk = .int .i64 j ∧ tt = .string O ∧ O.size ≤ 4 * j ∧ Hid (O.data.toList = foots (nums.take j)) ∧ Hid (Below w.heap.size w wr)) (fun _ _ kk _ => 8 - (intOf kk).toNat)
   case atStart => exact ⟨0, ⟨#[]⟩, by omega, rfl, rfl, by decide, rfl, B1.out⟩
   case round =>
     obtain ⟨j, O, hj, rfl, rfl, hO, HO, HB⟩ := hrel
     by_cases hlt : j < 8
     · have i1 : (j : Int) < 8 := by omega
       obtain ⟨x, hx⟩ : ∃ x, nums[j]? = some x := ⟨_, List.getElem?_eq_getElem (by rw [HX8.out]; exact hlt)⟩
       have hx2 := HAL.out j x hx
       have hix := fun W => HIX.out j x W hx
       have HFN := Lib.hid (foots_next hx)
       obtain ⟨P, hP, hPl⟩ := text_of (fixB x 4)
       have hP4 : P.size = 4 := by rw [hPl, fix_length]
       have HPP := Lib.hid (as_text hP)
       have HP := Lib.hid hP
       have HPF := Lib.hid (show putFix (x : Int) 4 = fixB x 4 by unfold putFix; simp)
       clear hx hP hPl
       go_wp2_with fail
       refine (implPutFix (x : Int) 4 _ (by omega) (by omega)).mono ?_
       rintro r w2 ⟨rfl, b2⟩
       rw [HPF.out, HPP.out]
       have B2 := Lib.hid (HB.out.trans (b2.mono HB.out.size))
       clear b2
       go_wp2
       go_roundw
       case rel => exact ⟨j + 1, O ++ P, by omega, by go_num, rfl, by rw [ByteArray.size_append]; omega, (show _ = _ by rw [HFN.out, ByteArray.data_append, Array.toList_append, HO.out, HP.out]), B2.out⟩
       case measure => simp [intOf]; omega
     · obtain rfl : j = 8 := by omega
       have HF := Lib.hid (show foots (nums.take 8) = footB b i f n ⟨e, z, p⟩ by
         rw [List.take_of_length_le (by rw [HX8.out]; omega), ← HNM.out, ← HU.out]
         unfold foots footB
         simp)
       go_wp2
       go_ret
       refine ⟨?_, HB.out⟩
       have : (O ++ ⟨#[83, 72, 69, 76, 70, 49]⟩).data.toList = footB b i f n ⟨e, z, p⟩ ++ magicB := by
         rw [ByteArray.data_append, Array.toList_append, HO.out, HF.out]
         rfl
       rw [← as_text this]
       rfl
end Go.Proofs.Ytkomnnijnggbpaa
